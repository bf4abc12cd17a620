/- What the document's RankOf answers at a permutation of at most 100 points; what perm.Rank answers there. Condition: the library's table of powers of ten as the program lays it. -/
import Derived.Test.YtjchmhngfnlbhaaDoorRkf
namespace Go.Proofs.YtjchmhngfnlbhaaDoor
open Go Go.RowKit

theorem val_ge : ∀ {qs : List Nat}, qs ≠ [] → qs.getLast? ≠ some 0 → 1000000000 ^ (qs.length - 1) ≤ val qs
  | [], h, _ => absurd rfl h
  | [p], _, h => by
    have : p ≠ 0 := fun e => h (by rw [e]; rfl)
    simp [val]; omega
  | p :: q :: r, _, h => by
    have ih := val_ge (qs := q :: r) (by simp) (by simpa using h)
    rw [val]
    simp only [List.length_cons, Nat.add_sub_cancel] at ih ⊢
    rw [Nat.pow_succ, Nat.mul_comm]
    have := Nat.mul_le_mul_left 1000000000 ih
    omega
theorem rk_lt {zs : List Int} (h : zs.length ≤ 100) : ∀ k, rk zs k < 101 ^ k
  | 0 => by simp [rk]
  | k + 1 => by
    have ih := rk_lt h k
    have h1 := lb_le zs k
    have h2 : rk zs k * (zs.length - k) ≤ rk zs k * 100 := Nat.mul_le_mul_left _ (by omega)
    rw [rk, Nat.pow_succ]
    omega
theorem rk_dec {zs : List Int} (h : zs.length ≤ 100) : DecSpec (rk zs zs.length) := fun base v qs w h1 h2 h3 h4 h5 => by
  have hlen : qs.length ≤ 1000000 := by
    rcases Nat.lt_or_ge 1000000 qs.length with hl | hl
    · have a1 := val_ge (List.length_pos_iff.1 (show 0 < qs.length by omega)) h3
      have a2 := rk_lt h zs.length
      have a3 : 101 ^ zs.length ≤ 1000000000 ^ zs.length := Nat.pow_le_pow_left (by omega) _
      have a4 : 1000000000 ^ zs.length ≤ 1000000000 ^ (qs.length - 1) := Nat.pow_le_pow_right (by omega) (by omega)
      rw [h4] at a1
      exact absurd (Nat.lt_of_lt_of_le a2 (Nat.le_trans a3 (Nat.le_trans a4 a1))) (Nat.lt_irrefl _)
    · exact hl
  have := decimal_any base v qs w h1 h2 h3 hlen h5
  rw [h4] at this
  exact this
theorem rank_l (u : Value) (zs : List Int) (w : World) (hu : Sl w u zs) (hperm : IsPerm zs) (h100 : zs.length ≤ 100) (htab : Tab w.heap.size w) :
    Calls Tryd.prog 29 #[u] w fun e w' => e = .returned (.tuple #[.string ⟨(Lib.decDigits (rk zs zs.length)).toArray⟩, .agg #[.int .i64 0, .int .i64 0]]) ∧ Below w.heap.size w w' := by
  obtain ⟨a, cap, pb, po, rfl, hr, hp, hc1, hc2⟩ := hu
  exact rank_ok a cap pb po zs w hr hp (fault_of_perm hperm (by omega)) h100 hc1 hc2 htab (rk_dec h100)

set_option maxRecDepth 100000 in
set_option maxHeartbeats 8000000 in
theorem rankOf_ok (u : Value) (zs : List Int) (w : World) (hu : Sl w u zs) (hperm : IsPerm zs) (h100 : zs.length ≤ 100) :
    Calls Tryd.prog 31 #[u] w fun e w' => (∃ b m, e = .returned (.pointer (some ⟨b, 0, none⟩)) ∧ BigZ w' b ((rk zs zs.length : Nat) : Int) m ∧ m ≤ 1000) ∧ Below w.heap.size w w' := by
  rw [rk_end]
  obtain ⟨a, cap, pb, po, rfl, hrd, hpb, hcap, hcm⟩ := hu
  have HP := hide hperm
  obtain ⟨n, hn⟩ : ∃ n, zs.length = n := ⟨_, rfl⟩
  have HN := hide hn
  have hat := hrd.at_
  rw [hn] at h100 hat hcap ⊢
  have hnl : (n : Int) ≤ 100 := by omega
  clear hn hperm
  go_enter Tryd.func31, Tryd.ntmps31
  go_wp2_with fail
  refine (big_ok 0 w (by omega) (by omega)).mono ?_
  rintro e w1 ⟨⟨bn, rfl, hbn, hone⟩, hb1⟩
  go_wp2
  go_loopw [4] (fun iv wr => ∃ i m : Nat, i ≤ n ∧ iv = .int .i64 i ∧ BigZ wr bn ((rof zs i : Nat) : Int) m ∧ m ≤ 300 + i ∧ Below w.heap.size w wr) (fun iv _ => n - (intOf iv).toNat)
  case atStart => exact ⟨0, 2, Nat.zero_le _, rfl, hone, by omega, hb1⟩
  case round =>
    obtain ⟨i, m, hi, rfl, hz, hm, hB⟩ := hrel
    obtain ⟨wo, rfl⟩ : ∃ wo, wo = wr := ⟨_, rfl⟩
    clear hone hb1
    by_cases hlt : i < n
    · obtain rfl := hat (by omega)
      have hrw := hrd.below hB hpb
      have hpbo : pb < wo.heap.size := by have := hB.size; omega
      have hci := hrw.cell i (by rw [HN.out]; exact hlt)
      have hvl := nx_lt HP.out (show i < zs.length by rw [HN.out]; exact hlt)
      have hlb := lessTo_lb HP.out (show i < zs.length by rw [HN.out]; exact hlt)
      have hro : rof zs (i + 1) = rof zs i + lb zs i * fac (n - 1 - i) := by rw [rof, HN.out]
      rw [hvl.2] at hci
      have hvn := hvl.1
      rw [HN.out] at hvn
      obtain ⟨v, hv⟩ : ∃ v, nx zs i = v := ⟨_, rfl⟩
      rw [hv] at hci hlb hvn
      have HLB := hide hlb
      have HRO := hide hro
      have HLT := hide hlt
      have hlti : (i : Int) < (n : Int) := by omega
      have htake : ∀ W, Below wo.heap.size wo W → Reads W (some ⟨pb, po, none⟩) pb po (zs.take i) := fun W h => ⟨fun _ => rfl, fun j hj => by
        have hj2 : j < i := by simp at hj; omega
        have := (hrw.below h hpbo).cell j (by rw [HN.out]; omega)
        rw [this]
        simp [hj2]⟩
      have HTK := hide htake
      have htl : (zs.take i).length = i := by rw [List.length_take, HN.out]; omega
      have HTL := hide htl
      have hicap : (i : Int) ≤ (cap : Int) := by omega
      clear hlb hro hvl hv htake htl hlt
      go_wp2
      go_loopw [5, 6] (fun lv xv wi => ∃ x : Nat, x ≤ v ∧ xv = .int .i64 x ∧ lv = .int .i64 ((lessTo zs i x : Nat) : Int) ∧ Below wo.heap.size wo wi) (fun _ xv _ => v - (intOf xv).toNat)
      case atStart => exact ⟨0, Nat.zero_le _, rfl, rfl, Below.refl _ _⟩
      case round =>
        obtain ⟨x, hx, rfl, rfl, hBi⟩ := hrel
        have hci2 := below_cell hBi hci
        by_cases hxv : x < v
        · have hxvi : (x : Int) < (v : Int) := by omega
          have hhas := has_any (some ⟨pb, po, none⟩) cap pb po i (zs.take i) (x : Int) wr HTL.out.symm (HTK.out _ hBi) (by rw [HTL.out]; unfold maxLen; omega)
          have hll := lessTo_le zs i x
          have hht := lessTo_hit (zs := zs) (i := i) (x := x)
          have hms := lessTo_miss (zs := zs) (i := i) (x := x)
          obtain ⟨l, hl⟩ : ∃ l, lessTo zs i x = l := ⟨_, rfl⟩
          rw [hl] at hll hht hms ⊢
          have hlli : (l : Int) ≤ 100 := by omega
          by_cases hmem : (x : Int) ∈ zs.take i
          · rw [decide_eq_true hmem] at hhas
            have hms2 := hms hmem
            have HH := hide hhas
            have HM := hide hms2
            have HXV := hide hxv
            clear hhas hht hms hl hmem hms2
            go_wp2_with fail
            refine HH.out.mono ?_
            rintro e w9 ⟨rfl, rfl⟩
            go_wp2
            go_roundw
            case rel => exact ⟨x + 1, by have := HXV.out; omega, by go_num, by rw [HM.out], hBi⟩
            case measure => have := HXV.out; simp [intOf]; omega
          · rw [decide_eq_false hmem] at hhas
            have hms2 := hht hmem
            have HH := hide hhas
            have HM := hide hms2
            have HXV := hide hxv
            clear hhas hht hms hl hmem hms2
            go_wp2_with fail
            refine HH.out.mono ?_
            rintro e w9 ⟨rfl, rfl⟩
            go_wp2
            go_roundw
            case rel => exact ⟨x + 1, by have := HXV.out; omega, by go_num, by rw [HM.out]; go_num, hBi⟩
            case measure => have := HXV.out; simp [intOf]; omega
        · have hxx : x = v := by omega
          subst hxx
          rw [HLB.out]
          obtain ⟨wx, rfl⟩ : ∃ wx, wx = wr := ⟨_, rfl⟩
          have hlb1 := lb_le zs i
          rw [HN.out] at hlb1
          obtain ⟨L, hL⟩ : ∃ L, lb zs i = L := ⟨_, rfl⟩
          rw [hL] at hlb1 HRO ⊢
          clear hL
          go_wp2_with fail
          refine (big_ok (L : Int) wx (by omega) (by omega)).mono ?_
          rintro e w5 ⟨⟨bf, rfl, hbf, hf5⟩, hb5⟩
          obtain ⟨ni, hni⟩ : ∃ ni, n - i = ni := ⟨_, rfl⟩
          have hnii : (n : Int) - (i : Int) = (ni : Int) := by have := HLT.out; omega
          have hnw : IntKind.i64.wrap ((n : Int) - (i : Int)) = (ni : Int) := by rw [IntKind.wrap_i64]; omega
          have hnil : ni ≤ 100 := by omega
          have HNI := hide hni
          have hzx := hz.below hBi
          clear hni
          go_wp2
          go_loopw [8] (fun kv wj => ∃ k mf : Nat, 2 ≤ k ∧ k ≤ max 2 ni ∧ kv = .int .i64 k ∧ BigZ wj bf ((L * fac (k - 1) : Nat) : Int) mf ∧ mf ≤ 2 * k ∧ Below wx.heap.size wx wj) (fun kv _ => ni - (intOf kv).toNat)
          case atStart => exact ⟨2, 2, by omega, by omega, rfl, by simpa [fac] using hf5, by omega, hb5⟩
          case round =>
            obtain ⟨k, mf, hk1, hk2, rfl, hf, hmf, hBj⟩ := hrel
            clear hf5 hb5
            by_cases hkl : k < ni
            · have hkli : (k : Int) < (ni : Int) := by omega
              have hfl := hf.lt
              have HKL := hide hkl
              go_wp2_with fail
              refine (big_ok (k : Int) wr (by omega) (by omega)).mono ?_
              rintro e w6 ⟨⟨kb, rfl, hkb, hk6⟩, hb6⟩
              have hf6 := hf.below hb6
              obtain ⟨v9, ws9, hB9, _⟩ := hf6.ex
              have HMU := hide (zmul_ok bf bf kb mf 2 _ _ _ _ w6 hB9 hf6 hk6 (by omega) (by omega))
              have hB6 := bcat hBj hb6 hBj.size
              have hs6 := hB6.size
              clear hB9 hf6 hk6 hf
              go_wp2_with fail
              refine HMU.out.mono ?_
              rintro e w7 ⟨rfl, hf7, hg7⟩
              have hB7 := hB6.grown hg7 (by omega) (fun j e => by cases e; exact hbf)
              have hfe : ((L * fac (k - 1) : Nat) : Int) * (k : Int) = ((L * fac (k + 1 - 1) : Nat) : Int) := by
                obtain ⟨q, rfl⟩ : ∃ q, k = q + 1 := ⟨k - 1, by omega⟩
                rw [← Int.natCast_mul]
                simp only [Nat.add_sub_cancel, fac]
                rw [Nat.mul_assoc, Nat.mul_comm (fac q)]
              rw [hfe] at hf7
              go_wp2
              go_roundw
              case rel => exact ⟨k + 1, mf + 2, by omega, by have := HKL.out; omega, by go_num, hf7, by omega, hB7⟩
              case measure => have := HKL.out; simp [intOf]; omega
            · have hkli : ¬ (k : Int) < (ni : Int) := by omega
              have hfk : fac (k - 1) = fac (n - 1 - i) := by
                have h1 := HNI.out
                have h2 := HLT.out
                rcases Nat.lt_or_ge ni 2 with h | h
                · obtain rfl : k = 2 := by omega
                  obtain e : n - 1 - i = 0 := by omega
                  rw [e]; rfl
                · obtain rfl : k = ni := by omega
                  rw [show n - 1 - i = k - 1 by omega]
              rw [hfk] at hf
              have hz9 := hzx.below hBj
              obtain ⟨v9, ws9, hB9, _⟩ := hz9.ex
              have hbnl := hzx.lt
              have HAD := hide (zadd_ok bn bn bf m mf _ _ _ _ wr hB9 hz9 hf (by omega) (by omega))
              have hBf := bcat2 (bcat hB hBi hB.size) hBj
              have hBfs := hBf.size
              clear hz9 hB9 hf
              go_wp2_with fail
              refine HAD.out.mono ?_
              rintro e w8 ⟨rfl, hz8, hg8⟩
              have hB8 := hBf.grown hg8 (by omega) (fun j e => by cases e; exact hbn)
              rw [← Int.natCast_add, ← HRO.out] at hz8
              go_wp2
              go_roundw
              case rel => exact ⟨i + 1, _, by have := HLT.out; omega, by go_num, hz8, by omega, hB8⟩
              case measure => have := HLT.out; simp [intOf]; omega
    · have hii : i = n := by omega
      subst hii
      go_wp2
      go_ret
      exact ⟨⟨_, _, rfl, hz, by omega⟩, hB⟩
end Go.Proofs.YtjchmhngfnlbhaaDoor
