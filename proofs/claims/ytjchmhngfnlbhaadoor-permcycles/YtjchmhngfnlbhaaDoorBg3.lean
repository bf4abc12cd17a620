/- The statements' big numbers: division by one word; decimal text. -/
import Derived.Test.YtjchmhngfnlbhaaDoorBg2
import Derived.Lib.EndianBits
namespace Go.Proofs.YtjchmhngfnlbhaaDoor
open Go Go.RowKit

theorem wv_drop (ws : List Nat) {k : Nat} (hk : k < ws.length) : wv (ws.drop k) = ws[k]?.getD 0 + 4294967296 * wv (ws.drop (k + 1)) := by
  rw [List.drop_eq_getElem_cons hk, List.getElem?_eq_getElem hk]; rfl
theorem or_join (r p : Nat) (hr : r < 4294967296) (hp : p < 4294967296) : bits .or .u64 ((r : Int) * 4294967296) (p : Int) = ((r * 4294967296 + p : Nat) : Int) := by
  have h := Go.u64_or32 (p : Int) ((r : Int) * 4294967296) (by omega) (by omega) (by omega) (by omega) (by omega)
  have e : bits .or .u64 ((r : Int) * 4294967296) (p : Int) = bits .or .u64 (p : Int) ((r : Int) * 4294967296) := by unfold bits; simp only [BitVec.or_comm]
  rw [e, h]; omega
theorem div_step {d X a : Nat} (hd : 0 < d) : (X % d * 4294967296 + a) / d + 4294967296 * (X / d) = (a + 4294967296 * X) / d ∧ (X % d * 4294967296 + a) % d = (a + 4294967296 * X) % d := by
  have h := Nat.div_add_mod X d
  have e : a + 4294967296 * X = X % d * 4294967296 + a + d * (4294967296 * (X / d)) := by
    have : 4294967296 * (d * (X / d) + X % d) = 4294967296 * X := by rw [h]
    grind
  rw [e, Nat.add_mul_div_left _ _ hd, Nat.add_mul_mod_self_left]
  exact ⟨rfl, rfl⟩

set_option maxRecDepth 100000 in
set_option maxHeartbeats 4000000 in
theorem small_ok (v : Value) (ws : List Nat) (d : Nat) (w : World) (hv : WSl w v ws) (hws : ∀ p, p ∈ ws → p < 4294967296) (hd : 0 < d) (hd2 : d < 4294967296) (hl : ws.length ≤ 10000000) :
    Calls Tryd.prog 92 #[v, .int .u32 d] w fun e w' => (∃ r qs, e = .returned (.tuple #[r, .int .u32 ((wv ws % d : Nat) : Int)]) ∧ WSl w' r qs ∧ Can qs ∧ wv qs = wv ws / d ∧ qs.length ≤ ws.length) ∧ Below w.heap.size w w' := by
  obtain ⟨i0, hi, hz0, hz1, hz2⟩ := info_parts info113
  obtain ⟨a, g, cap, rfl, hcap, hcm, ha, hc, _⟩ := hv.take
  have hm : ws.length ≤ maxLen := by unfold maxLen; omega
  have hd0 : ¬ ((d : Int) = 0) := by omega
  have hd0n : ¬ d = 0 := by omega
  go_enter Tryd.func92, Tryd.ntmps92
  go_wp2_with (first
    | (at_make; refine wpList_make_full _ rfl _ _ 55 rfl w.heap.size 113 i0 (.int .u32 0) 1 under55 hi hz0 hz1 _ _ _ _ ws.length rfl rfl rfl rfl (by rw [hz2]; omega) hm (Nat.le_refl _) ?_))
  intro w1 hown hg
  have hP : Blk w1 w.heap.size 113 (wds (List.replicate ws.length 0)) := by
    have := Blk.of_owns hown
    rw [made_rep] at this
    unfold wds; rw [List.map_replicate]; exact this
  have hB1 : Below w.heap.size w w1 := (Below.refl _ w).grown hg (Nat.le_refl _) (by simp)
  clear hown hg
  go_wp2
  go_loopw [7, 8] (fun rv iv wr => ∃ (k : Nat) (Q : List Nat), k ≤ ws.length ∧ iv = .int .i64 ((k : Int) - 1) ∧ rv = .int .u64 ((wv (ws.drop k) % d : Nat) : Int) ∧ Q.length = ws.length ∧ (∀ p, p ∈ Q → p < 4294967296) ∧ wv (Q.drop k) = wv (ws.drop k) / d ∧ Blk wr w.heap.size 113 (wds Q) ∧ Below w.heap.size w wr)
    (fun _ iv _ => (intOf iv + 1).toNat)
  case atStart => exact ⟨ws.length, List.replicate ws.length 0, Nat.le_refl _, by go_num, by rw [List.drop_length]; simp [wv], by simp, by simp, by rw [List.drop_of_length_le (by simp), List.drop_length]; simp [wv], hP, hB1⟩
  case round =>
    obtain ⟨k, Q, hk, rfl, rfl, hQl, hQs, hQv, hPk, hBk⟩ := hrel
    clear hP hB1
    rcases Nat.eq_zero_or_pos k with rfl | hkp
    · rw [List.drop_zero] at hQv ⊢
      rw [List.drop_zero] at hQv
      have hrl : wv ws % d < d := Nat.mod_lt _ hd
      have hW : WSl wr (.slice (some ⟨w.heap.size, 0, none⟩) ws.length ws.length) Q := WSl.of_blk hPk hQl.symm (by omega)
      have hcan : Can (trm Q) := Can.trm hQs
      have hwt : wv (trm Q) = wv ws / d := by rw [wv_trm, hQv]
      have hlt : (trm Q).length ≤ ws.length := by have := trm_len Q; omega
      have HC := hide hcan
      have HT := hide hwt
      have HL := hide hlt
      clear hcan hwt hlt hQv hQl hQs
      obtain ⟨r, hrr⟩ : ∃ r, wv ws % d = r := ⟨_, rfl⟩
      rw [hrr] at hrl ⊢
      have HR := hide hrr
      clear hrr
      have hwr : IntKind.u32.wrap (r : Int) = (r : Int) := by rw [IntKind.wrap_u32]; omega
      go_wp2_with fail
      refine (trim_ok _ _ _ hW).mono ?_
      rintro e w2 ⟨⟨rv, rfl, hr⟩, rfl⟩
      go_wp2
      go_ret2
      exact ⟨⟨_, _, by rw [HR.out]; rfl, hr, HC.out, HT.out, HL.out⟩, hBk⟩
    · obtain ⟨j, rfl⟩ : ∃ j, k = j + 1 := ⟨k - 1, by omega⟩
      have hlt : j < ws.length := by omega
      obtain rfl := ha (by omega)
      have hgl : g < w.heap.size := World.block_lt_of_cell? w ⟨g, 0, none⟩ (hc 0 (by omega))
      have hcx : wr.cell? ⟨g, j, none⟩ = some (.int .u32 ((ws[j]?.getD 0 : Nat) : Int)) := by
        rw [← hc j hlt]; simp [World.cell?, hBk.block g hgl]
      have hp1 : ws[j]?.getD 0 < 4294967296 := by rw [List.getElem?_eq_getElem hlt]; exact hws _ (List.getElem_mem hlt)
      have hvd := wv_drop ws hlt
      have hst := div_step (X := wv (ws.drop (j + 1))) (a := ws[j]?.getD 0) hd
      rw [← hvd] at hst
      have hrl : wv (ws.drop (j + 1)) % d < d := Nat.mod_lt _ hd
      have hcj : wr.cell? ⟨w.heap.size, j, none⟩ = some (.int .u32 ((Q[j]?.getD 0 : Nat) : Int)) := by
        rw [hPk.cell j]; unfold wds; rw [List.getElem?_map, List.getElem?_eq_getElem (by omega)]; rfl
      have hfj := hPk.frozen j
      have hQd := wv_drop Q (k := j) (by omega)
      generalize Q[j]?.getD 0 = old at hcj
      obtain ⟨r, hr⟩ : ∃ r, wv (ws.drop (j + 1)) % d = r := ⟨_, rfl⟩
      rw [hr] at hst hrl
      rw [hr]
      generalize ws[j]?.getD 0 = p at *
      obtain ⟨hst1, hst2⟩ := hst
      have HST1 := hide hst1
      have HST2 := hide hst2
      have HQV := hide hQv
      have HQL := hide hQl
      clear hvd hst1 hst2 hr hQd hQv hQl
      have hji : ((j + 1 : Nat) : Int) - 1 = (j : Int) := by omega
      rw [hji]
      have hri : (r : Int) < 4294967296 := by omega
      have hpi : (p : Int) < 4294967296 := by omega
      have hor := or_join r p (by omega) hp1
      obtain ⟨t, ht⟩ : ∃ t, r * 4294967296 + p = t := ⟨_, rfl⟩
      rw [ht] at hor HST1 HST2
      have htl : t < d * 4294967296 := by
        have : (r + 1) * 4294967296 ≤ d * 4294967296 := Nat.mul_le_mul_right _ hrl
        omega
      have hq : t / d < 4294967296 := Nat.div_lt_of_lt_mul htl
      have hqd : (t : Int).tdiv (d : Int) = ((t / d : Nat) : Int) := by rw [Int.tdiv_eq_ediv_of_nonneg (by omega)]; rfl
      have hqm : (t : Int).tmod (d : Int) = ((t % d : Nat) : Int) := by rw [Int.tmod_eq_emod_of_nonneg (by omega)]; rfl
      have hml : t % d < d := Nat.mod_lt _ hd
      obtain ⟨q, hqq⟩ : ∃ q, t / d = q := ⟨_, rfl⟩
      rw [hqq] at hq hqd HST1
      obtain ⟨m, hmm⟩ : ∃ m, t % d = m := ⟨_, rfl⟩
      rw [hmm] at hqm hml HST2
      have hw1 : IntKind.u64.wrap (q : Int) = (q : Int) := by rw [IntKind.wrap_u64]; omega
      have hw2 : (q : Int) % 4294967296 = (q : Int) := by omega
      clear hqq hmm ht htl
      go_wp2
      refine ⟨⟨j, Q.set j q, by omega, rfl, by rw [HST2.out], by rw [List.length_set]; exact HQL.out, fun z hz => ?_, ?_, ?_, ?_⟩, by simp [intOf]⟩
      · rcases List.mem_or_eq_of_mem_set hz with h | h
        · exact hQs z h
        · omega
      · have hjq : j < (Q.set j q).length := by rw [List.length_set, HQL.out]; exact hlt
        rw [wv_drop _ hjq, List.getElem?_set_self (by rw [HQL.out]; exact hlt), List.drop_set_of_lt (by omega)]
        simp only [Option.getD_some]
        rw [HQV.out]; exact HST1.out
      · have := hPk.set j (.int .u32 (q : Int))
        unfold wds at this ⊢
        rwa [List.map_set]
      · exact hBk.setCell (by simp) _
end Go.Proofs.YtjchmhngfnlbhaaDoor
