/- What nat.Mod answers; what nat.Decimal answers at every number: the decimal digits. -/
import Derived.Test.YtojnjfkonaeegaaDoorQDvm
import Derived.Lib.Repeat
import Derived.Test.YtojnjfkonaeegaaDoorQGroupWalk
namespace Go.Proofs.YtojnjfkonaeegaaDoorQ
open Go Go.RowKit Go.Sort

/-- The k last decimal digits, with noughts ahead. -/
def pd : Nat → Nat → List UInt8
  | 0, _ => []
  | k + 1, r => pd k (r / 10) ++ [UInt8.ofNat (48 + r % 10)]
theorem dec_step {n : Nat} (h : ¬ n < 10) : Lib.decDigits n = Lib.decDigits (n / 10) ++ [UInt8.ofNat (48 + n % 10)] := by rw [Lib.decDigits, dif_neg h]
theorem dec_pad {q : Nat} (hq : 0 < q) : ∀ (k r : Nat), r < 10 ^ k → Lib.decDigits (q * 10 ^ k + r) = Lib.decDigits q ++ pd k r
  | 0, r, hr => by
    have : r = 0 := by simpa using hr
    subst this; simp [pd]
  | k + 1, r, hr => by
    rw [Nat.pow_succ] at hr
    have hp : 0 < 10 ^ k := Nat.pow_pos (by omega)
    have hqp : 1 * 10 ^ k ≤ q * 10 ^ k := Nat.mul_le_mul_right _ hq
    have e : q * 10 ^ (k + 1) + r = 10 * (q * 10 ^ k) + r := by rw [Nat.pow_succ]; grind
    rw [e, dec_step (by omega), show (10 * (q * 10 ^ k) + r) / 10 = q * 10 ^ k + r / 10 by omega, show (10 * (q * 10 ^ k) + r) % 10 = r % 10 by omega, dec_pad hq k (r / 10) (by omega), pd, List.append_assoc]
theorem dec_le : ∀ (k u : Nat), u < 10 ^ (k + 1) → (Lib.decDigits u).length ≤ k + 1
  | 0, u, h => by rw [Lib.decDigits_one (by simpa using h)]; simp
  | k + 1, u, h => by
    by_cases h10 : u < 10
    · rw [Lib.decDigits_one h10]; simp
    · rw [dec_step h10]
      have := dec_le k (u / 10) (by rw [Nat.pow_succ] at h; omega)
      simp; omega
theorem dec_pos (u : Nat) : 0 < (Lib.decDigits u).length := by
  by_cases h10 : u < 10
  · rw [Lib.decDigits_one h10]; simp
  · rw [dec_step h10]; simp
theorem pd_rep : ∀ (k r : Nat), r < 10 ^ (k + 1) → pd (k + 1) r = List.replicate (k + 1 - (Lib.decDigits r).length) 48 ++ Lib.decDigits r
  | 0, r, h => by
    have h1 : r < 10 := by simpa using h
    rw [Lib.decDigits_one h1]; simp [pd, Nat.mod_eq_of_lt h1]
  | k + 1, r, h => by
    rw [pd, pd_rep k (r / 10) (by rw [Nat.pow_succ] at h; omega)]
    by_cases h10 : r < 10
    · rw [Nat.div_eq_of_lt h10, Lib.decDigits_one (show 0 < 10 by omega), Lib.decDigits_one h10, Nat.mod_eq_of_lt h10]
      have e : List.replicate (k + 1 + 1 - 1) (48 : UInt8) = List.replicate (k + 1 - 1) 48 ++ [48] := by
        rw [show k + 1 + 1 - 1 = k + 1 - 1 + 1 by omega, List.replicate_succ']
      simp only [List.length_cons, List.length_nil, Nat.zero_add]
      rw [e]; rfl
    · rw [dec_step h10, List.length_append]
      simp
theorem rep_one (c : Nat) : Lib.repeatL [48] c = List.replicate c 48 := by
  have := Lib.repeatL_replicate 48 1 c
  simpa using this
theorem val_pos : ∀ (l : List Nat), l ≠ [] → l.getLast? ≠ some 0 → 0 < val l
  | [], h, _ => absurd rfl h
  | [a], _, h => by simp at h; simp [val]; omega
  | a :: b :: l, _, h => by
    have := val_pos (b :: l) (by simp) (by simpa using h)
    rw [val]; omega
/-- The text of the parts from k on. -/
theorem dec_val {ps : List Nat} {k : Nat} (hk : k + 1 < ps.length) (hps : ∀ p, p ∈ ps → p < 1000000000) (hlast : ps.getLast? ≠ some 0) :
    Lib.decDigits (val (ps.drop k)) = Lib.decDigits (val (ps.drop (k + 1))) ++ (List.replicate (9 - (Lib.decDigits (ps[k]?.getD 0)).length) 48 ++ Lib.decDigits (ps[k]?.getD 0)) := by
  have hp : ps[k]?.getD 0 < 1000000000 := by rw [List.getElem?_eq_getElem (by omega)]; exact hps _ (List.getElem_mem _)
  have hpos : 0 < val (ps.drop (k + 1)) := by
    refine val_pos _ (by simp; omega) ?_
    rw [List.getLast?_drop, if_neg (by omega)]; exact hlast
  rw [val_drop ps (by omega), Nat.add_comm, Nat.mul_comm, show (1000000000 : Nat) = 10 ^ 9 from rfl, dec_pad hpos 9 _ hp, pd_rep 8 _ hp]
theorem dec_len9 {ps : List Nat} (hps : ∀ p, p ∈ ps → p < 1000000000) : ∀ (l : List Nat), (∀ p, p ∈ l → p < 1000000000) → (Lib.decDigits (val l)).length ≤ 9 * l.length + 1
  | [], _ => by rw [val, Lib.decDigits_one (by omega)]; simp
  | p :: l, h => by
    have hp := h p (by simp)
    have ih := dec_len9 hps l (fun q hq => h q (by simp [hq]))
    rw [val]
    rcases Nat.eq_zero_or_pos (val l) with h0 | h0
    · rw [h0]
      have := dec_le 8 (p + 1000000000 * 0) (by simpa using hp)
      simp at this ⊢; omega
    · rw [Nat.add_comm, Nat.mul_comm, show (1000000000 : Nat) = 10 ^ 9 from rfl, dec_pad h0 9 _ hp, pd_rep 8 _ hp]
      have := dec_le 8 p hp
      simp at *; omega

set_option maxRecDepth 100000 in
set_option maxHeartbeats 4000000 in
theorem decimal_any (base : Nat) (v : Value) (qs : List Nat) (w : World) (hown : w.ownsRow base 89 1 v qs.length (us qs)) (hsm : ∀ q, q ∈ qs → q < 1000000000) (hlast : qs.getLast? ≠ some 0) (hl : qs.length ≤ 1000000) (htab : Tab w.heap.size w) :
    Calls Tryd.prog 35 #[.agg #[v]] w fun e w' => e = .returned (.string ⟨(Lib.decDigits (val qs)).toArray⟩) ∧ Below w.heap.size w w' := by
  rcases Nat.eq_zero_or_pos qs.length with h0 | hpos
  · obtain rfl := List.length_eq_zero_iff.1 h0
    exact decimal_small 0 (by omega) base v [] w hown hsm hlast rfl htab
  · obtain ⟨a, g, cap, rfl, hr, hcap, hcm, hg⟩ := UReads.of_own hown
    obtain rfl := hr.at_ hpos
    obtain ⟨n, hn⟩ : ∃ n, qs.length = n + 1 := ⟨qs.length - 1, by omega⟩
    have hc := hr.cell n (by omega)
    have hglt := hg hpos
    have hpn : qs[n]?.getD 0 < 1000000000 := by rw [List.getElem?_eq_getElem (by omega)]; exact hsm _ (List.getElem_mem _)
    have hvn : val (qs.drop n) = qs[n]?.getD 0 := by rw [val_drop qs (by omega), List.drop_eq_nil_of_le (by omega)]; simp [val]
    obtain ⟨wa, hwa⟩ : ∃ wa, wa = (w.alloc (.cells #[.slice (some ⟨g, 0, none⟩) (n + 1) cap] 60)).alloc (.cells #[.pointer none, .slice none 0 0] 83) := ⟨_, rfl⟩
    have hba : Lib.IsBuilderF 83 5 (w.heap.size + 1) (w.heap.size + 1) (Lib.byteCells []) wa := by
      refine .inl ⟨by omega, .slice none 0 0, ?_, World.ownsRowF_nil _ _ _ _, by simp [Value.ownBlock]⟩
      rw [hwa]
      have := World.alloc_heap_new (w.alloc (.cells #[.slice (some ⟨g, 0, none⟩) (n + 1) cap] 60)) (.cells #[.pointer none, .slice none 0 0] 83)
      rw [World.size_alloc] at this; exact this
    have hBa : Below w.heap.size w wa := by rw [hwa]; exact ((Below.refl _ w).alloc (Nat.le_refl _) _).alloc (by simp) _
    have hbx : Blk wa w.heap.size 60 [.slice (some ⟨g, 0, none⟩) (n + 1) cap] := by
      rw [hwa]; exact (show Blk (w.alloc _) w.heap.size 60 _ from World.alloc_heap_new w _).alloc _
    have hza : wa.heap.size = w.heap.size + 2 := by rw [hwa]; simp
    have hta : Tab w.heap.size wa := htab.below hBa
    have hTab : ∀ W, Below w.heap.size w W → Lib.TabIs Tryd.prog W "internal/strconv.uint64pow10" .u64 Lib.pow10Tab := fun W h => (htab.below h).1
    have HTab := hide hTab
    have HN := hide hn
    have HZ := hide hza
    have hnb : (n : Int) ≤ 999999 := by omega
    have hnw : IntKind.i64.wrap ((n : Int) + 1 - 1) = (n : Int) := by rw [IntKind.wrap_i64]; omega
    rw [hn]
    clear hown hn hTab hza
    generalize hpx : qs[n]?.getD 0 = x at *
    have HPX := hide hpx
    clear hpx
    go_enter Tryd.func35, Tryd.ntmps35
    go_wp2_with fail
    rw [← hwa]
    clear hwa
    refine (formatUint_any x (by omega) _ (HTab.out _ hBa)).mono ?_
    rintro e w1 ⟨rfl, k1, os1, hw1⟩
    have hg1 : wa.grownBy w1 none := by rw [hw1]; exact gb_grow _ _ _
    have hb1 := isB_grown hba hg1
    have hB1 : Below w.heap.size w w1 := hBa.grown hg1 hBa.size (by simp)
    have hx1 := hbx.grown hg1 (by simp)
    have hz1 : w.heap.size + 2 ≤ w1.heap.size := by have := hg1.size; have := HZ.out; omega
    clear hw1 hg1 hba hBa hbx
    have hdl : (Lib.decDigits x).length ≤ 9 := dec_le 8 x hpn
    go_wp2_with fail
    refine (Tryd.Builder_WriteString_k (w.heap.size + 1) (w.heap.size + 1) _ _ _ hb1 (by
      rw [cells_len]; simp [ByteArray.size]; omega) (by omega)).mono ?_
    rintro e w2 ⟨rfl, hb2, hl2, ho2⟩
    rw [strCells_list, cells_app, List.nil_append] at hb2
    have hB2 : Below w.heap.size w w2 := hB1.trans (hl2.mono (by omega))
    have hx2 : Blk w2 w.heap.size 60 [.slice (some ⟨g, 0, none⟩) (n + 1) cap] := hx1.of_eq (hl2.block _ (by omega))
    have hz2 : w.heap.size + 2 ≤ w2.heap.size := by have := hl2.size; omega
    have hb2' : Lib.IsBuilderF 83 5 (w.heap.size + 1) (w.heap.size + 1) (Lib.byteCells (Lib.decDigits x)) w2 := .inr hb2
    clear hb2 hb1 hB1 hl2 ho2 hx1 hz1
    go_wp2
    go_loopw [5] (fun i wr => ∃ k : Nat, k ≤ n ∧ i = .int .i64 ((k : Int) - 1) ∧ Lib.IsBuilderF 83 5 (w.heap.size + 1) (w.heap.size + 1) (Lib.byteCells (Lib.decDigits (val (qs.drop k)))) wr ∧ Below w.heap.size w wr ∧
      Blk wr w.heap.size 60 [.slice (some ⟨g, 0, none⟩) (n + 1) cap] ∧ w.heap.size + 2 ≤ wr.heap.size) (fun i _ => (intOf i + 1).toNat)
    case atStart => exact ⟨n, Nat.le_refl _, rfl, by rw [hvn]; exact hb2', hB2, hx2, hz2⟩
    case round =>
      obtain ⟨k, hk, rfl, hbk, hBk, hxk, hzk⟩ := hrel
      clear hb2' hB2 hx2 hz2 hvn hdl
      rcases Nat.eq_zero_or_pos k with rfl | hkp
      · rw [List.drop_zero] at hbk
        go_wp2_with fail
        refine (Tryd.Builder_String_any_k (w.heap.size + 1) (w.heap.size + 1) (Lib.decDigits (val qs)) _ hbk (by omega)).mono ?_
        rintro e w3 ⟨rfl, _, hl3, _⟩
        go_wp2
        go_ret
        exact ⟨rfl, hBk.trans (hl3.mono (by omega))⟩
      · obtain ⟨j, rfl⟩ : ∃ j, k = j + 1 := ⟨k - 1, by omega⟩
        have hlt : j + 1 < qs.length := by have := HN.out; omega
        have hcx := (hr.of_eq (hBk.block g hglt)).cell j (by omega)
        have hdv := dec_val hlt hsm hlast
        have hln := dec_len9 hsm (qs.drop (j + 1)) (fun p hp => hsm p (List.mem_of_mem_drop hp))
        have hp1 : qs[j]?.getD 0 < 1000000000 := by rw [List.getElem?_eq_getElem (by omega)]; exact hsm _ (List.getElem_mem _)
        have hcb := hxk.cell 0
        rw [List.length_drop] at hln
        have HDV := hide hdv
        clear hdv
        generalize qs[j]?.getD 0 = p at hcx HDV hp1
        obtain ⟨T0, hT0⟩ : ∃ T, Lib.decDigits (val (qs.drop (j + 1))) = T := ⟨_, rfl⟩
        rw [hT0] at hbk hln HDV
        clear hT0
        have hdl : (Lib.decDigits p).length ≤ 9 := dec_le 8 p hp1
        have hji : ((j + 1 : Nat) : Int) - 1 = (j : Int) := by omega
        rw [hji]
        have hjn : (j : Int) < (n : Int) + 1 := by omega
        go_wp2_with fail
        refine (formatUint_any p (by omega) _ (HTab.out _ hBk)).mono ?_
        rintro e w3 ⟨rfl, k3, os3, hw3⟩
        have hg3 : wr.grownBy w3 none := by rw [hw3]; exact gb_grow _ _ _
        have hb3 := isB_grown hbk hg3
        have hB3 : Below w.heap.size w w3 := hBk.grown hg3 hBk.size (by simp)
        have hx3 := hxk.grown hg3 (by simp)
        have hz3 : w.heap.size + 2 ≤ w3.heap.size := by have := hg3.size; omega
        clear hw3 hg3 hbk hBk hxk hcb hcx hzk
        obtain ⟨dp, hdp⟩ : ∃ dp, Lib.decDigits p = dp := ⟨_, rfl⟩
        rw [hdp] at HDV hdl ⊢
        obtain ⟨c, hcc⟩ : ∃ c : Nat, 9 - dp.length = c := ⟨_, rfl⟩
        rw [hcc] at HDV
        have hci : (9 : Int) - (dp.length : Int) = (c : Int) := by omega
        have hc9 : c ≤ 9 := by omega
        go_wp2_with fail
        refine (Tryd.strings_Repeat ⟨#[48]⟩ c _ (by omega) (by simp [ByteArray.size]; omega)).mono ?_
        rintro e w4 ⟨rfl, hl4⟩
        have hb4 := isB_grown hb3 ⟨hl4.os, hl4.tape, hl4.output, hl4.size, fun b hb _ => hl4.block b hb⟩
        have hB4 : Below w.heap.size w w4 := hB3.trans (hl4.mono hB3.size)
        have hx4 : Blk w4 w.heap.size 60 [.slice (some ⟨g, 0, none⟩) (n + 1) cap] := hx3.of_eq (hl4.block _ (by omega))
        have hz4 : w.heap.size + 2 ≤ w4.heap.size := by have := hl4.size; omega
        rw [show (⟨#[48]⟩ : ByteArray).data.toList = [48] from rfl, rep_one]
        clear hb3 hB3 hx3 hz3 hl4
        go_wp2_with fail
        refine (Tryd.Builder_WriteString_k (w.heap.size + 1) (w.heap.size + 1) _ _ _ hb4 (by
          rw [cells_len]; simp [ByteArray.size]; omega) (by omega)).mono ?_
        rintro e w5 ⟨rfl, hb5, hl5, ho5⟩
        rw [strCells_list, cells_app] at hb5
        have hB5 : Below w.heap.size w w5 := hB4.trans (hl5.mono (by omega))
        have hx5 : Blk w5 w.heap.size 60 [.slice (some ⟨g, 0, none⟩) (n + 1) cap] := hx4.of_eq (hl5.block _ (by omega))
        have hz5 : w.heap.size + 2 ≤ w5.heap.size := by have := hl5.size; omega
        have hb5' : Lib.IsBuilderF 83 5 (w.heap.size + 1) (w.heap.size + 1) (Lib.byteCells (T0 ++ List.replicate c 48)) w5 := .inr hb5
        clear hb5 hb4 hB4 hl5 ho5 hx4 hz4
        go_wp2_with fail
        refine (Tryd.Builder_WriteString_k (w.heap.size + 1) (w.heap.size + 1) _ _ _ hb5' (by
          rw [cells_len]; simp [ByteArray.size]; omega) (by omega)).mono ?_
        rintro e w6 ⟨rfl, hb6, hl6, ho6⟩
        rw [strCells_list, cells_app, List.append_assoc, ← HDV.out] at hb6
        have hB6 : Below w.heap.size w w6 := hB5.trans (hl6.mono (by omega))
        have hx6 : Blk w6 w.heap.size 60 [.slice (some ⟨g, 0, none⟩) (n + 1) cap] := hx5.of_eq (hl6.block _ (by omega))
        have hz6 : w.heap.size + 2 ≤ w6.heap.size := by have := hl6.size; omega
        clear hb5' hB5 hl6 ho6 hx5 hz5
        go_wp2
        go_roundw
        case rel => exact ⟨j, by omega, by go_num, .inr hb6, hB6, hx6, hz6⟩
        case measure => simp [intOf]
end Go.Proofs.YtojnjfkonaeegaaDoorQ
