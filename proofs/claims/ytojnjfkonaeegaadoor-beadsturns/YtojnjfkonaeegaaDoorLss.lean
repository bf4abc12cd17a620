/- What the document's Less and Later tell. -/
import Derived.Test.YtojnjfkonaeegaaDoorFrm
namespace Go.Proofs.YtojnjfkonaeegaaDoor
open Go Go.RowKit

/-- The first list is less than the second one, of as many numbers. -/
def Lss (xs ys : List Int) : Prop := ∃ j, j < xs.length ∧ (∀ t, t < j → xs[t]?.getD 0 = ys[t]?.getD 0) ∧ xs[j]?.getD 0 < ys[j]?.getD 0

set_option maxRecDepth 100000 in
set_option maxHeartbeats 2000000 in
theorem less_ok (u v : Value) (xs ys : List Int) (w : World) (hu : Sl w u xs) (hv : Sl w v ys) (hl : xs.length = ys.length) :
    Calls Tryd.prog 13 #[u, v] w fun e w' => (∃ b, e = .returned (.bool b) ∧ (b = true ↔ Lss xs ys)) ∧ ∃ m, w' = w.drewN m := by
  obtain ⟨a, cap, pb, po, rfl, hr, hp, hc1, hm1⟩ := hu
  obtain ⟨b, cap', qb, qo, rfl, hs, hq, hc2, hm2⟩ := hv
  unfold maxLen at hm1 hm2
  have HL := hide hl
  have hle1 : xs.length ≤ ys.length := by omega
  have hle2 : ys.length ≤ xs.length := by omega
  clear hl
  go_enter Tryd.func13, Tryd.ntmps13
  go_wp2
  go_loopw [5] (fun i wr => ∃ k j : Nat, k ≤ xs.length ∧ i = .int .i64 k ∧ wr = w.drewN j ∧ ∀ t, t < k → xs[t]?.getD 0 = ys[t]?.getD 0) (fun i _ => xs.length - (intOf i).toNat)
  case atStart => exact ⟨0, 0, Nat.zero_le _, rfl, rfl, fun t ht => by omega⟩
  case round =>
    obtain ⟨k, j, hk, rfl, rfl, hsame⟩ := hrel
    have HS := hide hsame
    clear hsame
    by_cases hlt : k < xs.length
    · have hx := hr.cell k hlt
      have hy := hs.cell k (by omega)
      obtain rfl := hr.at_ (by omega)
      obtain rfl := hs.at_ (by omega)
      generalize hxe : xs[k]?.getD 0 = x at hx
      generalize hye : ys[k]?.getD 0 = y at hy
      have HX := hide hxe
      have HY := hide hye
      have hki : (k : Int) < (xs.length : Int) := by omega
      have hkj : (k : Int) < (ys.length : Int) := by omega
      clear hxe hye
      by_cases hxy : x = y
      · have hb : (x != y) = false := by simp [hxy]
        have HE := hide hxy
        clear hxy
        go_wp2
        go_quiet (fail)
        go_wp2
        go_roundw
        case rel => exact ⟨k + 1, _, by omega, by go_num, rfl, fun t ht => by
          by_cases e : t = k
          · rw [e, HX.out, HY.out]; exact HE.out
          · exact HS.out t (by omega)⟩
        case measure => simp [intOf]; omega
      · have hb : (x != y) = true := by simp [hxy]
        have hd : (decide (x < y) = true) ↔ Lss xs ys := by
          rw [decide_eq_true_eq]
          constructor
          · intro h; exact ⟨k, hlt, HS.out, by rw [HX.out, HY.out]; exact h⟩
          · rintro ⟨q, q1, q2, q3⟩
            rcases Nat.lt_trichotomy q k with h | h | h
            · have := HS.out q h; omega
            · subst h; rw [HX.out, HY.out] at q3; exact q3
            · have := q2 k h; rw [HX.out, HY.out] at this; exact absurd this hxy
        have HD := hide hd
        clear hd
        go_wp2
        go_quiet (fail)
        go_wp2
        go_quiet (fail)
        go_wp2
        go_ret
        exact ⟨⟨decide (x < y), rfl, HD.out⟩, _, by rw [World.drewN_drewN, World.drewN_drewN]⟩
    · go_wp2
      go_ret
      refine ⟨⟨false, rfl, ?_⟩, _, rfl⟩
      constructor
      · intro h; cases h
      · rintro ⟨q, q1, q2, q3⟩
        have := HS.out q (by omega)
        omega

/-- The first list stands ahead of the second one, where one that goes on is greater. -/
def Ltr (xs ys : List Int) : Prop := (∃ j, j < xs.length ∧ j < ys.length ∧ (∀ t, t < j → xs[t]?.getD 0 = ys[t]?.getD 0) ∧ xs[j]?.getD 0 < ys[j]?.getD 0) ∨
  (xs.length < ys.length ∧ ∀ t, t < xs.length → xs[t]?.getD 0 = ys[t]?.getD 0)

set_option maxRecDepth 100000 in
set_option maxHeartbeats 2000000 in
theorem later_no (u v : Value) (xs ys : List Int) (w : World) (hu : Sl w u xs) (hv : Sl w v ys) (hno : ¬Ltr xs ys) :
    Calls Tryd.prog 17 #[u, v] w fun e w' => e = .returned (.bool false) ∧ ∃ m, w' = w.drewN m := by
  obtain ⟨a, cap, pb, po, rfl, hr, hp, hc1, hm1⟩ := hu
  obtain ⟨b, cap', qb, qo, rfl, hs, hq, hc2, hm2⟩ := hv
  unfold maxLen at hm1 hm2
  have HN := hide hno
  clear hno
  go_enter Tryd.func17, Tryd.ntmps17
  go_wp2
  go_loopw [5] (fun i wr => ∃ k j : Nat, k ≤ xs.length ∧ k ≤ ys.length ∧ i = .int .i64 k ∧ wr = w.drewN j ∧ ∀ t, t < k → xs[t]?.getD 0 = ys[t]?.getD 0) (fun i _ => xs.length - (intOf i).toNat)
  case atStart => exact ⟨0, 0, Nat.zero_le _, Nat.zero_le _, rfl, rfl, fun t ht => by omega⟩
  case round =>
    obtain ⟨k, j, hk, hk2, rfl, rfl, hsame⟩ := hrel
    have HS := hide hsame
    clear hsame
    by_cases hlt : k < xs.length ∧ k < ys.length
    · obtain ⟨hl1, hl2⟩ := hlt
      have hx := hr.cell k hl1
      have hy := hs.cell k hl2
      obtain rfl := hr.at_ (by omega)
      obtain rfl := hs.at_ (by omega)
      generalize hxe : xs[k]?.getD 0 = x at hx
      generalize hye : ys[k]?.getD 0 = y at hy
      have HX := hide hxe
      have HY := hide hye
      have hki : (k : Int) < (xs.length : Int) := by omega
      have hkj : (k : Int) < (ys.length : Int) := by omega
      clear hxe hye
      by_cases hxy : x = y
      · have hb : (x != y) = false := by simp [hxy]
        have HE := hide hxy
        clear hxy
        go_wp2
        go_quiet (fail)
        go_wp2
        go_roundw
        case rel => exact ⟨k + 1, _, by omega, by omega, by go_num, rfl, fun t ht => by
          by_cases e : t = k
          · rw [e, HX.out, HY.out]; exact HE.out
          · exact HS.out t (by omega)⟩
        case measure => simp [intOf]; omega
      · have hb : (x != y) = true := by simp [hxy]
        have hnl : ¬ x < y := fun h => HN.out (.inl ⟨k, hl1, hl2, HS.out, by rw [HX.out, HY.out]; exact h⟩)
        go_wp2
        go_quiet (fail)
        go_wp2
        go_quiet (fail)
        go_wp2
        go_ret
        refine ⟨?_, _, by rw [World.drewN_drewN, World.drewN_drewN]⟩
        show Ending.returned (.bool (decide (x < y))) = _
        rw [decide_eq_false (by omega)]
    · have hnl : ¬ xs.length < ys.length := fun h => HN.out (.inr ⟨h, fun t ht => HS.out t (by omega)⟩)
      have hnli : ¬ (xs.length : Int) < (ys.length : Int) := by omega
      by_cases hl1 : k < xs.length
      · have hki : (k : Int) < (xs.length : Int) := by omega
        have hkj : ¬ (k : Int) < (ys.length : Int) := by omega
        have hkn : ¬ k < ys.length := by omega
        go_wp2
        go_ret
        exact ⟨rfl, _, rfl⟩
      · have hki : ¬ (k : Int) < (xs.length : Int) := by omega
        go_wp2
        go_ret
        exact ⟨rfl, _, rfl⟩

end Go.Proofs.YtojnjfkonaeegaaDoor
