/- What beads' power answers. -/
import Derived.Test.YtojnjfkonaeegaaDoorIt
import Derived.Test.YtojnjfkonaeegaaDoorFb
import Derived.Test.YtojnjfkonaeegaaDoorQDvq
namespace Go.Proofs.YtojnjfkonaeegaaDoor
open Go Go.RowKit
open YtojnjfkonaeegaaDoorQ (UN plus_ok minus_ok divq_ok of_any timesPlus_any decimal_any Tab UN.below UN.mono UN.nil us)

theorem UN.blk {W : World} {B n k : Nat} {v : Value} (h : UN W B v n k) : ∃ a m c, v = .slice a m c := by
  obtain ⟨ps, h1, _⟩ := h
  rcases h1.2 with ⟨rfl, _⟩ | ⟨g, cap, cur, rfl, _⟩
  · exact ⟨_, _, _, rfl⟩
  · exact ⟨_, _, _, rfl⟩
/-- Over a world in which the block l, a loop, may have changed. -/
theorem UN.but {W W' : World} {B n k l : Nat} {v : Value} (h : UN W B v n k) (hb : But l W W') (hl : ∃ r, W.heap[l]? = some (.loop r)) : UN W' B v n k := by
  obtain ⟨r, hr⟩ := hl
  obtain ⟨ps, h1, h2⟩ := h
  refine ⟨ps, ⟨h1.1, ?_⟩, h2⟩
  rcases h1.2 with h3 | ⟨g, cap, cur, hv, hge, hh, rest⟩
  · exact .inl h3
  · refine .inr ⟨g, cap, cur, hv, hge, (hb.block g (Array.getElem?_eq_some_iff.1 hh).1 (fun e => ?_)).trans hh, rest⟩
    rw [e, hr] at hh; cases hh
/-- A store into a block of one value leaves a number alone that lies elsewhere. -/
theorem UN.set {W : World} {B n k b : Nat} {t : TypeId} {u v : Value} (h : UN W B v n k) (hb : Boxed W b t u) (ht : t ≠ 89) (x : Value) : UN (W.setCell ⟨b, 0, none⟩ x) B v n k := by
  obtain ⟨ps, h1, h2⟩ := h
  refine ⟨ps, ⟨h1.1, ?_⟩, h2⟩
  rcases h1.2 with h3 | ⟨g, cap, cur, hv, hge, hh, rest⟩
  · exact .inl h3
  · refine .inr ⟨g, cap, cur, hv, hge, (Below.heap_setCell _ _ _ g (fun e => ?_)).trans hh, rest⟩
    simp only at e
    rw [e, show W.heap[b]? = _ from hb] at hh
    simp at hh
    exact ht hh.2

set_option maxRecDepth 100000 in
set_option maxHeartbeats 2000000 in
theorem power_ok (k n : Nat) (w : World) (hk : k ≤ 1000) (hn : n ≤ 1000) :
    Calls Tryd.prog 67 #[.int .i64 k, .int .i64 n] w fun e w' => ∃ v, e = .returned (.agg #[v]) ∧ UN w' w.heap.size v (k ^ n) (2 + 2 * n) ∧ Below w.heap.size w w' := by
  have hB0 : Below w.heap.size w (w.alloc (.cells #[.slice none 0 0] 60)) := balloc w _
  have hkw : IntKind.u64.wrap (k : Int) = (k : Int) := by rw [IntKind.wrap_u64]; omega
  have H1 := hide (of_any 1 (w.alloc (.cells #[.slice none 0 0] 60)) (by omega))
  go_enter Tryd.func67, Tryd.ntmps67
  go_wp2_with fail
  refine H1.out.mono ?_
  rintro e w1 ⟨v1, qs, rfl, q1, q2, q3, q4, q5, q6⟩
  have hU1 : UN w1 (w.heap.size + 1) v1 1 2 := ⟨qs, by simpa using q1, q2, q3, q4, q5⟩
  have hB1 := bcat hB0 q6 (by simp)
  have hR1 : Boxed w1 w.heap.size 60 (.slice none 0 0) := Boxed.below (Boxed.new _ _ _) q6
  obtain ⟨a1, m1, c1, rfl⟩ := UN.blk hU1
  have hs1 : w.heap.size < w1.heap.size := hR1.lt
  clear q1 q2 q3 q4 q5 q6 H1 hB0
  have hX2 := Boxed.new w1 60 (.slice a1 m1 c1)
  have hU2 : UN (w1.alloc (.cells #[.slice a1 m1 c1] 60)) (w.heap.size + 1) (.slice a1 m1 c1) 1 2 := hU1.below (balloc _ _)
  have hB2 := hB1.alloc hB1.size (.cells #[.slice a1 m1 c1] 60)
  have hR2 := hR1.alloc (.cells #[.slice a1 m1 c1] 60)
  clear hU1 hB1 hR1
  go_wp2
  go_loopw [8] (fun i wr => ∃ (j : Nat) (v : Value), j ≤ n ∧ i = .int .i64 j ∧ Boxed wr w1.heap.size 60 v ∧ UN wr (w.heap.size + 1) v (k ^ j) (2 + 2 * j) ∧ Boxed wr w.heap.size 60 (.slice none 0 0) ∧ Below w.heap.size w wr) (fun i _ => n - (intOf i).toNat)
  case atStart => exact ⟨0, _, Nat.zero_le _, rfl, hX2, by simpa using hU2, hR2, hB2⟩
  case round =>
    obtain ⟨j, v, hj, rfl, hX, hU, hR, hB⟩ := hrel
    clear hX2 hU2 hR2 hB2
    obtain ⟨a, m, c, rfl⟩ := UN.blk hU
    have hc0 := hX.cell
    have hf0 := hX.frozen
    have hr0 := hR.cell
    have hrf := hR.frozen
    by_cases hlt : j < n
    · have hji : (j : Int) < (n : Int) := by omega
      obtain ⟨ps, p1, p2, p3, p4, p5⟩ := id hU
      have HT := hide (timesPlus_any _ _ ps k 0 wr p1 p2 hk (by omega) (by omega))
      have HP := hide (And.intro p4 p5)
      clear p1 p2 p3 p4 p5
      go_wp2_with fail
      refine HT.out.mono ?_
      rintro e w3 ⟨v3, qs, rfl, q1, q2, q3, q4, q5, q6⟩
      have hU3 : UN w3 (w.heap.size + 1) v3 (k ^ (j + 1)) (2 + 2 * (j + 1)) := ⟨qs, YtojnjfkonaeegaaDoorQ.owns_mono q1 (by have := hX.lt; omega), q2, q3, by rw [q4, HP.out.1, Nat.pow_succ]; omega, by have := HP.out.2; omega⟩
      have hX3 := Boxed.below hX q6
      have hR3 := Boxed.below hR q6
      have hB3 := bcat hB q6 hB.size
      obtain ⟨a3, m3, c3, rfl⟩ := UN.blk hU3
      have hU4 := UN.set hU3 hX3 (by decide) (.slice a3 m3 c3)
      have hX4 := hX3.set (.slice a3 m3 c3)
      have hR4 := hR3.other (B' := w1.heap.size) (by omega) (.slice a3 m3 c3)
      have hB4 := hB3.setCell (p := ⟨w1.heap.size, 0, none⟩) (by simp; omega) (.slice a3 m3 c3)
      have hc3 := hX3.cell
      have hf3 := hX3.frozen
      clear q1 q2 q3 q4 q5 q6 HT hc0 hf0 hr0 hrf
      go_wp2
      go_roundw
      case rel => exact ⟨j + 1, _, by omega, by go_num, hX4, hU4, hR4, hB4⟩
      case measure => simp [intOf]; omega
    · have hje : j = n := by omega
      subst hje
      have hR5 := hR.set (.slice a m c)
      have hU5 := UN.set hU hR (by decide) (.slice a m c)
      have hB5 := hB.setCell (p := ⟨w.heap.size, 0, none⟩) (by simp) (.slice a m c)
      have hc5 := hR5.cell
      have hji : ¬ (j : Int) < (j : Int) := by omega
      go_wp2
      exact bodyPost_ret (v := .agg #[.slice a m c]) (by simp [results, Tryd.results67, go_sem, hc5]) rfl ⟨_, rfl, hU5.mono (by omega) (Nat.le_refl _), hB5⟩

end Go.Proofs.YtojnjfkonaeegaaDoor
