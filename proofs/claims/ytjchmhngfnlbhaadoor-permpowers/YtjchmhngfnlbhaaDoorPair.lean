/- What TwoFault and checkPair tell of two lists, and what Stays, Mul and Inv answer at permutations of at most 1000 points. -/
import Derived.Test.YtjchmhngfnlbhaaDoorRef
namespace Go.Proofs.YtjchmhngfnlbhaaDoor
open Go Go.RowKit

/-- What is told of two lists that are to go together. -/
def twof (xs ys : List Int) : Int × Int := if (fault xs).1 ≠ 0 then fault xs else if (fault ys).1 ≠ 0 then fault ys else if xs.length ≠ ys.length then (8, 0) else (0, 0)

theorem blk0 {w : World} {T : TypeId} (x y : Value) : Blk (w.alloc (.cells #[x, y] T)) w.heap.size T [x, y] := World.alloc_heap_new w _

set_option maxRecDepth 100000 in
set_option maxHeartbeats 2000000 in
theorem twoFault_any (u v : Value) (xs ys : List Int) (w : World) (hu : Sl w u xs) (hv : Sl w v ys) :
    Calls Tryd.prog 26 #[u, v] w fun e w' => e = .returned (.agg #[.int .i64 (twof xs ys).1, .int .i64 (twof xs ys).2]) ∧ Below w.heap.size w w' := by
  have hB0 : Below w.heap.size w (w.alloc (.cells #[.int .i64 0, .int .i64 0] 26)) := (Below.refl _ w).alloc (Nat.le_refl _) _
  have hu0 := hu.below hB0
  have hv0 := hv.below hB0
  have hR0 := blk0 (w := w) (T := 26) (.int .i64 0) (.int .i64 0)
  obtain ⟨a, cap, _, _, rfl, _, _, _, _⟩ := id hu
  obtain ⟨b, cap', _, _, rfl, _, _, _, _⟩ := id hv
  obtain ⟨_, _, _, _, hq1, _, _, hq3, hq4⟩ := id hu
  obtain ⟨_, _, _, _, hq5, _, _, hq7, hq8⟩ := id hv
  cases hq1
  cases hq5
  unfold maxLen at hq4 hq8
  have hul := hu.below hB0
  go_enter Tryd.func26, Tryd.ntmps26
  go_wp2_with fail
  refine (permFault_any _ xs _ hu0).mono ?_
  rintro e w1 ⟨rfl, hl1⟩
  have hv1 := hv0.below hl1
  have hB1 := bcat hB0 hl1 (by simp)
  have hR1 : Blk w1 w.heap.size 26 [.int .i64 0, .int .i64 0] := hR0.of_eq (hl1.block _ (by simp))
  have hs1 : w.heap.size < w1.heap.size := hR1.lt
  clear hl1 hul hu0 hv0 hR0 hB0
  have hc0 : w1.cell? ⟨w.heap.size, 0, none⟩ = some (.int .i64 0) := hR1.cell 0
  have hc1 : w1.cell? ⟨w.heap.size, 1, none⟩ = some (.int .i64 0) := hR1.cell 1
  have hf0 := hR1.frozen 0
  have hf1 := hR1.frozen 1
  by_cases h1 : (fault xs).1 = 0
  · have e1 := fault_zero h1
    rw [e1]
    go_wp2_with fail
    have hB2 : Below w1.heap.size w1 (w1.alloc (.cells #[.int .i64 0, .int .i64 0] 26)) := (Below.refl _ w1).alloc (Nat.le_refl _) _
    refine (permFault_any _ ys _ (hv1.below hB2)).mono ?_
    rintro e w2 ⟨rfl, hl2⟩
    have hB3 := bcat (bcat hB1 hB2 hB1.size) hl2 (by simp; omega)
    have hR2 : Blk w2 w.heap.size 26 [.int .i64 0, .int .i64 0] := (hR1.alloc _).of_eq (hl2.block _ (by simp; omega))
    have hS2 : Blk w2 w1.heap.size 26 [.int .i64 0, .int .i64 0] := (blk0 (w := w1) (T := 26) (.int .i64 0) (.int .i64 0)).of_eq (hl2.block _ (by simp))
    have hd0 : w2.cell? ⟨w.heap.size, 0, none⟩ = some (.int .i64 0) := hR2.cell 0
    have hd1 : w2.cell? ⟨w.heap.size, 1, none⟩ = some (.int .i64 0) := hR2.cell 1
    have hg0 := hR2.frozen 0
    have hg1 := hR2.frozen 1
    have hh0 : w2.cell? ⟨w1.heap.size, 0, none⟩ = some (.int .i64 0) := hS2.cell 0
    have hh1 : w2.cell? ⟨w1.heap.size, 1, none⟩ = some (.int .i64 0) := hS2.cell 1
    have hk0 := hS2.frozen 0
    have hk1 := hS2.frozen 1
    have hlt2 := hS2.lt
    have hne : ¬ w1.heap.size = w.heap.size := by omega
    have hne' : ¬ w.heap.size = w1.heap.size := by omega
    have hfs : ∀ (p q : Int) (W : World), Blk W w1.heap.size 26 [.int .i64 p, .int .i64 q] → Below w.heap.size w W → True := fun _ _ _ _ _ => trivial
    clear hl2 hB2 hc0 hc1 hf0 hf1 hfs
    by_cases h2 : (fault ys).1 = 0
    · have e2 := fault_zero h2
      rw [e2]
      by_cases h3 : xs.length = ys.length
      · have ef : twof xs ys = (0, 0) := by unfold twof; rw [if_neg (by simp [h1]), if_neg (by simp [h2]), if_neg (by simp [h3])]
        have EF := hide ef
        have hbe : ((xs.length : Int) != (ys.length : Int)) = false := by simp [h3]
        clear ef h3 h2 h1 e1 e2
        go_wp2
        refine bodyPost_ret (v := .agg #[.int .i64 0, .int .i64 0]) (by simp [results, Tryd.results26, go_sem, hd0, hd1]) rfl ⟨by rw [EF.out], ?_⟩
        exact ((((hB3.setCell (p := ⟨w1.heap.size, 0, none⟩) (by simp; omega) _).setCell (p := ⟨w1.heap.size, 1, none⟩) (by simp; omega) _).setCell (p := ⟨w.heap.size, 0, none⟩) (by simp) _).setCell (p := ⟨w.heap.size, 1, none⟩) (by simp) _)
      · have ef : twof xs ys = (8, 0) := by unfold twof; rw [if_neg (by simp [h1]), if_neg (by simp [h2]), if_pos h3]
        have EF := hide ef
        have hbe : ((xs.length : Int) != (ys.length : Int)) = true := by simp; omega
        clear ef h3 h2 h1 e1 e2
        go_wp2_with fail
        obtain ⟨w3, hw3⟩ : ∃ w3, w3 = (w2.setCell ⟨w1.heap.size, 0, none⟩ (.int .i64 0)).setCell ⟨w1.heap.size, 1, none⟩ (.int .i64 0) := ⟨_, rfl⟩
        have hB4 : Below w.heap.size w w3 := by rw [hw3]; exact (hB3.setCell (p := ⟨w1.heap.size, 0, none⟩) (by simp; omega) _).setCell (p := ⟨w1.heap.size, 1, none⟩) (by simp; omega) _
        have hR3 : Blk w3 w.heap.size 26 [.int .i64 0, .int .i64 0] := by rw [hw3]; exact (hR2.other (by simp; omega) _).other (by simp; omega) _
        have hS3 : Blk w3 w1.heap.size 26 [.int .i64 0, .int .i64 0] := by rw [hw3]; exact (hS2.set 0 _).set 1 _
        rw [← hw3]
        refine (f_any 8 0 w3).mono ?_
        rintro e w4 ⟨rfl, hl4⟩
        have hR4 : Blk w4 w.heap.size 26 [.int .i64 0, .int .i64 0] := hR3.of_eq (hl4.block _ hR3.lt)
        have hS4 : Blk w4 w1.heap.size 26 [.int .i64 0, .int .i64 0] := hS3.of_eq (hl4.block _ hS3.lt)
        have hB5 := bcat hB4 hl4 hB4.size
        have hm0 : w4.cell? ⟨w.heap.size, 0, none⟩ = some (.int .i64 0) := hR4.cell 0
        have hm1 : w4.cell? ⟨w.heap.size, 1, none⟩ = some (.int .i64 0) := hR4.cell 1
        have hn0 := hR4.frozen 0
        have hn1 := hR4.frozen 1
        have ho0 : w4.cell? ⟨w1.heap.size, 0, none⟩ = some (.int .i64 0) := hS4.cell 0
        have ho1 : w4.cell? ⟨w1.heap.size, 1, none⟩ = some (.int .i64 0) := hS4.cell 1
        have hp0 := hS4.frozen 0
        have hp1 := hS4.frozen 1
        clear hw3
        go_wp2
        refine bodyPost_ret (v := .agg #[.int .i64 8, .int .i64 0]) (by simp [results, Tryd.results26, go_sem, hm0, hm1]) rfl ⟨by rw [EF.out], ?_⟩
        exact ((((hB5.setCell (p := ⟨w1.heap.size, 0, none⟩) (by simp; omega) _).setCell (p := ⟨w1.heap.size, 1, none⟩) (by simp; omega) _).setCell (p := ⟨w.heap.size, 0, none⟩) (by simp) _).setCell (p := ⟨w.heap.size, 1, none⟩) (by simp) _)
    · have ef : twof xs ys = fault ys := by unfold twof; rw [if_neg (by simp [h1]), if_pos h2]
      obtain ⟨c, i, hci⟩ : ∃ c i, fault ys = (c, i) := ⟨_, _, rfl⟩
      rw [hci] at ef h2 ⊢
      have EF := hide ef
      have hbe : (c == 0) = false := by simpa using h2
      clear ef h2 h1 e1 hci
      go_wp2
      refine bodyPost_ret (v := .agg #[.int .i64 c, .int .i64 i]) (by simp [results, Tryd.results26, go_sem, hd0, hd1]) rfl ⟨by rw [EF.out], ?_⟩
      exact ((((hB3.setCell (p := ⟨w1.heap.size, 0, none⟩) (by simp; omega) _).setCell (p := ⟨w1.heap.size, 1, none⟩) (by simp; omega) _).setCell (p := ⟨w.heap.size, 0, none⟩) (by simp) _).setCell (p := ⟨w.heap.size, 1, none⟩) (by simp) _)
  · have ef : twof xs ys = fault xs := by unfold twof; rw [if_pos h1]
    obtain ⟨c, i, hci⟩ : ∃ c i, fault xs = (c, i) := ⟨_, _, rfl⟩
    rw [hci] at ef h1 ⊢
    have EF := hide ef
    have hbe : (c == 0) = false := by simpa using h1
    clear ef h1 hci
    go_wp2
    have hW : Blk (((w1.setCell ⟨w.heap.size, 0, none⟩ (.int .i64 c)).setCell ⟨w.heap.size, 1, none⟩ (.int .i64 i)).alloc (.cells #[.int .i64 c, .int .i64 i] 26)) w.heap.size 26 [.int .i64 c, .int .i64 i] := ((hR1.set 0 _).set 1 _).alloc _
    have hBW : Below w.heap.size w (((w1.setCell ⟨w.heap.size, 0, none⟩ (.int .i64 c)).setCell ⟨w.heap.size, 1, none⟩ (.int .i64 i)).alloc (.cells #[.int .i64 c, .int .i64 i] 26)) := ((hB1.setCell (p := ⟨w.heap.size, 0, none⟩) (by simp) _).setCell (p := ⟨w.heap.size, 1, none⟩) (by simp) _).alloc (by simp; omega) _
    generalize ((w1.setCell ⟨w.heap.size, 0, none⟩ (.int .i64 c)).setCell ⟨w.heap.size, 1, none⟩ (.int .i64 i)).alloc (.cells #[.int .i64 c, .int .i64 i] 26) = W at hW hBW ⊢
    have h0 : W.cell? ⟨w.heap.size, 0, none⟩ = some (.int .i64 c) := hW.cell 0
    have h1 : W.cell? ⟨w.heap.size, 1, none⟩ = some (.int .i64 i) := hW.cell 1
    exact bodyPost_ret (v := .agg #[.int .i64 c, .int .i64 i]) (by simp [results, Tryd.results26, go_sem, h0, h1]) rfl ⟨by rw [EF.out], hBW⟩
theorem check_sl (v : Value) (zs : List Int) (w : World) (hv : Sl w v zs) :
    Calls Tryd.prog 40 #[v] w fun e w' => e = .returned (.agg #[.int .i64 (fault zs).1, .int .i64 (fault zs).2]) ∧ Below w.heap.size w w' := by
  obtain ⟨a, cap, pb, po, rfl, hr, hp, h1, h2⟩ := hv
  exact check_any a cap pb po zs w hr hp (Nat.le_trans h1 h2)

/-- The end of a function whose result is a fault that lies in a block. -/
theorem Blk.two {W : World} {B : Nat} {T : TypeId} {x y : Value} (h : Blk W B T [x, y]) : W.cell? ⟨B, 0, none⟩ = some x ∧ W.cell? ⟨B, 1, none⟩ = some y ∧ W.frozen? ⟨B, 0, none⟩ = false ∧ W.frozen? ⟨B, 1, none⟩ = false :=
  ⟨h.cell 0, h.cell 1, h.frozen 0, h.frozen 1⟩

set_option maxRecDepth 100000 in
set_option maxHeartbeats 2000000 in
theorem checkPair_any (u v : Value) (xs ys : List Int) (w : World) (hu : Sl w u xs) (hv : Sl w v ys) :
    Calls Tryd.prog 59 #[u, v] w fun e w' => e = .returned (.agg #[.int .i64 (twof xs ys).1, .int .i64 (twof xs ys).2]) ∧ Below w.heap.size w w' := by
  have hB0 : Below w.heap.size w (w.alloc (.cells #[.int .i64 0, .int .i64 0] 26)) := (Below.refl _ w).alloc (Nat.le_refl _) _
  have hu0 := hu.below hB0
  have hv0 := hv.below hB0
  have hR0 := blk0 (w := w) (T := 26) (.int .i64 0) (.int .i64 0)
  obtain ⟨a, cap, pb1, po1, rfl, hq2, hq22, hq3, hq4⟩ := hu
  obtain ⟨b, cap', pb2, po2, rfl, hq6, hq66, hq7, hq8⟩ := hv
  clear hq2 hq6
  unfold maxLen at hq4 hq8
  go_enter Tryd.func59, Tryd.ntmps59
  go_wp2_with fail
  refine (check_sl _ xs _ hu0).mono ?_
  rintro e w1 ⟨rfl, hl1⟩
  have hv1 := hv0.below hl1
  have hB1 := bcat hB0 hl1 (by simp)
  have hR1 : Blk w1 w.heap.size 26 [.int .i64 0, .int .i64 0] := hR0.of_eq (hl1.block _ (by simp))
  have hs1 : w.heap.size < w1.heap.size := hR1.lt
  clear hl1 hu0 hv0 hR0 hB0
  obtain ⟨hc0, hc1, hf0, hf1⟩ := hR1.two
  by_cases h1 : (fault xs).1 = 0
  · have e1 := fault_zero h1
    rw [e1]
    go_wp2_with fail
    have hB2 : Below w1.heap.size w1 (w1.alloc (.cells #[.int .i64 0, .int .i64 0] 26)) := (Below.refl _ w1).alloc (Nat.le_refl _) _
    refine (check_sl _ ys _ (hv1.below hB2)).mono ?_
    rintro e w2 ⟨rfl, hl2⟩
    have hB3 := bcat (bcat hB1 hB2 hB1.size) hl2 (by simp; omega)
    have hR2 : Blk w2 w.heap.size 26 [.int .i64 0, .int .i64 0] := (hR1.alloc _).of_eq (hl2.block _ (by simp; omega))
    obtain ⟨hd0, hd1, hg0, hg1⟩ := hR2.two
    have hlt2 := hR2.lt
    clear hl2 hB2 hc0 hc1 hf0 hf1
    by_cases h2 : (fault ys).1 = 0
    · have e2 := fault_zero h2
      rw [e2]
      by_cases h3 : xs.length = ys.length
      · have ef : twof xs ys = (0, 0) := by unfold twof; rw [if_neg (by simp [h1]), if_neg (by simp [h2]), if_neg (by simp [h3])]
        have EF := hide ef
        have hbe : ((xs.length : Int) != (ys.length : Int)) = false := by simp [h3]
        clear ef h3 h2 h1 e1 e2
        go_wp2
        have hW : Blk (((w2.setCell ⟨w.heap.size, 0, none⟩ (.int .i64 0)).setCell ⟨w.heap.size, 1, none⟩ (.int .i64 0)).alloc (.cells #[.int .i64 0, .int .i64 0] 26)) w.heap.size 26 [.int .i64 0, .int .i64 0] := ((hR2.set 0 _).set 1 _).alloc _
        have hBW : Below w.heap.size w (((w2.setCell ⟨w.heap.size, 0, none⟩ (.int .i64 0)).setCell ⟨w.heap.size, 1, none⟩ (.int .i64 0)).alloc (.cells #[.int .i64 0, .int .i64 0] 26)) := ((hB3.setCell (p := ⟨w.heap.size, 0, none⟩) (by simp) _).setCell (p := ⟨w.heap.size, 1, none⟩) (by simp) _).alloc (by simp; omega) _
        generalize ((w2.setCell ⟨w.heap.size, 0, none⟩ (.int .i64 0)).setCell ⟨w.heap.size, 1, none⟩ (.int .i64 0)).alloc (.cells #[.int .i64 0, .int .i64 0] 26) = W at hW hBW ⊢
        obtain ⟨h0, h1, _, _⟩ := hW.two
        exact bodyPost_ret (v := .agg #[.int .i64 0, .int .i64 0]) (by simp [results, Tryd.results59, go_sem, h0, h1]) rfl ⟨by rw [EF.out], hBW⟩
      · have ef : twof xs ys = (8, 0) := by unfold twof; rw [if_neg (by simp [h1]), if_neg (by simp [h2]), if_pos h3]
        have EF := hide ef
        have hbe : ((xs.length : Int) != (ys.length : Int)) = true := by simp; omega
        clear ef h3 h2 h1 e1 e2
        go_wp2
        have hW : Blk (((w2.setCell ⟨w.heap.size, 0, none⟩ (.int .i64 8)).setCell ⟨w.heap.size, 1, none⟩ (.int .i64 0)).alloc (.cells #[.int .i64 0, .int .i64 0] 26)) w.heap.size 26 [.int .i64 8, .int .i64 0] := ((hR2.set 0 _).set 1 _).alloc _
        have hBW : Below w.heap.size w (((w2.setCell ⟨w.heap.size, 0, none⟩ (.int .i64 8)).setCell ⟨w.heap.size, 1, none⟩ (.int .i64 0)).alloc (.cells #[.int .i64 0, .int .i64 0] 26)) := ((hB3.setCell (p := ⟨w.heap.size, 0, none⟩) (by simp) _).setCell (p := ⟨w.heap.size, 1, none⟩) (by simp) _).alloc (by simp; omega) _
        generalize ((w2.setCell ⟨w.heap.size, 0, none⟩ (.int .i64 8)).setCell ⟨w.heap.size, 1, none⟩ (.int .i64 0)).alloc (.cells #[.int .i64 0, .int .i64 0] 26) = W at hW hBW ⊢
        obtain ⟨h0, h1, _, _⟩ := hW.two
        exact bodyPost_ret (v := .agg #[.int .i64 8, .int .i64 0]) (by simp [results, Tryd.results59, go_sem, h0, h1]) rfl ⟨by rw [EF.out], hBW⟩
    · have ef : twof xs ys = fault ys := by unfold twof; rw [if_neg (by simp [h1]), if_pos h2]
      obtain ⟨c, i, hci⟩ : ∃ c i, fault ys = (c, i) := ⟨_, _, rfl⟩
      rw [hci] at ef h2 ⊢
      have EF := hide ef
      have hbe : (c != 0) = true := by simpa using h2
      clear ef h2 h1 e1 hci
      go_wp2
      have hW : Blk (((w2.setCell ⟨w.heap.size, 0, none⟩ (.int .i64 c)).setCell ⟨w.heap.size, 1, none⟩ (.int .i64 i)).alloc (.cells #[.int .i64 c, .int .i64 i] 26)) w.heap.size 26 [.int .i64 c, .int .i64 i] := ((hR2.set 0 _).set 1 _).alloc _
      have hBW : Below w.heap.size w (((w2.setCell ⟨w.heap.size, 0, none⟩ (.int .i64 c)).setCell ⟨w.heap.size, 1, none⟩ (.int .i64 i)).alloc (.cells #[.int .i64 c, .int .i64 i] 26)) := ((hB3.setCell (p := ⟨w.heap.size, 0, none⟩) (by simp) _).setCell (p := ⟨w.heap.size, 1, none⟩) (by simp) _).alloc (by simp; omega) _
      generalize ((w2.setCell ⟨w.heap.size, 0, none⟩ (.int .i64 c)).setCell ⟨w.heap.size, 1, none⟩ (.int .i64 i)).alloc (.cells #[.int .i64 c, .int .i64 i] 26) = W at hW hBW ⊢
      obtain ⟨h0, h1, _, _⟩ := hW.two
      exact bodyPost_ret (v := .agg #[.int .i64 c, .int .i64 i]) (by simp [results, Tryd.results59, go_sem, h0, h1]) rfl ⟨by rw [EF.out], hBW⟩
  · have ef : twof xs ys = fault xs := by unfold twof; rw [if_pos h1]
    obtain ⟨c, i, hci⟩ : ∃ c i, fault xs = (c, i) := ⟨_, _, rfl⟩
    rw [hci] at ef h1 ⊢
    have EF := hide ef
    have hbe : (c != 0) = true := by simpa using h1
    clear ef h1 hci
    go_wp2
    have hW : Blk (((w1.setCell ⟨w.heap.size, 0, none⟩ (.int .i64 c)).setCell ⟨w.heap.size, 1, none⟩ (.int .i64 i)).alloc (.cells #[.int .i64 c, .int .i64 i] 26)) w.heap.size 26 [.int .i64 c, .int .i64 i] := ((hR1.set 0 _).set 1 _).alloc _
    have hBW : Below w.heap.size w (((w1.setCell ⟨w.heap.size, 0, none⟩ (.int .i64 c)).setCell ⟨w.heap.size, 1, none⟩ (.int .i64 i)).alloc (.cells #[.int .i64 c, .int .i64 i] 26)) := ((hB1.setCell (p := ⟨w.heap.size, 0, none⟩) (by simp) _).setCell (p := ⟨w.heap.size, 1, none⟩) (by simp) _).alloc (by simp; omega) _
    generalize ((w1.setCell ⟨w.heap.size, 0, none⟩ (.int .i64 c)).setCell ⟨w.heap.size, 1, none⟩ (.int .i64 i)).alloc (.cells #[.int .i64 c, .int .i64 i] 26) = W at hW hBW ⊢
    obtain ⟨h0, h1, _, _⟩ := hW.two
    exact bodyPost_ret (v := .agg #[.int .i64 c, .int .i64 i]) (by simp [results, Tryd.results59, go_sem, h0, h1]) rfl ⟨by rw [EF.out], hBW⟩
end Go.Proofs.YtjchmhngfnlbhaaDoor
