/- What Cyclic and Dihedral of package table answer at every number, and Dicyclic where it answers a fault. -/
import Derived.Test.YtpcgacelljbkdaaMgrp
import Derived.Test.YtpcgacelljbkdaaProduct
namespace Go.Proofs.Ytpcgacelljbkdaa
open Go Go.RowKit

set_option maxRecDepth 100000 in
set_option maxHeartbeats 4000000 in
theorem cyc_ok (b1 n a b : Nat) (w : World) (h1 : Boxed w b1 3 (.int .i64 n)) (hn : 1 ≤ n) (hn2 : n ≤ 60) (ha : a < n) (hb : b < n) :
    Calls Try.prog 65 #[.int .i64 a, .int .i64 b, .pointer (some ⟨b1, 0, none⟩)] w fun e w' => e = .returned (.int .i64 ((a + b) % n : Nat)) ∧ Below w.heap.size w w' := by
  have c1 := h1.cell
  have hm0 : ¬ ((n : Int) = 0) := by omega
  have hr := nmod (x := (a : Int) + (b : Int)) (y := a + b) (m := n) (by omega)
  have hrl : (a + b) % n < n := Nat.mod_lt _ (by omega)
  generalize (a + b) % n = r at *
  go_enter Try.func65, Try.ntmps65
  go_wp2
  go_ret
  exact ⟨rfl, Below.refl _ _⟩

theorem call65 (a b : Int) (x : Value) (W : World) : Sem.run Try.prog (callFunc 65 (#[.int .i64 a, .int .i64 b] ++ #[x])) W = .ok (.enter 65 (#[.int .i64 a, .int .i64 b] ++ #[x])) W := by kernel_rfl

set_option maxRecDepth 100000 in
set_option maxHeartbeats 4000000 in
theorem cyclic_ok (n : Nat) (w : World) (hn : 1 ≤ n) (hn2 : n ≤ 60) :
    Calls Try.prog 35 #[.int .i64 n] w fun e w' => ∃ u, e = .returned (.tuple #[.agg #[.int .i64 n, u], .agg #[.int .i64 0, .int .i64 0]]) ∧ SlF w.heap.size w' u (mkT n (fun a b => (a + b) % n)) ∧ Below w.heap.size w w' := by
  obtain ⟨w0, hw0⟩ : ∃ w0, w0 = ((w.alloc (.cells #[.int .i64 n] 3)).alloc (.cells #[.int .i64 0, .slice none 0 0] 24)).alloc (.cells #[.int .i64 0, .int .i64 0] 27) := ⟨_, rfl⟩
  have hB0 : Below w.heap.size w w0 := by rw [hw0]; exact ((balloc w _).alloc (by simp) _).alloc (by simp; omega) _
  have h1 : Boxed w0 w.heap.size 3 (.int .i64 n) := by rw [hw0]; exact ((Boxed.new w 3 _).alloc _).alloc _
  have hR0 : Blk w0 (w.heap.size + 1) 24 [.int .i64 0, .slice none 0 0] := by
    rw [hw0]
    have : Blk ((w.alloc (.cells #[.int .i64 n] 3)).alloc (.cells #[.int .i64 0, .slice none 0 0] 24)) (w.alloc (.cells #[.int .i64 n] 3)).heap.size 24 [.int .i64 0, .slice none 0 0] := blk0 _ _
    rw [World.size_alloc] at this; exact this.alloc _
  have hF0 : Blk w0 (w.heap.size + 1 + 1) 27 [.int .i64 0, .int .i64 0] := by
    rw [hw0]
    have := Two.new ((w.alloc (.cells #[.int .i64 n] 3)).alloc (.cells #[.int .i64 0, .slice none 0 0] 24))
    rw [World.size_alloc, World.size_alloc] at this; exact this.blk
  have hc := madeBy_ok n 65 #[.pointer (some ⟨w.heap.size, 0, none⟩)] (fun a b => (a + b) % n) w0 hn hn2 (fun a b W => call65 a b _ W)
    (fun W a b hW ha hb => cyc_ok w.heap.size n a b W (Boxed.below h1 hW) hn hn2 ha hb)
  have HC := hide hc
  have hs0 := hF0.lt
  have c1 := h1.cell
  generalize mkT n (fun a b => (a + b) % n) = T at *
  rw [hw0] at c1
  clear hc
  go_enter Try.func35, Try.ntmps35
  go_wp2_with fail
  rw [← hw0]
  refine HC.out.mono ?_
  rintro e w1 ⟨u, rfl, hu1, hb1⟩
  clear hw0 c1
  have hR1 := blk_below hR0 hb1
  have hF1 := blk_below hF0 hb1
  have hB1 := bcat hB0 hb1 hB0.size
  obtain ⟨a9, cap9, _, _, rfl, _⟩ := id hu1
  obtain ⟨y0, y1, fy0, fy1⟩ := hR1.two
  obtain ⟨hR6, hB6⟩ := putG hR1 hB1 (by omega) n (.slice a9 T.length cap9)
  have hF6 := (hF1.other (p := ⟨w.heap.size + 1, 0, none⟩) (by simp) (.int .i64 n)).other (p := ⟨w.heap.size + 1, 1, none⟩) (by simp) (.slice a9 T.length cap9)
  have hu6 := (hu1.keep (w' := (w1.setCell ⟨w.heap.size + 1, 0, none⟩ (.int .i64 n)).setCell ⟨w.heap.size + 1, 1, none⟩ (.slice a9 T.length cap9)) (fun b hb => by
    rw [Below.heap_setCell _ _ _ _ (by simp; omega), Below.heap_setCell _ _ _ _ (by simp; omega)]) (by rw [size_set, size_set]; exact Nat.le_refl _)).mono hB0.size
  obtain ⟨_, q0, q1, fq0, fq1, s0, s1⟩ := Two.mk' hF6
  obtain ⟨_, p0, p1, fp0, fp1, t0, t1⟩ := Two.mk' hF1
  go_wp2
  generalize (w1.setCell ⟨w.heap.size + 1, 0, none⟩ (.int .i64 n)).setCell ⟨w.heap.size + 1, 1, none⟩ (.slice a9 T.length cap9) = W at *
  obtain ⟨z0, z1, _, _⟩ := hR6.two
  exact bodyPost_ret (v := .tuple #[.agg #[.int .i64 n, .slice a9 T.length cap9], .agg #[.int .i64 0, .int .i64 0]]) (by simp [results, Try.results35, go_sem, z0, z1, q0, q1]) rfl ⟨_, rfl, hu6, hB6⟩

set_option maxRecDepth 100000 in
set_option maxHeartbeats 4000000 in
theorem dihedral_ok (n : Nat) (w : World) (hn : 1 ≤ n) (hn2 : n ≤ 30) :
    Calls Try.prog 36 #[.int .i64 n] w fun e w' => ∃ u, e = .returned (.tuple #[.agg #[.int .i64 (2 * n : Nat), u], .agg #[.int .i64 0, .int .i64 0]]) ∧ SlF w.heap.size w' u (mkT (2 * n) (tf n 0)) ∧ Below w.heap.size w w' := by
  obtain ⟨w0, hw0⟩ : ∃ w0, w0 = (w.alloc (.cells #[.int .i64 0, .slice none 0 0] 24)).alloc (.cells #[.int .i64 0, .int .i64 0] 27) := ⟨_, rfl⟩
  have hB0 : Below w.heap.size w w0 := by rw [hw0]; exact (balloc w _).alloc (by simp) _
  have hR0 : Blk w0 w.heap.size 24 [.int .i64 0, .slice none 0 0] := by rw [hw0]; exact (blk0 _ _).alloc _
  have hF0 : Blk w0 (w.heap.size + 1) 27 [.int .i64 0, .int .i64 0] := by
    rw [hw0]
    have := Two.new (w.alloc (.cells #[.int .i64 0, .slice none 0 0] 24))
    rw [World.size_alloc] at this; exact this.blk
  have hc := turned_ok n 0 w0 (by omega) (by omega) (by omega)
  obtain ⟨K, hK⟩ : ∃ K, 2 * n = K := ⟨_, rfl⟩
  rw [hK] at hc ⊢
  have HC := hide hc
  have hs0 := hF0.lt
  generalize mkT K (tf n 0) = T at *
  clear hc hK
  go_enter Try.func36, Try.ntmps36
  go_wp2_with fail
  rw [← hw0]
  refine HC.out.mono ?_
  rintro e w1 ⟨u, rfl, hu1, hb1⟩
  clear hw0
  have hR1 := blk_below hR0 hb1
  have hF1 := blk_below hF0 hb1
  have hB1 := bcat hB0 hb1 hB0.size
  obtain ⟨a9, cap9, _, _, rfl, _⟩ := id hu1
  obtain ⟨y0, y1, fy0, fy1⟩ := hR1.two
  obtain ⟨hR6, hB6⟩ := putG hR1 hB1 (by omega) K (.slice a9 T.length cap9)
  have hF6 := (hF1.other (p := ⟨w.heap.size, 0, none⟩) (by simp) (.int .i64 K)).other (p := ⟨w.heap.size, 1, none⟩) (by simp) (.slice a9 T.length cap9)
  have hu6 := (hu1.keep (w' := (w1.setCell ⟨w.heap.size, 0, none⟩ (.int .i64 K)).setCell ⟨w.heap.size, 1, none⟩ (.slice a9 T.length cap9)) (fun b hb => by
    rw [Below.heap_setCell _ _ _ _ (by simp; omega), Below.heap_setCell _ _ _ _ (by simp; omega)]) (by rw [size_set, size_set]; exact Nat.le_refl _)).mono hB0.size
  obtain ⟨_, q0, q1, fq0, fq1, s0, s1⟩ := Two.mk' hF6
  obtain ⟨_, p0, p1, fp0, fp1, t0, t1⟩ := Two.mk' hF1
  go_wp2
  generalize (w1.setCell ⟨w.heap.size, 0, none⟩ (.int .i64 K)).setCell ⟨w.heap.size, 1, none⟩ (.slice a9 T.length cap9) = W at *
  obtain ⟨z0, z1, _, _⟩ := hR6.two
  exact bodyPost_ret (v := .tuple #[.agg #[.int .i64 K, .slice a9 T.length cap9], .agg #[.int .i64 0, .int .i64 0]]) (by simp [results, Try.results36, go_sem, z0, z1, q0, q1]) rfl ⟨_, rfl, hu6, hB6⟩

set_option maxRecDepth 100000 in
set_option maxHeartbeats 4000000 in
theorem cyclic_bad (n : Int) (w : World) (hn : n < 1 ∨ 60 < n) :
    Calls Try.prog 35 #[.int .i64 n] w fun e w' => e = .returned (.tuple #[.agg #[.int .i64 0, .slice none 0 0], .agg #[.int .i64 3, .int .i64 0]]) ∧ Below w.heap.size w w' := by
  rcases hn with hn | hn
  all_goals (
    go_enter Try.func35, Try.ntmps35
    go_wp2
    exact bodyPost_ret (v := .tuple #[.agg #[.int .i64 0, .slice none 0 0], .agg #[.int .i64 3, .int .i64 0]]) (by simp [results, Try.results35, go_sem]) rfl ⟨rfl, ((balloc w _).alloc (by simp) _).alloc (by simp; omega) _⟩)

set_option maxRecDepth 100000 in
set_option maxHeartbeats 4000000 in
theorem dihedral_bad (n : Int) (w : World) (hn : n < 1 ∨ 30 < n) :
    Calls Try.prog 36 #[.int .i64 n] w fun e w' => e = .returned (.tuple #[.agg #[.int .i64 0, .slice none 0 0], .agg #[.int .i64 3, .int .i64 0]]) ∧ Below w.heap.size w w' := by
  rcases hn with hn | hn
  all_goals (
    go_enter Try.func36, Try.ntmps36
    go_wp2
    exact bodyPost_ret (v := .tuple #[.agg #[.int .i64 0, .slice none 0 0], .agg #[.int .i64 3, .int .i64 0]]) (by simp [results, Try.results36, go_sem]) rfl ⟨rfl, (balloc w _).alloc (by simp) _⟩)

set_option maxRecDepth 100000 in
set_option maxHeartbeats 4000000 in
theorem dicyclic_bad (n : Int) (w : World) (hn : n < 1 ∨ 15 < n) :
    Calls Try.prog 37 #[.int .i64 n] w fun e w' => e = .returned (.tuple #[.agg #[.int .i64 0, .slice none 0 0], .agg #[.int .i64 3, .int .i64 0]]) ∧ Below w.heap.size w w' := by
  rcases hn with hn | hn
  all_goals (
    go_enter Try.func37, Try.ntmps37
    go_wp2
    exact bodyPost_ret (v := .tuple #[.agg #[.int .i64 0, .slice none 0 0], .agg #[.int .i64 3, .int .i64 0]]) (by simp [results, Try.results37, go_sem]) rfl ⟨rfl, (balloc w _).alloc (by simp) _⟩)

end Go.Proofs.Ytpcgacelljbkdaa
