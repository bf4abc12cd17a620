/- What Dihedral and Dicyclic of package table are made of. -/
import Derived.Test.YtgphcfmiamiojaaMake
namespace Go.Proofs.Ytgphcfmiamiojaa
open Go Go.RowKit

/-- Products of turns and turned turns: r^i at i, r^i s at m + i; s s is r^q. -/
def tf (m q a b : Nat) : Nat :=
  if a < m then (if b < m then (a % m + b % m) % m else m + (a % m + b % m) % m) else (if b < m then m + (a % m + m - b % m) % m else (a % m + m - b % m + q) % m)

theorem nmod {x : Int} {y m : Nat} (h : x = (y : Int)) : x.tmod (m : Int) = ((y % m : Nat) : Int) := by
  rw [h, Int.tmod_eq_emod_of_nonneg (by omega), Int.natCast_emod]

set_option maxRecDepth 100000 in
set_option maxHeartbeats 4000000 in
theorem turn_ok (b1 b2 m q a b : Nat) (w : World) (h1 : Boxed w b1 3 (.int .i64 m)) (h2 : Boxed w b2 3 (.int .i64 q)) (hm : 1 ≤ m) (hm2 : m ≤ 60) (hq : q ≤ 60) :
    Calls Try.prog 38 #[.int .i64 a, .int .i64 b, .pointer (some ⟨b1, 0, none⟩), .pointer (some ⟨b2, 0, none⟩)] w fun e w' => e = .returned (.int .i64 (tf m q a b)) ∧ Below w.heap.size w w' := by
  have c1 := h1.cell
  have c2 := h2.cell
  have hm0 : ¬ ((m : Int) = 0) := by omega
  have hi := nmod (x := (a : Int)) (y := a) (m := m) rfl
  have hk := nmod (x := (b : Int)) (y := b) (m := m) rfl
  have hil : a % m < m := Nat.mod_lt _ (by omega)
  have hkl : b % m < m := Nat.mod_lt _ (by omega)
  unfold tf
  generalize a % m = i at *
  generalize b % m = k at *
  by_cases hA : a < m
  · by_cases hB : b < m
    · rw [if_pos hA, if_pos hB]
      have hr := nmod (x := (i : Int) + (k : Int)) (y := i + k) (m := m) (by omega)
      have hrl : (i + k) % m < m := Nat.mod_lt _ (by omega)
      generalize (i + k) % m = r at *
      go_enter Try.func38, Try.ntmps38
      go_wp2_with fail
      go_quiet (fail)
      go_wp2
      go_ret
      exact ⟨retI (by first | rfl | omega), bdrewN (Below.refl _ _) _⟩
    · rw [if_pos hA, if_neg hB]
      have hr := nmod (x := (i : Int) + (k : Int)) (y := i + k) (m := m) (by omega)
      have hrl : (i + k) % m < m := Nat.mod_lt _ (by omega)
      generalize (i + k) % m = r at *
      go_enter Try.func38, Try.ntmps38
      go_wp2_with fail
      go_quiet (fail)
      go_wp2_with fail
      go_quiet (fail)
      go_wp2
      go_ret
      exact ⟨retI (by omega), bdrewN (bdrewN (Below.refl _ _) _) _⟩
  · by_cases hB : b < m
    · rw [if_neg hA, if_pos hB]
      have hr := nmod (x := (i : Int) - (k : Int) + (m : Int)) (y := i + m - k) (m := m) (by omega)
      have hrl : (i + m - k) % m < m := Nat.mod_lt _ (by omega)
      generalize (i + m - k) % m = r at *
      go_enter Try.func38, Try.ntmps38
      go_wp2_with fail
      go_quiet (fail)
      go_wp2_with fail
      go_quiet (fail)
      go_wp2
      go_ret
      exact ⟨retI (by omega), bdrewN (bdrewN (Below.refl _ _) _) _⟩
    · rw [if_neg hA, if_neg hB]
      have hr := nmod (x := (i : Int) - (k : Int) + (m : Int) + (q : Int)) (y := i + m - k + q) (m := m) (by omega)
      have hrl : (i + m - k + q) % m < m := Nat.mod_lt _ (by omega)
      generalize (i + m - k + q) % m = r at *
      go_enter Try.func38, Try.ntmps38
      go_wp2_with fail
      go_quiet (fail)
      go_wp2
      go_ret
      exact ⟨retI (by first | rfl | omega), bdrewN (Below.refl _ _) _⟩

theorem call83 (a b : Int) (x y : Value) (W : World) : Sem.run Try.prog (callFunc 38 (#[.int .i64 a, .int .i64 b] ++ #[x, y])) W = .ok (.enter 38 (#[.int .i64 a, .int .i64 b] ++ #[x, y])) W := by kernel_rfl

/-- A table that is stored into a block of two cells. -/
theorem putG {W w : World} {b : Nat} {x y : Value} (hR : Blk W b 27 [x, y]) (hB : Below w.heap.size w W) (hb : w.heap.size ≤ b) (N : Int) (u : Value) :
    Blk ((W.setCell ⟨b, 0, none⟩ (.int .i64 N)).setCell ⟨b, 1, none⟩ u) b 27 [.int .i64 N, u] ∧ Below w.heap.size w ((W.setCell ⟨b, 0, none⟩ (.int .i64 N)).setCell ⟨b, 1, none⟩ u) :=
  ⟨(hR.set 0 _).set 1 _, (hB.setCell (p := ⟨b, 0, none⟩) hb _).setCell (p := ⟨b, 1, none⟩) hb _⟩
set_option maxRecDepth 100000 in
set_option maxHeartbeats 4000000 in
theorem turned_ok (m q : Nat) (w : World) (hm : 1 ≤ m) (hm2 : m ≤ 30) (hq : q ≤ 60) :
    Calls Try.prog 27 #[.int .i64 m, .int .i64 q] w fun e w' => ∃ u, e = .returned (.agg #[.int .i64 (2 * m : Nat), u]) ∧ SlF w.heap.size w' u (mkT (2 * m) (tf m q)) ∧ Below w.heap.size w w' := by
  obtain ⟨w0, hw0⟩ : ∃ w0, w0 = ((w.alloc (.cells #[.int .i64 m] 3)).alloc (.cells #[.int .i64 q] 3)).alloc (.cells #[.int .i64 0, .slice none 0 0] 27) := ⟨_, rfl⟩
  have hB0 : Below w.heap.size w w0 := by rw [hw0]; exact ((balloc w _).alloc (by simp) _).alloc (by simp; omega) _
  have h1 : Boxed w0 w.heap.size 3 (.int .i64 m) := by rw [hw0]; exact ((Boxed.new w 3 _).alloc _).alloc _
  have h2 : Boxed w0 (w.heap.size + 1) 3 (.int .i64 q) := by
    rw [hw0]
    have := Boxed.new (w.alloc (.cells #[.int .i64 m] 3)) 3 (.int .i64 q)
    rw [World.size_alloc] at this; exact this.alloc _
  have hR0 : Blk w0 (w.heap.size + 1 + 1) 27 [.int .i64 0, .slice none 0 0] := by
    rw [hw0]
    have : Blk (((w.alloc (.cells #[.int .i64 m] 3)).alloc (.cells #[.int .i64 q] 3)).alloc (.cells #[.int .i64 0, .slice none 0 0] 27)) ((w.alloc (.cells #[.int .i64 m] 3)).alloc (.cells #[.int .i64 q] 3)).heap.size 27 [.int .i64 0, .slice none 0 0] := blk0 _ _
    rw [World.size_alloc, World.size_alloc] at this; exact this
  have hc := madeBy_ok (2 * m) 38 #[.pointer (some ⟨w.heap.size, 0, none⟩), .pointer (some ⟨w.heap.size + 1, 0, none⟩)] (tf m q) w0 (by omega) (by omega) (fun a b W => call83 a b _ _ W)
    (fun W a b hW _ _ => turn_ok w.heap.size (w.heap.size + 1) m q a b W (Boxed.below h1 hW) (Boxed.below h2 hW) hm (by omega) hq)
  obtain ⟨M, hM⟩ : ∃ M, 2 * m = M := ⟨_, rfl⟩
  have hmul : (2 : Int) * (m : Int) = (M : Int) := by omega
  rw [hM] at hc ⊢
  have HC := hide hc
  have c1 := h1.cell
  rw [hw0] at c1
  clear hc hM
  go_enter Try.func27, Try.ntmps27
  go_wp2_with fail
  rw [← hw0]
  refine HC.out.mono ?_
  rintro e w1 ⟨u, rfl, hu1, hb1⟩
  clear c1 hw0
  have hR1 := blk_below hR0 hb1
  have hB1 := bcat hB0 hb1 hB0.size
  have hs0 := hR0.lt
  obtain ⟨a9, cap9, _, _, rfl, _⟩ := id hu1
  obtain ⟨y0, y1, fy0, fy1⟩ := hR1.two
  obtain ⟨hR6, hB6⟩ := putG hR1 hB1 (by omega) M (.slice a9 (mkT M (tf m q)).length cap9)
  have hu6 := (hu1.keep (w' := (w1.setCell ⟨w.heap.size + 1 + 1, 0, none⟩ (.int .i64 M)).setCell ⟨w.heap.size + 1 + 1, 1, none⟩ (.slice a9 (mkT M (tf m q)).length cap9)) (fun b hb => by
    rw [Below.heap_setCell _ _ _ _ (by simp; omega), Below.heap_setCell _ _ _ _ (by simp; omega)]) (by rw [size_set, size_set]; exact Nat.le_refl _)).mono hB0.size
  go_wp2
  generalize (w1.setCell ⟨w.heap.size + 1 + 1, 0, none⟩ (.int .i64 M)).setCell ⟨w.heap.size + 1 + 1, 1, none⟩ (.slice a9 (mkT M (tf m q)).length cap9) = W at hR6 hB6 hu6 ⊢
  obtain ⟨z0, z1, _, _⟩ := hR6.two
  exact bodyPost_ret (v := .agg #[.int .i64 M, .slice a9 (mkT M (tf m q)).length cap9]) (by simp [results, Try.results27, go_sem, z0, z1]) rfl ⟨_, rfl, hu6, hB6⟩

set_option maxRecDepth 100000 in
set_option maxHeartbeats 4000000 in
theorem dicyclic_ok (n : Nat) (w : World) (hn : 1 ≤ n) (hn2 : n ≤ 15) :
    Calls Try.prog 15 #[.int .i64 n] w fun e w' => ∃ u, e = .returned (.tuple #[.agg #[.int .i64 (2 * (2 * n) : Nat), u], .agg #[.int .i64 0, .int .i64 0]]) ∧ SlF w.heap.size w' u (mkT (2 * (2 * n)) (tf (2 * n) n)) ∧ Below w.heap.size w w' := by
  obtain ⟨w0, hw0⟩ : ∃ w0, w0 = (w.alloc (.cells #[.int .i64 0, .slice none 0 0] 27)).alloc (.cells #[.int .i64 0, .int .i64 0] 29) := ⟨_, rfl⟩
  have hB0 : Below w.heap.size w w0 := by rw [hw0]; exact (balloc w _).alloc (by simp) _
  have hR0 : Blk w0 w.heap.size 27 [.int .i64 0, .slice none 0 0] := by rw [hw0]; exact (blk0 _ _).alloc _
  have hF0 : Blk w0 (w.heap.size + 1) 29 [.int .i64 0, .int .i64 0] := by
    rw [hw0]
    have := Two.new (w.alloc (.cells #[.int .i64 0, .slice none 0 0] 27))
    rw [World.size_alloc] at this; exact this.blk
  have hc := turned_ok (2 * n) n w0 (by omega) (by omega) (by omega)
  obtain ⟨M, hM⟩ : ∃ M, 2 * n = M := ⟨_, rfl⟩
  have hmul : (2 : Int) * (n : Int) = (M : Int) := by omega
  rw [hM] at hc ⊢
  obtain ⟨K, hK⟩ : ∃ K, 2 * M = K := ⟨_, rfl⟩
  rw [hK] at hc ⊢
  have HC := hide hc
  have hs0 := hF0.lt
  clear hc hM hK
  go_enter Try.func15, Try.ntmps15
  go_wp2_with fail
  rw [← hw0]
  refine HC.out.mono ?_
  rintro e w1 ⟨u, rfl, hu1, hb1⟩
  clear hw0
  have hR1 := blk_below hR0 hb1
  have hF1 := blk_below hF0 hb1
  have hB1 := bcat hB0 hb1 hB0.size
  obtain ⟨a9, cap9, _, _, rfl, _⟩ := id hu1
  obtain ⟨y0, y1, fy0, fy1⟩ := hR1.two
  obtain ⟨hR6, hB6⟩ := putG hR1 hB1 (by omega) K (.slice a9 (mkT K (tf M n)).length cap9)
  have hF6 := (hF1.other (p := ⟨w.heap.size, 0, none⟩) (by simp) (.int .i64 K)).other (p := ⟨w.heap.size, 1, none⟩) (by simp) (.slice a9 (mkT K (tf M n)).length cap9)
  have hu6 := (hu1.keep (w' := (w1.setCell ⟨w.heap.size, 0, none⟩ (.int .i64 K)).setCell ⟨w.heap.size, 1, none⟩ (.slice a9 (mkT K (tf M n)).length cap9)) (fun b hb => by
    rw [Below.heap_setCell _ _ _ _ (by simp; omega), Below.heap_setCell _ _ _ _ (by simp; omega)]) (by rw [size_set, size_set]; exact Nat.le_refl _)).mono hB0.size
  obtain ⟨_, q0, q1, fq0, fq1, s0, s1⟩ := Two.mk' hF6
  obtain ⟨_, p0, p1, fp0, fp1, t0, t1⟩ := Two.mk' hF1
  go_wp2
  generalize (w1.setCell ⟨w.heap.size, 0, none⟩ (.int .i64 K)).setCell ⟨w.heap.size, 1, none⟩ (.slice a9 (mkT K (tf M n)).length cap9) = W at *
  obtain ⟨z0, z1, _, _⟩ := hR6.two
  exact bodyPost_ret (v := .tuple #[.agg #[.int .i64 K, .slice a9 (mkT K (tf M n)).length cap9], .agg #[.int .i64 0, .int .i64 0]]) (by simp [results, Try.results15, go_sem, z0, z1, q0, q1]) rfl ⟨_, rfl, hu6, hB6⟩
end Go.Proofs.Ytgphcfmiamiojaa
