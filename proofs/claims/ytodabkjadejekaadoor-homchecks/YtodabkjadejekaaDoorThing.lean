/- What the document's SameGroup and ThingFault and the law's numberAs tell. -/
import Derived.Test.YtodabkjadejekaaDoorSame
namespace Go.Proofs.YtodabkjadejekaaDoor
open Go Go.RowKit

set_option maxRecDepth 100000 in
set_option maxHeartbeats 4000000 in
theorem sameGroup_any (N M : Int) (u v : Value) (xs ys : List Int) (w : World) (hu : Sl w u xs) (hv : Sl w v ys) :
    Calls Tryd.prog 39 #[.agg #[.int .i64 N, u], .agg #[.int .i64 M, v]] w fun e w' => e = .returned (.bool (decide (N = M) && decide (xs = ys))) ∧ Below w.heap.size w w' := by
  obtain ⟨w0, hw0⟩ : ∃ w0, w0 = (w.alloc (.cells #[.int .i64 N, u] 24)).alloc (.cells #[.int .i64 M, v] 24) := ⟨_, rfl⟩
  have hB0 : Below w.heap.size w w0 := by rw [hw0]; exact (balloc w _).alloc (by simp) _
  have hg0 : BoxG w0 w.heap.size N u := by rw [hw0]; exact (blk0 _ _).alloc _
  have hg1 : BoxG w0 (w.heap.size + 1) M v := by
    rw [hw0]
    have : Blk ((w.alloc (.cells #[.int .i64 N, u] 24)).alloc (.cells #[.int .i64 M, v] 24)) (w.alloc (.cells #[.int .i64 N, u] 24)).heap.size 24 [.int .i64 M, v] := blk0 _ _
    rw [World.size_alloc] at this; exact this
  obtain ⟨k0, k1, _, _⟩ := hg0.two
  obtain ⟨l0, l1, _, _⟩ := hg1.two
  have HI := hide (ints_any u v xs ys w0 (hu.below hB0) (hv.below hB0))
  rw [hw0] at k0 k1 l0 l1
  by_cases h : N = M
  · subst h
    have hb : (N == N) = true := by simp
    go_enter Tryd.func39, Tryd.ntmps39
    go_wp2_with fail
    rw [← hw0]
    refine HI.out.mono ?_
    rintro x w1 ⟨rfl, hb1⟩
    have hB1 := bcat hB0 hb1 hB0.size
    clear k0 k1 l0 l1 hw0
    go_wp2
    go_ret
    exact ⟨retB (by simp), hB1⟩
  · have hb : (N == M) = false := by simpa using h
    go_enter Tryd.func39, Tryd.ntmps39
    go_wp2
    rw [← hw0]
    go_ret
    exact ⟨retB (by simp [h]), hB0⟩

/-- What is wrong with a table, and then with numbers as its things, the first one first. -/
def tfl (N : Int) (zs l : List Int) : Int × Int :=
  if (gfault N zs).1 ≠ 0 then gfault N zs
  else if least l.length (fun i => decide (l[i]?.getD 0 < 0 ∨ N ≤ l[i]?.getD 0)) ≠ -1 then (3, least l.length (fun i => decide (l[i]?.getD 0 < 0 ∨ N ≤ l[i]?.getD 0)) + 1) else (0, 0)
theorem tfl_one (N : Int) (zs : List Int) (a : Int) : tfl N zs [a] = tfault N zs a := by
  unfold tfl tfault
  by_cases h1 : (gfault N zs).1 ≠ 0
  · rw [if_pos h1, if_pos h1]
  · rw [if_neg h1, if_neg h1]
    by_cases h2 : 0 ≤ a ∧ a < N
    · rw [if_pos h2, if_neg]
      rw [Decidable.not_not, least_neg]
      intro t ht
      have : t = 0 := by simpa using ht
      subst this
      simp; omega
    · rw [if_neg h2]
      have : least [a].length (fun i => decide ([a][i]?.getD 0 < 0 ∨ N ≤ [a][i]?.getD 0)) = ((0 : Nat) : Int) := least_at (by simp) (by simp; omega) (fun t ht => by omega)
      rw [this]; simp

end Go.Proofs.YtodabkjadejekaaDoor
