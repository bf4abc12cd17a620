/- What the law SubProducts answers: true, at every table and every two lists. Condition: the library's table of places lies as its text lays it. -/
import Derived.Test.YtelglfegpfhbpaaDoorPrd
namespace Go.Proofs.YtelglfegpfhbpaaDoor
open Go Go.RowKit

/-- What Made answers, whatever is wrong. -/
theorem mde_any (N : Int) (v u : Value) (zs ls : List Int) (w : World) (hv : Sl w v zs) (hu : Sl w u ls) (hT : Tab w) :
    Calls Tryd.prog 28 #[.agg #[.int .i64 N, v], u] w fun x w' => ∃ a l c, x = .returned (.tuple #[.slice a l c, .agg #[.int .i64 (sfault N zs ls).1, .int .i64 (sfault N zs ls).2]]) ∧ Below w.heap.size w w' := by
  by_cases hc : (sfault N zs ls).1 = 0
  · obtain ⟨n, e, rfl, hg, hl, h0⟩ := sfault_zero hc
    obtain ⟨p, hp⟩ := mkd_test n zs e (pset ls)
    rw [h0]
    refine (mde_good n e v u zs ls p w hv hg hu hT hl hp).mono ?_
    rintro x w' ⟨r, rfl, hr, hb⟩
    obtain ⟨a, l, c, rfl⟩ := hr.sl.isSlice
    exact ⟨a, l, c, rfl, hb⟩
  · refine (mde_bad N v u zs ls w hv hu hc).mono ?_
    rintro x w' ⟨rfl, hb⟩
    exact ⟨_, _, _, rfl, hb⟩
theorem box1 (w : World) (x y z : Value) (t : TypeId) : Boxed ((w.alloc (.cells #[x] t)).alloc (.cells #[y, z] 27)) w.heap.size t x ∧ Blk ((w.alloc (.cells #[x] t)).alloc (.cells #[y, z] 27)) (w.heap.size + 1) 27 [y, z] ∧ Below w.heap.size w ((w.alloc (.cells #[x] t)).alloc (.cells #[y, z] 27)) := by
  refine ⟨(Boxed.new w t x).alloc _, ?_, (balloc w _).alloc (by simp) _⟩
  have := blk0 (w := w.alloc (.cells #[x] t)) (T := 27) y z
  rwa [World.size_alloc] at this

end Go.Proofs.YtelglfegpfhbpaaDoor
