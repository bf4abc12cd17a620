/- How slices of ints look, and some contracts in another form. -/
import Derived.Test.YtjchmhngfnlbhaaDoorGroupWalk
import Derived.Test.YtjchmhngfnlbhaaDoorBegun
import Derived.Test.YtjchmhngfnlbhaaDoorOwn
namespace Go.Proofs.YtjchmhngfnlbhaaDoor
open Go Go.RowKit Go.Shelf

theorem Sl.shp {w : World} {v : Value} {zs : List Int} (h : Sl w v zs) : ∃ a c, v = .slice a zs.length c := by
  obtain ⟨a, cap, pb, po, hv, _⟩ := h
  exact ⟨a, cap, hv⟩
theorem Sl.psz {w : World} {v : Value} {zs : List Int} (h : Sl w v zs) : 0 < w.heap.size := by
  obtain ⟨a, cap, pb, po, hv, _, hp, _⟩ := h
  omega
/-- Natural numbers as ints. -/
def nz (l : List Nat) : List Int := l.map fun (x : Nat) => (x : Int)
theorem ints_true (u v : Value) (xs ys : List Int) (w : World) (hu : Sl w u xs) (hv : Sl w v ys) (h : xs = ys) :
    Calls Tryd.prog 15 #[u, v] w fun e w' => e = .returned (.bool true) ∧ Below w.heap.size w w' := by
  have := ints_any u v xs ys w hu hv
  rw [decide_eq_true h] at this; exact this
theorem mul_good (u v : Value) (xs ys : List Int) (w : World) (hu : Sl w u xs) (hv : Sl w v ys) (hx : IsPerm xs) (hy : IsPerm ys) (hl : xs.length = ys.length) (h1000 : xs.length ≤ 1000) :
    Calls Tryd.prog 32 #[u, v] w fun e w' => (∃ r, e = .returned (.tuple #[r, .agg #[.int .i64 0, .int .i64 0]]) ∧ Sl w' r (mulL xs ys)) ∧ Below w.heap.size w w' := by
  refine (mul_ok u v xs ys w hu hv hx hy hl h1000).mono ?_
  rintro e w' ⟨r, rfl, h1, h2⟩
  exact ⟨⟨r, rfl, h1⟩, h2⟩
theorem inv_good (u : Value) (xs : List Int) (w : World) (hu : Sl w u xs) (hx : IsPerm xs) (h1000 : xs.length ≤ 1000) :
    Calls Tryd.prog 33 #[u] w fun e w' => (∃ r, e = .returned (.tuple #[r, .agg #[.int .i64 0, .int .i64 0]]) ∧ Sl w' r (invL xs)) ∧ Below w.heap.size w w' := by
  refine (inv_ok u xs w hu hx h1000).mono ?_
  rintro e w' ⟨r, rfl, h1, h2⟩
  exact ⟨⟨r, rfl, h1⟩, h2⟩

end Go.Proofs.YtjchmhngfnlbhaaDoor
