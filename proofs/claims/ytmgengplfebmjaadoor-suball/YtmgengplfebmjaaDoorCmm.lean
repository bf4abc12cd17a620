/- What package sub's commutator and Comm answer. Condition: the library's table of places lies as its text lays it. -/
import Derived.Test.YtmgengplfebmjaaDoorCen
namespace Go.Proofs.YtmgengplfebmjaaDoor
open Go Go.RowKit

/-- The commutators of things of two lists. -/
def cmq (n : Nat) (zs : List Int) (e : Nat) (xs ys : List Nat) (y : Nat) : Bool := xs.any fun a => ys.any fun b => decide (Fin.cm (tm n zs) (iv n zs e) a b = y)
theorem bs_put {n t : Nat} {p q : Nat → Bool} (hn : n ≤ 60) (h : ∀ y, q y = (p y || decide (y = t))) : bits BinOp.or IntKind.u64 (bs p n : Int) (bs (fun y => decide (y = t)) n : Int) = (bs q n : Int) := by
  rw [or_bs p _ hn]
  congr 2
  funext y
  rw [h y]

end Go.Proofs.YtmgengplfebmjaaDoor
