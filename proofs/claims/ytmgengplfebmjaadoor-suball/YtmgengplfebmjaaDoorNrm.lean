/- What package sub's conjugated, normaliser and openedSubgroup answer, and Normaliser, Normal, Core and Closure where nothing is wrong. Condition: the library's table of places lies as its text lays it. -/
import Derived.Test.YtmgengplfebmjaaDoorCmm
namespace Go.Proofs.YtmgengplfebmjaaDoor
open Go Go.RowKit

/-- The conjugates by a of a list's things. -/
def cjl (n : Nat) (zs : List Int) (e : Nat) (xs : List Nat) (a y : Nat) : Bool := xs.any fun x => decide (Fin.cj (tm n zs) (iv n zs e) x a = y)
abbrev cjq (n : Nat) (zs : List Int) (e : Nat) (q : Nat → Bool) (a : Nat) : Nat → Bool := cjl n zs e (lst n q) a
/-- Is a set, conjugated by a, the same? -/
def norq (n : Nat) (zs : List Int) (e : Nat) (q : Nat → Bool) (a : Nat) : Bool := decide (bs (cjq n zs e q a) n = bs q n)
end Go.Proofs.YtmgengplfebmjaaDoor
