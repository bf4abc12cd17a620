/- What package sub's Normal, Core and Closure answer where nothing is wrong. Condition: the library's table of places lies as its text lays it. -/
import Derived.Test.YtmgengplfebmjaaDoorNrm
namespace Go.Proofs.YtmgengplfebmjaaDoor
open Go Go.RowKit

/-- What a set has, by whatever it is conjugated. -/
def corq (n : Nat) (zs : List Int) (e : Nat) (q : Nat → Bool) (k y : Nat) : Bool := q y && (List.range k).all fun a => cjq n zs e q a y
/-- All conjugates of a set. -/
def cloq (n : Nat) (zs : List Int) (e : Nat) (q : Nat → Bool) (k y : Nat) : Bool := (List.range k).any fun a => cjq n zs e q a y
def nrmq (n : Nat) (zs : List Int) (e : Nat) (q : Nat → Bool) : Bool := decide (bs (norq n zs e q) n = bs (fun _ => true) n)

end Go.Proofs.YtmgengplfebmjaaDoor
