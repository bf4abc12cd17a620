/- What the iterator of perm.cyclesOf does: at every permutation of at most 1000 points it hands its loop body the cycles of 'cyc', one by one, each in new memory. -/
import Derived.Test.YtojnjfkonaeegaaDoorQCheck
import Derived.Shelf.Abstract
import Derived.TacticsInMore
import Derived.LoopNIn
import Derived.LoopIn
import Derived.Maps.AppendAt
namespace Go.Proofs.YtojnjfkonaeegaaDoorQ
open Go Go.RowKit Go.Shelf

attribute [local go_sem] Oper.semAt_some

theorem info3 : (Tryd.prog.info? 3).map (fun i => (i.zero, i.size, i.bytes)) = some (some (.int .i64 0), 1, 8) := by kernel_rfl
theorem under22 : Tryd.prog.underlying 22 = some (.slice 3) := by kernel_rfl

/-- Points as cells. -/
def pts (c : List Nat) : List Value := c.map fun (x : Nat) => Value.int .i64 (x : Int)

end Go.Proofs.YtojnjfkonaeegaaDoorQ
