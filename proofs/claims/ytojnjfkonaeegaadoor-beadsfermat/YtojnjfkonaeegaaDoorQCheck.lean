/- What perm.Check answers: for every list of ints that can be read, the fault that the plain function 'fault' tells; nothing that lay has turned. -/
import Derived.Test.YtojnjfkonaeegaaDoorQMath
import Derived.Test.YtojnjfkonaeegaaDoorQKit
import Derived.Test.YtojnjfkonaeegaaDoorProg
import Derived.WalkKit
namespace Go.Proofs.YtojnjfkonaeegaaDoorQ
open Go Go.RowKit

theorem info4 : (Tryd.prog.info? 4).map (fun i => (i.zero, i.size, i.bytes)) = some (some (.bool false), 1, 1) := by kernel_rfl
/-- A slice value whose elements, as many as zs, are zs: they lie in block pb from po on. -/
structure Reads (w : World) (a : Option Addr) (pb po : Nat) (zs : List Int) : Prop where
  at_ : 0 < zs.length → a = some ⟨pb, po, none⟩
  cell : ∀ j, j < zs.length → w.cell? ⟨pb, po + j, none⟩ = some (.int .i64 (zs[j]?.getD 0))

theorem Reads.of_eq {w w' : World} {a : Option Addr} {pb po : Nat} {zs : List Int} (h : Reads w a pb po zs) (hb : w'.heap[pb]? = w.heap[pb]?) : Reads w' a pb po zs :=
  ⟨h.at_, fun j hj => (World.cell?_of_block (a := ⟨pb, po + j, none⟩) hb).trans (h.cell j hj)⟩
theorem Reads.below {B : Nat} {w w' : World} {a : Option Addr} {pb po : Nat} {zs : List Int} (h : Reads w a pb po zs) (hb : Below B w w') (hp : pb < B) : Reads w' a pb po zs := h.of_eq (hb.block pb hp)
theorem Reads.lt {w : World} {a : Option Addr} {pb po : Nat} {zs : List Int} (h : Reads w a pb po zs) (h0 : 0 < zs.length) : pb < w.heap.size :=
  World.block_lt_of_cell? w ⟨pb, po + 0, none⟩ (h.cell 0 h0)

end Go.Proofs.YtojnjfkonaeegaaDoorQ
