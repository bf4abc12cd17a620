/- The frame that all rows of this family share: what the listed tables give a walk; how a slice of ints that came in reads. -/
import Derived.Test.YtojnjfkonaeegaaDoorRows
import Derived.Test.YtojnjfkonaeegaaDoorFb
import Derived.Test.YtojnjfkonaeegaaDoorQWrite
import Derived.ProofKit
import Derived.LaidMore
import Derived.OpenShut
import Derived.Stop.Joined
import Derived.Stop.LaidErr
import Derived.Lib.LaidTab
namespace Go.Proofs.YtojnjfkonaeegaaDoor
open Go Go.ChangeShapes Go.WideShapes Go.ChangeAt Go.RowKit

theorem own : ownKnob Tryd.prog.godebug = none := by kernel_rfl
theorem laidOut : laidOutB Tryd.prog = true := by kernel_rfl
/-- What the rows list. -/
def laid3 : List (String × DataW Unit) := Rows.beadsLeastRow.laid

theorem pow10_data : (Rows.laid_internal_strconv_uint64pow10 : DataW Unit) = Lib.tabData .u64 Lib.pow10Tab := by kernel_rfl

/-- The door's own heap meets the condition. -/
theorem door_met (os : Os) (args : Array Value) : laidMetH Tryd.prog laid3 ((World.doorLaid Tryd.prog 400 os).forCall (fun _ _ => 0) ⟨#[], args, []⟩).memory :=
  laidMetH_of_parts3 (fuel := 8) (laidMet_of_run' 8 (by kernel_rfl) (by kernel_rfl)) (by kernel_rfl) (by kernel_rfl)

theorem tab_of_laid {W : World} (h : laidMetH Tryd.prog laid3 W) : YtojnjfkonaeegaaDoorQ.Tab W.heap.size W := by
  rw [MakeChecks.laidMetH_plain _ _ _ (by kernel_rfl)] at h
  have h2 := laidMet.tail (laidMet.tail h)
  have e : (Rows.laid_internal_strconv_uint64pow10 : DataW Unit) = Lib.tabData .u64 Lib.pow10Tab := pow10_data
  rw [e] at h2
  have hg : Tryd.prog.globalNamed "internal/strconv.uint64pow10" = some 2 := by kernel_rfl
  have hT := Lib.tabIs_of_head hg (t := 137) (e := 89) (n := 20) (by kernel_rfl) Tryd.underlying137 Tryd.underlying89 (by kernel_rfl) (by kernel_rfl) h2
  refine ⟨hT, 2, hg, ?_⟩
  have hc := hT.cell hg 0 (by rw [Lib.pow10Tab_length]; omega)
  exact World.block_lt_of_cell? W ⟨2, 0, none⟩ hc

/-- What is told of a slice of integers that came in. -/
def IsRow (k : IntKind) (w : World) (a : Option Addr) (len cap : Nat) (zs : List Int) : Prop :=
  (a = none ∧ len = 0 ∧ cap = 0 ∧ zs = []) ∨
  ∃ x, a = some x ∧ len ≤ cap ∧ cap ≤ maxLen ∧ zs.length = cap ∧ (∀ i, i < zs.length → w.cell? (x.add i) = some (.int k (zs.getD i 0))) ∧ ∀ n ∈ zs, (Lit.int k n).wf = true

theorem IsRow.sl {w : World} {a : Option Addr} {len cap : Nat} {zs : List Int} (h : IsRow .i64 w a len cap zs) (h0 : 0 < w.heap.size) : Sl w (.slice a len cap) (zs.take len) := by
  rcases h with ⟨rfl, rfl, rfl, rfl⟩ | ⟨x, rfl, hl, hm, hz, hc, _⟩
  · exact ⟨none, 0, 0, 0, rfl, ⟨by simp, by simp⟩, h0, by simp, by unfold maxLen; omega⟩
  · have hlen : (zs.take len).length = len := by rw [List.length_take]; omega
    by_cases hpos : 0 < cap
    · obtain ⟨b, o, rfl, hc'⟩ := ints_at hc (by omega)
      refine ⟨some ⟨b, o, none⟩, cap, b, o, by rw [hlen], ⟨fun _ => rfl, fun j hj => ?_⟩, World.block_lt_of_cell? w _ (hc' 0 (by omega)), by omega, hm⟩
      rw [hlen] at hj
      rw [hc' j (by omega), List.getElem?_take, if_pos hj, List.getD_eq_getElem?_getD]
    · have : len = 0 := by omega
      subst this
      exact ⟨some x, cap, 0, 0, by simp, ⟨by simp, by simp⟩, h0, by simp, hm⟩
theorem Tab.pos {B : Nat} {w : World} (h : YtojnjfkonaeegaaDoorQ.Tab B w) : 0 < B := by
  obtain ⟨_, g, _, hg⟩ := h
  omega

end Go.Proofs.YtojnjfkonaeegaaDoor
