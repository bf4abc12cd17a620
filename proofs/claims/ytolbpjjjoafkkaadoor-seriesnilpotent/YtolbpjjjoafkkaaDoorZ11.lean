/- The frame that all rows of this family share: how a table that came in reads. The frame that all rows of this family share: what the listed table gives a walk; how a list of ints that came in reads. -/
import Derived.Test.YtolbpjjjoafkkaaDoorRows
import Derived.Test.YtolbpjjjoafkkaaDoorZ1
import Derived.ProofKit
import Derived.OpenShut
import Derived.ChangeOld
import Derived.Below
import Derived.SizedLaws
import Derived.LaidMore
import Derived.Stop.Joined
import Derived.Stop.LaidErr
import Derived.Lib.LaidTab
namespace Go.Proofs.YtolbpjjjoafkkaaDoor
open Go.ChangeShapes Go.WideShapes Go.ChangeAt Go.RowKit

theorem own : ownKnob Tryd.prog.godebug = none := by kernel_rfl
theorem laidOut : laidOutB Tryd.prog = true := by kernel_rfl

/-- A slice of ints that reads as zs; where nothing is in it, nothing is told of the memory. -/
def SlA (w : World) (v : Value) (zs : List Int) : Prop := ∃ a cap pb po, v = .slice a zs.length cap ∧ Reads w a pb po zs ∧ (0 < zs.length → pb < w.heap.size) ∧ zs.length ≤ cap ∧ cap ≤ maxLen
theorem SlA.up {w w' : World} {v : Value} {zs : List Int} (h : SlA w v zs) (hb : Below w.heap.size w w') (h0 : 0 < w'.heap.size) : Sl w' v zs := by
  obtain ⟨a, cap, pb, po, hv, hr, hp, h1, h2⟩ := h
  rcases Nat.eq_zero_or_pos zs.length with hz | hz
  · exact ⟨a, cap, 0, 0, hv, ⟨fun h => by omega, fun j hj => by omega⟩, h0, h1, h2⟩
  · exact ⟨a, cap, pb, po, hv, hr.below hb (hp hz), Nat.lt_of_lt_of_le (hp hz) hb.size, h1, h2⟩
theorem SlA.of {w : World} {v : Value} {zs : List Int} (h : Sl w v zs) : SlA w v zs := by
  obtain ⟨a, cap, pb, po, hv, hr, hp, h1, h2⟩ := h
  exact ⟨a, cap, pb, po, hv, hr, fun _ => hp, h1, h2⟩

theorem und24 : ∃ f0 f1 : Field, Tryd.prog.underlying 24 = some (.struct #[f0, f1]) ∧ f0.type = 3 ∧ f1.type = 22 ∧ f0.offset = 0 ∧ f1.offset = 1 := ⟨_, _, Tryd.underlying24, rfl, rfl, rfl, rfl⟩
theorem und3 : Tryd.prog.underlying 3 = some (.int .i64) := by kernel_rfl
theorem und22 : Tryd.prog.underlying 22 = some (.slice 3) := by kernel_rfl
theorem und4 : Tryd.prog.underlying 4 = some .bool := by kernel_rfl

set_option maxRecDepth 100000 in
/-- What is told of a table that came in. -/
theorem open_group {H : Type} {enc : TypeId × Value → H} {W : World} {b0 : Nat} {v : Value} {d : DataW H} {ps : List MemPlace} (hval : Value.okWide Tryd.prog W .any b0 24 v)
    (hd : DataW.Trod enc Tryd.prog W 0 (fun _ => true) true 24 v d ps) :
    ∃ N u zs, v = .agg #[.int .i64 N, u] ∧ SlA W u zs ∧ (Lit.int .i64 N).wf = true ∧ ((d.weights Tryd.prog 24).all (· ≤ reachBytes) = true → zs.length * 8 ≤ 140737488355328) := by
  obtain ⟨f0, f1, hu, ht0, ht1, ho0, ho1⟩ := und24
  obtain ⟨cs, rfl, hsz⟩ := okWide_struct hu hval
  rw [show Tryd.prog.cellsOf 24 = 2 by kernel_rfl] at hsz
  obtain ⟨l⟩ := cs
  match l, hsz with
  | [c0, c1], _ =>
  obtain ⟨fuel, hf⟩ := hd
  obtain ⟨y0, y1, m, hx, _, hy0, hy1⟩ := trod_struct2 hu hf
  rw [ht0, ho0, show Tryd.prog.cellsOf 3 = 1 by kernel_rfl] at hy0
  rw [ht1, ho1, show Tryd.prog.cellsOf 22 = 1 by kernel_rfl] at hy1
  obtain ⟨N, e0, rfl, wN⟩ := DataW.trod_int und3 hy0
  simp [Value.cells] at e0
  subst e0
  simp [Value.cells] at hy1
  rcases open_ints und22 und3 (by kernel_rfl) hy1 with ⟨hcs, _⟩ | ⟨x, l, c, zs, hcs, _, hl, hm, hz, heq, hcell, hwz⟩
  · simp at hcs
    subst hcs
    exact ⟨N, _, [], rfl, ⟨none, 0, 0, 0, rfl, ⟨by simp, by simp⟩, by simp, by simp, by unfold maxLen; omega⟩, wN, fun _ => by simp⟩
  · simp at hcs
    subst hcs
    have hzc : zs.length = c := by simpa using hz
    have hlen : (zs.take l).length = l := by rw [List.length_take]; omega
    refine ⟨N, _, zs.take l, rfl, ?_, wN, fun hw => ?_⟩
    · by_cases hpos : 0 < c
      · obtain ⟨b, o, rfl, hc'⟩ := ints_at hcell (by omega)
        refine ⟨some ⟨b, o, none⟩, c, b, o, by rw [hlen], ⟨fun _ => rfl, fun j hj => ?_⟩, fun _ => World.block_lt_of_cell? W _ (hc' 0 (by omega)), by omega, hm⟩
        rw [hlen] at hj
        rw [hc' j (by omega), List.getElem?_take, if_pos hj, List.getD_eq_getElem?_getD]
      · have : l = 0 := by omega
        subst this
        exact ⟨some x, c, 0, 0, by simp, ⟨by simp, by simp⟩, by simp, by simp, hm⟩
    · have hd : d = .agg [.lit (.int .i64 N), .slice (lits .i64 (zs.take l)) (lits .i64 (zs.drop l))] := by
        have h1 := congrArg Prod.fst hx
        simp only [heq] at h1
        exact h1
      have hw2 := List.all_eq_true.1 hw (((lits (H := H) .i64 (zs.take l)).length + (lits (H := H) .i64 (zs.drop l)).length) * Tryd.prog.bytesOf 3) (by
        rw [hd]; simp [DataW.weights, DataW.weightsEach, hu, ht0, ht1])
      rw [show Tryd.prog.bytesOf 3 = 8 by kernel_rfl] at hw2
      simp only [lits, List.length_map, decide_eq_true_eq] at hw2
      unfold reachBytes at hw2
      omega
end Go.Proofs.YtolbpjjjoafkkaaDoor

namespace Go.Proofs.YtolbpjjjoafkkaaDoor
open Go.ChangeShapes Go.WideShapes Go.ChangeAt Go.RowKit

/-- What the rows list. -/
def laid1 : List (String × DataW Unit) := Rows.sylowQuotientsRow.laid
def tabZ : List Int := Lib.deBruijn64tab.map fun (x : Nat) => (x : Int)
theorem tab_data : (Rows.laid_math_bits_deBruijn64tab : DataW Unit) = Lib.tabData .u8 tabZ := by kernel_rfl
/-- The door's own heap meets the condition. -/
theorem door_met (os : Os) (args : Array Value) : laidMetH Tryd.prog laid1 ((World.doorLaid Tryd.prog 400 os).forCall (fun _ _ => 0) ⟨#[], args, []⟩).memory :=
  laidMetH_of_parts3 (fuel := 8) (laidMet_of_run' 8 (by kernel_rfl) (by kernel_rfl)) (by kernel_rfl) (by kernel_rfl)
theorem tab_of_laid {W : World} (h : laidMetH Tryd.prog laid1 W) : Tab W := by
  rw [MakeChecks.laidMetH_plain _ _ _ (by kernel_rfl)] at h
  have h2 : laidMet Tryd.prog [("math/bits.deBruijn64tab", (Rows.laid_math_bits_deBruijn64tab : DataW Unit))] W := h
  rw [tab_data] at h2
  have hg : Tryd.prog.globalNamed "math/bits.deBruijn64tab" = some 0 := by kernel_rfl
  have hT := Lib.tabIs_of_head hg (t := 114) (e := 5) (n := 64) (by kernel_rfl) (by kernel_rfl) (by kernel_rfl) (by kernel_rfl) (by kernel_rfl) h2
  intro j hj
  have hj' : j < tabZ.length := by simpa [tabZ] using hj
  have hc := hT.cell hg j hj'
  rw [hc]
  simp [tabZ, hj]
set_option maxRecDepth 100000 in
/-- A list of ints that came in: its value, what it reads as, and its size. -/
theorem open_list {H : Type} {enc : TypeId × Value → H} {W : World} {b0 : Nat} {v : Value} {d : DataW H} {ps : List MemPlace} (hval : Value.okWide Tryd.prog W .any b0 22 v)
    (hd : DataW.Trod enc Tryd.prog W 0 (fun _ => true) true 22 v d ps) (h0 : 0 < W.heap.size) :
    ∃ zs, Sl W v zs ∧ ((d.weights Tryd.prog 22).all (· ≤ reachBytes) = true → zs.length * 8 ≤ 140737488355328) := by
  obtain ⟨a, len, cap, rfl⟩ := okWide_slice und22 hval
  obtain ⟨fuel, hf⟩ := hd
  rcases open_ints und22 und3 (by kernel_rfl) hf with ⟨hcs, _⟩ | ⟨x, l, c, zs, hcs, _, hl, hm, hz, heq, hcell, hwz⟩
  · simp [Value.cells] at hcs
    obtain ⟨rfl, rfl, rfl⟩ := hcs
    exact ⟨[], Sl.nil h0, fun _ => by simp⟩
  · simp [Value.cells] at hcs
    obtain ⟨rfl, rfl, rfl⟩ := hcs
    have hzc : zs.length = cap := by simpa using hz
    have hlen : (zs.take len).length = len := by rw [List.length_take]; omega
    refine ⟨zs.take len, ?_, fun hw => ?_⟩
    · by_cases hpos : 0 < cap
      · obtain ⟨b, o, rfl, hc'⟩ := ints_at hcell (by omega)
        refine ⟨some ⟨b, o, none⟩, cap, b, o, by rw [hlen], ⟨fun _ => rfl, fun j hj => ?_⟩, World.block_lt_of_cell? W _ (hc' 0 (by omega)), by omega, hm⟩
        rw [hlen] at hj
        rw [hc' j (by omega), List.getElem?_take, if_pos hj, List.getD_eq_getElem?_getD]
      · have : len = 0 := by omega
        subst this
        exact ⟨some x, cap, 0, 0, by simp, ⟨by simp, by simp⟩, h0, by simp, hm⟩
    · simp only [Prod.mk.injEq] at heq
      have hw2 := List.all_eq_true.1 hw (((lits (H := H) .i64 (zs.take len)).length + (lits (H := H) .i64 (zs.drop len)).length) * Tryd.prog.bytesOf 3) (by
        rw [heq.1]; simp [DataW.weights])
      rw [show Tryd.prog.bytesOf 3 = 8 by kernel_rfl] at hw2
      simp only [lits, List.length_map, decide_eq_true_eq] at hw2
      unfold reachBytes at hw2
      omega
end Go.Proofs.YtolbpjjjoafkkaaDoor
