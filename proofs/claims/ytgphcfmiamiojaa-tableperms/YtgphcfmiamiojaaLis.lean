/- How a list of lists of ints that came in reads. No condition. -/
import Derived.Test.YtgphcfmiamiojaaRows
import Derived.Test.YtgphcfmiamiojaaBegun
import Derived.Test.YtgphcfmiamiojaaGen
import Derived.ProofKit
import Derived.OpenShut
import Derived.ChangeOld
import Derived.Below
import Derived.SizedLaws
import Derived.Deep.Matrix
namespace Go.Proofs.Ytgphcfmiamiojaa
open Go.ChangeShapes Go.WideShapes Go.ChangeAt Go.RowKit

theorem own : ownKnob Try.prog.godebug = none := by kernel_rfl
theorem laidOut : laidOutB Try.prog = true := by kernel_rfl
theorem und22 : Try.prog.underlying 22 = some (.slice 24) := by kernel_rfl
theorem und24 : Try.prog.underlying 24 = some (.slice 3) := by kernel_rfl
theorem und3 : Try.prog.underlying 3 = some (.int .i64) := by kernel_rfl
theorem und4 : Try.prog.underlying 4 = some .bool := by kernel_rfl
theorem row_of {W : World} {A : Option Addr} {L C : Nat} {Z : List Int} (h0 : 0 < W.heap.size) (hl : L ≤ C) (hm : C ≤ maxLen) (hz : Z.length = C) (hn : A = none → C = 0) (hc : ∀ a', A = some a' → ∀ c, c < C → W.cell? (a'.add c) = some (.int .i64 (Z.getD c 0))) : Sl W (.slice A L C) (Z.take L) := by
  have hlen : (Z.take L).length = L := by rw [List.length_take]; omega
  by_cases hpos : 0 < C
  · obtain ⟨x, hx⟩ : ∃ x, A = some x := by
      cases A with
      | none => exact absurd (hn rfl) (by omega)
      | some x => exact ⟨x, rfl⟩
    subst hx
    obtain ⟨b, o, rfl, hc'⟩ := ints_at (zs := Z) (fun i hi => hc x rfl i (by omega)) (by omega)
    refine ⟨some ⟨b, o, none⟩, C, b, o, by rw [hlen], ⟨fun _ => rfl, fun j hj => ?_⟩, World.block_lt_of_cell? W _ (hc' 0 (by omega)), by omega, hm⟩
    rw [hlen] at hj
    rw [hc' j (by omega), List.getElem?_take, if_pos hj, List.getD_eq_getElem?_getD]
  · have : L = 0 := by omega
    subst this
    exact ⟨A, C, 0, 0, by simp, ⟨by simp, by simp⟩, h0, by simp, hm⟩
theorem mem_weightsAll {H : Type} {P : Program} {e : TypeId} : ∀ {ds : List (DataW H)} {d : DataW H}, d ∈ ds → ∀ n ∈ d.weights P e, n ∈ DataW.weightsAll P e ds
  | x :: r, d, h, n, hn => by
    rw [DataW.weightsAll]
    rcases List.mem_cons.1 h with rfl | h
    · exact List.mem_append_left _ hn
    · exact List.mem_append_right _ (mem_weightsAll h n hn)
set_option maxRecDepth 100000 in
/-- A list of lists of ints that came in: its value, and what it reads as. -/
theorem open_lists {H : Type} {enc : TypeId × Value → H} {W : World} {b0 : Nat} {v : Value} {d : DataW H} {ps : List MemPlace} (hval : Value.okWide Try.prog W .any b0 22 v)
    (hd : DataW.Trod enc Try.prog W 0 (fun _ => true) true 22 v d ps) (hw : (d.weights Try.prog 22).all (· ≤ reachBytes) = true) : ∃ ls : List (List Int), (∀ W', Below W.heap.size W W' → 0 < W'.heap.size → SlL W' v ls) ∧ ∀ p, p ∈ ls → p.length * 8 ≤ 140737488355328 := by
  obtain ⟨a, len, cap, rfl⟩ := okWide_slice und22 hval
  obtain ⟨fuel, hf⟩ := hd
  rcases Go.Deep.open_int_rows und22 und24 und3 (by kernel_rfl) (by kernel_rfl) hf with ⟨hcs, _⟩ | ⟨x, l, c, A, L, C, Z, hcs, _, hl, hm, hx, hrow⟩
  · simp [Value.cells] at hcs
    obtain ⟨rfl, rfl, rfl⟩ := hcs
    exact ⟨[], fun W' _ h0 => ⟨none, 0, 0, 0, rfl, by simp, by simp, h0, Nat.le_refl _, Nat.zero_le _⟩, by simp⟩
  · simp [Value.cells] at hcs
    obtain ⟨rfl, rfl, rfl⟩ := hcs
    refine ⟨(List.range len).map fun r => (Z r).take (L r), ?_, ?_⟩
    · intro W' hB h0'
      have hlen : ((List.range len).map fun r => (Z r).take (L r)).length = len := by simp
      by_cases hpos : 0 < len
      · obtain ⟨b, o, spot⟩ := x
        have hspot : spot = none := by simpa [Addr.add] using World.cell?_spot (hrow 0 (by omega)).1
        subst hspot
        have hadd : ∀ r, (⟨b, o, none⟩ : Addr).add r = ⟨b, o + r, none⟩ := fun r => by unfold Addr.add; split <;> simp_all
        have hbl := World.block_lt_of_cell? W _ (hrow 0 (by omega)).1
        have h0 : 0 < W.heap.size := by omega
        refine SlL.below ?_ hB
        refine ⟨some ⟨b, o, none⟩, cap, b, o, by rw [hlen], fun _ => rfl, fun j hj => ?_, ?_, by rw [hlen]; exact hl, hm⟩
        · rw [hlen] at hj
          obtain ⟨h1, h2, h3, h4, _, h6, h7⟩ := hrow j (by omega)
          rw [hadd j] at h1
          refine ⟨_, h1, ?_⟩
          have e1 : ((List.range len).map fun r => (Z r).take (L r))[j]?.getD [] = (Z j).take (L j) := by simp [hj]
          rw [e1]
          exact row_of h0 h2 h3 h4 h6 (fun a' ha c hc => (h7 a' ha).2 c hc)
        · have h1 := (hrow 0 (by omega)).1
          exact World.block_lt_of_cell? W _ h1
      · have : len = 0 := by omega
        subst this
        exact ⟨some x, cap, 0, 0, by simp, by simp, by simp, h0', by simp, hm⟩
    · intro p hp
      obtain ⟨r, hr, rfl⟩ := List.mem_map.1 hp
      have hrl : r < len := List.mem_range.1 hr
      obtain ⟨_, h2, _, h4, _, h6, _⟩ := hrow r (by omega)
      have hdx := congrArg Prod.fst hx
      simp only at hdx
      subst hdx
      cases hA : A r with
      | none =>
        have := h6 hA
        rw [List.length_take]; omega
      | some a' =>
        have hmem : (lits (H := H) .i64 ((Z r).take (L r))).length + (lits (H := H) .i64 ((Z r).drop (L r))).length = (Z r).length := by simp [lits]; omega
        have := List.all_eq_true.1 hw (((lits (H := H) .i64 ((Z r).take (L r))).length + (lits (H := H) .i64 ((Z r).drop (L r))).length) * Try.prog.bytesOf 3) (by
          simp only [DataW.weights, und22]
          refine List.mem_cons_of_mem _ (List.mem_append_left _ (mem_weightsAll (List.mem_map.2 ⟨r, hr, rfl⟩) _ ?_))
          rw [hA]
          simp [Go.Deep.intRow, DataW.weights])
        rw [show Try.prog.bytesOf 3 = 8 by kernel_rfl, hmem] at this
        simp only [decide_eq_true_eq] at this
        unfold reachBytes at this
        rw [List.length_take]; omega
end Go.Proofs.Ytgphcfmiamiojaa
