/- What package slices' DeleteFunc answers of sets. -/
import Derived.Test.YtelglfegpfhbpaaDoorSg4
import Derived.Laws.OwnMore
import Derived.Lib.SliceRun
namespace Go.Proofs.YtelglfegpfhbpaaDoor
open Go Go.RowKit

theorem zero82 (w : World) : (zeroValue 82).run Tryd.prog w = .ok (.int .u64 0) w := by kernel_rfl
/-- A slice of numbers, as values. -/
def uv (xs : List Nat) : List Value := xs.map fun (s : Nat) => Value.int .u64 (s : Int)
theorem uv_len (xs : List Nat) : (uv xs).length = xs.length := by simp [uv]
theorem uv_set (xs : List Nat) (i s : Nat) : (uv xs).set i (.int .u64 (s : Int)) = uv (xs.set i s) := by simp [uv, List.map_set]
theorem uv_cell {w : World} {base g n cap : Nat} {xs : List Nat} (h : w.ownsRow base 82 1 (.slice (some ⟨g, 0, none⟩) n cap) n (uv xs)) {j : Nat} (hj : j < xs.length) : w.cell? ⟨g, j, none⟩ = some (.int .u64 (xs[j]?.getD 0 : Nat)) := by
  have h3 := h.cells (g := g) rfl j (.int .u64 (xs[j]?.getD 0 : Nat)) (by simp [uv, hj])
  rw [show (⟨g, 0, none⟩ : Addr).add j = ⟨g, j, none⟩ by unfold Addr.add; split <;> simp_all] at h3
  exact h3
/-- Where i of the first j are kept, and lie ahead. -/
structure Del (xs L : List Nat) (t : Nat → Bool) (i j : Nat) : Prop where
  len : L.length = xs.length
  ij : i < j
  jl : j ≤ xs.length
  kept : L.take i = (xs.take j).filter fun s => !t s
  rest : ∀ b, j ≤ b → L[b]?.getD 0 = xs[b]?.getD 0
theorem Del.start {xs : List Nat} {t : Nat → Bool} (h : xs.findIdx t < xs.length) : Del xs xs t (xs.findIdx t) (xs.findIdx t + 1) := by
  refine ⟨rfl, by omega, by omega, ?_, fun _ _ => rfl⟩
  have h1 : ∀ b, b < xs.findIdx t → t (xs[b]?.getD 0) = false := fun b hb => by
    have := List.not_of_lt_findIdx hb
    rw [List.getElem?_eq_getElem (by omega)]
    simpa using this
  rw [List.take_succ_eq_append_getElem h, List.filter_append, List.filter_cons, if_neg (by simp [List.findIdx_getElem (w := h)]), List.filter_nil, List.append_nil, List.filter_eq_self.2]
  intro s hs
  obtain ⟨b, hb, rfl⟩ := List.mem_iff_getElem.1 hs
  rw [List.length_take] at hb
  have := h1 b (by omega)
  rw [List.getElem?_eq_getElem (by omega)] at this
  rw [List.getElem_take]
  simpa using this
theorem Del.drop {xs L : List Nat} {t : Nat → Bool} {i j : Nat} (h : Del xs L t i j) (hj : j < xs.length) (ht : t (xs[j]?.getD 0) = true) : Del xs L t i (j + 1) := by
  obtain ⟨h1, h2, h3, h4, h5⟩ := h
  refine ⟨h1, by omega, by omega, ?_, fun b hb => h5 b (by omega)⟩
  rw [List.getElem?_eq_getElem hj] at ht
  rw [h4, List.take_succ_eq_append_getElem hj, List.filter_append, List.filter_cons, if_neg (by simpa using ht), List.filter_nil, List.append_nil]
theorem Del.keep {xs L : List Nat} {t : Nat → Bool} {i j : Nat} (h : Del xs L t i j) (hj : j < xs.length) (ht : t (xs[j]?.getD 0) = false) : Del xs (L.set i (xs[j]?.getD 0)) t (i + 1) (j + 1) := by
  obtain ⟨h1, h2, h3, h4, h5⟩ := h
  refine ⟨by rw [List.length_set]; exact h1, by omega, by omega, ?_, fun b hb => ?_⟩
  · rw [List.getElem?_eq_getElem hj] at ht ⊢
    rw [List.take_succ_eq_append_getElem hj, List.filter_append, List.filter_cons, if_pos (by simpa using ht), List.filter_nil, ← h4]
    rw [List.take_succ_eq_append_getElem (by rw [List.length_set]; omega), List.take_set, List.set_eq_of_length_le (by rw [List.length_take]; omega)]
    simp
  · rw [List.getElem?_set_ne (by omega)]
    exact h5 b (by omega)
theorem Del.fin {xs L : List Nat} {t : Nat → Bool} {i j : Nat} (h : Del xs L t i j) (hj : xs.length ≤ j) : L.take i = xs.filter fun s => !t s := by
  rw [h.kept, List.take_of_length_le hj]
end Go.Proofs.YtelglfegpfhbpaaDoor
