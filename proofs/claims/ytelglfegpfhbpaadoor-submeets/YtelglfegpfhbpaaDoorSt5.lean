/- Slices of slices of ints; what slices.SortFunc answers with All's closure. -/
import Derived.Test.YtelglfegpfhbpaaDoorSt4
import Derived.Shelf.SlSortCmp.Whole1
import Derived.Shelf.Lay
import Derived.Ground.SlsfProg
namespace Go.Proofs.YtelglfegpfhbpaaDoor
open Go Go.RowKit

/-- The lists that lie in a slice of slices. -/
def Lsts (W : World) (B : Nat) (r : Value) (vs : List Value) (ls : List (List Int)) : Prop := vs.length = ls.length ∧ ∀ (t : Nat) (x : Value) (l : List Int), vs[t]? = some x → ls[t]? = some l → ∃ a cap pb po, x = .slice a l.length cap ∧ Reads W a pb po l ∧ pb < W.heap.size ∧ l.length ≤ cap ∧ cap ≤ maxLen ∧ B ≤ pb ∧ ∀ g, r.ownBlock = some g → pb ≠ g

theorem Lsts.keep {W W' : World} {B : Nat} {r r' : Value} {vs : List Value} {ls : List (List Int)} (h : Lsts W B r vs ls) (hs : W.heap.size ≤ W'.heap.size) (hk : ∀ g, B ≤ g → g < W.heap.size → r.ownBlock ≠ some g → W'.heap[g]? = W.heap[g]?) (hr : r'.ownBlock = r.ownBlock ∨ ∀ g, r'.ownBlock = some g → W.heap.size ≤ g) : Lsts W' B r' vs ls := by
  refine ⟨h.1, fun t x l h1 h2 => ?_⟩
  obtain ⟨a, cap, pb, po, rfl, h3, h4, h5, h6, h7, h8⟩ := h.2 t x l h1 h2
  refine ⟨a, cap, pb, po, rfl, h3.of_eq (hk pb h7 h4 (fun e => h8 pb e rfl)), Nat.lt_of_lt_of_le h4 hs, h5, h6, h7, fun g hg => ?_⟩
  rcases hr with hr | hr
  · exact h8 g (by rw [← hr]; exact hg)
  · have := hr g hg; omega
theorem Lsts.snoc {W : World} {B : Nat} {r : Value} {vs : List Value} {ls : List (List Int)} {x : Value} {l : List Int} (h : Lsts W B r vs ls) (hx : ∃ a cap pb po, x = Value.slice a l.length cap ∧ Reads W a pb po l ∧ pb < W.heap.size ∧ l.length ≤ cap ∧ cap ≤ maxLen ∧ B ≤ pb ∧ ∀ g, r.ownBlock = some g → pb ≠ g) : Lsts W B r (vs ++ [x]) (ls ++ [l]) := by
  refine ⟨by simp [h.1], fun t y m h1 h2 => ?_⟩
  by_cases ht : t < vs.length
  · rw [List.getElem?_append_left ht] at h1
    rw [List.getElem?_append_left (by rw [← h.1]; exact ht)] at h2
    exact h.2 t y m h1 h2
  · have hv : t = vs.length := by
      have := (List.getElem?_eq_some_iff.1 h1).1
      simp at this; omega
    subst hv
    rw [List.getElem?_append_right (Nat.le_refl _)] at h1
    rw [List.getElem?_append_right (by rw [h.1]; exact Nat.le_refl _), h.1] at h2
    simp at h1 h2
    subst h1 h2
    exact hx
theorem Lsts.mono {W : World} {B B' : Nat} {r : Value} {vs : List Value} {ls : List (List Int)} (h : Lsts W B r vs ls) (hb : B' ≤ B) : Lsts W B' r vs ls :=
  ⟨h.1, fun t x l h1 h2 => by
    obtain ⟨a, cap, pb, po, rfl, h3, h4, h5, h6, h7, h8⟩ := h.2 t x l h1 h2
    exact ⟨a, cap, pb, po, rfl, h3, h4, h5, h6, Nat.le_trans hb h7, h8⟩⟩
def SlL (w : World) (v : Value) (rs : List (List Int)) : Prop := ∃ a cap pb po, v = .slice a rs.length cap ∧ (0 < rs.length → a = some ⟨pb, po, none⟩) ∧ (∀ j, j < rs.length → ∃ x, w.cell? ⟨pb, po + j, none⟩ = some x ∧ Sl w x (rs[j]?.getD [])) ∧ pb < w.heap.size ∧ rs.length ≤ cap ∧ cap ≤ maxLen
theorem SlL.below {w w' : World} {v : Value} {rs : List (List Int)} (h : SlL w v rs) (hb : Below w.heap.size w w') : SlL w' v rs := by
  obtain ⟨a, cap, pb, po, rfl, h1, h2, h3, h4, h5⟩ := h
  exact ⟨a, cap, pb, po, rfl, h1, fun j hj => by
    obtain ⟨x, hx, hs⟩ := h2 j hj
    exact ⟨x, below_cell hb hx, hs.below hb⟩, Nat.lt_of_lt_of_le h3 hb.size, h4, h5⟩
theorem SlL.isSlice {w : World} {v : Value} {rs : List (List Int)} (h : SlL w v rs) : ∃ a l c, v = .slice a l c := by
  obtain ⟨a, cap, _, _, rfl, _⟩ := h
  exact ⟨a, _, cap, rfl⟩
theorem SlL.of_own {w : World} {base B : Nat} {v : Value} {vs : List Value} {rs : List (List Int)} (h : w.ownsRow base 22 1 v vs.length vs) (hl : Lsts w B v vs rs) (h0 : 0 < w.heap.size) : SlL w v rs := by
  have hlen := hl.1
  rcases h.2 with ⟨rfl, hz⟩ | ⟨g, cap, cur, rfl, _, hh, h1, h2, _⟩
  · have : rs = [] := List.length_eq_zero_iff.1 (by omega)
    subst this
    exact ⟨none, 0, 0, 0, rfl, by simp, by simp, h0, by simp, by unfold maxLen; omega⟩
  · refine ⟨some ⟨g, 0, none⟩, cap, g, 0, by rw [hlen], fun _ => rfl, fun j hj => ?_, (Array.getElem?_eq_some_iff.1 hh).1, by omega, h2⟩
    have hjv : j < vs.length := by omega
    have h3 := h.cells (g := g) rfl j vs[j] (by simp [hjv])
    rw [show (⟨g, 0, none⟩ : Addr).add j = ⟨g, j, none⟩ by unfold Addr.add; split <;> simp_all] at h3
    obtain ⟨a, c, pb, po, hx, hr, hp, hq1, hq2, _, _⟩ := hl.2 j vs[j] rs[j] (List.getElem?_eq_getElem hjv) (List.getElem?_eq_getElem hj)
    refine ⟨vs[j], by rw [Nat.zero_add]; exact h3, ?_⟩
    rw [List.getElem?_eq_getElem hj]
    exact ⟨a, c, pb, po, hx, hr, hp, hq1, hq2⟩

theorem sw_heap {α : Type} [Inhabited α] (enc : α → Value) (w : World) (g m : Nat) (dk : Array α) (os : Array Obj) {b : Nat} (hb : b < w.heap.size) (hne : b ≠ g) : (sortWorld enc w g 0 m dk os).heap[b]? = w.heap[b]? := by
  show ((w.heap.modify g _) ++ os)[b]? = _
  rw [Array.getElem?_append_left (by rw [Array.size_modify]; exact hb), Array.getElem?_modify, if_neg (fun h => hne h.symm)]
theorem sw_size {α : Type} [Inhabited α] (enc : α → Value) (w : World) (g m : Nat) (dk : Array α) (os : Array Obj) : w.heap.size ≤ (sortWorld enc w g 0 m dk os).heap.size := by
  show _ ≤ ((w.heap.modify g _) ++ os).size
  rw [Array.size_append, Array.size_modify]; omega
theorem sw_below {α : Type} [Inhabited α] (enc : α → Value) (w : World) (g m : Nat) (dk : Array α) (os : Array Obj) {B : Nat} (hB : B ≤ g) (hg : g < w.heap.size) : Below B w (sortWorld enc w g 0 m dk os) :=
  ⟨rfl, rfl, rfl, sw_size enc w g m dk os, fun b hb => sw_heap enc w g m dk os (by omega) (by omega)⟩
theorem swo_cmpN {α : Type} (f : α → List Int) : Go.Sort.SWO (ltOf fun i j => cmpN (f i) (f j)) where
  irrefl x := by
    have : cmpN (f x) (f x) = 0 := cmpN_zero.2 rfl
    unfold ltOf; simp [this]
  trans x y z h1 h2 := by
    unfold ltOf at *
    rw [decide_eq_true_eq] at *
    exact cmpN_trans h1 h2
  ntrans x y z h1 h2 := by
    unfold ltOf at *
    rw [decide_eq_false_iff_not] at *
    exact cmpN_ge h1 h2
shelf_lay_g SlLaysF.n6 Slsf 6 at Tryd 76 as sortLists
end Go.Proofs.YtelglfegpfhbpaaDoor
