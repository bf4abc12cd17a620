/- Lists of lists in memory; what Cayley of package table answers. -/
import Derived.Test.YtgphcfmiamiojaaMake
namespace Go.Proofs.Ytgphcfmiamiojaa
open Go Go.RowKit

/-- A slice of slices of ints that reads as rs. -/
def SlL (w : World) (v : Value) (rs : List (List Int)) : Prop := ∃ a cap pb po, v = .slice a rs.length cap ∧ (0 < rs.length → a = some ⟨pb, po, none⟩) ∧ (∀ j, j < rs.length → ∃ x, w.cell? ⟨pb, po + j, none⟩ = some x ∧ Sl w x (rs[j]?.getD [])) ∧ pb < w.heap.size ∧ rs.length ≤ cap ∧ cap ≤ maxLen
theorem SlL.below {w w' : World} {v : Value} {rs : List (List Int)} (h : SlL w v rs) (hb : Below w.heap.size w w') : SlL w' v rs := by
  obtain ⟨a, cap, pb, po, hv, h0, hr, hp, h1, h2⟩ := h
  refine ⟨a, cap, pb, po, hv, h0, fun j hj => ?_, Nat.lt_of_lt_of_le hp hb.size, h1, h2⟩
  obtain ⟨x, hx, hs⟩ := hr j hj
  exact ⟨x, below_cell hb hx, hs.below hb⟩
theorem info22b : (Try.prog.info? 24).map (fun i => (i.zero, i.size, i.bytes)) = some (some (.slice none 0 0), 1, 24) := by kernel_rfl
theorem under57b : Try.prog.underlying 22 = some (.slice 24) := by kernel_rfl

/-- The first k cells filled with rows. -/
def fillV (n : Nat) (g : Nat → Nat) (k : Nat) : List Value := (List.range n).map fun j => if j < k then .slice (some ⟨g j, 0, none⟩) n n else .slice none 0 0
theorem fillV_len (n : Nat) (g : Nat → Nat) (k : Nat) : (fillV n g k).length = n := by simp [fillV]
theorem fillV_zero (n : Nat) (g : Nat → Nat) : fillV n g 0 = List.replicate n (.slice none 0 0) := by
  apply List.ext_getElem
  · simp [fillV]
  · intro i h1 h2; simp [fillV]
theorem fillV_get {n : Nat} {g : Nat → Nat} {k j : Nat} (hj : j < n) : (fillV n g k)[j]? = some (if j < k then .slice (some ⟨g j, 0, none⟩) n n else .slice none 0 0) := by simp [fillV, hj]
def upd (g : Nat → Nat) (k b : Nat) : Nat → Nat := fun j => if j = k then b else g j
theorem fillV_set {n : Nat} {g : Nat → Nat} {k b : Nat} (_hk : k < n) : (fillV n g k).set k (.slice (some ⟨b, 0, none⟩) n n) = fillV n (upd g k b) (k + 1) := by
  apply List.ext_getElem
  · simp [fillV]
  · intro i h1 h2
    rw [List.getElem_set]
    by_cases e : k = i
    · subst e; simp [fillV, upd]
    · have e' : ¬ i = k := fun h => e h.symm
      by_cases l : i < k
      · simp [fillV, upd, e, e', l, Nat.lt_succ_of_lt l]
      · have l2 : ¬ i < k + 1 := by omega
        simp [fillV, e, l, l2]

/-- Of thing a the permutation that moves x to x a. -/
def cayR (n : Nat) (zs : List Int) (a : Nat) : List Int := (List.range n).map fun x => (tm n zs x a : Int)
def cayL (n : Nat) (zs : List Int) : List (List Int) := (List.range n).map (cayR n zs)
theorem cayR_len (n : Nat) (zs : List Int) (a : Nat) : (cayR n zs a).length = n := by simp [cayR]
theorem cayL_len (n : Nat) (zs : List Int) : (cayL n zs).length = n := by simp [cayL]
theorem cayL_get {n : Nat} {zs : List Int} {a : Nat} (ha : a < n) : (cayL n zs)[a]?.getD [] = cayR n zs a := by simp [cayL, ha]
theorem cayR_get {n : Nat} {zs : List Int} {a x : Nat} (hx : x < n) : (cayR n zs a)[x]?.getD 0 = (tm n zs x a : Int) := by simp [cayR, hx]

theorem SlL.of_blk {w : World} {g n : Nat} {gs : Nat → Nat} {zs : List Int} (h : Blk w g 24 (fillV n gs n)) (hr : ∀ j, j < n → Blk w (gs j) 3 ((cayR n zs j).map (Value.int .i64))) (hl : n ≤ 60) : SlL w (.slice (some ⟨g, 0, none⟩) n n) (cayL n zs) := by
  refine ⟨some ⟨g, 0, none⟩, n, g, 0, by rw [cayL_len], fun _ => rfl, fun j hj => ?_, h.lt, by rw [cayL_len]; exact Nat.le_refl _, by unfold maxLen; omega⟩
  rw [cayL_len] at hj
  refine ⟨.slice (some ⟨gs j, 0, none⟩) n n, ?_, ?_⟩
  · rw [Nat.zero_add, h.cell, fillV_get hj, if_pos hj]
  · rw [cayL_get hj]
    exact Sl.of_blk (hr j hj) (by rw [cayR_len]) (by rw [cayR_len]; omega)

end Go.Proofs.Ytgphcfmiamiojaa
