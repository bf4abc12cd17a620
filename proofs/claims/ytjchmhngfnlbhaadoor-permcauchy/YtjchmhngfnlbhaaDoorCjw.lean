/- Slices of cycles in a list by their lengths: what is owned while they grow, and what is read when they are taken. No condition. -/
import Derived.Test.YtjchmhngfnlbhaaDoorCjm
import Derived.Test.YtjchmhngfnlbhaaDoorLso
import Derived.Test.YtjchmhngfnlbhaaDoorOrd
namespace Go.Proofs.YtjchmhngfnlbhaaDoor
open Go Go.RowKit

/-- A row of points, in a block of its own that is one of ok. -/
def RowAt (ok : Nat → Prop) (W : World) (r : Value) (c : List Nat) : Prop :=
  ∃ g cap, r = .slice (some ⟨g, 0, none⟩) c.length cap ∧ ok g ∧ W.ownsRow 0 3 1 r c.length (pts c)
theorem RowAt.kept {ok : Nat → Prop} {W W' : World} {r : Value} {c : List Nat} (h : RowAt ok W r c) (hk : ∀ (k : Nat) (c : Array Value) (fz : Nat × Nat), ok k → W.heap[k]? = some (.cells c 3 fz) → W'.heap[k]? = some (.cells c 3 fz)) : RowAt ok W' r c := by
  obtain ⟨g, cap, rfl, h1, h2⟩ := h
  refine ⟨g, cap, rfl, h1, h2.1, ?_⟩
  rcases h2.2 with h0 | ⟨g9, cap9, cur, hv, hg, hh, r⟩
  · exact .inl h0
  · cases hv
    exact .inr ⟨g, cap, cur, rfl, hg, hk _ _ _ h1 hh, r⟩
/-- Cycles, owned by a slice that grows. -/
def LO (ok : Nat → Prop) (W : World) (v : Value) (L : List (List Nat)) : Prop :=
  ∃ ws, W.ownsRow 0 22 1 v L.length ws ∧ (∀ b, v.ownBlock = some b → ok b) ∧ ∀ i, i < L.length → ∃ r, ws[i]? = some r ∧ RowAt ok W r (L[i]?.getD [])
theorem LO.nil (ok : Nat → Prop) (W : World) : LO ok W (.slice none 0 0) [] :=
  ⟨[], World.ownsRow_nil _ _ _ _, fun b h => by simp [Value.ownBlock] at h, fun i h => by simp at h⟩
theorem LO.kept {ok : Nat → Prop} {W W' : World} {v : Value} {L : List (List Nat)} (h : LO ok W v L) (hv : ∀ b, v.ownBlock = some b → W'.heap[b]? = W.heap[b]?)
    (hk : ∀ (k : Nat) (c : Array Value) (fz : Nat × Nat), ok k → W.heap[k]? = some (.cells c 3 fz) → W'.heap[k]? = some (.cells c 3 fz)) : LO ok W' v L := by
  obtain ⟨ws, h1, h2, h3⟩ := h
  refine ⟨ws, ⟨h1.1, ?_⟩, h2, fun i hi => ?_⟩
  · rcases h1.2 with h0 | ⟨g9, cap9, cur, he, hg, hh, r⟩
    · exact .inl h0
    · refine .inr ⟨g9, cap9, cur, he, hg, ?_, r⟩
      rw [hv g9 (by rw [he]; rfl)]; exact hh
  · obtain ⟨r, r1, r2⟩ := h3 i hi
    exact ⟨r, r1, r2.kept hk⟩
/-- It has grown by one. -/
theorem LO.snoc {ok : Nat → Prop} {W W' : World} {v' : Value} {L : List (List Nat)} {ws : List Value} {c : List Nat} {r : Value} (h3 : ∀ i, i < L.length → ∃ r, ws[i]? = some r ∧ RowAt ok W r (L[i]?.getD [])) (hl : ws.length = L.length)
    (ho : W'.ownsRow 0 22 1 v' (L.length + 1) (ws ++ [r])) (hv : ∀ b, v'.ownBlock = some b → ok b) (hr : RowAt ok W r c)
    (hk : ∀ (k : Nat) (c : Array Value) (fz : Nat × Nat), ok k → W.heap[k]? = some (.cells c 3 fz) → W'.heap[k]? = some (.cells c 3 fz)) : LO ok W' v' (L ++ [c]) := by
  refine ⟨ws ++ [r], by rw [List.length_append]; exact ho, hv, fun i hi => ?_⟩
  rw [List.length_append] at hi
  by_cases e : i < L.length
  · rw [List.getElem?_append_left e, List.getElem?_append_left (by omega)]
    obtain ⟨r, r1, r2⟩ := h3 i e
    exact ⟨r, r1, r2.kept hk⟩
  · obtain rfl : i = L.length := by simp at hi; omega
    refine ⟨r, by rw [← hl]; simp, ?_⟩
    rw [show (L ++ [c])[L.length]?.getD [] = c by simp]
    exact hr.kept hk
/-- The block of cycles that grow is none of the rows. -/
theorem LO.own {ok : Nat → Prop} {W : World} {v : Value} {L : List (List Nat)} (h : LO ok W v L) {b : Nat} (hb : v.ownBlock = some b) : ∃ cur, W.heap[b]? = some (.cells cur 22 (0, 0)) := by
  obtain ⟨ws, h1, h2, h3⟩ := h
  rcases h1.2 with ⟨rfl, _⟩ | ⟨g9, cap9, cur, rfl, hg, hh, r⟩
  · simp [Value.ownBlock] at hb
  · simp [Value.ownBlock] at hb
    subst hb
    exact ⟨cur, hh⟩

/-- Cycles that are read, from a place in a block on. -/
def LC (ok : Nat → Prop) (W : World) (v : Value) (L : List (List Nat)) : Prop :=
  ∃ a cap, v = .slice a L.length cap ∧ L.length ≤ cap ∧ cap ≤ maxLen ∧ (0 < L.length → ∃ g d, a = some ⟨g, d, none⟩ ∧ ok g ∧ ∀ i, i < L.length → ∃ r, W.cell? ⟨g, d + i, none⟩ = some r ∧ RowAt ok W r (L[i]?.getD []))
theorem LO.reads {ok ok' : Nat → Prop} {W : World} {v : Value} {L : List (List Nat)} (h : LO ok W v L) (hok : ∀ b, ok b → b < W.heap.size → ok' b) : LC ok' W v L := by
  obtain ⟨ws, h1, h2, h3⟩ := h
  rcases h1.2 with ⟨rfl, h0⟩ | ⟨g, cap, cur, rfl, hg, hh, hc1, hc2, hc3, hc4⟩
  · exact ⟨none, 0, by rw [h0], by omega, by unfold maxLen; omega, fun h => by omega⟩
  · have hgl := (Array.getElem?_eq_some_iff.1 hh).1
    refine ⟨_, cap, rfl, hc1, hc2, fun _ => ⟨g, 0, rfl, hok g (h2 g rfl) hgl, fun i hi => ?_⟩⟩
    obtain ⟨r, r1, g2, cap2, rfl, r3, r4⟩ := h3 i hi
    have h4 := h1.cells (g := g) rfl i _ r1
    rw [show (⟨g, 0, none⟩ : Addr).add i = ⟨g, 0 + i, none⟩ by unfold Addr.add; split <;> simp_all] at h4
    have hg2 : g2 < W.heap.size := by
      rcases r4.2 with ⟨h, _⟩ | ⟨g', c, cur, h, _, hh, _⟩
      · cases h
      · cases h; exact (Array.getElem?_eq_some_iff.1 hh).1
    exact ⟨_, h4, g2, cap2, rfl, hok g2 r3 hg2, r4⟩
theorem LC.kept {ok : Nat → Prop} {W W' : World} {v : Value} {L : List (List Nat)} (h : LC ok W v L) (hk : ∀ b, ok b → W'.heap[b]? = W.heap[b]?) : LC ok W' v L := by
  obtain ⟨a, cap, rfl, h1, h2, h3⟩ := h
  refine ⟨a, cap, rfl, h1, h2, fun h0 => ?_⟩
  obtain ⟨g, d, rfl, g1, g2⟩ := h3 h0
  refine ⟨g, d, rfl, g1, fun i hi => ?_⟩
  obtain ⟨r, r1, r2⟩ := g2 i hi
  exact ⟨r, (World.cell?_of_block (a := ⟨g, d + i, none⟩) (hk g g1)).trans r1, r2.kept (fun k c fz ho hh => (hk k ho).trans hh)⟩
theorem LC.nilv {ok : Nat → Prop} {W : World} {v : Value} (h : LC ok W v []) : ∃ a cap, v = .slice a 0 cap := by
  obtain ⟨a, cap, rfl, _⟩ := h
  exact ⟨a, cap, rfl⟩
/-- The first of them, and the others. -/
theorem LC.cons {ok : Nat → Prop} {W : World} {v : Value} {D : List Nat} {L : List (List Nat)} (h : LC ok W v (D :: L)) :
    ∃ g d cap g2 cap2, v = .slice (some ⟨g, d, none⟩) (L.length + 1) cap ∧ L.length + 1 ≤ cap ∧ cap ≤ maxLen ∧ ok g ∧ ok g2 ∧ W.cell? ⟨g, d, none⟩ = some (.slice (some ⟨g2, 0, none⟩) D.length cap2) ∧
      (∀ i, i < D.length → W.cell? ⟨g2, i, none⟩ = some (.int .i64 ((D[i]?.getD 0 : Nat) : Int))) ∧ ∀ a, (0 < L.length → a = some ⟨g, d + 1, none⟩) → LC ok W (.slice a L.length (cap - 1)) L := by
  obtain ⟨a, cap, rfl, h1, h2, h3⟩ := h
  obtain ⟨g, d, rfl, g1, g2⟩ := h3 (by simp)
  obtain ⟨r, r1, g9, cap9, rfl, r3, r4⟩ := g2 0 (by simp)
  rw [Nat.add_zero] at r1
  have e0 : ((D :: L)[0]?.getD []) = D := rfl
  rw [e0] at r1 r4
  refine ⟨g, d, cap, g9, cap9, rfl, h1, h2, g1, r3, r1, fun i hi => ?_, fun a ha => ⟨a, cap - 1, rfl, by simp at h1; omega, by omega, fun h0 => ⟨g, d + 1, ha h0, g1, fun i hi => ?_⟩⟩⟩
  · have h4 := r4.cells (g := g9) rfl i (.int .i64 ((D[i]?.getD 0 : Nat) : Int)) (by simp [pts, List.getElem?_eq_getElem hi])
    rwa [show (⟨g9, 0, none⟩ : Addr).add i = ⟨g9, i, none⟩ by unfold Addr.add; split <;> simp_all] at h4
  · obtain ⟨r, k1, k2⟩ := g2 (i + 1) (by simp; omega)
    rw [show d + (i + 1) = d + 1 + i by omega] at k1
    exact ⟨r, k1, k2⟩
end Go.Proofs.YtjchmhngfnlbhaaDoor
