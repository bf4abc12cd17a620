/- Slices of cycles in a list by their lengths: what is owned while they grow, and what is read when they are taken. No condition. -/
import Derived.Test.YtjchmhngfnlbhaaDoorCjm
import Derived.Test.YtjchmhngfnlbhaaDoorLso
import Derived.Test.YtjchmhngfnlbhaaDoorOrd
namespace Go.Proofs.YtjchmhngfnlbhaaDoor
open Go Go.RowKit

/-- A row of points, in a block of its own that is one of ok. -/
def RowAt (ok : Nat → Prop) (W : World) (r : Value) (c : List Nat) : Prop :=
  ∃ g cap, r = .slice (some ⟨g, 0, none⟩) c.length cap ∧ ok g ∧ W.ownsRow 0 3 1 r c.length (pts c)
theorem RowAt.kept {ok : Nat → Prop} {W W' : World} {r : Value} {c : List Nat} (h : RowAt ok W r c) (hk : ∀ (k : Nat) (c : Array Value) (fz : Nat × Nat), ok k → W.heap[k]? = some (.cells c 3 fz) → W'.heap[k]? = some (.cells c 3 fz)) : RowAt ok W' r c := by
  obtain ⟨g, cap, rfl, h1, h2⟩ := h
  refine ⟨g, cap, rfl, h1, h2.1, ?_⟩
  rcases h2.2 with h0 | ⟨g9, cap9, cur, hv, hg, hh, r⟩
  · exact .inl h0
  · cases hv
    exact .inr ⟨g, cap, cur, rfl, hg, hk _ _ _ h1 hh, r⟩
/-- Cycles, owned by a slice that grows. -/
def LO (ok : Nat → Prop) (W : World) (v : Value) (L : List (List Nat)) : Prop :=
  ∃ ws, W.ownsRow 0 22 1 v L.length ws ∧ (∀ b, v.ownBlock = some b → ok b) ∧ ∀ i, i < L.length → ∃ r, ws[i]? = some r ∧ RowAt ok W r (L[i]?.getD [])
theorem LO.nil (ok : Nat → Prop) (W : World) : LO ok W (.slice none 0 0) [] :=
  ⟨[], World.ownsRow_nil _ _ _ _, fun b h => by simp [Value.ownBlock] at h, fun i h => by simp at h⟩
theorem LO.kept {ok : Nat → Prop} {W W' : World} {v : Value} {L : List (List Nat)} (h : LO ok W v L) (hv : ∀ b, v.ownBlock = some b → W'.heap[b]? = W.heap[b]?)
    (hk : ∀ (k : Nat) (c : Array Value) (fz : Nat × Nat), ok k → W.heap[k]? = some (.cells c 3 fz) → W'.heap[k]? = some (.cells c 3 fz)) : LO ok W' v L := by
  obtain ⟨ws, h1, h2, h3⟩ := h
  refine ⟨ws, ⟨h1.1, ?_⟩, h2, fun i hi => ?_⟩
  · rcases h1.2 with h0 | ⟨g9, cap9, cur, he, hg, hh, r⟩
    · exact .inl h0
    · refine .inr ⟨g9, cap9, cur, he, hg, ?_, r⟩
      rw [hv g9 (by rw [he]; rfl)]; exact hh
  · obtain ⟨r, r1, r2⟩ := h3 i hi
    exact ⟨r, r1, r2.kept hk⟩
/-- It has grown by one. -/
theorem LO.snoc {ok : Nat → Prop} {W W' : World} {v' : Value} {L : List (List Nat)} {ws : List Value} {c : List Nat} {r : Value} (h3 : ∀ i, i < L.length → ∃ r, ws[i]? = some r ∧ RowAt ok W r (L[i]?.getD [])) (hl : ws.length = L.length)
    (ho : W'.ownsRow 0 22 1 v' (L.length + 1) (ws ++ [r])) (hv : ∀ b, v'.ownBlock = some b → ok b) (hr : RowAt ok W r c)
    (hk : ∀ (k : Nat) (c : Array Value) (fz : Nat × Nat), ok k → W.heap[k]? = some (.cells c 3 fz) → W'.heap[k]? = some (.cells c 3 fz)) : LO ok W' v' (L ++ [c]) := by
  refine ⟨ws ++ [r], by rw [List.length_append]; exact ho, hv, fun i hi => ?_⟩
  rw [List.length_append] at hi
  by_cases e : i < L.length
  · rw [List.getElem?_append_left e, List.getElem?_append_left (by omega)]
    obtain ⟨r, r1, r2⟩ := h3 i e
    exact ⟨r, r1, r2.kept hk⟩
  · obtain rfl : i = L.length := by simp at hi; omega
    refine ⟨r, by rw [← hl]; simp, ?_⟩
    rw [show (L ++ [c])[L.length]?.getD [] = c by simp]
    exact hr.kept hk
/-- The block of cycles that grow is none of the rows. -/
theorem LO.own {ok : Nat → Prop} {W : World} {v : Value} {L : List (List Nat)} (h : LO ok W v L) {b : Nat} (hb : v.ownBlock = some b) : ∃ cur, W.heap[b]? = some (.cells cur 22 (0, 0)) := by
  obtain ⟨ws, h1, h2, h3⟩ := h
  rcases h1.2 with ⟨rfl, _⟩ | ⟨g9, cap9, cur, rfl, hg, hh, r⟩
  · simp [Value.ownBlock] at hb
  · simp [Value.ownBlock] at hb
    subst hb
    exact ⟨cur, hh⟩

/-- Cycles that are read, from a place in a block on. -/
def LC (ok : Nat → Prop) (W : World) (v : Value) (L : List (List Nat)) : Prop :=
  ∃ a cap, v = .slice a L.length cap ∧ L.length ≤ cap ∧ cap ≤ maxLen ∧ (0 < L.length → ∃ g d, a = some ⟨g, d, none⟩ ∧ ok g ∧ ∀ i, i < L.length → ∃ r, W.cell? ⟨g, d + i, none⟩ = some r ∧ RowAt ok W r (L[i]?.getD []))
theorem LO.reads {ok ok' : Nat → Prop} {W : World} {v : Value} {L : List (List Nat)} (h : LO ok W v L) (hok : ∀ b, ok b → b < W.heap.size → ok' b) : LC ok' W v L := by
  obtain ⟨ws, h1, h2, h3⟩ := h
  rcases h1.2 with ⟨rfl, h0⟩ | ⟨g, cap, cur, rfl, hg, hh, hc1, hc2, hc3, hc4⟩
  · exact ⟨none, 0, by rw [h0], by omega, by unfold maxLen; omega, fun h => by omega⟩
  · have hgl := (Array.getElem?_eq_some_iff.1 hh).1
    refine ⟨_, cap, rfl, hc1, hc2, fun _ => ⟨g, 0, rfl, hok g (h2 g rfl) hgl, fun i hi => ?_⟩⟩
    obtain ⟨r, r1, g2, cap2, rfl, r3, r4⟩ := h3 i hi
    have h4 := h1.cells (g := g) rfl i _ r1
    rw [show (⟨g, 0, none⟩ : Addr).add i = ⟨g, 0 + i, none⟩ by unfold Addr.add; split <;> simp_all] at h4
    have hg2 : g2 < W.heap.size := by
      rcases r4.2 with ⟨h, _⟩ | ⟨g', c, cur, h, _, hh, _⟩
      · cases h
      · cases h; exact (Array.getElem?_eq_some_iff.1 hh).1
    exact ⟨_, h4, g2, cap2, rfl, hok g2 r3 hg2, r4⟩
theorem LC.kept {ok : Nat → Prop} {W W' : World} {v : Value} {L : List (List Nat)} (h : LC ok W v L) (hk : ∀ b, ok b → W'.heap[b]? = W.heap[b]?) : LC ok W' v L := by
  obtain ⟨a, cap, rfl, h1, h2, h3⟩ := h
  refine ⟨a, cap, rfl, h1, h2, fun h0 => ?_⟩
  obtain ⟨g, d, rfl, g1, g2⟩ := h3 h0
  refine ⟨g, d, rfl, g1, fun i hi => ?_⟩
  obtain ⟨r, r1, r2⟩ := g2 i hi
  exact ⟨r, (World.cell?_of_block (a := ⟨g, d + i, none⟩) (hk g g1)).trans r1, r2.kept (fun k c fz ho hh => (hk k ho).trans hh)⟩
theorem LC.nilv {ok : Nat → Prop} {W : World} {v : Value} (h : LC ok W v []) : ∃ a cap, v = .slice a 0 cap := by
  obtain ⟨a, cap, rfl, _⟩ := h
  exact ⟨a, cap, rfl⟩
/-- The first of them, and the others. -/
theorem LC.cons {ok : Nat → Prop} {W : World} {v : Value} {D : List Nat} {L : List (List Nat)} (h : LC ok W v (D :: L)) :
    ∃ g d cap g2 cap2, v = .slice (some ⟨g, d, none⟩) (L.length + 1) cap ∧ L.length + 1 ≤ cap ∧ cap ≤ maxLen ∧ ok g ∧ ok g2 ∧ W.cell? ⟨g, d, none⟩ = some (.slice (some ⟨g2, 0, none⟩) D.length cap2) ∧
      (∀ i, i < D.length → W.cell? ⟨g2, i, none⟩ = some (.int .i64 ((D[i]?.getD 0 : Nat) : Int))) ∧ ∀ a, (0 < L.length → a = some ⟨g, d + 1, none⟩) → LC ok W (.slice a L.length (cap - 1)) L := by
  obtain ⟨a, cap, rfl, h1, h2, h3⟩ := h
  obtain ⟨g, d, rfl, g1, g2⟩ := h3 (by simp)
  obtain ⟨r, r1, g9, cap9, rfl, r3, r4⟩ := g2 0 (by simp)
  rw [Nat.add_zero] at r1
  have e0 : ((D :: L)[0]?.getD []) = D := rfl
  rw [e0] at r1 r4
  refine ⟨g, d, cap, g9, cap9, rfl, h1, h2, g1, r3, r1, fun i hi => ?_, fun a ha => ⟨a, cap - 1, rfl, by simp at h1; omega, by omega, fun h0 => ⟨g, d + 1, ha h0, g1, fun i hi => ?_⟩⟩⟩
  · have h4 := r4.cells (g := g9) rfl i (.int .i64 ((D[i]?.getD 0 : Nat) : Int)) (by simp [pts, List.getElem?_eq_getElem hi])
    rwa [show (⟨g9, 0, none⟩ : Addr).add i = ⟨g9, i, none⟩ by unfold Addr.add; split <;> simp_all] at h4
  · obtain ⟨r, k1, k2⟩ := g2 (i + 1) (by simp; omega)
    rw [show d + (i + 1) = d + 1 + i by omega] at k1
    exact ⟨r, k1, k2⟩

/-- What the first range keeps; in a table of slices, none of which has another's block. -/
structure J1 (w w3 : World) (L X n : Nat) (pre : List (List Nat)) (W : World) : Prop where
  ex : ∃ vs : List Value, vs.length = n + 1 ∧ Blk W L 24 vs ∧ (∀ k, k ≤ n → ∃ v, vs[k]? = some v ∧ LO (fun b => w3.heap.size + 3 ≤ b) W v (fk k pre)) ∧ ∀ (i j : Nat) (vi vj : Value) (b : Nat), vs[i]? = some vi → vs[j]? = some vj → vi.ownBlock = some b → vj.ownBlock = some b → i = j
  b7 : Boxed W X 83 (.slice (some ⟨L, 0, none⟩) (n + 1) (n + 1))
  b4 : Boxed W w.heap.size 22 (.slice none 0 0)
  b5 : Blk W (w.heap.size + 1) 26 [.int .i64 0, .int .i64 0]
  bel : Below w.heap.size w W
theorem J1.apart {w w3 : World} {L X n : Nat} {pre : List (List Nat)} {W W' : World} (h : J1 w w3 L X n pre W) (h1 : L < X ∧ X < w3.heap.size) (h2 : w.heap.size + 1 < w3.heap.size) (hA : Apart w3.heap.size (w3.heap.size + 3) W W') : J1 w w3 L X n pre W' := by
  obtain ⟨⟨vs, a1, a2, a3, a4⟩, b7, b4, b5, bel⟩ := h
  refine ⟨⟨vs, a1, a2.of_eq (hA.block _ a2.lt (by omega)), fun k hk => ?_, a4⟩, (hA.block _ b7.lt (by omega)).trans b7, (hA.block _ b4.lt (by omega)).trans b4, b5.of_eq (hA.block _ b5.lt (by omega)), bel.trans (hA.below (by omega) bel.size)⟩
  obtain ⟨v, e, hv⟩ := a3 k hk
  refine ⟨v, e, hv.kept (fun b hb => ?_) (fun k c fz ho hh => ?_)⟩
  · obtain ⟨cur, hc⟩ := hv.own hb
    have hok : w3.heap.size + 3 ≤ b := by obtain ⟨ws, _, g, _⟩ := hv; exact g b hb
    exact hA.block _ (Array.getElem?_eq_some_iff.1 hc).1 (by omega)
  · have ho' : w3.heap.size + 3 ≤ k := ho
    rw [hA.block _ (Array.getElem?_eq_some_iff.1 hh).1 (by omega)]; exact hh
/-- The table at the beginning. -/
theorem J1.new {w w3 : World} {L X n : Nat} {W : World} (hL : Blk W L 24 (List.replicate (n + 1) (.slice none 0 0))) (b7 : Boxed W X 83 (.slice (some ⟨L, 0, none⟩) (n + 1) (n + 1))) (b4 : Boxed W w.heap.size 22 (.slice none 0 0))
    (b5 : Blk W (w.heap.size + 1) 26 [.int .i64 0, .int .i64 0]) (bel : Below w.heap.size w W) : J1 w w3 L X n [] W := by
  refine ⟨⟨List.replicate (n + 1) (.slice none 0 0), by simp, hL, fun k hk => ⟨.slice none 0 0, by rw [List.getElem?_replicate, if_pos (by omega)], LO.nil _ _⟩, fun i j vi vj b hi hj e1 e2 => ?_⟩, b7, b4, b5, bel⟩
  rw [List.getElem?_replicate] at hi
  split at hi
  · cases hi; simp [Value.ownBlock] at e1
  · cases hi
/-- One cycle more, appended and stored. -/
theorem J1.step {w w3 : World} {L X n : Nat} {pre : List (List Nat)} {Wb W4 : World} {c : List Nat} {vs ws : List Value} {v v' r : Value} (h1 : L < X ∧ X < w3.heap.size) (h2 : w.heap.size + 1 < w3.heap.size) (hw : w.heap.size ≤ L) (hs : w3.heap.size + 3 ≤ Wb.heap.size) (hcn : c.length ≤ n)
    (hvl : vs.length = n + 1) (hL : Blk Wb L 24 vs) (hA : ∀ k, k ≤ n → ∃ v, vs[k]? = some v ∧ LO (fun b => w3.heap.size + 3 ≤ b) Wb v (fk k pre)) (hD : ∀ (i j : Nat) (vi vj : Value) (b : Nat), vs[i]? = some vi → vs[j]? = some vj → vi.ownBlock = some b → vj.ownBlock = some b → i = j)
    (b7 : Boxed Wb X 83 (.slice (some ⟨L, 0, none⟩) (n + 1) (n + 1))) (b4 : Boxed Wb w.heap.size 22 (.slice none 0 0)) (b5 : Blk Wb (w.heap.size + 1) 26 [.int .i64 0, .int .i64 0]) (bel : Below w.heap.size w Wb)
    (hLne : L ≠ w.heap.size ∧ L ≠ w.heap.size + 1)
    (hvc : vs[c.length]? = some v) (hown : Wb.ownsRow 0 22 1 v (fk c.length pre).length ws) (hok : ∀ b, v.ownBlock = some b → w3.heap.size + 3 ≤ b) (hrows : ∀ i, i < (fk c.length pre).length → ∃ r, ws[i]? = some r ∧ RowAt (fun b => w3.heap.size + 3 ≤ b) Wb r ((fk c.length pre)[i]?.getD []))
    (hr : RowAt (fun b => w3.heap.size + 3 ≤ b) Wb r c)
    (ho : W4.ownsRow 0 22 1 v' ((fk c.length pre).length + 1) (ws ++ [r])) (hg : Wb.grownBy W4 v.ownBlock) (hn : v'.ownBlock = v.ownBlock ∨ ∃ b, v'.ownBlock = some b ∧ Wb.heap.size ≤ b) :
    J1 w w3 L X n (pre ++ [c]) (W4.setCell ⟨L, c.length, none⟩ v') ∧ (∀ b, b ≠ L → b < w3.heap.size + 3 → (W4.setCell ⟨L, c.length, none⟩ v').heap[b]? = Wb.heap[b]?) ∧ Wb.heap.size ≤ (W4.setCell ⟨L, c.length, none⟩ v').heap.size := by
  have hsz := hg.size
  have hlow : ∀ b, b ≠ L → b < w3.heap.size + 3 → (W4.setCell ⟨L, c.length, none⟩ v').heap[b]? = Wb.heap[b]? := fun b hb hlt => by
    rw [Below.heap_setCell _ _ _ b hb]
    exact hg.block b (by omega) (fun e => by have := hok b e.symm; omega)
  have h4L : Blk W4 L 24 vs := hL.of_eq (hg.block L hL.lt (fun e => by have := hok L e.symm; omega))
  have hkeep : ∀ (k : Nat) (d : Array Value) (fz : Nat × Nat), w3.heap.size + 3 ≤ k → Wb.heap[k]? = some (.cells d 3 fz) → (W4.setCell ⟨L, c.length, none⟩ v').heap[k]? = some (.cells d 3 fz) := fun k d fz hk hh => by
    rw [Below.heap_setCell _ _ _ k (by simp; omega), hg.block k (Array.getElem?_eq_some_iff.1 hh).1 (fun e => ?_)]
    · exact hh
    · rcases hown.2 with ⟨h0, _⟩ | ⟨g9, cap9, cur, he, _, hh9, _⟩
      · rw [h0] at e; simp [Value.ownBlock] at e
      · rw [he] at e
        simp [Value.ownBlock] at e
        subst e
        rw [hh] at hh9
        simp at hh9
  have hok' : ∀ b, v'.ownBlock = some b → w3.heap.size + 3 ≤ b := fun b hb => by
    rcases hn with hn | ⟨b', hn, hb'⟩
    · exact hok b (by rw [← hn]; exact hb)
    · rw [hn] at hb; cases hb; omega
  have hset := h4L.set c.length v'
  refine ⟨⟨⟨vs.set c.length v', by simp [hvl], hset, fun k hk => ?_, fun i j vi vj b hi hj e1 e2 => ?_⟩, (hlow _ (by omega) (by omega)).trans b7, (hlow _ (by omega) (by omega)).trans b4, b5.of_eq (hlow _ (by omega) (by omega)), ?_⟩, hlow, by rw [size_set]; exact hsz⟩
  · by_cases e : k = c.length
    · subst e
      refine ⟨v', by simp [List.getElem?_set, hvl]; omega, ?_⟩
      rw [fk_hit _ rfl]
      refine LO.snoc hrows (by have := hown.1; omega) ?_ hok' hr hkeep
      refine ho.kept (gb_set W4 L c.length v') (.inr (fun e => ?_))
      have := hok' L e
      omega
    · obtain ⟨u, hu, hlo⟩ := hA k hk
      refine ⟨u, by rw [List.getElem?_set_ne (fun e' => e e'.symm)]; exact hu, ?_⟩
      rw [fk_miss _ (fun e' => e e'.symm)]
      refine hlo.kept (fun b hb => ?_) hkeep
      obtain ⟨cur, hc⟩ := hlo.own hb
      have hkb : w3.heap.size + 3 ≤ b := by obtain ⟨_, _, g, _⟩ := hlo; exact g b hb
      rw [Below.heap_setCell _ _ _ b (by simp; omega)]
      exact hg.block b (Array.getElem?_eq_some_iff.1 hc).1 (fun e' => e (hD k c.length u v b hu hvc hb e'.symm))
  · have hsome : ∀ (m : Nat) (u : Value), vs[m]? = some u → ∀ b, u.ownBlock = some b → b < Wb.heap.size := fun m u hm b hb => by
      have hml : m ≤ n := by have := (List.getElem?_eq_some_iff.1 hm).1; omega
      obtain ⟨u', hu', hlo⟩ := hA m hml
      rw [hm] at hu'
      cases hu'
      obtain ⟨cur, hc⟩ := hlo.own hb
      exact (Array.getElem?_eq_some_iff.1 hc).1
    by_cases ei : i = c.length <;> by_cases ej : j = c.length
    · omega
    · subst ei
      rw [List.getElem?_set_self (by omega)] at hi
      cases hi
      rw [List.getElem?_set_ne (fun e' => ej e'.symm)] at hj
      rcases hn with hn | ⟨b', hn, hb'⟩
      · exact hD _ _ v vj b hvc hj (by rw [← hn]; exact e1) e2
      · rw [hn] at e1; cases e1
        have := hsome j vj hj b e2
        omega
    · subst ej
      rw [List.getElem?_set_self (by omega)] at hj
      cases hj
      rw [List.getElem?_set_ne (fun e' => ei e'.symm)] at hi
      rcases hn with hn | ⟨b', hn, hb'⟩
      · exact hD _ _ vi v b hi hvc e1 (by rw [← hn]; exact e2)
      · rw [hn] at e2; cases e2
        have := hsome i vi hi b e1
        omega
    · rw [List.getElem?_set_ne (fun e' => ei e'.symm)] at hi
      rw [List.getElem?_set_ne (fun e' => ej e'.symm)] at hj
      exact hD i j vi vj b hi hj e1 e2
  · exact (bel.grown hg bel.size (fun b e => by have := hok b e; have := bel.size; omega)).setCell (by simp; omega) _
end Go.Proofs.YtjchmhngfnlbhaaDoor
