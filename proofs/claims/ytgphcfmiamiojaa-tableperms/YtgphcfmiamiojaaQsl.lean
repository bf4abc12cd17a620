/- Rows of slices that may begin anywhere in their block: an append of one, and slices.Insert of one. No condition. -/
import Derived.Test.YtgphcfmiamiojaaBsf
import Derived.Shelf.Spec.SlicesInsertGrow
namespace Go.Proofs.Ytgphcfmiamiojaa
open Go Go.RowKit Go.Lib

/-- A row of slices of the call's own, that may begin anywhere in its block. -/
def Qs (W : World) (base : Nat) (v : Value) (vs : List Value) : Prop := (v = .slice none 0 0 ∧ vs = []) ∨ ∃ g off cap cur, v = .slice (some ⟨g, off, none⟩) vs.length cap ∧ base ≤ g ∧ Blk W g 24 cur ∧ vs.length ≤ cap ∧ off + cap ≤ cur.length ∧ cap ≤ maxLen ∧ ∀ j x, vs[j]? = some x → cur[off + j]? = some x
theorem Qs.keep {W W' : World} {base : Nat} {v : Value} {vs : List Value} (h : Qs W base v vs) (hk : ∀ g, v.ownBlock = some g → W'.heap[g]? = W.heap[g]?) : Qs W' base v vs := by
  rcases h with h | ⟨g, off, cap, cur, rfl, hb, hbk, h1, h2, h3, h4⟩
  · exact .inl h
  · exact .inr ⟨g, off, cap, cur, rfl, hb, hbk.of_eq (hk g rfl), h1, h2, h3, h4⟩
theorem Qs.mono {W : World} {base base' : Nat} {v : Value} {vs : List Value} (h : Qs W base v vs) (hb : base' ≤ base) : Qs W base' v vs := by
  rcases h with h | ⟨g, off, cap, cur, rfl, hg, hbk, h1, h2, h3, h4⟩
  · exact .inl h
  · exact .inr ⟨g, off, cap, cur, rfl, by omega, hbk, h1, h2, h3, h4⟩
theorem Qs.shape {W : World} {base : Nat} {v : Value} {vs : List Value} (h : Qs W base v vs) : ∃ a c, v = .slice a vs.length c := by
  rcases h with ⟨rfl, rfl⟩ | ⟨g, off, cap, cur, rfl, _⟩
  · exact ⟨none, 0, rfl⟩
  · exact ⟨_, cap, rfl⟩
theorem Qs.ge {W : World} {base : Nat} {v : Value} {vs : List Value} (h : Qs W base v vs) {g : Nat} (hg : v.ownBlock = some g) : base ≤ g ∧ ∃ cur, Blk W g 24 cur := by
  rcases h with ⟨rfl, rfl⟩ | ⟨g', off, cap, cur, rfl, hb, hbk, _⟩
  · cases hg
  · cases hg; exact ⟨hb, cur, hbk⟩
/-- Cells written over. -/
def ovr : List Value → Nat → List Value → List Value
  | cur, _, [] => cur
  | cur, o, x :: xs => ovr (cur.set o x) (o + 1) xs
theorem ovr_len : ∀ (xs cur : List Value) (o : Nat), (ovr cur o xs).length = cur.length
  | [], _, _ => rfl
  | x :: xs, cur, o => by rw [ovr, ovr_len xs, List.length_set]
theorem ovr_get : ∀ (xs cur : List Value) (o j : Nat), o + xs.length ≤ cur.length → (ovr cur o xs)[j]? = if o ≤ j ∧ j < o + xs.length then xs[j - o]? else cur[j]?
  | [], cur, o, j, _ => by simp [ovr]; intro h1 h2; omega
  | x :: xs, cur, o, j, h => by
    rw [List.length_cons] at h
    rw [ovr, ovr_get xs _ _ _ (by rw [List.length_set]; omega), List.getElem?_set]
    by_cases h1 : o = j
    · subst h1
      rw [if_neg (by omega), if_pos rfl, if_pos (by omega), if_pos ⟨Nat.le_refl _, by simp⟩, Nat.sub_self]; rfl
    · rw [if_neg h1]
      by_cases h2 : o + 1 ≤ j ∧ j < o + 1 + xs.length
      · rw [if_pos h2, if_pos (by simp; omega), show j - o = (j - (o + 1)) + 1 by omega, List.getElem?_cons_succ]
      · rw [if_neg h2, if_neg (by simp; omega)]
theorem Blk.setCells {g : Nat} {e : TypeId} : ∀ (xs cur : List Value) (o : Nat) (W : World), Blk W g e cur → Blk (W.setCells g o xs) g e (ovr cur o xs)
  | [], _, _, _, h => h
  | x :: xs, cur, o, W, h => by
    rw [World.setCells, ovr]
    exact Blk.setCells xs _ _ _ (h.set o x)
theorem grown_setCells {g : Nat} : ∀ (xs : List Value) (o : Nat) (W : World), W.grownBy (W.setCells g o xs) (some g)
  | [], _, W => ⟨rfl, rfl, rfl, Nat.le_refl _, fun _ _ _ => rfl⟩
  | x :: xs, o, W => by
    rw [World.setCells]
    have h := grown_setCells (g := g) xs (o + 1) (W.setCell ⟨g, o, none⟩ x)
    refine ⟨h.os, h.tape, h.output, ?_, fun k hk hne => ?_⟩
    · have := h.size; rw [World.size_setCell] at this; exact this
    · rw [h.block k (by rw [World.size_setCell]; exact hk) hne]
      exact Below.heap_setCell _ _ _ _ (fun e => hne (by rw [e]))
theorem u22s : Try.prog.underlying 22 = some (.slice 24) := by kernel_rfl
theorem u3i : Try.prog.underlying 3 = some (.int .i64) := by kernel_rfl
theorem gtrans {a b c : World} {r : Option Nat} (h : a.grownBy b r) (k : b.grownBy c r) : a.grownBy c r :=
  ⟨k.os.trans h.os, k.tape.trans h.tape, k.output.trans h.output, Nat.le_trans h.size k.size, fun j hj hr => (k.block j (Nat.lt_of_lt_of_le hj h.size) hr).trans (h.block j hj hr)⟩

/-- An append of one. -/
theorem append_qs (w : World) (base vb : Nat) (v x : Value) (vs : List Value) (h : Qs w base v vs) (hx : Blk w vb 24 [x]) (h1 : x.oneCell' = true) (hn : vs.length ≤ 1000000) (hb : base ≤ w.heap.size) :
    ∃ r W', (∀ ty, (Builtin.append_ #[22, 22] ty #[v, .slice (some ⟨vb, 0, none⟩) 1 1]).run Try.prog w = .ok r W') ∧ Qs W' base r (vs ++ [x]) ∧ w.grownBy W' v.ownBlock ∧ (∀ g, r.ownBlock = some g → v.ownBlock = some g ∨ w.heap.size ≤ g) := by
  obtain ⟨i0, hi0, hz0, hzs, hzb⟩ := info_parts info22b
  have hsrc : Src Try.prog i0.size 22 (.slice (some ⟨vb, 0, none⟩) 1 1) 1 [x] w := by
    rw [hzs]
    refine Src.ofSlice w u22s ⟨vb, 0, none⟩ 1 1 [x] rfl (fun j u hj => ?_) (fun u hu => by simp at hu; subst hu; exact h1)
    rw [Addr.add_lit, hx.cell]
    simpa using hj
  have hgrow : ∀ (a : Option Addr) (n c : Nat) (olds : List Value), olds = vs → n = vs.length → c < n + 1 → (Builtin.firstCells i0.size n (.slice a n c)).run Try.prog w.drew = .ok olds.toArray w.drew →
      ∃ r W', (∀ ty, (Builtin.append_ #[22, 22] ty #[.slice a n c, .slice (some ⟨vb, 0, none⟩) 1 1]).run Try.prog w = .ok r W') ∧ Qs W' base r (vs ++ [x]) ∧ w.grownBy W' (Value.slice a n c).ownBlock ∧ (∀ g, r.ownBlock = some g → (Value.slice a n c).ownBlock = some g ∨ w.heap.size ≤ g) := by
    intro a n c olds ho hnn hc hold
    subst ho hnn
    have hcap := grownCap_ge w (olds.length + 1) c 24
    have hcm := grownCap_le_maxLen w (olds.length + 1) c 24 (by unfold maxLen; omega)
    refine ⟨_, _, fun ty => run_append_grow_src w 22 22 ty 24 i0 _ u22s hi0 hz0 a _ c olds hold _ 1 [x] hsrc hc (by omega) (by rw [hzb]; exact growslice_fits hc (by omega)), ?_, ?_, ?_⟩
    · generalize grownCap w (olds.length + 1) c 24 = G at *
      refine .inr ⟨w.heap.size, 0, G, (olds ++ [x]) ++ List.replicate (G - (olds.length + 1)) (.slice none 0 0), by simp, hb, ?_, by simp; omega, by simp; omega, hcm, fun j y hy => ?_⟩
      · have := World.alloc_heap_new w.drew (Obj.cells ((olds ++ [x]).toArray ++ Builtin.zeroCells (Value.slice none 0 0).cells (G - (olds.length + 1))) 24)
        rw [Blk]
        refine Eq.trans this ?_
        congr 2
        apply Array.ext'
        simp [Builtin.zeroCells, Value.cells]
        apply List.ext_getElem
        · simp
        · intro j h1 h2; simp [Nat.mod_one]
      · rw [Nat.zero_add, List.getElem?_append_left (List.getElem?_eq_some_iff.1 hy).1]; exact hy
    · exact ⟨rfl, rfl, rfl, by simp, fun k hk _ => Below.heap_alloc w.drew _ k hk⟩
    · intro g hg
      cases hg
      exact .inr (Nat.le_refl _)
  rcases h with ⟨rfl, rfl⟩ | ⟨g, off, cap, cur, rfl, hg, hbk, hl, hc, hm, hcs⟩
  · exact hgrow none 0 0 [] rfl rfl (by simp) (run_firstCells_none w.drew i0.size 0 0 0)
  · by_cases hroom : vs.length + 1 ≤ cap
    · have hlt : off + vs.length < cur.length := by omega
      have hr := fun ty => run_append_room_src w 22 22 ty 24 i0 u22s hi0 g off vs.length cap (.slice (some ⟨vb, 0, none⟩) 1 1) 1 [x] hsrc hroom (fun j hj => by
        rw [hzs, hbk.cell, List.getElem?_eq_getElem (by simp at hj; omega)]; rfl) (fun j hj => by rw [hzs]; exact hbk.frozen _)
      rw [hzs, Nat.mul_one] at hr
      refine ⟨_, _, hr, ?_, grown_setCells _ _ _, fun g' h => .inl h⟩
      refine .inr ⟨g, off, cap, ovr cur (off + vs.length) [x], by simp, hg, hbk.setCells [x] cur (off + vs.length) w, by simp; omega, by rw [ovr_len]; exact hc, hm, fun j y hy => ?_⟩
      rw [ovr_get _ _ _ _ (by simp; omega)]
      by_cases hj : j < vs.length
      · rw [if_neg (by simp; omega)]
        exact hcs j y (by rwa [List.getElem?_append_left hj] at hy)
      · have hjl := (List.getElem?_eq_some_iff.1 hy).1
        simp at hjl
        obtain rfl : j = vs.length := by omega
        rw [if_pos (by simp), Nat.sub_self]
        simpa using hy
    · refine hgrow _ _ _ vs rfl rfl (by omega) ?_
      rw [hzs]
      exact run_firstCells_some w.drew 1 vs.length ⟨g, off, none⟩ vs.length cap vs (by omega) (fun j y hj => by
        rw [Addr.add_lit]
        show w.cell? _ = _
        rw [hbk.cell]; exact hcs j y hj)
end Go.Proofs.Ytgphcfmiamiojaa
