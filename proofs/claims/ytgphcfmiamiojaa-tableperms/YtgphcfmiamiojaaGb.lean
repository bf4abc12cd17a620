/- A list of lists of ints that lies in a box: what is put at its end, and two of it changed. No condition. -/
import Derived.Test.YtgphcfmiamiojaaIn
namespace Go.Proofs.Ytgphcfmiamiojaa
open Go Go.RowKit
open Pm

def Gb (W : World) (base b : Nat) (L : List (List Int)) : Prop := ∃ ov vs, Boxed W b 22 ov ∧ Qs W base ov vs ∧ Rws W vs L ∧ base ≤ b
theorem Gb.below {W W' : World} {base b : Nat} {L : List (List Int)} (h : Gb W base b L) (hb : Below W.heap.size W W') : Gb W' base b L := by
  obtain ⟨ov, vs, h1, h2, h3, h4⟩ := h
  exact ⟨ov, vs, Boxed.below h1 hb, h2.keep fun g hg => by obtain ⟨_, cur, hc⟩ := h2.ge hg; exact hb.block g hc.lt, h3.keep (T3.below hb), h4⟩
theorem Gb.drew {W : World} {base b : Nat} {L : List (List Int)} (h : Gb W base b L) : Gb W.drew base b L := h.below (bdrew (Below.refl _ W))
/-- An append of one to a list that lies nowhere but in a variable. -/
theorem push_qs (w : World) (base : Nat) (ov pv : Value) (vs : List Value) (L : List (List Int)) (p : List Int) (h2 : Qs w base ov vs) (h3 : Rws w vs L) (hb : base ≤ w.heap.size) (hp : RowF w pv p) (hL : L.length ≤ 1000) :
    ∃ r W5, (∀ ty, (Builtin.append_ #[22, 22] ty #[ov, .slice (some ⟨w.heap.size, 0, none⟩) 1 1]).run Try.prog (w.alloc (.cells #[pv] 24)) = .ok r W5) ∧
      Qs W5 base r (vs ++ [pv]) ∧ Rws W5 (vs ++ [pv]) (L ++ [p]) ∧ (∃ ra rc, r = .slice ra (L.length + 1) rc) ∧ Below base w W5 ∧ T3 w W5 ∧ (∀ k, k < w.heap.size → (∀ g, ov.ownBlock = some g → k ≠ g) → W5.heap[k]? = w.heap[k]?) := by
  have hb1 : Below w.heap.size w (w.alloc (.cells #[pv] 24)) := balloc _ _
  have hX := blk1 w pv 24
  have hq1 : Qs (w.alloc (.cells #[pv] 24)) base ov vs := h2.keep fun g hg => by obtain ⟨_, cur, hc⟩ := h2.ge hg; exact hb1.block g hc.lt
  have hlen := h3.1
  obtain ⟨r, W5, hrun, hq5, hg5, ho5⟩ := append_qs (w.alloc (.cells #[pv] 24)) base w.heap.size ov pv vs hq1 hX hp.one (by omega) (by have := hb1.size; omega)
  have hk5 : ∀ k, k < w.heap.size → (∀ g, ov.ownBlock = some g → k ≠ g) → W5.heap[k]? = w.heap[k]? := fun k hk hng => by
    rw [hg5.block k (by have := hb1.size; omega) (fun e => hng k e.symm rfl)]; exact hb1.block k hk
  have ht : T3 w W5 := by
    refine T3.trans (T3.below hb1) fun k c fz hk => ?_
    refine hg5.block k (Array.getElem?_eq_some_iff.1 hk).1 (fun e => ?_)
    obtain ⟨_, cur, hc⟩ := hq1.ge e.symm
    rw [show (w.alloc (.cells #[pv] 24)).heap[k]? = _ from hc] at hk
    cases hk
  refine ⟨r, W5, hrun, hq5, (h3.keep ht).snoc (hp.keep ht), ?_, ⟨hg5.os.trans hb1.os, hg5.tape.trans hb1.tape, hg5.output.trans hb1.output, Nat.le_trans hb1.size hg5.size, fun k hk => hk5 k (by omega) fun g hg e => by obtain ⟨h8, _⟩ := h2.ge hg; omega⟩, ht, hk5⟩
  obtain ⟨ra, rc, e⟩ := hq5.shape
  exact ⟨ra, rc, by rw [e]; simp [hlen]⟩
theorem push_gb (w : World) (base b : Nat) (ov pv : Value) (vs : List Value) (L : List (List Int)) (p : List Int) (h1 : Boxed w b 22 ov) (h2 : Qs w base ov vs) (h3 : Rws w vs L) (hb : base ≤ b) (hp : RowF w pv p) (hL : L.length ≤ 1000) :
    ∃ r W5, (∀ ty, (Builtin.append_ #[22, 22] ty #[ov, .slice (some ⟨w.heap.size, 0, none⟩) 1 1]).run Try.prog (w.alloc (.cells #[pv] 24)) = .ok r W5) ∧
      W5.cell? ⟨b, 0, none⟩ = some ov ∧ W5.frozen? ⟨b, 0, none⟩ = false ∧ (∃ ra rc, r = .slice ra (L.length + 1) rc) ∧ Boxed (W5.setCell ⟨b, 0, none⟩ r) b 22 r ∧ Gb (W5.setCell ⟨b, 0, none⟩ r) base b (L ++ [p]) ∧ Below base w (W5.setCell ⟨b, 0, none⟩ r) := by
  have hbs : base ≤ w.heap.size := by have := h1.lt; omega
  obtain ⟨r, W5, hrun, hq, hr, hsh, hB, ht, hk⟩ := push_qs w base ov pv vs L p h2 h3 hbs hp hL
  have hx : Boxed W5 b 22 ov := Boxed.keep h1 (hk b h1.lt fun g hg => by obtain ⟨_, cur, hc⟩ := h2.ge hg; exact Boxed.ne_blk h1 hc (by decide))
  have hx' : Boxed (W5.setCell ⟨b, 0, none⟩ r) b 22 r := hx.set r
  exact ⟨r, W5, hrun, hx.cell, hx.frozen, hsh, hx', ⟨r, _, hx', hq.keep fun g hg => Below.heap_setCell _ _ _ _ (fun e => by obtain ⟨_, cur, hc⟩ := hq.ge hg; exact Boxed.ne_blk hx hc (by decide) e.symm), hr.keep (T3.set hx (by decide)), hb⟩, hB.setCell hb r⟩

/-- A store into one of the cells. -/
theorem Qs.set {W : World} {base g off cap i : Nat} {vs : List Value} (h : Qs W base (.slice (some ⟨g, off, none⟩) vs.length cap) vs) (x : Value) (hi : i < vs.length) : Qs (W.setCell ⟨g, off + i, none⟩ x) base (.slice (some ⟨g, off, none⟩) vs.length cap) (vs.set i x) := by
  rcases h with ⟨h, _⟩ | ⟨g', off', cap', cur, e, hg, hbk, h1, h2, h3, h4⟩
  · cases h
  · cases e
    refine .inr ⟨g, off, cap, cur.set (off + i) x, by simp, hg, hbk.set (off + i) x, by simpa using h1, by simpa using h2, h3, fun j y hj => ?_⟩
    rw [List.getElem?_set] at hj ⊢
    by_cases e : i = j
    · subst e
      rw [if_pos rfl, if_pos hi] at hj
      rw [if_pos rfl, if_pos (by omega)]
      exact hj
    · rw [if_neg e] at hj
      rw [if_neg (by omega)]
      exact h4 j y hj
theorem Rws.set {W : World} {vs : List Value} {ls : List (List Int)} (h : Rws W vs ls) {x : Value} {l : List Int} (hx : RowF W x l) (i : Nat) : Rws W (vs.set i x) (ls.set i l) := by
  refine ⟨by simp [h.1], fun t y m h1 h2 => ?_⟩
  rw [List.getElem?_set] at h1 h2
  by_cases e : i = t
  · subst e
    rw [if_pos rfl] at h1 h2
    by_cases hi : i < vs.length
    · rw [if_pos hi] at h1
      rw [if_pos (by have := h.1; omega)] at h2
      cases h1; cases h2; exact hx
    · rw [if_neg hi] at h1; cases h1
  · rw [if_neg e] at h1 h2; exact h.2 t y m h1 h2
theorem T3.setRow {W : World} {g i : Nat} {cur : List Value} (h : Blk W g 24 cur) (x : Value) : T3 W (W.setCell ⟨g, i, none⟩ x) := fun k c fz hk => Below.heap_setCell W _ x k (fun e => by
  subst e
  rw [show W.heap[k]? = _ from h] at hk
  cases hk)
/-- Two of them changed. -/
def swq (L : List (List Int)) (i k : Nat) : List (List Int) := (L.set i (L[k]?.getD [])).set k (L[i]?.getD [])
theorem swq_len (L : List (List Int)) (i k : Nat) : (swq L i k).length = L.length := by simp [swq]
theorem swq_get {L : List (List Int)} {i k j : Nat} (hk : k < L.length) (hik : i < k) : (swq L i k)[j]?.getD [] = if j = k then L[i]?.getD [] else if j = i then L[k]?.getD [] else L[j]?.getD [] := by
  unfold swq
  rw [List.getElem?_set]
  by_cases e : k = j
  · subst e
    rw [if_pos rfl, if_pos (by simp; exact hk), if_pos rfl]; rfl
  · rw [if_neg e, if_neg (fun e' => e e'.symm), List.getElem?_set]
    by_cases e2 : i = j
    · subst e2
      rw [if_pos rfl, if_pos (by omega), if_pos rfl]; rfl
    · rw [if_neg e2, if_neg (fun e' => e2 e'.symm)]
theorem swq_perm {L : List (List Int)} {i k : Nat} (hk : k < L.length) (hik : i < k) : (swq L i k).Perm L := by
  unfold swq
  have h1 : L[k]?.getD [] = L[k] := by rw [List.getElem?_eq_getElem hk]; rfl
  have h2 : L[i]?.getD [] = L[i]'(by omega) := by rw [List.getElem?_eq_getElem (by omega)]; rfl
  rw [h1, h2]
  exact List.set_set_perm (by omega) hk
theorem swap_gb (w : World) (base b g off cap i k : Nat) (x y : Value) (vs : List Value) (L : List (List Int)) (h1 : Boxed w b 22 (.slice (some ⟨g, off, none⟩) vs.length cap)) (h2 : Qs w base (.slice (some ⟨g, off, none⟩) vs.length cap) vs) (h3 : Rws w vs L) (hb : base ≤ b) (hi : i < k) (hk : k < vs.length) (hx : vs[i]? = some x) (hy : vs[k]? = some y) :
    Gb ((w.setCell ⟨g, off + i, none⟩ y).setCell ⟨g, off + k, none⟩ x) base b (swq L i k) ∧ Below base w ((w.setCell ⟨g, off + i, none⟩ y).setCell ⟨g, off + k, none⟩ x) ∧ w.frozen? ⟨g, off + i, none⟩ = false ∧ w.frozen? ⟨g, off + k, none⟩ = false ∧ b ≠ g := by
  obtain ⟨hge, cur, hc⟩ := h2.ge (g := g) rfl
  have hne := Boxed.ne_blk h1 hc (by decide)
  have hlen := h3.1
  have hq1 := h2.set y (i := i) (by omega)
  have hq2 : Qs ((w.setCell ⟨g, off + i, none⟩ y).setCell ⟨g, off + k, none⟩ x) base (.slice (some ⟨g, off, none⟩) (vs.set i y).length cap) ((vs.set i y).set k x) := Qs.set (by rw [List.length_set]; exact hq1) x (by rw [List.length_set]; exact hk)
  rw [List.length_set] at hq2
  have ht : T3 w ((w.setCell ⟨g, off + i, none⟩ y).setCell ⟨g, off + k, none⟩ x) := (T3.setRow hc y).trans (T3.setRow (hc.set (off + i) y) x)
  have hrx : RowF w x (L[i]?.getD []) := h3.2 i x _ hx (by rw [List.getElem?_eq_getElem (by omega)]; rfl)
  have hry : RowF w y (L[k]?.getD []) := h3.2 k y _ hy (by rw [List.getElem?_eq_getElem (by omega)]; rfl)
  refine ⟨⟨_, _, ?_, hq2, ((h3.keep ht).set (hry.keep ht) i).set (hrx.keep ht) k, hb⟩, (Below.setCell (Below.setCell (Below.refl _ w) (p := ⟨g, off + i, none⟩) hge y) (p := ⟨g, off + k, none⟩) hge x), hc.frozen _, hc.frozen _, hne⟩
  exact Boxed.keep h1 (by rw [Below.heap_setCell _ _ _ _ hne, Below.heap_setCell _ _ _ _ hne])
/-- How far an exchange sort has come. -/
def Stt (L : List (List Int)) (i : Nat) : Prop := ∀ a c, a < c → a < i → c < L.length → cmpL (L[a]?.getD []) (L[c]?.getD []) < 0
def Sti (L : List (List Int)) (i k : Nat) : Prop := ∀ c, i < c → c < k → cmpL (L[i]?.getD []) (L[c]?.getD []) < 0
theorem Stt.swap {L : List (List Int)} {i k : Nat} (h : Stt L i) (hk : k < L.length) (hik : i < k) : Stt (swq L i k) i := fun a c h1 h2 h3 => by
  rw [swq_len] at h3
  rw [swq_get hk hik, swq_get hk hik, if_neg (by omega), if_neg (by omega)]
  split
  · exact h a i h2 h2 (by omega)
  · split
    · exact h a k (by omega) h2 hk
    · exact h a c h1 h2 h3
theorem Sti.swap {L : List (List Int)} {i k : Nat} (h : Sti L i k) (hk : k < L.length) (hik : i < k) (hlt : cmpL (L[k]?.getD []) (L[i]?.getD []) < 0) : Sti (swq L i k) i (k + 1) := fun c h1 h2 => by
  rw [swq_get hk hik, swq_get hk hik, if_neg (by omega), if_pos rfl]
  by_cases e : c = k
  · rw [if_pos e]; exact hlt
  · rw [if_neg e, if_neg (by omega)]; exact cmpL_trans _ _ _ hlt (h c h1 (by omega))
theorem Sti.stay {L : List (List Int)} {i k : Nat} (h : Sti L i k) (hn : L.Nodup) (hk : k < L.length) (hik : i < k) (hlt : ¬ cmpL (L[k]?.getD []) (L[i]?.getD []) < 0) : Sti L i (k + 1) := fun c h1 h2 => by
  by_cases e : c = k
  · subst e
    have h3 := cmpL_neg (L[c]?.getD []) (L[i]?.getD [])
    have h4 : cmpL (L[c]?.getD []) (L[i]?.getD []) ≠ 0 := fun e0 => by
      have e1 := (cmpL_zero _ _).1 e0
      rw [List.getElem?_eq_getElem hk, List.getElem?_eq_getElem (by omega)] at e1
      have := (List.getElem_inj hn).1 (show L[c] = L[i]'(by omega) from e1)
      omega
    omega
  · exact h c h1 (by omega)
theorem Stt.next {L : List (List Int)} {i : Nat} (h : Stt L i) (hs : Sti L i L.length) : Stt L (i + 1) := fun a c h1 h2 h3 => by
  by_cases e : a = i
  · subst e; exact hs c h1 h3
  · exact h a c h1 (by omega) h3
theorem Stt.rise {L : List (List Int)} (h : Stt L L.length) : RiseL L := by
  unfold RiseL
  rw [List.pairwise_iff_getElem]
  intro i j hi hj hij
  have := h i j hij hi hj
  rw [List.getElem?_eq_getElem hi, List.getElem?_eq_getElem hj] at this
  exact this
end Go.Proofs.Ytgphcfmiamiojaa
