/- What the closure take of package table does: the list of things, in its order, and what is left to be multiplied. No condition. -/
import Derived.Test.YtgphcfmiamiojaaMov
namespace Go.Proofs.Ytgphcfmiamiojaa
open Go Go.RowKit Go.Lib
open Pm

/-- Slices that read as lists. -/
def Rws (W : World) (vs : List Value) (ls : List (List Int)) : Prop := vs.length = ls.length ∧ ∀ (t : Nat) (x : Value) (l : List Int), vs[t]? = some x → ls[t]? = some l → RowF W x l
theorem Rws.keep {W W' : World} {vs : List Value} {ls : List (List Int)} (h : Rws W vs ls) (hk : T3 W W') : Rws W' vs ls := ⟨h.1, fun t x l h1 h2 => (h.2 t x l h1 h2).keep hk⟩
theorem Rws.one {W : World} {vs : List Value} {ls : List (List Int)} (h : Rws W vs ls) : ∀ y, y ∈ vs → y.oneCell' = true := fun y hy => by
  obtain ⟨j, hj, e⟩ := List.mem_iff_getElem.1 hy
  exact (h.2 j y (ls[j]'(by rw [← h.1]; exact hj)) (by rw [List.getElem?_eq_getElem hj, e]) (List.getElem?_eq_getElem _)).one
theorem Rws.snoc {W : World} {vs : List Value} {ls : List (List Int)} (h : Rws W vs ls) {x : Value} {l : List Int} (hx : RowF W x l) : Rws W (vs ++ [x]) (ls ++ [l]) := by
  refine ⟨by simp [h.1], fun t y m h1 h2 => ?_⟩
  by_cases ht : t < vs.length
  · rw [List.getElem?_append_left ht] at h1
    rw [List.getElem?_append_left (by rw [← h.1]; exact ht)] at h2
    exact h.2 t y m h1 h2
  · have h3 := (List.getElem?_eq_some_iff.1 h1).1
    simp at h3
    obtain rfl : t = vs.length := by omega
    rw [List.getElem?_append_right (Nat.le_refl _), Nat.sub_self] at h1
    rw [List.getElem?_append_right (by rw [h.1]; exact Nat.le_refl _), h.1, Nat.sub_self] at h2
    simp at h1 h2
    subst h1 h2
    exact hx
theorem Rws.ins {W : World} {vs : List Value} {ls : List (List Int)} (h : Rws W vs ls) {x : Value} {l : List Int} (hx : RowF W x l) {i : Nat} (hi : i ≤ ls.length) : Rws W (vs.take i ++ x :: vs.drop i) (insL ls i l) := by
  refine ⟨by rw [insV_len _ _ (by rw [h.1]; exact hi), insL_len _ hi, h.1], fun t y m h1 h2 => ?_⟩
  rw [insV_get _ _ (by rw [h.1]; exact hi)] at h1
  have h3 : (insL ls i l)[t]? = if t < i then ls[t]? else if t = i then some l else ls[t - 1]? := by
    unfold insL
    by_cases h : t < i
    · rw [if_pos h, List.getElem?_append_left (by simp; omega), List.getElem?_take, if_pos h]
    · rw [if_neg h, List.getElem?_append_right (by simp; omega), List.length_take, Nat.min_eq_left hi]
      by_cases h2 : t = i
      · subst h2; rw [if_pos rfl, Nat.sub_self]; rfl
      · rw [if_neg h2, show t - i = (t - i - 1) + 1 by omega, List.getElem?_cons_succ, List.getElem?_drop]
        congr 1; omega
  rw [h3] at h2
  by_cases h4 : t < i
  · rw [if_pos h4] at h1 h2; exact h.2 _ _ _ h1 h2
  · rw [if_neg h4] at h1 h2
    by_cases h5 : t = i
    · rw [if_pos h5] at h1 h2
      cases h1; cases h2; exact hx
    · rw [if_neg h5] at h1 h2; exact h.2 _ _ _ h1 h2
theorem Rws.nil (W : World) : Rws W [] [] := ⟨rfl, fun t x l h _ => by simp at h⟩
/-- A row of slices as it lies, read as a list of lists. -/
theorem Rws.slL {W : World} {base : Nat} {v : Value} {vs : List Value} {ls : List (List Int)} (h : Rws W vs ls) (hq : Qs W base v vs) (h0 : 0 < W.heap.size) : SlL W v ls := by
  rcases hq with ⟨rfl, rfl⟩ | ⟨g, off, cap, cur, rfl, hb, hbk, h1, h2, h3, h4⟩
  · have : ls = [] := List.length_eq_zero_iff.1 (by rw [← h.1]; rfl)
    subst this
    exact ⟨none, 0, 0, 0, rfl, fun h => by simp at h, fun j hj => by simp at hj, h0, Nat.le_refl _, by unfold maxLen; omega⟩
  · refine ⟨some ⟨g, off, none⟩, cap, g, off, by rw [h.1], fun _ => rfl, fun j hj => ?_, hbk.lt, by rw [← h.1]; exact h1, h3⟩
    have hjv : j < vs.length := by rw [h.1]; exact hj
    refine ⟨vs[j], by rw [hbk.cell]; exact h4 j _ (List.getElem?_eq_getElem hjv), ?_⟩
    rw [List.getElem?_eq_getElem hj]
    exact (h.2 j _ _ (List.getElem?_eq_getElem hjv) (List.getElem?_eq_getElem hj)).sl h0

/-- The things and what is left to be multiplied, in their boxes. -/
structure Tks (W : World) (base b1 b2 : Nat) (T F : List (List Int)) : Prop where
  ex : ∃ tv tvs fv fvs, Boxed W b1 22 tv ∧ Boxed W b2 22 fv ∧ Qs W base tv tvs ∧ Qs W base fv fvs ∧ Rws W tvs T ∧ Rws W fvs F ∧ ∀ g h, tv.ownBlock = some g → fv.ownBlock = some h → g ≠ h
  ne : b1 ≠ b2
  le1 : base ≤ b1
  le2 : base ≤ b2
theorem Boxed.ne_blk {W : World} {b g : Nat} {v : Value} {e : TypeId} {cur : List Value} (h : Boxed W b 22 v) (k : Blk W g e cur) (he : e ≠ 22) : b ≠ g := fun e' => by
  subst e'
  have e2 := (show W.heap[b]? = _ from h).symm.trans (show W.heap[b]? = _ from k)
  simp at e2
  exact he e2.2.symm
theorem Boxed.keep {W W' : World} {b : Nat} {t : TypeId} {v : Value} (h : Boxed W b t v) (hb : W'.heap[b]? = W.heap[b]?) : Boxed W' b t v := hb.trans h
/-- Nothing of the state was changed. -/
theorem Tks.below {W W' : World} {base b1 b2 : Nat} {T F : List (List Int)} (h : Tks W base b1 b2 T F) (hb : Below W.heap.size W W') : Tks W' base b1 b2 T F := by
  obtain ⟨⟨tv, tvs, fv, fvs, h1, h2, h3, h4, h5, h6, h7⟩, h8, h9, h10⟩ := h
  refine ⟨⟨tv, tvs, fv, fvs, Boxed.below h1 hb, Boxed.below h2 hb, h3.keep fun g hg => ?_, h4.keep fun g hg => ?_, h5.keep (T3.below hb), h6.keep (T3.below hb), h7⟩, h8, h9, h10⟩
  · obtain ⟨_, cur, hc⟩ := h3.ge hg; exact hb.block g hc.lt
  · obtain ⟨_, cur, hc⟩ := h4.ge hg; exact hb.block g hc.lt
/-- What is written is no block of ints. -/
theorem T3.grown {W W' : World} {g : Nat} {cur : List Value} {e : TypeId} (h : W.grownBy W' (some g)) (hg : Blk W g e cur) (he : e ≠ 3) : T3 W W' := fun k c fz hk => h.block k (Array.getElem?_eq_some_iff.1 hk).1 (fun e' => by
  obtain rfl : k = g := Option.some.inj e'
  rw [show W.heap[k]? = _ from hg] at hk
  cases hk
  exact he rfl)
theorem T3.set {W : World} {b : Nat} {v u : Value} {t : TypeId} (h : Boxed W b t u) (ht : t ≠ 3) : T3 W (W.setCell ⟨b, 0, none⟩ v) := fun k c fz hk => Below.heap_setCell W _ v k (fun e => by
  have e1 : k = b := e
  subst e1
  rw [show W.heap[k]? = _ from h] at hk
  cases hk
  exact ht rfl)
theorem blk1 (W : World) (x : Value) (e : TypeId) : Blk (W.alloc (.cells #[x] e)) W.heap.size e [x] := World.alloc_heap_new W _

set_option maxRecDepth 100000 in
set_option maxHeartbeats 8000000 in
theorem take_ok (pv : Value) (p : List Int) (base b1 b2 : Nat) (T F : List (List Int)) (w : World) (h : Tks w base b1 b2 T F) (hp : RowF w pv p) (hr : RiseL T) (hT : T.length ≤ 1000) (hF : F.length ≤ 1000) (hpl : p.length ≤ 1000) (hTl : ∀ q, q ∈ T → q.length ≤ 1000) :
    Calls Try.prog 32 #[pv, .pointer (some ⟨b1, 0, none⟩), .pointer (some ⟨b2, 0, none⟩)] w fun e w' => e = .returned (.tuple #[]) ∧ (p ∈ T → Tks w' base b1 b2 T F) ∧ (¬ p ∈ T → ∃ i, AtL T p i ∧ Tks w' base b1 b2 (insL T i p) (F ++ [p])) ∧ Below base w w' ∧ T3 w w' := by
  have h9 := h
  obtain ⟨⟨tv, tvs, fv, fvs, h1, h2, h3, h4, h5, h6, h7⟩, hne, hl1, hl2⟩ := h
  have h0 : 0 < w.heap.size := by have := h1.lt; omega
  have hbs : base ≤ w.heap.size := by have := h1.lt; omega
  obtain ⟨pa, pc, hpe⟩ := hp.shape
  obtain ⟨ta, tc, hte⟩ := h3.shape
  obtain ⟨fa, fc, hfe⟩ := h4.shape
  have hTlen := h5.1
  have hFlen := h6.1
  have HPL := hide (place_ok tv pv T p w (h5.slL h3 h0) (hp.sl h0) hr hT (by omega) (fun q hq => by have := hTl q hq; omega))
  have c1 := h1.cell
  have H9 := hide h9
  clear h9
  by_cases hm : p ∈ T
  · rw [decide_eq_true hm] at HPL
    have HM := hide hm
    subst hpe hte hfe
    clear h1 h2 h3 h4 h5 h6 h7 hm hTl hr hp hTlen hFlen
    go_enter Try.func32, Try.ntmps32
    go_wp2_with fail
    refine HPL.out.mono ?_
    rintro e w1 ⟨⟨i, hi, rfl⟩, rfl⟩
    clear hi
    go_wp2
    go_end0
    exact ⟨rfl, fun _ => H9.out, fun h => absurd HM.out h, Below.refl _ _, T3.refl _⟩
  · rw [decide_eq_false hm] at HPL
    have HM := hide hm
    have hb1 : Below w.heap.size w (w.alloc (.cells #[pv] 24)) := balloc w _
    have hX := blk1 w pv 24
    have HIN := hide (fun (i : Nat) (hi : i ≤ T.length) => insert_ok (w.alloc (.cells #[pv] 24)) base w.heap.size i tv pv tvs (h3.keep fun g hg => by obtain ⟨_, cur, hc⟩ := h3.ge hg; exact hb1.block g hc.lt) hX hp.one h5.one (by omega) (by simp; omega) (by omega) (fun e => by obtain ⟨_, cur, hc⟩ := h3.ge e; exact absurd hc.lt (Nat.lt_irrefl _)))
    have HALL := hide (And.intro h1 (And.intro h2 (And.intro h3 (And.intro h4 (And.intro h5 (And.intro h6 h7))))))
    have HP := hide hp
    have HB1 := hide hb1
    subst hpe hte hfe
    have HTL := hide hTlen
    have HFL := hide hFlen
    clear h1 h2 h3 h4 h5 h6 h7 hm hTl hr hp hX hb1 hTlen hFlen
    go_enter Try.func32, Try.ntmps32
    go_wp2_with fail
    refine HPL.out.mono ?_
    rintro e w1 ⟨⟨i, hi, rfl⟩, rfl⟩
    have HI := hide hi
    have hin := HIN.out i hi.1
    clear hi HIN HPL
    go_wp2_with fail
    refine hin.mono ?_
    rintro e w2 ⟨r0, rfl, hq, hg, ho⟩
    obtain ⟨r, hrr0, ra, rn, rc, hre⟩ : ∃ r, r = r0 ∧ ∃ ra rn rc, r = .slice ra rn rc := by obtain ⟨ra, rc, e⟩ := hq.shape; exact ⟨r0, rfl, ra, _, rc, e⟩
    subst hrr0
    obtain ⟨h1, h2, h3, h4, h5, h6, h7⟩ := HALL.out
    have hw1b : Below w1.heap.size w1 (w1.alloc (.cells #[.slice pa p.length pc] 24)) := HB1.out
    -- the boxes and the rows behind the insertion
    have hk1 : ∀ k, k < w1.heap.size → (∀ g, (Value.slice ta tvs.length tc).ownBlock = some g → k ≠ g) → w2.heap[k]? = w1.heap[k]? := fun k hk hng => by
      rw [hg.block k (by simp; omega) (fun e => hng k e.symm rfl)]; exact hw1b.block k hk
    have ht12 : T3 w1 w2 := by
      refine T3.trans (T3.below hw1b) fun k c fz hk => ?_
      refine hg.block k (Array.getElem?_eq_some_iff.1 hk).1 (fun e => ?_)
      obtain ⟨_, cur, hc⟩ := h3.ge e.symm
      rw [hw1b.block k hc.lt, show w1.heap[k]? = _ from hc] at hk
      cases hk
    have hx1 : Boxed w2 b1 22 (.slice ta tvs.length tc) := Boxed.keep h1 (hk1 b1 h1.lt fun g hg' => by obtain ⟨_, cur, hc⟩ := h3.ge hg'; exact Boxed.ne_blk h1 hc (by decide))
    have hx2 : Boxed w2 b2 22 (.slice fa fvs.length fc) := Boxed.keep h2 (hk1 b2 h2.lt fun g hg' => by obtain ⟨_, cur, hc⟩ := h3.ge hg'; exact Boxed.ne_blk h2 hc (by decide))
    have hx4 : Qs w2 base (.slice fa fvs.length fc) fvs := h4.keep fun g hg' => hk1 g (by obtain ⟨_, cur, hc⟩ := h4.ge hg'; exact hc.lt) fun k hk e => h7 k g hk hg' e.symm
    have hB12 : Below base w1 w2 := by
      refine ⟨hg.os.trans hw1b.os, hg.tape.trans hw1b.tape, hg.output.trans hw1b.output, Nat.le_trans hw1b.size hg.size, fun k hk => hk1 k (by omega) fun g hg' e => by obtain ⟨h8, _⟩ := h3.ge hg'; omega⟩
    have hrf : ∀ g h, r.ownBlock = some g → (Value.slice fa fvs.length fc).ownBlock = some h → g ≠ h := fun g h hg' hh' e => by
      subst e
      rcases ho g hg' with h8 | h8
      · exact h7 g g h8 hh' rfl
      · obtain ⟨_, cur, hc⟩ := h4.ge hh'; have := hc.lt; simp at h8; omega
    have hs12 : w1.heap.size < w2.heap.size := by have := hg.size; simp at this; omega
    -- the store into the box, and the append
    have hx1' : Boxed (w2.setCell ⟨b1, 0, none⟩ r) b1 22 r := hx1.set r
    have hx2' : Boxed (w2.setCell ⟨b1, 0, none⟩ r) b2 22 (.slice fa fvs.length fc) := hx2.other (fun e => hne e.symm) r
    have hq' : Qs (w2.setCell ⟨b1, 0, none⟩ r) base r (tvs.take i ++ (.slice pa p.length pc) :: tvs.drop i) := hq.keep fun g hg' => Below.heap_setCell _ _ _ _ (fun e => by obtain ⟨_, cur, hc⟩ := hq.ge hg'; exact Boxed.ne_blk hx1 hc (by decide) e.symm)
    have hx4' : Qs (w2.setCell ⟨b1, 0, none⟩ r) base (.slice fa fvs.length fc) fvs := hx4.keep fun g hg' => Below.heap_setCell _ _ _ _ (fun e => by obtain ⟨_, cur, hc⟩ := hx4.ge hg'; exact Boxed.ne_blk hx1 hc (by decide) e.symm)
    have ht13 : T3 w1 (w2.setCell ⟨b1, 0, none⟩ r) := ht12.trans (T3.set hx1 (by decide))
    have hB13 : Below base w1 (w2.setCell ⟨b1, 0, none⟩ r) := hB12.setCell hl1 r
    have hs13 : w1.heap.size < (w2.setCell ⟨b1, 0, none⟩ r).heap.size := by rw [World.size_setCell]; exact hs12
    have hc1 := hx1.cell
    have hf1 := hx1.frozen
    have HSET := hide (And.intro hx1' (And.intro hx2' (And.intro hq' (And.intro hx4' (And.intro ht13 (And.intro hB13 (And.intro hs13 hrf)))))))
    have hxc2 : (w2.setCell ⟨b1, 0, none⟩ r).cell? ⟨b2, 0, none⟩ = some (.slice fa fvs.length fc) := hx2'.cell
    have HRE := hide hre
    clear hre
    clear hx1 hx2 hx4 hx1' hx2' hq' hx4' ht12 ht13 hB12 hB13 hs12 hs13 hrf hk1 hg ho hq h1 h2 h3 h4 h5 h6 h7 hw1b hin
    obtain ⟨hx1, hx2, hq3, hq4, ht13, hB13, hs13, hrf⟩ := HSET.out
    have hpv2 : RowF (w2.setCell ⟨b1, 0, none⟩ r) (.slice pa p.length pc) p := HP.out.keep ht13
    have hb34 : Below (w2.setCell ⟨b1, 0, none⟩ r).heap.size (w2.setCell ⟨b1, 0, none⟩ r) ((w2.setCell ⟨b1, 0, none⟩ r).alloc (.cells #[.slice pa p.length pc] 24)) := balloc _ _
    have hX4 := blk1 (w2.setCell ⟨b1, 0, none⟩ r) (.slice pa p.length pc) 24
    rw [World.size_setCell] at hX4
    have hq44 : Qs ((w2.setCell ⟨b1, 0, none⟩ r).alloc (.cells #[.slice pa p.length pc] 24)) base (.slice fa fvs.length fc) fvs := hq4.keep fun g hg => by obtain ⟨_, cur, hc⟩ := hq4.ge hg; exact hb34.block g hc.lt
    obtain ⟨r2, W5, hrun, hq5, hg5, ho5⟩ := append_qs ((w2.setCell ⟨b1, 0, none⟩ r).alloc (.cells #[.slice pa p.length pc] 24)) base w2.heap.size (.slice fa fvs.length fc) (.slice pa p.length pc) fvs hq44 hX4 rfl (by have := HFL.out; omega) (by have := hb34.size; omega)
    have hk5 : ∀ k, k < (w2.setCell ⟨b1, 0, none⟩ r).heap.size → (∀ g, (Value.slice fa fvs.length fc).ownBlock = some g → k ≠ g) → W5.heap[k]? = (w2.setCell ⟨b1, 0, none⟩ r).heap[k]? := fun k hk hng => by
      rw [hg5.block k (by have := hb34.size; omega) (fun e => hng k e.symm rfl)]; exact hb34.block k hk
    have ht35 : T3 (w2.setCell ⟨b1, 0, none⟩ r) W5 := by
      refine T3.trans (T3.below hb34) fun k c fz hk => ?_
      refine hg5.block k (Array.getElem?_eq_some_iff.1 hk).1 (fun e => ?_)
      obtain ⟨_, cur, hc⟩ := hq44.ge e.symm
      rw [show ((w2.setCell ⟨b1, 0, none⟩ r).alloc (.cells #[.slice pa p.length pc] 24)).heap[k]? = _ from hc] at hk
      cases hk
    have hy1 : Boxed W5 b1 22 r := Boxed.keep hx1 (hk5 b1 hx1.lt fun g hg => by obtain ⟨_, cur, hc⟩ := hq4.ge hg; exact Boxed.ne_blk hx1 hc (by decide))
    have hy2 : Boxed W5 b2 22 (.slice fa fvs.length fc) := Boxed.keep hx2 (hk5 b2 hx2.lt fun g hg => by obtain ⟨_, cur, hc⟩ := hq4.ge hg; exact Boxed.ne_blk hx2 hc (by decide))
    have hy3 : Qs W5 base r (tvs.take i ++ (.slice pa p.length pc) :: tvs.drop i) := hq3.keep fun g hg => hk5 g (by obtain ⟨_, cur, hc⟩ := hq3.ge hg; exact hc.lt) fun k hk => hrf g k hg hk
    have hB15 : Below base w1 W5 := by
      have hb3 : Below base (w2.setCell ⟨b1, 0, none⟩ r) W5 := ⟨hg5.os.trans hb34.os, hg5.tape.trans hb34.tape, hg5.output.trans hb34.output, Nat.le_trans hb34.size hg5.size, fun k hk => hk5 k (by omega) fun g hg e => by obtain ⟨h8, _⟩ := hq4.ge hg; omega⟩
      exact hB13.trans hb3
    have hz1 : Boxed (W5.setCell ⟨b2, 0, none⟩ r2) b1 22 r := hy1.other hne r2
    have hz2 : Boxed (W5.setCell ⟨b2, 0, none⟩ r2) b2 22 r2 := hy2.set r2
    have hz3 : Qs (W5.setCell ⟨b2, 0, none⟩ r2) base r (tvs.take i ++ (.slice pa p.length pc) :: tvs.drop i) := hy3.keep fun g hg => Below.heap_setCell _ _ _ _ (fun e => by obtain ⟨_, cur, hc⟩ := hy3.ge hg; exact Boxed.ne_blk hy2 hc (by decide) e.symm)
    have hz4 : Qs (W5.setCell ⟨b2, 0, none⟩ r2) base r2 (fvs ++ [.slice pa p.length pc]) := hq5.keep fun g hg => Below.heap_setCell _ _ _ _ (fun e => by obtain ⟨_, cur, hc⟩ := hq5.ge hg; exact Boxed.ne_blk hy2 hc (by decide) e.symm)
    have ht16 : T3 w1 (W5.setCell ⟨b2, 0, none⟩ r2) := (ht13.trans ht35).trans (T3.set hy2 (by decide))
    have hB16 : Below base w1 (W5.setCell ⟨b2, 0, none⟩ r2) := hB15.setCell hl2 r2
    have hrr : ∀ g h, r.ownBlock = some g → r2.ownBlock = some h → g ≠ h := fun g h hg hh e => by
      subst e
      rcases ho5 g hh with h8 | h8
      · exact hrf g g hg h8 rfl
      · obtain ⟨_, cur, hc⟩ := hq3.ge hg; have := hc.lt; have := hb34.size; omega
    obtain ⟨_, _, _, _, h5, h6, _⟩ := HALL.out
    have hfin : Tks (W5.setCell ⟨b2, 0, none⟩ r2) base b1 b2 (insL T i p) (F ++ [p]) :=
      ⟨⟨r, _, r2, _, hz1, hz2, hz3, hz4, (h5.keep ht16).ins (HP.out.keep ht16) HI.out.1, (h6.keep ht16).snoc (HP.out.keep ht16), hrr⟩, hne, hl1, hl2⟩
    have HF := hide (And.intro hfin (And.intro hB16 ht16))
    obtain ⟨r2a, r2n, r2c, hr2e⟩ : ∃ ra rn rc, r2 = .slice ra rn rc := by obtain ⟨a9, c9, e⟩ := hq5.shape; exact ⟨a9, _, c9, e⟩
    have hcy : W5.cell? ⟨b2, 0, none⟩ = some (.slice fa fvs.length fc) := hy2.cell
    have hfy : W5.frozen? ⟨b2, 0, none⟩ = false := hy2.frozen
    clear hx1 hx2 hq3 hq4 ht13 hB13 hs13 hrf hpv2 hb34 hX4 hq44 hq5 hg5 ho5 hk5 ht35 hy1 hy2 hy3 hB15 hz1 hz2 hz3 hz4 ht16 hB16 hrr h5 h6 hfin HSET
    have hre := HRE.out
    clear HRE
    subst hre hr2e
    go_wp2_with (at_builtin; refine Lib.wpList_append_run _ rfl _ _ _ _ rfl _ _ rfl rfl _ _ (hrun _) ?_)
    go_end0
    exact ⟨rfl, fun h => absurd h HM.out, fun _ => ⟨i, HI.out, HF.out.1⟩, HF.out.2⟩
end Go.Proofs.Ytgphcfmiamiojaa
