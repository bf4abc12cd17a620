/- A range over the cycles of a permutation, in a frame that is no round, as one law: a word J over what has been told, that bears new blocks and the iterator's own ones. -/
import Derived.Test.YtjchmhngfnlbhaaDoorCyc
import Derived.Test.YtjchmhngfnlbhaaDoorMoved
import Derived.Test.YtjchmhngfnlbhaaDoorOrbit
namespace Go.Proofs.YtjchmhngfnlbhaaDoor
open Go Go.RowKit Go.Shelf

/-- What the body of such a range leaves alone. -/
def KeepB (lo bx pb : Nat) (A B : World) : Prop := A.heap.size ≤ B.heap.size ∧ ∀ b, (b = bx ∨ b = pb ∨ (lo ≤ b ∧ b < lo + 3)) → B.heap[b]? = A.heap[b]?

theorem cyc_range {n : Nat} {g : Operand} {ps : Array Tmp} {assign body : Code} {Q : Exit → Act → World → Prop} {a : Act} {w : World} (bx cap pb po : Nat) (a0 : Option Addr) (zs : List Int)
    (J : List (List Nat) → World → Prop) (Jx : World → Prop)
    (hg : a.eval g = .func (.func 70) #[] #[.pointer (some ⟨bx, 0, none⟩)]) (h1 : 1 ≤ n) (hps : ps.size = 1)
    (hbx : Boxed w bx 22 (.slice a0 zs.length cap)) (hr : Reads w a0 pb po zs) (hp : pb < w.heap.size) (hperm : IsPerm zs) (hl : zs.length ≤ 1000)
    (hJ : ∀ pre W W', J pre W → Apart w.heap.size (w.heap.size + 3) W W' → J pre W') (hJx : ∀ W W', Jx W → Apart w.heap.size (w.heap.size + 3) W W' → Jx W')
    (h0 : J [] w)
    (hbody : ∀ (pre : List (List Nat)) (c : List Nat) (post : List (List Nat)) (W : World) (gc cap' : Nat), pre ++ c :: post = cyc zs → IsCyc zs c → J pre W → W.ownsRow (w.heap.size + 3) 3 1 (.slice (some ⟨gc, 0, none⟩) c.length cap') c.length (pts c) →
      w.heap.size + 3 ≤ gc → gc < W.heap.size → W.heap[bx]? = w.heap[bx]? → W.heap[pb]? = w.heap[pb]? →
      assign.wpIn (Fence.wide.inRound (w.heap.size + 1)) 0 Tryd.prog (Exit.then (fun a₁ W₁ => W₁ = W ∧ ∀ Wb, J pre Wb → Wb.ownsRow (w.heap.size + 3) 3 1 (.slice (some ⟨gc, 0, none⟩) c.length cap') c.length (pts c) → gc < Wb.heap.size → Wb.heap[bx]? = w.heap[bx]? → Wb.heap[pb]? = w.heap[pb]? →
        body.wpIn (Fence.wide.inRound (w.heap.size + 1)) 0 Tryd.prog (fun e _ W' => KeepB w.heap.size bx pb Wb W' ∧ (e = .normal ∧ J (pre ++ [c]) W' ∨ e = .ret ∧ Jx W')) a₁ Wb) (fun _ _ _ => False))
        { tmps := (ps.zip #[.slice (some ⟨gc, 0, none⟩) c.length cap']).foldl (fun t (p, v) => t.setIfInBounds p v) a.tmps, defers := [] } W)
    (hk : ∀ W, J (cyc zs) W → W.heap[w.heap.size]? = some (.deferred (some [])) → w.heap.size + 2 ≤ W.heap.size → Q .normal { a with defers := { target := .collected w.heap.size, args := #[] } :: a.defers } W)
    (hx : ∀ W, Jx W → W.heap[w.heap.size]? = some (.deferred (some [])) → w.heap.size + 2 ≤ W.heap.size → Code.ret.wpIn Fence.wide n Tryd.prog Q { a with defers := { target := .collected w.heap.size, args := #[] } :: a.defers } W) :
    (Code.rangeFunc g ps assign body).wpIn Fence.wide n Tryd.prog Q a w := by
  have hbl := hbx.lt
  refine range_out (gf := 70) (lb := #[.pointer (some ⟨bx, 0, none⟩)]) hg (enters_of Tryd.func70 (by kernel_rfl) rfl) h1 ?_
  intro lr D L W1 hD hlr hround hW1
  subst hD hlr
  have hs1 : W1.heap.size = w.heap.size + 2 := by rw [hW1]; simp
  have hL1 : W1.heap[w.heap.size + 1]? = some (.loop (L .ready none)) := by
    rw [hW1]; have := World.alloc_heap_new (w.alloc (.deferred (some []))) (.loop (L .ready none)); rw [World.size_alloc] at this; exact this
  have hD1 : W1.heap[w.heap.size]? = some (.deferred (some [])) := by
    rw [hW1]; exact (Below.heap_alloc _ _ _ (by simp)).trans (World.alloc_heap_new w (.deferred (some [])))
  have hg1 : w.grownBy W1 none := by rw [hW1]; exact (World.grownBy_alloc w _ none).trans (World.grownBy_alloc _ _ none)
  have hA1 : Apart w.heap.size (w.heap.size + 3) w W1 := (Apart.refl _ _ w).grown hg1 (by simp)
  have hbx1 := hbx.kept hg1 (by simp)
  have hk1 : ∀ b, b < w.heap.size → W1.heap[b]? = w.heap[b]? := fun b hb => hg1.block b hb (by simp)
  have hr1 : Reads W1 a0 pb po zs := hr.of_eq (hk1 pb hp)
  refine (cyc_iter (w.heap.size + 1) bx cap pb po a0 zs
    (fun pre W => J pre W ∧ W.heap[w.heap.size + 1]? = some (.loop (L .ready none)) ∧ W.heap[w.heap.size]? = some (.deferred (some [])) ∧ w.heap.size + 2 ≤ W.heap.size ∧ W.heap[bx]? = w.heap[bx]? ∧ W.heap[pb]? = w.heap[pb]?)
    (fun W => Jx W ∧ W.heap[w.heap.size + 1]? = some (.loop (L .done (some .ret))) ∧ W.heap[w.heap.size]? = some (.deferred (some [])) ∧ w.heap.size + 2 ≤ W.heap.size)
    W1 hbx1 hr1 (by omega) hperm hl ?round ⟨hJ _ _ _ h0 hA1, hL1, hD1, by omega, hk1 _ hbl, hk1 _ hp⟩).mono ?_
  case round =>
    rintro pre c post W0 W2 gc cap' hpc ⟨hJ0, hL0, hD0, hz0, hx0, hp0⟩ hg2 hown hkd
    have hcm : c ∈ cyc zs := by rw [← hpc]; simp
    have hcy := (cyc_spec hperm).1 c hcm
    rw [hs1] at hg2 hkd ⊢
    have hL2 : W2.heap[w.heap.size + 1]? = some (.loop (L .ready none)) := (hg2.block _ (by omega) (by simp)).trans hL0
    have hD2 : W2.heap[w.heap.size]? = some (.deferred (some [])) := (hg2.block _ (by omega) (by simp)).trans hD0
    have hx2 : W2.heap[bx]? = w.heap[bx]? := (hg2.block _ (by omega) (by simp; omega)).trans hx0
    have hp2 : W2.heap[pb]? = w.heap[pb]? := (hg2.block _ (by omega) (by simp; omega)).trans hp0
    have hJ2 : J pre W2 := hJ _ _ _ hJ0 (Apart.of_grown hg2 (by omega) (by omega))
    have hS2 : w.heap.size + 2 < W2.heap.size := by
      obtain ⟨o, ho, _⟩ := hkd (w.heap.size + 2) (Nat.le_refl _) (by omega)
      exact (Array.getElem?_eq_some_iff.1 ho).1
    have hgc : w.heap.size + 3 ≤ gc ∧ gc < W2.heap.size := by
      have h3 := owns_ge hown gc rfl
      rcases hown.2 with ⟨h, _⟩ | ⟨g9, cap9, cur, hv, _, hh, _⟩
      · cases h
      · cases hv
        refine ⟨?_, (Array.getElem?_eq_some_iff.1 hh).1⟩
        by_cases he : gc = w.heap.size + 2
        · obtain ⟨o, ho, hn⟩ := hkd gc (by omega) (by omega)
          rw [hh] at ho
          have := hn _ _ _ (Option.some.inj ho).symm
          simp at this
        · omega
    have hown3 : W2.ownsRow (w.heap.size + 3) 3 1 (.slice (some ⟨gc, 0, none⟩) c.length cap') c.length (pts c) := by
      refine ⟨hown.1, ?_⟩
      rcases hown.2 with ⟨h, _⟩ | ⟨g9, cap9, cur, hv, _, r⟩
      · cases h
      · cases hv
        exact .inr ⟨_, _, cur, rfl, hgc.1, r⟩
    refine hround 0 _ W2 _ hL2 (by simp [hps]) ?_
    refine wpIn_mono (hbody pre c post W2 gc cap' hpc hcy hJ2 hown3 hgc.1 hgc.2 hx2 hp2) ?_
    rintro e a₁ W₁ hq
    cases e with
    | normal =>
      obtain ⟨rfl, hb⟩ := hq
      refine ⟨hL2, ?_⟩
      obtain ⟨Wb, hWb⟩ : ∃ Wb, Wb = W₁.putObj (w.heap.size + 1) (.loop (L .busy none)) := ⟨_, rfl⟩
      have hLb : Wb.heap[w.heap.size + 1]? = some (.loop (L .busy none)) := by rw [hWb]; exact World.putObj_heap_same (Array.getElem?_eq_some_iff.1 hL2).1
      have hkb : ∀ b, b ≠ w.heap.size + 1 → Wb.heap[b]? = W₁.heap[b]? := fun b hb => by rw [hWb]; exact World.putObj_heap_other hb
      have hcb : Wb.ownsRow (w.heap.size + 3) 3 1 (.slice (some ⟨gc, 0, none⟩) c.length cap') c.length (pts c) := by rw [hWb]; exact ownsRow_putObj hown3 _ hL2 rfl
      have hszb : Wb.heap.size = W₁.heap.size := by rw [hWb]; simp
      have hJb : J pre Wb := hJ _ _ _ hJ2 (by rw [hWb]; exact (Apart.refl _ _ W₁).putObj _ ⟨by omega, by omega⟩)
      rw [← hWb]
      refine wpIn_mono (hb Wb hJb hcb (by omega) ((hkb _ (by omega)).trans hx2) ((hkb _ (by omega)).trans hp2)) ?_
      rintro e a₂ W' ⟨⟨hsz, hkp⟩, hor⟩
      have hL' : W'.heap[w.heap.size + 1]? = some (.loop (L .busy none)) := (hkp _ (.inr (.inr ⟨by omega, by omega⟩))).trans hLb
      have hlt' := (Array.getElem?_eq_some_iff.1 hL').1
      have hput : ∀ (o : Obj) (b : Nat), b ≠ w.heap.size + 1 → (W'.putObj (w.heap.size + 1) o).heap[b]? = W'.heap[b]? := fun o b hb => World.putObj_heap_other hb
      have hkeep : ∀ (o : Obj) (b : Nat), (b = bx ∨ b = pb ∨ b = w.heap.size ∨ b = w.heap.size + 2) → (W'.putObj (w.heap.size + 1) o).heap[b]? = W₁.heap[b]? := fun o b hb => by
        rw [hput o b (by omega), hkp b (by omega), hkb b (by omega)]
      have hpre : ∀ (o : Obj), (W₁.heap.size ≤ (W'.putObj (w.heap.size + 1) o).heap.size ∧ ∀ b, (b = bx ∨ b = pb ∨ b = w.heap.size + 2) → (W'.putObj (w.heap.size + 1) o).heap[b]? = W₁.heap[b]?) := fun o =>
        ⟨by simp; omega, fun b hb => hkeep o b (by omega)⟩
      rcases hor with ⟨rfl, hJ'⟩ | ⟨rfl, hJ'⟩
      · refine ⟨hL', hpre _, .inl ⟨rfl, hJ _ _ _ hJ' ((Apart.refl _ _ W').putObj _ ⟨by omega, by omega⟩), World.putObj_heap_same hlt', (hkeep _ _ (by omega)).trans hD2, by simp; omega, (hkeep _ _ (by omega)).trans hx2, (hkeep _ _ (by omega)).trans hp2⟩⟩
      · exact ⟨hL', hpre _, .inr ⟨rfl, hJx _ _ hJ' ((Apart.refl _ _ W').putObj _ ⟨by omega, by omega⟩), World.putObj_heap_same hlt', (hkeep _ _ (by omega)).trans hD2, by simp; omega⟩⟩
    | exit id => exact hq.elim
    | goto t => exact hq.elim
    | ret => exact hq.elim
    | panic c => exact hq.elim
    | outgrown => exact hq.elim
  · rintro e W2 ⟨hv, ⟨W0, ⟨hJ0, hL0, hD0, hz0, _, _⟩, hg2⟩ | ⟨hJ0, hL0, hD0, hz0⟩⟩
    · rw [hs1] at hg2
      have hL2 : W2.heap[w.heap.size + 1]? = some (.loop (L .ready none)) := (hg2.block _ (by omega) (by simp)).trans hL0
      have hD2 : W2.heap[w.heap.size]? = some (.deferred (some [])) := (hg2.block _ (by omega) (by simp)).trans hD0
      have hJ2 : J (cyc zs) W2 := hJ _ _ _ hJ0 (Apart.of_grown hg2 (by omega) (by omega))
      refine ⟨hv, .ready, none, by simp, hL2, ?_⟩
      exact hk _ (hJ _ _ _ hJ2 ((Apart.refl _ _ W2).putObj _ ⟨by omega, by omega⟩)) ((World.putObj_heap_other (by omega)).trans hD2) (by simp; have := hg2.size; omega)
    · refine ⟨hv, .done, some .ret, by simp, hL0, ?_⟩
      exact hx _ (hJx _ _ hJ0 ((Apart.refl _ _ W2).putObj _ ⟨by omega, by omega⟩)) ((World.putObj_heap_other (by omega)).trans hD0) (by simp; omega)
end Go.Proofs.YtjchmhngfnlbhaaDoor
