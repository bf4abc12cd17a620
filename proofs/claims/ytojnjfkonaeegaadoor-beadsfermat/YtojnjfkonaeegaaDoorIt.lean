/- Ranges over a function whose rounds all go on: a law for the iterator's call, and one for the range, over a word J of what has been told. No condition. -/
import Derived.Test.YtojnjfkonaeegaaDoorBase
import Derived.Test.YtojnjfkonaeegaaDoorIter
namespace Go.Proofs.YtojnjfkonaeegaaDoor
open Go Go.RowKit

/-- Grown, but for the blocks of C. -/
structure Chg (C : World → Nat → Prop) (W W' : World) : Prop where
  os : W'.os = W.os
  tape : W'.tape = W.tape
  output : W'.output = W.output
  size : W.heap.size ≤ W'.heap.size
  block : ∀ k, k < W.heap.size → ¬C W k → W'.heap[k]? = W.heap[k]?
theorem Chg.of_below {C : World → Nat → Prop} {W W' : World} (h : Below W.heap.size W W') : Chg C W W' := ⟨h.os, h.tape, h.output, h.size, fun k hk _ => h.block k hk⟩
theorem Chg.mono {C C' : World → Nat → Prop} {W W' : World} (h : Chg C W W') (hC : ∀ k, C W k → C' W k) : Chg C' W W' := ⟨h.os, h.tape, h.output, h.size, fun k hk hn => h.block k hk fun hc => hn (hC k hc)⟩
theorem Chg.below {C : World → Nat → Prop} {B : Nat} {A W W' : World} (h : Chg C W W') (hA : Below B A W) (h1 : ∀ k, C W k → B ≤ k) (h2 : B ≤ W.heap.size) : Below B A W' :=
  hA.trans ⟨h.os, h.tape, h.output, h.size, fun k hk => h.block k (by omega) (fun hc => by have := h1 k hc; omega)⟩
/-- Grown, but for the block l. -/
abbrev But (l : Nat) (W W' : World) : Prop := Chg (fun _ b => b = l) W W'
theorem But.of_below {l : Nat} {W W' : World} (h : Below W.heap.size W W') : But l W W' := Chg.of_below h
theorem But.put (l : Nat) (W : World) (o : Obj) : But l W (W.putObj l o) := ⟨rfl, rfl, rfl, by simp, fun _ _ hk => World.putObj_heap_other hk⟩

/-- What an iterator does whose rounds all go on: it tells the things of a list, one by one; E is how a thing is told, F is what it needs of the world, C which blocks it may change, K which ones a round must keep. -/
def ItLaw {α : Type} (gf : Nat) (lb : Array Value) (L : List α) (E : Nat → α → Array Value → World → Prop) (F : World → Prop) (C : Nat → World → Nat → Prop) (K : Nat → Nat → Prop) : Prop :=
  ∀ (l : Nat) (J : List α → World → Prop) (W : World), (∀ pre W, J pre W → F W) → (∀ pre W1 W2, J pre W1 → Chg (C W.heap.size) W1 W2 → J pre W2) → J [] W →
    (∀ pre q post W0 args, pre ++ q :: post = L → J pre W0 → E W.heap.size q args W0 → YieldAt Fence.wide 0 Tryd.prog l args W0 fun e W' =>
      e = .returned (.bool true) ∧ J (pre ++ [q]) W' ∧ W0.heap.size ≤ W'.heap.size ∧ ∀ b, K W.heap.size b → b < W0.heap.size → W'.heap[b]? = W0.heap[b]?) →
    Calls Tryd.prog gf (#[.func (.yield l) #[] #[]] ++ lb) W fun e W' => (∃ v, e = .returned v) ∧ J L W'
abbrev NoC : Nat → World → Nat → Prop := fun _ _ _ => False
abbrev NoK : Nat → Nat → Prop := fun _ _ => False

/-- What a round leaves alone: the range's own two blocks, and the blocks of K. -/
structure Keeps (D : Nat) (K : Nat → Prop) (W W' : World) : Prop where
  size : W.heap.size ≤ W'.heap.size
  dfr : W'.heap[D]? = W.heap[D]?
  loop : W'.heap[D + 1]? = W.heap[D + 1]?
  keep : ∀ b, K b → b < W.heap.size → W'.heap[b]? = W.heap[b]?
theorem Keeps.of_below {D : Nat} {K : Nat → Prop} {W W' : World} (h : Below W.heap.size W W') (hD : D + 1 < W.heap.size) : Keeps D K W W' := ⟨h.size, h.block _ (by omega), h.block _ hD, fun b _ hb => h.block b hb⟩

theorem range_it {α : Type} {gf : Nat} {lb : Array Value} {L : List α} {E : Nat → α → Array Value → World → Prop} {F : World → Prop} {C : Nat → World → Nat → Prop} {K : Nat → Nat → Prop} (hI : ItLaw gf lb L E F C K)
    {n : Nat} {g : Operand} {ps : Array Tmp} {assign body : Code} {Q : Exit → Act → World → Prop} {a : Act} {w : World}
    (J : List α → World → Prop) (hCs : ∀ s W b, C s W b → s ≤ b) (hKs : ∀ s b, K s b → s ≤ b)
    (hg : a.eval g = .func (.func gf) #[] lb) (eg : ∀ args w, (callFunc gf args).run Tryd.prog w = .ok (.enter gf args) w) (h1 : 1 ≤ n) (hps : ∀ s q args W, E s q args W → args.size = ps.size)
    (hF : ∀ pre W, J pre W → F W) (hJ : ∀ pre W W', J pre W → w.heap.size + 2 ≤ W'.heap.size → Chg (fun W b => b = w.heap.size + 1 ∨ C (w.heap.size + 2) W b) W W' → (∃ r, W.heap[w.heap.size + 1]? = some (.loop r)) → J pre W')
    (hJ0 : ∀ W', Below w.heap.size w W' → J [] W')
    (hbody : ∀ (pre : List α) (q : α) (post : List α) (W : World) (args : Array Value), pre ++ q :: post = L → J pre W → E (w.heap.size + 2) q args W → w.heap.size + 2 ≤ W.heap.size →
      assign.wpIn (Fence.wide.inRound (w.heap.size + 1)) 0 Tryd.prog (Exit.then (fun a₁ W₁ => Below W.heap.size W W₁ ∧ ∀ Wb, J pre Wb → w.heap.size + 2 ≤ Wb.heap.size → But (w.heap.size + 1) W₁ Wb → (∃ r, W₁.heap[w.heap.size + 1]? = some (.loop r)) →
        body.wpIn (Fence.wide.inRound (w.heap.size + 1)) 0 Tryd.prog (fun e _ W' => e = .normal ∧ Keeps w.heap.size (K (w.heap.size + 2)) Wb W' ∧ J (pre ++ [q]) W') a₁ Wb) (fun _ _ _ => False))
        { tmps := (ps.zip args).foldl (fun t (p, v) => t.setIfInBounds p v) a.tmps, defers := [] } W)
    (hk : ∀ W, J L W → W.heap[w.heap.size]? = some (.deferred (some [])) → w.heap.size + 2 ≤ W.heap.size → Q .normal { a with defers := { target := .collected w.heap.size, args := #[] } :: a.defers } W) :
    (Code.rangeFunc g ps assign body).wpIn Fence.wide n Tryd.prog Q a w := by
  refine range_out (gf := gf) (lb := lb) hg eg h1 ?_
  intro lr D L0 W1 hD hlr hround hW1
  subst hD hlr
  have hs1 : W1.heap.size = w.heap.size + 2 := by rw [hW1]; simp
  have hL1 : W1.heap[w.heap.size + 1]? = some (.loop (L0 .ready none)) := by
    rw [hW1]; have := World.alloc_heap_new (w.alloc (.deferred (some []))) (.loop (L0 .ready none)); rw [World.size_alloc] at this; exact this
  have hD1 : W1.heap[w.heap.size]? = some (.deferred (some [])) := by
    rw [hW1]; exact (Below.heap_alloc _ _ _ (by simp)).trans (World.alloc_heap_new w (.deferred (some [])))
  have hB1 : Below w.heap.size w W1 := by rw [hW1]; exact ((Below.refl _ w).alloc (Nat.le_refl _) _).alloc (by simp) _
  refine (hI (w.heap.size + 1) (fun pre W => J pre W ∧ W.heap[w.heap.size + 1]? = some (.loop (L0 .ready none)) ∧ W.heap[w.heap.size]? = some (.deferred (some [])) ∧ w.heap.size + 2 ≤ W.heap.size) W1
    (fun pre W h => hF pre W h.1) ?_ ⟨hJ0 W1 hB1, hL1, hD1, by omega⟩ ?_).mono ?_
  · rintro pre W W' ⟨a1, a2, a3, a4⟩ hb
    rw [hs1] at hb
    have := hb.size
    have hn : ∀ b, b < w.heap.size + 2 → ¬C (w.heap.size + 2) W b := fun b hb hc => by have := hCs _ _ _ hc; omega
    exact ⟨hJ _ _ _ a1 (by omega) (hb.mono fun k hk => .inr hk) ⟨_, a2⟩, (hb.block _ (by omega) (hn _ (by omega))).trans a2, (hb.block _ (by omega) (hn _ (by omega))).trans a3, by omega⟩
  · rintro pre q post W0 args hpq ⟨a1, a2, a3, a4⟩ hE
    rw [hs1] at hE ⊢
    refine hround 0 _ W0 _ a2 (hps _ _ _ _ hE) ?_
    refine wpIn_mono (hbody pre q post W0 args hpq a1 hE a4) ?_
    rintro e a₁ W₁ hq
    cases e with
    | normal =>
      obtain ⟨hbt, hb⟩ := hq
      have hl1 := hbt.block (w.heap.size + 1) (by omega)
      have hd1 := hbt.block w.heap.size (by omega)
      refine ⟨hl1.trans a2, ?_⟩
      have hJ1 : J pre (W₁.putObj (w.heap.size + 1) (.loop (L0 .busy none))) :=
        hJ _ _ _ (hJ _ _ _ a1 (by have := hbt.size; omega) (Chg.of_below hbt) ⟨_, a2⟩) (by simp; have := hbt.size; omega) ((But.put _ _ _).mono fun k hk => .inl hk) ⟨_, hl1.trans a2⟩
      have hlt : w.heap.size + 1 < W₁.heap.size := by have := hbt.size; omega
      refine wpIn_mono (hb _ hJ1 (by simp; omega) (But.put _ _ _) ⟨_, hl1.trans a2⟩) ?_
      rintro e a₂ W' ⟨rfl, hkp, hJ'⟩
      have hsz : W₁.heap.size ≤ W'.heap.size := by have := hkp.size; simpa using this
      have hL' : W'.heap[w.heap.size + 1]? = some (.loop (L0 .busy none)) := hkp.loop.trans (World.putObj_heap_same hlt)
      have hD' : W'.heap[w.heap.size]? = some (.deferred (some [])) := by
        rw [hkp.dfr, World.putObj_heap_other (by omega), hd1]; exact a3
      refine ⟨hL', rfl, ⟨hJ _ _ _ hJ' (by simp; omega) ((But.put _ _ _).mono fun k hk => .inl hk) ⟨_, hL'⟩, World.putObj_heap_same (by omega), (World.putObj_heap_other (by omega)).trans hD', by simp; omega⟩, by simp; have := hbt.size; omega, ?_⟩
      intro b hKb hb0
      have hge := hKs _ _ hKb
      rw [World.putObj_heap_other (by omega), hkp.keep b hKb (by simp; have := hbt.size; omega), World.putObj_heap_other (by omega), hbt.block b hb0]
    | exit id => exact hq.elim
    | goto t => exact hq.elim
    | ret => exact hq.elim
    | panic c => exact hq.elim
    | outgrown => exact hq.elim
  · rintro e W2 ⟨hv, a1, a2, a3, a4⟩
    refine ⟨hv, .ready, none, by simp, a2, ?_⟩
    exact hk _ (hJ _ _ _ a1 (by simp; omega) ((But.put _ _ _).mono fun k hk => .inl hk) ⟨_, a2⟩) ((World.putObj_heap_other (by omega)).trans a3) (by simp; omega)

end Go.Proofs.YtojnjfkonaeegaaDoor
