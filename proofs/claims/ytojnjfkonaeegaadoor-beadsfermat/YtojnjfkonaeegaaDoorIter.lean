/- Laws of a range over a function: the iterator called, its rounds walked. No condition. -/
import Derived.RangeFuncNested
import Derived.RangeFuncBound
import Derived.RangeFuncCalls
import Derived.RangeFuncLeaves
import Derived.Shelf.Abstract
import Derived.WalkKit
import Derived.OwnWalkIn
namespace Go.Proofs.YtojnjfkonaeegaaDoor
open Go Go.RowKit

/-- The record of a loop over a function. -/
abbrev mkLoop (fn : FuncId) (tmps : Array Value) (ps : Array Tmp) (assign body : Code) (D : Nat) (st : LoopState) (pe : Option Code) : Loop :=
  { state := st, pending := pe, fn := fn, tmps := tmps, params := ps, assign := assign, body := body, defers := D }

/-- What follows the loop, by the jump that a round has left pending. -/
def after (n : Nat) (P : Program) (Q : Exit → Act → World → Prop) (a : Act) (W : World) : Option Code → Prop
  | none => Q .normal a W
  | some c => c.wpIn Fence.wide n P Q a W

/-- A range over a function, in a frame that is no round: the iterator's call, its rounds left open. -/
theorem range_outer {P : Program} {n : Nat} {g : Operand} {ps : Array Tmp} {assign body : Code} {Q : Exit → Act → World → Prop} {a : Act} {w : World} {gf : Nat} {lb : Array Value}
    (hg : a.eval g = .func (.func gf) #[] lb) (eg : ∀ args w, (callFunc gf args).run P w = .ok (.enter gf args) w) (h1 : 1 ≤ n)
    (h : ∀ fn, Calls P gf (#[.func (.yield (w.heap.size + 1)) #[] #[]] ++ lb) ((w.alloc (.deferred (some []))).alloc (.loop (mkLoop fn a.tmps ps assign body w.heap.size .ready none))) fun e W =>
      (∃ v, e = .returned v) ∧ ∃ st jump, st ≠ .busy ∧ W.heap[w.heap.size + 1]? = some (.loop (mkLoop fn a.tmps ps assign body w.heap.size st jump)) ∧
        after n P Q { a with defers := { target := .collected w.heap.size, args := #[] } :: a.defers } (W.putObj (w.heap.size + 1) (.loop (mkLoop fn a.tmps ps assign body w.heap.size .exhausted jump))) jump) :
    (Code.rangeFunc g ps assign body).wpIn Fence.wide n P Q a w := by
  refine wpIn_rangeFunc ?_
  intro fn _
  have hround : Fence.wide.round = none := rfl
  rw [hround]
  have h2 := h fn
  generalize hW1 : (w.alloc (.deferred (some []))).alloc (.loop (mkLoop fn a.tmps ps assign body w.heap.size .ready none)) = W1 at h2
  refine ⟨w.heap.size + 1, [{ target := .collected w.heap.size, args := #[] }], W1, { target := .fn (.func gf) lb, args := #[.func (.yield (w.heap.size + 1)) #[] #[]] }, W1, gf,
    #[.func (.yield (w.heap.size + 1)) #[] #[]] ++ lb, W1, ?_, ?_, ?_, ?_, ?_, ?_⟩
  · rw [← hW1]; exact run_enterLoop_outer _ _ _ _ _
  · simp only [resolve, hg]
    simp [go_sem]
  · intro f' _; exact trivial
  · simp [invoke, go_sem, eg]
  · exact fun _ => h1
  · refine callsIn_wide.2 ?_
    refine h2.mono ?_
    rintro e W ⟨⟨v, rfl⟩, st, jump, hb, hl, hq⟩
    refine ⟨jump, _, run_endLoop hl hb, ?_⟩
    cases jump with
    | none => exact hq
    | some c => exact hq

/-- A range over a function within a round of the loop l₀. -/
theorem range_inner {P : Program} {n : Nat} {g : Operand} {ps : Array Tmp} {assign body : Code} {Q : Exit → Act → World → Prop} {a : Act} {w : World} {gf : Nat} {lb : Array Value} {l₀ : Nat} {r₀ : Loop}
    (hl₀ : w.heap[l₀]? = some (.loop r₀)) (hg : a.eval g = .func (.func gf) #[] lb) (eg : ∀ args w, (callFunc gf args).run P w = .ok (.enter gf args) w) (h1 : 1 ≤ n)
    (h : ∀ fn, Calls P gf (#[.func (.yield w.heap.size) #[] #[]] ++ lb) (w.alloc (.loop (mkLoop fn a.tmps ps assign body r₀.defers .ready none))) fun e W =>
      (∃ v, e = .returned v) ∧ ∃ st jump, st ≠ .busy ∧ W.heap[w.heap.size]? = some (.loop (mkLoop fn a.tmps ps assign body r₀.defers st jump)) ∧
        (match jump with
         | none => Q .normal a (W.putObj w.heap.size (.loop (mkLoop fn a.tmps ps assign body r₀.defers .exhausted jump)))
         | some c => c.wpIn (Fence.wide.inRound l₀) n P Q a (W.putObj w.heap.size (.loop (mkLoop fn a.tmps ps assign body r₀.defers .exhausted jump))))) :
    (Code.rangeFunc g ps assign body).wpIn (Fence.wide.inRound l₀) n P Q a w := by
  refine wpIn_rangeFunc ?_
  intro fn _
  have hround : (Fence.wide.inRound l₀).round = some l₀ := rfl
  rw [hround]
  have h2 := h fn
  generalize hW1 : w.alloc (.loop (mkLoop fn a.tmps ps assign body r₀.defers .ready none)) = W1 at h2
  refine ⟨w.heap.size, [], W1, { target := .fn (.func gf) lb, args := #[.func (.yield w.heap.size) #[] #[]] }, W1, gf,
    #[.func (.yield w.heap.size) #[] #[]] ++ lb, W1, ?_, ?_, ?_, ?_, ?_, ?_⟩
  · rw [← hW1]; exact run_enterLoop_inner hl₀ _ _ _ _ _
  · simp only [resolve, hg]
    simp [go_sem]
  · intro f' _; exact trivial
  · simp [invoke, go_sem, eg]
  · exact fun _ => h1
  · refine CallsIn.inRound l₀ ?_
    refine callsIn_wide.2 ?_
    refine h2.mono ?_
    rintro e W ⟨⟨v, rfl⟩, st, jump, hb, hl, hq⟩
    refine ⟨jump, _, run_endLoop hl hb, ?_⟩
    cases jump with
    | none => exact hq
    | some c => exact hq

/-- HOW A ROUND'S BODY MAY BE LEFT: off its end (yield says true), or by a jump (yield says false). -/
def leftBy (L : LoopState → Option Code → Loop) (l : Nat) (R : Ending → World → Prop) : Exit → Act → World → Prop
  | .normal, _, W => W.heap[l]? = some (.loop (L .busy none)) ∧ R (.returned (.bool true)) (W.putObj l (.loop (L .ready none)))
  | .ret, _, W => W.heap[l]? = some (.loop (L .busy none)) ∧ R (.returned (.bool false)) (W.putObj l (.loop (L .done (some .ret))))
  | .exit id, _, W => W.heap[l]? = some (.loop (L .busy none)) ∧ R (.returned (.bool false)) (W.putObj l (.loop (L .done (some (.exit id)))))
  | .goto t, _, W => W.heap[l]? = some (.loop (L .busy none)) ∧ R (.returned (.bool false)) (W.putObj l (.loop (L .done (some (.goto t)))))
  | .panic _, _, _ => False
  | .outgrown, _, _ => False

/-- A CALL OF yield, out of the walk of the round's assignment and body. -/
theorem yield_of_body {P : Program} {m : Nat} {ps : Array Tmp} {assign body : Code} {l D : Nat} {fn : FuncId} {tmps : Array Value} {args : Array Value} {W : World} {R : Ending → World → Prop}
    (hl : W.heap[l]? = some (.loop (mkLoop fn tmps ps assign body D .ready none))) (hs : args.size = ps.size)
    (h : assign.wpIn (Fence.wide.inRound l) m P (Exit.then (fun a₁ W₁ => W₁.heap[l]? = some (.loop (mkLoop fn tmps ps assign body D .ready none)) ∧
        body.wpIn (Fence.wide.inRound l) m P (leftBy (mkLoop fn tmps ps assign body D) l R) a₁ (W₁.putObj l (.loop (mkLoop fn tmps ps assign body D .busy none)))) (fun _ _ _ => False))
      { tmps := (ps.zip args).foldl (fun t (p, v) => t.setIfInBounds p v) tmps, defers := [] } W) :
    YieldAt Fence.wide m P l args W R := by
  refine ⟨fn, _, assign, body, run_yield hl hs, roundIn_of_wpIn trivial (wpIn_mono h ?_)⟩
  rintro e a₁ W₁ hq
  cases e with
  | normal =>
    obtain ⟨hl1, hb⟩ := hq
    refine ⟨_, run_beginRound hl1 rfl, wpIn_mono hb ?_⟩
    rintro e2 a2 W2 hp
    cases e2 with
    | normal => obtain ⟨hl2, hr⟩ := hp; exact ⟨_, _, run_endRound none hl2, hr⟩
    | ret => obtain ⟨hl2, hr⟩ := hp; exact ⟨_, _, run_endRound (some .ret) hl2, hr⟩
    | exit id => obtain ⟨hl2, hr⟩ := hp; exact ⟨_, _, run_endRound (some (.exit id)) hl2, hr⟩
    | goto t => obtain ⟨hl2, hr⟩ := hp; exact ⟨_, _, run_endRound (some (.goto t)) hl2, hr⟩
    | panic c => exact hp.elim
    | outgrown => exact hp.elim
  | exit id => exact hq.elim
  | goto t => exact hq.elim
  | ret => exact hq.elim
  | panic c => exact hq.elim
  | outgrown => exact hq.elim

/-- What a call of yield comes to, out of the walk of the round: assign, then body, on the activation's temporaries. -/
def RoundLaw (P : Program) (l : Nat) (L : LoopState → Option Code → Loop) (ps : Array Tmp) (assign body : Code) (tmps : Array Value) : Prop :=
  ∀ (m : Nat) (args : Array Value) (W : World) (R : Ending → World → Prop), W.heap[l]? = some (.loop (L .ready none)) → args.size = ps.size →
    assign.wpIn (Fence.wide.inRound l) m P (Exit.then (fun a₁ W₁ => W₁.heap[l]? = some (.loop (L .ready none)) ∧
        body.wpIn (Fence.wide.inRound l) m P (leftBy L l R) a₁ (W₁.putObj l (.loop (L .busy none)))) (fun _ _ _ => False))
      { tmps := (ps.zip args).foldl (fun t (p, v) => t.setIfInBounds p v) tmps, defers := [] } W →
    YieldAt Fence.wide m P l args W R

/-- A range over a function, in a frame that is no round, the loop's record under a name. -/
theorem range_out {P : Program} {n : Nat} {g : Operand} {ps : Array Tmp} {assign body : Code} {Q : Exit → Act → World → Prop} {a : Act} {w : World} {gf : Nat} {lb : Array Value}
    (hg : a.eval g = .func (.func gf) #[] lb) (eg : ∀ args w, (callFunc gf args).run P w = .ok (.enter gf args) w) (h1 : 1 ≤ n)
    (h : ∀ (l D : Nat) (L : LoopState → Option Code → Loop) (W1 : World), D = w.heap.size → l = w.heap.size + 1 → RoundLaw P l L ps assign body a.tmps →
      W1 = (w.alloc (.deferred (some []))).alloc (.loop (L .ready none)) →
      Calls P gf (#[.func (.yield l) #[] #[]] ++ lb) W1 fun e W =>
        (∃ v, e = .returned v) ∧ ∃ st jump, st ≠ .busy ∧ W.heap[l]? = some (.loop (L st jump)) ∧
          after n P Q { a with defers := { target := .collected D, args := #[] } :: a.defers } (W.putObj l (.loop (L .exhausted jump))) jump) :
    (Code.rangeFunc g ps assign body).wpIn Fence.wide n P Q a w :=
  range_outer hg eg h1 fun fn => h _ _ (mkLoop fn a.tmps ps assign body w.heap.size) _ rfl rfl (fun _ _ _ _ hl hs hw => yield_of_body hl hs hw) rfl

/-- The same within a round of the loop l₀. -/
theorem range_in {P : Program} {n : Nat} {g : Operand} {ps : Array Tmp} {assign body : Code} {Q : Exit → Act → World → Prop} {a : Act} {w : World} {gf : Nat} {lb : Array Value} {l₀ : Nat} {r₀ : Loop}
    (hl₀ : w.heap[l₀]? = some (.loop r₀)) (hg : a.eval g = .func (.func gf) #[] lb) (eg : ∀ args w, (callFunc gf args).run P w = .ok (.enter gf args) w) (h1 : 1 ≤ n)
    (h : ∀ (l : Nat) (L : LoopState → Option Code → Loop) (W1 : World), l = w.heap.size → RoundLaw P l L ps assign body a.tmps → W1 = w.alloc (.loop (L .ready none)) →
      Calls P gf (#[.func (.yield l) #[] #[]] ++ lb) W1 fun e W =>
        (∃ v, e = .returned v) ∧ ∃ st jump, st ≠ .busy ∧ W.heap[l]? = some (.loop (L st jump)) ∧
          (match jump with
           | none => Q .normal a (W.putObj l (.loop (L .exhausted jump)))
           | some c => c.wpIn (Fence.wide.inRound l₀) n P Q a (W.putObj l (.loop (L .exhausted jump))))) :
    (Code.rangeFunc g ps assign body).wpIn (Fence.wide.inRound l₀) n P Q a w :=
  range_inner hl₀ hg eg h1 fun fn => h _ (mkLoop fn a.tmps ps assign body r₀.defers) _ rfl (fun _ _ _ _ hl hs hw => yield_of_body hl hs hw) rfl

/-- How a call of yield ends, to the iterator: what it keeps is as it was; it says true and J holds, or false and Jx. -/
def YPost (J Jx : World → Prop) (keep : Nat → Prop) (W1 : World) (e : Ending) (W2 : World) : Prop :=
  (W1.heap.size ≤ W2.heap.size ∧ ∀ b, keep b → W2.heap[b]? = W1.heap[b]?) ∧ ((e = .returned (.bool true) ∧ J W2) ∨ (e = .returned (.bool false) ∧ Jx W2))

/-- The blocks from lo on and below hi are there; those that are cells are of the types es. -/
def Kinds (es : List TypeId) (W : World) (lo hi : Nat) : Prop := ∀ b, lo ≤ b → b < hi → ∃ o, W.heap[b]? = some o ∧ ∀ c e fz, o = .cells c e fz → e ∈ es

/-- B is A, but for new blocks and for what lies from lo on and below hi. -/
structure Apart (lo hi : Nat) (A B : World) : Prop where
  os : B.os = A.os
  tape : B.tape = A.tape
  output : B.output = A.output
  size : A.heap.size ≤ B.heap.size
  block : ∀ k, k < A.heap.size → ¬ (lo ≤ k ∧ k < hi) → B.heap[k]? = A.heap[k]?

theorem Apart.refl (lo hi : Nat) (A : World) : Apart lo hi A A := ⟨rfl, rfl, rfl, Nat.le_refl _, fun _ _ _ => rfl⟩
theorem Apart.trans {lo hi : Nat} {A B C : World} (h : Apart lo hi A B) (k : Apart lo hi B C) : Apart lo hi A C :=
  ⟨k.os.trans h.os, k.tape.trans h.tape, k.output.trans h.output, Nat.le_trans h.size k.size, fun b hb hn => (k.block b (Nat.lt_of_lt_of_le hb h.size) hn).trans (h.block b hb hn)⟩
theorem Apart.grown {lo hi : Nat} {A B C : World} {row : Option Nat} (h : Apart lo hi A B) (k : B.grownBy C row) (hr : ∀ j, row = some j → lo ≤ j ∧ j < hi ∨ A.heap.size ≤ j) : Apart lo hi A C :=
  ⟨k.os.trans h.os, k.tape.trans h.tape, k.output.trans h.output, Nat.le_trans h.size k.size, fun b hb hn => (k.block b (Nat.lt_of_lt_of_le hb h.size) (fun e => by
    rcases hr b e.symm with h1 | h1
    · exact hn h1
    · omega)).trans (h.block b hb hn)⟩
theorem Apart.alloc {lo hi : Nat} {A B : World} (h : Apart lo hi A B) (o : Obj) : Apart lo hi A (B.alloc o) := h.grown (World.grownBy_alloc B o none) (by simp)
theorem Apart.putObj {lo hi : Nat} {A B : World} (h : Apart lo hi A B) {l : Nat} (o : Obj) (hl : lo ≤ l ∧ l < hi) : Apart lo hi A (B.putObj l o) := h.grown (grownBy_putObj' B l o) (fun j e => by cases e; exact .inl hl)
theorem Apart.wide {lo hi lo' hi' : Nat} {A B : World} (h : Apart lo hi A B) (h1 : lo' ≤ lo) (h2 : hi ≤ hi') : Apart lo' hi' A B := ⟨h.os, h.tape, h.output, h.size, fun k hk hn => h.block k hk (by omega)⟩
theorem Apart.of_grown {A B : World} {s lo hi : Nat} (k : A.grownBy B (some s)) (h1 : lo ≤ s) (h2 : s < hi) : Apart lo hi A B := (Apart.refl lo hi A).grown k (fun j e => by cases e; exact .inl ⟨h1, h2⟩)
theorem Apart.drew {lo hi : Nat} {A B : World} (h : Apart lo hi A B) : Apart lo hi A B.drew := ⟨h.os, h.tape, h.output, h.size, h.block⟩
theorem Apart.below {lo hi B : Nat} {A C : World} (h : Apart lo hi A C) (h1 : B ≤ lo) (h2 : B ≤ A.heap.size) : Below B A C := ⟨h.os, h.tape, h.output, h.size, fun k hk => h.block k (by omega) (by omega)⟩

/-- Cells of a type that the iterator's blocks don't have lie on. -/
theorem Apart.kind {lo hi : Nat} {A B : World} {es : List TypeId} (h : Apart lo hi A B) (hK : A.heap.size ≤ lo ∨ Kinds es A lo hi) {k : Nat} {c : Array Value} {e : TypeId} {fz : Nat × Nat} (hk : A.heap[k]? = some (.cells c e fz)) (he : ¬ e ∈ es) : B.heap[k]? = A.heap[k]? := by
  have hlt := (Array.getElem?_eq_some_iff.1 hk).1
  refine h.block k hlt (fun hr => ?_)
  rcases hK with h1 | h1
  · omega
  · obtain ⟨o, ho, hn⟩ := h1 k hr.1 hr.2
    rw [hk] at ho
    exact he (hn c e fz (Option.some.inj ho).symm)

/-- The wide fence has no depth. -/
theorem yield_depth {P : Program} {m m' l : Nat} {args : Array Value} {W : World} {R : Ending → World → Prop} (h : YieldAt Fence.wide m P l args W R) : YieldAt Fence.wide m' P l args W R := by
  obtain ⟨fn, tmps, assign, body, hy, hF, hR⟩ := h
  exact ⟨fn, tmps, assign, body, hy, hF, fun c cs _ => hR c cs (room_wide _)⟩

end Go.Proofs.YtojnjfkonaeegaaDoor
