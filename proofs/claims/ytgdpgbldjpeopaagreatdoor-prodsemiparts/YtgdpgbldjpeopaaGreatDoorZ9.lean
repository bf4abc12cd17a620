/- Package hom: kernels, what makers and images are extended to, the least makers, all homomorphisms that fit, listed; Autos; and Kernel and Image at faults. Condition: the library's table of places lies as its text lays it. -/
import Derived.RangeFuncNested
import Derived.RangeFuncBound
import Derived.RangeFuncCalls
import Derived.RangeFuncLeaves
import Derived.Shelf.Abstract
import Derived.WalkKit
import Derived.OwnWalkIn
import Derived.Test.YtgdpgbldjpeopaaGreatDoorZ3
import Derived.Shelf.Bits.Mul64
import Derived.Laws.CopyOwn
import Derived.Deep.RegionLaw
import Derived.Test.YtgdpgbldjpeopaaGreatDoorZ4
import Derived.Test.YtgdpgbldjpeopaaGreatDoorZ2
import Derived.Deep.OwnRows
import Derived.Deep.Cut
import Derived.Deep.RegionHeld3
import Derived.Maps.OwnIn
import Derived.RangeFuncBox
namespace Go.Proofs.YtgdpgbldjpeopaaGreatDoor
open Go Go.RowKit

/-- The record of a loop over a function. -/
abbrev mkLoop (fn : FuncId) (tmps : Array Value) (ps : Array Tmp) (assign body : Code) (D : Nat) (st : LoopState) (pe : Option Code) : Loop :=
  { state := st, pending := pe, fn := fn, tmps := tmps, params := ps, assign := assign, body := body, defers := D }

/-- What follows the loop, by the jump that a round has left pending. -/
def after (n : Nat) (P : Program) (Q : Exit → Act → World → Prop) (a : Act) (W : World) : Option Code → Prop
  | none => Q .normal a W
  | some c => c.wpIn Fence.wide n P Q a W

/-- A range over a function, in a frame that is no round: the iterator's call, its rounds left open. -/
theorem range_outer {P : Program} {n : Nat} {g : Operand} {ps : Array Tmp} {assign body : Code} {Q : Exit → Act → World → Prop} {a : Act} {w : World} {gf : Nat} {lb : Array Value}
    (hg : a.eval g = .func (.func gf) #[] lb) (eg : ∀ args w, (callFunc gf args).run P w = .ok (.enter gf args) w) (h1 : 1 ≤ n)
    (h : ∀ fn, Calls P gf (#[.func (.yield (w.heap.size + 1)) #[] #[]] ++ lb) ((w.alloc (.deferred (some []))).alloc (.loop (mkLoop fn a.tmps ps assign body w.heap.size .ready none))) fun e W =>
      (∃ v, e = .returned v) ∧ ∃ st jump, st ≠ .busy ∧ W.heap[w.heap.size + 1]? = some (.loop (mkLoop fn a.tmps ps assign body w.heap.size st jump)) ∧
        after n P Q { a with defers := { target := .collected w.heap.size, args := #[] } :: a.defers } (W.putObj (w.heap.size + 1) (.loop (mkLoop fn a.tmps ps assign body w.heap.size .exhausted jump))) jump) :
    (Code.rangeFunc g ps assign body).wpIn Fence.wide n P Q a w := by
  refine wpIn_rangeFunc ?_
  intro fn _
  have hround : Fence.wide.round = none := rfl
  rw [hround]
  have h2 := h fn
  generalize hW1 : (w.alloc (.deferred (some []))).alloc (.loop (mkLoop fn a.tmps ps assign body w.heap.size .ready none)) = W1 at h2
  refine ⟨w.heap.size + 1, [{ target := .collected w.heap.size, args := #[] }], W1, { target := .fn (.func gf) lb, args := #[.func (.yield (w.heap.size + 1)) #[] #[]] }, W1, gf,
    #[.func (.yield (w.heap.size + 1)) #[] #[]] ++ lb, W1, ?_, ?_, ?_, ?_, ?_, ?_⟩
  · rw [← hW1]; exact run_enterLoop_outer _ _ _ _ _
  · simp only [resolve, hg]
    simp [go_sem]
  · intro f' _; exact trivial
  · simp [invoke, go_sem, eg]
  · exact fun _ => h1
  · refine callsIn_wide.2 ?_
    refine h2.mono ?_
    rintro e W ⟨⟨v, rfl⟩, st, jump, hb, hl, hq⟩
    refine ⟨jump, _, run_endLoop hl hb, ?_⟩
    cases jump with
    | none => exact hq
    | some c => exact hq

/-- A range over a function within a round of the loop l₀. -/
theorem range_inner {P : Program} {n : Nat} {g : Operand} {ps : Array Tmp} {assign body : Code} {Q : Exit → Act → World → Prop} {a : Act} {w : World} {gf : Nat} {lb : Array Value} {l₀ : Nat} {r₀ : Loop}
    (hl₀ : w.heap[l₀]? = some (.loop r₀)) (hg : a.eval g = .func (.func gf) #[] lb) (eg : ∀ args w, (callFunc gf args).run P w = .ok (.enter gf args) w) (h1 : 1 ≤ n)
    (h : ∀ fn, Calls P gf (#[.func (.yield w.heap.size) #[] #[]] ++ lb) (w.alloc (.loop (mkLoop fn a.tmps ps assign body r₀.defers .ready none))) fun e W =>
      (∃ v, e = .returned v) ∧ ∃ st jump, st ≠ .busy ∧ W.heap[w.heap.size]? = some (.loop (mkLoop fn a.tmps ps assign body r₀.defers st jump)) ∧
        (match jump with
         | none => Q .normal a (W.putObj w.heap.size (.loop (mkLoop fn a.tmps ps assign body r₀.defers .exhausted jump)))
         | some c => c.wpIn (Fence.wide.inRound l₀) n P Q a (W.putObj w.heap.size (.loop (mkLoop fn a.tmps ps assign body r₀.defers .exhausted jump))))) :
    (Code.rangeFunc g ps assign body).wpIn (Fence.wide.inRound l₀) n P Q a w := by
  refine wpIn_rangeFunc ?_
  intro fn _
  have hround : (Fence.wide.inRound l₀).round = some l₀ := rfl
  rw [hround]
  have h2 := h fn
  generalize hW1 : w.alloc (.loop (mkLoop fn a.tmps ps assign body r₀.defers .ready none)) = W1 at h2
  refine ⟨w.heap.size, [], W1, { target := .fn (.func gf) lb, args := #[.func (.yield w.heap.size) #[] #[]] }, W1, gf,
    #[.func (.yield w.heap.size) #[] #[]] ++ lb, W1, ?_, ?_, ?_, ?_, ?_, ?_⟩
  · rw [← hW1]; exact run_enterLoop_inner hl₀ _ _ _ _ _
  · simp only [resolve, hg]
    simp [go_sem]
  · intro f' _; exact trivial
  · simp [invoke, go_sem, eg]
  · exact fun _ => h1
  · refine CallsIn.inRound l₀ ?_
    refine callsIn_wide.2 ?_
    refine h2.mono ?_
    rintro e W ⟨⟨v, rfl⟩, st, jump, hb, hl, hq⟩
    refine ⟨jump, _, run_endLoop hl hb, ?_⟩
    cases jump with
    | none => exact hq
    | some c => exact hq

/-- HOW A ROUND'S BODY MAY BE LEFT: off its end (yield says true), or by a jump (yield says false). -/
def leftBy (L : LoopState → Option Code → Loop) (l : Nat) (R : Ending → World → Prop) : Exit → Act → World → Prop
  | .normal, _, W => W.heap[l]? = some (.loop (L .busy none)) ∧ R (.returned (.bool true)) (W.putObj l (.loop (L .ready none)))
  | .ret, _, W => W.heap[l]? = some (.loop (L .busy none)) ∧ R (.returned (.bool false)) (W.putObj l (.loop (L .done (some .ret))))
  | .exit id, _, W => W.heap[l]? = some (.loop (L .busy none)) ∧ R (.returned (.bool false)) (W.putObj l (.loop (L .done (some (.exit id)))))
  | .goto t, _, W => W.heap[l]? = some (.loop (L .busy none)) ∧ R (.returned (.bool false)) (W.putObj l (.loop (L .done (some (.goto t)))))
  | .panic _, _, _ => False
  | .outgrown, _, _ => False

/-- A CALL OF yield, out of the walk of the round's assignment and body. -/
theorem yield_of_body {P : Program} {m : Nat} {ps : Array Tmp} {assign body : Code} {l D : Nat} {fn : FuncId} {tmps : Array Value} {args : Array Value} {W : World} {R : Ending → World → Prop}
    (hl : W.heap[l]? = some (.loop (mkLoop fn tmps ps assign body D .ready none))) (hs : args.size = ps.size)
    (h : assign.wpIn (Fence.wide.inRound l) m P (Exit.then (fun a₁ W₁ => W₁.heap[l]? = some (.loop (mkLoop fn tmps ps assign body D .ready none)) ∧
        body.wpIn (Fence.wide.inRound l) m P (leftBy (mkLoop fn tmps ps assign body D) l R) a₁ (W₁.putObj l (.loop (mkLoop fn tmps ps assign body D .busy none)))) (fun _ _ _ => False))
      { tmps := (ps.zip args).foldl (fun t (p, v) => t.setIfInBounds p v) tmps, defers := [] } W) :
    YieldAt Fence.wide m P l args W R := by
  refine ⟨fn, _, assign, body, run_yield hl hs, roundIn_of_wpIn trivial (wpIn_mono h ?_)⟩
  rintro e a₁ W₁ hq
  cases e with
  | normal =>
    obtain ⟨hl1, hb⟩ := hq
    refine ⟨_, run_beginRound hl1 rfl, wpIn_mono hb ?_⟩
    rintro e2 a2 W2 hp
    cases e2 with
    | normal => obtain ⟨hl2, hr⟩ := hp; exact ⟨_, _, run_endRound none hl2, hr⟩
    | ret => obtain ⟨hl2, hr⟩ := hp; exact ⟨_, _, run_endRound (some .ret) hl2, hr⟩
    | exit id => obtain ⟨hl2, hr⟩ := hp; exact ⟨_, _, run_endRound (some (.exit id)) hl2, hr⟩
    | goto t => obtain ⟨hl2, hr⟩ := hp; exact ⟨_, _, run_endRound (some (.goto t)) hl2, hr⟩
    | panic c => exact hp.elim
    | outgrown => exact hp.elim
  | exit id => exact hq.elim
  | goto t => exact hq.elim
  | ret => exact hq.elim
  | panic c => exact hq.elim
  | outgrown => exact hq.elim

/-- What a call of yield comes to, out of the walk of the round: assign, then body, on the activation's temporaries. -/
def RoundLaw (P : Program) (l : Nat) (L : LoopState → Option Code → Loop) (ps : Array Tmp) (assign body : Code) (tmps : Array Value) : Prop :=
  ∀ (m : Nat) (args : Array Value) (W : World) (R : Ending → World → Prop), W.heap[l]? = some (.loop (L .ready none)) → args.size = ps.size →
    assign.wpIn (Fence.wide.inRound l) m P (Exit.then (fun a₁ W₁ => W₁.heap[l]? = some (.loop (L .ready none)) ∧
        body.wpIn (Fence.wide.inRound l) m P (leftBy L l R) a₁ (W₁.putObj l (.loop (L .busy none)))) (fun _ _ _ => False))
      { tmps := (ps.zip args).foldl (fun t (p, v) => t.setIfInBounds p v) tmps, defers := [] } W →
    YieldAt Fence.wide m P l args W R

/-- A range over a function, in a frame that is no round, the loop's record under a name. -/
theorem range_out {P : Program} {n : Nat} {g : Operand} {ps : Array Tmp} {assign body : Code} {Q : Exit → Act → World → Prop} {a : Act} {w : World} {gf : Nat} {lb : Array Value}
    (hg : a.eval g = .func (.func gf) #[] lb) (eg : ∀ args w, (callFunc gf args).run P w = .ok (.enter gf args) w) (h1 : 1 ≤ n)
    (h : ∀ (l D : Nat) (L : LoopState → Option Code → Loop) (W1 : World), D = w.heap.size → l = w.heap.size + 1 → RoundLaw P l L ps assign body a.tmps →
      W1 = (w.alloc (.deferred (some []))).alloc (.loop (L .ready none)) →
      Calls P gf (#[.func (.yield l) #[] #[]] ++ lb) W1 fun e W =>
        (∃ v, e = .returned v) ∧ ∃ st jump, st ≠ .busy ∧ W.heap[l]? = some (.loop (L st jump)) ∧
          after n P Q { a with defers := { target := .collected D, args := #[] } :: a.defers } (W.putObj l (.loop (L .exhausted jump))) jump) :
    (Code.rangeFunc g ps assign body).wpIn Fence.wide n P Q a w :=
  range_outer hg eg h1 fun fn => h _ _ (mkLoop fn a.tmps ps assign body w.heap.size) _ rfl rfl (fun _ _ _ _ hl hs hw => yield_of_body hl hs hw) rfl

/-- The same within a round of the loop l₀. -/
theorem range_in {P : Program} {n : Nat} {g : Operand} {ps : Array Tmp} {assign body : Code} {Q : Exit → Act → World → Prop} {a : Act} {w : World} {gf : Nat} {lb : Array Value} {l₀ : Nat} {r₀ : Loop}
    (hl₀ : w.heap[l₀]? = some (.loop r₀)) (hg : a.eval g = .func (.func gf) #[] lb) (eg : ∀ args w, (callFunc gf args).run P w = .ok (.enter gf args) w) (h1 : 1 ≤ n)
    (h : ∀ (l : Nat) (L : LoopState → Option Code → Loop) (W1 : World), l = w.heap.size → RoundLaw P l L ps assign body a.tmps → W1 = w.alloc (.loop (L .ready none)) →
      Calls P gf (#[.func (.yield l) #[] #[]] ++ lb) W1 fun e W =>
        (∃ v, e = .returned v) ∧ ∃ st jump, st ≠ .busy ∧ W.heap[l]? = some (.loop (L st jump)) ∧
          (match jump with
           | none => Q .normal a (W.putObj l (.loop (L .exhausted jump)))
           | some c => c.wpIn (Fence.wide.inRound l₀) n P Q a (W.putObj l (.loop (L .exhausted jump))))) :
    (Code.rangeFunc g ps assign body).wpIn (Fence.wide.inRound l₀) n P Q a w :=
  range_inner hl₀ hg eg h1 fun fn => h _ (mkLoop fn a.tmps ps assign body r₀.defers) _ rfl (fun _ _ _ _ hl hs hw => yield_of_body hl hs hw) rfl

/-- How a call of yield ends, to the iterator: what it keeps is as it was; it says true and J holds, or false and Jx. -/
def YPost (J Jx : World → Prop) (keep : Nat → Prop) (W1 : World) (e : Ending) (W2 : World) : Prop :=
  (e = .returned (.bool true) → W1.heap.size ≤ W2.heap.size ∧ ∀ b, keep b → W2.heap[b]? = W1.heap[b]?) ∧ ((e = .returned (.bool true) ∧ J W2) ∨ (e = .returned (.bool false) ∧ Jx W2))

/-- The blocks from lo on and below hi are there; those that are cells are of the types es. -/
def Kinds (es : List TypeId) (W : World) (lo hi : Nat) : Prop := ∀ b, lo ≤ b → b < hi → ∃ o, W.heap[b]? = some o ∧ ∀ c e fz, o = .cells c e fz → e ∈ es

/-- B is A, but for new blocks and for what lies from lo on and below hi. -/
structure Apart (lo hi : Nat) (A B : World) : Prop where
  os : B.os = A.os
  tape : B.tape = A.tape
  output : B.output = A.output
  size : A.heap.size ≤ B.heap.size
  block : ∀ k, k < A.heap.size → ¬ (lo ≤ k ∧ k < hi) → B.heap[k]? = A.heap[k]?

theorem Apart.refl (lo hi : Nat) (A : World) : Apart lo hi A A := ⟨rfl, rfl, rfl, Nat.le_refl _, fun _ _ _ => rfl⟩
theorem Apart.trans {lo hi : Nat} {A B C : World} (h : Apart lo hi A B) (k : Apart lo hi B C) : Apart lo hi A C :=
  ⟨k.os.trans h.os, k.tape.trans h.tape, k.output.trans h.output, Nat.le_trans h.size k.size, fun b hb hn => (k.block b (Nat.lt_of_lt_of_le hb h.size) hn).trans (h.block b hb hn)⟩
theorem Apart.grown {lo hi : Nat} {A B C : World} {row : Option Nat} (h : Apart lo hi A B) (k : B.grownBy C row) (hr : ∀ j, row = some j → lo ≤ j ∧ j < hi ∨ A.heap.size ≤ j) : Apart lo hi A C :=
  ⟨k.os.trans h.os, k.tape.trans h.tape, k.output.trans h.output, Nat.le_trans h.size k.size, fun b hb hn => (k.block b (Nat.lt_of_lt_of_le hb h.size) (fun e => by
    rcases hr b e.symm with h1 | h1
    · exact hn h1
    · omega)).trans (h.block b hb hn)⟩
theorem Apart.alloc {lo hi : Nat} {A B : World} (h : Apart lo hi A B) (o : Obj) : Apart lo hi A (B.alloc o) := h.grown (World.grownBy_alloc B o none) (by simp)
theorem Apart.putObj {lo hi : Nat} {A B : World} (h : Apart lo hi A B) {l : Nat} (o : Obj) (hl : lo ≤ l ∧ l < hi) : Apart lo hi A (B.putObj l o) := h.grown (grownBy_putObj' B l o) (fun j e => by cases e; exact .inl hl)
theorem Apart.wide {lo hi lo' hi' : Nat} {A B : World} (h : Apart lo hi A B) (h1 : lo' ≤ lo) (h2 : hi ≤ hi') : Apart lo' hi' A B := ⟨h.os, h.tape, h.output, h.size, fun k hk hn => h.block k hk (by omega)⟩
theorem Apart.of_grown {A B : World} {s lo hi : Nat} (k : A.grownBy B (some s)) (h1 : lo ≤ s) (h2 : s < hi) : Apart lo hi A B := (Apart.refl lo hi A).grown k (fun j e => by cases e; exact .inl ⟨h1, h2⟩)
theorem Apart.drew {lo hi : Nat} {A B : World} (h : Apart lo hi A B) : Apart lo hi A B.drew := ⟨h.os, h.tape, h.output, h.size, h.block⟩
theorem Apart.below {lo hi B : Nat} {A C : World} (h : Apart lo hi A C) (h1 : B ≤ lo) (h2 : B ≤ A.heap.size) : Below B A C := ⟨h.os, h.tape, h.output, h.size, fun k hk => h.block k (by omega) (by omega)⟩

/-- Cells of a type that the iterator's blocks don't have lie on. -/
theorem Apart.kind {lo hi : Nat} {A B : World} {es : List TypeId} (h : Apart lo hi A B) (hK : A.heap.size ≤ lo ∨ Kinds es A lo hi) {k : Nat} {c : Array Value} {e : TypeId} {fz : Nat × Nat} (hk : A.heap[k]? = some (.cells c e fz)) (he : ¬ e ∈ es) : B.heap[k]? = A.heap[k]? := by
  have hlt := (Array.getElem?_eq_some_iff.1 hk).1
  refine h.block k hlt (fun hr => ?_)
  rcases hK with h1 | h1
  · omega
  · obtain ⟨o, ho, hn⟩ := h1 k hr.1 hr.2
    rw [hk] at ho
    exact he (hn c e fz (Option.some.inj ho).symm)

/-- The wide fence has no depth. -/
theorem yield_depth {P : Program} {m m' l : Nat} {args : Array Value} {W : World} {R : Ending → World → Prop} (h : YieldAt Fence.wide m P l args W R) : YieldAt Fence.wide m' P l args W R := by
  obtain ⟨fn, tmps, assign, body, hy, hF, hR⟩ := h
  exact ⟨fn, tmps, assign, body, hy, hF, fun c cs _ => hR c cs (room_wide _)⟩

end Go.Proofs.YtgdpgbldjpeopaaGreatDoor

namespace Go.Proofs
open Go.Shelf
def Tryz.lays212_ren : Go.Shelf.Ren := ⟨fun | 212 => 114 | 263 => 116 | 264 => 117 | n => n, fun | 46 => 111 | 51 => 125 | 53 => 55 | 146 => 139 | 148 => 141 | n => n, fun | n => n⟩
theorem Tryz.lays212 : Go.Proofs.Lays.n212 Tryz.prog Tryz.lays212_ren := {
  mixed := by kernel_rfl
  f212 := Tryz.func114.trans (congrArg some (by kernel_rfl))
  f263 := Tryz.func116.trans (congrArg some (by kernel_rfl))
  f264 := Tryz.func117.trans (congrArg some (by kernel_rfl))
  t46 := by kernel_rfl
  a46 := fun _ => by kernel_rfl
  z46 := fun _ => by kernel_rfl
  v46 := fun _ => by kernel_rfl
  t51 := by kernel_rfl
  a51 := fun _ => by kernel_rfl
  z51 := fun _ => by kernel_rfl
  v51 := fun _ => by kernel_rfl
  t53 := by kernel_rfl
  a53 := fun _ => by kernel_rfl
  z53 := fun _ => by kernel_rfl
  v53 := fun _ => by kernel_rfl
  t146 := by kernel_rfl
  a146 := fun _ => by kernel_rfl
  z146 := fun _ => by kernel_rfl
  v146 := fun _ => by kernel_rfl
  t148 := by kernel_rfl
  a148 := fun _ => by kernel_rfl
  z148 := fun _ => by kernel_rfl
  v148 := fun _ => by kernel_rfl }
end Go.Proofs
namespace Go.Proofs.YtgdpgbldjpeopaaGreatDoor
open Go Go.RowKit

theorem mul1_ok (n : Nat) (w : World) (hn : n ≤ 60) : Calls Tryz.prog 114 #[.int .u64 1, .int .u64 n] w fun e w' => e = .returned (.tuple #[.int .u64 0, .int .u64 n]) ∧ w' = w := by
  have h := Any.bits_Mul Tryz.lays212 1 n (by omega) (by omega) w
  rw [Nat.one_mul, Nat.div_eq_of_lt (by omega), Nat.mod_eq_of_lt (by omega)] at h
  exact h
/-- The first k cells are filled. -/
def rpl (x : Int) (n k : Nat) : List Int := List.replicate k x ++ List.replicate (n - k) 0
theorem rpl_len {x : Int} {n k : Nat} (h : k ≤ n) : (rpl x n k).length = n := by unfold rpl; simp; omega
theorem rpl_map (x : Int) (n k : Nat) : (rpl x n k).map (Value.int .i64) = List.replicate k (.int .i64 x) ++ List.replicate (n - k) (.int .i64 0) := by unfold rpl; simp
theorem rpl_splice {x : Int} {n k c : Nat} (hk : k + c ≤ n) : splice ((rpl x n k).map (Value.int .i64)) k (List.replicate c (.int .i64 x)) = (rpl x n (k + c)).map (Value.int .i64) := by
  rw [rpl_map, rpl_map]
  unfold splice
  rw [List.take_append_of_le_length (by simp), List.length_replicate, List.take_replicate, Nat.min_self, List.drop_append, List.drop_eq_nil_of_le (by simp), List.nil_append, List.length_replicate, List.drop_replicate, ← List.append_assoc, List.replicate_append_replicate]
  congr 2
  omega
set_option maxRecDepth 100000 in
set_option maxHeartbeats 400000 in
theorem repeat_ok (n b : Nat) (x : Int) (w : World) (hn1 : 1 ≤ n) (hn : n ≤ 60) (hb : w.cell? ⟨b, 0, none⟩ = some (.int .i64 x)) :
    Calls Tryz.prog 105 #[.slice (some ⟨b, 0, none⟩) 1 1, .int .i64 n] w fun e w' => e = .returned (.slice (some ⟨w.heap.size, 0, none⟩) n n) ∧ Blk w' w.heap.size 3 (List.replicate n (.int .i64 x)) ∧ Below w.heap.size w w' := by
  obtain ⟨i0, hi, hz0, hz1, hz2⟩ := info_parts info3b
  have hni : ¬ (n : Int) < 0 := by omega
  have hw1 : IntKind.u64.wrap (n : Int) = (n : Int) := by rw [IntKind.wrap_u64]; omega
  have hw2 : IntKind.i64.wrap (n : Int) = (n : Int) := by rw [IntKind.wrap_i64]; omega
  have hnm : ¬ (9223372036854775807 : Int) < (n : Int) := by omega
  go_enter Tryz.func105, Tryz.ntmps105
  go_wp2_with fail
  refine (mul1_ok n w hn).mono ?_
  rintro e1 w1 ⟨rfl, rfl⟩
  go_wp2_with (first
    | (at_make; refine wpList_make_full _ rfl _ _ 22 rfl w1.heap.size 3 i0 (.int .i64 0) 1 under22b hi hz0 hz1 _ _ _ _ n rfl rfl rfl rfl (by rw [hz2]; omega) (by unfold maxLen; omega) (by simp) ?_))
  intro w2 hown hgr
  have hM2 : Blk w2 w1.heap.size 3 ((rpl x n 0).map (Value.int .i64)) := by
    have := Blk.of_owns hown
    rw [made_rep] at this
    rw [rpl_map]
    exact this
  have hb2 : Below w1.heap.size w1 w2 := (Below.refl _ w1).grown hgr (Nat.le_refl _) (by simp)
  have hcx := below_cell hb2 hb
  clear hown hgr
  have hsz : (Tryz.prog.info? 3).map (·.size) = some 1 := by rw [hi]; simp [hz1]
  have hM2' : w2.heap[w1.heap.size]? = some (.cells ((rpl x n 0).map (Value.int .i64)).toArray 3 (0, 0)) := hM2
  go_wp2_with (first | (refine wpList_copy_splice rfl (Operand.tmp 31) (Operand.tmp 32) 22 22 rfl 3 under22b hsz (some ⟨w1.heap.size, 0, none⟩) (some ⟨b, 0, none⟩) n n 1 1 rfl rfl w1.heap.size 0 ((rpl x n 0).map (Value.int .i64)) 3 hM2' (List.replicate 1 (.int .i64 x)) ?c1 ?c2 ?c3 ?c4 w1.heap.size w1 hb2 (Nat.le_refl _) ?_))
  case c1 => simp [Nat.min_def]; omega
  case c2 =>
    intro j v hj
    have : j = 0 := by
      have := (List.getElem?_eq_some_iff.1 hj).1
      simp at this; omega
    subst this
    simp at hj
    subst hj
    exact hcx
  case c3 => rw [List.length_map, rpl_len (by omega)]; simp; omega
  case c4 => simp [Value.oneCell']
  intro w3 hM3 hb3
  have hM3 : Blk w3 w1.heap.size 3 ((rpl x n 1).map (Value.int .i64)) := by
    have h9 := hM3.out
    rw [show [Value.int IntKind.i64 x] = List.replicate 1 (Value.int IntKind.i64 x) from rfl, rpl_splice (k := 0) (c := 1) (by omega), Nat.zero_add] at h9
    exact h9
  clear hM2 hM2' hb2 hcx
  go_wp2
  go_loopw [8] (fun i wr => ∃ k : Nat, 1 ≤ k ∧ k ≤ n ∧ i = .int .i64 k ∧ Blk wr w1.heap.size 3 ((rpl x n k).map (Value.int .i64)) ∧ Below w1.heap.size w1 wr) (fun i _ => n - (intOf i).toNat)
  case atStart => exact ⟨1, Nat.le_refl _, hn1, rfl, hM3, hb3⟩
  case round =>
    clear hM3 hb3
    obtain ⟨k, hk1, hk, rfl, hM, hB⟩ := hrel
    by_cases hlt : k < n
    · have hki : (k : Int) < (n : Int) := by omega
      obtain ⟨c, hc⟩ : ∃ c, c = Nat.min k (n - k) := ⟨_, rfl⟩
      have hc1 : 1 ≤ c := by rw [hc]; simp only [Nat.min_def]; split <;> omega
      have hc2 : k + c ≤ n := by rw [hc]; simp only [Nat.min_def]; split <;> omega
      have HC := hide hc
      clear hc
      have hMd : wr.drew.heap[w1.heap.size]? = some (.cells ((rpl x n k).map (Value.int .i64)).toArray 3 (0, 0)) := hM
      have HCE := hide (fun j (hj : j < k) => show wr.drew.cell? ⟨w1.heap.size, j, none⟩ = some (.int .i64 x) by
        have h9 := hM.cell j
        rw [rpl_map, List.getElem?_append_left (by simp; exact hj), List.getElem?_replicate, if_pos hj] at h9
        exact h9)
      have hBd := bdrew hB
      have hkn9 : ¬ (k : Int) = (n : Int) := by omega
      have hkn8 : ¬ k = n := by omega
      have hkn7 : ¬ n = k := by omega
      have hke : (k : Int) ≤ (n : Int) := by omega
      go_wp2_with fail
      refine wp_region_held_drew (S := (fun _ => True)) (by kernel_rfl) trivial (fun hHeld => ?_)
      refine wpAnyH_take (i := 0) (oi := ({ dst := some 38, op := Go.Op.move (Go.Operand.tmp 8), type := 3, pos := _, after := #[], guard := none } : Oper)) (v := ?_) rfl (by kernel_rfl) (by kernel_rfl) (by kernel_rfl) (fun _ _ _ h => h) (Or.inl ⟨by rfl, ?_⟩) (by assumption) ?_
      rotate_left
      · (intro w hSw; (try dsimp only at hSw); go_simp; try with_reducible rfl)
      simp only [Act.put, List.setIfInBounds_toArray, List.set_cons_zero, List.set_cons_succ]
      refine wpAnyH_take (i := 1) (oi := ({ dst := some 39, op := Go.Op.move (Go.Operand.tmp 7), type := 22, pos := _, after := #[], guard := none } : Oper)) (v := ?_) rfl (by kernel_rfl) (by kernel_rfl) (by kernel_rfl) (fun _ _ _ h => h) (Or.inl ⟨by rfl, ?_⟩) (by assumption) ?_
      rotate_left
      · (intro w hSw; (try dsimp only at hSw); go_simp; try with_reducible rfl)
      simp only [Act.put, List.setIfInBounds_toArray, List.set_cons_zero, List.set_cons_succ]
      refine wpAnyH_take (i := 2) (oi := ({ dst := some 40, op := Go.Op.move (Go.Operand.tmp 8), type := 3, pos := _, after := #[], guard := none } : Oper)) (v := ?_) rfl (by kernel_rfl) (by kernel_rfl) (by kernel_rfl) (fun _ _ _ h => h) (Or.inl ⟨by rfl, ?_⟩) (by assumption) ?_
      rotate_left
      · (intro w hSw; (try dsimp only at hSw); go_simp; try with_reducible rfl)
      simp only [Act.put, List.setIfInBounds_toArray, List.set_cons_zero, List.set_cons_succ]
      refine wpAnyH_take (i := 3) (oi := ({ dst := some 41, op := Go.Op.slice 22 (Go.Operand.tmp 39) (some (Go.Operand.tmp 40)) none none, type := 22, pos := _, after := #[{ on := 1, ground := Go.Ground.data }, { on := 2, ground := Go.Ground.data }], guard := none } : Oper)) (v := ?_) rfl (by kernel_rfl) (by kernel_rfl) (by kernel_rfl) (fun _ _ _ h => h) (Or.inl ⟨by rfl, ?_⟩) (by assumption) ?_
      rotate_left
      · (intro w hSw; (try dsimp only at hSw); go_simp; try with_reducible rfl)
      simp only [Act.put, List.setIfInBounds_toArray, List.set_cons_zero, List.set_cons_succ]
      refine wpAnyH_take (i := 4) (oi := ({ dst := some 42, op := Go.Op.move (Go.Operand.tmp 7), type := 22, pos := _, after := #[], guard := none } : Oper)) (v := ?_) rfl (by kernel_rfl) (by kernel_rfl) (by kernel_rfl) (fun _ _ _ h => h) (Or.inl ⟨by rfl, ?_⟩) (by assumption) ?_
      rotate_left
      · (intro w hSw; (try dsimp only at hSw); go_simp; try with_reducible rfl)
      simp only [Act.put, List.setIfInBounds_toArray, List.set_cons_zero, List.set_cons_succ]
      refine wpAnyH_take (i := 5) (oi := ({ dst := some 43, op := Go.Op.move (Go.Operand.tmp 8), type := 3, pos := _, after := #[], guard := none } : Oper)) (v := ?_) rfl (by kernel_rfl) (by kernel_rfl) (by kernel_rfl) (fun _ _ _ h => h) (Or.inl ⟨by rfl, ?_⟩) (by assumption) ?_
      rotate_left
      · (intro w hSw; (try dsimp only at hSw); go_simp; try with_reducible rfl)
      simp only [Act.put, List.setIfInBounds_toArray, List.set_cons_zero, List.set_cons_succ]
      refine wpAnyH_take (i := 6) (oi := ({ dst := some 44, op := Go.Op.slice 22 (Go.Operand.tmp 42) none (some (Go.Operand.tmp 43)) none, type := 22, pos := _, after := #[{ on := 4, ground := Go.Ground.data }, { on := 5, ground := Go.Ground.data }], guard := none } : Oper)) (v := ?_) rfl (by kernel_rfl) (by kernel_rfl) (by kernel_rfl) (fun _ _ _ h => h) (Or.inl ⟨by rfl, ?_⟩) (by assumption) ?_
      rotate_left
      · (intro w hSw; (try dsimp only at hSw); go_simp; try with_reducible rfl)
      simp only [Act.put, List.setIfInBounds_toArray, List.set_cons_zero, List.set_cons_succ]
      refine wpAnyH_ready (rs := [7]) (by kernel_rfl) (by simp) (AllReadyH.cons (o := ({ dst := some 45, op := Go.Op.call { callee := Go.Callee.builtin Go.Builtin.copy, args := #[Go.Operand.tmp 41, Go.Operand.tmp 44], argTypes := #[22, 22] }, type := 3, pos := _, after := #[{ on := 3, ground := Go.Ground.data }, { on := 6, ground := Go.Ground.data }], guard := none } : Oper)) rfl (fun KK hK => ?_) AllReadyH.nil)
      refine step_copy_splice rfl (Operand.tmp 41) (Operand.tmp 44) 22 22 rfl 3 under22b hsz (some ⟨w1.heap.size, k, none⟩) (some ⟨w1.heap.size, 0, none⟩) (n - k) (n - k) k n rfl rfl w1.heap.size k ((rpl x n k).map (Value.int .i64)) 3 hMd (List.replicate c (.int .i64 x)) (by rw [List.length_replicate, HC.out]) (fun _ => ⟨rfl, _, rfl, fun j v hj => by
        have hj1 := (List.getElem?_eq_some_iff.1 hj).1
        rw [List.length_replicate] at hj1
        have hck : c ≤ k := by rw [HC.out]; exact Nat.min_le_left _ _
        rw [List.getElem?_replicate, if_pos hj1] at hj
        injection hj with hj
        subst hj
        have := HCE.out j (by omega)
        rw [show (⟨w1.heap.size, 0, none⟩ : Addr).add j = ⟨w1.heap.size, j, none⟩ by unfold Addr.add; split <;> simp_all]
        exact this⟩) (by rw [List.length_map, rpl_len (by omega), List.length_replicate]; omega) (by simp [Value.oneCell']) w1.heap.size w1 hBd (Nat.le_refl _) ?_
      intro w5 hM5 hb5
      refine hK.out _ _ trivial (fun hHeld => ?_)
      clear hK
      try simp only [Act.put, List.setIfInBounds_toArray, List.set_cons_zero, List.set_cons_succ]
      have hadd : IntKind.i64.wrap ((k : Int) + (c : Int)) = ((k + c : Nat) : Int) := by
        rw [← Int.natCast_add, IntKind.wrap_i64]
        omega
      rw [List.length_replicate]
      refine wpAnyH_take (i := 8) (oi := ({ dst := some 46, op := Go.Op.binOp Go.BinOp.add 3 (Go.Operand.tmp 38) (Go.Operand.tmp 45) 3, type := 3, pos := _, after := #[{ on := 0, ground := Go.Ground.data }, { on := 7, ground := Go.Ground.data }], guard := none } : Oper)) (v := ?_) rfl (by kernel_rfl) (by kernel_rfl) (by kernel_rfl) (fun _ _ _ h => h) (Or.inl ⟨by rfl, ?_⟩) (by assumption) ?_
      rotate_left
      · (intro w hSw; (try dsimp only at hSw); go_simp; try with_reducible rfl)
      simp only [Act.put, List.setIfInBounds_toArray, List.set_cons_zero, List.set_cons_succ]
      refine wpAnyH_take (i := 9) (oi := ({ dst := some 8, op := Go.Op.assign (Go.Operand.tmp 46), type := 3, pos := _, after := #[{ on := 8, ground := Go.Ground.data }, { on := 7, ground := Go.Ground.chain }, { on := 0, ground := Go.Ground.phase }, { on := 1, ground := Go.Ground.phase }, { on := 2, ground := Go.Ground.phase }, { on := 3, ground := Go.Ground.phase }, { on := 4, ground := Go.Ground.phase }, { on := 5, ground := Go.Ground.phase }, { on := 6, ground := Go.Ground.phase }, { on := 7, ground := Go.Ground.phase }, { on := 8, ground := Go.Ground.phase }], guard := none } : Oper)) (v := ?_) rfl (by kernel_rfl) (by kernel_rfl) (by kernel_rfl) (fun _ _ _ h => h) (Or.inl ⟨by rfl, ?_⟩) (by assumption) ?_
      rotate_left
      · (intro w hSw; (try dsimp only at hSw); go_simp; try with_reducible rfl)
      simp only [Act.put, List.setIfInBounds_toArray, List.set_cons_zero, List.set_cons_succ]
      refine wpAnyH_done (by kernel_rfl) ?_ _
      have hM6 : Blk w5 w1.heap.size 3 ((rpl x n (k + c)).map (Value.int .i64)) := by
        have h9 := hM5.out
        rw [rpl_splice hc2] at h9
        exact h9
      go_wp2
      go_roundw
      case rel => exact ⟨k + c, by omega, hc2, by go_num, hM6, hb5⟩
      case measure => simp [intOf]; omega
    · have hki : ¬ (k : Int) < (n : Int) := by omega
      have hkn : k = n := by omega
      have hM9 : Blk wr w1.heap.size 3 (List.replicate n (.int .i64 x)) := by
        rw [hkn] at hM
        unfold rpl at hM
        rw [Nat.sub_self] at hM
        simpa using hM
      clear hkn hM
      go_wp2
      go_ret
      exact ⟨rfl, hM9, hB⟩
end Go.Proofs.YtgdpgbldjpeopaaGreatDoor

namespace Go.Proofs.YtgdpgbldjpeopaaGreatDoor
open Go Go.RowKit

theorem hfault_len {n e m d : Nat} {zs ys ms : List Int} (g : IsGrp n zs e) (h : IsGrp m ys d) (hc : hfault n zs m ys ms = (0, 0)) : ms.length = n := by
  by_cases hl : ms.length = n
  · exact hl
  · rw [hfault_8 g h hl] at hc
    simp at hc
/-- Does the one stand for a? -/
def kerq (ms : List Int) (d : Nat) (a : Nat) : Bool := decide (ms[a]?.getD 0 = (d : Int))
theorem call88 (a : Int) (x y : Value) (W : World) : Sem.run Tryz.prog (callFunc 91 (#[.int .i64 a] ++ #[x, y])) W = .ok (.enter 91 (#[.int .i64 a] ++ #[x, y])) W := by kernel_rfl
set_option maxRecDepth 100000 in
set_option maxHeartbeats 4000000 in
theorem ker1_ok (n d a mb pb : Nat) (mv : Value) (x0 x1 x2 x3 x4 x5 x7 : Value) (ms : List Int) (w : World) (hm : Sl w mv ms) (hl : ms.length = n) (ha : a < n) (hM : Boxed w mb 22 mv) (hP : Blk w pb 72 [x0, x1, x2, x3, x4, x5, .int .i64 d, x7]) :
    Calls Tryz.prog 91 (#[.int .i64 a] ++ #[.pointer (some ⟨mb, 0, none⟩), .pointer (some ⟨pb, 0, none⟩)]) w fun y w' => y = .returned (.bool (kerq ms d a)) ∧ Below w.heap.size w w' := by
  show Calls Tryz.prog 91 #[.int .i64 a, .pointer (some ⟨mb, 0, none⟩), .pointer (some ⟨pb, 0, none⟩)] w _
  have hmc := hM.cell
  have hpc : w.cell? ⟨pb, 6, none⟩ = some (.int .i64 d) := hP.cell 6
  obtain ⟨ma, mc, mk, mo, rfl, hmr, hmb, _, hmm⟩ := hm
  have hat := hmr.at_ (by omega)
  have hcl := hmr.cell a (by omega)
  rw [hl] at *
  clear hmr hmm hl
  obtain rfl := hat
  have hai : (a : Int) < (n : Int) := by omega
  have HN : Hid (kerq ms d a = decide (ms[a]?.getD 0 = (d : Int))) := rfl
  generalize ms[a]?.getD 0 = z at *
  by_cases heq : z = (d : Int)
  · rw [decide_eq_true heq] at HN
    subst heq
    go_enter Tryz.func91, Tryz.ntmps91
    go_wp2_with fail
    go_region
    go_wp2
    go_ret
    exact ⟨by rw [HN.out]; simp, bdrew (Below.refl _ _)⟩
  · rw [decide_eq_false heq] at HN
    go_enter Tryz.func91, Tryz.ntmps91
    go_wp2_with fail
    go_region
    go_wp2
    go_ret
    exact ⟨by rw [HN.out]; simp [heq], bdrew (Below.refl _ _)⟩
set_option maxRecDepth 100000 in
set_option maxHeartbeats 4000000 in
theorem ker_ok (n e m d : Nat) (v u y t mv : Value) (ms : List Int) (w : World) (hn : n ≤ 60) (hm : Sl w mv ms) (hl : ms.length = n) :
    Calls Tryz.prog 72 #[.agg #[.int .i64 n, v, .int .i64 e, u, .int .i64 m, y, .int .i64 d, t], mv] w fun x w' => x = .returned (.int .u64 (bs (kerq ms d) n)) ∧ Below w.heap.size w w' := by
  have hB0 : Below w.heap.size w ((w.alloc (.cells #[.int .i64 n, v, .int .i64 e, u, .int .i64 m, y, .int .i64 d, t] 72)).alloc (.cells #[mv] 22)) := (balloc w _).alloc (by simp) _
  have hX0 : Blk ((w.alloc (.cells #[.int .i64 n, v, .int .i64 e, u, .int .i64 m, y, .int .i64 d, t] 72)).alloc (.cells #[mv] 22)) w.heap.size 72 [.int .i64 n, v, .int .i64 e, u, .int .i64 m, y, .int .i64 d, t] := Blk.alloc (World.alloc_heap_new _ _) _
  have hS0 := Boxed.new (w.alloc (.cells #[.int .i64 n, v, .int .i64 e, u, .int .i64 m, y, .int .i64 d, t] 72)) 22 mv
  rw [World.size_alloc] at hS0
  have hm0 := hm.below hB0
  obtain ⟨ma, mc, mk, rfl⟩ := hm.isSlice
  obtain ⟨_, p0, p1, p2, p3, p4, p5, p6, p7⟩ := Eight.mk' hX0
  go_enter Tryz.func72, Tryz.ntmps72
  go_wp2_with fail
  generalize (w.alloc (.cells #[.int .i64 n, v, .int .i64 e, u, .int .i64 m, y, .int .i64 d, t] 72)).alloc (.cells #[.slice ma mc mk] 22) = w0 at *
  refine (those_ok n 91 v u e #[.pointer (some ⟨w.heap.size + 1, 0, none⟩), .pointer (some ⟨w.heap.size, 0, none⟩)] (kerq ms d) w0 hn (fun a W => call88 a _ _ W) (fun W a hW ha => ker1_ok n d a (w.heap.size + 1) w.heap.size _ _ _ _ _ _ _ _ ms W (hm0.below hW) hl ha (Boxed.below hS0 hW) (blk_below hX0 hW))).mono ?_
  rintro x w3 ⟨rfl, hb3⟩
  go_wp2
  go_ret
  exact ⟨rfl, bcat2 hB0 hb3⟩
end Go.Proofs.YtgdpgbldjpeopaaGreatDoor

namespace Go.Proofs.YtgdpgbldjpeopaaGreatDoor
open Go Go.RowKit

end Go.Proofs.YtgdpgbldjpeopaaGreatDoor

namespace Go.Proofs.YtgdpgbldjpeopaaGreatDoor
open Go Go.RowKit

/-- What stands so far, and what is found: one step, at a product with a maker. -/
def exS (n : Nat) (zs : List Int) (m : Nat) (ys : List Int) (a : Nat) (S : List Int × List Nat) (p : Nat × Nat) : Option (List Int × List Nat) :=
  if S.1[tm n zs a p.1]?.getD 0 = -1 then some (S.1.set (tm n zs a p.1) (tm m ys (S.1[a]?.getD 0).toNat p.2 : Int), S.2 ++ [tm n zs a p.1])
  else if S.1[tm n zs a p.1]?.getD 0 = (tm m ys (S.1[a]?.getD 0).toNat p.2 : Int) then some S else none
/-- All makers behind one thing. -/
def exI (n : Nat) (zs : List Int) (m : Nat) (ys : List Int) (a : Nat) : List (Nat × Nat) → List Int × List Nat → Option (List Int × List Nat)
  | [], S => some S
  | p :: ps, S => match exS n zs m ys a S p with
    | none => none
    | some S' => exI n zs m ys a ps S'
/-- All things that are found. -/
def exO (n : Nat) (zs : List Int) (m : Nat) (ys : List Int) (ps : List (Nat × Nat)) : Nat → Nat → List Int × List Nat → Option (List Int × List Nat)
  | 0, _, S => some S
  | f + 1, k, S => match S.2[k]? with
    | none => some S
    | some a => match exI n zs m ys a ps S with
      | none => none
      | some S' => exO n zs m ys ps f (k + 1) S'
/-- Where it begins. -/
def ex0 (n e d : Nat) : List Int × List Nat := ((List.replicate n (-1)).set e (d : Int), [e])
def ext (n : Nat) (zs : List Int) (e m : Nat) (ys : List Int) (d : Nat) (ps : List (Nat × Nat)) : Option (List Int × List Nat) := exO n zs m ys ps n 0 (ex0 n e d)
/-- What holds all the while. -/
structure XI (n m : Nat) (S : List Int × List Nat) : Prop where
  len : S.1.length = n
  nd : S.2.Nodup
  lt : ∀ x, x ∈ S.2 → x < n
  ok : ∀ x, x ∈ S.2 → 0 ≤ S.1[x]?.getD 0 ∧ S.1[x]?.getD 0 < m
  no : ∀ x, x < n → x ∉ S.2 → S.1[x]?.getD 0 = -1
section
variable {n e m d : Nat} {zs ys : List Int} {S S' : List Int × List Nat} {ps : List (Nat × Nat)}
theorem XI.fits (h : XI n m S) : S.2.length ≤ n := nodup_fits h.nd h.lt
theorem get_set {M : List Int} {c x : Nat} {i : Int} (hc : c < M.length) : (M.set c i)[x]?.getD 0 = if x = c then i else M[x]?.getD 0 := by
  rw [List.getElem?_set]
  by_cases h : c = x
  · subst h; simp [hc]
  · rw [if_neg h, if_neg (Ne.symm h)]
theorem XI.start (he : e < n) (hd : d < m) : XI n m (ex0 n e d) := by
  have hg : ∀ x, x < n → ((List.replicate n (-1 : Int)).set e (d : Int))[x]?.getD 0 = if x = e then (d : Int) else -1 := fun x hx => by
    rw [get_set (by simpa using he)]
    by_cases h : x = e
    · simp [h]
    · simp [h, hx]
  refine ⟨by simp [ex0], by simp [ex0], fun x hx => ?_, fun x hx => ?_, fun x hx hn => ?_⟩
  · simp [ex0] at hx; omega
  · simp only [ex0, List.mem_singleton] at hx ⊢
    subst hx
    rw [hg x he, if_pos rfl]
    omega
  · simp only [ex0, List.mem_singleton] at hn ⊢
    rw [hg x hx, if_neg hn]
theorem XI.step (h : XI n m S) (hu : IsTab m ys) (ht : IsTab n zs) {a : Nat} {p : Nat × Nat} (ha : a ∈ S.2) (h1 : p.1 < n) (h2 : p.2 < m) (hs : exS n zs m ys a S p = some S') : XI n m S' ∧ S.2 <+: S'.2 := by
  have hc := tm_lt ht (h.lt a ha) h1
  have ho := h.ok a ha
  have hi := tm_lt hu (show (S.1[a]?.getD 0).toNat < m by omega) h2
  unfold exS at hs
  split at hs
  · rename_i hm
    obtain rfl := Option.some.inj hs
    have hnc : tm n zs a p.1 ∉ S.2 := fun hin => by have := h.ok _ hin; omega
    refine ⟨⟨by simpa using h.len, ?_, fun x hx => ?_, fun x hx => ?_, fun x hx hn => ?_⟩, List.prefix_append _ _⟩
    · exact List.nodup_append.2 ⟨h.nd, by simp, fun a ha b hb => by simp at hb; subst hb; exact fun e => hnc (e ▸ ha)⟩
    · rcases List.mem_append.1 hx with hx | hx
      · exact h.lt x hx
      · simp at hx; omega
    · simp only at hx ⊢
      rw [get_set (by rw [h.len]; exact hc)]
      by_cases he : x = tm n zs a p.1
      · rw [if_pos he]; omega
      · rw [if_neg he]
        rcases List.mem_append.1 hx with hx | hx
        · exact h.ok x hx
        · simp at hx; exact absurd hx he
    · simp only [List.mem_append, List.mem_singleton, not_or] at hn ⊢
      rw [get_set (by rw [h.len]; exact hc), if_neg hn.2]
      exact h.no x hx hn.1
  · split at hs
    · obtain rfl := Option.some.inj hs
      exact ⟨h, List.prefix_rfl⟩
    · cases hs
theorem ex_put {a : Nat} {p : Nat × Nat} (h : S.1[tm n zs a p.1]?.getD 0 = -1) : exI n zs m ys a (p :: ps) S = exI n zs m ys a ps (S.1.set (tm n zs a p.1) (tm m ys (S.1[a]?.getD 0).toNat p.2 : Int), S.2 ++ [tm n zs a p.1]) := by
  have : exS n zs m ys a S p = some (S.1.set (tm n zs a p.1) (tm m ys (S.1[a]?.getD 0).toNat p.2 : Int), S.2 ++ [tm n zs a p.1]) := if_pos h
  simp only [exI, this]
theorem ex_same {a : Nat} {p : Nat × Nat} (h : ¬ S.1[tm n zs a p.1]?.getD 0 = -1) (h2 : S.1[tm n zs a p.1]?.getD 0 = (tm m ys (S.1[a]?.getD 0).toNat p.2 : Int)) : exI n zs m ys a (p :: ps) S = exI n zs m ys a ps S := by
  have : exS n zs m ys a S p = some S := by unfold exS; rw [if_neg h, if_pos h2]
  simp only [exI, this]
theorem ex_none {a : Nat} {p : Nat × Nat} (h : ¬ S.1[tm n zs a p.1]?.getD 0 = -1) (h2 : ¬ S.1[tm n zs a p.1]?.getD 0 = (tm m ys (S.1[a]?.getD 0).toNat p.2 : Int)) : exI n zs m ys a (p :: ps) S = none := by
  have : exS n zs m ys a S p = none := by unfold exS; rw [if_neg h, if_neg h2]
  simp only [exI, this]
theorem ex_end {f k : Nat} (h : S.2.length ≤ k) : exO n zs m ys ps f k S = some S := by
  cases f with
  | zero => rfl
  | succ f => simp only [exO, List.getElem?_eq_none h]
theorem ex_go {f k a : Nat} (h : S.2[k]? = some a) (hf : 0 < f) : exO n zs m ys ps f k S = match exI n zs m ys a ps S with
    | none => none
    | some S' => exO n zs m ys ps (f - 1) (k + 1) S' := by
  obtain ⟨f, rfl⟩ : ∃ g, f = g + 1 := ⟨f - 1, by omega⟩
  simp only [exO, h, Nat.add_sub_cancel]
end
end Go.Proofs.YtgdpgbldjpeopaaGreatDoor

namespace Go.Proofs.YtgdpgbldjpeopaaGreatDoor
open Go Go.RowKit

/-- 'make([]T, 1, n)': one zero value, in a row of n. -/
theorem wpList_make_first {P : Program} (w : World) {ops : Array Oper} {rest : List Oper} {o : Oper} {a : Act} {Q : Exit → Act → World → Prop}
    (hg : o.guard = none) (l c : Operand) (t : TypeId) (hop : o.op = Op.makeSlice t l c)
    (e : TypeId) (i : TypeInfo) (z : Value) (ht : P.underlying t = some (.slice e)) (hi : P.info? e = some i) (hz : i.zero = some z) (hsize : i.size = 1) (hz1 : z.cells = #[z])
    (kl kc : IntKind) (n : Nat) (hl : a.eval l = .int kl 1) (hc : a.eval c = .int kc (n : Int)) (hn : 1 ≤ n) (hbytes : i.bytes * n ≤ 281474976710656) (h63 : n ≤ 9223372036854775807)
    (hK : ∀ w', Below w.heap.size w w' → Blk w' w.heap.size e (List.replicate n z) → w'.heap.size = w.heap.size + 1 → wpList P ops Q rest (a.put o.dst (.slice (some ⟨w.heap.size, 0, none⟩) 1 n)) w') :
    wpList P ops Q (o :: rest) a w := by
  refine wpList_plain hg fun K hK' => ?_
  have hb' : (i.bytes : Int) * (n : Int) ≤ 281474976710656 := by
    have h : ((i.bytes * n : Nat) : Int) ≤ 281474976710656 := by omega
    rwa [Int.natCast_mul] at h
  have hrun := run_make (P := P) w t e i z ht hi hz kl kc 1 n (by omega) (by omega) hb' (by omega)
  simp only [Int.toNat_natCast, hsize, Nat.mul_one, hz1, Int.toNat_one] at hrun
  unfold Oper.wp
  simp [execOp, hop, hl, hc, hrun, Result.andThen]
  refine hK' _ _ (hK _ (balloc w _) ?_ (by simp))
  have h := World.alloc_heap_new w (.cells (madeCells #[z] n) e)
  unfold Blk
  rw [h, ← made_rep z n]
/-- What lies there all the while: the pair in its box, what stands so far, what is found. -/
structure XS (w wr : World) (mb : Nat) (bx : List Value) (fv : Value) (S : List Int × List Nat) : Prop where
  bel : Below w.heap.size w wr
  lt : w.heap.size < mb
  box : Blk wr w.heap.size 72 bx
  mm : Blk wr mb 3 (S.1.map (Value.int .i64))
  ff : wr.ownsRow (mb + 1) 3 1 fv S.2.length ((li S.2).map (Value.int .i64))
section
variable {w wr : World} {mb : Nat} {bx : List Value} {fv : Value} {S : List Int × List Nat}
theorem own_below {W W' : World} {B n : Nat} {v : Value} {xs : List Value} (h : W.ownsRow B 3 1 v n xs) (hb : Below W.heap.size W W') : W'.ownsRow B 3 1 v n xs := own_keep h fun g _ h2 => hb.block g h2
theorem XS.below {W : World} (h : XS w wr mb bx fv S) (hb : Below wr.heap.size wr W) : XS w W mb bx fv S := ⟨bcat2 h.bel hb, h.lt, blk_below h.box hb, blk_below h.mm hb, own_below h.ff hb⟩
theorem XS.store (h : XS w wr mb bx fv S) (c : Nat) (i : Int) : XS w (wr.setCell ⟨mb, c, none⟩ (.int .i64 i)) mb bx fv (S.1.set c i, S.2) := by
  refine ⟨h.bel.setCell (by have := h.lt; simp; omega) _, h.lt, h.box.other (by have := h.lt; simp; omega) _, h.mm.setInt c i, own_keep h.ff fun g h1 _ => Below.heap_setCell _ _ _ g (by simp; omega)⟩
theorem XS.grow {w' : World} {v9 : Value} {c : Nat} (h : XS w wr mb bx fv S) (ho : Obj) (hg : (wr.alloc ho).grownBy w' fv.ownBlock) (hw : w'.ownsRow (mb + 1) 3 1 v9 (S.2.length + 1) ((li S.2).map (Value.int .i64) ++ [.int .i64 (c : Int)])) : XS w w' mb bx v9 (S.1, S.2 ++ [c]) := by
  have hA : XS w (wr.alloc ho) mb bx fv S := h.below (balloc wr ho)
  have hge := owns_ge h.ff
  refine ⟨hA.bel.grown hg hA.bel.size (fun k hk => by have := hge k hk; have := h.lt; omega), h.lt, hA.box.grown hg (fun e => by have := hge _ e.symm; have := h.lt; omega), hA.mm.grown hg (fun e => by have := hge _ e.symm; omega), ?_⟩
  simpa [li] using hw
end
end Go.Proofs.YtgdpgbldjpeopaaGreatDoor

namespace Go.Proofs.YtgdpgbldjpeopaaGreatDoor
open Go Go.RowKit

/-- What it answers: nothing, and that there is none; or what stands for all that is made, in new memory. -/
structure XP (n m : Nat) (w : World) (R : Option (List Int × List Nat)) (x : Ending) (w' : World) : Prop where
  no : R = none → x = .returned (.tuple #[.slice none 0 0, .bool false])
  yes : ∀ S, R = some S → ∃ g, x = .returned (.tuple #[.slice (some ⟨g, 0, none⟩) n n, .bool true]) ∧ w.heap.size ≤ g ∧ Blk w' g 3 (S.1.map (Value.int .i64)) ∧ XI n m S
  bel : Below w.heap.size w w'
set_option maxRecDepth 100000 in
set_option maxHeartbeats 8000000 in
theorem ext_ok (n e m d : Nat) (v u y t kv iv : Value) (zs ys : List Int) (ps : List (Nat × Nat)) (w : World) (hg : IsGrp n zs e) (hh : IsGrp m ys d) (hv : Sl w v zs) (hy : Sl w y ys) (hk : Sl w kv (li (ps.map Prod.fst))) (hi : Sl w iv (li (ps.map Prod.snd))) (hp : ∀ p, p ∈ ps → p.1 < n ∧ p.2 < m) :
    Calls Tryz.prog 90 #[.agg #[.int .i64 n, v, .int .i64 e, u, .int .i64 m, y, .int .i64 d, t], kv, iv] w fun x w' => XP n m w (ext n zs e m ys d ps) x w' := by
  obtain ⟨i0, hi3, hz0, hz1, hz2⟩ := info_parts info3b
  have hn := hg.tab.le
  have hen := hg.elt
  have hdm := hh.elt
  have hn1 : 1 ≤ n := by omega
  obtain ⟨w0, hw0⟩ : ∃ w0, w0 = (w.alloc (.cells #[.int .i64 n, v, .int .i64 e, u, .int .i64 m, y, .int .i64 d, t] 72)).alloc (.cells #[.int .i64 (-1)] 3) := ⟨_, rfl⟩
  have hB0 : Below w.heap.size w w0 := by rw [hw0]; exact (balloc w _).alloc (by simp) _
  have hX0 : Blk w0 w.heap.size 72 [.int .i64 n, v, .int .i64 e, u, .int .i64 m, y, .int .i64 d, t] := by rw [hw0]; exact Blk.alloc (World.alloc_heap_new _ _) _
  have hc1 : w0.cell? ⟨w.heap.size + 1, 0, none⟩ = some (.int .i64 (-1)) := by
    rw [hw0]
    have := cell1 (w.alloc (.cells #[.int .i64 n, v, .int .i64 e, u, .int .i64 m, y, .int .i64 d, t] 72)) (.int .i64 (-1)) 3
    rwa [World.size_alloc] at this
  have hs0 : w0.heap.size = w.heap.size + 2 := by rw [hw0]; simp
  have HRP := hide (repeat_ok n (w.heap.size + 1) (-1) w0 hn1 hn hc1)
  obtain ⟨_, p0, p1, p2, p3, p4, p5, p6, p7⟩ := Eight.mk' hX0
  rw [hw0] at p0 p1 p2 p3 p4 p5 p6 p7
  clear hc1
  have HPR1 := hide (fun W a b (h : Below w.heap.size w W) (ha : a < n) (hb : b < n) => prd_ok n v u zs e a b W hg.tab (hv.below h) ha hb)
  have HPR2 := hide (fun W a b (h : Below w.heap.size w W) (ha : a < m) (hb : b < m) => prd_ok m y t ys d a b W hh.tab (hy.below h) ha hb)
  obtain ⟨ka, kc, kb, ko, rfl, hkr, hkb, hk3, hk4⟩ := hk
  obtain ⟨ia, ic, ib, io, rfl, hir, hib, _, _⟩ := hi
  have hl1 : (li (ps.map Prod.fst)).length = ps.length := by rw [li_len, List.length_map]
  have hl2 : (li (ps.map Prod.snd)).length = ps.length := by rw [li_len, List.length_map]
  have hpl : ps.length ≤ 9223372036854775807 := by rw [hl1] at hk3; unfold maxLen at hk4; omega
  have HKA := hide (fun (h : 0 < ps.length) => hkr.at_ (by omega))
  have HIA := hide (fun (h : 0 < ps.length) => hir.at_ (by omega))
  have HKC := hide (fun j (h : j < ps.length) => show w.cell? ⟨kb, ko + j, none⟩ = some (.int .i64 (ps[j].1 : Int)) by
    have := hkr.cell j (by omega)
    rwa [li_get (by simpa using h), List.getElem_map] at this)
  have HIC := hide (fun j (h : j < ps.length) => show w.cell? ⟨ib, io + j, none⟩ = some (.int .i64 (ps[j].2 : Int)) by
    have := hir.cell j (by omega)
    rwa [li_get (by simpa using h), List.getElem_map] at this)
  rw [hl1, hl2] at *
  clear hkr hir hl1 hl2
  have HP := hide hp
  clear hp
  obtain ⟨R, hR⟩ : ∃ R, R = ext n zs e m ys d ps := ⟨_, rfl⟩
  rw [← hR]
  have HR := hide hR
  clear hR
  go_enter Tryz.func90, Tryz.ntmps90
  go_wp2_with fail
  rw [← hw0]
  clear p0 p1 p2 p3 p4 p5 p6 p7 hw0
  refine HRP.out.mono ?_
  rintro e1 w1 ⟨rfl, hM1, hb1⟩
  rw [hs0] at hM1 ⊢
  have hX1 := blk_below hX0 hb1
  have hB1 := bcat2 hB0 hb1
  obtain ⟨_, p0, p1, p2, p3, p4, p5, p6, p7⟩ := Eight.mk' hX1
  have hei : (e : Int) < (n : Int) := by omega
  have hM1 : Blk w1 (w.heap.size + 2) 3 ((List.replicate n (-1 : Int)).map (Value.int .i64)) := by rw [List.map_replicate]; exact hM1
  have hme := hM1.frozen e
  have hce := hM1.int (y := e) (by simpa using hen)
  have hM2 := hM1.setInt e (d : Int)
  have hX2 : Blk (w1.setCell ⟨w.heap.size + 2, e, none⟩ (.int .i64 d)) w.heap.size 72 [.int .i64 n, v, .int .i64 e, u, .int .i64 m, y, .int .i64 d, t] := hX1.other (by simp) _
  have hB2 : Below w.heap.size w (w1.setCell ⟨w.heap.size + 2, e, none⟩ (.int .i64 d)) := hB1.setCell (by simp) _
  have hs2 : w.heap.size + 3 ≤ (w1.setCell ⟨w.heap.size + 2, e, none⟩ (.int .i64 d)).heap.size := by have := hM2.lt; omega
  obtain ⟨_, q0, q1, q2, q3, q4, q5, q6, q7⟩ := Eight.mk' hX2
  go_wp2_with (first
    | (at_make; refine wpList_make_first _ rfl _ _ 22 rfl 3 i0 (.int .i64 0) under22b hi3 hz0 hz1 rfl _ _ n rfl rfl hn1 (by rw [hz2]; omega) (by omega) ?_))
  have hz12 : (w1.setCell ⟨w.heap.size + 2, e, none⟩ (.int .i64 d)).heap.size = w1.heap.size := by simp [World.setCell]
  generalize w1.setCell ⟨w.heap.size + 2, e, none⟩ (.int .i64 d) = w2 at *
  rw [← hz12]
  clear hz12
  clear p0 p1 p2 p3 p4 p5 p6 p7 q0 q1 q2 q3 q4 q5 q6 q7 hce hme hM1 hX1 hX0 hb1 hB1 hB0 HRP hs0
  intro w3 hb3 hF3 hs3
  have hM3 := blk_below hM2 hb3
  have hX3 := blk_below hX2 hb3
  have hB3 := bcat2 hB2 hb3
  clear hM2 hX2 hB2
  obtain ⟨_, p0, p1, p2, p3, p4, p5, p6, p7⟩ := Eight.mk' hX3
  have hF3 : Blk w3 w2.heap.size 3 ((List.replicate n (0 : Int)).map (Value.int .i64)) := by rw [List.map_replicate]; exact hF3
  have hcf := hF3.int (y := 0) (by simp; omega)
  have hff := hF3.frozen 0
  have hF4 := hF3.setInt 0 (e : Int)
  have hXS : XS w (w3.setCell ⟨w2.heap.size, 0, none⟩ (.int .i64 e)) (w.heap.size + 2) [.int .i64 n, v, .int .i64 e, u, .int .i64 m, y, .int .i64 d, t] (.slice (some ⟨w2.heap.size, 0, none⟩) 1 n) (ex0 n e d) := by
    refine ⟨hB3.setCell (by simp; omega) _, by omega, hX3.other (by simp; omega) _, hM3.other (by simp; omega) _, by simp [ex0, li], .inr ⟨w2.heap.size, n, _, rfl, by omega, hF4, hn1, by unfold maxLen; omega, by simp, ?_⟩⟩
    obtain ⟨k, rfl⟩ : ∃ k, n = k + 1 := ⟨n - 1, by omega⟩
    simp [ex0, li, List.replicate_succ]
  have hI0 : XI n m (ex0 n e d) := XI.start hen hdm
  clear hF3 hF4 hM3 hX3 hB3
  go_wp2_with fail
  generalize w3.setCell ⟨w2.heap.size, 0, none⟩ (.int .i64 e) = w4 at *
  clear p0 p1 p2 p3 p4 p5 p6 p7 hcf hff hb3 hs3
  go_loopw [9, 10] (fun f i wr => ∃ (k : Nat) (S : List Int × List Nat), i = .int .i64 k ∧ k ≤ S.2.length ∧ 0 < S.2.length ∧ XS w wr (w.heap.size + 2) [.int .i64 n, v, .int .i64 e, u, .int .i64 m, y, .int .i64 d, t] f S ∧ XI n m S ∧ exO n zs m ys ps (n - k) k S = R) (fun _ i _ => n - (intOf i).toNat)
  case atStart => exact ⟨0, ex0 n e d, rfl, by simp, by simp [ex0], hXS, hI0, HR.out.symm⟩
  case round =>
    clear hXS hI0 HR hs2
    obtain ⟨k, S, rfl, hk, hS0, hX, hI, hR⟩ := hrel
    have hSn := hI.fits
    obtain ⟨g, cap, rfl, hg1, hg2⟩ := hX.ff.form hS0
    by_cases hlt : k < S.2.length
    · obtain ⟨a, ha⟩ : ∃ a, S.2[k]? = some a := ⟨_, List.getElem?_eq_getElem hlt⟩
      rw [ex_go ha (by omega)] at hR
      have hca : wr.cell? ⟨g, k, none⟩ = some (.int .i64 a) := by
        rw [hX.ff.cellAt k (by omega)]
        simp [li, ha]
      have hki : (k : Int) < (S.2.length : Int) := by omega
      obtain ⟨T, hT⟩ : ∃ T, T = exI n zs m ys a ps S := ⟨_, rfl⟩
      rw [← hT] at hR
      have HR := hide hR
      have HT := hide hT
      clear hR hT
      have HX := hide hX
      have HI := hide hI
      have HA := hide ha
      clear hX hI ha
      go_wp2
      clear hca hki
      go_loopw [9, 52] (fun f i wr => ∃ (j : Nat) (S' : List Int × List Nat), i = .int .i64 j ∧ j ≤ ps.length ∧ XS w wr (w.heap.size + 2) [.int .i64 n, v, .int .i64 e, u, .int .i64 m, y, .int .i64 d, t] f S' ∧ XI n m S' ∧ S'.2[k]? = some a ∧ exI n zs m ys a (ps.drop j) S' = T) (fun _ i _ => ps.length - (intOf i).toNat)
      case atStart => exact ⟨0, S, rfl, Nat.zero_le _, HX.out, HI.out, HA.out, HT.out.symm⟩
      case round =>
        obtain ⟨j, S', rfl, hj, hX', hI', ha', hT'⟩ := hrel
        clear HX HI HA HT hSn hg1 hg2 hlt hk hS0
        have hkl : k < S'.2.length := (List.getElem?_eq_some_iff.1 ha').1
        have hSn := hI'.fits
        obtain ⟨g', cap', rfl, hg1, hg2⟩ := hX'.ff.form (by omega)
        by_cases hltj : j < ps.length
        · obtain ⟨q, hq⟩ : ∃ q, ps[j]? = some q := ⟨_, List.getElem?_eq_getElem hltj⟩
          have hdr : ps.drop j = q :: ps.drop (j + 1) := by
            rw [List.drop_eq_getElem_cons hltj]
            rw [List.getElem?_eq_getElem hltj] at hq
            rw [Option.some.inj hq]
          rw [hdr] at hT'
          have hql : ps[j] = q := by rw [List.getElem?_eq_getElem hltj] at hq; exact Option.some.inj hq
          obtain ⟨hp1, hp2⟩ := HP.out q (List.mem_of_getElem? hq)
          have hck := below_cell hX'.bel (HKC.out j hltj)
          have hci := below_cell hX'.bel (HIC.out j hltj)
          rw [hql] at hck hci
          clear hdr hq hql
          have haS : a ∈ S'.2 := List.mem_of_getElem? ha'
          have han := hI'.lt a haS
          obtain ⟨ho1, ho2⟩ := hI'.ok a haS
          have hcn := tm_lt hg.tab han hp1
          have hcm := hX'.mm.int (y := a) (by rw [hI'.len]; exact han)
          have hcc := hX'.mm.int (y := tm n zs a q.1) (by rw [hI'.len]; exact hcn)
          have hea : S'.1[a]?.getD 0 = ((S'.1[a]?.getD 0).toNat : Int) := by omega
          have hfa : (S'.1[a]?.getD 0).toNat < m := by omega
          rw [hea] at hcm
          have HPUT := hide (fun (h : S'.1[tm n zs a q.1]?.getD 0 = -1) => (ex_put (n := n) (zs := zs) (m := m) (ys := ys) (S := S') (ps := ps.drop (j + 1)) (a := a) (p := q) h).symm.trans hT')
          have HSTP := hide (fun (h : S'.1[tm n zs a q.1]?.getD 0 = -1) => (hI'.step hh.tab hg.tab haS hp1 hp2 (show exS n zs m ys a S' q = some (S'.1.set (tm n zs a q.1) (tm m ys (S'.1[a]?.getD 0).toNat q.2 : Int), S'.2 ++ [tm n zs a q.1]) from if_pos h)).1)
          have HSAM := hide (fun (h : ¬ S'.1[tm n zs a q.1]?.getD 0 = -1) (h2 : S'.1[tm n zs a q.1]?.getD 0 = (tm m ys (S'.1[a]?.getD 0).toNat q.2 : Int)) => (ex_same (n := n) (zs := zs) (m := m) (ys := ys) (S := S') (ps := ps.drop (j + 1)) (a := a) (p := q) h h2).symm.trans hT')
          have HNON := hide (fun (h : ¬ S'.1[tm n zs a q.1]?.getD 0 = -1) (h2 : ¬ S'.1[tm n zs a q.1]?.getD 0 = (tm m ys (S'.1[a]?.getD 0).toNat q.2 : Int)) => show R = none by
            have h9 := (ex_none (n := n) (zs := zs) (m := m) (ys := ys) (S := S') (ps := ps.drop (j + 1)) (a := a) (p := q) h h2).symm.trans hT'
            have h8 := HR.out
            rw [← h9] at h8
            exact h8.symm)
          have HQ1 := hide (fun W (h : Below w.heap.size w W) => HPR1.out W a q.1 h han hp1)
          have HQ2 := hide (fun W (h : Below w.heap.size w W) => HPR2.out W _ q.2 h hfa hp2)
          have hcl : S'.2.length < n ∨ True := .inr trivial
          have HCM := hide (fun (h : S'.1[tm n zs a q.1]?.getD 0 = -1) (i : Int) => get_set (M := S'.1) (c := tm n zs a q.1) (x := tm n zs a q.1) (i := i) (by rw [hI'.len]; exact hcn))
          have HLN := hide hI'.len
          obtain rfl := HKA.out (by omega)
          obtain rfl := HIA.out (by omega)
          clear hea ho1 ho2 hT' hcl
          generalize (S'.1[a]?.getD 0).toNat = fa at *
          generalize hzz : S'.1[tm n zs a q.1]?.getD 0 = z at *
          generalize tm m ys fa q.2 = im at *
          generalize hc9 : tm n zs a q.1 = c at *
          obtain ⟨pk, pi⟩ := q
          simp only at hck hci HQ1 HQ2 hp1 hp2
          have HZZ := hide hzz
          clear hzz hc9
          have hBw := hX'.bel
          have HX' := hide hX'
          have HI' := hide hI'
          have hbx := hX'.box
          have HA' := hide ha'
          clear hX' hI' ha'
          have hji : (j : Int) < (ps.length : Int) := by omega
          have hani : (a : Int) < (n : Int) := by omega
          have hcni : (c : Int) < (n : Int) := by omega
          obtain ⟨_, p0, p1, p2, p3, p4, p5, p6, p7⟩ := Eight.mk' hbx
          have hS' : ∀ W, Below wr.heap.size wr W → (Below wr.heap.size wr W ∧ W.cell? ⟨w.heap.size + 2, a, none⟩ = some (.int .i64 (fa : Int)) ∧ W.cell? ⟨ib, io + j, none⟩ = some (.int .i64 (pi : Int)) ∧ W.cell? ⟨w.heap.size, 0, none⟩ = some (.int .i64 n) ∧ W.cell? ⟨w.heap.size, 1, none⟩ = some v ∧ W.cell? ⟨w.heap.size, 2, none⟩ = some (.int .i64 e) ∧ W.cell? ⟨w.heap.size, 3, none⟩ = some u ∧ W.cell? ⟨w.heap.size, 4, none⟩ = some (.int .i64 m) ∧ W.cell? ⟨w.heap.size, 5, none⟩ = some y ∧ W.cell? ⟨w.heap.size, 6, none⟩ = some (.int .i64 d) ∧ W.cell? ⟨w.heap.size, 7, none⟩ = some t) := fun W h => ⟨h, below_cell h hcm, below_cell h hci, below_cell h p0, below_cell h p1, below_cell h p2, below_cell h p3, below_cell h p4, below_cell h p5, below_cell h p6, below_cell h p7⟩
          have hS1 := hS' _ (bdrew (Below.refl _ wr))
          have hk1 : Hid True := trivial
          clear hcm hci p0 p1 p2 p3 p4 p5 p6 p7 hbx
          by_cases hm1 : z = -1
          · have HPX := hide (HPUT.out hm1)
            have HIX := hide (HSTP.out hm1)
            have HCX := hide (HCM.out hm1 (im : Int))
            subst hm1
            clear HPUT HSTP HSAM HNON HCM
            go_wp2_with fail
            go_region_held3 (fun W => Below wr.heap.size wr W ∧ W.cell? ⟨w.heap.size + 2, a, none⟩ = some (.int .i64 (fa : Int)) ∧ W.cell? ⟨ib, io + j, none⟩ = some (.int .i64 (pi : Int)) ∧ W.cell? ⟨w.heap.size, 0, none⟩ = some (.int .i64 n) ∧ W.cell? ⟨w.heap.size, 1, none⟩ = some v ∧ W.cell? ⟨w.heap.size, 2, none⟩ = some (.int .i64 e) ∧ W.cell? ⟨w.heap.size, 3, none⟩ = some u ∧ W.cell? ⟨w.heap.size, 4, none⟩ = some (.int .i64 m) ∧ W.cell? ⟨w.heap.size, 5, none⟩ = some y ∧ W.cell? ⟨w.heap.size, 6, none⟩ = some (.int .i64 d) ∧ W.cell? ⟨w.heap.size, 7, none⟩ = some t)
              (first | exact hS1 | assumption | exact hS' _ (bcat2 (And.left ‹_›) hl1))
              (first
                | (go_at_call 59; clear hk1; refine (HQ1.out _ (bcat2 hBw (And.left ‹_›))).mono ?_; rintro e1 U1 ⟨rfl, hl1⟩)
                | (go_at_call 59; refine (HQ2.out _ (bcat2 hBw (And.left ‹_›))).mono ?_; rintro e2 U2 ⟨rfl, hl1⟩))
            all_goals (
              have hb9 := And.left ‹Below wr.heap.size wr U2 ∧ _›
              have hX9 := HX'.out.below hb9
              have hc9 := below_cell hb9 hcc
              have hf9 := hX9.mm.frozen c
              have hX10 := hX9.store c (im : Int)
              go_wp2_with (first
                | (at_builtin; refine wpList_append_own _ rfl _ _ 22 rfl (w.heap.size + 2 + 1) 3 i0 (.int .i64 0) 1 8 under22b hi3 hz0 hz1 hz2 rfl (by decide) _ _ _ rfl (World.ownsRow.alloc hX10.ff _) ⟨U2.heap.size, 0, none⟩ 1 1 [.int .i64 c] rfl rfl ?c1 ?c2 ?c3 ?c4 ?c5 ?_))
              case c1 =>
                have := cell_one_new (U2.setCell ⟨w.heap.size + 2, c, none⟩ (.int .i64 im)) (.int .i64 c) 3
                rwa [size_set] at this
              case c2 => simp [Value.oneCell']
              case c3 => unfold maxLen; omega
              case c4 => omega
              case c5 => have := hX10.mm.lt; simp at this ⊢; omega
              intro v9 w6 hown' hgrow _
              have hX11 := hX10.grow (c := c) _ hgrow hown'
              obtain ⟨g9, cap9, rfl⟩ := ownsRow_succ hown'
              have hc11 := hX11.mm.int (y := c) (by simp only [List.length_set]; rw [HLN.out]; exact hcn)
              simp only [HCX.out, if_pos] at hc11
              clear hown' hgrow
              go_wp2
              go_roundw
              case rel => exact ⟨j + 1, (S'.1.set c (im : Int), S'.2 ++ [c]), by go_num, by omega, (by simpa using hX11), HIX.out, (by simp only; rw [List.getElem?_append_left hkl]; exact HA'.out), HPX.out⟩
              case measure => simp [intOf]; omega)
          · by_cases hm2 : z = (im : Int)
            · have HPX := hide (HSAM.out hm1 hm2)
              clear HPUT HSTP HSAM HNON HCM
              subst hm2
              go_wp2_with fail
              go_region_held3 (fun W => Below wr.heap.size wr W ∧ W.cell? ⟨w.heap.size + 2, a, none⟩ = some (.int .i64 (fa : Int)) ∧ W.cell? ⟨ib, io + j, none⟩ = some (.int .i64 (pi : Int)) ∧ W.cell? ⟨w.heap.size, 0, none⟩ = some (.int .i64 n) ∧ W.cell? ⟨w.heap.size, 1, none⟩ = some v ∧ W.cell? ⟨w.heap.size, 2, none⟩ = some (.int .i64 e) ∧ W.cell? ⟨w.heap.size, 3, none⟩ = some u ∧ W.cell? ⟨w.heap.size, 4, none⟩ = some (.int .i64 m) ∧ W.cell? ⟨w.heap.size, 5, none⟩ = some y ∧ W.cell? ⟨w.heap.size, 6, none⟩ = some (.int .i64 d) ∧ W.cell? ⟨w.heap.size, 7, none⟩ = some t)
                (first | exact hS1 | assumption | exact hS' _ (bcat2 (And.left ‹_›) hl1))
                (first
                  | (go_at_call 59; clear hk1; refine (HQ1.out _ (bcat2 hBw (And.left ‹_›))).mono ?_; rintro e1 U1 ⟨rfl, hl1⟩)
                  | (go_at_call 59; refine (HQ2.out _ (bcat2 hBw (And.left ‹_›))).mono ?_; rintro e2 U2 ⟨rfl, hl1⟩))
              all_goals (
                have hb9 := And.left ‹Below wr.heap.size wr U2 ∧ _›
                have hX9 := HX'.out.below hb9
                have hc9 := below_cell hb9 hcc
                go_wp2
                go_roundw
                case rel => exact ⟨j + 1, S', by go_num, by omega, hX9, HI'.out, HA'.out, HPX.out⟩
                case measure => simp [intOf]; omega)
            · have HPX := hide (HNON.out hm1 hm2)
              have hne1 : (z == -1) = false := by simpa using hm1
              have hne2 : (z != (im : Int)) = true := by simpa using hm2
              clear HPUT HSTP HSAM HNON HCM
              go_wp2_with fail
              go_region_held3 (fun W => Below wr.heap.size wr W ∧ W.cell? ⟨w.heap.size + 2, a, none⟩ = some (.int .i64 (fa : Int)) ∧ W.cell? ⟨ib, io + j, none⟩ = some (.int .i64 (pi : Int)) ∧ W.cell? ⟨w.heap.size, 0, none⟩ = some (.int .i64 n) ∧ W.cell? ⟨w.heap.size, 1, none⟩ = some v ∧ W.cell? ⟨w.heap.size, 2, none⟩ = some (.int .i64 e) ∧ W.cell? ⟨w.heap.size, 3, none⟩ = some u ∧ W.cell? ⟨w.heap.size, 4, none⟩ = some (.int .i64 m) ∧ W.cell? ⟨w.heap.size, 5, none⟩ = some y ∧ W.cell? ⟨w.heap.size, 6, none⟩ = some (.int .i64 d) ∧ W.cell? ⟨w.heap.size, 7, none⟩ = some t)
                (first | exact hS1 | assumption | exact hS' _ (bcat2 (And.left ‹_›) hl1))
                (first
                  | (go_at_call 59; clear hk1; refine (HQ1.out _ (bcat2 hBw (And.left ‹_›))).mono ?_; rintro e1 U1 ⟨rfl, hl1⟩)
                  | (go_at_call 59; refine (HQ2.out _ (bcat2 hBw (And.left ‹_›))).mono ?_; rintro e2 U2 ⟨rfl, hl1⟩))
              all_goals (
                have hb9 := And.left ‹Below wr.heap.size wr U2 ∧ _›
                have hX9 := HX'.out.below hb9
                have hc9 := below_cell hb9 hcc
                go_wp2
                exact bodyPost_ret (v := .tuple #[.slice none 0 0, .bool false]) (by simp [results, Tryz.results90, go_sem]) rfl ⟨fun _ => rfl, fun S9 h9 => (by rw [HPX.out] at h9; cases h9), hX9.bel⟩)
        · have HE := hide (show T = some S' by rw [← hT', List.drop_eq_nil_of_le (by omega)]; rfl)
          have HR2 := hide (show exO n zs m ys ps (n - k - 1) (k + 1) S' = R by have h9 := HR.out; rw [HE.out] at h9; exact h9)
          clear hT'
          have hjn : ¬ (j : Int) < (ps.length : Int) := by omega
          go_wp2
          go_roundw
          case rel => exact ⟨k + 1, S', by go_num, by omega, by omega, hX', hI', by rw [show n - (k + 1) = n - k - 1 by omega]; exact HR2.out⟩
          case measure => simp [intOf]; omega
    · have HE := hide (show R = some S by rw [← hR, ex_end (by omega)])
      clear hR
      have hkn : ¬ (k : Int) < (S.2.length : Int) := by omega
      go_wp2
      refine bodyPost_ret (v := .tuple #[.slice (some ⟨w.heap.size + 2, 0, none⟩) n n, .bool true]) (by simp [results, Tryz.results90, go_sem]) rfl ⟨fun h => ?_, fun S9 h9 => ?_, hX.bel⟩
      · rw [HE.out] at h; cases h
      · rw [HE.out] at h9
        obtain rfl := Option.some.inj h9
        exact ⟨_, rfl, by omega, hX.mm, hI⟩
end Go.Proofs.YtgdpgbldjpeopaaGreatDoor

namespace Go.Proofs.YtgdpgbldjpeopaaGreatDoor
open Go Go.RowKit

theorem andn_bs (p q : Nat → Bool) {n : Nat} (hn : n ≤ 60) : Go.bits BinOp.andNot IntKind.u64 (bs p n : Int) (bs q n : Int) = (bs (fun a => p a && !q a) n : Int) := by
  have h64 : ∀ r : Nat → Bool, bs r n < 2 ^ 64 := fun r => Nat.lt_of_lt_of_le (bs_64 hn) (by decide)
  have hv : ∀ r : Nat → Bool, (BitVec.ofInt 64 (bs r n : Int)).toNat = bs r n := fun r => by
    rw [BitVec.ofInt_natCast, BitVec.toNat_ofNat]; exact Nat.mod_eq_of_lt (h64 r)
  have hx : (BitVec.ofInt 64 (bs p n : Int) &&& ~~~BitVec.ofInt 64 (bs q n : Int)).toNat = bs (fun a => p a && !q a) n := by
    apply Nat.eq_of_testBit_eq
    intro i
    rw [BitVec.testBit_toNat, BitVec.getLsbD_and, BitVec.getLsbD_not, ← BitVec.testBit_toNat, ← BitVec.testBit_toNat, hv, hv, bs_bit, bs_bit, bs_bit]
    by_cases hi : i < n
    · have : i < 64 := by omega
      simp [hi, this]
    · simp [hi]
  show IntKind.u64.wrap ((BitVec.ofInt 64 (bs p n : Int) &&& ~~~BitVec.ofInt 64 (bs q n : Int)).toNat : Int) = _
  rw [hx, IntKind.wrap_u64]
  have := h64 (fun a => p a && !q a)
  omega
/-- Each one the least that those ahead do not make. -/
structure LM (n : Nat) (zs : List Int) (e : Nat) (ks : List Nat) : Prop where
  lt : ∀ x, x ∈ ks → x < n
  nd : ks.Nodup
  step : ∀ i k, ks[i]? = some k → ¬ Mkd n zs e (fun x => decide (x ∈ ks.take i)) k ∧ ∀ x, x < k → Mkd n zs e (fun x => decide (x ∈ ks.take i)) x
theorem LM.nil (n : Nat) (zs : List Int) (e : Nat) : LM n zs e [] := ⟨fun x hx => by simp at hx, by simp, fun i k h => by simp at h⟩
theorem LM.fits {n : Nat} {zs : List Int} {e : Nat} {ks : List Nat} (h : LM n zs e ks) : ks.length ≤ n := nodup_fits h.nd h.lt
theorem LM.snoc {n : Nat} {zs : List Int} {e : Nat} {ks : List Nat} {c : Nat} (h : LM n zs e ks) (hc : c < n) (h1 : ¬ Mkd n zs e (fun x => decide (x ∈ ks)) c) (h2 : ∀ x, x < c → Mkd n zs e (fun x => decide (x ∈ ks)) x) : LM n zs e (ks ++ [c]) := by
  have hnc : c ∉ ks := fun hin => h1 (Fin.Gen.base (List.mem_range.2 hc) (by simpa using hin))
  refine ⟨fun x hx => ?_, List.nodup_append.2 ⟨h.nd, by simp, fun a ha b hb => by simp at hb; subst hb; exact fun e => hnc (e ▸ ha)⟩, fun i k hi => ?_⟩
  · rcases List.mem_append.1 hx with hx | hx
    · exact h.lt x hx
    · simp at hx; omega
  · by_cases hl : i < ks.length
    · rw [List.getElem?_append_left hl] at hi
      rw [List.take_append_of_le_length (by omega)]
      exact h.step i k hi
    · have hi2 := (List.getElem?_eq_some_iff.1 hi).1
      simp at hi2
      obtain rfl : i = ks.length := by omega
      simp at hi
      subst hi
      rw [List.take_left']
      · exact ⟨h1, h2⟩
      · rfl
/-- How many stand in a list. -/
def lenV : Value → Nat
  | .slice _ l _ => l
  | _ => 0
/-- The first that is not made. -/
theorem first_not {n : Nat} {p : Nat → Bool} (h : ¬ bs p n = bs (fun _ => true) n) : ∃ c l, lst n (fun a => true && !p a) = c :: l ∧ c < n ∧ p c = false ∧ ∀ x, x < c → p x = true := by
  have hne : lst n (fun a => true && !p a) ≠ [] := fun h0 => h (bs_ext fun a ha => by
    have : a ∉ lst n (fun a => true && !p a) := by rw [h0]; simp
    rw [mem_lst] at this
    cases hp : p a
    · exact absurd ⟨ha, by simp [hp]⟩ this
    · rfl)
  obtain ⟨c, l, hcl⟩ := List.exists_cons_of_ne_nil hne
  have hc : c ∈ lst n (fun a => true && !p a) := by rw [hcl]; simp
  obtain ⟨h1, h2⟩ := mem_lst.1 hc
  refine ⟨c, l, hcl, h1, by simpa using h2, fun x hx => ?_⟩
  have hr := lst_rise n (fun a => true && !p a)
  rw [hcl] at hr
  cases hp : p x
  · have hx2 : x ∈ lst n (fun a => true && !p a) := mem_lst.2 ⟨by omega, by simp [hp]⟩
    rw [hcl] at hx2
    rcases List.mem_cons.1 hx2 with h9 | h9
    · omega
    · have := (List.pairwise_cons.1 hr).1 x h9
      omega
  · rfl
theorem mkd_ex (n : Nat) (zs : List Int) (e : Nat) (q : Nat → Bool) : ∃ p : Nat → Bool, ∀ a, a < n → (p a = true ↔ Mkd n zs e q a) := by
  classical
  exact ⟨fun a => decide (Mkd n zs e q a), fun a _ => by simp⟩
theorem slF_own {w : World} {base : Nat} {v : Value} {zs : List Int} (h : w.ownsRow (base + 1) 3 1 v zs.length (zs.map (Value.int .i64))) (h0 : base < w.heap.size) : SlF base w v zs := by
  rcases h.2 with ⟨rfl, h1⟩ | ⟨g, cap, cur, rfl, hb, hr⟩
  · have : zs = [] := List.length_eq_zero_iff.1 h1
    subst this
    exact ⟨none, 0, base, 0, rfl, ⟨fun h => by simp at h, fun i hi => by simp at hi⟩, h0, Nat.le_refl _, by unfold maxLen; omega, Nat.le_refl _⟩
  · exact (SlF.of_own rfl h).mono (by omega)
end Go.Proofs.YtgdpgbldjpeopaaGreatDoor

namespace Go.Proofs.YtgdpgbldjpeopaaGreatDoor
open Go Go.RowKit

/-- Does the one stand for the one alone? -/
def sngq (n e : Nat) (ms : List Int) (d : Nat) : Bool := decide (bs (kerq ms d) n = bs (fun a => decide (a = e)) n)
set_option maxRecDepth 100000 in
set_option maxHeartbeats 4000000 in
theorem sng1_ok (n e m d pb ab : Nat) (v u y t mv : Value) (ms : List Int) (w : World) (hn : n ≤ 60) (hm : Sl w mv ms) (hl : ms.length = n) (hP : Blk w pb 72 [.int .i64 n, v, .int .i64 e, u, .int .i64 m, y, .int .i64 d, t]) (hA : Boxed w ab 56 (.int .u64 (bs (fun a => decide (a = e)) n))) :
    Calls Tryz.prog 71 #[mv, .pointer (some ⟨pb, 0, none⟩), .pointer (some ⟨ab, 0, none⟩)] w fun x w' => x = .returned (.bool (sngq n e ms d)) ∧ Below w.heap.size w w' := by
  have HK := hide (fun W (h : Below w.heap.size w W) => ker_ok n e m d v u y t mv ms W hn (hm.below h) hl)
  have hac := hA.cell
  obtain ⟨_, p0, p1, p2, p3, p4, p5, p6, p7⟩ := Eight.mk' hP
  have HN : Hid (sngq n e ms d = decide (bs (kerq ms d) n = bs (fun a => decide (a = e)) n)) := rfl
  have hS : ∀ W, Below w.heap.size w W → (Below w.heap.size w W ∧ W.cell? ⟨ab, 0, none⟩ = some (.int .u64 (bs (fun a => decide (a = e)) n)) ∧ W.cell? ⟨pb, 0, none⟩ = some (.int .i64 n) ∧ W.cell? ⟨pb, 1, none⟩ = some v ∧ W.cell? ⟨pb, 2, none⟩ = some (.int .i64 e) ∧ W.cell? ⟨pb, 3, none⟩ = some u ∧ W.cell? ⟨pb, 4, none⟩ = some (.int .i64 m) ∧ W.cell? ⟨pb, 5, none⟩ = some y ∧ W.cell? ⟨pb, 6, none⟩ = some (.int .i64 d) ∧ W.cell? ⟨pb, 7, none⟩ = some t) := fun W h => ⟨h, below_cell h hac, below_cell h p0, below_cell h p1, below_cell h p2, below_cell h p3, below_cell h p4, below_cell h p5, below_cell h p6, below_cell h p7⟩
  have hS0 := hS _ (bdrew (Below.refl _ w))
  clear hac p0 p1 p2 p3 p4 p5 p6 p7
  by_cases heq : bs (kerq ms d) n = bs (fun a => decide (a = e)) n
  · rw [decide_eq_true heq] at HN
    rw [heq] at HK
    generalize bs (fun a => decide (a = e)) n = Q at *
    go_enter Tryz.func71, Tryz.ntmps71
    go_wp2_with fail
    go_region_held3 (fun W => Below w.heap.size w W ∧ W.cell? ⟨ab, 0, none⟩ = some (.int .u64 (Q : Int)) ∧ W.cell? ⟨pb, 0, none⟩ = some (.int .i64 n) ∧ W.cell? ⟨pb, 1, none⟩ = some v ∧ W.cell? ⟨pb, 2, none⟩ = some (.int .i64 e) ∧ W.cell? ⟨pb, 3, none⟩ = some u ∧ W.cell? ⟨pb, 4, none⟩ = some (.int .i64 m) ∧ W.cell? ⟨pb, 5, none⟩ = some y ∧ W.cell? ⟨pb, 6, none⟩ = some (.int .i64 d) ∧ W.cell? ⟨pb, 7, none⟩ = some t)
      (first | exact hS0 | assumption | exact hS _ (bcat2 (And.left ‹_›) hl1))
      (first | (go_at_call 72; refine (HK.out _ (And.left ‹_›)).mono ?_; rintro e1 W1 ⟨rfl, hl1⟩))
    all_goals (
      have hB9 := And.left ‹Below w.heap.size w W1 ∧ _›
      go_wp2
      go_ret
      exact ⟨by rw [HN.out]; simp, hB9⟩)
  · rw [decide_eq_false heq] at HN
    generalize bs (kerq ms d) n = P at *
    generalize bs (fun a => decide (a = e)) n = Q at *
    have hpi : ¬ ((P : Int) = (Q : Int)) := by omega
    go_enter Tryz.func71, Tryz.ntmps71
    go_wp2_with fail
    go_region_held3 (fun W => Below w.heap.size w W ∧ W.cell? ⟨ab, 0, none⟩ = some (.int .u64 (Q : Int)) ∧ W.cell? ⟨pb, 0, none⟩ = some (.int .i64 n) ∧ W.cell? ⟨pb, 1, none⟩ = some v ∧ W.cell? ⟨pb, 2, none⟩ = some (.int .i64 e) ∧ W.cell? ⟨pb, 3, none⟩ = some u ∧ W.cell? ⟨pb, 4, none⟩ = some (.int .i64 m) ∧ W.cell? ⟨pb, 5, none⟩ = some y ∧ W.cell? ⟨pb, 6, none⟩ = some (.int .i64 d) ∧ W.cell? ⟨pb, 7, none⟩ = some t)
      (first | exact hS0 | assumption | exact hS _ (bcat2 (And.left ‹_›) hl1))
      (first | (go_at_call 72; refine (HK.out _ (And.left ‹_›)).mono ?_; rintro e1 W1 ⟨rfl, hl1⟩))
    all_goals (
      have hB9 := And.left ‹Below w.heap.size w W1 ∧ _›
      go_wp2
      go_ret
      exact ⟨by rw [HN.out]; simp [hpi], hB9⟩)
/-- What all's function takes along: the makers, the pair, and what must fit. -/
structure Alls (B : Nat) (W : World) (bx : List Value) (kv fv : Value) (kb pb fb : Nat) : Prop where
  pb_ : Blk W pb 72 bx
  kb_ : Boxed W kb 22 kv
  fb_ : Boxed W fb 104 fv
  le1 : B ≤ pb
  le2 : pb < kb
  le3 : kb < fb
set_option maxRecDepth 100000 in
set_option maxHeartbeats 4000000 in
theorem allf_ok (n e m d : Nat) (v u y t : Value) (k1 : Option Addr) (k2 k3 f0 : Nat) (fc : Array Value) (w : World) :
    Calls Tryz.prog 70 #[.agg #[.int .i64 n, v, .int .i64 e, u, .int .i64 m, y, .int .i64 d, t], (.slice k1 k2 k3), (.func (.func f0) #[] fc)] w fun x w' => ∃ kb pb fb : Nat, x = .returned (.func (.func 88) #[] #[.pointer (some ⟨kb, 0, none⟩), .pointer (some ⟨pb, 0, none⟩), .pointer (some ⟨fb, 0, none⟩)]) ∧ Alls w.heap.size w' [.int .i64 n, v, .int .i64 e, u, .int .i64 m, y, .int .i64 d, t] (.slice k1 k2 k3) (.func (.func f0) #[] fc) kb pb fb ∧ Below w.heap.size w w' := by
  obtain ⟨w0, hw0⟩ : ∃ w0, w0 = ((w.alloc (.cells #[.int .i64 n, v, .int .i64 e, u, .int .i64 m, y, .int .i64 d, t] 72)).alloc (.cells #[.slice k1 k2 k3] 22)).alloc (.cells #[.func (.func f0) #[] fc] 104) := ⟨_, rfl⟩
  have hB : Below w.heap.size w w0 := by rw [hw0]; exact ((balloc w _).alloc (by simp) _).alloc (by simp; omega) _
  have hA : Alls w.heap.size w0 [.int .i64 n, v, .int .i64 e, u, .int .i64 m, y, .int .i64 d, t] (.slice k1 k2 k3) (.func (.func f0) #[] fc) (w.heap.size + 1) w.heap.size (w.heap.size + 1 + 1) := by
    rw [hw0]
    refine ⟨Blk.alloc (Blk.alloc (World.alloc_heap_new _ _) _) _, ?_, ?_, Nat.le_refl _, by omega, by omega⟩
    · have := (Boxed.new (w.alloc (.cells #[.int .i64 n, v, .int .i64 e, u, .int .i64 m, y, .int .i64 d, t] 72)) 22 (.slice k1 k2 k3)).alloc (.cells #[.func (.func f0) #[] fc] 104)
      rwa [World.size_alloc] at this
    · have := Boxed.new ((w.alloc (.cells #[.int .i64 n, v, .int .i64 e, u, .int .i64 m, y, .int .i64 d, t] 72)).alloc (.cells #[.slice k1 k2 k3] 22)) 104 (.func (.func f0) #[] fc)
      rwa [World.size_alloc, World.size_alloc] at this
  go_enter Tryz.func70, Tryz.ntmps70
  go_wp2
  rw [← hw0]
  go_ret
  exact ⟨_, _, _, rfl, hA, hB⟩
set_option maxRecDepth 100000 in
set_option maxHeartbeats 4000000 in
theorem single_ok (n e m d : Nat) (v u y t : Value) (k1 : Option Addr) (k2 k3 : Nat) (w : World) (hn : n ≤ 60) (he : e < n) :
    Calls Tryz.prog 39 #[.agg #[.int .i64 n, v, .int .i64 e, u, .int .i64 m, y, .int .i64 d, t], .slice k1 k2 k3] w fun x w' => ∃ kb pb fb pc ab : Nat, x = .returned (.func (.func 88) #[] #[.pointer (some ⟨kb, 0, none⟩), .pointer (some ⟨pb, 0, none⟩), .pointer (some ⟨fb, 0, none⟩)]) ∧ Alls w.heap.size w' [.int .i64 n, v, .int .i64 e, u, .int .i64 m, y, .int .i64 d, t] (.slice k1 k2 k3) (.func (.func 71) #[] #[.pointer (some ⟨pc, 0, none⟩), .pointer (some ⟨ab, 0, none⟩)]) kb pb fb ∧ Blk w' pc 72 [.int .i64 n, v, .int .i64 e, u, .int .i64 m, y, .int .i64 d, t] ∧ Boxed w' ab 56 (.int .u64 (bs (fun a => decide (a = e)) n)) ∧ w.heap.size ≤ pc ∧ pc < ab ∧ ab < pb ∧ Below w.heap.size w w' := by
  obtain ⟨w0, hw0⟩ : ∃ w0, w0 = (w.alloc (.cells #[.int .i64 n, v, .int .i64 e, u, .int .i64 m, y, .int .i64 d, t] 72)).alloc (.cells #[.int .i64 e] 3) := ⟨_, rfl⟩
  have hB0 : Below w.heap.size w w0 := by rw [hw0]; exact (balloc w _).alloc (by simp) _
  have hX0 : Blk w0 w.heap.size 72 [.int .i64 n, v, .int .i64 e, u, .int .i64 m, y, .int .i64 d, t] := by rw [hw0]; exact Blk.alloc (World.alloc_heap_new _ _) _
  have hc1 : w0.cell? ⟨w.heap.size + 1, 0, none⟩ = some (.int .i64 e) := by
    rw [hw0]
    have := cell1 (w.alloc (.cells #[.int .i64 n, v, .int .i64 e, u, .int .i64 m, y, .int .i64 d, t] 72)) (.int .i64 e) 3
    rwa [World.size_alloc] at this
  have hs0 : w0.heap.size = w.heap.size + 1 + 1 := by rw [hw0]; simp
  have HOF := hide (of_one n (w.heap.size + 1) e w0 hn he hc1)
  obtain ⟨w1, hw1⟩ : ∃ w1, w1 = w0.alloc (.cells #[.int .u64 (bs (fun a => decide (a = e)) n)] 56) := ⟨_, rfl⟩
  have hB1 : Below w.heap.size w w1 := by rw [hw1]; exact bcat2 hB0 (balloc w0 _)
  have hX1 : Blk w1 w.heap.size 72 [.int .i64 n, v, .int .i64 e, u, .int .i64 m, y, .int .i64 d, t] := by rw [hw1]; exact hX0.alloc _
  have hA1 : Boxed w1 (w.heap.size + 1 + 1) 56 (.int .u64 (bs (fun a => decide (a = e)) n)) := by
    have := Boxed.new w0 56 (.int .u64 (bs (fun a => decide (a = e)) n))
    rw [hs0] at this
    rw [hw1]; exact this
  have hs1 : w1.heap.size = w.heap.size + 3 := by rw [hw1]; simp [hs0]
  have HAF := hide (allf_ok n e m d v u y t k1 k2 k3 71 #[.pointer (some ⟨w.heap.size, 0, none⟩), .pointer (some ⟨w.heap.size + 1 + 1, 0, none⟩)] w1)
  obtain ⟨_, p0, p1, p2, p3, p4, p5, p6, p7⟩ := Eight.mk' hX0
  rw [hw0] at p0 p1 p2 p3 p4 p5 p6 p7
  clear hc1
  go_enter Tryz.func39, Tryz.ntmps39
  go_wp2_with fail
  rw [← hw0]
  refine HOF.out.mono ?_
  rintro e1 w2 ⟨rfl, rfl⟩
  clear p0 p1 p2 p3 p4 p5 p6 p7
  obtain ⟨_, q0, q1, q2, q3, q4, q5, q6, q7⟩ := Eight.mk' hX1
  rw [hw1] at q0 q1 q2 q3 q4 q5 q6 q7
  clear hw0
  go_wp2_with fail
  rw [← hw1]
  clear hw1 q0 q1 q2 q3 q4 q5 q6 q7
  refine HAF.out.mono ?_
  rintro e3 w3 ⟨kb, pb, fb, rfl, hA3, hb3⟩
  have hL3 := hA3.le1
  go_wp2
  go_ret
  exact ⟨kb, pb, fb, _, _, rfl, ⟨hA3.pb_, hA3.kb_, hA3.fb_, by omega, hA3.le2, hA3.le3⟩, blk_below hX1 hb3, Boxed.below hA1 hb3, Nat.le_refl _, by omega, by omega, bcat2 hB1 hb3⟩
end Go.Proofs.YtgdpgbldjpeopaaGreatDoor

namespace Go.Proofs.YtgdpgbldjpeopaaGreatDoor
open Go Go.RowKit

/-- All that is yielded where images stand for the first makers: in order. -/
def homF (n : Nat) (zs : List Int) (e m : Nat) (ys : List Int) (d : Nat) (ks : List Nat) (fit : List Int → Bool) : Nat → List Nat → List (List Int)
  | 0, _ => []
  | f + 1, js => match ext n zs e m ys d ((ks.take js.length).zip js) with
    | none => []
    | some S => if fit S.1 then (if js.length = ks.length then [S.1] else (List.range m).flatMap fun b => homF n zs e m ys d ks fit f (js ++ [b])) else []
theorem sq_autos : (homF 8 sqT 0 8 sqT 0 [1, 4] (fun ms => sngq 8 0 ms 0) 3 []).length = 8 := by decide +kernel
/-- What is not in a subgroup that holds the makers is not made. -/
theorem not_mkd {n e a : Nat} {zs : List Int} {p q : Nat → Bool} (hp : subT n zs e p = true) (hq : ∀ x, x < n → q x = true → p x = true) (ha : p a = false) : ¬ Mkd n zs e q a := fun h => by
  have := Fin.Gen.least (subT_iff.1 hp) (fun x hx hX => hq x (List.mem_range.1 hx) hX) h
  rw [ha] at this
  cases this
theorem mkd_one {n e : Nat} {zs : List Int} (q : Nat → Bool) : Mkd n zs e q e := (Fin.Gen.sg _).one
theorem mkd_base {n e a : Nat} {zs : List Int} {q : Nat → Bool} (ha : a < n) (h : q a = true) : Mkd n zs e q a := Fin.Gen.base (List.mem_range.2 ha) h
theorem mkd_mul {n e a b c : Nat} {zs : List Int} {q : Nat → Bool} (ha : a < n) (hb : b < n) (h1 : Mkd n zs e q a) (h2 : Mkd n zs e q b) (hc : tm n zs a b = c) : Mkd n zs e q c := by
  have := (Fin.Gen.sg (l := List.range n) (m := tm n zs) (e := e) (fun x => q x = true)).mul a b (List.mem_range.2 ha) (List.mem_range.2 hb) h1 h2
  rw [hc] at this
  exact this
theorem sq_m1 : ∀ a, a < 4 → Mkd 8 sqT 0 (fun x => decide (x ∈ [1])) a := by
  have h0 : Mkd 8 sqT 0 (fun x => decide (x ∈ [1])) 0 := mkd_one _
  have h1 : Mkd 8 sqT 0 (fun x => decide (x ∈ [1])) 1 := mkd_base (by decide) (by decide)
  have h2 : Mkd 8 sqT 0 (fun x => decide (x ∈ [1])) 2 := mkd_mul (a := 1) (b := 1) (by decide) (by decide) h1 h1 (by decide +kernel)
  have h3 : Mkd 8 sqT 0 (fun x => decide (x ∈ [1])) 3 := mkd_mul (a := 1) (b := 2) (by decide) (by decide) h1 h2 (by decide +kernel)
  intro a ha
  match a, ha with
  | 0, _ => exact h0
  | 1, _ => exact h1
  | 2, _ => exact h2
  | 3, _ => exact h3
theorem sq_m2 : ∀ a, a < 8 → Mkd 8 sqT 0 (fun x => decide (x ∈ [1, 4])) a := by
  have hr : ∀ a, a < 4 → Mkd 8 sqT 0 (fun x => decide (x ∈ [1, 4])) a := fun a ha => Fin.Gen.mono (fun x _ hx => by simp at hx ⊢; omega) (sq_m1 a ha)
  have h4 : Mkd 8 sqT 0 (fun x => decide (x ∈ [1, 4])) 4 := mkd_base (by decide) (by decide)
  have hx : ∀ a, a < 8 → 4 ≤ a → ∃ b, b < 4 ∧ tm 8 sqT b 4 = a := by decide +kernel
  intro a ha
  by_cases h : a < 4
  · exact hr a h
  · obtain ⟨b, hb, hc⟩ := hx a ha (by omega)
    exact mkd_mul (by omega) (by decide) (hr b hb) h4 hc
/-- The square's makers. -/
theorem sq_lm {ks : List Nat} (h : LM 8 sqT 0 ks) (hf : ∀ a, a < 8 → Mkd 8 sqT 0 (fun x => decide (x ∈ ks)) a) : ks = [1, 4] := by
  have n0 : ¬ Mkd 8 sqT 0 (fun x => decide (x ∈ ([] : List Nat))) 1 := not_mkd (p := fun x => decide (x = 0)) (by decide +kernel) (by simp) (by decide)
  have n1 : ¬ Mkd 8 sqT 0 (fun x => decide (x ∈ [1])) 4 := not_mkd (p := fun x => decide (x < 4)) (by decide +kernel) (fun x _ hx => by simp at hx ⊢; omega) (by decide)
  match ks, h, hf with
  | [], _, hf => exact absurd (hf 1 (by decide)) n0
  | [a], h, hf =>
    obtain ⟨h1, h2⟩ : ¬ Mkd 8 sqT 0 (fun x => decide (x ∈ ([] : List Nat))) a ∧ ∀ x, x < a → Mkd 8 sqT 0 (fun x => decide (x ∈ ([] : List Nat))) x := h.step 0 a rfl
    have ha0 : a ≠ 0 := fun e => h1 (e ▸ mkd_one _)
    have ha1 : ¬ 1 < a := fun e => n0 (h2 1 e)
    obtain rfl : a = 1 := by omega
    exact absurd (hf 4 (by decide)) n1
  | a :: b :: l, h, hf =>
    obtain ⟨h1, h2⟩ : ¬ Mkd 8 sqT 0 (fun x => decide (x ∈ ([] : List Nat))) a ∧ ∀ x, x < a → Mkd 8 sqT 0 (fun x => decide (x ∈ ([] : List Nat))) x := h.step 0 a rfl
    have ha0 : a ≠ 0 := fun e => h1 (e ▸ mkd_one _)
    have ha1 : ¬ 1 < a := fun e => n0 (h2 1 e)
    obtain rfl : a = 1 := by omega
    obtain ⟨h3, h4⟩ : ¬ Mkd 8 sqT 0 (fun x => decide (x ∈ ([1] : List Nat))) b ∧ ∀ x, x < b → Mkd 8 sqT 0 (fun x => decide (x ∈ ([1] : List Nat))) x := h.step 1 b rfl
    have hb4 : ¬ b < 4 := fun e => h3 (sq_m1 b e)
    have hb5 : ¬ 4 < b := fun e => n1 (h4 4 e)
    obtain rfl : b = 4 := by omega
    match l, h with
    | [], _ => rfl
    | c :: l, h =>
      obtain ⟨h5, _⟩ : ¬ Mkd 8 sqT 0 (fun x => decide (x ∈ ([1, 4] : List Nat))) c ∧ ∀ x, x < c → Mkd 8 sqT 0 (fun x => decide (x ∈ ([1, 4] : List Nat))) x := h.step 2 c rfl
      exact absurd (sq_m2 c (h.lt c (by simp))) h5
end Go.Proofs.YtgdpgbldjpeopaaGreatDoor

namespace Go.Proofs.YtgdpgbldjpeopaaGreatDoor
open Go Go.RowKit

attribute [local go_sem] Oper.semAt_some

theorem Apart.of_below {lo hi : Nat} {A B : World} (h : Below A.heap.size A B) : Apart lo hi A B := ⟨h.os, h.tape, h.output, h.size, fun k hk _ => h.block k hk⟩
theorem own_at {W W' : World} {B n g k cap : Nat} {e : TypeId} {xs : List Value} (h : W.ownsRow B e 1 (.slice (some ⟨g, 0, none⟩) k cap) n xs) (hk : W'.heap[g]? = W.heap[g]?) : W'.ownsRow B e 1 (.slice (some ⟨g, 0, none⟩) k cap) n xs := by
  refine ⟨h.1, ?_⟩
  rcases h.2 with ⟨h0, _⟩ | ⟨g', cap', cur, hv, h1, h2, r⟩
  · cases h0
  · have : g' = g := by injection hv with h5; injection h5 with h5; injection h5 with h5; exact h5.symm
    subst this
    exact .inr ⟨g', cap', cur, hv, h1, hk.trans h2, r⟩
theorem own_cut {W : World} {B n g cap : Nat} {e : TypeId} {xs : List Value} (h : W.ownsRow B e 1 (.slice (some ⟨g, 0, none⟩) n cap) n xs) {k : Nat} (hk : k ≤ n) : W.ownsRow B e 1 (.slice (some ⟨g, 0, none⟩) k cap) k (xs.take k) := by
  refine ⟨by rw [List.length_take, h.1]; omega, ?_⟩
  rcases h.2 with ⟨h0, _⟩ | ⟨g', cap', cur, hv, h1, h2, h3, h4, h5, h6⟩
  · cases h0
  · injection hv with e1 _ e2
    injection e1 with e1
    injection e1 with e1
    subst e1 e2
    refine .inr ⟨g, cap, cur, rfl, h1, h2, by omega, h4, h5, ?_⟩
    rw [← h6, List.take_take]
    congr 1
    omega
theorem own_cap {W : World} {B n g cap : Nat} {e : TypeId} {xs : List Value} (h : W.ownsRow B e 1 (.slice (some ⟨g, 0, none⟩) n cap) n xs) : B ≤ g ∧ g < W.heap.size ∧ n ≤ cap ∧ cap ≤ maxLen := by
  rcases h.2 with ⟨h, _⟩ | ⟨g', cap', cur, h, h1, h2, h3, h4, _⟩
  · cases h
  · injection h with h5 _ h6
    injection h5 with h5
    injection h5 with h5
    subst h5 h6
    exact ⟨h1, (Array.getElem?_eq_some_iff.1 h2).1, h3, h4⟩
/-- The iterator's own variables: yield, the images, and itself. -/
structure IB (B l cap : Nat) (caps : Array Value) (W : World) (js : List Nat) : Prop where
  y_ : Boxed W B 104 (.func (.yield l) #[] #[])
  r_ : W.ownsRow (B + 1) 3 1 (.slice (some ⟨B + 1, 0, none⟩) js.length cap) js.length ((li js).map (Value.int .i64))
  i_ : Boxed W (B + 2) 22 (.slice (some ⟨B + 1, 0, none⟩) js.length cap)
  g_ : Boxed W (B + 3) 26 (.func (.func 89) #[] caps)
theorem IB.keep {B l cap : Nat} {caps : Array Value} {W W' : World} {js : List Nat} (h : IB B l cap caps W js) (hk : ∀ b, B ≤ b → b < B + 4 → W'.heap[b]? = W.heap[b]?) : IB B l cap caps W' js :=
  ⟨(hk _ (by omega) (by omega)).trans h.y_, own_at h.r_ (hk _ (by omega) (by omega)), (hk _ (by omega) (by omega)).trans h.i_, (hk _ (by omega) (by omega)).trans h.g_⟩
theorem IB.lt {B l cap : Nat} {caps : Array Value} {W : World} {js : List Nat} (h : IB B l cap caps W js) : B + 4 ≤ W.heap.size := by have := h.g_.lt; omega
theorem IB.below {B l cap : Nat} {caps : Array Value} {W W' : World} {js : List Nat} (h : IB B l cap caps W js) (hb : Below W.heap.size W W') : IB B l cap caps W' js :=
  h.keep fun b _ hb2 => hb.block b (by have := h.lt; omega)
theorem Alls.below {B : Nat} {W W' : World} {bx : List Value} {kv fv : Value} {kb pb fb : Nat} (h : Alls B W bx kv fv kb pb fb) (hb : Below W.heap.size W W') : Alls B W' bx kv fv kb pb fb :=
  ⟨blk_below h.pb_ hb, Boxed.below h.kb_ hb, Boxed.below h.fb_ hb, h.le1, h.le2, h.le3⟩
theorem range_split {m b : Nat} (h : b < m) (F : Nat → List (List Int)) : ∃ post, (List.range m).flatMap F = (List.range b).flatMap F ++ (F b ++ post) := by
  refine ⟨((List.range (m - (b + 1))).map (b + 1 + ·)).flatMap F, ?_⟩
  have : List.range m = List.range b ++ (b :: (List.range (m - (b + 1))).map (b + 1 + ·)) := by
    have h1 : List.range m = List.range (b + 1 + (m - (b + 1))) := by congr 1; omega
    rw [h1, List.range_add, List.range_succ]
    simp
  rw [this]
  simp
theorem sl_take {w : World} {k1 : Option Addr} {k3 : Nat} {ks : List Nat} (h : Sl w (.slice k1 ks.length k3) (li ks)) {j : Nat} (hj : j ≤ ks.length) : Sl w (.slice k1 j k3) (li (ks.take j)) := by
  obtain ⟨a, cap, pb, po, hv, hr, h1, h2, h3⟩ := h
  injection hv with e1 _ e3
  subst e1 e3
  rw [li_len] at h2
  have hl : (li (ks.take j)).length = j := by rw [li_len, List.length_take]; omega
  refine ⟨k1, k3, pb, po, by rw [hl], ⟨fun h9 => hr.at_ (by rw [li_len]; rw [hl] at h9; omega), fun x hx => ?_⟩, h1, by rw [hl]; omega, h3⟩
  rw [hl] at hx
  have h4 := hr.cell x (by rw [li_len]; omega)
  rw [h4]
  congr 2
  simp only [li, List.getElem?_map, List.getElem?_take, if_pos hx]
theorem Apart.setCell {lo hi : Nat} {A B : World} (h : Apart lo hi A B) {b : Nat} (hb : lo ≤ b ∧ b < hi) (y : Nat) (v : Value) : Apart lo hi A (B.setCell ⟨b, y, none⟩ v) := h.grown (gb_set B b y v) (fun j e => by cases e; exact .inl hb)
section
variable {B l cap x : Nat} {caps : Array Value} {W w3 : World} {js : List Nat}
theorem IB.push (h : IB B l cap caps W js) {o : Obj} (hg : (W.alloc o).grownBy w3 (some (B + 1))) (ho : w3.ownsRow (B + 1) 3 1 (.slice (some ⟨B + 1, 0, none⟩) (js.length + 1) cap) (js.length + 1) ((li js).map (Value.int .i64) ++ [.int .i64 (x : Int)])) :
    IB B l cap caps (w3.setCell ⟨B + 2, 0, none⟩ (.slice (some ⟨B + 1, 0, none⟩) (js.length + 1) cap)) (js ++ [x]) := by
  have hlt := h.lt
  have hk : ∀ b, b < B + 4 → b ≠ B + 1 → w3.heap[b]? = W.heap[b]? := fun b h1 h2 => (hg.block b (by simp; omega) (by simp; omega)).trans (Below.heap_alloc _ _ _ (by omega))
  have hk2 : ∀ b, b < B + 4 → b ≠ B + 1 → b ≠ B + 2 → (w3.setCell ⟨B + 2, 0, none⟩ (.slice (some ⟨B + 1, 0, none⟩) (js.length + 1) cap)).heap[b]? = W.heap[b]? := fun b h1 h2 h3 => (Below.heap_setCell _ _ _ _ h3).trans (hk b h1 h2)
  have hi : Boxed w3 (B + 2) 22 (.slice (some ⟨B + 1, 0, none⟩) js.length cap) := (hk _ (by omega) (by omega)).trans h.i_
  have hl : (js ++ [x]).length = js.length + 1 := by simp
  have hm : (li (js ++ [x])).map (Value.int .i64) = (li js).map (Value.int .i64) ++ [.int .i64 (x : Int)] := by simp [li]
  refine ⟨(hk2 _ (by omega) (by omega) (by omega)).trans h.y_, ?_, ?_, (hk2 _ (by omega) (by omega) (by omega)).trans h.g_⟩
  · rw [hl, hm]; exact own_at ho (Below.heap_setCell _ _ _ _ (by simp))
  · rw [hl]; exact hi.set _
theorem IB.put (h : IB B l cap caps W (js ++ [x])) (b : Nat) : IB B l cap caps (W.setCell ⟨B + 1, js.length, none⟩ (.int .i64 (b : Int))) (js ++ [b]) := by
  have hk : ∀ c, c ≠ B + 1 → (W.setCell ⟨B + 1, js.length, none⟩ (.int .i64 (b : Int))).heap[c]? = W.heap[c]? := fun c h1 => Below.heap_setCell _ _ _ _ h1
  have hl : ∀ z : Nat, (js ++ [z]).length = js.length + 1 := fun z => by simp
  have hm : ((li (js ++ [x])).map (Value.int .i64)).set js.length (.int .i64 (b : Int)) = (li (js ++ [b])).map (Value.int .i64) := by
    have : js.length = ((li js).map (Value.int .i64)).length := by simp [li]
    rw [show (li (js ++ [x])).map (Value.int .i64) = (li js).map (Value.int .i64) ++ [.int .i64 (x : Int)] by simp [li], this, List.set_append_right _ _ (Nat.le_refl _)]
    simp [li]
  have h1 := (h.r_.stored js.length (.int .i64 (b : Int))).1
  rw [hm, hl] at h1
  refine ⟨(hk _ (by omega)).trans h.y_, by rw [hl]; exact h1, ?_, (hk _ (by omega)).trans h.g_⟩
  have := h.i_
  rw [hl] at this ⊢
  exact (hk _ (by omega)).trans this
theorem IB.pop (h : IB B l cap caps W (js ++ [x])) : IB B l cap caps (W.setCell ⟨B + 2, 0, none⟩ (.slice (some ⟨B + 1, 0, none⟩) js.length cap)) js := by
  have hk : ∀ c, c ≠ B + 2 → (W.setCell ⟨B + 2, 0, none⟩ (.slice (some ⟨B + 1, 0, none⟩) js.length cap)).heap[c]? = W.heap[c]? := fun c h1 => Below.heap_setCell _ _ _ _ h1
  have h1 := own_cut h.r_ (k := js.length) (by simp)
  rw [show ((li (js ++ [x])).map (Value.int .i64)).take js.length = (li js).map (Value.int .i64) by
    rw [show (li (js ++ [x])).map (Value.int .i64) = (li js).map (Value.int .i64) ++ [.int .i64 (x : Int)] by simp [li], List.take_left' (by simp [li])]] at h1
  exact ⟨(hk _ (by omega)).trans h.y_, own_at h1 (hk _ (by omega)), h.i_.set _, (hk _ (by omega)).trans h.g_⟩
end
end Go.Proofs.YtgdpgbldjpeopaaGreatDoor

namespace Go.Proofs.YtgdpgbldjpeopaaGreatDoor
open Go Go.RowKit

attribute [local go_sem] Oper.semAt_some

/-- How the recursion ends: all is handed on, and the images stand as they stood; or the loop was left. -/
def GP (B l cap : Nat) (caps : Array Value) (js : List Nat) (J' Jx : World → Prop) (x : Ending) (W' : World) : Prop :=
  (x = .returned (.bool true) ∧ ∃ W0, J' W0 ∧ Apart B (B + 4) W0 W' ∧ IB B l cap caps W' js) ∨ (x = .returned (.bool false) ∧ ∃ W0, Jx W0 ∧ Apart B (B + 4) W0 W')
theorem homF_none {n e m d : Nat} {zs ys : List Int} {ks js : List Nat} {fit : List Int → Bool} {f : Nat} (h : ext n zs e m ys d ((ks.take js.length).zip js) = none) : homF n zs e m ys d ks fit (f + 1) js = [] := by simp only [homF, h]
theorem homF_unfit {n e m d : Nat} {zs ys : List Int} {ks js : List Nat} {fit : List Int → Bool} {f : Nat} {S : List Int × List Nat} (h : ext n zs e m ys d ((ks.take js.length).zip js) = some S) (hf : fit S.1 = false) : homF n zs e m ys d ks fit (f + 1) js = [] := by simp only [homF, h, hf]; simp
theorem homF_full {n e m d : Nat} {zs ys : List Int} {ks js : List Nat} {fit : List Int → Bool} {f : Nat} {S : List Int × List Nat} (h : ext n zs e m ys d ((ks.take js.length).zip js) = some S) (hf : fit S.1 = true) (hl : js.length = ks.length) : homF n zs e m ys d ks fit (f + 1) js = [S.1] := by 
  rw [homF, h]
  simp only [hf, if_pos hl, if_true]
theorem homF_on {n e m d : Nat} {zs ys : List Int} {ks js : List Nat} {fit : List Int → Bool} {f : Nat} {S : List Int × List Nat} (h : ext n zs e m ys d ((ks.take js.length).zip js) = some S) (hf : fit S.1 = true) (hl : ¬ js.length = ks.length) : homF n zs e m ys d ks fit (f + 1) js = (List.range m).flatMap fun b => homF n zs e m ys d ks fit f (js ++ [b]) := by
  rw [homF, h]
  simp only [hf, if_neg hl, if_true]
theorem ty22b : (Tryz.prog.info? 3).map (fun i => (i.zero, i.size, i.bytes)) = some (some (.int .i64 0), 1, 8) := info3b
set_option maxRecDepth 100000 in
set_option maxHeartbeats 8000000 in
theorem goon_ok {n e m d : Nat} {v u y t : Value} {zs ys : List Int} {ks : List Nat} {k1 : Option Addr} {k3 f0 : Nat} {fc : Array Value} {kb pb fb A l B : Nat} {w0 : World} {fit : List Int → Bool} {J : List (List Int) → World → Prop} {Jx : World → Prop} {full : List (List Int)}
    (hg : IsGrp n zs e) (hh : IsGrp m ys d) (hv : Sl w0 v zs) (hy : Sl w0 y ys) (hk : Sl w0 (.slice k1 ks.length k3) (li ks)) (hkn : ∀ k, k ∈ ks → k < n) (hks : ks.length ≤ n)
    (hA : Alls A w0 [.int .i64 n, v, .int .i64 e, u, .int .i64 m, y, .int .i64 d, t] (.slice k1 ks.length k3) (.func (.func f0) #[] fc) kb pb fb)
    (hcall : ∀ a W, Sem.run Tryz.prog (callFunc f0 (#[a] ++ fc)) W = .ok (.enter f0 (#[a] ++ fc)) W)
    (hfit : ∀ W g ms, Below w0.heap.size w0 W → Blk W g 3 (ms.map (Value.int .i64)) → ms.length = n → Calls Tryz.prog f0 (#[.slice (some ⟨g, 0, none⟩) n n] ++ fc) W fun x W' => x = .returned (.bool (fit ms)) ∧ Below W.heap.size W W')
    (hJ : ∀ pre W, J pre W → Below w0.heap.size w0 W) (hB : w0.heap.size ≤ B)
    (hY : ∀ pre c post W0 W1 g, pre ++ c :: post = full → J pre W0 → Apart B (B + 4) W0 W1 → W0.heap.size ≤ g → B + 4 ≤ g → Blk W1 g 3 (c.map (Value.int .i64)) → c.length = n →
      YieldAt Fence.wide 0 Tryz.prog l #[.slice (some ⟨g, 0, none⟩) n n] W1 (YPost (J (pre ++ [c])) Jx (fun b => b < w0.heap.size ∨ (B ≤ b ∧ b < B + 4)) W1)) :
    ∀ (f : Nat) (js : List Nat) (pre post : List (List Int)) (W0 W : World), ks.length + 1 ≤ f + js.length → js.length ≤ ks.length → (∀ j, j ∈ js → j < m) → pre ++ (homF n zs e m ys d ks fit f js ++ post) = full → J pre W0 → Apart B (B + 4) W0 W → IB B l ks.length #[.pointer (some ⟨pb, 0, none⟩), .pointer (some ⟨kb, 0, none⟩), .pointer (some ⟨B + 2, 0, none⟩), .pointer (some ⟨fb, 0, none⟩), .pointer (some ⟨B, 0, none⟩), .pointer (some ⟨B + 3, 0, none⟩)] W js →
      Calls Tryz.prog 89 #[.pointer (some ⟨pb, 0, none⟩), .pointer (some ⟨kb, 0, none⟩), .pointer (some ⟨B + 2, 0, none⟩), .pointer (some ⟨fb, 0, none⟩), .pointer (some ⟨B, 0, none⟩), .pointer (some ⟨B + 3, 0, none⟩)] W fun x W' => GP B l ks.length #[.pointer (some ⟨pb, 0, none⟩), .pointer (some ⟨kb, 0, none⟩), .pointer (some ⟨B + 2, 0, none⟩), .pointer (some ⟨fb, 0, none⟩), .pointer (some ⟨B, 0, none⟩), .pointer (some ⟨B + 3, 0, none⟩)] js (J (pre ++ homF n zs e m ys d ks fit f js)) Jx x W' := by
  obtain ⟨i0, hi3, hz0, hz1, hz2⟩ := info_parts info3b
  have hn60 := hg.tab.le
  have hm60 := hh.tab.le
  have HG := hide hg
  have HH := hide hh
  have HFIT := hide hfit
  have HJ := hide hJ
  have HY := hide hY
  clear hg hh hfit hJ hY
  intro f
  induction f with
  | zero => intro js pre post W0 W h1 h2; omega
  | succ f ih =>
    intro js pre post W0 W h1 h2 hjm hful hJ0 hAp hI
    have HIH := hide ih
    clear ih
    have hBW0 := HJ.out _ _ hJ0
    have hBW : Below w0.heap.size w0 W := hBW0.trans (hAp.below hB hBW0.size)
    have hAW := hA.below hBW
    have hlt4 := hI.lt
    obtain ⟨_, hrb, hcap1, hcap2⟩ := own_cap hI.r_
    have hks60 : ks.length ≤ 60 := by omega
    have hsl : (li js).length = js.length := li_len js
    have hzip1 : ((ks.take js.length).zip js).map Prod.fst = ks.take js.length := List.map_fst_zip (by rw [List.length_take]; omega)
    have hzip2 : ((ks.take js.length).zip js).map Prod.snd = js := List.map_snd_zip (by rw [List.length_take]; omega)
    have hzp : ∀ p, p ∈ (ks.take js.length).zip js → p.1 < n ∧ p.2 < m := fun p hp => ⟨hkn _ (List.mem_of_mem_take (List.of_mem_zip hp).1), hjm _ (List.of_mem_zip hp).2⟩
    have hSi : Sl W (.slice (some ⟨B + 1, 0, none⟩) js.length ks.length) (li js) := by
      have h9 := hI.r_
      exact Sl.of_own (zs := li js) (by rw [hsl]; exact h9) (by omega)
    have HEX := hide (fun W9 (h : Below W.heap.size W W9) => ext_ok n e m d v u y t (.slice k1 js.length k3) (.slice (some ⟨B + 1, 0, none⟩) js.length ks.length) zs ys ((ks.take js.length).zip js) W9 HG.out HH.out ((hv.below hBW).below h) ((hy.below hBW).below h) (by rw [hzip1]; exact (sl_take (hk.below hBW) h2).below h) (by rw [hzip2]; exact hSi.below h) hzp)
    have hk3 : ks.length ≤ k3 := by
      obtain ⟨_, _, _, _, hv9, _, _, h8, _⟩ := hk
      injection hv9 with _ _ e3
      rw [li_len] at h8
      omega
    have hk3m : k3 ≤ maxLen := by
      obtain ⟨_, _, _, _, hv9, _, _, _, h8⟩ := hk
      injection hv9 with _ _ e3
      omega
    obtain ⟨_, p0, p1, p2, p3, p4, p5, p6, p7⟩ := Eight.mk' hAW.pb_
    have hkc := hAW.kb_.cell
    have hic := hI.i_.cell
    have hS : ∀ W9, Below W.heap.size W W9 → ((fun W9 => Below W.heap.size W W9 ∧ W9.cell? ⟨kb, 0, none⟩ = some (.slice k1 ks.length k3) ∧ W9.cell? ⟨B + 2, 0, none⟩ = some (.slice (some ⟨B + 1, 0, none⟩) js.length ks.length) ∧ W9.cell? ⟨pb, 0, none⟩ = some (.int .i64 n) ∧ W9.cell? ⟨pb, 1, none⟩ = some v ∧ W9.cell? ⟨pb, 2, none⟩ = some (.int .i64 e) ∧ W9.cell? ⟨pb, 3, none⟩ = some u ∧ W9.cell? ⟨pb, 4, none⟩ = some (.int .i64 m) ∧ W9.cell? ⟨pb, 5, none⟩ = some y ∧ W9.cell? ⟨pb, 6, none⟩ = some (.int .i64 d) ∧ W9.cell? ⟨pb, 7, none⟩ = some t) W9) := fun W9 h => ⟨h, below_cell h hkc, below_cell h hic, below_cell h p0, below_cell h p1, below_cell h p2, below_cell h p3, below_cell h p4, below_cell h p5, below_cell h p6, below_cell h p7⟩
    have hS0 := hS _ (bdrew (Below.refl _ W))
    have HPB := hide (show pb < B by have := hA.pb_.lt; omega)
    have HFB := hide (fun W9 (h : Below W.heap.size W W9) => below_cell h hAW.fb_.cell)
    have HK := hide hk
    have HI := hide hI
    have HAW := hide hAW
    have HAP := hide hAp
    have HBW := hide hBW
    have HJM := hide hjm
    clear p0 p1 p2 p3 p4 p5 p6 p7 hkc hic hI hAW hAp hBW hA hk hzp hzip1 hzip2 hSi hkn hjm
    have hji : (js.length : Int) ≤ (k3 : Int) := by omega
    have hji0 : ¬ ((js.length : Int) < 0) := by omega
    have hjm : (js.length : Int) ≤ 60 := by omega
    cases hR : ext n zs e m ys d ((ks.take js.length).zip js) with
    | none =>
      have HHF := hide (homF_none (fit := fit) (f := f) hR)
      have HEXN := hide (fun W9 (h : Below W.heap.size W W9) => (HEX.out W9 h).mono (R' := fun x w' => x = .returned (.tuple #[.slice none 0 0, .bool false]) ∧ Below W9.heap.size W9 w') (fun x w' h => ⟨h.no hR, h.bel⟩))
      clear HEX hR
      go_enter Tryz.func89, Tryz.ntmps89
      go_wp2_with fail
      go_region_held3 (fun W9 => Below W.heap.size W W9 ∧ W9.cell? ⟨kb, 0, none⟩ = some (.slice k1 ks.length k3) ∧ W9.cell? ⟨B + 2, 0, none⟩ = some (.slice (some ⟨B + 1, 0, none⟩) js.length ks.length) ∧ W9.cell? ⟨pb, 0, none⟩ = some (.int .i64 n) ∧ W9.cell? ⟨pb, 1, none⟩ = some v ∧ W9.cell? ⟨pb, 2, none⟩ = some (.int .i64 e) ∧ W9.cell? ⟨pb, 3, none⟩ = some u ∧ W9.cell? ⟨pb, 4, none⟩ = some (.int .i64 m) ∧ W9.cell? ⟨pb, 5, none⟩ = some y ∧ W9.cell? ⟨pb, 6, none⟩ = some (.int .i64 d) ∧ W9.cell? ⟨pb, 7, none⟩ = some t)
      (first | exact hS0 | assumption | exact hS _ (bcat2 (And.left ‹_›) hl1))
      (first | (go_at_call 90; refine (HEXN.out _ (And.left ‹_›)).mono ?_; rintro e1 W1 ⟨rfl, hl1⟩))
      all_goals (
        have hB9 := And.left ‹Below W.heap.size W W1 ∧ _›
        clear hS hS0
        go_wp2
        go_ret
        exact .inl ⟨rfl, W0, by rw [HHF.out, List.append_nil]; exact hJ0, HAP.out.trans (Apart.of_below hB9), HI.out.below hB9⟩)
    | some S =>
      have HR := hide hR
      have HEXS := hide (fun W9 (h : Below W.heap.size W W9) => (HEX.out W9 h).mono (R' := fun x w' => ∃ g, x = .returned (.tuple #[.slice (some ⟨g, 0, none⟩) n n, .bool true]) ∧ W.heap.size ≤ g ∧ Blk w' g 3 (S.1.map (Value.int .i64)) ∧ S.1.length = n ∧ Below W9.heap.size W9 w') (fun x w' h9 => by
        obtain ⟨g, h1, h2, h3, h4⟩ := h9.yes S hR
        exact ⟨g, h1, Nat.le_trans h.size h2, h3, h4.len, h9.bel⟩))
      clear HEX hR
      have HFI := hide (fun W9 g (h : Below W.heap.size W W9) (hb : Blk W9 g 3 (S.1.map (Value.int .i64))) (hl : S.1.length = n) => HFIT.out W9 g S.1 (bcat2 HBW.out h) hb hl)
      cases hf : fit S.1 with
      | false =>
        have HHF := hide (homF_unfit (f := f) HR.out hf)
        rw [hf] at HFI
        clear hf
        go_enter Tryz.func89, Tryz.ntmps89
        go_wp2_with fail
        go_region_held3 (fun W9 => Below W.heap.size W W9 ∧ W9.cell? ⟨kb, 0, none⟩ = some (.slice k1 ks.length k3) ∧ W9.cell? ⟨B + 2, 0, none⟩ = some (.slice (some ⟨B + 1, 0, none⟩) js.length ks.length) ∧ W9.cell? ⟨pb, 0, none⟩ = some (.int .i64 n) ∧ W9.cell? ⟨pb, 1, none⟩ = some v ∧ W9.cell? ⟨pb, 2, none⟩ = some (.int .i64 e) ∧ W9.cell? ⟨pb, 3, none⟩ = some u ∧ W9.cell? ⟨pb, 4, none⟩ = some (.int .i64 m) ∧ W9.cell? ⟨pb, 5, none⟩ = some y ∧ W9.cell? ⟨pb, 6, none⟩ = some (.int .i64 d) ∧ W9.cell? ⟨pb, 7, none⟩ = some t)
      (first | exact hS0 | assumption | exact hS _ (bcat2 (And.left ‹_›) hl1))
      (first | (go_at_call 90; refine (HEXS.out _ (And.left ‹_›)).mono ?_; rintro e1 W1 ⟨g, rfl, hgs, hM1, hl9, hl1⟩))
        all_goals (
          have hB9 := And.left ‹Below W.heap.size W W1 ∧ _›
          have hfc := HFB.out _ hB9
          clear hS hS0
          go_wp2_with fail
          refine (HFI.out W1 g hB9 hM1 hl9).mono ?_
          rintro e2 W2 ⟨rfl, hl2⟩
          have hB2 := bcat2 hB9 hl2
          go_wp2
          go_ret
          exact .inl ⟨rfl, W0, by rw [HHF.out, List.append_nil]; exact hJ0, HAP.out.trans (Apart.of_below hB2), HI.out.below hB2⟩)
      | true =>
        have HF := hide hf
        rw [hf] at HFI
        clear hf
        by_cases hle : js.length = ks.length
        · have HHF := hide (homF_full (f := f) HR.out HF.out hle)
          have HLE := hide hle
          clear hle
          go_enter Tryz.func89, Tryz.ntmps89
          go_wp2_with fail
          go_region_held3 (fun W9 => Below W.heap.size W W9 ∧ W9.cell? ⟨kb, 0, none⟩ = some (.slice k1 ks.length k3) ∧ W9.cell? ⟨B + 2, 0, none⟩ = some (.slice (some ⟨B + 1, 0, none⟩) js.length ks.length) ∧ W9.cell? ⟨pb, 0, none⟩ = some (.int .i64 n) ∧ W9.cell? ⟨pb, 1, none⟩ = some v ∧ W9.cell? ⟨pb, 2, none⟩ = some (.int .i64 e) ∧ W9.cell? ⟨pb, 3, none⟩ = some u ∧ W9.cell? ⟨pb, 4, none⟩ = some (.int .i64 m) ∧ W9.cell? ⟨pb, 5, none⟩ = some y ∧ W9.cell? ⟨pb, 6, none⟩ = some (.int .i64 d) ∧ W9.cell? ⟨pb, 7, none⟩ = some t)
      (first | exact hS0 | assumption | exact hS _ (bcat2 (And.left ‹_›) hl1))
      (first | (go_at_call 90; refine (HEXS.out _ (And.left ‹_›)).mono ?_; rintro e1 W1 ⟨g, rfl, hgs, hM1, hl9, hl1⟩))
          all_goals (
            have hB9 := And.left ‹Below W.heap.size W W1 ∧ _›
            have hfc := HFB.out _ hB9
            clear hS hS0
            go_wp2_with fail
            refine (HFI.out W1 g hB9 hM1 hl9).mono ?_
            rintro e2 W2 ⟨rfl, hl2⟩
            have hB2 := bcat2 hB9 hl2
            have hI2 := HI.out.below hB2
            have hic := hI2.i_.cell
            have hkc := (HAW.out.below hB2).kb_.cell
            have hyc := hI2.y_.cell
            have hws := HAP.out.size
            have hlei : (js.length : Int) = (ks.length : Int) := by have := HLE.out; omega
            have hY1 := HY.out pre S.1 post W0 W2 g (by rw [← hful, HHF.out]; rfl) hJ0 (HAP.out.trans (Apart.of_below hB2)) (by omega) (by omega) (blk_below hM1 hl2) hl9
            obtain ⟨fn, tmps, assign, body, hyy, hRR⟩ := hY1
            go_upto_region 5 with fail
            refine (wpIn_wide (n := 1)).1 ?_
            gi_wp2
            refine hRR.mono ?_
            rintro e3 W3 ⟨hkk3, ⟨rfl, hJ3⟩ | ⟨rfl, hJx3⟩⟩
            · have hk3 := (hkk3 rfl).2
              clear hkk3
              gi_wp2
              go_wp2
              go_ret
              exact .inl ⟨rfl, W3, by rw [HHF.out]; exact hJ3, Apart.refl _ _ _, hI2.keep (fun b h1 h2 => hk3 b (.inr ⟨h1, h2⟩))⟩
            · clear hkk3
              gi_wp2
              go_wp2
              go_ret
              exact .inr ⟨rfl, W3, hJx3, Apart.refl _ _ _⟩)
        · have HHF := hide (homF_on (f := f) HR.out HF.out hle)
          have hlj : js.length < ks.length := by omega
          have HLE := hide hle
          clear hle
          go_enter Tryz.func89, Tryz.ntmps89
          go_wp2_with fail
          go_region_held3 (fun W9 => Below W.heap.size W W9 ∧ W9.cell? ⟨kb, 0, none⟩ = some (.slice k1 ks.length k3) ∧ W9.cell? ⟨B + 2, 0, none⟩ = some (.slice (some ⟨B + 1, 0, none⟩) js.length ks.length) ∧ W9.cell? ⟨pb, 0, none⟩ = some (.int .i64 n) ∧ W9.cell? ⟨pb, 1, none⟩ = some v ∧ W9.cell? ⟨pb, 2, none⟩ = some (.int .i64 e) ∧ W9.cell? ⟨pb, 3, none⟩ = some u ∧ W9.cell? ⟨pb, 4, none⟩ = some (.int .i64 m) ∧ W9.cell? ⟨pb, 5, none⟩ = some y ∧ W9.cell? ⟨pb, 6, none⟩ = some (.int .i64 d) ∧ W9.cell? ⟨pb, 7, none⟩ = some t)
      (first | exact hS0 | assumption | exact hS _ (bcat2 (And.left ‹_›) hl1))
      (first | (go_at_call 90; refine (HEXS.out _ (And.left ‹_›)).mono ?_; rintro e1 W1 ⟨g, rfl, hgs, hM1, hl9, hl1⟩))
          all_goals (
            have hB9 := And.left ‹Below W.heap.size W W1 ∧ _›
            have hfc := HFB.out _ hB9
            clear hS hS0
            go_wp2_with fail
            refine (HFI.out W1 g hB9 hM1 hl9).mono ?_
            rintro e2 W2 ⟨rfl, hl2⟩
            have hB2 := bcat2 hB9 hl2
            have hI2 := HI.out.below hB2
            have hic := hI2.i_.cell
            have hkc := (HAW.out.below hB2).kb_.cell
            have hA2 := HAP.out.trans (Apart.of_below (lo := B) (hi := B + 4) hB2)
            have hX2 := (HAW.out.below hB2).pb_
            have hB02 := bcat2 HBW.out hB2
            have hlei : ¬ ((js.length : Int) = (ks.length : Int)) := by have := HLE.out; omega
            go_wp2_with (first
              | (at_builtin; refine wpList_append_fits _ rfl _ _ 22 rfl (B + 1) 3 i0 1 under22b hi3 hz1 (B + 1) js.length ks.length _ rfl (World.ownsRow.alloc hI2.r_ _) ⟨W2.heap.size, 0, none⟩ 1 1 [.int .i64 0] rfl rfl ?c1 ?c2 ?c3 ?_))
            case c1 => exact cell_one_new _ _ _
            case c2 => simp [Value.oneCell']
            case c3 => omega
            intro w3 hown3 hgrow3
            have hw2 : W2.heap.size + 1 ≤ w3.heap.size := by have := hgrow3.size; simpa using this
            have hlt2 := hI2.lt
            have hk3 : ∀ b, b < W2.heap.size → b ≠ B + 1 → w3.heap[b]? = W2.heap[b]? := fun b h1 h2 => (hgrow3.block b (by simp; omega) (by simp; omega)).trans (Below.heap_alloc _ _ _ h1)
            have hib3 : Boxed w3 (B + 2) 22 (.slice (some ⟨B + 1, 0, none⟩) js.length ks.length) := (hk3 _ (by omega) (by omega)).trans hI2.i_
            have hic3 := hib3.cell
            have hif3 := hib3.frozen
            have hI4 := hI2.push (x := 0) hgrow3 hown3
            have hA3 : Apart B (B + 4) W0 w3 := (hA2.alloc _).grown hgrow3 (fun j e => by cases e; exact .inl (by omega))
            have hA4 := hA3.setCell (b := B + 2) (by omega) 0 (.slice (some ⟨B + 1, 0, none⟩) (js.length + 1) ks.length)
            have hX4 : Blk (w3.setCell ⟨B + 2, 0, none⟩ (.slice (some ⟨B + 1, 0, none⟩) (js.length + 1) ks.length)) pb 72 [.int .i64 n, v, .int .i64 e, u, .int .i64 m, y, .int .i64 d, t] := by
              have hpl := HAW.out.pb_.lt
              have hpB := HPB.out
              exact (Below.heap_setCell _ _ _ _ (by simp; omega)).trans ((hk3 _ (by omega) (by omega)).trans hX2)
            obtain ⟨_, _, _, _, _, x4, _, _, _⟩ := Eight.mk' hX4
            clear hic hkc hown3 hgrow3 hk3 hI2 hA2 hX2 hA3 hlei
            go_wp2
            go_loopw [43] (fun i wr => ∃ (b x : Nat) (W9 : World), b ≤ m ∧ i = .int .i64 b ∧ J (pre ++ (List.range b).flatMap fun b => homF n zs e m ys d ks fit f (js ++ [b])) W9 ∧ Apart B (B + 4) W9 wr ∧ IB B l ks.length #[.pointer (some ⟨pb, 0, none⟩), .pointer (some ⟨kb, 0, none⟩), .pointer (some ⟨B + 2, 0, none⟩), .pointer (some ⟨fb, 0, none⟩), .pointer (some ⟨B, 0, none⟩), .pointer (some ⟨B + 3, 0, none⟩)] wr (js ++ [x])) (fun i _ => m - (intOf i).toNat)
            case atStart => exact ⟨0, 0, W0, Nat.zero_le _, rfl, by simpa using hJ0, hA4, hI4⟩
            case round =>
              obtain ⟨b, x, W9, hb, rfl, hJ9, hAp9, hI9⟩ := hrel
              clear hI4 hA4 hX4 x4 hic3 hif3 hib3
              have hll : ∀ z : Nat, (js ++ [z]).length = js.length + 1 := fun z => by simp
              have hi9 := hI9.i_
              have hr9 := hI9.r_
              rw [hll] at hi9 hr9
              have hic9 := hi9.cell
              have hif9 := hi9.frozen
              have hjs1 : js.length + 1 ≤ 60 := by omega
              have HLL := hide hll
              clear hll
              by_cases hbm : b < m
              · have hbi : (b : Int) < (m : Int) := by omega
                have hc9 : wr.cell? ⟨B + 1, js.length, none⟩ = some (.int .i64 (x : Int)) := by
                  rw [hr9.cellAt js.length (by omega)]
                  simp [li]
                have hf9 := hr9.frozenAt js.length
                have hI10 := hI9.put b
                have hgc := hI10.g_.cell
                obtain ⟨post', hpost⟩ := range_split hbm (fun b => homF n zs e m ys d ks fit f (js ++ [b]))
                have HCALL := hide (HIH.out (js ++ [b]) (pre ++ (List.range b).flatMap fun b => homF n zs e m ys d ks fit f (js ++ [b])) (post' ++ post) W9 _ (by have := HLL.out b; omega) (by have := HLL.out b; omega) (fun j hj => by
                  rcases List.mem_append.1 hj with h | h
                  · exact HJM.out j h
                  · simp at h; omega) (by rw [← hful, HHF.out, hpost]; simp) hJ9 (hAp9.setCell (b := B + 1) (by omega) js.length (.int .i64 (b : Int))) hI10)
                have hji9 : (js.length : Int) < ((js.length + 1 : Nat) : Int) := by omega
                clear hpost hI10
                go_wp2_with fail
                refine HCALL.out.mono ?_
                rintro e5 W5 (⟨rfl, W10, hJ10, hAp10, hI11⟩ | ⟨rfl, W10, hJx, hAp10⟩)
                · go_wp2
                  go_roundw
                  case rel => exact ⟨b + 1, b, W10, by omega, by go_num, by rw [List.range_succ, List.flatMap_append, ← List.append_assoc]; simpa using hJ10, hAp10, hI11⟩
                  case measure => simp [intOf]; omega
                · go_wp2
                  go_ret
                  exact .inr ⟨rfl, W10, hJx, hAp10⟩
              · have hbi : ¬ (b : Int) < (m : Int) := by omega
                have hbe : b = m := by omega
                rw [hbe, ← HHF.out] at hJ9
                have hI12 := hI9.pop
                have hA12 := hAp9.setCell (b := B + 2) (by omega) 0 (.slice (some ⟨B + 1, 0, none⟩) js.length ks.length)
                clear hbe hI9 hr9 hi9 hAp9
                go_wp2
                go_ret
                exact .inl ⟨rfl, W9, hJ9, hA12, hI12⟩)
end Go.Proofs.YtgdpgbldjpeopaaGreatDoor

namespace Go.Proofs.YtgdpgbldjpeopaaGreatDoor
open Go Go.RowKit

/-- 'make([]T, 0, n)': a row of n, of which nothing is used yet; what it makes is one block. -/
theorem wpList_make_zero {P : Program} (w : World) {ops : Array Oper} {rest : List Oper} {o : Oper} {a : Act} {Q : Exit → Act → World → Prop}
    (hg : o.guard = none) (l c : Operand) (t : TypeId) (hop : o.op = Op.makeSlice t l c)
    (e : TypeId) (i : TypeInfo) (z : Value) (ht : P.underlying t = some (.slice e)) (hi : P.info? e = some i) (hz : i.zero = some z) (hsize : i.size = 1)
    (kl kc : IntKind) (n : Nat) (hl : a.eval l = .int kl 0) (hc : a.eval c = .int kc (n : Int)) (hbytes : i.bytes * n ≤ 281474976710656) (h63 : n ≤ maxLen)
    (hK : ∀ w', Below w.heap.size w w' → w'.ownsRow w.heap.size e 1 (.slice (some ⟨w.heap.size, 0, none⟩) 0 n) 0 [] → w'.heap.size = w.heap.size + 1 → wpList P ops Q rest (a.put o.dst (.slice (some ⟨w.heap.size, 0, none⟩) 0 n)) w') :
    wpList P ops Q (o :: rest) a w := by
  refine wpList_plain hg fun K hK' => ?_
  have hb' : (i.bytes : Int) * (n : Int) ≤ 281474976710656 := by
    have h : ((i.bytes * n : Nat) : Int) ≤ 281474976710656 := by omega
    rwa [Int.natCast_mul] at h
  have h63' : (n : Int) ≤ 9223372036854775807 := by
    have h := h63
    simp [maxLen] at h
    omega
  have hrun := run_make (P := P) w t e i z ht hi hz kl kc 0 n (Int.le_refl _) (by omega) hb' h63'
  simp only [Int.toNat_natCast, Int.toNat_zero] at hrun
  unfold Oper.wp
  simp [execOp, hop, hl, hc, hrun, Result.andThen]
  refine hK' _ _ (hK _ (balloc w _) (World.ownsRow_made w _ n (Nat.le_refl _) h63 ?_) (by simp))
  rw [size_madeCells, hsize]
set_option maxRecDepth 100000 in
set_option maxHeartbeats 8000000 in
theorem allit_ok {n e m d : Nat} {v u y t : Value} {zs ys : List Int} {ks : List Nat} {k1 : Option Addr} {k3 f0 : Nat} {fc : Array Value} {kb pb fb A l : Nat} {w0 W : World} {fit : List Int → Bool} {J : List (List Int) → World → Prop} {Jx : World → Prop}
    (hg : IsGrp n zs e) (hh : IsGrp m ys d) (hv : Sl w0 v zs) (hy : Sl w0 y ys) (hk : Sl w0 (.slice k1 ks.length k3) (li ks)) (hkn : ∀ k, k ∈ ks → k < n) (hks : ks.length ≤ n)
    (hA : Alls A w0 [.int .i64 n, v, .int .i64 e, u, .int .i64 m, y, .int .i64 d, t] (.slice k1 ks.length k3) (.func (.func f0) #[] fc) kb pb fb)
    (hcall : ∀ a W, Sem.run Tryz.prog (callFunc f0 (#[a] ++ fc)) W = .ok (.enter f0 (#[a] ++ fc)) W)
    (hfit : ∀ W g ms, Below w0.heap.size w0 W → Blk W g 3 (ms.map (Value.int .i64)) → ms.length = n → Calls Tryz.prog f0 (#[.slice (some ⟨g, 0, none⟩) n n] ++ fc) W fun x W' => x = .returned (.bool (fit ms)) ∧ Below W.heap.size W W')
    (hJ : ∀ pre W, J pre W → Below w0.heap.size w0 W) (h0 : J [] W)
    (hY : ∀ pre c post W0 W1 g, pre ++ c :: post = homF n zs e m ys d ks fit (ks.length + 1) [] → J pre W0 → Apart W.heap.size (W.heap.size + 4) W0 W1 → W0.heap.size ≤ g → W.heap.size + 4 ≤ g → Blk W1 g 3 (c.map (Value.int .i64)) → c.length = n →
      YieldAt Fence.wide 0 Tryz.prog l #[.slice (some ⟨g, 0, none⟩) n n] W1 (YPost (J (pre ++ [c])) Jx (fun b => b < w0.heap.size ∨ (W.heap.size ≤ b ∧ b < W.heap.size + 4)) W1)) :
    Calls Tryz.prog 88 #[.func (.yield l) #[] #[], .pointer (some ⟨kb, 0, none⟩), .pointer (some ⟨pb, 0, none⟩), .pointer (some ⟨fb, 0, none⟩)] W fun x W' => (∃ v, x = .returned v) ∧ ∃ W0, (J (homF n zs e m ys d ks fit (ks.length + 1) []) W0 ∨ Jx W0) ∧ Apart W.heap.size (W.heap.size + 4) W0 W' := by
  obtain ⟨i0, hi3, hz0, hz1, hz2⟩ := info_parts info3b
  have hn60 := hg.tab.le
  have hBW := hJ _ _ h0
  have hBs := hBW.size
  obtain ⟨W1, hW1⟩ : ∃ W1, W1 = W.alloc (.cells #[.func (.yield l) #[] #[]] 104) := ⟨_, rfl⟩
  have hs1 : W1.heap.size = W.heap.size + 1 := by rw [hW1]; simp
  have hB1 : Below W.heap.size W W1 := by rw [hW1]; exact balloc W _
  have hy1 : Boxed W1 W.heap.size 104 (.func (.yield l) #[] #[]) := by rw [hW1]; exact Boxed.new W 104 _
  have hkc := ((hA.below hBW).below hB1).kb_.cell
  rw [hW1] at hkc
  have HA := hide hA
  have HGO := hide (goon_ok (l := l) (B := W.heap.size) hg hh hv hy hk hkn hks hA hcall hfit hJ hBs hY)
  have hks60 : ks.length ≤ 60 := by omega
  clear hY hfit hJ hA hk hkn hg hh
  go_enter Tryz.func88, Tryz.ntmps88
  go_wp2_with (first
    | (at_make; refine wpList_make_zero _ rfl _ _ 22 rfl 3 i0 (.int .i64 0) under22b hi3 hz0 hz1 _ _ ks.length rfl rfl (by rw [hz2]; omega) (by unfold maxLen; omega) ?_))
  intro w2 hb2 hown hs2
  rw [← hW1] at hb2
  have hb2 : Below W1.heap.size W1 w2 := by rw [hs1]; exact hb2
  obtain ⟨w3, hw3⟩ : ∃ w3, w3 = (w2.alloc (.cells #[.slice (some ⟨W.heap.size + 1, 0, none⟩) 0 ks.length] 22)).alloc (.cells #[.func (.func 89) #[] #[.pointer (some ⟨pb, 0, none⟩), .pointer (some ⟨kb, 0, none⟩), .pointer (some ⟨W.heap.size + 2, 0, none⟩), .pointer (some ⟨fb, 0, none⟩), .pointer (some ⟨W.heap.size, 0, none⟩), .pointer (some ⟨W.heap.size + 3, 0, none⟩)]] 26) := ⟨_, rfl⟩
  have hs2 : w2.heap.size = W.heap.size + 2 := by rw [hs2]
  have hb3 : Below w2.heap.size w2 w3 := by rw [hw3]; exact (balloc w2 _).alloc (by simp) _
  have hi3 : Boxed w3 (W.heap.size + 2) 22 (.slice (some ⟨W.heap.size + 1, 0, none⟩) 0 ks.length) := by
    rw [hw3, ← hs2]; exact (Boxed.new w2 22 _).alloc _
  have hg3 : Boxed w3 (W.heap.size + 3) 26 (.func (.func 89) #[] #[.pointer (some ⟨pb, 0, none⟩), .pointer (some ⟨kb, 0, none⟩), .pointer (some ⟨W.heap.size + 2, 0, none⟩), .pointer (some ⟨fb, 0, none⟩), .pointer (some ⟨W.heap.size, 0, none⟩), .pointer (some ⟨W.heap.size + 3, 0, none⟩)]) := by
    have := Boxed.new (w2.alloc (.cells #[.slice (some ⟨W.heap.size + 1, 0, none⟩) 0 ks.length] 22)) 26 (.func (.func 89) #[] #[.pointer (some ⟨pb, 0, none⟩), .pointer (some ⟨kb, 0, none⟩), .pointer (some ⟨W.heap.size + 2, 0, none⟩), .pointer (some ⟨fb, 0, none⟩), .pointer (some ⟨W.heap.size, 0, none⟩), .pointer (some ⟨W.heap.size + 3, 0, none⟩)])
    rw [World.size_alloc, hs2] at this
    rw [hw3]; exact this
  have hB3 : Below W.heap.size W w3 := bcat2 (bcat2 hB1 hb2) hb3
  have hI3 : IB W.heap.size l ks.length #[.pointer (some ⟨pb, 0, none⟩), .pointer (some ⟨kb, 0, none⟩), .pointer (some ⟨W.heap.size + 2, 0, none⟩), .pointer (some ⟨fb, 0, none⟩), .pointer (some ⟨W.heap.size, 0, none⟩), .pointer (some ⟨W.heap.size + 3, 0, none⟩)] w3 [] :=
    ⟨Boxed.below (Boxed.below hy1 hb2) hb3, own_at hown (hb3.block _ (by omega)), hi3, hg3⟩
  have HC := hide (HGO.out (ks.length + 1) [] [] [] W w3 (by simp) (by simp) (by simp) (by simp) h0 (Apart.of_below hB3) hI3)
  have hgc := hg3.cell
  rw [hw3] at hgc
  clear hkc hi3 hg3 hI3 hown
  rw [hs2] at *
  go_wp2_with fail
  rw [← hw3]
  refine HC.out.mono ?_
  rintro e5 W5 (⟨rfl, W10, hJ10, hAp10, hI11⟩ | ⟨rfl, W10, hJx, hAp10⟩)
  · go_wp2
    go_end0
    exact ⟨⟨_, rfl⟩, W10, .inl (by simpa using hJ10), hAp10⟩
  · go_wp2
    go_end0
    exact ⟨⟨_, rfl⟩, W10, .inr hJx, hAp10⟩
end Go.Proofs.YtgdpgbldjpeopaaGreatDoor

namespace Go.Proofs.YtgdpgbldjpeopaaGreatDoor
open Go Go.RowKit

attribute [local go_sem] Oper.semAt_some

structure LP (w : World) (ls : List (List Int)) (x : Ending) (w' : World) : Prop where
  ok : ls.length ≤ 1000 → ∃ r vs, x = .returned (.tuple #[r, .agg #[.int .i64 0, .int .i64 0]]) ∧ w'.ownsRow w.heap.size 22 1 r vs.length vs ∧ Lsts w' w.heap.size r vs ls
  much : 1000 < ls.length → x = .returned (.tuple #[.slice none 0 0, .agg #[.int .i64 9, .int .i64 0]])
  bel : Below w.heap.size w w'
/-- Between two rounds. -/
structure LJ (w : World) (B lr D : Nat) (ob : Obj) (pre : List (List Int)) (W : World) : Prop where
  ex : ∃ r vs, pre.length ≤ 1000 ∧ Boxed W (w.heap.size + 2) 25 r ∧ W.ownsRow (B + 4) 22 1 r vs.length vs ∧ Lsts W (B + 4) r vs pre
  bel : Below w.heap.size w W
  l_ : W.heap[lr]? = some ob
  d_ : W.heap[D]? = some (.deferred (some []))
  r_ : Boxed W w.heap.size 25 (.slice none 0 0)
  f_ : Blk W (w.heap.size + 1) 28 [.int .i64 0, .int .i64 0]
/-- Where the loop was left: too many. -/
structure LX (w : World) (lr D : Nat) (ob : Obj) (full : List (List Int)) (W : World) : Prop where
  gt : 1000 < full.length
  bel : Below w.heap.size w W
  l_ : W.heap[lr]? = some ob
  d_ : W.heap[D]? = some (.deferred (some []))
  r_ : Boxed W w.heap.size 25 (.slice none 0 0)
  f_ : Blk W (w.heap.size + 1) 28 [.int .i64 9, .int .i64 0]
theorem results_two {fn : Func} {p q : Tmp} (h : fn.results = #[.cell p 25, .cell q 28]) (tmps : Array Value) (w : World) (g k : Nat) (r x y : Value) (hp : tmps.getD p undef = .pointer (some ⟨g, 0, none⟩)) (hq : tmps.getD q undef = .pointer (some ⟨k, 0, none⟩)) (h1 : Boxed w g 25 r) (h2 : Blk w k 28 [x, y]) :
    (results fn tmps).run Tryz.prog w = .ok (.tuple #[r, .agg #[x, y]]) w := by
  have hp' : tmps[p]?.getD undef = .pointer (some ⟨g, 0, none⟩) := by simpa using hp
  have hq' : tmps[q]?.getD undef = .pointer (some ⟨k, 0, none⟩) := by simpa using hq
  have hc := h1.cell
  obtain ⟨d0, d1, _, _⟩ := h2.two
  simp only [results, h]
  go_simp
end Go.Proofs.YtgdpgbldjpeopaaGreatDoor

namespace Go.Proofs.YtgdpgbldjpeopaaGreatDoor
open Go Go.RowKit

/-- The automorphisms that Autos lists. -/
def autL (n : Nat) (zs : List Int) (e : Nat) (ks : List Nat) : List (List Int) := homF n zs e n zs e ks (fun ms => sngq n e ms e) (ks.length + 1) []
theorem call113 (a x y : Value) (W : World) : Sem.run Tryz.prog (callFunc 71 (#[a] ++ #[x, y])) W = .ok (.enter 71 (#[a] ++ #[x, y])) W := by kernel_rfl
end Go.Proofs.YtgdpgbldjpeopaaGreatDoor
