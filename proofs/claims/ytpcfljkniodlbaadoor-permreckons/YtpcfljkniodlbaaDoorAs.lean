/- What listAs tells of an answer, and what the law's closures answer. -/
import Derived.Test.YtpcfljkniodlbaaDoorOwn
import Derived.Test.YtpcfljkniodlbaaDoorThen
import Derived.Test.YtpcfljkniodlbaaDoorPower
namespace Go.Proofs.YtpcfljkniodlbaaDoor
open Go Go.RowKit Go.Shelf

set_option maxRecDepth 100000 in
set_option maxHeartbeats 2000000 in
theorem listAs_any (l : Value) (c i : Int) (k : Nat) (caps : Array Value) (xs : List Int) (w : World) (hl : Sl w l (okL c xs)) (hcall : ∀ W, Sem.run Tryd.prog (callFunc k caps) W = .ok (.enter k caps) W)
    (hcl : ∀ W, Below w.heap.size w W → c = 0 → Calls Tryd.prog k caps W fun e w' => ∃ r, e = .returned r ∧ Sl w' r xs ∧ Below W.heap.size W w') :
    Calls Tryd.prog 20 #[l, .agg #[.int .i64 c, .int .i64 i], .agg #[.int .i64 c, .int .i64 i], .func (.func k) #[] caps] w fun e w' => e = .returned (.bool true) ∧ Below w.heap.size w w' := by
  have hB0 : Below w.heap.size w ((w.alloc (.cells #[.int .i64 c, .int .i64 i] 25)).alloc (.cells #[.int .i64 c, .int .i64 i] 25)) := (balloc w _).alloc (by simp) _
  have hl0 := hl.below hB0
  have N1 : Blk ((w.alloc (.cells #[.int .i64 c, .int .i64 i] 25)).alloc (.cells #[.int .i64 c, .int .i64 i] 25)) w.heap.size 25 [.int .i64 c, .int .i64 i] := (blk0 _ _).alloc _
  have N2 : Blk ((w.alloc (.cells #[.int .i64 c, .int .i64 i] 25)).alloc (.cells #[.int .i64 c, .int .i64 i] 25)) (w.heap.size + 1) 25 [.int .i64 c, .int .i64 i] := by
    have : Blk ((w.alloc (.cells #[.int .i64 c, .int .i64 i] 25)).alloc (.cells #[.int .i64 c, .int .i64 i] 25)) (w.alloc (.cells #[.int .i64 c, .int .i64 i] 25)).heap.size 25 [.int .i64 c, .int .i64 i] := blk0 _ _
    rw [World.size_alloc] at this; exact this
  obtain ⟨hc0, hc1, hf0, hf1⟩ := N1.two
  obtain ⟨hd0, hd1, hg0, hg1⟩ := N2.two
  by_cases hc : c = 0
  · subst hc
    rw [okL_zero] at hl0
    have HCL := hide (hcl _ hB0 rfl)
    obtain ⟨a, cap, pb, po, rfl, hr, hp, hq3, hq4⟩ := id hl0
    go_enter Tryd.func20, Tryd.ntmps20
    go_wp2_with fail
    refine HCL.out.mono ?_
    rintro e w1 ⟨r, rfl, hr1, hb1⟩
    have hB1 := bcat hB0 hb1 (by simp; omega)
    have hl1 := hl0.below hb1
    go_wp2_with fail
    refine (ints_any _ _ xs xs _ hl1 hr1).mono ?_
    rintro e w2 ⟨rfl, hb2⟩
    rw [decide_eq_true (rfl : xs = xs)]
    have hB2 := bcat hB1 hb2 hB1.size
    go_wp2
    go_ret
    exact ⟨rfl, hB2⟩
  · have hbe : (c != 0) = true := by simpa using hc
    rw [show okL c xs = [] from if_neg hc] at hl0
    obtain ⟨a, cap, pb, po, rfl, hr, hp, hq3, hq4⟩ := id hl0
    go_enter Tryd.func20, Tryd.ntmps20
    go_wp2
    go_ret
    exact ⟨rfl, hB0⟩

/-- A variable that lies in a cell of its own. -/
theorem Boxed.below {W W' : World} {b : Nat} {t : TypeId} {v : Value} (h : Boxed W b t v) (hb : Below W.heap.size W W') : Boxed W' b t v := (hb.block _ h.lt).trans h

set_option maxRecDepth 100000 in
set_option maxHeartbeats 2000000 in
theorem thenBox_ok (b0 b1 : Nat) (u v : Value) (xs ys : List Int) (w : World) (h0 : Boxed w b0 22 u) (h1 : Boxed w b1 22 v) (hu : Sl w u xs) (hv : Sl w v ys) (hx : IsPerm xs) (hl : xs.length = ys.length) (h1000 : xs.length ≤ 1000) :
    Calls Tryd.prog 22 #[.pointer (some ⟨b0, 0, none⟩), .pointer (some ⟨b1, 0, none⟩)] w fun e w' => ∃ r, e = .returned r ∧ Sl w' r (mulL xs ys) ∧ Below w.heap.size w w' := by
  have hc0 := h0.cell
  have hc1 := h1.cell
  have hok := then_ok u v xs ys w hu hv hx hl h1000
  have hpos : 0 < w.heap.size := by obtain ⟨_, _, _, _, _, _, hp, _, _⟩ := id hu; omega
  have HOK := hide hok
  clear hok hl
  go_enter Tryd.func22, Tryd.ntmps22
  go_wp2_with fail
  refine HOK.out.mono ?_
  rintro e w1 ⟨r, rfl, hr1, hb1⟩
  go_wp2
  go_ret
  exact ⟨_, rfl, hr1.sl (by have := hb1.size; omega), hb1⟩

set_option maxRecDepth 100000 in
set_option maxHeartbeats 2000000 in
theorem inverseBox_ok (b0 : Nat) (u : Value) (xs : List Int) (w : World) (h0 : Boxed w b0 22 u) (hu : Sl w u xs) (hx : IsPerm xs) (h1000 : xs.length ≤ 1000) :
    Calls Tryd.prog 24 #[.pointer (some ⟨b0, 0, none⟩)] w fun e w' => ∃ r, e = .returned r ∧ Sl w' r (invL xs) ∧ Below w.heap.size w w' := by
  have hc0 := h0.cell
  have hok := inverse_ok u xs w hu hx h1000
  have hpos : 0 < w.heap.size := by obtain ⟨_, _, _, _, _, _, hp, _, _⟩ := id hu; omega
  have HOK := hide hok
  clear hok
  go_enter Tryd.func24, Tryd.ntmps24
  go_wp2_with fail
  refine HOK.out.mono ?_
  rintro e w1 ⟨r, rfl, hr1, hb1⟩
  go_wp2
  go_ret
  exact ⟨_, rfl, hr1.sl (by have := hb1.size; omega), hb1⟩

set_option maxRecDepth 100000 in
set_option maxHeartbeats 2000000 in
theorem powerBox_ok (b0 b1 : Nat) (u : Value) (n : Int) (xs : List Int) (w : World) (h0 : Boxed w b0 22 u) (h1 : Boxed w b1 3 (.int .i64 n)) (hu : Sl w u xs) (hx : IsPerm xs) (h1000 : xs.length ≤ 1000) (hn1 : -9223372036854775808 ≤ n) (hn2 : n ≤ 9223372036854775807) :
    Calls Tryd.prog 26 #[.pointer (some ⟨b0, 0, none⟩), .pointer (some ⟨b1, 0, none⟩)] w fun e w' => ∃ r, e = .returned r ∧ Sl w' r (powZ xs n) ∧ Below w.heap.size w w' := by
  have hc0 := h0.cell
  have hc1 := h1.cell
  have hok := power_ok u xs n w hu hx h1000 hn1 hn2
  have hpos : 0 < w.heap.size := by obtain ⟨_, _, _, _, _, _, hp, _, _⟩ := id hu; omega
  have HOK := hide hok
  clear hok
  go_enter Tryd.func26, Tryd.ntmps26
  go_wp2_with fail
  refine HOK.out.mono ?_
  rintro e w1 ⟨r, rfl, hr1, hb1⟩
  go_wp2
  go_ret
  exact ⟨_, rfl, hr1.sl (by have := hb1.size; omega), hb1⟩

theorem call22 (caps : Array Value) (W : World) : Sem.run Tryd.prog (callFunc 22 caps) W = .ok (.enter 22 caps) W := by kernel_rfl
theorem call24 (caps : Array Value) (W : World) : Sem.run Tryd.prog (callFunc 24 caps) W = .ok (.enter 24 caps) W := by kernel_rfl
theorem call26 (caps : Array Value) (W : World) : Sem.run Tryd.prog (callFunc 26 caps) W = .ok (.enter 26 caps) W := by kernel_rfl
end Go.Proofs.YtpcfljkniodlbaaDoor
