/- PermReckons returns true at every two lists that fit the machine and every int. -/
import Derived.Test.YtpcfljkniodlbaaDoorAs
import Derived.Test.YtpcfljkniodlbaaDoorPow
import Derived.Test.YtpcfljkniodlbaaDoorBegun
import Derived.Deep.RegionHeld3
namespace Go.Proofs.YtpcfljkniodlbaaDoor
open Go Go.RowKit Go.Shelf

theorem bcat2 {a b c : World} (h : Below a.heap.size a b) (k : Below b.heap.size b c) : Below a.heap.size a c := h.trans (k.mono h.size)
theorem below_cell {a b : World} (h : Below a.heap.size a b) {p : Addr} {v : Value} (hc : a.cell? p = some v) : b.cell? p = some v := by
  have hl := World.block_lt_of_cell? a p hc
  rw [← hc]; simp [World.cell?, h.block _ hl]

set_option maxRecDepth 100000 in
set_option maxHeartbeats 4000000 in
theorem reckons_any (u v : Value) (n : Int) (xs ys : List Int) (w : World) (hu : Sl w u xs) (hv : Sl w v ys) (hbx : xs.length * 8 ≤ 140737488355328) (hby : ys.length * 8 ≤ 140737488355328)
    (hn1 : -9223372036854775808 ≤ n) (hn2 : n ≤ 9223372036854775807) (htab : Tab w.heap.size w) :
    Calls Tryd.prog 3 #[u, v, .int .i64 n] w fun e w' => e = .returned (.bool true) ∧ Below w.heap.size w w' := by
  obtain ⟨c, i, hci⟩ : ∃ c i, fault xs = (c, i) := ⟨_, _, rfl⟩
  obtain ⟨d, j, hdj⟩ : ∃ d j, twof xs ys = (d, j) := ⟨_, _, rfl⟩
  have Hck := hide (fun (r : Value) (W : World) (h : Sl W r xs) => check_sl r xs W h)
  have Hmul := hide (fun (r s : Value) (W : World) (h : Sl W r xs) (k : Sl W s ys) => mul_any r s xs ys W h k)
  have Hinv := hide (fun (r : Value) (W : World) (h : Sl W r xs) => inv_any r xs W h)
  have Hpow := hide (fun (r : Value) (W : World) (h : Sl W r xs) => pow_any r xs n W h)
  have Hpf := hide (fun (r : Value) (W : World) (h : Sl W r xs) => permFault_any r xs W h)
  have Htf := hide (fun (r s : Value) (W : World) (h : Sl W r xs) (k : Sl W s ys) => twoFault_any r s xs ys W h k)
  rw [hci] at Hck Hinv Hpow Hpf
  rw [hdj] at Hmul Htf
  have HCI := hide hci
  have HDJ := hide hdj
  clear hci hdj
  obtain ⟨w0, hw0⟩ : ∃ w0, w0 = ((w.alloc (.cells #[u] 22)).alloc (.cells #[v] 22)).alloc (.cells #[.int .i64 n] 3) := ⟨_, rfl⟩
  have hB0 : Below w.heap.size w w0 := by rw [hw0]; exact ((balloc w _).alloc (by simp) _).alloc (by simp; omega) _
  have hb0 : Boxed w0 w.heap.size 22 u := by rw [hw0]; exact ((Boxed.new w 22 u).alloc _).alloc _
  have hb1 : Boxed w0 (w.heap.size + 1) 22 v := by
    rw [hw0]
    have := Boxed.new (w.alloc (.cells #[u] 22)) 22 v
    rw [World.size_alloc] at this; exact this.alloc _
  have hb2 : Boxed w0 (w.heap.size + 1 + 1) 3 (.int .i64 n) := by
    rw [hw0]
    have := Boxed.new ((w.alloc (.cells #[u] 22)).alloc (.cells #[v] 22)) 3 (.int .i64 n)
    rw [World.size_alloc, World.size_alloc] at this; exact this
  have hu0 := hu.below hB0
  have hv0 := hv.below hB0
  obtain ⟨a, cap, pb, po, rfl, hr, hp, hq3, hq4⟩ := id hu
  obtain ⟨a', cap', pb', po', rfl, hr', hp', hq3', hq4'⟩ := id hv
  go_enter Tryd.func3, Tryd.ntmps3
  go_wp2_with fail
  rw [← hw0]
  clear hw0
  have hS : ∀ W, Below w0.heap.size w0 W → (Below w0.heap.size w0 W ∧ W.cell? ⟨w.heap.size, 0, none⟩ = some (.slice a xs.length cap) ∧ W.cell? ⟨w.heap.size + 1, 0, none⟩ = some (.slice a' ys.length cap')) :=
    fun W h => ⟨h, below_cell h hb0.cell, below_cell h hb1.cell⟩
  have hS0 := hS _ (bdrew (Below.refl _ w0))
  go_region_held3 (fun W => Below w0.heap.size w0 W ∧ W.cell? ⟨w.heap.size, 0, none⟩ = some (.slice a xs.length cap) ∧ W.cell? ⟨w.heap.size + 1, 0, none⟩ = some (.slice a' ys.length cap'))
    (first | exact hS0 | exact hS _ (bcat2 (And.left ‹_›) hl1))
    (first
      | (go_at_call 12; refine (own_any (.slice a xs.length cap) xs _ (hu0.below (And.left ‹_›)) hbx).mono ?_; rintro e W1 ⟨r1, rfl, hs1, hl1⟩)
      | (go_at_call 12; refine (own_any (.slice a' ys.length cap') ys _ (hv0.below (And.left ‹_›)) hby).mono ?_; rintro e W2 ⟨r2, rfl, hs2, hl1⟩))
  obtain ⟨hBW, _, _⟩ := ‹Below w0.heap.size w0 W2 ∧ _›
  have hs1 := hs1.below hl1
  clear hS hS0 hl1
  go_wp2_with fail
  refine (Hck.out _ _ hs1).mono ?_
  rintro e w3 ⟨rfl, b3⟩
  have al3 := bcat2 b3 (balloc w3 (.cells #[.int .i64 c, .int .i64 i] 25))
  have N9 : Blk (w3.alloc (.cells #[.int .i64 c, .int .i64 i] 25)) w3.heap.size 25 [.int .i64 c, .int .i64 i] := blk0 _ _
  go_wp2_with fail
  refine (Hmul.out _ _ _ (hs1.below al3) (hs2.below al3)).mono ?_
  rintro e w4 ⟨r10, rfl, hm4, b4⟩
  have al4 := bcat2 b4 (balloc w4 (.cells #[.int .i64 d, .int .i64 j] 25))
  have to4 := bcat2 al3 al4
  have N11 : Blk (w4.alloc (.cells #[.int .i64 d, .int .i64 j] 25)) w4.heap.size 25 [.int .i64 d, .int .i64 j] := blk0 _ _
  go_wp2_with fail
  refine (Hinv.out _ _ (hs1.below to4)).mono ?_
  rintro e w5 ⟨r12, rfl, hi5, b5⟩
  have al5 := bcat2 b5 (balloc w5 (.cells #[.int .i64 c, .int .i64 i] 25))
  have to5 := bcat2 to4 al5
  have N13 : Blk (w5.alloc (.cells #[.int .i64 c, .int .i64 i] 25)) w5.heap.size 25 [.int .i64 c, .int .i64 i] := blk0 _ _
  have hcn := below_cell (bcat2 hBW to5) hb2.cell
  go_wp2_with fail
  refine (Hpow.out _ _ (hs1.below to5)).mono ?_
  rintro e w6 ⟨r14, rfl, hp6, b6⟩
  have al6 := bcat2 b6 (balloc w6 (.cells #[.int .i64 c, .int .i64 i] 25))
  have to6 := bcat2 to5 al6
  have N15 : Blk (w6.alloc (.cells #[.int .i64 c, .int .i64 i] 25)) w6.heap.size 25 [.int .i64 c, .int .i64 i] := blk0 _ _
  have N9' := N9.of_eq ((bcat2 (bcat2 al4 al5) al6).block _ N9.lt)
  have N11' := N11.of_eq ((bcat2 al5 al6).block _ N11.lt)
  have N13' := N13.of_eq (al6.block _ N13.lt)
  have hs1' := hs1.below to6
  have hs2' := hs2.below to6
  have hm' := (hm4.below (balloc w4 (.cells #[.int .i64 d, .int .i64 j] 25))).below (bcat2 al5 al6)
  have hi' := (hi5.below (balloc w5 (.cells #[.int .i64 c, .int .i64 i] 25))).below al6
  have hp' := hp6.below (balloc w6 (.cells #[.int .i64 c, .int .i64 i] 25))
  have hB7 := bcat2 hBW to6
  have hb0' := Boxed.below hb0 hB7
  have hb1' := Boxed.below hb1 hB7
  have hb2' := Boxed.below hb2 hB7
  have hu' := hu0.below hB7
  have hv' := hv0.below hB7
  have hB' := bcat hB0 hB7 hB0.size
  have htab' := htab.below hB'
  obtain ⟨w7, hw7⟩ : ∃ w7, w7 = w6.alloc (.cells #[.int .i64 c, .int .i64 i] 25) := ⟨_, rfl⟩
  rw [← hw7] at N15 N9' N11' N13' hs1' hs2' hm' hi' hp' hb0' hb1' hb2' hu' hv' hB' htab'
  clear hcn hB7 to6 al6 b6 to5 al5 b5 to4 al4 b4 al3 b3 N9 N11 N13 hs1 hs2 hm4 hi5 hp6 hb0 hb1 hb2 hu0 hv0 hBW hB0
  go_wp2_with fail
  rw [← hw7]
  clear hw7
  obtain ⟨n90, n91, _, _⟩ := N9'.two
  have hS : ∀ W, Below w7.heap.size w7 W → (Below w7.heap.size w7 W ∧ W.cell? ⟨w.heap.size, 0, none⟩ = some (.slice a xs.length cap) ∧ W.cell? ⟨w.heap.size + 1, 0, none⟩ = some (.slice a' ys.length cap') ∧ W.cell? ⟨w3.heap.size, 0, none⟩ = some (.int .i64 c) ∧ W.cell? ⟨w3.heap.size, 1, none⟩ = some (.int .i64 i)) :=
    fun W h => ⟨h, below_cell h hb0'.cell, below_cell h hb1'.cell, below_cell h n90, below_cell h n91⟩
  have hS0 := hS _ (bdrew (Below.refl _ w7))
  have hTB : ∀ W, Below w7.heap.size w7 W → Calls Tryd.prog 17 #[] W fun e w' => e = .returned (.bool true) ∧ Below W.heap.size W w' := fun W h => begun_any W ((htab'.below (h.mono hB'.size)).mono (Nat.le_trans hB'.size h.size))
  have HTB := hide hTB
  clear hTB
  go_region_held3 (fun W => Below w7.heap.size w7 W ∧ W.cell? ⟨w.heap.size, 0, none⟩ = some (.slice a xs.length cap) ∧ W.cell? ⟨w.heap.size + 1, 0, none⟩ = some (.slice a' ys.length cap') ∧ W.cell? ⟨w3.heap.size, 0, none⟩ = some (.int .i64 c) ∧ W.cell? ⟨w3.heap.size, 1, none⟩ = some (.int .i64 i))
    (first | exact hS0 | exact hS _ (bcat2 (And.left ‹_›) hl1))
    (first
      | (go_at_call 17; refine (HTB.out _ (And.left ‹_›)).mono ?_; rintro e V1 ⟨rfl, hl1⟩)
      | (go_at_call_of 18 r1; refine (ints_any r1 (.slice a xs.length cap) xs xs _ (hs1'.below (And.left ‹_›)) (hu'.below (And.left ‹_›))).mono ?_; rintro e V2 ⟨rfl, hl1⟩; rw [decide_eq_true (rfl : xs = xs)])
      | (go_at_call_of 18 r2; refine (ints_any r2 (.slice a' ys.length cap') ys ys _ (hs2'.below (And.left ‹_›)) (hv'.below (And.left ‹_›))).mono ?_; rintro e V3 ⟨rfl, hl1⟩; rw [decide_eq_true (rfl : ys = ys)])
      | (go_at_call 19; refine (Hpf.out _ _ (hu'.below (And.left ‹_›))).mono ?_; rintro e V4 ⟨rfl, hl1⟩))
  obtain ⟨hV, _⟩ := ‹Below w7.heap.size w7 V4 ∧ _›
  clear hS hS0 hl1 HTB Hck Hmul Hinv Hpow Hpf
  have hC1 : ∀ W, Below w7.heap.size w7 W → d = 0 → Calls Tryd.prog 22 #[.pointer (some ⟨w.heap.size, 0, none⟩), .pointer (some ⟨w.heap.size + 1, 0, none⟩)] W fun e w' => ∃ r, e = .returned r ∧ Sl w' r (mulL xs ys) ∧ Below W.heap.size W w' := fun W h h0 => by
    obtain ⟨px, py, lxy, l1000⟩ := twof_zero (xs := xs) (ys := ys) (by rw [HDJ.out]; exact h0)
    exact thenBox_ok _ _ _ _ xs ys W (Boxed.below hb0' h) (Boxed.below hb1' h) (hu'.below h) (hv'.below h) px lxy l1000
  have hC2 : ∀ W, Below w7.heap.size w7 W → c = 0 → Calls Tryd.prog 24 #[.pointer (some ⟨w.heap.size, 0, none⟩)] W fun e w' => ∃ r, e = .returned r ∧ Sl w' r (invL xs) ∧ Below W.heap.size W w' := fun W h h0 => by
    obtain ⟨px, l1000⟩ := fault_perm (zs := xs) (by rw [HCI.out]; exact h0)
    exact inverseBox_ok _ _ xs W (Boxed.below hb0' h) (hu'.below h) px l1000
  have hC3 : ∀ W, Below w7.heap.size w7 W → c = 0 → Calls Tryd.prog 26 #[.pointer (some ⟨w.heap.size, 0, none⟩), .pointer (some ⟨w.heap.size + 1 + 1, 0, none⟩)] W fun e w' => ∃ r, e = .returned r ∧ Sl w' r (powZ xs n) ∧ Below W.heap.size W w' := fun W h h0 => by
    obtain ⟨px, l1000⟩ := fault_perm (zs := xs) (by rw [HCI.out]; exact h0)
    exact powerBox_ok _ _ _ n xs W (Boxed.below hb0' h) (Boxed.below hb2' h) (hu'.below h) px l1000 hn1 hn2
  have HC1 := hide hC1
  have HC2 := hide hC2
  have HC3 := hide hC3
  obtain ⟨n110, n111, _, _⟩ := N11'.two
  obtain ⟨n130, n131, _, _⟩ := N13'.two
  obtain ⟨n150, n151, _, _⟩ := N15.two
  have hS : ∀ W, Below w7.heap.size w7 W → (Below w7.heap.size w7 W ∧ W.cell? ⟨w.heap.size, 0, none⟩ = some (.slice a xs.length cap) ∧ W.cell? ⟨w.heap.size + 1, 0, none⟩ = some (.slice a' ys.length cap') ∧ W.cell? ⟨w3.heap.size, 0, none⟩ = some (.int .i64 c) ∧ W.cell? ⟨w3.heap.size, 1, none⟩ = some (.int .i64 i)
      ∧ W.cell? ⟨w4.heap.size, 0, none⟩ = some (.int .i64 d) ∧ W.cell? ⟨w4.heap.size, 1, none⟩ = some (.int .i64 j) ∧ W.cell? ⟨w5.heap.size, 0, none⟩ = some (.int .i64 c) ∧ W.cell? ⟨w5.heap.size, 1, none⟩ = some (.int .i64 i) ∧ W.cell? ⟨w6.heap.size, 0, none⟩ = some (.int .i64 c) ∧ W.cell? ⟨w6.heap.size, 1, none⟩ = some (.int .i64 i)) :=
    fun W h => ⟨h, below_cell h hb0'.cell, below_cell h hb1'.cell, below_cell h n90, below_cell h n91, below_cell h n110, below_cell h n111, below_cell h n130, below_cell h n131, below_cell h n150, below_cell h n151⟩
  have hS0 := hS _ (bdrew hV)
  clear hC1 hC2 hC3 n90 n91 n110 n111 n130 n131 n150 n151
  go_wp2_with fail
  go_region_held3 (fun W => Below w7.heap.size w7 W ∧ W.cell? ⟨w.heap.size, 0, none⟩ = some (.slice a xs.length cap) ∧ W.cell? ⟨w.heap.size + 1, 0, none⟩ = some (.slice a' ys.length cap') ∧ W.cell? ⟨w3.heap.size, 0, none⟩ = some (.int .i64 c) ∧ W.cell? ⟨w3.heap.size, 1, none⟩ = some (.int .i64 i)
      ∧ W.cell? ⟨w4.heap.size, 0, none⟩ = some (.int .i64 d) ∧ W.cell? ⟨w4.heap.size, 1, none⟩ = some (.int .i64 j) ∧ W.cell? ⟨w5.heap.size, 0, none⟩ = some (.int .i64 c) ∧ W.cell? ⟨w5.heap.size, 1, none⟩ = some (.int .i64 i) ∧ W.cell? ⟨w6.heap.size, 0, none⟩ = some (.int .i64 c) ∧ W.cell? ⟨w6.heap.size, 1, none⟩ = some (.int .i64 i))
    (first | exact hS0 | assumption | exact hS _ (bcat2 (And.left ‹_›) hl1))
    (first
      | (go_at_call 21; refine (Htf.out _ _ _ (hu'.below (And.left ‹_›)) (hv'.below (And.left ‹_›))).mono ?_; rintro e U1 ⟨rfl, hl1⟩)
      | (go_at_call_of 20 r10; refine (listAs_any r10 d j 22 _ (mulL xs ys) _ (hm'.below (And.left ‹_›)) (call22 _) (fun W hb h0 => HC1.out W (bcat2 (And.left ‹_›) hb) h0)).mono ?_; rintro e U2 ⟨rfl, hl1⟩)
      | (go_at_call_of 20 r12; refine (listAs_any r12 c i 24 _ (invL xs) _ (hi'.below (And.left ‹_›)) (call24 _) (fun W hb h0 => HC2.out W (bcat2 (And.left ‹_›) hb) h0)).mono ?_; rintro e U3 ⟨rfl, hl1⟩)
      | (go_at_call_of 20 r14; refine (listAs_any r14 c i 26 _ (powZ xs n) _ (hp'.below (And.left ‹_›)) (call26 _) (fun W hb h0 => HC3.out W (bcat2 (And.left ‹_›) hb) h0)).mono ?_; rintro e U4 ⟨rfl, hl1⟩))
  all_goals (
    obtain ⟨hU, _⟩ := ‹Below w7.heap.size w7 U4 ∧ _›
    have hBU := bcat hB' hU hB'.size
    go_wp2
    go_ret
    exact ⟨rfl, hBU⟩)
end Go.Proofs.YtpcfljkniodlbaaDoor
