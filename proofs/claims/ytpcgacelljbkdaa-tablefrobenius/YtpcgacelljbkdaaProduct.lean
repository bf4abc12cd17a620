/- What Product of package table answers, at every two tables. -/
import Derived.Test.YtpcgacelljbkdaaPgrp
import Derived.Test.YtpcgacelljbkdaaTurn
namespace Go.Proofs.Ytpcgacelljbkdaa
open Go Go.RowKit

theorem ndiv {x y : Nat} : (x : Int).tdiv (y : Int) = ((x / y : Nat) : Int) := by rw [Int.tdiv_eq_ediv_of_nonneg (by omega), Int.natCast_ediv]

set_option maxRecDepth 100000 in
set_option maxHeartbeats 4000000 in
theorem pairs_ok (b1 b2 n m a b : Nat) (u v : Value) (zs ys : List Int) (w : World) (hn : IsTab n zs) (hm : IsTab m ys) (h60 : n * m ≤ 60) (hg : BoxG w b1 n u) (hh : BoxG w b2 m v) (hu : Sl w u zs) (hv : Sl w v ys) (ha : a < n * m) (hb : b < n * m) :
    Calls Try.prog 67 #[.int .i64 a, .int .i64 b, .pointer (some ⟨b1, 0, none⟩), .pointer (some ⟨b2, 0, none⟩)] w fun e w' => e = .returned (.int .i64 (prodF n m zs ys a b)) ∧ Below w.heap.size w w' := by
  obtain ⟨c0, c1, _, _⟩ := hg.two
  obtain ⟨d0, d1, _, _⟩ := hh.two
  obtain ⟨a1, a2, _⟩ := pair_parts ha
  obtain ⟨q1, q2, _⟩ := pair_parts hb
  have x1 := ndiv (x := a) (y := m)
  have x2 := ndiv (x := b) (y := m)
  have y1 := nmod (x := (a : Int)) (y := a) (m := m) rfl
  have y2 := nmod (x := (b : Int)) (y := b) (m := m) rfl
  have hmp := hm.pos
  have hm60 := hm.le
  have hn60 := hn.le
  have hm0 : ¬ ((m : Int) = 0) := by omega
  have hm1 : ¬ m = 0 := by omega
  have hm2 : ((m : Int) == 0) = false := by simp; omega
  unfold prodF
  have t1 := tm_lt hn a1 q1
  have t2 := tm_lt hm a2 q2
  have HN := hide hn
  have HM := hide hm
  have hpl := pair_lt t1 t2
  have hmul : (tm n zs (a / m) (b / m) : Int) * (m : Int) = ((tm n zs (a / m) (b / m) * m : Nat) : Int) := by rw [Int.natCast_mul]
  have HP1 := hide (fun W (h : Sl W u zs) => product_ok n u zs (a / m) (b / m) W hn h a1 q1)
  have HP2 := hide (fun W (h : Sl W v ys) => product_ok m v ys (a % m) (b % m) W hm h a2 q2)
  generalize tm n zs (a / m) (b / m) = r1 at *
  generalize tm m ys (a % m) (b % m) = r2 at *
  generalize r1 * m = r3 at *
  generalize a / m = e1 at *
  generalize b / m = e2 at *
  generalize a % m = e3 at *
  generalize b % m = e4 at *
  have hw1 : IntKind.i64.wrap (r3 : Int) = (r3 : Int) := by rw [IntKind.wrap_i64]; omega
  have hw2 : IntKind.i64.wrap ((r3 : Int) + (r2 : Int)) = (r3 : Int) + (r2 : Int) := by rw [IntKind.wrap_i64]; omega
  have v1 : IntKind.i64.wrap (e1 : Int) = (e1 : Int) := by rw [IntKind.wrap_i64]; omega
  have v2 : IntKind.i64.wrap (e2 : Int) = (e2 : Int) := by rw [IntKind.wrap_i64]; omega
  have hS : ∀ W, Below w.heap.size w W → (Below w.heap.size w W ∧ W.cell? ⟨b1, 0, none⟩ = some (.int .i64 n) ∧ W.cell? ⟨b1, 1, none⟩ = some u ∧ W.cell? ⟨b2, 0, none⟩ = some (.int .i64 m) ∧ W.cell? ⟨b2, 1, none⟩ = some v) := fun W h => ⟨h, below_cell h c0, below_cell h c1, below_cell h d0, below_cell h d1⟩
  have hS0 := hS _ (bdrew (Below.refl _ w))
  clear c0 c1 d0 d1 hn hm
  go_enter Try.func67, Try.ntmps67
  go_wp2_with fail
  go_region_held3 (fun W => Below w.heap.size w W ∧ W.cell? ⟨b1, 0, none⟩ = some (.int .i64 n) ∧ W.cell? ⟨b1, 1, none⟩ = some u ∧ W.cell? ⟨b2, 0, none⟩ = some (.int .i64 m) ∧ W.cell? ⟨b2, 1, none⟩ = some v)
    (first | exact hS0 | assumption | exact hS _ (bcat2 (And.left ‹_›) hl1))
    (first
      | (go_at_call_of 61 (Value.agg #[Value.int IntKind.i64 (n : Int), u]); refine (HP1.out _ (hu.below (And.left ‹_›))).mono ?_; rintro r W1 ⟨rfl, hl1⟩)
      | (go_at_call_of 61 (Value.agg #[Value.int IntKind.i64 (m : Int), v]); refine (HP2.out _ (hv.below (And.left ‹_›))).mono ?_; rintro r W2 ⟨rfl, hl1⟩))
  obtain ⟨hB3, _⟩ := ‹Below w.heap.size w W2 ∧ _›
  go_wp2
  go_ret
  exact ⟨retI (by omega), hB3⟩

/-- What lies where Product begins. -/
structure Beg2 (w w0 : World) (N M : Int) (u v : Value) : Prop where
  eq : w0 = (((w.alloc (.cells #[.int .i64 N, u] 24)).alloc (.cells #[.int .i64 M, v] 24)).alloc (.cells #[.int .i64 0, .slice none 0 0] 24)).alloc (.cells #[.int .i64 0, .int .i64 0] 27)
  bel : Below w.heap.size w w0
  box : BoxG w0 w.heap.size N u
  box2 : BoxG w0 (w.heap.size + 1) M v
  resG : Blk w0 (w.heap.size + 1 + 1) 24 [.int .i64 0, .slice none 0 0]
  resF : Blk w0 (w.heap.size + 1 + 1 + 1) 27 [.int .i64 0, .int .i64 0]
theorem blkNew (w : World) (x y : Value) (T : TypeId) (b : Nat) (hb : b = w.heap.size) : Blk (w.alloc (.cells #[x, y] T)) b T [x, y] := by subst hb; exact blk0 _ _
theorem Beg2.new (w : World) (N M : Int) (u v : Value) : ∃ w0, Beg2 w w0 N M u v :=
  ⟨_, rfl, (((balloc w _).alloc (by simp) _).alloc (by simp; omega) _).alloc (by simp; omega) _, ((blk0 _ _).alloc _).alloc _ |>.alloc _,
    ((blkNew _ _ _ _ _ (by simp)).alloc _).alloc _, (blkNew _ _ _ _ _ (by simp)).alloc _, blkNew _ _ _ _ _ (by simp)⟩

theorem call67 (a b : Int) (x y : Value) (W : World) : Sem.run Try.prog (callFunc 67 (#[.int .i64 a, .int .i64 b] ++ #[x, y])) W = .ok (.enter 67 (#[.int .i64 a, .int .i64 b] ++ #[x, y])) W := by kernel_rfl

set_option maxRecDepth 100000 in
set_option maxHeartbeats 4000000 in
theorem prod_okF {n m e d : Nat} {zs ys : List Int} (h : IsGrp n zs e) (k : IsGrp m ys d) (h60 : n * m ≤ 60) (u v : Value) (w : World) (hu : Sl w u zs) (hv : Sl w v ys) :
    Calls Try.prog 44 #[.agg #[.int .i64 n, u], .agg #[.int .i64 m, v]] w fun r w' => ∃ x, r = .returned (.tuple #[.agg #[.int .i64 (n * m : Nat), x], .agg #[.int .i64 0, .int .i64 0]]) ∧ SlF w.heap.size w' x (mkT (n * m) (prodF n m zs ys)) ∧ Below w.heap.size w w' := by
  obtain ⟨w0, BG⟩ := Beg2.new w n m u v
  have hu0 := hu.below BG.bel
  have hv0 := hv.below BG.bel
  obtain ⟨c0, c1, _, _⟩ := BG.box.two
  have HC1 := hide (check_any n u zs w0 hu0)
  have HC2 := hide (fun W (h : Sl W v ys) => check_any m v ys W h)
  rw [gfault_of_grp h] at HC1
  rw [gfault_of_grp k] at HC2
  have hn := h.tab
  have hm := k.tab
  have hmul : (n : Int) * (m : Int) = ((n * m : Nat) : Int) := by rw [Int.natCast_mul]
  have hpos : 1 ≤ n * m := Nat.mul_pos hn.pos hm.pos
  have HM : Hid (∀ W, Below w0.heap.size w0 W → Calls Try.prog 64 #[.int .i64 (n * m : Nat), .func (.func 67) #[] #[.pointer (some ⟨w.heap.size, 0, none⟩), .pointer (some ⟨w.heap.size + 1, 0, none⟩)]] W fun e w' => ∃ u, e = .returned (.agg #[.int .i64 (n * m : Nat), u]) ∧ SlF W.heap.size w' u (mkT (n * m) (prodF n m zs ys)) ∧ Below W.heap.size W w') := fun W hW =>
    madeBy_ok (n * m) 67 _ (prodF n m zs ys) W hpos h60 (fun a b W => call67 a b _ _ W)
      (fun W2 a b h2 ha hb => pairs_ok w.heap.size (w.heap.size + 1) n m a b u v zs ys W2 hn hm h60 (blk_below BG.box (bcat2 hW h2)) (blk_below BG.box2 (bcat2 hW h2)) (hu0.below (bcat2 hW h2)) (hv0.below (bcat2 hW h2)) ha hb)
  generalize hT : mkT (n * m) (prodF n m zs ys) = T at *
  generalize n * m = q at *
  have hle1 := hn.le
  have hle2 := hm.le
  have hq9 : ¬ (60 : Int) < (q : Int) := by omega
  clear hT h k hn hm
  rw [BG.eq] at c0 c1
  go_enter Try.func44, Try.ntmps44
  go_wp2_with fail
  rw [← BG.eq]
  refine HC1.out.mono ?_
  rintro r w1 ⟨rfl, hb1⟩
  clear c0 c1
  have hB1 := bcat2 hb1 (balloc w1 (.cells #[.int .i64 0, .int .i64 0] 27))
  obtain ⟨l0, l1, _, _⟩ := (blk_below BG.box2 hB1).two
  go_wp2_with fail
  refine (HC2.out _ (hv0.below hB1)).mono ?_
  rintro r w2 ⟨rfl, hb2⟩
  have hB2 := bcat2 (bcat2 hB1 hb2) (balloc w2 (.cells #[.int .i64 0, .int .i64 0] 27))
  clear l0 l1
  obtain ⟨l0, l1, _, _⟩ := (blk_below BG.box2 hB2).two
  obtain ⟨k0, k1, _, _⟩ := (blk_below BG.box hB2).two
  have hsz : w.heap.size + 1 + 1 + 1 < (w2.alloc (.cells #[.int .i64 0, .int .i64 0] 27)).heap.size := (blk_below BG.resF hB2).lt
  go_wp2_with fail
  generalize w2.alloc (.cells #[.int .i64 0, .int .i64 0] 27) = w3 at *
  refine (HM.out _ hB2).mono ?_
  rintro r w4 ⟨x, rfl, hx, hb4⟩
  obtain ⟨a9, cap9, pb9, po9, rfl, hr9, hp9, hq9', hm9, hbase⟩ := id hx
  have hB4 := bcat2 hB2 hb4
  generalize T.length = tl at *
  have hA4 := balloc w4 (.cells #[.int .i64 q, .slice a9 tl cap9] 24)
  have hB5 := bcat2 hB4 hA4
  have hG5 := blk_below BG.resG hB5
  have hF5 := blk_below BG.resF hB5
  have hX5 : Blk (w4.alloc (.cells #[.int .i64 q, .slice a9 tl cap9] 24)) w4.heap.size 24 [.int .i64 q, .slice a9 tl cap9] := blk0 _ _
  have hBw := bcat BG.bel hB5 BG.bel.size
  have hx5 : SlF w3.heap.size (w4.alloc (.cells #[.int .i64 q, .slice a9 tl cap9] 24)) (.slice a9 tl cap9) T := by
    obtain ⟨a, cp, pb, po, e1, e2, e3, e4, e5, e6⟩ := hx
    exact ⟨a, cp, pb, po, e1, e2.below hA4 e3, by simp; omega, e4, e5, e6⟩
  clear l0 l1 k0 k1
  obtain ⟨x0, x1, _, _⟩ := hX5.two
  obtain ⟨y0, y1, fy0, fy1⟩ := hG5.two
  obtain ⟨hG6, hB6⟩ := putG hG5 hBw (by omega) q (.slice a9 tl cap9)
  have hF6 := (hF5.other (p := ⟨w.heap.size + 1 + 1, 0, none⟩) (by simp) (.int .i64 q)).other (p := ⟨w.heap.size + 1 + 1, 1, none⟩) (by simp) (.slice a9 tl cap9)
  have hx6 := hx5.keep (w' := ((w4.alloc (.cells #[.int .i64 q, .slice a9 tl cap9] 24)).setCell ⟨w.heap.size + 1 + 1, 0, none⟩ (.int .i64 q)).setCell ⟨w.heap.size + 1 + 1, 1, none⟩ (.slice a9 tl cap9)) (fun b hb => by
    rw [Below.heap_setCell _ _ _ _ (by simp; omega), Below.heap_setCell _ _ _ _ (by simp; omega)]) (by rw [size_set, size_set]; exact Nat.le_refl _)
  obtain ⟨_, q0, q1, fq0, fq1, s0, s1⟩ := Two.mk' hF6
  obtain ⟨_, p0, p1, fp0, fp1, t0, t1⟩ := Two.mk' hF5
  clear hsz
  go_wp2
  generalize ((w4.alloc (.cells #[.int .i64 q, .slice a9 tl cap9] 24)).setCell ⟨w.heap.size + 1 + 1, 0, none⟩ (.int .i64 q)).setCell ⟨w.heap.size + 1 + 1, 1, none⟩ (.slice a9 tl cap9) = W at *
  obtain ⟨z0, z1, _, _⟩ := hG6.two
  exact bodyPost_ret (v := .tuple #[.agg #[.int .i64 q, .slice a9 tl cap9], .agg #[.int .i64 0, .int .i64 0]]) (by simp [results, Try.results44, go_sem, z0, z1, q0, q1]) rfl ⟨_, rfl, hx6.mono (Nat.le_trans BG.bel.size hB2.size), hB6⟩

/-- A block of a table that holds none: to store none again turns nothing. -/
theorem selfG {W : World} {b : Nat} (h : Blk W b 24 [.int .i64 0, .slice none 0 0]) : W.setCell ⟨b, 0, none⟩ (.int .i64 0) = W ∧ W.setCell ⟨b, 1, none⟩ (.slice none 0 0) = W :=
  ⟨setCell_self h (by simp), setCell_self h (by simp)⟩

set_option maxRecDepth 100000 in
set_option maxHeartbeats 4000000 in
theorem prod_bad1 (N M : Int) (zs : List Int) (u v : Value) (w : World) (hu : Sl w u zs) (hf : (gfault N zs).1 ≠ 0) :
    Calls Try.prog 44 #[.agg #[.int .i64 N, u], .agg #[.int .i64 M, v]] w fun r w' => r = .returned (.tuple #[.agg #[.int .i64 0, .slice none 0 0], .agg #[.int .i64 (gfault N zs).1, .int .i64 (gfault N zs).2]]) ∧ Below w.heap.size w w' := by
  obtain ⟨w0, BG⟩ := Beg2.new w N M u v
  have hu0 := hu.below BG.bel
  obtain ⟨c0, c1, _, _⟩ := BG.box.two
  have hck := check_any N u zs w0 hu0
  obtain ⟨c, i, hci⟩ : ∃ c i, gfault N zs = (c, i) := ⟨_, _, rfl⟩
  rw [hci] at hck hf ⊢
  have HC1 := hide hck
  have hc : ¬ c = 0 := hf
  have hcb : (c != 0) = true := by simpa using hc
  clear hck hci hf
  rw [BG.eq] at c0 c1
  go_enter Try.func44, Try.ntmps44
  go_wp2_with fail
  rw [← BG.eq]
  refine HC1.out.mono ?_
  rintro r w1 ⟨rfl, hb1⟩
  clear c0 c1
  have hB1 := bcat2 hb1 (balloc w1 (.cells #[.int .i64 c, .int .i64 i] 27))
  have hF1 : Blk (w1.alloc (.cells #[.int .i64 c, .int .i64 i] 27)) w1.heap.size 27 [.int .i64 c, .int .i64 i] := blk0 _ _
  have hG1 := blk_below BG.resG hB1
  have hR1 := blk_below BG.resF hB1
  have hBw := bcat BG.bel hB1 BG.bel.size
  obtain ⟨f0, f1, _, _⟩ := hF1.two
  obtain ⟨x0, x1, fx0, fx1⟩ := hG1.two
  obtain ⟨s0, s1⟩ := selfG hG1
  obtain ⟨y0, y1, fy0, fy1⟩ := hR1.two
  obtain ⟨hR6, hB6⟩ := put2 hR1 hBw (by omega) c i
  have hG6 := (hG1.other (p := ⟨w.heap.size + 1 + 1 + 1, 0, none⟩) (by simp) (.int .i64 c)).other (p := ⟨w.heap.size + 1 + 1 + 1, 1, none⟩) (by simp) (.int .i64 i)
  obtain ⟨t0, t1⟩ := selfG hG6
  go_wp2_with fail
  generalize w1.alloc (.cells #[.int .i64 c, .int .i64 i] 27) = w2 at *
  go_region
  go_wp2
  have hB7 := bdrew hB6
  have hR7 : Blk ((w2.setCell ⟨w.heap.size + 1 + 1 + 1, 0, none⟩ (.int .i64 c)).setCell ⟨w.heap.size + 1 + 1 + 1, 1, none⟩ (.int .i64 i)).drew (w.heap.size + 1 + 1 + 1) 27 [.int .i64 c, .int .i64 i] := hR6
  have hG7 : Blk ((w2.setCell ⟨w.heap.size + 1 + 1 + 1, 0, none⟩ (.int .i64 c)).setCell ⟨w.heap.size + 1 + 1 + 1, 1, none⟩ (.int .i64 i)).drew (w.heap.size + 1 + 1) 24 [.int .i64 0, .slice none 0 0] := hG6
  generalize ((w2.setCell ⟨w.heap.size + 1 + 1 + 1, 0, none⟩ (.int .i64 c)).setCell ⟨w.heap.size + 1 + 1 + 1, 1, none⟩ (.int .i64 i)).drew = W at hR7 hB7 hG7 ⊢
  obtain ⟨z0, z1, _, _⟩ := hR7.two
  obtain ⟨z2, z3, _, _⟩ := hG7.two
  exact bodyPost_ret (v := .tuple #[.agg #[.int .i64 0, .slice none 0 0], .agg #[.int .i64 c, .int .i64 i]]) (by simp [results, Try.results44, go_sem, z0, z1, z2, z3]) rfl ⟨rfl, hB7⟩

set_option maxRecDepth 100000 in
set_option maxHeartbeats 4000000 in
theorem prod_bad2 {n e : Nat} {zs : List Int} (h : IsGrp n zs e) (M : Int) (ys : List Int) (u v : Value) (w : World) (hu : Sl w u zs) (hv : Sl w v ys) (hf : (gfault M ys).1 ≠ 0) :
    Calls Try.prog 44 #[.agg #[.int .i64 n, u], .agg #[.int .i64 M, v]] w fun r w' => r = .returned (.tuple #[.agg #[.int .i64 0, .slice none 0 0], .agg #[.int .i64 (gfault M ys).1, .int .i64 (gfault M ys).2]]) ∧ Below w.heap.size w w' := by
  obtain ⟨w0, BG⟩ := Beg2.new w n M u v
  have hu0 := hu.below BG.bel
  have hv0 := hv.below BG.bel
  obtain ⟨c0, c1, _, _⟩ := BG.box.two
  have HC1 := hide (check_any n u zs w0 hu0)
  rw [gfault_of_grp h] at HC1
  have HC2 := hide (fun W (h : Sl W v ys) => check_any M v ys W h)
  obtain ⟨c, i, hci⟩ : ∃ c i, gfault M ys = (c, i) := ⟨_, _, rfl⟩
  rw [hci] at HC2 hf ⊢
  have hc : ¬ c = 0 := hf
  have hcb : (c != 0) = true := by simpa using hc
  clear hci hf h
  rw [BG.eq] at c0 c1
  go_enter Try.func44, Try.ntmps44
  go_wp2_with fail
  rw [← BG.eq]
  refine HC1.out.mono ?_
  rintro r w8 ⟨rfl, hb8⟩
  clear c0 c1
  have hB8 := bcat2 hb8 (balloc w8 (.cells #[.int .i64 0, .int .i64 0] 27))
  obtain ⟨l0, l1, _, _⟩ := (blk_below BG.box2 hB8).two
  go_wp2_with fail
  refine (HC2.out _ (hv0.below hB8)).mono ?_
  rintro r w1 ⟨rfl, hb1⟩
  clear l0 l1
  have hB1 := bcat2 (bcat2 hB8 hb1) (balloc w1 (.cells #[.int .i64 c, .int .i64 i] 27))
  have hF1 : Blk (w1.alloc (.cells #[.int .i64 c, .int .i64 i] 27)) w1.heap.size 27 [.int .i64 c, .int .i64 i] := blk0 _ _
  have hG1 := blk_below BG.resG hB1
  have hR1 := blk_below BG.resF hB1
  have hBw := bcat BG.bel hB1 BG.bel.size
  obtain ⟨f0, f1, _, _⟩ := hF1.two
  obtain ⟨x0, x1, fx0, fx1⟩ := hG1.two
  obtain ⟨s0, s1⟩ := selfG hG1
  obtain ⟨y0, y1, fy0, fy1⟩ := hR1.two
  obtain ⟨hR6, hB6⟩ := put2 hR1 hBw (by omega) c i
  have hG6 := (hG1.other (p := ⟨w.heap.size + 1 + 1 + 1, 0, none⟩) (by simp) (.int .i64 c)).other (p := ⟨w.heap.size + 1 + 1 + 1, 1, none⟩) (by simp) (.int .i64 i)
  obtain ⟨t0, t1⟩ := selfG hG6
  go_wp2_with fail
  generalize w1.alloc (.cells #[.int .i64 c, .int .i64 i] 27) = w2 at *
  go_region
  go_wp2
  have hB7 := bdrew hB6
  have hR7 : Blk ((w2.setCell ⟨w.heap.size + 1 + 1 + 1, 0, none⟩ (.int .i64 c)).setCell ⟨w.heap.size + 1 + 1 + 1, 1, none⟩ (.int .i64 i)).drew (w.heap.size + 1 + 1 + 1) 27 [.int .i64 c, .int .i64 i] := hR6
  have hG7 : Blk ((w2.setCell ⟨w.heap.size + 1 + 1 + 1, 0, none⟩ (.int .i64 c)).setCell ⟨w.heap.size + 1 + 1 + 1, 1, none⟩ (.int .i64 i)).drew (w.heap.size + 1 + 1) 24 [.int .i64 0, .slice none 0 0] := hG6
  generalize ((w2.setCell ⟨w.heap.size + 1 + 1 + 1, 0, none⟩ (.int .i64 c)).setCell ⟨w.heap.size + 1 + 1 + 1, 1, none⟩ (.int .i64 i)).drew = W at hR7 hB7 hG7 ⊢
  obtain ⟨z0, z1, _, _⟩ := hR7.two
  obtain ⟨z2, z3, _, _⟩ := hG7.two
  exact bodyPost_ret (v := .tuple #[.agg #[.int .i64 0, .slice none 0 0], .agg #[.int .i64 c, .int .i64 i]]) (by simp [results, Try.results44, go_sem, z0, z1, z2, z3]) rfl ⟨rfl, hB7⟩

set_option maxRecDepth 100000 in
set_option maxHeartbeats 4000000 in
theorem prod_bad3 {n m e d : Nat} {zs ys : List Int} (h : IsGrp n zs e) (k : IsGrp m ys d) (h60 : 60 < n * m) (u v : Value) (w : World) (hu : Sl w u zs) (hv : Sl w v ys) :
    Calls Try.prog 44 #[.agg #[.int .i64 n, u], .agg #[.int .i64 m, v]] w fun r w' => r = .returned (.tuple #[.agg #[.int .i64 0, .slice none 0 0], .agg #[.int .i64 9, .int .i64 0]]) ∧ Below w.heap.size w w' := by
  obtain ⟨w0, BG⟩ := Beg2.new w n m u v
  have hu0 := hu.below BG.bel
  have hv0 := hv.below BG.bel
  obtain ⟨c0, c1, _, _⟩ := BG.box.two
  have HC1 := hide (check_any n u zs w0 hu0)
  have HC2 := hide (fun W (h : Sl W v ys) => check_any m v ys W h)
  rw [gfault_of_grp h] at HC1
  rw [gfault_of_grp k] at HC2
  have hle1 := h.tab.le
  have hle2 := k.tab.le
  have hnm : n * m ≤ 60 * 60 := Nat.mul_le_mul hle1 hle2
  have hmul : (n : Int) * (m : Int) = ((n * m : Nat) : Int) := by rw [Int.natCast_mul]
  generalize n * m = q at *
  have hq9 : (60 : Int) < (q : Int) := by omega
  clear h k
  rw [BG.eq] at c0 c1
  go_enter Try.func44, Try.ntmps44
  go_wp2_with fail
  rw [← BG.eq]
  refine HC1.out.mono ?_
  rintro r w8 ⟨rfl, hb8⟩
  clear c0 c1
  have hB8 := bcat2 hb8 (balloc w8 (.cells #[.int .i64 0, .int .i64 0] 27))
  obtain ⟨l0, l1, _, _⟩ := (blk_below BG.box2 hB8).two
  go_wp2_with fail
  refine (HC2.out _ (hv0.below hB8)).mono ?_
  rintro r w1 ⟨rfl, hb1⟩
  clear l0 l1
  have hB1 := bcat2 (bcat2 hB8 hb1) (balloc w1 (.cells #[.int .i64 0, .int .i64 0] 27))
  obtain ⟨l0, l1, _, _⟩ := (blk_below BG.box2 hB1).two
  obtain ⟨k0, k1, _, _⟩ := (blk_below BG.box hB1).two
  have hG1 := blk_below BG.resG hB1
  have hR1 := blk_below BG.resF hB1
  have hBw := bcat BG.bel hB1 BG.bel.size
  obtain ⟨x0, x1, fx0, fx1⟩ := hG1.two
  obtain ⟨s0, s1⟩ := selfG hG1
  obtain ⟨y0, y1, fy0, fy1⟩ := hR1.two
  obtain ⟨hR6, hB6⟩ := put2 hR1 hBw (by omega) 9 0
  have hG6 := (hG1.other (p := ⟨w.heap.size + 1 + 1 + 1, 0, none⟩) (by simp) (.int .i64 9)).other (p := ⟨w.heap.size + 1 + 1 + 1, 1, none⟩) (by simp) (.int .i64 0)
  go_wp2
  generalize ((w1.alloc (.cells #[.int .i64 0, .int .i64 0] 27)).setCell ⟨w.heap.size + 1 + 1 + 1, 0, none⟩ (.int .i64 9)).setCell ⟨w.heap.size + 1 + 1 + 1, 1, none⟩ (.int .i64 0) = W at *
  obtain ⟨z0, z1, _, _⟩ := hR6.two
  obtain ⟨z2, z3, _, _⟩ := hG6.two
  exact bodyPost_ret (v := .tuple #[.agg #[.int .i64 0, .slice none 0 0], .agg #[.int .i64 9, .int .i64 0]]) (by simp [results, Try.results44, go_sem, z0, z1, z2, z3]) rfl ⟨rfl, hB6⟩

/-- Where there is no product, a fault is told. -/
theorem prod_any (N M : Int) (zs ys : List Int) (u v : Value) :
    (∃ n m e d : Nat, N = n ∧ M = m ∧ IsGrp n zs e ∧ IsGrp m ys d ∧ n * m ≤ 60) ∨
      ∃ c i : Int, c ≠ 0 ∧ ∀ W, Sl W u zs → Sl W v ys → Calls Try.prog 44 #[.agg #[.int .i64 N, u], .agg #[.int .i64 M, v]] W fun r w' => r = .returned (.tuple #[.agg #[.int .i64 0, .slice none 0 0], .agg #[.int .i64 c, .int .i64 i]]) ∧ Below W.heap.size W w' := by
  by_cases h1 : (gfault N zs).1 = 0
  · obtain ⟨n, e, rfl, hg, _⟩ := gfault_grp h1
    by_cases h2 : (gfault M ys).1 = 0
    · obtain ⟨m, d, rfl, hh, _⟩ := gfault_grp h2
      by_cases h3 : n * m ≤ 60
      · exact .inl ⟨n, m, e, d, rfl, rfl, hg, hh, h3⟩
      · exact .inr ⟨9, 0, by simp, fun W a b => prod_bad3 hg hh (by omega) u v W a b⟩
    · exact .inr ⟨_, _, h2, fun W a b => prod_bad2 hg M ys u v W a b h2⟩
  · exact .inr ⟨_, _, h1, fun W a _ => prod_bad1 N M zs u v W a h1⟩
theorem prod_ok {n m e d : Nat} {zs ys : List Int} (h : IsGrp n zs e) (k : IsGrp m ys d) (h60 : n * m ≤ 60) (u v : Value) (w : World) (hu : Sl w u zs) (hv : Sl w v ys) :
    Calls Try.prog 44 #[.agg #[.int .i64 n, u], .agg #[.int .i64 m, v]] w fun r w' => ∃ x, r = .returned (.tuple #[.agg #[.int .i64 (n * m : Nat), x], .agg #[.int .i64 0, .int .i64 0]]) ∧ Sl w' x (mkT (n * m) (prodF n m zs ys)) ∧ Below w.heap.size w w' := by
  refine (prod_okF h k h60 u v w hu hv).mono ?_
  rintro r w' ⟨x, rfl, hx, hb⟩
  exact ⟨x, rfl, hx.sl, hb⟩
end Go.Proofs.Ytpcgacelljbkdaa
