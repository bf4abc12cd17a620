/- Package hom: opened, openedWith, strays, Check, Image; what is wrong with two tables and a list as a map; the document's TwoGroups and HomFault of a homomorphism; homomorphisms into what commutes. Condition: the library's table of places lies as its text lays it. -/
import Derived.Test.YtlhjeenijcokoaaGreatDoorZ3
import Derived.Test.YtlhjeenijcokoaaGreatDoorZ2
import Derived.Test.YtlhjeenijcokoaaGreatDoorZ4
namespace Go.Proofs.YtlhjeenijcokoaaGreatDoor
open Go Go.RowKit

/-- A block of eight cells, with all that a walk asks of it. -/
structure Eight (W : World) (b : Nat) (x0 x1 x2 x3 x4 x5 x6 x7 : Value) : Prop where
  blk : Blk W b 59 [x0, x1, x2, x3, x4, x5, x6, x7]
  c0 : W.cell? ⟨b, 0, none⟩ = some x0
  c1 : W.cell? ⟨b, 1, none⟩ = some x1
  c2 : W.cell? ⟨b, 2, none⟩ = some x2
  c3 : W.cell? ⟨b, 3, none⟩ = some x3
  c4 : W.cell? ⟨b, 4, none⟩ = some x4
  c5 : W.cell? ⟨b, 5, none⟩ = some x5
  c6 : W.cell? ⟨b, 6, none⟩ = some x6
  c7 : W.cell? ⟨b, 7, none⟩ = some x7
structure EightF (W : World) (b : Nat) : Prop where
  f0 : W.frozen? ⟨b, 0, none⟩ = false
  f1 : W.frozen? ⟨b, 1, none⟩ = false
  f2 : W.frozen? ⟨b, 2, none⟩ = false
  f3 : W.frozen? ⟨b, 3, none⟩ = false
  f4 : W.frozen? ⟨b, 4, none⟩ = false
  f5 : W.frozen? ⟨b, 5, none⟩ = false
  f6 : W.frozen? ⟨b, 6, none⟩ = false
  f7 : W.frozen? ⟨b, 7, none⟩ = false
structure EightS (W : World) (b : Nat) (x0 x1 x2 x3 x4 x5 x6 x7 : Value) : Prop where
  s0 : W.setCell ⟨b, 0, none⟩ x0 = W
  s1 : W.setCell ⟨b, 1, none⟩ x1 = W
  s2 : W.setCell ⟨b, 2, none⟩ x2 = W
  s3 : W.setCell ⟨b, 3, none⟩ x3 = W
  s4 : W.setCell ⟨b, 4, none⟩ x4 = W
  s5 : W.setCell ⟨b, 5, none⟩ x5 = W
  s6 : W.setCell ⟨b, 6, none⟩ x6 = W
  s7 : W.setCell ⟨b, 7, none⟩ x7 = W
section
variable {W : World} {b : Nat} {x0 x1 x2 x3 x4 x5 x6 x7 : Value}
theorem Eight.mk' (h : Blk W b 59 [x0, x1, x2, x3, x4, x5, x6, x7]) : Eight W b x0 x1 x2 x3 x4 x5 x6 x7 := ⟨h, h.cell 0, h.cell 1, h.cell 2, h.cell 3, h.cell 4, h.cell 5, h.cell 6, h.cell 7⟩
theorem Eight.fr (h : Blk W b 59 [x0, x1, x2, x3, x4, x5, x6, x7]) : EightF W b := ⟨h.frozen 0, h.frozen 1, h.frozen 2, h.frozen 3, h.frozen 4, h.frozen 5, h.frozen 6, h.frozen 7⟩
theorem Eight.se (h : Blk W b 59 [x0, x1, x2, x3, x4, x5, x6, x7]) : EightS W b x0 x1 x2 x3 x4 x5 x6 x7 := ⟨set_same _ _ _ _ (h.cell 0), set_same _ _ _ _ (h.cell 1), set_same _ _ _ _ (h.cell 2), set_same _ _ _ _ (h.cell 3), set_same _ _ _ _ (h.cell 4), set_same _ _ _ _ (h.cell 5), set_same _ _ _ _ (h.cell 6), set_same _ _ _ _ (h.cell 7)⟩
end
/-- What lies where a function begins that takes two tables and answers a pair and a fault. -/
structure BegP (w w0 : World) (N M : Int) (v y : Value) : Prop where
  eq : w0 = (((w.alloc (.cells #[.int .i64 N, v] 24)).alloc (.cells #[.int .i64 M, y] 24)).alloc (.cells #[.int .i64 0, .slice none 0 0, .int .i64 0, .slice none 0 0, .int .i64 0, .slice none 0 0, .int .i64 0, .slice none 0 0] 59)).alloc (.cells #[.int .i64 0, .int .i64 0] 26)
  bel : Below w.heap.size w w0
  box : BoxG w0 w.heap.size N v
  boy : BoxG w0 (w.heap.size + 1) M y
  par : Blk w0 (w.heap.size + 1 + 1) 59 [.int .i64 0, .slice none 0 0, .int .i64 0, .slice none 0 0, .int .i64 0, .slice none 0 0, .int .i64 0, .slice none 0 0]
  res : Blk w0 (w.heap.size + 1 + 1 + 1) 26 [.int .i64 0, .int .i64 0]
  siz : w0.heap.size = w.heap.size + 1 + 1 + 1 + 1
theorem BegP.new (w : World) (N M : Int) (v y : Value) : ∃ w0, BegP w w0 N M v y := by
  refine ⟨_, rfl, (((balloc w _).alloc (by simp) _).alloc (by simp; omega) _).alloc (by simp; omega) _, (((blk0 (w := w) (T := 24) _ _).alloc _).alloc _).alloc _, ?_, ?_, ?_, by simp⟩
  · have h := ((blk0 (w := w.alloc (.cells #[.int .i64 N, v] 24)) (T := 24) (.int .i64 M) y).alloc (.cells #[.int .i64 0, .slice none 0 0, .int .i64 0, .slice none 0 0, .int .i64 0, .slice none 0 0, .int .i64 0, .slice none 0 0] 59)).alloc (.cells #[.int .i64 0, .int .i64 0] 26)
    rw [World.size_alloc] at h
    exact h
  · have h : Blk (((w.alloc (.cells #[.int .i64 N, v] 24)).alloc (.cells #[.int .i64 M, y] 24)).alloc (.cells #[.int .i64 0, .slice none 0 0, .int .i64 0, .slice none 0 0, .int .i64 0, .slice none 0 0, .int .i64 0, .slice none 0 0] 59)) ((w.alloc (.cells #[.int .i64 N, v] 24)).alloc (.cells #[.int .i64 M, y] 24)).heap.size 59 [.int .i64 0, .slice none 0 0, .int .i64 0, .slice none 0 0, .int .i64 0, .slice none 0 0, .int .i64 0, .slice none 0 0] := World.alloc_heap_new _ _
    have h := h.alloc (.cells #[.int .i64 0, .int .i64 0] 26)
    rw [World.size_alloc, World.size_alloc] at h
    exact h
  · have h := blk0 (w := ((w.alloc (.cells #[.int .i64 N, v] 24)).alloc (.cells #[.int .i64 M, y] 24)).alloc (.cells #[.int .i64 0, .slice none 0 0, .int .i64 0, .slice none 0 0, .int .i64 0, .slice none 0 0, .int .i64 0, .slice none 0 0] 59)) (T := 26) (.int .i64 0) (.int .i64 0)
    rw [World.size_alloc, World.size_alloc, World.size_alloc] at h
    exact h
set_option maxRecDepth 100000 in
set_option maxHeartbeats 8000000 in
theorem pair_bad1 (N M : Int) (v y : Value) (zs : List Int) (w : World) (hv : Sl w v zs) (hc : (gfault N zs).1 ≠ 0) :
    Calls Tryz.prog 37 #[.agg #[.int .i64 N, v], .agg #[.int .i64 M, y]] w fun x w' => x = .returned (.tuple #[.agg #[.int .i64 0, .slice none 0 0, .int .i64 0, .slice none 0 0, .int .i64 0, .slice none 0 0, .int .i64 0, .slice none 0 0], .agg #[.int .i64 (gfault N zs).1, .int .i64 (gfault N zs).2]]) ∧ Below w.heap.size w w' := by
  obtain ⟨w0, BG⟩ := BegP.new w N M v y
  have HCK := hide (opened_bad N v zs w0 (hv.below BG.bel) hc)
  obtain ⟨c0, c1, _, _⟩ := BG.box.two
  obtain ⟨c, i, hci⟩ : ∃ c i, gfault N zs = (c, i) := ⟨_, _, rfl⟩
  rw [hci] at HCK hc ⊢
  simp only at HCK hc ⊢
  clear hci
  have hcb : (c != 0) = true := by simpa using hc
  rw [BG.eq] at c0 c1
  go_enter Tryz.func37, Tryz.ntmps37
  go_wp2_with fail
  rw [← BG.eq]
  clear c0 c1
  refine HCK.out.mono ?_
  rintro x w1 ⟨rfl, hb1⟩
  obtain ⟨w2, hw2⟩ : ∃ w2, w2 = (w1.alloc (.cells #[.int .i64 0, .slice none 0 0, .int .i64 0, .slice none 0 0] 57)).alloc (.cells #[.int .i64 c, .int .i64 i] 26) := ⟨_, rfl⟩
  have hB1 : Below w0.heap.size w0 w2 := by rw [hw2]; exact bcat2 hb1 ((balloc w1 _).alloc (by simp) _)
  have hF1 : Blk w2 (w1.heap.size + 1) 26 [.int .i64 c, .int .i64 i] := by
    rw [hw2]
    have := blk0 (w := w1.alloc (.cells #[.int .i64 0, .slice none 0 0, .int .i64 0, .slice none 0 0] 57)) (T := 26) (.int .i64 c) (.int .i64 i)
    rwa [World.size_alloc] at this
  have hR1 := blk_below BG.res hB1
  have hP1 := blk_below BG.par hB1
  have hBw := bcat BG.bel hB1 BG.bel.size
  obtain ⟨y0, y1, fy0, fy1⟩ := hR1.two
  obtain ⟨t0, t1, _, _⟩ := hF1.two
  obtain ⟨hR6, hB6⟩ := put2 hR1 hBw (by omega) c i
  have hP6 := (hP1.other (p := ⟨w.heap.size + 1 + 1 + 1, 0, none⟩) (by simp) (.int .i64 c)).other (p := ⟨w.heap.size + 1 + 1 + 1, 1, none⟩) (by simp) (.int .i64 i)
  have hB7 := bdrew hB6
  rw [hw2] at t0 t1
  go_wp2_with fail
  rw [← hw2] at t0 t1 ⊢
  clear hw2
  obtain ⟨_, p0, p1, p2, p3, p4, p5, p6, p7⟩ := Eight.mk' hP1
  obtain ⟨q0, q1, q2, q3, q4, q5, q6, q7⟩ := Eight.fr hP1
  obtain ⟨s0, s1, s2, s3, s4, s5, s6, s7⟩ := Eight.se hP1
  obtain ⟨u0, u1, u2, u3, u4, u5, u6, u7⟩ := Eight.se hP6
  obtain ⟨_, m0, m1, m2, m3, m4, m5, m6, m7⟩ := Eight.mk' hP6
  go_region
  all_goals (
    go_wp2
    obtain ⟨z0, z1, _, _⟩ := hR6.two
    exact bodyPost_ret (v := .tuple #[.agg #[.int .i64 0, .slice none 0 0, .int .i64 0, .slice none 0 0, .int .i64 0, .slice none 0 0, .int .i64 0, .slice none 0 0], .agg #[.int .i64 c, .int .i64 i]]) (by simp [results, Tryz.results37, go_sem, z0, z1, m0, m1, m2, m3, m4, m5, m6, m7]) rfl ⟨rfl, hB7⟩)
end Go.Proofs.YtlhjeenijcokoaaGreatDoor

namespace Go.Proofs.YtlhjeenijcokoaaGreatDoor
open Go Go.RowKit

set_option maxRecDepth 100000 in
set_option maxHeartbeats 8000000 in
theorem pair_bad2 (n e : Nat) (M : Int) (v y : Value) (zs ys : List Int) (w : World) (hv : Sl w v zs) (hg : IsGrp n zs e) (hy : Sl w y ys) (hc : (gfault M ys).1 ≠ 0) :
    Calls Tryz.prog 37 #[.agg #[.int .i64 n, v], .agg #[.int .i64 M, y]] w fun x w' => x = .returned (.tuple #[.agg #[.int .i64 0, .slice none 0 0, .int .i64 0, .slice none 0 0, .int .i64 0, .slice none 0 0, .int .i64 0, .slice none 0 0], .agg #[.int .i64 (gfault M ys).1, .int .i64 (gfault M ys).2]]) ∧ Below w.heap.size w w' := by
  obtain ⟨va, vl, vc, rfl⟩ := hv.isSlice
  obtain ⟨w0, BG⟩ := BegP.new w n M (.slice va vl vc) y
  have HCK := hide (opened_good n e (.slice va vl vc) zs w0 (hv.below BG.bel) hg)
  have HCL := hide (fun W (h : Below w.heap.size w W) => opened_bad M y ys W (hy.below h) hc)
  obtain ⟨c0, c1, _, _⟩ := BG.box.two
  obtain ⟨c, i, hci⟩ : ∃ c i, gfault M ys = (c, i) := ⟨_, _, rfl⟩
  rw [hci] at HCL hc ⊢
  simp only at HCL hc ⊢
  clear hci
  have hcb : (c != 0) = true := by simpa using hc
  rw [BG.eq] at c0 c1
  go_enter Tryz.func37, Tryz.ntmps37
  go_wp2_with fail
  rw [← BG.eq]
  clear c0 c1
  refine HCK.out.mono ?_
  rintro x w1 ⟨iv9, rfl, hSI, hb1⟩
  obtain ⟨ia, il, ic, rfl⟩ := hSI.sl.isSlice
  obtain ⟨w2, hw2⟩ : ∃ w2, w2 = (w1.alloc (.cells #[.int .i64 n, .slice va vl vc, .int .i64 e, .slice ia il ic] 57)).alloc (.cells #[.int .i64 0, .int .i64 0] 26) := ⟨_, rfl⟩
  have hB1 : Below w0.heap.size w0 w2 := by rw [hw2]; exact bcat2 hb1 ((balloc w1 _).alloc (by simp) _)
  have hF1 : Blk w2 (w1.heap.size + 1) 26 [.int .i64 0, .int .i64 0] := by
    rw [hw2]
    have := blk0 (w := w1.alloc (.cells #[.int .i64 n, .slice va vl vc, .int .i64 e, .slice ia il ic] 57)) (T := 26) (.int .i64 0) (.int .i64 0)
    rwa [World.size_alloc] at this
  have hBw2 := bcat BG.bel hB1 BG.bel.size
  have hY2 := blk_below BG.boy hB1
  obtain ⟨t0, t1, _, _⟩ := hF1.two
  obtain ⟨k0, k1, _, _⟩ := hY2.two
  have hw1s := hb1.size
  rw [BG.siz] at hw1s
  rw [hw2] at t0 t1 k0 k1
  go_wp2_with fail
  rw [← hw2]
  clear hw2 t0 t1 k0 k1
  refine (HCL.out _ hBw2).mono ?_
  rintro x w3 ⟨rfl, hb3⟩
  have hb4 := balloc w3 (.cells #[.int .i64 0, .slice none 0 0, .int .i64 0, .slice none 0 0] 57)
  have hb24 := bcat2 hb3 hb4
  have hF4 := blk_below hF1 hb24
  have hBw4 := bcat2 hBw2 hb24
  have hR4 := blk_below (blk_below BG.res hB1) hb24
  have hP4 := blk_below (blk_below BG.par hB1) hb24
  obtain ⟨t0, t1, ft0, ft1⟩ := hF4.two
  have hF5 := (hF4.set 0 (.int .i64 c)).set 1 (.int .i64 i)
  have hR5 := (hR4.other (p := ⟨w1.heap.size + 1, 0, none⟩) (by simp; omega) (.int .i64 c)).other (p := ⟨w1.heap.size + 1, 1, none⟩) (by simp; omega) (.int .i64 i)
  have hP5 := (hP4.other (p := ⟨w1.heap.size + 1, 0, none⟩) (by simp; omega) (.int .i64 c)).other (p := ⟨w1.heap.size + 1, 1, none⟩) (by simp; omega) (.int .i64 i)
  have hB5 := (hBw4.setCell (p := ⟨w1.heap.size + 1, 0, none⟩) (by simp; omega) (.int .i64 c)).setCell (p := ⟨w1.heap.size + 1, 1, none⟩) (by simp; omega) (.int .i64 i)
  obtain ⟨e0, e1, _, _⟩ := hF5.two
  go_wp2_with fail
  generalize ((w3.alloc (.cells #[.int .i64 0, .slice none 0 0, .int .i64 0, .slice none 0 0] 57)).setCell ⟨w1.heap.size + 1, 0, none⟩ (.int .i64 c)).setCell ⟨w1.heap.size + 1, 1, none⟩ (.int .i64 i) = w5 at *
  clear t0 t1 ft0 ft1 hF4 hR4 hP4
  obtain ⟨y0, y1, fy0, fy1⟩ := hR5.two
  obtain ⟨hR6, hB6⟩ := put2 hR5 hB5 (by omega) c i
  have hP6 := (hP5.other (p := ⟨w.heap.size + 1 + 1 + 1, 0, none⟩) (by simp) (.int .i64 c)).other (p := ⟨w.heap.size + 1 + 1 + 1, 1, none⟩) (by simp) (.int .i64 i)
  have hB7 := bdrew hB6
  obtain ⟨_, p0, p1, p2, p3, p4, p5, p6, p7⟩ := Eight.mk' hP5
  obtain ⟨q0, q1, q2, q3, q4, q5, q6, q7⟩ := Eight.fr hP5
  obtain ⟨s0, s1, s2, s3, s4, s5, s6, s7⟩ := Eight.se hP5
  obtain ⟨u0, u1, u2, u3, u4, u5, u6, u7⟩ := Eight.se hP6
  obtain ⟨_, m0, m1, m2, m3, m4, m5, m6, m7⟩ := Eight.mk' hP6
  go_region
  all_goals (
    go_wp2
    obtain ⟨z0, z1, _, _⟩ := hR6.two
    exact bodyPost_ret (v := .tuple #[.agg #[.int .i64 0, .slice none 0 0, .int .i64 0, .slice none 0 0, .int .i64 0, .slice none 0 0, .int .i64 0, .slice none 0 0], .agg #[.int .i64 c, .int .i64 i]]) (by simp [results, Tryz.results37, go_sem, z0, z1, m0, m1, m2, m3, m4, m5, m6, m7]) rfl ⟨rfl, hB7⟩)
theorem eight_set {W w : World} {b : Nat} {x0 x1 x2 x3 x4 x5 x6 x7 : Value} (h : Blk W b 59 [x0, x1, x2, x3, x4, x5, x6, x7]) (hB : Below w.heap.size w W) (hb : w.heap.size ≤ b) (y0 y1 y2 y3 y4 y5 y6 y7 : Value) :
    Blk ((((((((W.setCell ⟨b, 0, none⟩ y0).setCell ⟨b, 1, none⟩ y1).setCell ⟨b, 2, none⟩ y2).setCell ⟨b, 3, none⟩ y3).setCell ⟨b, 4, none⟩ y4).setCell ⟨b, 5, none⟩ y5).setCell ⟨b, 6, none⟩ y6).setCell ⟨b, 7, none⟩ y7) b 59 [y0, y1, y2, y3, y4, y5, y6, y7] ∧
    Below w.heap.size w ((((((((W.setCell ⟨b, 0, none⟩ y0).setCell ⟨b, 1, none⟩ y1).setCell ⟨b, 2, none⟩ y2).setCell ⟨b, 3, none⟩ y3).setCell ⟨b, 4, none⟩ y4).setCell ⟨b, 5, none⟩ y5).setCell ⟨b, 6, none⟩ y6).setCell ⟨b, 7, none⟩ y7) :=
  ⟨(((((((h.set 0 _).set 1 _).set 2 _).set 3 _).set 4 _).set 5 _).set 6 _).set 7 _, (((((((hB.setCell (p := ⟨b, 0, none⟩) hb _).setCell (p := ⟨b, 1, none⟩) hb _).setCell (p := ⟨b, 2, none⟩) hb _).setCell (p := ⟨b, 3, none⟩) hb _).setCell (p := ⟨b, 4, none⟩) hb _).setCell (p := ⟨b, 5, none⟩) hb _).setCell (p := ⟨b, 6, none⟩) hb _).setCell (p := ⟨b, 7, none⟩) hb _⟩
theorem eight_far {W : World} {b : Nat} (y0 y1 y2 y3 y4 y5 y6 y7 : Value) {g : Nat} (hg : g ≠ b) :
    ((((((((W.setCell ⟨b, 0, none⟩ y0).setCell ⟨b, 1, none⟩ y1).setCell ⟨b, 2, none⟩ y2).setCell ⟨b, 3, none⟩ y3).setCell ⟨b, 4, none⟩ y4).setCell ⟨b, 5, none⟩ y5).setCell ⟨b, 6, none⟩ y6).setCell ⟨b, 7, none⟩ y7).heap[g]? = W.heap[g]? := by
  have h : ∀ (V : World) k z, (V.setCell ⟨b, k, none⟩ z).heap[g]? = V.heap[g]? := fun V k z => Below.heap_setCell _ _ _ g (by simpa using hg)
  rw [h, h, h, h, h, h, h, h]
theorem eight_size {W : World} {b : Nat} (y0 y1 y2 y3 y4 y5 y6 y7 : Value) :
    ((((((((W.setCell ⟨b, 0, none⟩ y0).setCell ⟨b, 1, none⟩ y1).setCell ⟨b, 2, none⟩ y2).setCell ⟨b, 3, none⟩ y3).setCell ⟨b, 4, none⟩ y4).setCell ⟨b, 5, none⟩ y5).setCell ⟨b, 6, none⟩ y6).setCell ⟨b, 7, none⟩ y7).heap.size = W.heap.size := by
  simp only [size_set]
set_option maxRecDepth 100000 in
set_option maxHeartbeats 8000000 in
theorem pair_good (n e m d : Nat) (v y : Value) (zs ys : List Int) (w : World) (hv : Sl w v zs) (hg : IsGrp n zs e) (hy : Sl w y ys) (hh : IsGrp m ys d) :
    Calls Tryz.prog 37 #[.agg #[.int .i64 n, v], .agg #[.int .i64 m, y]] w fun x w' => ∃ u t, x = .returned (.tuple #[.agg #[.int .i64 n, v, .int .i64 e, u, .int .i64 m, y, .int .i64 d, t], .agg #[.int .i64 0, .int .i64 0]]) ∧ SlF w.heap.size w' u (li ((List.range n).map (iv n zs e))) ∧ SlF w.heap.size w' t (li ((List.range m).map (iv m ys d))) ∧ Below w.heap.size w w' := by
  obtain ⟨va, vl, vc, rfl⟩ := hv.isSlice
  obtain ⟨ya, yl, yc, rfl⟩ := hy.isSlice
  obtain ⟨w0, BG⟩ := BegP.new w n m (.slice va vl vc) (.slice ya yl yc)
  have HCK := hide (opened_good n e (.slice va vl vc) zs w0 (hv.below BG.bel) hg)
  have HCL := hide (fun W (h : Below w.heap.size w W) => opened_good m d (.slice ya yl yc) ys W (hy.below h) hh)
  obtain ⟨c0, c1, _, _⟩ := BG.box.two
  rw [BG.eq] at c0 c1
  go_enter Tryz.func37, Tryz.ntmps37
  go_wp2_with fail
  rw [← BG.eq]
  clear c0 c1
  refine HCK.out.mono ?_
  rintro x w1 ⟨iv9, rfl, hSI, hb1⟩
  obtain ⟨ia, il, ic, rfl⟩ := hSI.sl.isSlice
  obtain ⟨w2, hw2⟩ : ∃ w2, w2 = (w1.alloc (.cells #[.int .i64 n, .slice va vl vc, .int .i64 e, .slice ia il ic] 57)).alloc (.cells #[.int .i64 0, .int .i64 0] 26) := ⟨_, rfl⟩
  have hb12 : Below w1.heap.size w1 w2 := by rw [hw2]; exact (balloc w1 _).alloc (by simp) _
  have hB1 : Below w0.heap.size w0 w2 := bcat2 hb1 hb12
  have hF1 : Blk w2 (w1.heap.size + 1) 26 [.int .i64 0, .int .i64 0] := by
    rw [hw2]
    have := blk0 (w := w1.alloc (.cells #[.int .i64 n, .slice va vl vc, .int .i64 e, .slice ia il ic] 57)) (T := 26) (.int .i64 0) (.int .i64 0)
    rwa [World.size_alloc] at this
  have hH2 : Blk w2 w1.heap.size 57 [.int .i64 n, (.slice va vl vc), .int .i64 e, (.slice ia il ic)] := by
    rw [hw2]; exact (blk4 _ _ _ _).alloc _
  have hBw2 := bcat BG.bel hB1 BG.bel.size
  have hY2 := blk_below BG.boy hB1
  have hSI2 := hSI.below hb12
  obtain ⟨t0, t1, _, _⟩ := hF1.two
  obtain ⟨k0, k1, _, _⟩ := hY2.two
  have hw1s := hb1.size
  rw [BG.siz] at hw1s
  rw [hw2] at t0 t1 k0 k1
  go_wp2_with fail
  rw [← hw2]
  clear hw2 t0 t1 k0 k1
  refine (HCL.out _ hBw2).mono ?_
  rintro x w3 ⟨jv9, rfl, hSJ, hb3⟩
  obtain ⟨ja, jl, jc, rfl⟩ := hSJ.sl.isSlice
  have hb4 := balloc w3 (.cells #[.int .i64 m, .slice ya yl yc, .int .i64 d, .slice ja jl jc] 57)
  have hJ4 := blk4 (w := w3) (T := 57) (.int .i64 m) (.slice ya yl yc) (.int .i64 d) (.slice ja jl jc)
  have hb24 := bcat2 hb3 hb4
  have hF4 := blk_below hF1 hb24
  have hH4 := blk_below hH2 hb24
  have hBw4 := bcat2 hBw2 hb24
  have hR4 := blk_below (blk_below BG.res hB1) hb24
  have hP4 := blk_below (blk_below BG.par hB1) hb24
  have hSI4 := (hSI2.below hb24)
  have hSJ4 := hSJ.below hb4
  have hPl := (blk_below BG.par hB1).lt
  obtain ⟨t0, t1, ft0, ft1⟩ := hF4.two
  obtain ⟨s0, s1⟩ := hF4.self
  obtain ⟨_, h0, h1, h2, h3, _⟩ := Four.mk' hH4
  obtain ⟨_, j0, j1, j2, j3, _⟩ := Four.mk' hJ4
  obtain ⟨_, p0, p1, p2, p3, p4, p5, p6, p7⟩ := Eight.mk' hP4
  obtain ⟨q0, q1, q2, q3, q4, q5, q6, q7⟩ := Eight.fr hP4
  obtain ⟨y0, y1, fy0, fy1⟩ := hR4.two
  obtain ⟨hP5, hB5⟩ := eight_set hP4 hBw4 (by omega) (.int .i64 n) (.slice va vl vc) (.int .i64 e) (.slice ia il ic) (.int .i64 m) (.slice ya yl yc) (.int .i64 d) (.slice ja jl jc)
  have hR5 := hR4.of_eq (eight_far (W := w3.alloc (.cells #[.int .i64 m, .slice ya yl yc, .int .i64 d, .slice ja jl jc] 57)) (b := w.heap.size + 1 + 1) (.int .i64 n) (.slice va vl vc) (.int .i64 e) (.slice ia il ic) (.int .i64 m) (.slice ya yl yc) (.int .i64 d) (.slice ja jl jc) (g := w.heap.size + 1 + 1 + 1) (by omega))
  obtain ⟨o0, o1⟩ := hR5.self
  obtain ⟨_, m0, m1, m2, m3, m4, m5, m6, m7⟩ := Eight.mk' hP5
  obtain ⟨z0, z1, _, _⟩ := hR5.two
  have hkeep : ∀ g, w.heap.size + 1 + 1 + 1 + 1 ≤ g → _ := fun g (hg9 : w.heap.size + 1 + 1 + 1 + 1 ≤ g) => eight_far (W := w3.alloc (.cells #[.int .i64 m, .slice ya yl yc, .int .i64 d, .slice ja jl jc] 57)) (b := w.heap.size + 1 + 1) (.int .i64 n) (.slice va vl vc) (.int .i64 e) (.slice ia il ic) (.int .i64 m) (.slice ya yl yc) (.int .i64 d) (.slice ja jl jc) (g := g) (by omega)
  have hSI5 := (hSI4.keep (fun g h1 _ => hkeep g (by rw [BG.siz] at h1; exact h1)) (by rw [eight_size]; exact Nat.le_refl _)).mono BG.bel.size
  have hw2s := hb12.size
  have hSJ5 := (hSJ4.keep (fun g h1 _ => hkeep g (by omega)) (by rw [eight_size]; exact Nat.le_refl _)).mono hBw2.size
  clear hkeep
  go_wp2
  exact bodyPost_ret (v := .tuple #[.agg #[.int .i64 n, .slice va vl vc, .int .i64 e, .slice ia il ic, .int .i64 m, .slice ya yl yc, .int .i64 d, .slice ja jl jc], .agg #[.int .i64 0, .int .i64 0]]) (by simp [results, Tryz.results37, go_sem, z0, z1, m0, m1, m2, m3, m4, m5, m6, m7]) rfl ⟨_, _, rfl, hSI5, hSJ5, hB5⟩
end Go.Proofs.YtlhjeenijcokoaaGreatDoor

namespace Go.Proofs.YtlhjeenijcokoaaGreatDoor
open Go Go.RowKit

set_option maxRecDepth 100000 in
set_option maxHeartbeats 4000000 in
theorem ghas_ok (n : Nat) (v u : Value) (e a : Int) (w : World) :
    Calls Tryz.prog 86 #[.agg #[.int .i64 n, v, .int .i64 e, u], .int .i64 a] w fun x w' => x = .returned (.bool (decide (0 ≤ a ∧ a < n))) ∧ Below w.heap.size w w' := by
  have hB0 : Below w.heap.size w (w.alloc (.cells #[.int .i64 n, v, .int .i64 e, u] 57)) := balloc w _
  have hX0 := blk4 (w := w) (T := 57) (.int .i64 n) v (.int .i64 e) u
  obtain ⟨_, c0, c1, c2, c3, _⟩ := Four.mk' hX0
  obtain ⟨bb, hbb⟩ : ∃ bb, bb = decide (0 ≤ a ∧ a < (n : Int)) := ⟨_, rfl⟩
  rw [← hbb]
  have HBB := hide hbb
  clear hbb
  by_cases h0 : 0 ≤ a
  · by_cases h1 : a < n
    · have HD := hide (show bb = true by rw [HBB.out]; exact decide_eq_true ⟨h0, h1⟩)
      go_enter Tryz.func86, Tryz.ntmps86
      go_wp2
      go_ret
      exact ⟨by rw [HD.out]; rfl, hB0⟩
    · have HD := hide (show bb = false by rw [HBB.out]; exact decide_eq_false (fun h => h1 h.2))
      go_enter Tryz.func86, Tryz.ntmps86
      go_wp2
      go_ret
      exact ⟨by rw [HD.out]; rfl, hB0⟩
  · have HD := hide (show bb = false by rw [HBB.out]; exact decide_eq_false (fun h => h0 h.1))
    go_enter Tryz.func86, Tryz.ntmps86
    go_wp2
    go_ret
    exact ⟨by rw [HD.out]; rfl, hB0⟩
/-- Is there a thing by which a product is not kept? -/
def stq (n : Nat) (zs : List Int) (m : Nat) (ys ms : List Int) (a : Nat) : Bool := (List.range n).any fun b => !decide (ms[tm n zs a b]?.getD 0 = (tm m ys (ms[a]?.getD 0).toNat (ms[b]?.getD 0).toNat : Int))
theorem stq_no {n : Nat} {zs : List Int} {m : Nat} {ys ms : List Int} {a : Nat} : stq n zs m ys ms a = false ↔ ∀ b, b < n → ms[tm n zs a b]?.getD 0 = (tm m ys (ms[a]?.getD 0).toNat (ms[b]?.getD 0).toNat : Int) := by
  unfold stq
  rw [List.any_eq_false]
  simp only [List.mem_range, Bool.not_eq_true, Bool.not_eq_false', decide_eq_true_eq]
theorem stq_yes {n : Nat} {zs : List Int} {m : Nat} {ys ms : List Int} {a b : Nat} (hb : b < n) (h : ¬ ms[tm n zs a b]?.getD 0 = (tm m ys (ms[a]?.getD 0).toNat (ms[b]?.getD 0).toNat : Int)) : stq n zs m ys ms a = true := by
  unfold stq
  rw [List.any_eq_true]
  exact ⟨b, List.mem_range.2 hb, by simpa using h⟩
end Go.Proofs.YtlhjeenijcokoaaGreatDoor

namespace Go.Proofs.YtlhjeenijcokoaaGreatDoor
open Go Go.RowKit

/-- Is a list's number a thing? -/
def rng (m : Int) (ms : List Int) (i : Nat) : Bool := decide (0 ≤ ms[i]?.getD 0 ∧ ms[i]?.getD 0 < m)
/-- What is wrong with two tables and a list as a map of things. -/
def hfault (N : Int) (zs : List Int) (M : Int) (ys ms : List Int) : Int × Int :=
  if (gfault N zs).1 ≠ 0 then gfault N zs
  else if (gfault M ys).1 ≠ 0 then gfault M ys
  else if ¬ (ms.length : Int) = N then (8, 0)
  else if ¬ least ms.length (fun i => !rng M ms i) = -1 then (3, least ms.length (fun i => !rng M ms i))
  else if ¬ least ms.length (stq N.toNat zs M.toNat ys ms) = -1 then (7, least ms.length (stq N.toNat zs M.toNat ys ms))
  else (0, 0)
theorem hfault_1 {N : Int} {zs : List Int} {M : Int} {ys ms : List Int} (h : (gfault N zs).1 ≠ 0) : hfault N zs M ys ms = gfault N zs := by unfold hfault; rw [if_pos h]
theorem hfault_2 {n e : Nat} {zs : List Int} {M : Int} {ys ms : List Int} (g : IsGrp n zs e) (h : (gfault M ys).1 ≠ 0) : hfault n zs M ys ms = gfault M ys := by unfold hfault; rw [gfault_of_grp g, if_neg (by simp), if_pos h]
section
variable {n e m d : Nat} {zs ys ms : List Int}
theorem hfault_g (g : IsGrp n zs e) (h : IsGrp m ys d) : hfault n zs m ys ms = if ¬ (ms.length : Int) = (n : Int) then (8, 0) else if ¬ least ms.length (fun i => !rng m ms i) = -1 then (3, least ms.length (fun i => !rng m ms i)) else if ¬ least ms.length (stq n zs m ys ms) = -1 then (7, least ms.length (stq n zs m ys ms)) else (0, 0) := by
  unfold hfault
  rw [gfault_of_grp g, if_neg (by simp), gfault_of_grp h, if_neg (by simp), Int.toNat_natCast, Int.toNat_natCast]
theorem hfault_8 (g : IsGrp n zs e) (h : IsGrp m ys d) (hl : ¬ ms.length = n) : hfault n zs m ys ms = (8, 0) := by
  rw [hfault_g g h, if_pos (by omega)]
theorem least_is {k : Nat} {j : Nat} {p : Nat → Bool} (hj : j < k) (h1 : ∀ t, t < j → p t = false) (h2 : p j = true) : least k p = (j : Int) := by
  rcases least_cases k p with ⟨i, hi, hp, hlt, he⟩ | ⟨hno, _⟩
  · rw [he]
    rcases Nat.lt_trichotomy i j with h | h | h
    · rw [h1 i h] at hp; cases hp
    · rw [h]
    · have := hlt j h; rw [h2] at this; cases this
  · rw [hno j hj] at h2; cases h2
theorem least_no {k : Nat} {p : Nat → Bool} (h1 : ∀ t, t < k → p t = false) : least k p = -1 := by
  rcases least_cases k p with ⟨i, hi, hp, _, _⟩ | ⟨_, he⟩
  · rw [h1 i hi] at hp; cases hp
  · exact he
theorem hfault_3 (g : IsGrp n zs e) (h : IsGrp m ys d) (hl : ms.length = n) {k : Nat} (hk : k < n) (h1 : ∀ t, t < k → rng m ms t = true) (h2 : rng m ms k = false) : hfault n zs m ys ms = (3, (k : Int)) := by
  rw [hfault_g g h, if_neg (by omega), least_is (j := k) (by omega) (fun t ht => by rw [h1 t ht]; rfl) (by rw [h2]; rfl), if_pos (by omega)]
theorem hfault_7 (g : IsGrp n zs e) (h : IsGrp m ys d) (hl : ms.length = n) (hr : ∀ t, t < n → rng m ms t = true) {k : Nat} (hk : k < n) (h1 : ∀ t, t < k → stq n zs m ys ms t = false) (h2 : stq n zs m ys ms k = true) : hfault n zs m ys ms = (7, (k : Int)) := by
  rw [hfault_g g h, if_neg (by omega), least_no (fun t ht => by rw [hr t (by omega)]; rfl), if_neg (by simp), least_is (j := k) (by omega) h1 h2, if_pos (by omega)]
theorem hfault_0 (g : IsGrp n zs e) (h : IsGrp m ys d) (hl : ms.length = n) (hr : ∀ t, t < n → rng m ms t = true) (h1 : ∀ t, t < n → stq n zs m ys ms t = false) : hfault n zs m ys ms = (0, 0) := by
  rw [hfault_g g h, if_neg (by omega), least_no (fun t ht => by rw [hr t (by omega)]; rfl), if_neg (by simp), least_no (fun t ht => h1 t (by omega)), if_neg (by simp)]
end
end Go.Proofs.YtlhjeenijcokoaaGreatDoor

namespace Go.Proofs.YtlhjeenijcokoaaGreatDoor
open Go Go.RowKit

end Go.Proofs.YtlhjeenijcokoaaGreatDoor

namespace Go.Proofs.YtlhjeenijcokoaaGreatDoor
open Go Go.RowKit

/-- What lies where a function begins that takes two tables and answers a fault. -/
structure BegF (w w0 : World) (N M : Int) (v y : Value) : Prop where
  eq : w0 = ((w.alloc (.cells #[.int .i64 N, v] 24)).alloc (.cells #[.int .i64 M, y] 24)).alloc (.cells #[.int .i64 0, .int .i64 0] 26)
  bel : Below w.heap.size w w0
  box : BoxG w0 w.heap.size N v
  boy : BoxG w0 (w.heap.size + 1) M y
  res : Blk w0 (w.heap.size + 1 + 1) 26 [.int .i64 0, .int .i64 0]
  siz : w0.heap.size = w.heap.size + 1 + 1 + 1
theorem BegF.new (w : World) (N M : Int) (v y : Value) : ∃ w0, BegF w w0 N M v y := by
  refine ⟨_, rfl, ((balloc w _).alloc (by simp) _).alloc (by simp; omega) _, ((blk0 (w := w) (T := 24) _ _).alloc _).alloc _, ?_, ?_, by simp⟩
  · have h := (blk0 (w := w.alloc (.cells #[.int .i64 N, v] 24)) (T := 24) (.int .i64 M) y).alloc (.cells #[.int .i64 0, .int .i64 0] 26)
    rw [World.size_alloc] at h
    exact h
  · have h := blk0 (w := (w.alloc (.cells #[.int .i64 N, v] 24)).alloc (.cells #[.int .i64 M, y] 24)) (T := 26) (.int .i64 0) (.int .i64 0)
    rw [World.size_alloc, World.size_alloc] at h
    exact h
end Go.Proofs.YtlhjeenijcokoaaGreatDoor

namespace Go.Proofs.YtlhjeenijcokoaaGreatDoor
open Go Go.RowKit

/-- A map of things that keeps products. -/
structure IsHom (n : Nat) (zs : List Int) (m : Nat) (ys : List Int) (φ : Nat → Nat) : Prop where
  lt : ∀ a, a < n → φ a < m
  mul : ∀ a b, a < n → b < n → φ (tm n zs a b) = tm m ys (φ a) (φ b)
theorem hom_of {n e m d : Nat} {zs ys ms : List Int} (g : IsGrp n zs e) (h : IsGrp m ys d) (hc : (hfault n zs m ys ms).1 = 0) : hfault n zs m ys ms = (0, 0) ∧ ms.length = n ∧ ∃ φ : Nat → Nat, IsHom n zs m ys φ ∧ ms = li ((List.range n).map φ) := by
  by_cases hl : ms.length = n
  · by_cases hr : ∀ t, t < n → rng m ms t = true
    · by_cases hs : ∀ t, t < n → stq n zs m ys ms t = false
      · have h1 : ∀ t, t < n → 0 ≤ ms[t]?.getD 0 ∧ ms[t]?.getD 0 < (m : Int) := fun t ht => of_decide_eq_true (hr t ht)
        refine ⟨hfault_0 g h hl hr hs, hl, fun a => (ms[a]?.getD 0).toNat, ⟨fun a ha => ?_, fun a b ha hb => ?_⟩, ?_⟩
        · have := h1 a ha
          show (ms[a]?.getD 0).toNat < m
          omega
        · have := stq_no.1 (hs a ha) b hb
          show (ms[tm n zs a b]?.getD 0).toNat = _
          rw [this, Int.toNat_natCast]
        · unfold li
          rw [List.map_map]
          apply List.ext_getElem
          · simp [hl]
          · intro i h2 h3
            have h4 := h1 i (by omega)
            rw [List.getElem?_eq_getElem h2, Option.getD_some] at h4
            simp [h2]
            omega
      · exfalso
        rcases least_cases n (stq n zs m ys ms) with ⟨k, hk, hp, hlt, _⟩ | ⟨hno, _⟩
        · rw [hfault_7 g h hl hr hk hlt hp] at hc
          exact absurd hc (by simp)
        · exact hs hno
    · exfalso
      rcases least_cases n (fun i => !rng m ms i) with ⟨k, hk, hp, hlt, _⟩ | ⟨hno, _⟩
      · rw [hfault_3 g h hl hk (fun t ht => by simpa using hlt t ht) (by simpa using hp)] at hc
        exact absurd hc (by simp)
      · exact hr (fun t ht => by simpa using hno t ht)
  · rw [hfault_8 g h hl] at hc
    exact absurd hc (by decide)
theorem of_hom {n e m d : Nat} {zs ys ms : List Int} {φ : Nat → Nat} (g : IsGrp n zs e) (h : IsGrp m ys d) (H : IsHom n zs m ys φ) (hl : ms.length = n) (hm : ∀ a, a < n → ms[a]?.getD 0 = (φ a : Int)) : hfault n zs m ys ms = (0, 0) := by
  refine hfault_0 g h hl (fun t ht => ?_) (fun t ht => ?_)
  · unfold rng
    rw [hm t ht]
    have := H.lt t ht
    exact decide_eq_true ⟨by omega, by omega⟩
  · refine stq_no.2 fun b hb => ?_
    rw [hm _ (tm_lt g.tab ht hb), hm t ht, hm b hb, H.mul t b ht hb, Int.toNat_natCast, Int.toNat_natCast]
theorem IsHom.one {n e m d : Nat} {zs ys : List Int} {φ : Nat → Nat} (g : IsGrp n zs e) (h : IsGrp m ys d) (H : IsHom n zs m ys φ) : φ e = d := by
  have h1 := H.mul e e g.elt g.elt
  rw [g.left e g.elt] at h1
  have hl := H.lt e g.elt
  exact grp_cancel h hl hl h.elt (by rw [← h1, h.right _ hl])
/-- Where what stands for things commutes, commutators go to the one, and cosets of what they make go to one thing. -/
theorem hom_cos {n e m d : Nat} {zs ys : List Int} {φ : Nat → Nat} {p : Nat → Bool} (g : IsGrp n zs e) (h : IsGrp m ys d) (H : IsHom n zs m ys φ) (hc : ∀ a b, a < n → b < n → tm m ys (φ a) (φ b) = tm m ys (φ b) (φ a))
    (hp : ∀ a, a < n → (p a = true ↔ Mkd n zs e (cmq n zs e (List.range n) (List.range n)) a)) {a b : Nat} (ha : a < n) (hb : b < n) (hn : num n (rgtq n zs (lst n (pset (li (lst n p))))) a = num n (rgtq n zs (lst n (pset (li (lst n p))))) b) : φ a = φ b := by
  have hs := der_sub g hp
  have PP := rgt_parts g hs
  have h1 := (prts_num_eq PP ha hb).1 hn
  obtain ⟨x, hx, rfl⟩ := mem_rgt.1 h1
  rw [lst_pset, mem_lst] at hx
  obtain ⟨hxn, hxp⟩ := hx
  have hx1 : φ x = d := by
    have hg := (cms_iff x).1 ((hp x hxn).1 hxp)
    have := Fin.Gen.least (P := fun y => y < n ∧ φ y = d) ⟨⟨g.elt, H.one g h⟩, fun y z _ _ h2 h3 => ⟨tm_lt g.tab h2.1 h3.1, by rw [H.mul y z h2.1 h3.1, h2.2, h3.2, h.left d h.elt]⟩⟩ (fun y hy ⟨i, j, hi, hj, he⟩ => by
      have hi := List.mem_range.1 hi
      have hj := List.mem_range.1 hj
      have hy := List.mem_range.1 hy
      refine ⟨hy, ?_⟩
      have h4 := Fin.cm_eq (grp_fg g) (grp_iv g) (List.mem_range.2 hi) (List.mem_range.2 hj)
      rw [he] at h4
      have h5 := congrArg φ h4
      rw [H.mul _ _ (tm_lt g.tab hj hi) hy, H.mul j i hj hi, H.mul i j hi hj, hc i j hi hj] at h5
      have hl := tm_lt h.tab (H.lt j hj) (H.lt i hi)
      exact grp_cancel h hl (H.lt y hy) h.elt (by rw [h5, h.right _ hl])) hg
    exact this.2
  rw [H.mul x a hxn ha, hx1, h.left _ (H.lt a ha)]
set_option maxRecDepth 100000 in
set_option maxHeartbeats 4000000 in
theorem rtwo_good (n e m d : Nat) (v y : Value) (zs ys : List Int) (w : World) (hv : Sl w v zs) (hg : IsGrp n zs e) (hy : Sl w y ys) (hh : IsGrp m ys d) :
    Calls Tryz.prog 9 #[.agg #[.int .i64 n, v], .agg #[.int .i64 m, y]] w fun x w' => x = .returned (.agg #[.int .i64 0, .int .i64 0]) ∧ Below w.heap.size w w' := by
  obtain ⟨w0, BG⟩ := BegF.new w n m v y
  have HG := hide (groupFault_any n v zs w0 (hv.below BG.bel))
  have HH := hide (fun W (h : Below w.heap.size w W) => groupFault_any m y ys W (hy.below h))
  rw [gfault_of_grp hg] at HG
  rw [gfault_of_grp hh] at HH
  obtain ⟨e0, e1, _, _⟩ := BG.box.two
  rw [BG.eq] at e0 e1
  go_enter Tryz.func9, Tryz.ntmps9
  go_wp2_with fail
  rw [← BG.eq]
  clear e0 e1
  refine HG.out.mono ?_
  rintro x w1 ⟨rfl, hb1⟩
  have hb2 := bcat2 hb1 (balloc w1 (.cells #[.int .i64 0, .int .i64 0] 26))
  have hF2 := blk0 (w := w1) (T := 26) (.int .i64 0) (.int .i64 0)
  have hBw := bcat BG.bel hb2 BG.bel.size
  have hY2 := blk_below BG.boy hb2
  have hR2 := blk_below BG.res hb2
  obtain ⟨t0, t1, _, _⟩ := hF2.two
  obtain ⟨k0, k1, _, _⟩ := hY2.two
  go_wp2_with fail
  generalize w1.alloc (.cells #[.int .i64 0, .int .i64 0] 26) = w2 at *
  clear t0 t1 k0 k1
  refine (HH.out _ hBw).mono ?_
  rintro x w3 ⟨rfl, hb3⟩
  have hF3 := blk_below hF2 hb3
  have hR3 := blk_below hR2 hb3
  have hB3 := bcat2 hBw hb3
  obtain ⟨t0, t1, ft0, ft1⟩ := hF3.two
  obtain ⟨s0, s1⟩ := hF3.self
  obtain ⟨y0, y1, fy0, fy1⟩ := hR3.two
  obtain ⟨s2, s3⟩ := hR3.self
  go_wp2
  exact bodyPost_ret (v := .agg #[.int .i64 0, .int .i64 0]) (by simp [results, Tryz.results9, go_sem, y0, y1]) rfl ⟨rfl, hB3⟩
set_option maxRecDepth 100000 in
set_option maxHeartbeats 4000000 in
theorem rhom_good (n e m d : Nat) (v y mv : Value) (zs ys ms : List Int) (φ : Nat → Nat) (w : World) (hv : Sl w v zs) (hg : IsGrp n zs e) (hy : Sl w y ys) (hh : IsGrp m ys d) (hm : Sl w mv ms) (hl : ms.length = n) (H : IsHom n zs m ys φ) (hφ : ∀ a, a < n → ms[a]?.getD 0 = (φ a : Int)) :
    Calls Tryz.prog 11 #[.agg #[.int .i64 n, v], .agg #[.int .i64 m, y], mv] w fun x w' => x = .returned (.agg #[.int .i64 0, .int .i64 0]) ∧ Below w.heap.size w w' := by
  have hn := hg.tab.le
  obtain ⟨w0, BG⟩ := BegF.new w n m v y
  have HTW := hide (rtwo_good n e m d v y zs ys w0 (hv.below BG.bel) hg (hy.below BG.bel) hh)
  have HMG := hide (fun W a b (h : Below w.heap.size w W) (ha : a < n) (hb : b < n) => M_ok n v zs a b W hg.tab (hv.below h) ha hb)
  have HMH := hide (fun W a b (h : Below w.heap.size w W) (ha : a < m) (hb : b < m) => M_ok m y ys a b W hh.tab (hy.below h) ha hb)
  have HTL := hide (fun a b (ha : a < n) (hb : b < n) => tm_lt hg.tab ha hb)
  have HLT := hide H.lt
  have HMU := hide H.mul
  obtain ⟨ma, mc, mb, mo, rfl, hmr, hmb, _, hmm⟩ := hm
  have HMA := hide (fun (h : 0 < n) => hmr.at_ (by omega))
  have HMC := hide (fun i (h : i < n) => (hmr.cell i (by omega)).trans (by rw [hφ i h]))
  rw [hl] at *
  clear hmr hmm hl hφ
  obtain ⟨e0, e1, _, _⟩ := BG.box.two
  obtain ⟨k0, k1, _, _⟩ := BG.boy.two
  rw [BG.eq] at e0 e1 k0 k1
  go_enter Tryz.func11, Tryz.ntmps11
  go_wp2_with fail
  rw [← BG.eq]
  clear e0 e1 k0 k1
  refine HTW.out.mono ?_
  rintro x w1 ⟨rfl, hb1⟩
  obtain ⟨w2, hw2⟩ : ∃ w2, w2 = w1.alloc (.cells #[.int .i64 0, .int .i64 0] 26) := ⟨_, rfl⟩
  have hb2 : Below w0.heap.size w0 w2 := by rw [hw2]; exact bcat2 hb1 (balloc w1 _)
  have hF2 : Blk w2 w1.heap.size 26 [.int .i64 0, .int .i64 0] := by rw [hw2]; exact blk0 _ _
  have hBw2 := bcat BG.bel hb2 BG.bel.size
  have hX2 := blk_below BG.box hb2
  have hY2 := blk_below BG.boy hb2
  have hR2 := blk_below BG.res hb2
  obtain ⟨t0, t1, _, _⟩ := hF2.two
  obtain ⟨g0, g1, _, _⟩ := hX2.two
  obtain ⟨k0, k1, _, _⟩ := hY2.two
  have hS : ∀ W, Below w2.heap.size w2 W → (Below w2.heap.size w2 W ∧ W.cell? ⟨w.heap.size, 0, none⟩ = some (.int .i64 n) ∧ W.cell? ⟨w.heap.size, 1, none⟩ = some v ∧ W.cell? ⟨w.heap.size + 1, 0, none⟩ = some (.int .i64 m) ∧ W.cell? ⟨w.heap.size + 1, 1, none⟩ = some y) := fun W h => ⟨h, below_cell h g0, below_cell h g1, below_cell h k0, below_cell h k1⟩
  rw [hw2] at t0 t1 g0 g1 k0 k1
  go_wp2
  rw [← hw2]
  clear hw2 t0 t1 g0 g1 k0 k1
  go_loopw [8] (fun i wr => ∃ a : Nat, a ≤ n ∧ i = .int .i64 a ∧ Below w2.heap.size w2 wr) (fun i _ => n - (intOf i).toNat)
  case atStart => exact ⟨0, Nat.zero_le _, rfl, Below.refl _ _⟩
  case round =>
    obtain ⟨a, ha, rfl, hB⟩ := hrel
    obtain ⟨_, g0, g1, k0, k1⟩ := hS _ hB
    have hBw := bcat2 hBw2 hB
    by_cases hlt : a < n
    · have hai : (a : Int) < (n : Int) := by omega
      obtain rfl := HMA.out (by omega)
      have ca := below_cell hBw (HMC.out a hlt)
      have hfa := HLT.out a hlt
      generalize φ a = fa at *
      have hd1 : decide ((fa : Int) < 0) = false := decide_eq_false (by omega)
      have hd2 : decide ((m : Int) ≤ (fa : Int)) = false := decide_eq_false (by omega)
      have hd3 : decide (m ≤ fa) = false := decide_eq_false (by omega)
      have hd4 : ¬ (m ≤ fa) := by omega
      go_wp2_with fail
      go_quiet (fail)
      have hBq := bdrewN hB nq
      generalize wr.drewN nq = wq at hBq ⊢
      go_wp2
      go_roundw
      case rel => exact ⟨a + 1, by omega, by go_num, hBq⟩
      case measure => simp [intOf]; omega
    · have hai : ¬ (a : Int) < (n : Int) := by omega
      obtain ⟨wo, rfl⟩ : ∃ wo, wo = wr := ⟨_, rfl⟩
      go_wp2
      go_loopw [9] (fun i wr => ∃ a : Nat, a ≤ n ∧ i = .int .i64 a ∧ Below w2.heap.size w2 wr) (fun i _ => n - (intOf i).toNat)
      case atStart => exact ⟨0, Nat.zero_le _, rfl, hB⟩
      case round =>
        clear g0 g1 k0 k1 hB hBw
        obtain ⟨a, ha, rfl, hB⟩ := hrel
        obtain ⟨_, g0, g1, k0, k1⟩ := hS _ hB
        by_cases hlt : a < n
        · have hai : (a : Int) < (n : Int) := by omega
          go_wp2
          go_loopw [10] (fun i wr => ∃ b : Nat, b ≤ n ∧ i = .int .i64 b ∧ Below w2.heap.size w2 wr) (fun i _ => n - (intOf i).toNat)
          case atStart => exact ⟨0, Nat.zero_le _, rfl, hB⟩
          case round =>
            clear g0 g1 k0 k1 hB
            obtain ⟨b, hb, rfl, hB⟩ := hrel
            obtain ⟨_, g0, g1, k0, k1⟩ := hS _ hB
            by_cases hltb : b < n
            · have hbi : (b : Int) < (n : Int) := by omega
              obtain rfl := HMA.out (by omega)
              have hab := HTL.out a b hlt hltb
              have hBw := bcat2 hBw2 hB
              have ca := below_cell hBw (HMC.out a hlt)
              have cb := below_cell hBw (HMC.out b hltb)
              have cab := below_cell hBw (HMC.out _ hab)
              have HA := hide (fun W (h : Below w.heap.size w W) => HMG.out W a b h hlt hltb)
              have HQ := hide (fun W (h : Below w.heap.size w W) => HMH.out W (φ a) (φ b) h (HLT.out a hlt) (HLT.out b hltb))
              rw [← HMU.out a b hlt hltb] at HQ
              generalize φ (tm n zs a b) = fab at *
              generalize φ a = fa at *
              generalize φ b = fb at *
              generalize tm n zs a b = d9 at *
              have hdi : (d9 : Int) < (n : Int) := by omega
              have hS' : ∀ W, Below wr.heap.size wr W → (Below wr.heap.size wr W ∧ W.cell? ⟨mb, mo + a, none⟩ = some (.int .i64 (fa : Int)) ∧ W.cell? ⟨mb, mo + b, none⟩ = some (.int .i64 (fb : Int)) ∧ W.cell? ⟨mb, mo + d9, none⟩ = some (.int .i64 (fab : Int)) ∧ W.cell? ⟨w.heap.size, 0, none⟩ = some (.int .i64 n) ∧ W.cell? ⟨w.heap.size, 1, none⟩ = some v ∧ W.cell? ⟨w.heap.size + 1, 0, none⟩ = some (.int .i64 m) ∧ W.cell? ⟨w.heap.size + 1, 1, none⟩ = some y) := fun W h => ⟨h, below_cell h ca, below_cell h cb, below_cell h cab, below_cell h g0, below_cell h g1, below_cell h k0, below_cell h k1⟩
              have hS1 := hS' _ (bdrew (Below.refl _ wr))
              have hk1 : Hid True := trivial
              go_wp2_with fail
              go_region_held3 (fun W => Below wr.heap.size wr W ∧ W.cell? ⟨mb, mo + a, none⟩ = some (.int .i64 (fa : Int)) ∧ W.cell? ⟨mb, mo + b, none⟩ = some (.int .i64 (fb : Int)) ∧ W.cell? ⟨mb, mo + d9, none⟩ = some (.int .i64 (fab : Int)) ∧ W.cell? ⟨w.heap.size, 0, none⟩ = some (.int .i64 n) ∧ W.cell? ⟨w.heap.size, 1, none⟩ = some v ∧ W.cell? ⟨w.heap.size + 1, 0, none⟩ = some (.int .i64 m) ∧ W.cell? ⟨w.heap.size + 1, 1, none⟩ = some y)
                (first | exact hS1 | assumption | exact hS' _ (bcat2 (And.left ‹_›) hl1))
                (first
                  | (go_at_call 45; clear hk1; refine (HQ.out _ (bcat2 hBw (And.left ‹_›))).mono ?_; rintro e1 U1 ⟨rfl, hl1⟩)
                  | (go_at_call 45; refine (HA.out _ (bcat2 hBw (And.left ‹_›))).mono ?_; rintro e2 U2 ⟨rfl, hl1⟩))
              all_goals (
                have hB9 := bcat2 hB (And.left ‹Below wr.heap.size wr U2 ∧ _›)
                go_wp2
                go_roundw
                case rel => exact ⟨b + 1, by omega, by go_num, hB9⟩
                case measure => simp [intOf]; omega)
            · have hbi : ¬ (b : Int) < (n : Int) := by omega
              go_wp2
              go_roundw
              case rel => exact ⟨a + 1, by omega, by go_num, hB⟩
              case measure => simp [intOf]; omega
        · have hai : ¬ (a : Int) < (n : Int) := by omega
          have hR9 := blk_below hR2 hB
          have hB9 := bcat2 hBw2 hB
          obtain ⟨y0, y1, fy0, fy1⟩ := hR9.two
          obtain ⟨s2, s3⟩ := hR9.self
          go_wp2
          exact bodyPost_ret (v := .agg #[.int .i64 0, .int .i64 0]) (by simp [results, Tryz.results11, go_sem, y0, y1]) rfl ⟨rfl, hB9⟩
end Go.Proofs.YtlhjeenijcokoaaGreatDoor
