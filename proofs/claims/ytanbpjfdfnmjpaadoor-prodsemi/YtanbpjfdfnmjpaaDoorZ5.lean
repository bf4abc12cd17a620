/- Package hom: opened, openedWith, strays, Check, Image; what is wrong with two tables and a list as a map; the document's TwoGroups and HomFault of a homomorphism; homomorphisms into what commutes. Condition: the library's table of places lies as its text lays it. The document's TwoGroups, HomFault and Then, at everything. -/
import Derived.Test.YtanbpjfdfnmjpaaDoorZ3
import Derived.Test.YtanbpjfdfnmjpaaDoorZ2
import Derived.Test.YtanbpjfdfnmjpaaDoorZ4
import Derived.Deep.AppendLies
import Derived.Deep.RegionLaw
namespace Go.Proofs.YtanbpjfdfnmjpaaDoor
open Go Go.RowKit

/-- A block of eight cells, with all that a walk asks of it. -/
structure Eight (W : World) (b : Nat) (x0 x1 x2 x3 x4 x5 x6 x7 : Value) : Prop where
  blk : Blk W b 90 [x0, x1, x2, x3, x4, x5, x6, x7]
  c0 : W.cell? ⟨b, 0, none⟩ = some x0
  c1 : W.cell? ⟨b, 1, none⟩ = some x1
  c2 : W.cell? ⟨b, 2, none⟩ = some x2
  c3 : W.cell? ⟨b, 3, none⟩ = some x3
  c4 : W.cell? ⟨b, 4, none⟩ = some x4
  c5 : W.cell? ⟨b, 5, none⟩ = some x5
  c6 : W.cell? ⟨b, 6, none⟩ = some x6
  c7 : W.cell? ⟨b, 7, none⟩ = some x7
structure EightF (W : World) (b : Nat) : Prop where
  f0 : W.frozen? ⟨b, 0, none⟩ = false
  f1 : W.frozen? ⟨b, 1, none⟩ = false
  f2 : W.frozen? ⟨b, 2, none⟩ = false
  f3 : W.frozen? ⟨b, 3, none⟩ = false
  f4 : W.frozen? ⟨b, 4, none⟩ = false
  f5 : W.frozen? ⟨b, 5, none⟩ = false
  f6 : W.frozen? ⟨b, 6, none⟩ = false
  f7 : W.frozen? ⟨b, 7, none⟩ = false
structure EightS (W : World) (b : Nat) (x0 x1 x2 x3 x4 x5 x6 x7 : Value) : Prop where
  s0 : W.setCell ⟨b, 0, none⟩ x0 = W
  s1 : W.setCell ⟨b, 1, none⟩ x1 = W
  s2 : W.setCell ⟨b, 2, none⟩ x2 = W
  s3 : W.setCell ⟨b, 3, none⟩ x3 = W
  s4 : W.setCell ⟨b, 4, none⟩ x4 = W
  s5 : W.setCell ⟨b, 5, none⟩ x5 = W
  s6 : W.setCell ⟨b, 6, none⟩ x6 = W
  s7 : W.setCell ⟨b, 7, none⟩ x7 = W
section
variable {W : World} {b : Nat} {x0 x1 x2 x3 x4 x5 x6 x7 : Value}
theorem Eight.mk' (h : Blk W b 90 [x0, x1, x2, x3, x4, x5, x6, x7]) : Eight W b x0 x1 x2 x3 x4 x5 x6 x7 := ⟨h, h.cell 0, h.cell 1, h.cell 2, h.cell 3, h.cell 4, h.cell 5, h.cell 6, h.cell 7⟩
theorem Eight.fr (h : Blk W b 90 [x0, x1, x2, x3, x4, x5, x6, x7]) : EightF W b := ⟨h.frozen 0, h.frozen 1, h.frozen 2, h.frozen 3, h.frozen 4, h.frozen 5, h.frozen 6, h.frozen 7⟩
theorem Eight.se (h : Blk W b 90 [x0, x1, x2, x3, x4, x5, x6, x7]) : EightS W b x0 x1 x2 x3 x4 x5 x6 x7 := ⟨set_same _ _ _ _ (h.cell 0), set_same _ _ _ _ (h.cell 1), set_same _ _ _ _ (h.cell 2), set_same _ _ _ _ (h.cell 3), set_same _ _ _ _ (h.cell 4), set_same _ _ _ _ (h.cell 5), set_same _ _ _ _ (h.cell 6), set_same _ _ _ _ (h.cell 7)⟩
end
/-- What lies where a function begins that takes two tables and answers a pair and a fault. -/
structure BegP (w w0 : World) (N M : Int) (v y : Value) : Prop where
  eq : w0 = (((w.alloc (.cells #[.int .i64 N, v] 24)).alloc (.cells #[.int .i64 M, y] 24)).alloc (.cells #[.int .i64 0, .slice none 0 0, .int .i64 0, .slice none 0 0, .int .i64 0, .slice none 0 0, .int .i64 0, .slice none 0 0] 90)).alloc (.cells #[.int .i64 0, .int .i64 0] 28)
  bel : Below w.heap.size w w0
  box : BoxG w0 w.heap.size N v
  boy : BoxG w0 (w.heap.size + 1) M y
  par : Blk w0 (w.heap.size + 1 + 1) 90 [.int .i64 0, .slice none 0 0, .int .i64 0, .slice none 0 0, .int .i64 0, .slice none 0 0, .int .i64 0, .slice none 0 0]
  res : Blk w0 (w.heap.size + 1 + 1 + 1) 28 [.int .i64 0, .int .i64 0]
  siz : w0.heap.size = w.heap.size + 1 + 1 + 1 + 1
theorem BegP.new (w : World) (N M : Int) (v y : Value) : ∃ w0, BegP w w0 N M v y := by
  refine ⟨_, rfl, (((balloc w _).alloc (by simp) _).alloc (by simp; omega) _).alloc (by simp; omega) _, (((blk0 (w := w) (T := 24) _ _).alloc _).alloc _).alloc _, ?_, ?_, ?_, by simp⟩
  · have h := ((blk0 (w := w.alloc (.cells #[.int .i64 N, v] 24)) (T := 24) (.int .i64 M) y).alloc (.cells #[.int .i64 0, .slice none 0 0, .int .i64 0, .slice none 0 0, .int .i64 0, .slice none 0 0, .int .i64 0, .slice none 0 0] 90)).alloc (.cells #[.int .i64 0, .int .i64 0] 28)
    rw [World.size_alloc] at h
    exact h
  · have h : Blk (((w.alloc (.cells #[.int .i64 N, v] 24)).alloc (.cells #[.int .i64 M, y] 24)).alloc (.cells #[.int .i64 0, .slice none 0 0, .int .i64 0, .slice none 0 0, .int .i64 0, .slice none 0 0, .int .i64 0, .slice none 0 0] 90)) ((w.alloc (.cells #[.int .i64 N, v] 24)).alloc (.cells #[.int .i64 M, y] 24)).heap.size 90 [.int .i64 0, .slice none 0 0, .int .i64 0, .slice none 0 0, .int .i64 0, .slice none 0 0, .int .i64 0, .slice none 0 0] := World.alloc_heap_new _ _
    have h := h.alloc (.cells #[.int .i64 0, .int .i64 0] 28)
    rw [World.size_alloc, World.size_alloc] at h
    exact h
  · have h := blk0 (w := ((w.alloc (.cells #[.int .i64 N, v] 24)).alloc (.cells #[.int .i64 M, y] 24)).alloc (.cells #[.int .i64 0, .slice none 0 0, .int .i64 0, .slice none 0 0, .int .i64 0, .slice none 0 0, .int .i64 0, .slice none 0 0] 90)) (T := 28) (.int .i64 0) (.int .i64 0)
    rw [World.size_alloc, World.size_alloc, World.size_alloc] at h
    exact h
set_option maxRecDepth 100000 in
set_option maxHeartbeats 8000000 in
theorem pair_bad1 (N M : Int) (v y : Value) (zs : List Int) (w : World) (hv : Sl w v zs) (hc : (gfault N zs).1 ≠ 0) :
    Calls Tryd.prog 86 #[.agg #[.int .i64 N, v], .agg #[.int .i64 M, y]] w fun x w' => x = .returned (.tuple #[.agg #[.int .i64 0, .slice none 0 0, .int .i64 0, .slice none 0 0, .int .i64 0, .slice none 0 0, .int .i64 0, .slice none 0 0], .agg #[.int .i64 (gfault N zs).1, .int .i64 (gfault N zs).2]]) ∧ Below w.heap.size w w' := by
  obtain ⟨w0, BG⟩ := BegP.new w N M v y
  have HCK := hide (opened_bad N v zs w0 (hv.below BG.bel) hc)
  obtain ⟨c0, c1, _, _⟩ := BG.box.two
  obtain ⟨c, i, hci⟩ : ∃ c i, gfault N zs = (c, i) := ⟨_, _, rfl⟩
  rw [hci] at HCK hc ⊢
  simp only at HCK hc ⊢
  clear hci
  have hcb : (c != 0) = true := by simpa using hc
  rw [BG.eq] at c0 c1
  go_enter Tryd.func86, Tryd.ntmps86
  go_wp2_with fail
  rw [← BG.eq]
  clear c0 c1
  refine HCK.out.mono ?_
  rintro x w1 ⟨rfl, hb1⟩
  obtain ⟨w2, hw2⟩ : ∃ w2, w2 = (w1.alloc (.cells #[.int .i64 0, .slice none 0 0, .int .i64 0, .slice none 0 0] 61)).alloc (.cells #[.int .i64 c, .int .i64 i] 28) := ⟨_, rfl⟩
  have hB1 : Below w0.heap.size w0 w2 := by rw [hw2]; exact bcat2 hb1 ((balloc w1 _).alloc (by simp) _)
  have hF1 : Blk w2 (w1.heap.size + 1) 28 [.int .i64 c, .int .i64 i] := by
    rw [hw2]
    have := blk0 (w := w1.alloc (.cells #[.int .i64 0, .slice none 0 0, .int .i64 0, .slice none 0 0] 61)) (T := 28) (.int .i64 c) (.int .i64 i)
    rwa [World.size_alloc] at this
  have hR1 := blk_below BG.res hB1
  have hP1 := blk_below BG.par hB1
  have hBw := bcat BG.bel hB1 BG.bel.size
  obtain ⟨y0, y1, fy0, fy1⟩ := hR1.two
  obtain ⟨t0, t1, _, _⟩ := hF1.two
  obtain ⟨hR6, hB6⟩ := put2 hR1 hBw (by omega) c i
  have hP6 := (hP1.other (p := ⟨w.heap.size + 1 + 1 + 1, 0, none⟩) (by simp) (.int .i64 c)).other (p := ⟨w.heap.size + 1 + 1 + 1, 1, none⟩) (by simp) (.int .i64 i)
  have hB7 := bdrew hB6
  rw [hw2] at t0 t1
  go_wp2_with fail
  rw [← hw2] at t0 t1 ⊢
  clear hw2
  obtain ⟨_, p0, p1, p2, p3, p4, p5, p6, p7⟩ := Eight.mk' hP1
  obtain ⟨q0, q1, q2, q3, q4, q5, q6, q7⟩ := Eight.fr hP1
  obtain ⟨s0, s1, s2, s3, s4, s5, s6, s7⟩ := Eight.se hP1
  obtain ⟨u0, u1, u2, u3, u4, u5, u6, u7⟩ := Eight.se hP6
  obtain ⟨_, m0, m1, m2, m3, m4, m5, m6, m7⟩ := Eight.mk' hP6
  go_region
  all_goals (
    go_wp2
    obtain ⟨z0, z1, _, _⟩ := hR6.two
    exact bodyPost_ret (v := .tuple #[.agg #[.int .i64 0, .slice none 0 0, .int .i64 0, .slice none 0 0, .int .i64 0, .slice none 0 0, .int .i64 0, .slice none 0 0], .agg #[.int .i64 c, .int .i64 i]]) (by simp [results, Tryd.results86, go_sem, z0, z1, m0, m1, m2, m3, m4, m5, m6, m7]) rfl ⟨rfl, hB7⟩)
end Go.Proofs.YtanbpjfdfnmjpaaDoor

namespace Go.Proofs.YtanbpjfdfnmjpaaDoor
open Go Go.RowKit

set_option maxRecDepth 100000 in
set_option maxHeartbeats 8000000 in
theorem pair_bad2 (n e : Nat) (M : Int) (v y : Value) (zs ys : List Int) (w : World) (hv : Sl w v zs) (hg : IsGrp n zs e) (hy : Sl w y ys) (hc : (gfault M ys).1 ≠ 0) :
    Calls Tryd.prog 86 #[.agg #[.int .i64 n, v], .agg #[.int .i64 M, y]] w fun x w' => x = .returned (.tuple #[.agg #[.int .i64 0, .slice none 0 0, .int .i64 0, .slice none 0 0, .int .i64 0, .slice none 0 0, .int .i64 0, .slice none 0 0], .agg #[.int .i64 (gfault M ys).1, .int .i64 (gfault M ys).2]]) ∧ Below w.heap.size w w' := by
  obtain ⟨va, vl, vc, rfl⟩ := hv.isSlice
  obtain ⟨w0, BG⟩ := BegP.new w n M (.slice va vl vc) y
  have HCK := hide (opened_good n e (.slice va vl vc) zs w0 (hv.below BG.bel) hg)
  have HCL := hide (fun W (h : Below w.heap.size w W) => opened_bad M y ys W (hy.below h) hc)
  obtain ⟨c0, c1, _, _⟩ := BG.box.two
  obtain ⟨c, i, hci⟩ : ∃ c i, gfault M ys = (c, i) := ⟨_, _, rfl⟩
  rw [hci] at HCL hc ⊢
  simp only at HCL hc ⊢
  clear hci
  have hcb : (c != 0) = true := by simpa using hc
  rw [BG.eq] at c0 c1
  go_enter Tryd.func86, Tryd.ntmps86
  go_wp2_with fail
  rw [← BG.eq]
  clear c0 c1
  refine HCK.out.mono ?_
  rintro x w1 ⟨iv9, rfl, hSI, hb1⟩
  obtain ⟨ia, il, ic, rfl⟩ := hSI.sl.isSlice
  obtain ⟨w2, hw2⟩ : ∃ w2, w2 = (w1.alloc (.cells #[.int .i64 n, .slice va vl vc, .int .i64 e, .slice ia il ic] 61)).alloc (.cells #[.int .i64 0, .int .i64 0] 28) := ⟨_, rfl⟩
  have hB1 : Below w0.heap.size w0 w2 := by rw [hw2]; exact bcat2 hb1 ((balloc w1 _).alloc (by simp) _)
  have hF1 : Blk w2 (w1.heap.size + 1) 28 [.int .i64 0, .int .i64 0] := by
    rw [hw2]
    have := blk0 (w := w1.alloc (.cells #[.int .i64 n, .slice va vl vc, .int .i64 e, .slice ia il ic] 61)) (T := 28) (.int .i64 0) (.int .i64 0)
    rwa [World.size_alloc] at this
  have hBw2 := bcat BG.bel hB1 BG.bel.size
  have hY2 := blk_below BG.boy hB1
  obtain ⟨t0, t1, _, _⟩ := hF1.two
  obtain ⟨k0, k1, _, _⟩ := hY2.two
  have hw1s := hb1.size
  rw [BG.siz] at hw1s
  rw [hw2] at t0 t1 k0 k1
  go_wp2_with fail
  rw [← hw2]
  clear hw2 t0 t1 k0 k1
  refine (HCL.out _ hBw2).mono ?_
  rintro x w3 ⟨rfl, hb3⟩
  have hb4 := balloc w3 (.cells #[.int .i64 0, .slice none 0 0, .int .i64 0, .slice none 0 0] 61)
  have hb24 := bcat2 hb3 hb4
  have hF4 := blk_below hF1 hb24
  have hBw4 := bcat2 hBw2 hb24
  have hR4 := blk_below (blk_below BG.res hB1) hb24
  have hP4 := blk_below (blk_below BG.par hB1) hb24
  obtain ⟨t0, t1, ft0, ft1⟩ := hF4.two
  have hF5 := (hF4.set 0 (.int .i64 c)).set 1 (.int .i64 i)
  have hR5 := (hR4.other (p := ⟨w1.heap.size + 1, 0, none⟩) (by simp; omega) (.int .i64 c)).other (p := ⟨w1.heap.size + 1, 1, none⟩) (by simp; omega) (.int .i64 i)
  have hP5 := (hP4.other (p := ⟨w1.heap.size + 1, 0, none⟩) (by simp; omega) (.int .i64 c)).other (p := ⟨w1.heap.size + 1, 1, none⟩) (by simp; omega) (.int .i64 i)
  have hB5 := (hBw4.setCell (p := ⟨w1.heap.size + 1, 0, none⟩) (by simp; omega) (.int .i64 c)).setCell (p := ⟨w1.heap.size + 1, 1, none⟩) (by simp; omega) (.int .i64 i)
  obtain ⟨e0, e1, _, _⟩ := hF5.two
  go_wp2_with fail
  generalize ((w3.alloc (.cells #[.int .i64 0, .slice none 0 0, .int .i64 0, .slice none 0 0] 61)).setCell ⟨w1.heap.size + 1, 0, none⟩ (.int .i64 c)).setCell ⟨w1.heap.size + 1, 1, none⟩ (.int .i64 i) = w5 at *
  clear t0 t1 ft0 ft1 hF4 hR4 hP4
  obtain ⟨y0, y1, fy0, fy1⟩ := hR5.two
  obtain ⟨hR6, hB6⟩ := put2 hR5 hB5 (by omega) c i
  have hP6 := (hP5.other (p := ⟨w.heap.size + 1 + 1 + 1, 0, none⟩) (by simp) (.int .i64 c)).other (p := ⟨w.heap.size + 1 + 1 + 1, 1, none⟩) (by simp) (.int .i64 i)
  have hB7 := bdrew hB6
  obtain ⟨_, p0, p1, p2, p3, p4, p5, p6, p7⟩ := Eight.mk' hP5
  obtain ⟨q0, q1, q2, q3, q4, q5, q6, q7⟩ := Eight.fr hP5
  obtain ⟨s0, s1, s2, s3, s4, s5, s6, s7⟩ := Eight.se hP5
  obtain ⟨u0, u1, u2, u3, u4, u5, u6, u7⟩ := Eight.se hP6
  obtain ⟨_, m0, m1, m2, m3, m4, m5, m6, m7⟩ := Eight.mk' hP6
  go_region
  all_goals (
    go_wp2
    obtain ⟨z0, z1, _, _⟩ := hR6.two
    exact bodyPost_ret (v := .tuple #[.agg #[.int .i64 0, .slice none 0 0, .int .i64 0, .slice none 0 0, .int .i64 0, .slice none 0 0, .int .i64 0, .slice none 0 0], .agg #[.int .i64 c, .int .i64 i]]) (by simp [results, Tryd.results86, go_sem, z0, z1, m0, m1, m2, m3, m4, m5, m6, m7]) rfl ⟨rfl, hB7⟩)
theorem eight_set {W w : World} {b : Nat} {x0 x1 x2 x3 x4 x5 x6 x7 : Value} (h : Blk W b 90 [x0, x1, x2, x3, x4, x5, x6, x7]) (hB : Below w.heap.size w W) (hb : w.heap.size ≤ b) (y0 y1 y2 y3 y4 y5 y6 y7 : Value) :
    Blk ((((((((W.setCell ⟨b, 0, none⟩ y0).setCell ⟨b, 1, none⟩ y1).setCell ⟨b, 2, none⟩ y2).setCell ⟨b, 3, none⟩ y3).setCell ⟨b, 4, none⟩ y4).setCell ⟨b, 5, none⟩ y5).setCell ⟨b, 6, none⟩ y6).setCell ⟨b, 7, none⟩ y7) b 90 [y0, y1, y2, y3, y4, y5, y6, y7] ∧
    Below w.heap.size w ((((((((W.setCell ⟨b, 0, none⟩ y0).setCell ⟨b, 1, none⟩ y1).setCell ⟨b, 2, none⟩ y2).setCell ⟨b, 3, none⟩ y3).setCell ⟨b, 4, none⟩ y4).setCell ⟨b, 5, none⟩ y5).setCell ⟨b, 6, none⟩ y6).setCell ⟨b, 7, none⟩ y7) :=
  ⟨(((((((h.set 0 _).set 1 _).set 2 _).set 3 _).set 4 _).set 5 _).set 6 _).set 7 _, (((((((hB.setCell (p := ⟨b, 0, none⟩) hb _).setCell (p := ⟨b, 1, none⟩) hb _).setCell (p := ⟨b, 2, none⟩) hb _).setCell (p := ⟨b, 3, none⟩) hb _).setCell (p := ⟨b, 4, none⟩) hb _).setCell (p := ⟨b, 5, none⟩) hb _).setCell (p := ⟨b, 6, none⟩) hb _).setCell (p := ⟨b, 7, none⟩) hb _⟩
theorem eight_far {W : World} {b : Nat} (y0 y1 y2 y3 y4 y5 y6 y7 : Value) {g : Nat} (hg : g ≠ b) :
    ((((((((W.setCell ⟨b, 0, none⟩ y0).setCell ⟨b, 1, none⟩ y1).setCell ⟨b, 2, none⟩ y2).setCell ⟨b, 3, none⟩ y3).setCell ⟨b, 4, none⟩ y4).setCell ⟨b, 5, none⟩ y5).setCell ⟨b, 6, none⟩ y6).setCell ⟨b, 7, none⟩ y7).heap[g]? = W.heap[g]? := by
  have h : ∀ (V : World) k z, (V.setCell ⟨b, k, none⟩ z).heap[g]? = V.heap[g]? := fun V k z => Below.heap_setCell _ _ _ g (by simpa using hg)
  rw [h, h, h, h, h, h, h, h]
theorem eight_size {W : World} {b : Nat} (y0 y1 y2 y3 y4 y5 y6 y7 : Value) :
    ((((((((W.setCell ⟨b, 0, none⟩ y0).setCell ⟨b, 1, none⟩ y1).setCell ⟨b, 2, none⟩ y2).setCell ⟨b, 3, none⟩ y3).setCell ⟨b, 4, none⟩ y4).setCell ⟨b, 5, none⟩ y5).setCell ⟨b, 6, none⟩ y6).setCell ⟨b, 7, none⟩ y7).heap.size = W.heap.size := by
  simp only [size_set]
set_option maxRecDepth 100000 in
set_option maxHeartbeats 8000000 in
theorem pair_good (n e m d : Nat) (v y : Value) (zs ys : List Int) (w : World) (hv : Sl w v zs) (hg : IsGrp n zs e) (hy : Sl w y ys) (hh : IsGrp m ys d) :
    Calls Tryd.prog 86 #[.agg #[.int .i64 n, v], .agg #[.int .i64 m, y]] w fun x w' => ∃ u t, x = .returned (.tuple #[.agg #[.int .i64 n, v, .int .i64 e, u, .int .i64 m, y, .int .i64 d, t], .agg #[.int .i64 0, .int .i64 0]]) ∧ SlF w.heap.size w' u (li ((List.range n).map (iv n zs e))) ∧ SlF w.heap.size w' t (li ((List.range m).map (iv m ys d))) ∧ Below w.heap.size w w' := by
  obtain ⟨va, vl, vc, rfl⟩ := hv.isSlice
  obtain ⟨ya, yl, yc, rfl⟩ := hy.isSlice
  obtain ⟨w0, BG⟩ := BegP.new w n m (.slice va vl vc) (.slice ya yl yc)
  have HCK := hide (opened_good n e (.slice va vl vc) zs w0 (hv.below BG.bel) hg)
  have HCL := hide (fun W (h : Below w.heap.size w W) => opened_good m d (.slice ya yl yc) ys W (hy.below h) hh)
  obtain ⟨c0, c1, _, _⟩ := BG.box.two
  rw [BG.eq] at c0 c1
  go_enter Tryd.func86, Tryd.ntmps86
  go_wp2_with fail
  rw [← BG.eq]
  clear c0 c1
  refine HCK.out.mono ?_
  rintro x w1 ⟨iv9, rfl, hSI, hb1⟩
  obtain ⟨ia, il, ic, rfl⟩ := hSI.sl.isSlice
  obtain ⟨w2, hw2⟩ : ∃ w2, w2 = (w1.alloc (.cells #[.int .i64 n, .slice va vl vc, .int .i64 e, .slice ia il ic] 61)).alloc (.cells #[.int .i64 0, .int .i64 0] 28) := ⟨_, rfl⟩
  have hb12 : Below w1.heap.size w1 w2 := by rw [hw2]; exact (balloc w1 _).alloc (by simp) _
  have hB1 : Below w0.heap.size w0 w2 := bcat2 hb1 hb12
  have hF1 : Blk w2 (w1.heap.size + 1) 28 [.int .i64 0, .int .i64 0] := by
    rw [hw2]
    have := blk0 (w := w1.alloc (.cells #[.int .i64 n, .slice va vl vc, .int .i64 e, .slice ia il ic] 61)) (T := 28) (.int .i64 0) (.int .i64 0)
    rwa [World.size_alloc] at this
  have hH2 : Blk w2 w1.heap.size 61 [.int .i64 n, (.slice va vl vc), .int .i64 e, (.slice ia il ic)] := by
    rw [hw2]; exact (blk4 _ _ _ _).alloc _
  have hBw2 := bcat BG.bel hB1 BG.bel.size
  have hY2 := blk_below BG.boy hB1
  have hSI2 := hSI.below hb12
  obtain ⟨t0, t1, _, _⟩ := hF1.two
  obtain ⟨k0, k1, _, _⟩ := hY2.two
  have hw1s := hb1.size
  rw [BG.siz] at hw1s
  rw [hw2] at t0 t1 k0 k1
  go_wp2_with fail
  rw [← hw2]
  clear hw2 t0 t1 k0 k1
  refine (HCL.out _ hBw2).mono ?_
  rintro x w3 ⟨jv9, rfl, hSJ, hb3⟩
  obtain ⟨ja, jl, jc, rfl⟩ := hSJ.sl.isSlice
  have hb4 := balloc w3 (.cells #[.int .i64 m, .slice ya yl yc, .int .i64 d, .slice ja jl jc] 61)
  have hJ4 := blk4 (w := w3) (T := 61) (.int .i64 m) (.slice ya yl yc) (.int .i64 d) (.slice ja jl jc)
  have hb24 := bcat2 hb3 hb4
  have hF4 := blk_below hF1 hb24
  have hH4 := blk_below hH2 hb24
  have hBw4 := bcat2 hBw2 hb24
  have hR4 := blk_below (blk_below BG.res hB1) hb24
  have hP4 := blk_below (blk_below BG.par hB1) hb24
  have hSI4 := (hSI2.below hb24)
  have hSJ4 := hSJ.below hb4
  have hPl := (blk_below BG.par hB1).lt
  obtain ⟨t0, t1, ft0, ft1⟩ := hF4.two
  obtain ⟨s0, s1⟩ := hF4.self
  obtain ⟨_, h0, h1, h2, h3, _⟩ := Four.mk' hH4
  obtain ⟨_, j0, j1, j2, j3, _⟩ := Four.mk' hJ4
  obtain ⟨_, p0, p1, p2, p3, p4, p5, p6, p7⟩ := Eight.mk' hP4
  obtain ⟨q0, q1, q2, q3, q4, q5, q6, q7⟩ := Eight.fr hP4
  obtain ⟨y0, y1, fy0, fy1⟩ := hR4.two
  obtain ⟨hP5, hB5⟩ := eight_set hP4 hBw4 (by omega) (.int .i64 n) (.slice va vl vc) (.int .i64 e) (.slice ia il ic) (.int .i64 m) (.slice ya yl yc) (.int .i64 d) (.slice ja jl jc)
  have hR5 := hR4.of_eq (eight_far (W := w3.alloc (.cells #[.int .i64 m, .slice ya yl yc, .int .i64 d, .slice ja jl jc] 61)) (b := w.heap.size + 1 + 1) (.int .i64 n) (.slice va vl vc) (.int .i64 e) (.slice ia il ic) (.int .i64 m) (.slice ya yl yc) (.int .i64 d) (.slice ja jl jc) (g := w.heap.size + 1 + 1 + 1) (by omega))
  obtain ⟨o0, o1⟩ := hR5.self
  obtain ⟨_, m0, m1, m2, m3, m4, m5, m6, m7⟩ := Eight.mk' hP5
  obtain ⟨z0, z1, _, _⟩ := hR5.two
  have hkeep : ∀ g, w.heap.size + 1 + 1 + 1 + 1 ≤ g → _ := fun g (hg9 : w.heap.size + 1 + 1 + 1 + 1 ≤ g) => eight_far (W := w3.alloc (.cells #[.int .i64 m, .slice ya yl yc, .int .i64 d, .slice ja jl jc] 61)) (b := w.heap.size + 1 + 1) (.int .i64 n) (.slice va vl vc) (.int .i64 e) (.slice ia il ic) (.int .i64 m) (.slice ya yl yc) (.int .i64 d) (.slice ja jl jc) (g := g) (by omega)
  have hSI5 := (hSI4.keep (fun g h1 _ => hkeep g (by rw [BG.siz] at h1; exact h1)) (by rw [eight_size]; exact Nat.le_refl _)).mono BG.bel.size
  have hw2s := hb12.size
  have hSJ5 := (hSJ4.keep (fun g h1 _ => hkeep g (by omega)) (by rw [eight_size]; exact Nat.le_refl _)).mono hBw2.size
  clear hkeep
  go_wp2
  exact bodyPost_ret (v := .tuple #[.agg #[.int .i64 n, .slice va vl vc, .int .i64 e, .slice ia il ic, .int .i64 m, .slice ya yl yc, .int .i64 d, .slice ja jl jc], .agg #[.int .i64 0, .int .i64 0]]) (by simp [results, Tryd.results86, go_sem, z0, z1, m0, m1, m2, m3, m4, m5, m6, m7]) rfl ⟨_, _, rfl, hSI5, hSJ5, hB5⟩
end Go.Proofs.YtanbpjfdfnmjpaaDoor

namespace Go.Proofs.YtanbpjfdfnmjpaaDoor
open Go Go.RowKit

set_option maxRecDepth 100000 in
set_option maxHeartbeats 4000000 in
theorem ghas_ok (n : Nat) (v u : Value) (e a : Int) (w : World) :
    Calls Tryd.prog 87 #[.agg #[.int .i64 n, v, .int .i64 e, u], .int .i64 a] w fun x w' => x = .returned (.bool (decide (0 ≤ a ∧ a < n))) ∧ Below w.heap.size w w' := by
  have hB0 : Below w.heap.size w (w.alloc (.cells #[.int .i64 n, v, .int .i64 e, u] 61)) := balloc w _
  have hX0 := blk4 (w := w) (T := 61) (.int .i64 n) v (.int .i64 e) u
  obtain ⟨_, c0, c1, c2, c3, _⟩ := Four.mk' hX0
  obtain ⟨bb, hbb⟩ : ∃ bb, bb = decide (0 ≤ a ∧ a < (n : Int)) := ⟨_, rfl⟩
  rw [← hbb]
  have HBB := hide hbb
  clear hbb
  by_cases h0 : 0 ≤ a
  · by_cases h1 : a < n
    · have HD := hide (show bb = true by rw [HBB.out]; exact decide_eq_true ⟨h0, h1⟩)
      go_enter Tryd.func87, Tryd.ntmps87
      go_wp2
      go_ret
      exact ⟨by rw [HD.out]; rfl, hB0⟩
    · have HD := hide (show bb = false by rw [HBB.out]; exact decide_eq_false (fun h => h1 h.2))
      go_enter Tryd.func87, Tryd.ntmps87
      go_wp2
      go_ret
      exact ⟨by rw [HD.out]; rfl, hB0⟩
  · have HD := hide (show bb = false by rw [HBB.out]; exact decide_eq_false (fun h => h0 h.1))
    go_enter Tryd.func87, Tryd.ntmps87
    go_wp2
    go_ret
    exact ⟨by rw [HD.out]; rfl, hB0⟩
/-- Is there a thing by which a product is not kept? -/
def stq (n : Nat) (zs : List Int) (m : Nat) (ys ms : List Int) (a : Nat) : Bool := (List.range n).any fun b => !decide (ms[tm n zs a b]?.getD 0 = (tm m ys (ms[a]?.getD 0).toNat (ms[b]?.getD 0).toNat : Int))
theorem stq_no {n : Nat} {zs : List Int} {m : Nat} {ys ms : List Int} {a : Nat} : stq n zs m ys ms a = false ↔ ∀ b, b < n → ms[tm n zs a b]?.getD 0 = (tm m ys (ms[a]?.getD 0).toNat (ms[b]?.getD 0).toNat : Int) := by
  unfold stq
  rw [List.any_eq_false]
  simp only [List.mem_range, Bool.not_eq_true, Bool.not_eq_false', decide_eq_true_eq]
theorem stq_yes {n : Nat} {zs : List Int} {m : Nat} {ys ms : List Int} {a b : Nat} (hb : b < n) (h : ¬ ms[tm n zs a b]?.getD 0 = (tm m ys (ms[a]?.getD 0).toNat (ms[b]?.getD 0).toNat : Int)) : stq n zs m ys ms a = true := by
  unfold stq
  rw [List.any_eq_true]
  exact ⟨b, List.mem_range.2 hb, by simpa using h⟩
set_option maxRecDepth 100000 in
set_option maxHeartbeats 8000000 in
theorem strays_ok (n m e d a : Nat) (v u y t mv : Value) (zs ys ms : List Int) (w : World) (ht : IsTab n zs) (hu : IsTab m ys) (hv : Sl w v zs) (hy : Sl w y ys) (hm : Sl w mv ms) (hl : ms.length = n) (hr : ∀ i, i < n → 0 ≤ ms[i]?.getD 0 ∧ ms[i]?.getD 0 < m) (ha : a < n) :
    Calls Tryd.prog 88 #[.agg #[.int .i64 n, v, .int .i64 e, u, .int .i64 m, y, .int .i64 d, t], mv, .int .i64 a] w fun x w' => x = .returned (.bool (stq n zs m ys ms a)) ∧ Below w.heap.size w w' := by
  have hn := ht.le
  have hB0 : Below w.heap.size w (w.alloc (.cells #[.int .i64 n, v, .int .i64 e, u, .int .i64 m, y, .int .i64 d, t] 90)) := balloc w _
  have hX0 : Blk (w.alloc (.cells #[.int .i64 n, v, .int .i64 e, u, .int .i64 m, y, .int .i64 d, t] 90)) w.heap.size 90 [.int .i64 n, v, .int .i64 e, u, .int .i64 m, y, .int .i64 d, t] := World.alloc_heap_new _ _
  have HP1 := hide (fun W b (h : Below w.heap.size w W) (hb : b < n) => prd_ok n v u zs e a b W ht (hv.below h) ha hb)
  have HP2 := hide (fun W i j (h : Below w.heap.size w W) (hi : i < m) (hj : j < m) => prd_ok m y t ys d i j W hu (hy.below h) hi hj)
  have HTL := hide (fun b (hb : b < n) => tm_lt ht ha hb)
  have HR := hide hr
  have HNO := hide (stq_no (n := n) (zs := zs) (m := m) (ys := ys) (ms := ms) (a := a))
  have HYES := hide (fun b (hb : b < n) h => stq_yes (n := n) (zs := zs) (m := m) (ys := ys) (ms := ms) (a := a) (b := b) hb h)
  obtain ⟨bb, hbb⟩ : ∃ bb, bb = stq n zs m ys ms a := ⟨_, rfl⟩
  rw [← hbb] at HNO HYES ⊢
  clear hbb hr
  obtain ⟨ma, mc, mb, mo, rfl, hmr, hmb, _, hmm⟩ := hm
  have HMA := hide (fun (h : 0 < n) => hmr.at_ (by omega))
  have HMC := hide (fun i (h : i < n) => hmr.cell i (by omega))
  rw [hl] at *
  clear hmr hmm hl
  obtain ⟨_, p0, p1, p2, p3, p4, p5, p6, p7⟩ := Eight.mk' hX0
  go_enter Tryd.func88, Tryd.ntmps88
  go_wp2
  generalize w.alloc (.cells #[.int .i64 n, v, .int .i64 e, u, .int .i64 m, y, .int .i64 d, t] 90) = w0 at *
  clear p0 p1 p2 p3 p4 p5 p6 p7
  go_loopw [12] (fun i wr => ∃ b : Nat, b ≤ n ∧ i = .int .i64 b ∧ (∀ t, t < b → ms[tm n zs a t]?.getD 0 = (tm m ys (ms[a]?.getD 0).toNat (ms[t]?.getD 0).toNat : Int)) ∧ Below w0.heap.size w0 wr) (fun i _ => n - (intOf i).toNat)
  case atStart => exact ⟨0, Nat.zero_le _, rfl, fun t ht => by omega, Below.refl _ _⟩
  case round =>
    obtain ⟨b, hb, rfl, hno, hB⟩ := hrel
    have HALL := hide hno
    clear hno
    have hBw := bcat2 hB0 hB
    by_cases hlt : b < n
    · have hbi : (b : Int) < (n : Int) := by omega
      have hai : (a : Int) < (n : Int) := by omega
      obtain rfl := HMA.out (by omega)
      have hab := HTL.out b hlt
      have ca := below_cell hBw (HMC.out a ha)
      have cb := below_cell hBw (HMC.out b hlt)
      have cab := below_cell hBw (HMC.out _ hab)
      obtain ⟨a0, a1⟩ := HR.out a ha
      obtain ⟨b0, b1⟩ := HR.out b hlt
      have hea : ms[a]?.getD 0 = ((ms[a]?.getD 0).toNat : Int) := by omega
      have heb : ms[b]?.getD 0 = ((ms[b]?.getD 0).toNat : Int) := by omega
      have hfa : (ms[a]?.getD 0).toNat < m := by omega
      have hfb : (ms[b]?.getD 0).toNat < m := by omega
      have HQ1 := hide (fun W (h : Below w.heap.size w W) => HP1.out W b h hlt)
      have HQ2 := hide (fun W (h : Below w.heap.size w W) => HP2.out W _ _ h hfa hfb)
      have HB2 := hide (HYES.out b hlt)
      have HB1 := hide (fun (h : ms[tm n zs a b]?.getD 0 = (tm m ys (ms[a]?.getD 0).toNat (ms[b]?.getD 0).toNat : Int)) t (ht : t < b + 1) => show ms[tm n zs a t]?.getD 0 = (tm m ys (ms[a]?.getD 0).toNat (ms[t]?.getD 0).toNat : Int) by
        by_cases e9 : t = b
        · subst e9; exact h
        · exact HALL.out t (by omega))
      rw [hea] at ca
      rw [heb] at cb
      clear hea heb a0 a1 b0 b1
      generalize (ms[a]?.getD 0).toNat = fa at *
      generalize (ms[b]?.getD 0).toNat = fb at *
      generalize hcd : ms[tm n zs a b]?.getD 0 = fab at *
      have HCD := hide hcd
      clear hcd
      generalize hd9e : tm n zs a b = d9 at *
      have HD9 := hide hd9e
      clear hd9e
      generalize tm m ys fa fb = q9 at *
      have hdi : (d9 : Int) < (n : Int) := by omega
      obtain ⟨_, p0, p1, p2, p3, p4, p5, p6, p7⟩ := Eight.mk' (blk_below hX0 hB)
      have hS' : ∀ W, Below wr.heap.size wr W → (Below wr.heap.size wr W ∧ W.cell? ⟨mb, mo + a, none⟩ = some (.int .i64 (fa : Int)) ∧ W.cell? ⟨mb, mo + b, none⟩ = some (.int .i64 (fb : Int)) ∧ W.cell? ⟨mb, mo + d9, none⟩ = some (.int .i64 fab) ∧ W.cell? ⟨w.heap.size, 0, none⟩ = some (.int .i64 n) ∧ W.cell? ⟨w.heap.size, 1, none⟩ = some v ∧ W.cell? ⟨w.heap.size, 2, none⟩ = some (.int .i64 e) ∧ W.cell? ⟨w.heap.size, 3, none⟩ = some u ∧ W.cell? ⟨w.heap.size, 4, none⟩ = some (.int .i64 m) ∧ W.cell? ⟨w.heap.size, 5, none⟩ = some y ∧ W.cell? ⟨w.heap.size, 6, none⟩ = some (.int .i64 d) ∧ W.cell? ⟨w.heap.size, 7, none⟩ = some t) := fun W h => ⟨h, below_cell h ca, below_cell h cb, below_cell h cab, below_cell h p0, below_cell h p1, below_cell h p2, below_cell h p3, below_cell h p4, below_cell h p5, below_cell h p6, below_cell h p7⟩
      have hS1 := hS' _ (bdrew (Below.refl _ wr))
      have hk1 : Hid True := trivial
      clear p0 p1 p2 p3 p4 p5 p6 p7 ca cb cab
      by_cases heq : fab = (q9 : Int)
      · have HBX := hide (HB1.out heq)
        subst heq
        clear HB1 HB2
        go_wp2_with fail
        go_region_held3 (fun W => Below wr.heap.size wr W ∧ W.cell? ⟨mb, mo + a, none⟩ = some (.int .i64 (fa : Int)) ∧ W.cell? ⟨mb, mo + b, none⟩ = some (.int .i64 (fb : Int)) ∧ W.cell? ⟨mb, mo + d9, none⟩ = some (.int .i64 (q9 : Int)) ∧ W.cell? ⟨w.heap.size, 0, none⟩ = some (.int .i64 n) ∧ W.cell? ⟨w.heap.size, 1, none⟩ = some v ∧ W.cell? ⟨w.heap.size, 2, none⟩ = some (.int .i64 e) ∧ W.cell? ⟨w.heap.size, 3, none⟩ = some u ∧ W.cell? ⟨w.heap.size, 4, none⟩ = some (.int .i64 m) ∧ W.cell? ⟨w.heap.size, 5, none⟩ = some y ∧ W.cell? ⟨w.heap.size, 6, none⟩ = some (.int .i64 d) ∧ W.cell? ⟨w.heap.size, 7, none⟩ = some t)
          (first | exact hS1 | assumption | exact hS' _ (bcat2 (And.left ‹_›) hl1))
          (first
            | (go_at_call 82; clear hk1; refine (HQ1.out _ (bcat2 hBw (And.left ‹_›))).mono ?_; rintro e1 U1 ⟨rfl, hl1⟩)
            | (go_at_call 82; refine (HQ2.out _ (bcat2 hBw (And.left ‹_›))).mono ?_; rintro e2 U2 ⟨rfl, hl1⟩))
        all_goals (
          have hB9 := bcat2 hB (And.left ‹Below wr.heap.size wr U2 ∧ _›)
          go_wp2
          go_roundw
          case rel => exact ⟨b + 1, by omega, by go_num, HBX.out, hB9⟩
          case measure => simp [intOf]; omega)
      · have HBX := hide (HB2.out heq)
        have hne : (fab != (q9 : Int)) = true := by simpa using heq
        clear HB1 HB2
        go_wp2_with fail
        go_region_held3 (fun W => Below wr.heap.size wr W ∧ W.cell? ⟨mb, mo + a, none⟩ = some (.int .i64 (fa : Int)) ∧ W.cell? ⟨mb, mo + b, none⟩ = some (.int .i64 (fb : Int)) ∧ W.cell? ⟨mb, mo + d9, none⟩ = some (.int .i64 fab) ∧ W.cell? ⟨w.heap.size, 0, none⟩ = some (.int .i64 n) ∧ W.cell? ⟨w.heap.size, 1, none⟩ = some v ∧ W.cell? ⟨w.heap.size, 2, none⟩ = some (.int .i64 e) ∧ W.cell? ⟨w.heap.size, 3, none⟩ = some u ∧ W.cell? ⟨w.heap.size, 4, none⟩ = some (.int .i64 m) ∧ W.cell? ⟨w.heap.size, 5, none⟩ = some y ∧ W.cell? ⟨w.heap.size, 6, none⟩ = some (.int .i64 d) ∧ W.cell? ⟨w.heap.size, 7, none⟩ = some t)
          (first | exact hS1 | assumption | exact hS' _ (bcat2 (And.left ‹_›) hl1))
          (first
            | (go_at_call 82; clear hk1; refine (HQ1.out _ (bcat2 hBw (And.left ‹_›))).mono ?_; rintro e1 U1 ⟨rfl, hl1⟩)
            | (go_at_call 82; refine (HQ2.out _ (bcat2 hBw (And.left ‹_›))).mono ?_; rintro e2 U2 ⟨rfl, hl1⟩))
        all_goals (
          have hB9 := bcat2 hBw (And.left ‹Below wr.heap.size wr U2 ∧ _›)
          go_wp2
          go_ret
          exact ⟨by rw [HBX.out]; rfl, hB9⟩)
    · have hbi : ¬ (b : Int) < (n : Int) := by omega
      have HBN := hide (HNO.out.2 (fun t ht => HALL.out t (by omega)))
      go_wp2
      go_ret
      exact ⟨by rw [HBN.out]; rfl, bcat2 hB0 hB⟩
end Go.Proofs.YtanbpjfdfnmjpaaDoor

namespace Go.Proofs.YtanbpjfdfnmjpaaDoor
open Go Go.RowKit

/-- Is a list's number a thing? -/
def rng (m : Int) (ms : List Int) (i : Nat) : Bool := decide (0 ≤ ms[i]?.getD 0 ∧ ms[i]?.getD 0 < m)
/-- What is wrong with two tables and a list as a map of things. -/
def hfault (N : Int) (zs : List Int) (M : Int) (ys ms : List Int) : Int × Int :=
  if (gfault N zs).1 ≠ 0 then gfault N zs
  else if (gfault M ys).1 ≠ 0 then gfault M ys
  else if ¬ (ms.length : Int) = N then (8, 0)
  else if ¬ least ms.length (fun i => !rng M ms i) = -1 then (3, least ms.length (fun i => !rng M ms i))
  else if ¬ least ms.length (stq N.toNat zs M.toNat ys ms) = -1 then (7, least ms.length (stq N.toNat zs M.toNat ys ms))
  else (0, 0)
theorem hfault_1 {N : Int} {zs : List Int} {M : Int} {ys ms : List Int} (h : (gfault N zs).1 ≠ 0) : hfault N zs M ys ms = gfault N zs := by unfold hfault; rw [if_pos h]
theorem hfault_2 {n e : Nat} {zs : List Int} {M : Int} {ys ms : List Int} (g : IsGrp n zs e) (h : (gfault M ys).1 ≠ 0) : hfault n zs M ys ms = gfault M ys := by unfold hfault; rw [gfault_of_grp g, if_neg (by simp), if_pos h]
section
variable {n e m d : Nat} {zs ys ms : List Int}
theorem hfault_g (g : IsGrp n zs e) (h : IsGrp m ys d) : hfault n zs m ys ms = if ¬ (ms.length : Int) = (n : Int) then (8, 0) else if ¬ least ms.length (fun i => !rng m ms i) = -1 then (3, least ms.length (fun i => !rng m ms i)) else if ¬ least ms.length (stq n zs m ys ms) = -1 then (7, least ms.length (stq n zs m ys ms)) else (0, 0) := by
  unfold hfault
  rw [gfault_of_grp g, if_neg (by simp), gfault_of_grp h, if_neg (by simp), Int.toNat_natCast, Int.toNat_natCast]
theorem hfault_8 (g : IsGrp n zs e) (h : IsGrp m ys d) (hl : ¬ ms.length = n) : hfault n zs m ys ms = (8, 0) := by
  rw [hfault_g g h, if_pos (by omega)]
theorem least_is {k : Nat} {j : Nat} {p : Nat → Bool} (hj : j < k) (h1 : ∀ t, t < j → p t = false) (h2 : p j = true) : least k p = (j : Int) := by
  rcases least_cases k p with ⟨i, hi, hp, hlt, he⟩ | ⟨hno, _⟩
  · rw [he]
    rcases Nat.lt_trichotomy i j with h | h | h
    · rw [h1 i h] at hp; cases hp
    · rw [h]
    · have := hlt j h; rw [h2] at this; cases this
  · rw [hno j hj] at h2; cases h2
theorem least_no {k : Nat} {p : Nat → Bool} (h1 : ∀ t, t < k → p t = false) : least k p = -1 := by
  rcases least_cases k p with ⟨i, hi, hp, _, _⟩ | ⟨_, he⟩
  · rw [h1 i hi] at hp; cases hp
  · exact he
theorem hfault_3 (g : IsGrp n zs e) (h : IsGrp m ys d) (hl : ms.length = n) {k : Nat} (hk : k < n) (h1 : ∀ t, t < k → rng m ms t = true) (h2 : rng m ms k = false) : hfault n zs m ys ms = (3, (k : Int)) := by
  rw [hfault_g g h, if_neg (by omega), least_is (j := k) (by omega) (fun t ht => by rw [h1 t ht]; rfl) (by rw [h2]; rfl), if_pos (by omega)]
theorem hfault_7 (g : IsGrp n zs e) (h : IsGrp m ys d) (hl : ms.length = n) (hr : ∀ t, t < n → rng m ms t = true) {k : Nat} (hk : k < n) (h1 : ∀ t, t < k → stq n zs m ys ms t = false) (h2 : stq n zs m ys ms k = true) : hfault n zs m ys ms = (7, (k : Int)) := by
  rw [hfault_g g h, if_neg (by omega), least_no (fun t ht => by rw [hr t (by omega)]; rfl), if_neg (by simp), least_is (j := k) (by omega) h1 h2, if_pos (by omega)]
theorem hfault_0 (g : IsGrp n zs e) (h : IsGrp m ys d) (hl : ms.length = n) (hr : ∀ t, t < n → rng m ms t = true) (h1 : ∀ t, t < n → stq n zs m ys ms t = false) : hfault n zs m ys ms = (0, 0) := by
  rw [hfault_g g h, if_neg (by omega), least_no (fun t ht => by rw [hr t (by omega)]; rfl), if_neg (by simp), least_no (fun t ht => h1 t (by omega)), if_neg (by simp)]
end
set_option maxRecDepth 100000 in
set_option maxHeartbeats 8000000 in
theorem ow_bad (N M c i : Int) (v y mv : Value) (w : World) (hc : c ≠ 0)
    (HP : Hid (∀ W, Below w.heap.size w W → Calls Tryd.prog 86 #[.agg #[.int .i64 N, v], .agg #[.int .i64 M, y]] W fun x w' => x = .returned (.tuple #[.agg #[.int .i64 0, .slice none 0 0, .int .i64 0, .slice none 0 0, .int .i64 0, .slice none 0 0, .int .i64 0, .slice none 0 0], .agg #[.int .i64 c, .int .i64 i]]) ∧ Below W.heap.size W w')) :
    Calls Tryd.prog 78 #[.agg #[.int .i64 N, v], .agg #[.int .i64 M, y], mv] w fun x w' => x = .returned (.tuple #[.agg #[.int .i64 0, .slice none 0 0, .int .i64 0, .slice none 0 0, .int .i64 0, .slice none 0 0, .int .i64 0, .slice none 0 0], .agg #[.int .i64 c, .int .i64 i]]) ∧ Below w.heap.size w w' := by
  obtain ⟨w0, BG⟩ := BegP.new w N M v y
  have HCK := hide (HP.out w0 BG.bel)
  obtain ⟨c0, c1, _, _⟩ := BG.box.two
  obtain ⟨k0, k1, _, _⟩ := BG.boy.two
  have hcb : (c != 0) = true := by simpa using hc
  rw [BG.eq] at c0 c1 k0 k1
  go_enter Tryd.func78, Tryd.ntmps78
  go_wp2_with fail
  rw [← BG.eq]
  clear c0 c1 k0 k1
  refine HCK.out.mono ?_
  rintro x w1 ⟨rfl, hb1⟩
  obtain ⟨w2, hw2⟩ : ∃ w2, w2 = (w1.alloc (.cells #[.int .i64 0, .slice none 0 0, .int .i64 0, .slice none 0 0, .int .i64 0, .slice none 0 0, .int .i64 0, .slice none 0 0] 90)).alloc (.cells #[.int .i64 c, .int .i64 i] 28) := ⟨_, rfl⟩
  have hB1 : Below w0.heap.size w0 w2 := by rw [hw2]; exact bcat2 hb1 ((balloc w1 _).alloc (by simp) _)
  have hF1 : Blk w2 (w1.heap.size + 1) 28 [.int .i64 c, .int .i64 i] := by
    rw [hw2]
    have := blk0 (w := w1.alloc (.cells #[.int .i64 0, .slice none 0 0, .int .i64 0, .slice none 0 0, .int .i64 0, .slice none 0 0, .int .i64 0, .slice none 0 0] 90)) (T := 28) (.int .i64 c) (.int .i64 i)
    rwa [World.size_alloc] at this
  have hR1 := blk_below BG.res hB1
  have hP1 := blk_below BG.par hB1
  have hBw := bcat BG.bel hB1 BG.bel.size
  obtain ⟨y0, y1, fy0, fy1⟩ := hR1.two
  obtain ⟨t0, t1, _, _⟩ := hF1.two
  obtain ⟨hR6, hB6⟩ := put2 hR1 hBw (by omega) c i
  have hP6 := (hP1.other (p := ⟨w.heap.size + 1 + 1 + 1, 0, none⟩) (by simp) (.int .i64 c)).other (p := ⟨w.heap.size + 1 + 1 + 1, 1, none⟩) (by simp) (.int .i64 i)
  have hB7 := bdrew hB6
  rw [hw2] at t0 t1
  go_wp2_with fail
  rw [← hw2] at t0 t1 ⊢
  clear hw2
  obtain ⟨_, p0, p1, p2, p3, p4, p5, p6, p7⟩ := Eight.mk' hP1
  obtain ⟨q0, q1, q2, q3, q4, q5, q6, q7⟩ := Eight.fr hP1
  obtain ⟨s0, s1, s2, s3, s4, s5, s6, s7⟩ := Eight.se hP1
  obtain ⟨u0, u1, u2, u3, u4, u5, u6, u7⟩ := Eight.se hP6
  obtain ⟨_, m0, m1, m2, m3, m4, m5, m6, m7⟩ := Eight.mk' hP6
  go_region
  all_goals (
    go_wp2
    obtain ⟨z0, z1, _, _⟩ := hR6.two
    exact bodyPost_ret (v := .tuple #[.agg #[.int .i64 0, .slice none 0 0, .int .i64 0, .slice none 0 0, .int .i64 0, .slice none 0 0, .int .i64 0, .slice none 0 0], .agg #[.int .i64 c, .int .i64 i]]) (by simp [results, Tryd.results78, go_sem, z0, z1, m0, m1, m2, m3, m4, m5, m6, m7]) rfl ⟨rfl, hB7⟩)
end Go.Proofs.YtanbpjfdfnmjpaaDoor

namespace Go.Proofs.YtanbpjfdfnmjpaaDoor
open Go Go.RowKit

set_option maxRecDepth 100000 in
set_option maxHeartbeats 2000000 in
theorem ow_any (n e m d : Nat) (v y mv : Value) (zs ys ms : List Int) (w : World) (hv : Sl w v zs) (hg : IsGrp n zs e) (hy : Sl w y ys) (hh : IsGrp m ys d) (hm : Sl w mv ms) :
    Calls Tryd.prog 78 #[.agg #[.int .i64 n, v], .agg #[.int .i64 m, y], mv] w fun x w' => ∃ P, x = .returned (.tuple #[P, .agg #[.int .i64 (hfault n zs m ys ms).1, .int .i64 (hfault n zs m ys ms).2]]) ∧ ((hfault n zs m ys ms).1 = 0 → ∃ u t, P = .agg #[.int .i64 n, v, .int .i64 e, u, .int .i64 m, y, .int .i64 d, t] ∧ SlF w.heap.size w' u (li ((List.range n).map (iv n zs e))) ∧ SlF w.heap.size w' t (li ((List.range m).map (iv m ys d)))) ∧ (¬ (hfault n zs m ys ms).1 = 0 → P = .agg #[.int .i64 0, .slice none 0 0, .int .i64 0, .slice none 0 0, .int .i64 0, .slice none 0 0, .int .i64 0, .slice none 0 0]) ∧ Below w.heap.size w w' := by
  obtain ⟨va, vl, vc, rfl⟩ := hv.isSlice
  obtain ⟨ya, yl, yc, rfl⟩ := hy.isSlice
  have hn := hg.tab.le
  obtain ⟨w0, BG⟩ := BegP.new w n m (.slice va vl vc) (.slice ya yl yc)
  have HCK := hide (pair_good n e m d (.slice va vl vc) (.slice ya yl yc) zs ys w0 (hv.below BG.bel) hg (hy.below BG.bel) hh)
  have H8 := hide (fun (h : ¬ ms.length = n) => hfault_8 (ms := ms) hg hh h)
  have H3 := hide (fun (h : ms.length = n) k (hk : k < n) h1 h2 => hfault_3 (k := k) hg hh h hk h1 h2)
  have H7 := hide (fun (h : ms.length = n) hr k (hk : k < n) h1 h2 => hfault_7 (k := k) hg hh h hr hk h1 h2)
  have H0 := hide (fun (h : ms.length = n) hr h1 => hfault_0 hg hh h hr h1)
  obtain ⟨hf, hfe⟩ : ∃ hf, hf = hfault n zs m ys ms := ⟨_, rfl⟩
  rw [← hfe] at H8 H3 H7 H0 ⊢
  clear hfe
  have HST := hide (fun W a (u t : Value) (h : Below w.heap.size w W) (hl : ms.length = n) (hr : ∀ i, i < n → 0 ≤ ms[i]?.getD 0 ∧ ms[i]?.getD 0 < m) (ha : a < n) => strays_ok n m e d a (.slice va vl vc) u (.slice ya yl yc) t mv zs ys ms W hg.tab hh.tab (hv.below h) (hy.below h) (hm.below h) hl hr ha)
  obtain ⟨ma, mc, mb, mo, rfl, hmr, hmb, _, hmm⟩ := hm
  have hml : ms.length ≤ 9223372036854775807 := by unfold maxLen at hmm; omega
  have HMR := hide hmr
  clear hmr hmm
  obtain ⟨c0, c1, _, _⟩ := BG.box.two
  obtain ⟨k0, k1, _, _⟩ := BG.boy.two
  rw [BG.eq] at c0 c1 k0 k1
  go_enter Tryd.func78, Tryd.ntmps78
  go_wp2_with fail
  rw [← BG.eq]
  clear c0 c1 k0 k1
  refine HCK.out.mono ?_
  rintro x w1 ⟨iv9, jv9, rfl, hSI, hSJ, hb1⟩
  obtain ⟨ia, il, ic, rfl⟩ := hSI.sl.isSlice
  obtain ⟨ja, jl, jc, rfl⟩ := hSJ.sl.isSlice
  obtain ⟨w2, hw2⟩ : ∃ w2, w2 = (w1.alloc (.cells #[.int .i64 n, .slice va vl vc, .int .i64 e, .slice ia il ic, .int .i64 m, .slice ya yl yc, .int .i64 d, .slice ja jl jc] 90)).alloc (.cells #[.int .i64 0, .int .i64 0] 28) := ⟨_, rfl⟩
  have hb12 : Below w1.heap.size w1 w2 := by rw [hw2]; exact (balloc w1 _).alloc (by simp) _
  have hB1 : Below w0.heap.size w0 w2 := bcat2 hb1 hb12
  have hF2 : Blk w2 (w1.heap.size + 1) 28 [.int .i64 0, .int .i64 0] := by
    rw [hw2]
    have := blk0 (w := w1.alloc (.cells #[.int .i64 n, .slice va vl vc, .int .i64 e, .slice ia il ic, .int .i64 m, .slice ya yl yc, .int .i64 d, .slice ja jl jc] 90)) (T := 28) (.int .i64 0) (.int .i64 0)
    rwa [World.size_alloc] at this
  have hH2 : Blk w2 w1.heap.size 90 [.int .i64 n, .slice va vl vc, .int .i64 e, .slice ia il ic, .int .i64 m, .slice ya yl yc, .int .i64 d, .slice ja jl jc] := by
    rw [hw2]
    have h : Blk (w1.alloc (.cells #[.int .i64 n, .slice va vl vc, .int .i64 e, .slice ia il ic, .int .i64 m, .slice ya yl yc, .int .i64 d, .slice ja jl jc] 90)) w1.heap.size 90 [.int .i64 n, .slice va vl vc, .int .i64 e, .slice ia il ic, .int .i64 m, .slice ya yl yc, .int .i64 d, .slice ja jl jc] := World.alloc_heap_new _ _
    exact h.alloc _
  have hBw2 := bcat BG.bel hB1 BG.bel.size
  have hR2 := blk_below BG.res hB1
  have hP2 := blk_below BG.par hB1
  have hX2 := blk_below BG.box hB1
  have hSI2 := hSI.below hb12
  have hSJ2 := hSJ.below hb12
  have hPl := hP2.lt
  have hw1s := hb1.size
  rw [BG.siz] at hw1s
  have HIS := hide (And.intro hSI2 hSJ2)
  have HBS := hide (And.intro BG.siz BG.bel.size)
  obtain ⟨t0, t1, _, _⟩ := hF2.two
  obtain ⟨c0, c1, _, _⟩ := hX2.two
  clear hSI hSJ hSI2 hSJ2
  by_cases hl : ms.length = n
  · have hli : (ms.length : Int) = (n : Int) := by omega
    have G3 := hide (fun k hk h1 h2 => H3.out hl k hk h1 h2)
    have G7 := hide (fun hr k hk h1 h2 => H7.out hl hr k hk h1 h2)
    have G0 := hide (fun hr h1 => H0.out hl hr h1)
    have GST := hide (fun W a (u t : Value) (h : Below w.heap.size w W) (hr : ∀ i, i < n → 0 ≤ ms[i]?.getD 0 ∧ ms[i]?.getD 0 < m) (ha : a < n) => HST.out W a u t h hl hr ha)
    clear H3 H7 H0 H8 HST
    have HMA := hide (fun (h : 0 < n) => HMR.out.at_ (by omega))
    have HMC := hide (fun i (h : i < n) => HMR.out.cell i (by omega))
    rw [hl] at *
    clear hl hli
    rw [hw2] at t0 t1 c0 c1
    go_wp2
    rw [← hw2]
    clear hw2 t0 t1 c0 c1
    go_loopw [33] (fun i wr => ∃ k : Nat, k ≤ n ∧ i = .int .i64 k ∧ (∀ t, t < k → rng m ms t = true) ∧ Below w2.heap.size w2 wr) (fun i _ => n - (intOf i).toNat)
    case atStart => exact ⟨0, Nat.zero_le _, rfl, fun t ht => by omega, Below.refl _ _⟩
    case round =>
      obtain ⟨k, hk, rfl, hall, hB⟩ := hrel
      have HALL := hide hall
      clear hall
      have hBw := bcat2 hBw2 hB
      by_cases hlt : k < n
      · have hki : (k : Int) < (n : Int) := by omega
        obtain rfl := HMA.out (by omega)
        have ck := below_cell hBw (HMC.out k hlt)
        obtain ⟨_, h0, h1, h2, h3, h4, h5, h6, h7⟩ := Eight.mk' (blk_below hH2 hB)
        obtain ⟨r, hr⟩ : ∃ r, rng m ms k = r := ⟨_, rfl⟩
        have HGH := hide (fun W => ghas_ok m (.slice ya yl yc) (.slice ja jl jc) d (ms[k]?.getD 0) W)
        have hrd : decide (0 ≤ ms[k]?.getD 0 ∧ ms[k]?.getD 0 < (m : Int)) = r := hr
        rw [hrd] at HGH
        have HR := hide hr
        clear hr hrd
        generalize ms[k]?.getD 0 = x9 at *
        go_wp2_with fail
        refine (HGH.out _).mono ?_
        rintro x w4 ⟨rfl, hb4⟩
        have hB4 := bcat2 hB hb4
        have hBw4 := bcat2 hBw2 hB4
        clear h0 h1 h2 h3 h4 h5 h6 h7
        cases r with
        | true =>
          have HN := hide (fun t (ht : t < k + 1) => show rng m ms t = true by
            by_cases e9 : t = k
            · subst e9; exact HR.out
            · exact HALL.out t (by omega))
          go_wp2
          go_roundw
          case rel => exact ⟨k + 1, by omega, by go_num, HN.out, hB4⟩
          case measure => simp [intOf]; omega
        | false =>
          have HC := hide (show hf.1 = 3 ∧ hf.2 = (k : Int) by rw [G3.out k hlt HALL.out HR.out]; exact ⟨rfl, rfl⟩)
          have hR4 := blk_below hR2 hB4
          have hP4 := blk_below hP2 hB4
          clear G0 G3 G7 GST HIS HBS
          obtain ⟨y0, y1, fy0, fy1⟩ := hR4.two
          obtain ⟨hR6, hB6⟩ := put2 hR4 hBw4 (by omega) 3 (k : Int)
          have hP6 := (hP4.other (p := ⟨w.heap.size + 1 + 1 + 1, 0, none⟩) (by simp) (.int .i64 3)).other (p := ⟨w.heap.size + 1 + 1 + 1, 1, none⟩) (by simp) (.int .i64 (k : Int))
          obtain ⟨_, p0, p1, p2, p3, p4, p5, p6, p7⟩ := Eight.mk' hP4
          obtain ⟨q0, q1, q2, q3, q4, q5, q6, q7⟩ := Eight.fr hP4
          obtain ⟨o0, o1, o2, o3, o4, o5, o6, o7⟩ := Eight.se hP4
          obtain ⟨_, m0, m1, m2, m3, m4, m5, m6, m7⟩ := Eight.mk' hP6
          obtain ⟨z0, z1, _, _⟩ := hR6.two
          go_wp2
          exact bodyPost_ret (v := .tuple #[.agg #[.int .i64 0, .slice none 0 0, .int .i64 0, .slice none 0 0, .int .i64 0, .slice none 0 0, .int .i64 0, .slice none 0 0], .agg #[.int .i64 3, .int .i64 (k : Int)]]) (by simp [results, Tryd.results78, go_sem, z0, z1, m0, m1, m2, m3, m4, m5, m6, m7]) rfl ⟨_, by rw [HC.out.1, HC.out.2], fun h => absurd (HC.out.1.symm.trans h) (by decide), fun _ => rfl, hB6⟩
      · have hki : ¬ (k : Int) < (n : Int) := by omega
        have HRA := hide (fun t (ht : t < n) => HALL.out t (by omega))
        have HRB := hide (fun i (hi : i < n) => show 0 ≤ ms[i]?.getD 0 ∧ ms[i]?.getD 0 < (m : Int) from of_decide_eq_true (HRA.out i hi))
        clear HALL hlt
        obtain ⟨wo, rfl⟩ : ∃ wo, wo = wr := ⟨_, rfl⟩
        go_wp2
        go_loopw [49] (fun i wr => ∃ a : Nat, a ≤ n ∧ i = .int .i64 a ∧ (∀ t, t < a → stq n zs m ys ms t = false) ∧ Below w2.heap.size w2 wr) (fun i _ => n - (intOf i).toNat)
        case atStart => exact ⟨0, Nat.zero_le _, rfl, fun t ht => by omega, hB⟩
        case round =>
          clear hB hBw
          obtain ⟨a, ha, rfl, hall, hB⟩ := hrel
          have HALL := hide hall
          clear hall
          have hBw := bcat2 hBw2 hB
          by_cases hlt : a < n
          · have hai : (a : Int) < (n : Int) := by omega
            have HSA := hide (fun W (h : Below w.heap.size w W) => GST.out W a (.slice ia il ic) (.slice ja jl jc) h HRB.out hlt)
            obtain ⟨r, hr⟩ : ∃ r, stq n zs m ys ms a = r := ⟨_, rfl⟩
            rw [hr] at HSA
            have HR := hide hr
            clear hr
            obtain ⟨_, h0, h1, h2, h3, h4, h5, h6, h7⟩ := Eight.mk' (blk_below hH2 hB)
            go_wp2_with fail
            refine (HSA.out _ hBw).mono ?_
            rintro x w4 ⟨rfl, hb4⟩
            have hB4 := bcat2 hB hb4
            have hBw4 := bcat2 hBw2 hB4
            clear h0 h1 h2 h3 h4 h5 h6 h7
            cases r with
            | false =>
              have HN := hide (fun t (ht : t < a + 1) => show stq n zs m ys ms t = false by
                by_cases e9 : t = a
                · subst e9; exact HR.out
                · exact HALL.out t (by omega))
              go_wp2
              go_roundw
              case rel => exact ⟨a + 1, by omega, by go_num, HN.out, hB4⟩
              case measure => simp [intOf]; omega
            | true =>
              have HC := hide (show hf.1 = 7 ∧ hf.2 = (a : Int) by rw [G7.out HRA.out a hlt HALL.out HR.out]; exact ⟨rfl, rfl⟩)
              have hR4 := blk_below hR2 hB4
              have hP4 := blk_below hP2 hB4
              clear G0 G3 G7 GST HIS HBS
              obtain ⟨y0, y1, fy0, fy1⟩ := hR4.two
              obtain ⟨hR6, hB6⟩ := put2 hR4 hBw4 (by omega) 7 (a : Int)
              have hP6 := (hP4.other (p := ⟨w.heap.size + 1 + 1 + 1, 0, none⟩) (by simp) (.int .i64 7)).other (p := ⟨w.heap.size + 1 + 1 + 1, 1, none⟩) (by simp) (.int .i64 (a : Int))
              obtain ⟨_, p0, p1, p2, p3, p4, p5, p6, p7⟩ := Eight.mk' hP4
              obtain ⟨q0, q1, q2, q3, q4, q5, q6, q7⟩ := Eight.fr hP4
              obtain ⟨o0, o1, o2, o3, o4, o5, o6, o7⟩ := Eight.se hP4
              obtain ⟨_, m0, m1, m2, m3, m4, m5, m6, m7⟩ := Eight.mk' hP6
              obtain ⟨z0, z1, _, _⟩ := hR6.two
              go_wp2
              exact bodyPost_ret (v := .tuple #[.agg #[.int .i64 0, .slice none 0 0, .int .i64 0, .slice none 0 0, .int .i64 0, .slice none 0 0, .int .i64 0, .slice none 0 0], .agg #[.int .i64 7, .int .i64 (a : Int)]]) (by simp [results, Tryd.results78, go_sem, z0, z1, m0, m1, m2, m3, m4, m5, m6, m7]) rfl ⟨_, by rw [HC.out.1, HC.out.2], fun h => absurd (HC.out.1.symm.trans h) (by decide), fun _ => rfl, hB6⟩
          · have hai : ¬ (a : Int) < (n : Int) := by omega
            have HC := hide (show hf.1 = 0 ∧ hf.2 = 0 by rw [G0.out HRA.out (fun t ht => HALL.out t (by omega))]; exact ⟨rfl, rfl⟩)
            have hR4 := blk_below hR2 hB
            have hP4 := blk_below hP2 hB
            have hH4 := blk_below hH2 hB
            obtain ⟨hS4, hT4⟩ := HIS.out
            have hS4 := hS4.below hB
            have hT4 := hT4.below hB
            obtain ⟨_, h0, h1, h2, h3, h4, h5, h6, h7⟩ := Eight.mk' hH4
            obtain ⟨_, p0, p1, p2, p3, p4, p5, p6, p7⟩ := Eight.mk' hP4
            obtain ⟨q0, q1, q2, q3, q4, q5, q6, q7⟩ := Eight.fr hP4
            obtain ⟨y0, y1, fy0, fy1⟩ := hR4.two
            obtain ⟨hP5, hB5⟩ := eight_set hP4 hBw (by omega) (.int .i64 n) (.slice va vl vc) (.int .i64 e) (.slice ia il ic) (.int .i64 m) (.slice ya yl yc) (.int .i64 d) (.slice ja jl jc)
            have hfar : ∀ g, g ≠ w.heap.size + 1 + 1 → _ := fun g (hg9 : g ≠ w.heap.size + 1 + 1) => eight_far (W := wr) (b := w.heap.size + 1 + 1) (.int .i64 n) (.slice va vl vc) (.int .i64 e) (.slice ia il ic) (.int .i64 m) (.slice ya yl yc) (.int .i64 d) (.slice ja jl jc) (g := g) hg9
            have hR5 := hR4.of_eq (hfar _ (by omega))
            obtain ⟨o0, o1⟩ := hR5.self
            obtain ⟨_, m0, m1, m2, m3, m4, m5, m6, m7⟩ := Eight.mk' hP5
            obtain ⟨z0, z1, _, _⟩ := hR5.two
            have hbs := HBS.out
            have hS5 := (hS4.keep (fun g h1 _ => hfar g (by omega)) (by rw [eight_size]; exact Nat.le_refl _)).mono hbs.2
            have hT5 := (hT4.keep (fun g h1 _ => hfar g (by omega)) (by rw [eight_size]; exact Nat.le_refl _)).mono hbs.2
            clear hfar G0 G3 G7 GST hbs
            go_wp2
            exact bodyPost_ret (v := .tuple #[.agg #[.int .i64 n, .slice va vl vc, .int .i64 e, .slice ia il ic, .int .i64 m, .slice ya yl yc, .int .i64 d, .slice ja jl jc], .agg #[.int .i64 0, .int .i64 0]]) (by simp [results, Tryd.results78, go_sem, z0, z1, m0, m1, m2, m3, m4, m5, m6, m7]) rfl ⟨_, by rw [HC.out.1, HC.out.2], fun _ => ⟨_, _, rfl, hS5, hT5⟩, fun h => absurd HC.out.1 h, hB5⟩
  · have hli : ¬ (ms.length : Int) = (n : Int) := by omega
    have HC := hide (show hf.1 = 8 ∧ hf.2 = 0 by rw [H8.out hl]; exact ⟨rfl, rfl⟩)
    clear H0 H3 H7 H8 HST
    subst hw2
    obtain ⟨y0, y1, fy0, fy1⟩ := hR2.two
    obtain ⟨hR6, hB6⟩ := put2 hR2 hBw2 (by omega) 8 0
    have hP6 := (hP2.other (p := ⟨w.heap.size + 1 + 1 + 1, 0, none⟩) (by simp) (.int .i64 8)).other (p := ⟨w.heap.size + 1 + 1 + 1, 1, none⟩) (by simp) (.int .i64 0)
    obtain ⟨_, p0, p1, p2, p3, p4, p5, p6, p7⟩ := Eight.mk' hP2
    obtain ⟨q0, q1, q2, q3, q4, q5, q6, q7⟩ := Eight.fr hP2
    obtain ⟨o0, o1, o2, o3, o4, o5, o6, o7⟩ := Eight.se hP2
    obtain ⟨_, m0, m1, m2, m3, m4, m5, m6, m7⟩ := Eight.mk' hP6
    obtain ⟨z0, z1, _, _⟩ := hR6.two
    go_wp2
    exact bodyPost_ret (v := .tuple #[.agg #[.int .i64 0, .slice none 0 0, .int .i64 0, .slice none 0 0, .int .i64 0, .slice none 0 0, .int .i64 0, .slice none 0 0], .agg #[.int .i64 8, .int .i64 0]]) (by simp [results, Tryd.results78, go_sem, z0, z1, m0, m1, m2, m3, m4, m5, m6, m7]) rfl ⟨_, by rw [HC.out.1, HC.out.2], fun h => absurd (HC.out.1.symm.trans h) (by decide), fun _ => rfl, hB6⟩
end Go.Proofs.YtanbpjfdfnmjpaaDoor

namespace Go.Proofs.YtanbpjfdfnmjpaaDoor
open Go Go.RowKit

theorem ow_all (N M : Int) (v y mv : Value) (zs ys ms : List Int) (w : World) (hv : Sl w v zs) (hy : Sl w y ys) (hm : Sl w mv ms) :
    Calls Tryd.prog 78 #[.agg #[.int .i64 N, v], .agg #[.int .i64 M, y], mv] w fun x w' => ∃ p0 a0 b0 c0 p1 a1 b1 c1 p2 a2 b2 c2 p3 a3 b3 c3, x = .returned (.tuple #[.agg #[.int .i64 p0, .slice a0 b0 c0, .int .i64 p1, .slice a1 b1 c1, .int .i64 p2, .slice a2 b2 c2, .int .i64 p3, .slice a3 b3 c3], .agg #[.int .i64 (hfault N zs M ys ms).1, .int .i64 (hfault N zs M ys ms).2]]) ∧ Below w.heap.size w w' := by
  by_cases h1 : (gfault N zs).1 = 0
  · obtain ⟨n, e, rfl, hg, _⟩ := gfault_grp h1
    by_cases h2 : (gfault M ys).1 = 0
    · obtain ⟨m, d, rfl, hh, _⟩ := gfault_grp h2
      refine (ow_any n e m d v y mv zs ys ms w hv hg hy hh hm).mono ?_
      rintro x w' ⟨P, rfl, hA, hB, hb⟩
      by_cases h3 : (hfault n zs m ys ms).1 = 0
      · obtain ⟨u, t, rfl, hu, ht⟩ := hA h3
        obtain ⟨v1, v2, v3, rfl⟩ := hv.isSlice
        obtain ⟨y1, y2, y3, rfl⟩ := hy.isSlice
        obtain ⟨u1, u2, u3, rfl⟩ := hu.sl.isSlice
        obtain ⟨t1, t2, t3, rfl⟩ := ht.sl.isSlice
        exact ⟨_, _, _, _, _, _, _, _, _, _, _, _, _, _, _, _, rfl, hb⟩
      · obtain rfl := hB h3
        exact ⟨_, _, _, _, _, _, _, _, _, _, _, _, _, _, _, _, rfl, hb⟩
    · rw [hfault_2 hg h2]
      refine (ow_bad n M _ _ v y mv w h2 (hide fun W h => pair_bad2 n e M v y zs ys W (hv.below h) hg (hy.below h) h2)).mono ?_
      rintro x w' ⟨rfl, hb⟩
      exact ⟨_, _, _, _, _, _, _, _, _, _, _, _, _, _, _, _, rfl, hb⟩
  · rw [hfault_1 h1]
    refine (ow_bad N M _ _ v y mv w h1 (hide fun W h => pair_bad1 N M v y zs W (hv.below h) h1)).mono ?_
    rintro x w' ⟨rfl, hb⟩
    exact ⟨_, _, _, _, _, _, _, _, _, _, _, _, _, _, _, _, rfl, hb⟩
/-- What lies where a function begins that takes two tables and answers a fault. -/
structure BegF (w w0 : World) (N M : Int) (v y : Value) : Prop where
  eq : w0 = ((w.alloc (.cells #[.int .i64 N, v] 24)).alloc (.cells #[.int .i64 M, y] 24)).alloc (.cells #[.int .i64 0, .int .i64 0] 28)
  bel : Below w.heap.size w w0
  box : BoxG w0 w.heap.size N v
  boy : BoxG w0 (w.heap.size + 1) M y
  res : Blk w0 (w.heap.size + 1 + 1) 28 [.int .i64 0, .int .i64 0]
  siz : w0.heap.size = w.heap.size + 1 + 1 + 1
theorem BegF.new (w : World) (N M : Int) (v y : Value) : ∃ w0, BegF w w0 N M v y := by
  refine ⟨_, rfl, ((balloc w _).alloc (by simp) _).alloc (by simp; omega) _, ((blk0 (w := w) (T := 24) _ _).alloc _).alloc _, ?_, ?_, by simp⟩
  · have h := (blk0 (w := w.alloc (.cells #[.int .i64 N, v] 24)) (T := 24) (.int .i64 M) y).alloc (.cells #[.int .i64 0, .int .i64 0] 28)
    rw [World.size_alloc] at h
    exact h
  · have h := blk0 (w := (w.alloc (.cells #[.int .i64 N, v] 24)).alloc (.cells #[.int .i64 M, y] 24)) (T := 28) (.int .i64 0) (.int .i64 0)
    rw [World.size_alloc, World.size_alloc] at h
    exact h
set_option maxRecDepth 100000 in
set_option maxHeartbeats 4000000 in
theorem image_good (n m : Nat) (v y mv : Value) (zs ys : List Int) (xs : List Nat) (w : World) (hv : Sl w v zs) (hy : Sl w y ys) (hm : Sl w mv (li xs)) (hT : Tab w) (hm6 : m ≤ 60) (hx : ∀ x, x ∈ xs → x < m) (hxl : xs.length ≤ 60) (hc : hfault n zs m ys (li xs) = (0, 0)) :
    Calls Tryd.prog 71 #[.agg #[.int .i64 n, v], .agg #[.int .i64 m, y], mv] w fun x w' => ∃ r1 r2 r3, x = .returned (.tuple #[.slice r1 r2 r3, .agg #[.int .i64 0, .int .i64 0]]) ∧ Sl w' (.slice r1 r2 r3) (li (lst m (fun a => decide (a ∈ xs)))) ∧ Below w.heap.size w w' := by
  obtain ⟨w0, BG⟩ := BegF.new w n m v y
  have HCK := hide (ow_all n m v y mv zs ys (li xs) w0 (hv.below BG.bel) (hy.below BG.bel) (hm.below BG.bel))
  rw [hc] at HCK
  simp only at HCK
  obtain ⟨e0, e1, _, _⟩ := BG.box.two
  obtain ⟨k0, k1, _, _⟩ := BG.boy.two
  rw [BG.eq] at e0 e1 k0 k1
  go_enter Tryd.func71, Tryd.ntmps71
  go_wp2_with fail
  rw [← BG.eq]
  clear e0 e1 k0 k1
  refine HCK.out.mono ?_
  rintro x w1 ⟨p0, a0, b0, c0, p1, a1, b1, c1, p2, a2, b2, c2, p3, a3, b3, c3, rfl, hb1⟩
  obtain ⟨w2, hw2⟩ : ∃ w2, w2 = (w1.alloc (.cells #[.int .i64 p0, .slice a0 b0 c0, .int .i64 p1, .slice a1 b1 c1, .int .i64 p2, .slice a2 b2 c2, .int .i64 p3, .slice a3 b3 c3] 90)).alloc (.cells #[.int .i64 0, .int .i64 0] 28) := ⟨_, rfl⟩
  have hB1 : Below w0.heap.size w0 w2 := by rw [hw2]; exact bcat2 hb1 ((balloc w1 _).alloc (by simp) _)
  have hF1 : Blk w2 (w1.heap.size + 1) 28 [.int .i64 0, .int .i64 0] := by
    rw [hw2]
    have := blk0 (w := w1.alloc (.cells #[.int .i64 p0, .slice a0 b0 c0, .int .i64 p1, .slice a1 b1 c1, .int .i64 p2, .slice a2 b2 c2, .int .i64 p3, .slice a3 b3 c3] 90)) (T := 28) (.int .i64 0) (.int .i64 0)
    rwa [World.size_alloc] at this
  have hR1 := blk_below BG.res hB1
  have hBw := bcat BG.bel hB1 BG.bel.size
  obtain ⟨t0, t1, _, _⟩ := hF1.two
  rw [hw2] at t0 t1
  go_wp2_with fail
  rw [← hw2]
  clear hw2 t0 t1
  refine (of_ok m mv xs w2 hm6 hxl (hm.below hBw) hx).mono ?_
  rintro x w3 ⟨rfl, rfl⟩
  go_wp2_with fail
  refine (list_ok m _ w3 hm6 (hT.below hBw)).mono ?_
  rintro x w4 ⟨r, rfl, hr, hb4⟩
  have hrs := hr.sl
  obtain ⟨r1, r2, r3, rfl⟩ := hrs.isSlice
  have hR4 := blk_below hR1 hb4
  have hB4 := bcat2 hBw hb4
  obtain ⟨y0, y1, fy0, fy1⟩ := hR4.two
  obtain ⟨s0, s1⟩ := hR4.self
  go_wp2
  exact bodyPost_ret (v := .tuple #[.slice r1 r2 r3, .agg #[.int .i64 0, .int .i64 0]]) (by simp [results, Tryd.results71, go_sem, y0, y1]) rfl ⟨_, _, _, rfl, hrs, hB4⟩
end Go.Proofs.YtanbpjfdfnmjpaaDoor

namespace Go.Proofs.YtanbpjfdfnmjpaaDoor
open Go Go.RowKit

/-- A map of things that keeps products. -/
structure IsHom (n : Nat) (zs : List Int) (m : Nat) (ys : List Int) (φ : Nat → Nat) : Prop where
  lt : ∀ a, a < n → φ a < m
  mul : ∀ a b, a < n → b < n → φ (tm n zs a b) = tm m ys (φ a) (φ b)
theorem hom_of {n e m d : Nat} {zs ys ms : List Int} (g : IsGrp n zs e) (h : IsGrp m ys d) (hc : (hfault n zs m ys ms).1 = 0) : hfault n zs m ys ms = (0, 0) ∧ ms.length = n ∧ ∃ φ : Nat → Nat, IsHom n zs m ys φ ∧ ms = li ((List.range n).map φ) := by
  by_cases hl : ms.length = n
  · by_cases hr : ∀ t, t < n → rng m ms t = true
    · by_cases hs : ∀ t, t < n → stq n zs m ys ms t = false
      · have h1 : ∀ t, t < n → 0 ≤ ms[t]?.getD 0 ∧ ms[t]?.getD 0 < (m : Int) := fun t ht => of_decide_eq_true (hr t ht)
        refine ⟨hfault_0 g h hl hr hs, hl, fun a => (ms[a]?.getD 0).toNat, ⟨fun a ha => ?_, fun a b ha hb => ?_⟩, ?_⟩
        · have := h1 a ha
          show (ms[a]?.getD 0).toNat < m
          omega
        · have := stq_no.1 (hs a ha) b hb
          show (ms[tm n zs a b]?.getD 0).toNat = _
          rw [this, Int.toNat_natCast]
        · unfold li
          rw [List.map_map]
          apply List.ext_getElem
          · simp [hl]
          · intro i h2 h3
            have h4 := h1 i (by omega)
            rw [List.getElem?_eq_getElem h2, Option.getD_some] at h4
            simp [h2]
            omega
      · exfalso
        rcases least_cases n (stq n zs m ys ms) with ⟨k, hk, hp, hlt, _⟩ | ⟨hno, _⟩
        · rw [hfault_7 g h hl hr hk hlt hp] at hc
          exact absurd hc (by simp)
        · exact hs hno
    · exfalso
      rcases least_cases n (fun i => !rng m ms i) with ⟨k, hk, hp, hlt, _⟩ | ⟨hno, _⟩
      · rw [hfault_3 g h hl hk (fun t ht => by simpa using hlt t ht) (by simpa using hp)] at hc
        exact absurd hc (by simp)
      · exact hr (fun t ht => by simpa using hno t ht)
  · rw [hfault_8 g h hl] at hc
    exact absurd hc (by decide)
theorem of_hom {n e m d : Nat} {zs ys ms : List Int} {φ : Nat → Nat} (g : IsGrp n zs e) (h : IsGrp m ys d) (H : IsHom n zs m ys φ) (hl : ms.length = n) (hm : ∀ a, a < n → ms[a]?.getD 0 = (φ a : Int)) : hfault n zs m ys ms = (0, 0) := by
  refine hfault_0 g h hl (fun t ht => ?_) (fun t ht => ?_)
  · unfold rng
    rw [hm t ht]
    have := H.lt t ht
    exact decide_eq_true ⟨by omega, by omega⟩
  · refine stq_no.2 fun b hb => ?_
    rw [hm _ (tm_lt g.tab ht hb), hm t ht, hm b hb, H.mul t b ht hb, Int.toNat_natCast, Int.toNat_natCast]
theorem IsHom.one {n e m d : Nat} {zs ys : List Int} {φ : Nat → Nat} (g : IsGrp n zs e) (h : IsGrp m ys d) (H : IsHom n zs m ys φ) : φ e = d := by
  have h1 := H.mul e e g.elt g.elt
  rw [g.left e g.elt] at h1
  have hl := H.lt e g.elt
  exact grp_cancel h hl hl h.elt (by rw [← h1, h.right _ hl])
/-- Where what stands for things commutes, commutators go to the one, and cosets of what they make go to one thing. -/
theorem hom_cos {n e m d : Nat} {zs ys : List Int} {φ : Nat → Nat} {p : Nat → Bool} (g : IsGrp n zs e) (h : IsGrp m ys d) (H : IsHom n zs m ys φ) (hc : ∀ a b, a < n → b < n → tm m ys (φ a) (φ b) = tm m ys (φ b) (φ a))
    (hp : ∀ a, a < n → (p a = true ↔ Mkd n zs e (cmq n zs e (List.range n) (List.range n)) a)) {a b : Nat} (ha : a < n) (hb : b < n) (hn : num n (rgtq n zs (lst n (pset (li (lst n p))))) a = num n (rgtq n zs (lst n (pset (li (lst n p))))) b) : φ a = φ b := by
  have hs := der_sub g hp
  have PP := rgt_parts g hs
  have h1 := (prts_num_eq PP ha hb).1 hn
  obtain ⟨x, hx, rfl⟩ := mem_rgt.1 h1
  rw [lst_pset, mem_lst] at hx
  obtain ⟨hxn, hxp⟩ := hx
  have hx1 : φ x = d := by
    have hg := (cms_iff x).1 ((hp x hxn).1 hxp)
    have := Fin.Gen.least (P := fun y => y < n ∧ φ y = d) ⟨⟨g.elt, H.one g h⟩, fun y z _ _ h2 h3 => ⟨tm_lt g.tab h2.1 h3.1, by rw [H.mul y z h2.1 h3.1, h2.2, h3.2, h.left d h.elt]⟩⟩ (fun y hy ⟨i, j, hi, hj, he⟩ => by
      have hi := List.mem_range.1 hi
      have hj := List.mem_range.1 hj
      have hy := List.mem_range.1 hy
      refine ⟨hy, ?_⟩
      have h4 := Fin.cm_eq (grp_fg g) (grp_iv g) (List.mem_range.2 hi) (List.mem_range.2 hj)
      rw [he] at h4
      have h5 := congrArg φ h4
      rw [H.mul _ _ (tm_lt g.tab hj hi) hy, H.mul j i hj hi, H.mul i j hi hj, hc i j hi hj] at h5
      have hl := tm_lt h.tab (H.lt j hj) (H.lt i hi)
      exact grp_cancel h hl (H.lt y hy) h.elt (by rw [h5, h.right _ hl])) hg
    exact this.2
  rw [H.mul x a hxn ha, hx1, h.left _ (H.lt a ha)]
set_option maxRecDepth 100000 in
set_option maxHeartbeats 4000000 in
theorem rtwo_good (n e m d : Nat) (v y : Value) (zs ys : List Int) (w : World) (hv : Sl w v zs) (hg : IsGrp n zs e) (hy : Sl w y ys) (hh : IsGrp m ys d) :
    Calls Tryd.prog 10 #[.agg #[.int .i64 n, v], .agg #[.int .i64 m, y]] w fun x w' => x = .returned (.agg #[.int .i64 0, .int .i64 0]) ∧ Below w.heap.size w w' := by
  obtain ⟨w0, BG⟩ := BegF.new w n m v y
  have HG := hide (groupFault_any n v zs w0 (hv.below BG.bel))
  have HH := hide (fun W (h : Below w.heap.size w W) => groupFault_any m y ys W (hy.below h))
  rw [gfault_of_grp hg] at HG
  rw [gfault_of_grp hh] at HH
  obtain ⟨e0, e1, _, _⟩ := BG.box.two
  rw [BG.eq] at e0 e1
  go_enter Tryd.func10, Tryd.ntmps10
  go_wp2_with fail
  rw [← BG.eq]
  clear e0 e1
  refine HG.out.mono ?_
  rintro x w1 ⟨rfl, hb1⟩
  have hb2 := bcat2 hb1 (balloc w1 (.cells #[.int .i64 0, .int .i64 0] 28))
  have hF2 := blk0 (w := w1) (T := 28) (.int .i64 0) (.int .i64 0)
  have hBw := bcat BG.bel hb2 BG.bel.size
  have hY2 := blk_below BG.boy hb2
  have hR2 := blk_below BG.res hb2
  obtain ⟨t0, t1, _, _⟩ := hF2.two
  obtain ⟨k0, k1, _, _⟩ := hY2.two
  go_wp2_with fail
  generalize w1.alloc (.cells #[.int .i64 0, .int .i64 0] 28) = w2 at *
  clear t0 t1 k0 k1
  refine (HH.out _ hBw).mono ?_
  rintro x w3 ⟨rfl, hb3⟩
  have hF3 := blk_below hF2 hb3
  have hR3 := blk_below hR2 hb3
  have hB3 := bcat2 hBw hb3
  obtain ⟨t0, t1, ft0, ft1⟩ := hF3.two
  obtain ⟨s0, s1⟩ := hF3.self
  obtain ⟨y0, y1, fy0, fy1⟩ := hR3.two
  obtain ⟨s2, s3⟩ := hR3.self
  go_wp2
  exact bodyPost_ret (v := .agg #[.int .i64 0, .int .i64 0]) (by simp [results, Tryd.results10, go_sem, y0, y1]) rfl ⟨rfl, hB3⟩
set_option maxRecDepth 100000 in
set_option maxHeartbeats 4000000 in
theorem rhom_good (n e m d : Nat) (v y mv : Value) (zs ys ms : List Int) (φ : Nat → Nat) (w : World) (hv : Sl w v zs) (hg : IsGrp n zs e) (hy : Sl w y ys) (hh : IsGrp m ys d) (hm : Sl w mv ms) (hl : ms.length = n) (H : IsHom n zs m ys φ) (hφ : ∀ a, a < n → ms[a]?.getD 0 = (φ a : Int)) :
    Calls Tryd.prog 12 #[.agg #[.int .i64 n, v], .agg #[.int .i64 m, y], mv] w fun x w' => x = .returned (.agg #[.int .i64 0, .int .i64 0]) ∧ Below w.heap.size w w' := by
  have hn := hg.tab.le
  obtain ⟨w0, BG⟩ := BegF.new w n m v y
  have HTW := hide (rtwo_good n e m d v y zs ys w0 (hv.below BG.bel) hg (hy.below BG.bel) hh)
  have HMG := hide (fun W a b (h : Below w.heap.size w W) (ha : a < n) (hb : b < n) => M_ok n v zs a b W hg.tab (hv.below h) ha hb)
  have HMH := hide (fun W a b (h : Below w.heap.size w W) (ha : a < m) (hb : b < m) => M_ok m y ys a b W hh.tab (hy.below h) ha hb)
  have HTL := hide (fun a b (ha : a < n) (hb : b < n) => tm_lt hg.tab ha hb)
  have HLT := hide H.lt
  have HMU := hide H.mul
  obtain ⟨ma, mc, mb, mo, rfl, hmr, hmb, _, hmm⟩ := hm
  have HMA := hide (fun (h : 0 < n) => hmr.at_ (by omega))
  have HMC := hide (fun i (h : i < n) => (hmr.cell i (by omega)).trans (by rw [hφ i h]))
  rw [hl] at *
  clear hmr hmm hl hφ
  obtain ⟨e0, e1, _, _⟩ := BG.box.two
  obtain ⟨k0, k1, _, _⟩ := BG.boy.two
  rw [BG.eq] at e0 e1 k0 k1
  go_enter Tryd.func12, Tryd.ntmps12
  go_wp2_with fail
  rw [← BG.eq]
  clear e0 e1 k0 k1
  refine HTW.out.mono ?_
  rintro x w1 ⟨rfl, hb1⟩
  obtain ⟨w2, hw2⟩ : ∃ w2, w2 = w1.alloc (.cells #[.int .i64 0, .int .i64 0] 28) := ⟨_, rfl⟩
  have hb2 : Below w0.heap.size w0 w2 := by rw [hw2]; exact bcat2 hb1 (balloc w1 _)
  have hF2 : Blk w2 w1.heap.size 28 [.int .i64 0, .int .i64 0] := by rw [hw2]; exact blk0 _ _
  have hBw2 := bcat BG.bel hb2 BG.bel.size
  have hX2 := blk_below BG.box hb2
  have hY2 := blk_below BG.boy hb2
  have hR2 := blk_below BG.res hb2
  obtain ⟨t0, t1, _, _⟩ := hF2.two
  obtain ⟨g0, g1, _, _⟩ := hX2.two
  obtain ⟨k0, k1, _, _⟩ := hY2.two
  have hS : ∀ W, Below w2.heap.size w2 W → (Below w2.heap.size w2 W ∧ W.cell? ⟨w.heap.size, 0, none⟩ = some (.int .i64 n) ∧ W.cell? ⟨w.heap.size, 1, none⟩ = some v ∧ W.cell? ⟨w.heap.size + 1, 0, none⟩ = some (.int .i64 m) ∧ W.cell? ⟨w.heap.size + 1, 1, none⟩ = some y) := fun W h => ⟨h, below_cell h g0, below_cell h g1, below_cell h k0, below_cell h k1⟩
  rw [hw2] at t0 t1 g0 g1 k0 k1
  go_wp2
  rw [← hw2]
  clear hw2 t0 t1 g0 g1 k0 k1
  go_loopw [8] (fun i wr => ∃ a : Nat, a ≤ n ∧ i = .int .i64 a ∧ Below w2.heap.size w2 wr) (fun i _ => n - (intOf i).toNat)
  case atStart => exact ⟨0, Nat.zero_le _, rfl, Below.refl _ _⟩
  case round =>
    obtain ⟨a, ha, rfl, hB⟩ := hrel
    obtain ⟨_, g0, g1, k0, k1⟩ := hS _ hB
    have hBw := bcat2 hBw2 hB
    by_cases hlt : a < n
    · have hai : (a : Int) < (n : Int) := by omega
      obtain rfl := HMA.out (by omega)
      have ca := below_cell hBw (HMC.out a hlt)
      have hfa := HLT.out a hlt
      generalize φ a = fa at *
      have hd1 : decide ((fa : Int) < 0) = false := decide_eq_false (by omega)
      have hd2 : decide ((m : Int) ≤ (fa : Int)) = false := decide_eq_false (by omega)
      have hd3 : decide (m ≤ fa) = false := decide_eq_false (by omega)
      have hd4 : ¬ (m ≤ fa) := by omega
      go_wp2_with fail
      go_quiet (fail)
      have hBq := bdrewN hB nq
      generalize wr.drewN nq = wq at hBq ⊢
      go_wp2
      go_roundw
      case rel => exact ⟨a + 1, by omega, by go_num, hBq⟩
      case measure => simp [intOf]; omega
    · have hai : ¬ (a : Int) < (n : Int) := by omega
      obtain ⟨wo, rfl⟩ : ∃ wo, wo = wr := ⟨_, rfl⟩
      go_wp2
      go_loopw [9] (fun i wr => ∃ a : Nat, a ≤ n ∧ i = .int .i64 a ∧ Below w2.heap.size w2 wr) (fun i _ => n - (intOf i).toNat)
      case atStart => exact ⟨0, Nat.zero_le _, rfl, hB⟩
      case round =>
        clear g0 g1 k0 k1 hB hBw
        obtain ⟨a, ha, rfl, hB⟩ := hrel
        obtain ⟨_, g0, g1, k0, k1⟩ := hS _ hB
        by_cases hlt : a < n
        · have hai : (a : Int) < (n : Int) := by omega
          go_wp2
          go_loopw [10] (fun i wr => ∃ b : Nat, b ≤ n ∧ i = .int .i64 b ∧ Below w2.heap.size w2 wr) (fun i _ => n - (intOf i).toNat)
          case atStart => exact ⟨0, Nat.zero_le _, rfl, hB⟩
          case round =>
            clear g0 g1 k0 k1 hB
            obtain ⟨b, hb, rfl, hB⟩ := hrel
            obtain ⟨_, g0, g1, k0, k1⟩ := hS _ hB
            by_cases hltb : b < n
            · have hbi : (b : Int) < (n : Int) := by omega
              obtain rfl := HMA.out (by omega)
              have hab := HTL.out a b hlt hltb
              have hBw := bcat2 hBw2 hB
              have ca := below_cell hBw (HMC.out a hlt)
              have cb := below_cell hBw (HMC.out b hltb)
              have cab := below_cell hBw (HMC.out _ hab)
              have HA := hide (fun W (h : Below w.heap.size w W) => HMG.out W a b h hlt hltb)
              have HQ := hide (fun W (h : Below w.heap.size w W) => HMH.out W (φ a) (φ b) h (HLT.out a hlt) (HLT.out b hltb))
              rw [← HMU.out a b hlt hltb] at HQ
              generalize φ (tm n zs a b) = fab at *
              generalize φ a = fa at *
              generalize φ b = fb at *
              generalize tm n zs a b = d9 at *
              have hdi : (d9 : Int) < (n : Int) := by omega
              have hS' : ∀ W, Below wr.heap.size wr W → (Below wr.heap.size wr W ∧ W.cell? ⟨mb, mo + a, none⟩ = some (.int .i64 (fa : Int)) ∧ W.cell? ⟨mb, mo + b, none⟩ = some (.int .i64 (fb : Int)) ∧ W.cell? ⟨mb, mo + d9, none⟩ = some (.int .i64 (fab : Int)) ∧ W.cell? ⟨w.heap.size, 0, none⟩ = some (.int .i64 n) ∧ W.cell? ⟨w.heap.size, 1, none⟩ = some v ∧ W.cell? ⟨w.heap.size + 1, 0, none⟩ = some (.int .i64 m) ∧ W.cell? ⟨w.heap.size + 1, 1, none⟩ = some y) := fun W h => ⟨h, below_cell h ca, below_cell h cb, below_cell h cab, below_cell h g0, below_cell h g1, below_cell h k0, below_cell h k1⟩
              have hS1 := hS' _ (bdrew (Below.refl _ wr))
              have hk1 : Hid True := trivial
              go_wp2_with fail
              go_region_held3 (fun W => Below wr.heap.size wr W ∧ W.cell? ⟨mb, mo + a, none⟩ = some (.int .i64 (fa : Int)) ∧ W.cell? ⟨mb, mo + b, none⟩ = some (.int .i64 (fb : Int)) ∧ W.cell? ⟨mb, mo + d9, none⟩ = some (.int .i64 (fab : Int)) ∧ W.cell? ⟨w.heap.size, 0, none⟩ = some (.int .i64 n) ∧ W.cell? ⟨w.heap.size, 1, none⟩ = some v ∧ W.cell? ⟨w.heap.size + 1, 0, none⟩ = some (.int .i64 m) ∧ W.cell? ⟨w.heap.size + 1, 1, none⟩ = some y)
                (first | exact hS1 | assumption | exact hS' _ (bcat2 (And.left ‹_›) hl1))
                (first
                  | (go_at_call 15; clear hk1; refine (HQ.out _ (bcat2 hBw (And.left ‹_›))).mono ?_; rintro e1 U1 ⟨rfl, hl1⟩)
                  | (go_at_call 15; refine (HA.out _ (bcat2 hBw (And.left ‹_›))).mono ?_; rintro e2 U2 ⟨rfl, hl1⟩))
              all_goals (
                have hB9 := bcat2 hB (And.left ‹Below wr.heap.size wr U2 ∧ _›)
                go_wp2
                go_roundw
                case rel => exact ⟨b + 1, by omega, by go_num, hB9⟩
                case measure => simp [intOf]; omega)
            · have hbi : ¬ (b : Int) < (n : Int) := by omega
              go_wp2
              go_roundw
              case rel => exact ⟨a + 1, by omega, by go_num, hB⟩
              case measure => simp [intOf]; omega
        · have hai : ¬ (a : Int) < (n : Int) := by omega
          have hR9 := blk_below hR2 hB
          have hB9 := bcat2 hBw2 hB
          obtain ⟨y0, y1, fy0, fy1⟩ := hR9.two
          obtain ⟨s2, s3⟩ := hR9.self
          go_wp2
          exact bodyPost_ret (v := .agg #[.int .i64 0, .int .i64 0]) (by simp [results, Tryd.results12, go_sem, y0, y1]) rfl ⟨rfl, hB9⟩
end Go.Proofs.YtanbpjfdfnmjpaaDoor

namespace Go.Proofs.YtanbpjfdfnmjpaaDoor
open Go Go.RowKit

/-- What is wrong with two tables. -/
def twofault (N : Int) (zs : List Int) (M : Int) (ys : List Int) : Int × Int := if (gfault N zs).1 ≠ 0 then gfault N zs else gfault M ys
set_option maxRecDepth 100000 in
set_option maxHeartbeats 4000000 in
theorem rtwo_any (N M : Int) (v y : Value) (zs ys : List Int) (w : World) (hv : Sl w v zs) (hy : Sl w y ys) :
    Calls Tryd.prog 10 #[.agg #[.int .i64 N, v], .agg #[.int .i64 M, y]] w fun x w' => x = .returned (.agg #[.int .i64 (twofault N zs M ys).1, .int .i64 (twofault N zs M ys).2]) ∧ Below w.heap.size w w' := by
  obtain ⟨w0, BG⟩ := BegF.new w N M v y
  have HG := hide (groupFault_any N v zs w0 (hv.below BG.bel))
  have HH := hide (fun W (h : Below w.heap.size w W) => groupFault_any M y ys W (hy.below h))
  obtain ⟨e0, e1, _, _⟩ := BG.box.two
  rw [BG.eq] at e0 e1
  by_cases hc : (gfault N zs).1 = 0
  · obtain ⟨n, e, rfl, hg, _⟩ := gfault_grp hc
    rw [show twofault n zs M ys = gfault M ys by unfold twofault; rw [if_neg (by simpa using hc)]]
    rw [gfault_of_grp hg] at HG
    obtain ⟨c, i, hci⟩ : ∃ c i, gfault M ys = (c, i) := ⟨_, _, rfl⟩
    rw [hci] at HH ⊢
    simp only at HH ⊢
    clear hci hc
    go_enter Tryd.func10, Tryd.ntmps10
    go_wp2_with fail
    rw [← BG.eq]
    clear e0 e1
    refine HG.out.mono ?_
    rintro x w1 ⟨rfl, hb1⟩
    have hb2 := bcat2 hb1 (balloc w1 (.cells #[.int .i64 0, .int .i64 0] 28))
    have hF2 := blk0 (w := w1) (T := 28) (.int .i64 0) (.int .i64 0)
    have hBw := bcat BG.bel hb2 BG.bel.size
    have hY2 := blk_below BG.boy hb2
    have hR2 := blk_below BG.res hb2
    have hsz := Nat.le_trans (Nat.le_of_eq BG.siz.symm) hb1.size
    obtain ⟨t0, t1, _, _⟩ := hF2.two
    obtain ⟨k0, k1, _, _⟩ := hY2.two
    go_wp2_with fail
    generalize w1.alloc (.cells #[.int .i64 0, .int .i64 0] 28) = w2 at *
    clear t0 t1 k0 k1
    refine (HH.out _ hBw).mono ?_
    rintro x w3 ⟨rfl, hb3⟩
    have hF3 := blk_below hF2 hb3
    have hR3 := blk_below hR2 hb3
    have hB3 := bcat2 hBw hb3
    obtain ⟨hF4, hB4⟩ := put2 hF3 hB3 (by omega) c i
    have hR4 : Blk ((w3.setCell ⟨w1.heap.size, 0, none⟩ (.int .i64 c)).setCell ⟨w1.heap.size, 1, none⟩ (.int .i64 i)) (w.heap.size + 1 + 1) 28 [.int .i64 0, .int .i64 0] := (hR3.other (by simp; omega) _).other (by simp; omega) _
    obtain ⟨t0, t1, ft0, ft1⟩ := hF3.two
    obtain ⟨u0, u1, _, _⟩ := hF4.two
    obtain ⟨y0, y1, fy0, fy1⟩ := hR4.two
    obtain ⟨hR6, hB6⟩ := put2 hR4 hB4 (by omega) c i
    obtain ⟨z0, z1, _, _⟩ := hR6.two
    go_wp2
    exact bodyPost_ret (v := .agg #[.int .i64 c, .int .i64 i]) (by simp [results, Tryd.results10, go_sem, z0, z1]) rfl ⟨rfl, hB6⟩
  · rw [show twofault N zs M ys = gfault N zs by unfold twofault; rw [if_pos hc]]
    obtain ⟨c, i, hci⟩ : ∃ c i, gfault N zs = (c, i) := ⟨_, _, rfl⟩
    rw [hci] at HG hc ⊢
    simp only at HG hc ⊢
    clear hci
    have hcb : (c == 0) = false := by simpa using hc
    go_enter Tryd.func10, Tryd.ntmps10
    go_wp2_with fail
    rw [← BG.eq]
    clear e0 e1
    refine HG.out.mono ?_
    rintro x w1 ⟨rfl, hb1⟩
    have hb2 := bcat2 hb1 (balloc w1 (.cells #[.int .i64 c, .int .i64 i] 28))
    have hF2 := blk0 (w := w1) (T := 28) (.int .i64 c) (.int .i64 i)
    have hBw := bcat BG.bel hb2 BG.bel.size
    have hR2 := blk_below BG.res hb2
    obtain ⟨t0, t1, _, _⟩ := hF2.two
    obtain ⟨y0, y1, fy0, fy1⟩ := hR2.two
    obtain ⟨hR6, hB6⟩ := put2 hR2 hBw (by omega) c i
    obtain ⟨z0, z1, _, _⟩ := hR6.two
    go_wp2
    exact bodyPost_ret (v := .agg #[.int .i64 c, .int .i64 i]) (by simp [results, Tryd.results10, go_sem, z0, z1]) rfl ⟨rfl, hB6⟩
set_option maxRecDepth 100000 in
set_option maxHeartbeats 4000000 in
theorem rhom_two (N M : Int) (v y mv : Value) (zs ys : List Int) (w : World) (hv : Sl w v zs) (hy : Sl w y ys) (hc : (twofault N zs M ys).1 ≠ 0) :
    Calls Tryd.prog 12 #[.agg #[.int .i64 N, v], .agg #[.int .i64 M, y], mv] w fun x w' => x = .returned (.agg #[.int .i64 (twofault N zs M ys).1, .int .i64 (twofault N zs M ys).2]) ∧ Below w.heap.size w w' := by
  obtain ⟨w0, BG⟩ := BegF.new w N M v y
  have HTW := hide (rtwo_any N M v y zs ys w0 (hv.below BG.bel) (hy.below BG.bel))
  obtain ⟨c, i, hci⟩ : ∃ c i, twofault N zs M ys = (c, i) := ⟨_, _, rfl⟩
  rw [hci] at HTW hc ⊢
  simp only at HTW hc ⊢
  clear hci
  have hcb : (c != 0) = true := by simpa using hc
  obtain ⟨e0, e1, _, _⟩ := BG.box.two
  obtain ⟨k0, k1, _, _⟩ := BG.boy.two
  rw [BG.eq] at e0 e1 k0 k1
  go_enter Tryd.func12, Tryd.ntmps12
  go_wp2_with fail
  rw [← BG.eq]
  clear e0 e1 k0 k1
  refine HTW.out.mono ?_
  rintro x w1 ⟨rfl, hb1⟩
  have hb2 := bcat2 hb1 (balloc w1 (.cells #[.int .i64 c, .int .i64 i] 28))
  have hF2 := blk0 (w := w1) (T := 28) (.int .i64 c) (.int .i64 i)
  have hBw := bcat BG.bel hb2 BG.bel.size
  have hR2 := blk_below BG.res hb2
  obtain ⟨t0, t1, _, _⟩ := hF2.two
  obtain ⟨y0, y1, fy0, fy1⟩ := hR2.two
  obtain ⟨hR6, hB6⟩ := put2 hR2 hBw (by omega) c i
  obtain ⟨z0, z1, _, _⟩ := hR6.two
  go_wp2
  exact bodyPost_ret (v := .agg #[.int .i64 c, .int .i64 i]) (by simp [results, Tryd.results12, go_sem, z0, z1]) rfl ⟨rfl, hB6⟩

namespace Go.Proofs.YtanbpjfdfnmjpaaDoor
open Go Go.RowKit

set_option maxRecDepth 100000 in
set_option maxHeartbeats 8000000 in
theorem rhom_len (n e m d : Nat) (v y mv : Value) (zs ys ms : List Int) (w : World) (hv : Sl w v zs) (hg : IsGrp n zs e) (hy : Sl w y ys) (hh : IsGrp m ys d) (hm : Sl w mv ms) (hl : ms.length = n) :
    Calls Tryd.prog 12 #[.agg #[.int .i64 n, v], .agg #[.int .i64 m, y], mv] w fun x w' => x = .returned (.agg #[.int .i64 (hfault n zs m ys ms).1, .int .i64 (hfault n zs m ys ms).2]) ∧ Below w.heap.size w w' := by
  have hn := hg.tab.le
  obtain ⟨w0, BG⟩ := BegF.new w n m v y
  have HTW := hide (rtwo_good n e m d v y zs ys w0 (hv.below BG.bel) hg (hy.below BG.bel) hh)
  have HMG := hide (fun W a b (h : Below w.heap.size w W) (ha : a < n) (hb : b < n) => M_ok n v zs a b W hg.tab (hv.below h) ha hb)
  have HMH := hide (fun W a b (h : Below w.heap.size w W) (ha : a < m) (hb : b < m) => M_ok m y ys a b W hh.tab (hy.below h) ha hb)
  have HTL := hide (fun a b (ha : a < n) (hb : b < n) => tm_lt hg.tab ha hb)
  obtain ⟨c, i, hci⟩ : ∃ c i, hfault n zs m ys ms = (c, i) := ⟨_, _, rfl⟩
  have H3 := hide (fun k (hk : k < n) (h1 : ∀ t, t < k → rng m ms t = true) (h2 : rng m ms k = false) => show c = 3 ∧ i = (k : Int) by
    have h9 := hci.symm.trans (hfault_3 hg hh hl hk h1 h2)
    exact ⟨congrArg Prod.fst h9, congrArg Prod.snd h9⟩)
  have H7 := hide (fun (hr : ∀ t, t < n → rng m ms t = true) k (hk : k < n) (h1 : ∀ t, t < k → stq n zs m ys ms t = false) (h2 : stq n zs m ys ms k = true) => show c = 7 ∧ i = (k : Int) by
    have h9 := hci.symm.trans (hfault_7 hg hh hl hr hk h1 h2)
    exact ⟨congrArg Prod.fst h9, congrArg Prod.snd h9⟩)
  have H0 := hide (fun (hr : ∀ t, t < n → rng m ms t = true) (h1 : ∀ t, t < n → stq n zs m ys ms t = false) => show c = 0 ∧ i = 0 by
    have h9 := hci.symm.trans (hfault_0 hg hh hl hr h1)
    exact ⟨congrArg Prod.fst h9, congrArg Prod.snd h9⟩)
  rw [hci]
  simp only
  clear hci
  obtain ⟨ma, mc, mb, mo, rfl, hmr, hmb, _, hmm⟩ := hm
  have HMA := hide (fun (h : 0 < n) => hmr.at_ (by omega))
  have HMC := hide (fun i (h : i < n) => hmr.cell i (by omega))
  rw [hl] at *
  clear hmr hmm hl
  obtain ⟨e0, e1, _, _⟩ := BG.box.two
  obtain ⟨k0, k1, _, _⟩ := BG.boy.two
  rw [BG.eq] at e0 e1 k0 k1
  go_enter Tryd.func12, Tryd.ntmps12
  go_wp2_with fail
  rw [← BG.eq]
  clear e0 e1 k0 k1
  refine HTW.out.mono ?_
  rintro x w1 ⟨rfl, hb1⟩
  obtain ⟨w2, hw2⟩ : ∃ w2, w2 = w1.alloc (.cells #[.int .i64 0, .int .i64 0] 28) := ⟨_, rfl⟩
  have hb2 : Below w0.heap.size w0 w2 := by rw [hw2]; exact bcat2 hb1 (balloc w1 _)
  have hF2 : Blk w2 w1.heap.size 28 [.int .i64 0, .int .i64 0] := by rw [hw2]; exact blk0 _ _
  have hBw2 := bcat BG.bel hb2 BG.bel.size
  have hX2 := blk_below BG.box hb2
  have hY2 := blk_below BG.boy hb2
  have hR2 := blk_below BG.res hb2
  obtain ⟨t0, t1, _, _⟩ := hF2.two
  obtain ⟨g0, g1, _, _⟩ := hX2.two
  obtain ⟨k0, k1, _, _⟩ := hY2.two
  have hS : ∀ W, Below w2.heap.size w2 W → (Below w2.heap.size w2 W ∧ W.cell? ⟨w.heap.size, 0, none⟩ = some (.int .i64 n) ∧ W.cell? ⟨w.heap.size, 1, none⟩ = some v ∧ W.cell? ⟨w.heap.size + 1, 0, none⟩ = some (.int .i64 m) ∧ W.cell? ⟨w.heap.size + 1, 1, none⟩ = some y) := fun W h => ⟨h, below_cell h g0, below_cell h g1, below_cell h k0, below_cell h k1⟩
  rw [hw2] at t0 t1 g0 g1 k0 k1
  go_wp2
  rw [← hw2]
  clear hw2 t0 t1 g0 g1 k0 k1
  go_loopw [8] (fun i wr => ∃ a : Nat, a ≤ n ∧ i = .int .i64 a ∧ (∀ t, t < a → rng m ms t = true) ∧ Below w2.heap.size w2 wr) (fun i _ => n - (intOf i).toNat)
  case atStart => exact ⟨0, Nat.zero_le _, rfl, fun t ht => by omega, Below.refl _ _⟩
  case round =>
    obtain ⟨a, ha, rfl, hrg, hB⟩ := hrel
    obtain ⟨_, g0, g1, k0, k1⟩ := hS _ hB
    have hBw := bcat2 hBw2 hB
    have HRG := hide hrg
    clear hrg
    by_cases hlt : a < n
    · have hai : (a : Int) < (n : Int) := by omega
      obtain rfl := HMA.out (by omega)
      have ca := below_cell hBw (HMC.out a hlt)
      have HRN : Hid (rng m ms a = decide (0 ≤ ms[a]?.getD 0 ∧ ms[a]?.getD 0 < (m : Int))) := rfl
      generalize ms[a]?.getD 0 = fa at *
      by_cases hf1 : fa < 0
      · obtain ⟨rfl, rfl⟩ := H3.out a hlt HRG.out (by rw [HRN.out]; exact decide_eq_false (by omega))
        have hd1 : decide (fa < 0) = true := decide_eq_true hf1
        have HF := hide (fun W => f_any 3 a W)
        go_wp2_with fail
        go_quiet (fail)
        have hBq := bdrewN hB nq
        generalize wr.drewN nq = wq at hBq ⊢
        go_wp2_with fail
        refine (HF.out wq).mono ?_
        rintro e9 w9 ⟨rfl, hb9⟩
        have hB9 := bcat2 hBq hb9
        have hR9 := blk_below hR2 hB9
        obtain ⟨y0, y1, fy0, fy1⟩ := hR9.two
        obtain ⟨hR6, hB6⟩ := put2 hR9 (bcat2 hBw2 hB9) (by omega) 3 a
        obtain ⟨z0, z1, _, _⟩ := hR6.two
        go_wp2
        exact bodyPost_ret (v := .agg #[.int .i64 3, .int .i64 a]) (by simp [results, Tryd.results12, go_sem, z0, z1]) rfl ⟨rfl, hB6⟩
      · have hd1 : decide (fa < 0) = false := decide_eq_false hf1
        by_cases hf2 : fa < (m : Int)
        · obtain ⟨fn, rfl⟩ : ∃ fn : Nat, fa = (fn : Int) := ⟨fa.toNat, by omega⟩
          have hd2 : decide ((m : Int) ≤ (fn : Int)) = false := decide_eq_false (by omega)
          have hd3 : decide (m ≤ fn) = false := decide_eq_false (by omega)
          have hd4 : ¬ (m ≤ fn) := by omega
          have HR2 := hide (fun t (ht : t < a + 1) => show rng m ms t = true by
            by_cases e9 : t = a
            · subst e9; rw [HRN.out]; exact decide_eq_true (by omega)
            · exact HRG.out t (by omega))
          go_wp2_with fail
          go_quiet (fail)
          have hBq := bdrewN hB nq
          generalize wr.drewN nq = wq at hBq ⊢
          go_wp2
          go_roundw
          case rel => exact ⟨a + 1, by omega, by go_num, HR2.out, hBq⟩
          case measure => simp [intOf]; omega
        · obtain ⟨rfl, rfl⟩ := H3.out a hlt HRG.out (by rw [HRN.out]; exact decide_eq_false (by omega))
          have hd2 : decide ((m : Int) ≤ fa) = true := decide_eq_true (by omega)
          have hd5 : (m : Int) ≤ fa := by omega
          have HF := hide (fun W => f_any 3 a W)
          go_wp2_with fail
          go_quiet (fail)
          have hBq := bdrewN hB nq
          generalize wr.drewN nq = wq at hBq ⊢
          go_wp2_with fail
          refine (HF.out wq).mono ?_
          rintro e9 w9 ⟨rfl, hb9⟩
          have hB9 := bcat2 hBq hb9
          have hR9 := blk_below hR2 hB9
          obtain ⟨y0, y1, fy0, fy1⟩ := hR9.two
          obtain ⟨hR6, hB6⟩ := put2 hR9 (bcat2 hBw2 hB9) (by omega) 3 a
          obtain ⟨z0, z1, _, _⟩ := hR6.two
          go_wp2
          exact bodyPost_ret (v := .agg #[.int .i64 3, .int .i64 a]) (by simp [results, Tryd.results12, go_sem, z0, z1]) rfl ⟨rfl, hB6⟩
    · have hai : ¬ (a : Int) < (n : Int) := by omega
      obtain ⟨wo, rfl⟩ : ∃ wo, wo = wr := ⟨_, rfl⟩
      have HRA := hide (fun t (ht : t < n) => HRG.out t (by omega))
      clear HRG H3
      go_wp2
      go_loopw [9] (fun i wr => ∃ a : Nat, a ≤ n ∧ i = .int .i64 a ∧ (∀ t, t < a → stq n zs m ys ms t = false) ∧ Below w2.heap.size w2 wr) (fun i _ => n - (intOf i).toNat)
      case atStart => exact ⟨0, Nat.zero_le _, rfl, fun t ht => by omega, hB⟩
      case round =>
        clear g0 g1 k0 k1 hB hBw
        obtain ⟨a, ha, rfl, hst, hB⟩ := hrel
        have HST := hide hst
        clear hst
        obtain ⟨_, g0, g1, k0, k1⟩ := hS _ hB
        by_cases hlt : a < n
        · have hai : (a : Int) < (n : Int) := by omega
          go_wp2
          go_loopw [10] (fun i wr => ∃ b : Nat, b ≤ n ∧ i = .int .i64 b ∧ (∀ t, t < b → ms[tm n zs a t]?.getD 0 = (tm m ys (ms[a]?.getD 0).toNat (ms[t]?.getD 0).toNat : Int)) ∧ Below w2.heap.size w2 wr) (fun i _ => n - (intOf i).toNat)
          case atStart => exact ⟨0, Nat.zero_le _, rfl, fun t ht => by omega, hB⟩
          case round =>
            clear g0 g1 k0 k1 hB
            obtain ⟨b, hb, rfl, hpr, hB⟩ := hrel
            have HPR := hide hpr
            clear hpr
            obtain ⟨_, g0, g1, k0, k1⟩ := hS _ hB
            by_cases hltb : b < n
            · have hbi : (b : Int) < (n : Int) := by omega
              obtain rfl := HMA.out (by omega)
              have hab := HTL.out a b hlt hltb
              have hBw := bcat2 hBw2 hB
              have ca := below_cell hBw (HMC.out a hlt)
              have cb := below_cell hBw (HMC.out b hltb)
              have cab := below_cell hBw (HMC.out _ hab)
              have hra := HRA.out a hlt
              have hrb := HRA.out b hltb
              unfold rng at hra hrb
              obtain ⟨a0, a1⟩ := of_decide_eq_true hra
              obtain ⟨b0, b1⟩ := of_decide_eq_true hrb
              have hea : ms[a]?.getD 0 = ((ms[a]?.getD 0).toNat : Int) := by omega
              have heb : ms[b]?.getD 0 = ((ms[b]?.getD 0).toNat : Int) := by omega
              have hfa : (ms[a]?.getD 0).toNat < m := by omega
              have hfb : (ms[b]?.getD 0).toNat < m := by omega
              have HA := hide (fun W (h : Below w.heap.size w W) => HMG.out W a b h hlt hltb)
              have HQ := hide (fun W (h : Below w.heap.size w W) => HMH.out W _ _ h hfa hfb)
              have HB2 := hide (fun h => H7.out HRA.out a hlt HST.out (stq_yes (n := n) (zs := zs) (m := m) (ys := ys) (ms := ms) (a := a) (b := b) hltb h))
              have HB1 := hide (fun (h : ms[tm n zs a b]?.getD 0 = (tm m ys (ms[a]?.getD 0).toNat (ms[b]?.getD 0).toNat : Int)) t (ht : t < b + 1) => show ms[tm n zs a t]?.getD 0 = (tm m ys (ms[a]?.getD 0).toNat (ms[t]?.getD 0).toNat : Int) by
                by_cases e9 : t = b
                · subst e9; exact h
                · exact HPR.out t (by omega))
              rw [hea] at ca
              rw [heb] at cb
              clear hea heb a0 a1 b0 b1 hra hrb HPR
              generalize (ms[a]?.getD 0).toNat = fa at *
              generalize (ms[b]?.getD 0).toNat = fb at *
              generalize hcd : ms[tm n zs a b]?.getD 0 = fab at *
              have HCD := hide hcd
              clear hcd
              generalize hd9e : tm n zs a b = d9 at *
              have HD9 := hide hd9e
              clear hd9e
              generalize tm m ys fa fb = q9 at *
              have hdi : (d9 : Int) < (n : Int) := by omega
              have hS' : ∀ W, Below wr.heap.size wr W → (Below wr.heap.size wr W ∧ W.cell? ⟨mb, mo + a, none⟩ = some (.int .i64 (fa : Int)) ∧ W.cell? ⟨mb, mo + b, none⟩ = some (.int .i64 (fb : Int)) ∧ W.cell? ⟨mb, mo + d9, none⟩ = some (.int .i64 fab) ∧ W.cell? ⟨w.heap.size, 0, none⟩ = some (.int .i64 n) ∧ W.cell? ⟨w.heap.size, 1, none⟩ = some v ∧ W.cell? ⟨w.heap.size + 1, 0, none⟩ = some (.int .i64 m) ∧ W.cell? ⟨w.heap.size + 1, 1, none⟩ = some y) := fun W h => ⟨h, below_cell h ca, below_cell h cb, below_cell h cab, below_cell h g0, below_cell h g1, below_cell h k0, below_cell h k1⟩
              have hS1 := hS' _ (bdrew (Below.refl _ wr))
              have hk1 : Hid True := trivial
              by_cases heq : fab = (q9 : Int)
              · have HBX := hide (HB1.out heq)
                subst heq
                clear HB1 HB2
                go_wp2_with fail
                go_region_held3 (fun W => Below wr.heap.size wr W ∧ W.cell? ⟨mb, mo + a, none⟩ = some (.int .i64 (fa : Int)) ∧ W.cell? ⟨mb, mo + b, none⟩ = some (.int .i64 (fb : Int)) ∧ W.cell? ⟨mb, mo + d9, none⟩ = some (.int .i64 (q9 : Int)) ∧ W.cell? ⟨w.heap.size, 0, none⟩ = some (.int .i64 n) ∧ W.cell? ⟨w.heap.size, 1, none⟩ = some v ∧ W.cell? ⟨w.heap.size + 1, 0, none⟩ = some (.int .i64 m) ∧ W.cell? ⟨w.heap.size + 1, 1, none⟩ = some y)
                  (first | exact hS1 | assumption | exact hS' _ (bcat2 (And.left ‹_›) hl1))
                  (first
                    | (go_at_call 15; clear hk1; refine (HQ.out _ (bcat2 hBw (And.left ‹_›))).mono ?_; rintro e1 U1 ⟨rfl, hl1⟩)
                    | (go_at_call 15; refine (HA.out _ (bcat2 hBw (And.left ‹_›))).mono ?_; rintro e2 U2 ⟨rfl, hl1⟩))
                all_goals (
                  have hB9 := bcat2 hB (And.left ‹Below wr.heap.size wr U2 ∧ _›)
                  go_wp2
                  go_roundw
                  case rel => exact ⟨b + 1, by omega, by go_num, HBX.out, hB9⟩
                  case measure => simp [intOf]; omega)
              · obtain ⟨rfl, rfl⟩ := HB2.out heq
                have hne : ((q9 : Int) != fab) = true := by simpa using fun h => heq h.symm
                clear HB1 HB2
                have HF := hide (fun W => f_any 7 a W)
                go_wp2_with fail
                go_region_held3 (fun W => Below wr.heap.size wr W ∧ W.cell? ⟨mb, mo + a, none⟩ = some (.int .i64 (fa : Int)) ∧ W.cell? ⟨mb, mo + b, none⟩ = some (.int .i64 (fb : Int)) ∧ W.cell? ⟨mb, mo + d9, none⟩ = some (.int .i64 fab) ∧ W.cell? ⟨w.heap.size, 0, none⟩ = some (.int .i64 n) ∧ W.cell? ⟨w.heap.size, 1, none⟩ = some v ∧ W.cell? ⟨w.heap.size + 1, 0, none⟩ = some (.int .i64 m) ∧ W.cell? ⟨w.heap.size + 1, 1, none⟩ = some y)
                  (first | exact hS1 | assumption | exact hS' _ (bcat2 (And.left ‹_›) hl1))
                  (first
                    | (go_at_call 15; clear hk1; refine (HQ.out _ (bcat2 hBw (And.left ‹_›))).mono ?_; rintro e1 U1 ⟨rfl, hl1⟩)
                    | (go_at_call 15; refine (HA.out _ (bcat2 hBw (And.left ‹_›))).mono ?_; rintro e2 U2 ⟨rfl, hl1⟩))
                all_goals (
                  have hB8 := bcat2 hB (And.left ‹Below wr.heap.size wr U2 ∧ _›)
                  go_wp2_with fail
                  refine (HF.out _).mono ?_
                  rintro e9 w9 ⟨rfl, hb9⟩
                  have hB9 := bcat2 hB8 hb9
                  have hR9 := blk_below hR2 hB9
                  obtain ⟨y0, y1, fy0, fy1⟩ := hR9.two
                  obtain ⟨hR6, hB6⟩ := put2 hR9 (bcat2 hBw2 hB9) (by omega) 7 a
                  obtain ⟨z0, z1, _, _⟩ := hR6.two
                  go_wp2
                  exact bodyPost_ret (v := .agg #[.int .i64 7, .int .i64 a]) (by simp [results, Tryd.results12, go_sem, z0, z1]) rfl ⟨rfl, hB6⟩)
            · have hbi : ¬ (b : Int) < (n : Int) := by omega
              have HS2 := hide (fun t (ht : t < a + 1) => show stq n zs m ys ms t = false by
                by_cases e9 : t = a
                · subst e9; exact stq_no.2 (fun b9 hb9 => HPR.out b9 (by omega))
                · exact HST.out t (by omega))
              go_wp2
              go_roundw
              case rel => exact ⟨a + 1, by omega, by go_num, HS2.out, hB⟩
              case measure => simp [intOf]; omega
        · have hai : ¬ (a : Int) < (n : Int) := by omega
          obtain ⟨rfl, rfl⟩ := H0.out HRA.out (fun t ht => HST.out t (by omega))
          have hR9 := blk_below hR2 hB
          have hB9 := bcat2 hBw2 hB
          obtain ⟨y0, y1, fy0, fy1⟩ := hR9.two
          obtain ⟨s2, s3⟩ := hR9.self
          go_wp2
          exact bodyPost_ret (v := .agg #[.int .i64 0, .int .i64 0]) (by simp [results, Tryd.results12, go_sem, y0, y1]) rfl ⟨rfl, hB9⟩

namespace Go.Proofs.YtanbpjfdfnmjpaaDoor
open Go Go.RowKit

set_option maxRecDepth 100000 in
set_option maxHeartbeats 4000000 in
theorem rhom_8 (n e m d : Nat) (v y mv : Value) (zs ys ms : List Int) (w : World) (hv : Sl w v zs) (hg : IsGrp n zs e) (hy : Sl w y ys) (hh : IsGrp m ys d) (hm : Sl w mv ms) (hl : ¬ ms.length = n) :
    Calls Tryd.prog 12 #[.agg #[.int .i64 n, v], .agg #[.int .i64 m, y], mv] w fun x w' => x = .returned (.agg #[.int .i64 8, .int .i64 0]) ∧ Below w.heap.size w w' := by
  obtain ⟨w0, BG⟩ := BegF.new w n m v y
  have HTW := hide (rtwo_good n e m d v y zs ys w0 (hv.below BG.bel) hg (hy.below BG.bel) hh)
  obtain ⟨ma, mc, mb, mo, rfl, hmr, hmb, _, hmm⟩ := hm
  have hne : ((ms.length : Int) != (n : Int)) = true := by
    have : ¬ (ms.length : Int) = (n : Int) := by omega
    simpa using this
  have HF := hide (fun W => f_any 8 0 W)
  clear hmr hmm
  obtain ⟨e0, e1, _, _⟩ := BG.box.two
  obtain ⟨k0, k1, _, _⟩ := BG.boy.two
  rw [BG.eq] at e0 e1 k0 k1
  go_enter Tryd.func12, Tryd.ntmps12
  go_wp2_with fail
  rw [← BG.eq]
  clear e0 e1 k0 k1
  refine HTW.out.mono ?_
  rintro x w1 ⟨rfl, hb1⟩
  have hb2 := bcat2 hb1 (balloc w1 (.cells #[.int .i64 0, .int .i64 0] 28))
  have hF2 := blk0 (w := w1) (T := 28) (.int .i64 0) (.int .i64 0)
  have hBw := bcat BG.bel hb2 BG.bel.size
  have hX2 := blk_below BG.box hb2
  have hR2 := blk_below BG.res hb2
  obtain ⟨t0, t1, _, _⟩ := hF2.two
  obtain ⟨g0, g1, _, _⟩ := hX2.two
  go_wp2_with fail
  generalize w1.alloc (.cells #[.int .i64 0, .int .i64 0] 28) = w2 at *
  clear t0 t1 g0 g1
  refine (HF.out w2).mono ?_
  rintro e9 w9 ⟨rfl, hb9⟩
  have hR9 := blk_below hR2 hb9
  obtain ⟨y0, y1, fy0, fy1⟩ := hR9.two
  obtain ⟨hR6, hB6⟩ := put2 hR9 (bcat2 hBw hb9) (by omega) 8 0
  obtain ⟨z0, z1, _, _⟩ := hR6.two
  go_wp2
  exact bodyPost_ret (v := .agg #[.int .i64 8, .int .i64 0]) (by simp [results, Tryd.results12, go_sem, z0, z1]) rfl ⟨rfl, hB6⟩
theorem rhom_any (N M : Int) (v y mv : Value) (zs ys ms : List Int) (w : World) (hv : Sl w v zs) (hy : Sl w y ys) (hm : Sl w mv ms) :
    Calls Tryd.prog 12 #[.agg #[.int .i64 N, v], .agg #[.int .i64 M, y], mv] w fun x w' => x = .returned (.agg #[.int .i64 (hfault N zs M ys ms).1, .int .i64 (hfault N zs M ys ms).2]) ∧ Below w.heap.size w w' := by
  by_cases h1 : (gfault N zs).1 = 0
  · obtain ⟨n, e, rfl, hg, _⟩ := gfault_grp h1
    by_cases h2 : (gfault M ys).1 = 0
    · obtain ⟨m, d, rfl, hh, _⟩ := gfault_grp h2
      by_cases hl : ms.length = n
      · exact rhom_len n e m d v y mv zs ys ms w hv hg hy hh hm hl
      · rw [hfault_8 hg hh hl]
        exact rhom_8 n e m d v y mv zs ys ms w hv hg hy hh hm hl
    · have ht : twofault n zs M ys = gfault M ys := by unfold twofault; rw [if_neg (by simpa using h1)]
      rw [hfault_2 hg h2, ← ht]
      exact rhom_two n M v y mv zs ys w hv hy (by rw [ht]; exact h2)
  · have ht : twofault N zs M ys = gfault N zs := by unfold twofault; rw [if_pos h1]
    rw [hfault_1 h1, ← ht]
    exact rhom_two N M v y mv zs ys w hv hy (by rw [ht]; exact h1)
theorem hf_grp {N M : Int} {zs ys ms : List Int} (h : (hfault N zs M ys ms).1 = 0) : ∃ n e m d : Nat, N = n ∧ M = m ∧ IsGrp n zs e ∧ IsGrp m ys d := by
  by_cases h1 : (gfault N zs).1 = 0
  · obtain ⟨n, e, rfl, hg, _⟩ := gfault_grp h1
    by_cases h2 : (gfault M ys).1 = 0
    · obtain ⟨m, d, rfl, hh, _⟩ := gfault_grp h2
      exact ⟨n, e, m, d, rfl, rfl, hg, hh⟩
    · rw [hfault_2 hg h2] at h
      exact absurd h h2
  · rw [hfault_1 h1] at h
    exact absurd h h1
set_option maxRecDepth 100000 in
set_option maxHeartbeats 2000000 in
theorem then_ok (u v : Value) (xs ys : List Int) (w : World) (hu : Sl w u xs) (hv : Sl w v ys) (hx : ∀ k, k < xs.length → ∃ x : Nat, xs[k]?.getD 0 = (x : Int) ∧ x < ys.length) (h1000 : xs.length ≤ 1000) :
    Calls Tryd.prog 16 #[u, v] w fun e w' => ∃ r, e = .returned r ∧ Row w' w.heap.size r (xs.map fun x => ys[x.toNat]?.getD 0) ∧ Below w.heap.size w w' := by
  obtain ⟨i0, hi, hz0, hz1, hz2⟩ := info_parts info3b
  obtain ⟨a, cap, pb, po, rfl, hr, hp, hq3, hq4⟩ := hu
  obtain ⟨b, cap', qb, qo, rfl, hs, hq, hq7, hq8⟩ := hv
  have hyl : ys.length ≤ 9223372036854775807 := by unfold maxLen at hq8; omega
  have HX := hide hx
  obtain ⟨M, hM⟩ : ∃ M, M = xs.map fun x => ys[x.toNat]?.getD 0 := ⟨_, rfl⟩
  have HML := hide (show M.length = xs.length by rw [hM, List.length_map])
  have HMG := hide (fun k (hk : k < xs.length) (x : Nat) (h : xs[k]?.getD 0 = (x : Int)) => show M[k]?.getD 0 = ys[x]?.getD 0 by
    rw [List.getElem?_eq_getElem hk, Option.getD_some] at h
    rw [hM, List.getElem?_map, List.getElem?_eq_getElem hk]
    simp [h])
  rw [← hM]
  clear hM hx
  go_enter Tryd.func16, Tryd.ntmps16
  go_wp2
  go_loopw [5, 6] (fun v i wr => ∃ k : Nat, k ≤ xs.length ∧ i = .int .i64 k ∧ Row wr w.heap.size v (M.take k) ∧ Below w.heap.size w wr)
    (fun _ i _ => xs.length - (intOf i).toNat)
  case atStart => exact ⟨0, Nat.zero_le _, rfl, World.ownsRow_nil _ _ _ _, Below.refl _ _⟩
  case round =>
    obtain ⟨k, hk, rfl, hown, hB⟩ := hrel
    obtain ⟨v, rfl⟩ : ∃ v, v = u5 := ⟨_, rfl⟩
    have hBs := hB.size
    by_cases hlt : k < xs.length
    · have hil : (M.take k).length = k := by rw [List.length_take, HML.out]; omega
      obtain ⟨x, hxe, hxl⟩ := HX.out k hlt
      have hcx := (hr.below hB hp).cell k hlt
      have hcy := (hs.below hB hq).cell x hxl
      rw [hxe] at hcx
      obtain rfl := hr.at_ (by omega)
      obtain rfl := hs.at_ (by omega)
      have hsn : M.take (k + 1) = M.take k ++ [ys[x]?.getD 0] := by
        have h9 : k < M.length := by rw [HML.out]; exact hlt
        rw [List.take_succ_eq_append_getElem h9, ← HMG.out k hlt x hxe, List.getElem?_eq_getElem h9, Option.getD_some]
      have HIL := hide hil
      have HSN := hide hsn
      clear hil hsn hxe
      generalize ys[x]?.getD 0 = y at hcy HSN
      have hx1 : (x : Int) < (ys.length : Int) := by omega
      go_wp2_with (first
        | (at_builtin; refine wpList_append_own _ rfl _ _ 22 rfl w.heap.size 3 i0 (.int .i64 0) 1 8 under22b hi hz0 hz1 hz2 rfl (by decide) _ _ _ rfl (World.ownsRow.alloc hown _) ⟨wr.heap.size, 0, none⟩ 1 1 [.int .i64 y] rfl rfl ?c1 ?c2 ?c3 ?c4 ?c5 ?_))
      case c1 => exact cell_one_new _ _ _
      case c2 => simp [Value.oneCell']
      case c3 => unfold maxLen; have := HIL.out; omega
      case c4 => have := HIL.out; omega
      case c5 => simp; omega
      intro v' w2 hown' hgrow _
      obtain ⟨g', cap', rfl⟩ := ownsRow_succ hown'
      have hB2 : Below w.heap.size w w2 := (hB.alloc hBs _).grown hgrow (by simp; omega) (fun j e => owns_ge hown j e)
      have hown5 : Row w2 w.heap.size (.slice (some ⟨g', 0, none⟩) ((M.take k).length + 1) cap') (M.take (k + 1)) := by
        unfold Row
        rw [HSN.out]; simpa using hown'
      clear hown' hgrow hown
      go_wp2
      go_roundw
      case rel => exact ⟨k + 1, by omega, by go_num, by rw [← List.length_take]; exact hown5, hB2⟩
      case measure => simp [intOf]; omega
    · have hli : ¬ (k : Int) < (xs.length : Int) := by omega
      rw [List.take_of_length_le (by rw [HML.out]; omega)] at hown
      go_wp2
      go_ret
      exact ⟨_, rfl, hown, hB⟩
end Go.Proofs.YtanbpjfdfnmjpaaDoor
