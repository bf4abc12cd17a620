/- Package hom: opened, openedWith, strays, Check, Image; what is wrong with two tables and a list as a map; the document's TwoGroups and HomFault of a homomorphism; homomorphisms into what commutes. Condition: the library's table of places lies as its text lays it. The document's TwoGroups, HomFault and Then, at everything. What the law's ringOf and the document's OneToOne answer. The frame that all rows of this family share: how a table that came in reads. The frame that all rows of this family share: what the listed table gives a walk; how a list of ints that came in reads. How a list of lists of ints that came in reads. No condition. How a list of lists that came in reads, with how great its lists can be; and the law's own copy of it. No condition. -/
import Derived.Test.YtgejngpioldhpaaGreatDoorZ3
import Derived.Test.YtgejngpioldhpaaGreatDoorZ2
import Derived.Test.YtgejngpioldhpaaGreatDoorZ4
import Derived.Deep.AppendLies
import Derived.Deep.RegionLaw
import Derived.Test.YtgejngpioldhpaaGreatDoorRows
import Derived.Test.YtgejngpioldhpaaGreatDoorZ1
import Derived.ProofKit
import Derived.OpenShut
import Derived.ChangeOld
import Derived.Below
import Derived.SizedLaws
import Derived.LaidMore
import Derived.Stop.Joined
import Derived.Stop.LaidErr
import Derived.Lib.LaidTab
import Derived.Deep.Matrix
namespace Go.Proofs.YtgejngpioldhpaaGreatDoor
open Go Go.RowKit

/-- A block of eight cells, with all that a walk asks of it. -/
structure Eight (W : World) (b : Nat) (x0 x1 x2 x3 x4 x5 x6 x7 : Value) : Prop where
  blk : Blk W b 127 [x0, x1, x2, x3, x4, x5, x6, x7]
  c0 : W.cell? ⟨b, 0, none⟩ = some x0
  c1 : W.cell? ⟨b, 1, none⟩ = some x1
  c2 : W.cell? ⟨b, 2, none⟩ = some x2
  c3 : W.cell? ⟨b, 3, none⟩ = some x3
  c4 : W.cell? ⟨b, 4, none⟩ = some x4
  c5 : W.cell? ⟨b, 5, none⟩ = some x5
  c6 : W.cell? ⟨b, 6, none⟩ = some x6
  c7 : W.cell? ⟨b, 7, none⟩ = some x7
structure EightF (W : World) (b : Nat) : Prop where
  f0 : W.frozen? ⟨b, 0, none⟩ = false
  f1 : W.frozen? ⟨b, 1, none⟩ = false
  f2 : W.frozen? ⟨b, 2, none⟩ = false
  f3 : W.frozen? ⟨b, 3, none⟩ = false
  f4 : W.frozen? ⟨b, 4, none⟩ = false
  f5 : W.frozen? ⟨b, 5, none⟩ = false
  f6 : W.frozen? ⟨b, 6, none⟩ = false
  f7 : W.frozen? ⟨b, 7, none⟩ = false
structure EightS (W : World) (b : Nat) (x0 x1 x2 x3 x4 x5 x6 x7 : Value) : Prop where
  s0 : W.setCell ⟨b, 0, none⟩ x0 = W
  s1 : W.setCell ⟨b, 1, none⟩ x1 = W
  s2 : W.setCell ⟨b, 2, none⟩ x2 = W
  s3 : W.setCell ⟨b, 3, none⟩ x3 = W
  s4 : W.setCell ⟨b, 4, none⟩ x4 = W
  s5 : W.setCell ⟨b, 5, none⟩ x5 = W
  s6 : W.setCell ⟨b, 6, none⟩ x6 = W
  s7 : W.setCell ⟨b, 7, none⟩ x7 = W
section
variable {W : World} {b : Nat} {x0 x1 x2 x3 x4 x5 x6 x7 : Value}
theorem Eight.mk' (h : Blk W b 127 [x0, x1, x2, x3, x4, x5, x6, x7]) : Eight W b x0 x1 x2 x3 x4 x5 x6 x7 := ⟨h, h.cell 0, h.cell 1, h.cell 2, h.cell 3, h.cell 4, h.cell 5, h.cell 6, h.cell 7⟩
theorem Eight.fr (h : Blk W b 127 [x0, x1, x2, x3, x4, x5, x6, x7]) : EightF W b := ⟨h.frozen 0, h.frozen 1, h.frozen 2, h.frozen 3, h.frozen 4, h.frozen 5, h.frozen 6, h.frozen 7⟩
theorem Eight.se (h : Blk W b 127 [x0, x1, x2, x3, x4, x5, x6, x7]) : EightS W b x0 x1 x2 x3 x4 x5 x6 x7 := ⟨set_same _ _ _ _ (h.cell 0), set_same _ _ _ _ (h.cell 1), set_same _ _ _ _ (h.cell 2), set_same _ _ _ _ (h.cell 3), set_same _ _ _ _ (h.cell 4), set_same _ _ _ _ (h.cell 5), set_same _ _ _ _ (h.cell 6), set_same _ _ _ _ (h.cell 7)⟩
end
/-- What lies where a function begins that takes two tables and answers a pair and a fault. -/
structure BegP (w w0 : World) (N M : Int) (v y : Value) : Prop where
  eq : w0 = (((w.alloc (.cells #[.int .i64 N, v] 24)).alloc (.cells #[.int .i64 M, y] 24)).alloc (.cells #[.int .i64 0, .slice none 0 0, .int .i64 0, .slice none 0 0, .int .i64 0, .slice none 0 0, .int .i64 0, .slice none 0 0] 127)).alloc (.cells #[.int .i64 0, .int .i64 0] 27)
  bel : Below w.heap.size w w0
  box : BoxG w0 w.heap.size N v
  boy : BoxG w0 (w.heap.size + 1) M y
  par : Blk w0 (w.heap.size + 1 + 1) 127 [.int .i64 0, .slice none 0 0, .int .i64 0, .slice none 0 0, .int .i64 0, .slice none 0 0, .int .i64 0, .slice none 0 0]
  res : Blk w0 (w.heap.size + 1 + 1 + 1) 27 [.int .i64 0, .int .i64 0]
  siz : w0.heap.size = w.heap.size + 1 + 1 + 1 + 1
theorem BegP.new (w : World) (N M : Int) (v y : Value) : ∃ w0, BegP w w0 N M v y := by
  refine ⟨_, rfl, (((balloc w _).alloc (by simp) _).alloc (by simp; omega) _).alloc (by simp; omega) _, (((blk0 (w := w) (T := 24) _ _).alloc _).alloc _).alloc _, ?_, ?_, ?_, by simp⟩
  · have h := ((blk0 (w := w.alloc (.cells #[.int .i64 N, v] 24)) (T := 24) (.int .i64 M) y).alloc (.cells #[.int .i64 0, .slice none 0 0, .int .i64 0, .slice none 0 0, .int .i64 0, .slice none 0 0, .int .i64 0, .slice none 0 0] 127)).alloc (.cells #[.int .i64 0, .int .i64 0] 27)
    rw [World.size_alloc] at h
    exact h
  · have h : Blk (((w.alloc (.cells #[.int .i64 N, v] 24)).alloc (.cells #[.int .i64 M, y] 24)).alloc (.cells #[.int .i64 0, .slice none 0 0, .int .i64 0, .slice none 0 0, .int .i64 0, .slice none 0 0, .int .i64 0, .slice none 0 0] 127)) ((w.alloc (.cells #[.int .i64 N, v] 24)).alloc (.cells #[.int .i64 M, y] 24)).heap.size 127 [.int .i64 0, .slice none 0 0, .int .i64 0, .slice none 0 0, .int .i64 0, .slice none 0 0, .int .i64 0, .slice none 0 0] := World.alloc_heap_new _ _
    have h := h.alloc (.cells #[.int .i64 0, .int .i64 0] 27)
    rw [World.size_alloc, World.size_alloc] at h
    exact h
  · have h := blk0 (w := ((w.alloc (.cells #[.int .i64 N, v] 24)).alloc (.cells #[.int .i64 M, y] 24)).alloc (.cells #[.int .i64 0, .slice none 0 0, .int .i64 0, .slice none 0 0, .int .i64 0, .slice none 0 0, .int .i64 0, .slice none 0 0] 127)) (T := 27) (.int .i64 0) (.int .i64 0)
    rw [World.size_alloc, World.size_alloc, World.size_alloc] at h
    exact h
set_option maxRecDepth 100000 in
set_option maxHeartbeats 8000000 in
theorem pair_bad1 (N M : Int) (v y : Value) (zs : List Int) (w : World) (hv : Sl w v zs) (hc : (gfault N zs).1 ≠ 0) :
    Calls Tryz.prog 124 #[.agg #[.int .i64 N, v], .agg #[.int .i64 M, y]] w fun x w' => x = .returned (.tuple #[.agg #[.int .i64 0, .slice none 0 0, .int .i64 0, .slice none 0 0, .int .i64 0, .slice none 0 0, .int .i64 0, .slice none 0 0], .agg #[.int .i64 (gfault N zs).1, .int .i64 (gfault N zs).2]]) ∧ Below w.heap.size w w' := by
  obtain ⟨w0, BG⟩ := BegP.new w N M v y
  have HCK := hide (opened_bad N v zs w0 (hv.below BG.bel) hc)
  obtain ⟨c0, c1, _, _⟩ := BG.box.two
  obtain ⟨c, i, hci⟩ : ∃ c i, gfault N zs = (c, i) := ⟨_, _, rfl⟩
  rw [hci] at HCK hc ⊢
  simp only at HCK hc ⊢
  clear hci
  have hcb : (c != 0) = true := by simpa using hc
  rw [BG.eq] at c0 c1
  go_enter Tryz.func124, Tryz.ntmps124
  go_wp2_with fail
  rw [← BG.eq]
  clear c0 c1
  refine HCK.out.mono ?_
  rintro x w1 ⟨rfl, hb1⟩
  obtain ⟨w2, hw2⟩ : ∃ w2, w2 = (w1.alloc (.cells #[.int .i64 0, .slice none 0 0, .int .i64 0, .slice none 0 0] 51)).alloc (.cells #[.int .i64 c, .int .i64 i] 27) := ⟨_, rfl⟩
  have hB1 : Below w0.heap.size w0 w2 := by rw [hw2]; exact bcat2 hb1 ((balloc w1 _).alloc (by simp) _)
  have hF1 : Blk w2 (w1.heap.size + 1) 27 [.int .i64 c, .int .i64 i] := by
    rw [hw2]
    have := blk0 (w := w1.alloc (.cells #[.int .i64 0, .slice none 0 0, .int .i64 0, .slice none 0 0] 51)) (T := 27) (.int .i64 c) (.int .i64 i)
    rwa [World.size_alloc] at this
  have hR1 := blk_below BG.res hB1
  have hP1 := blk_below BG.par hB1
  have hBw := bcat BG.bel hB1 BG.bel.size
  obtain ⟨y0, y1, fy0, fy1⟩ := hR1.two
  obtain ⟨t0, t1, _, _⟩ := hF1.two
  obtain ⟨hR6, hB6⟩ := put2 hR1 hBw (by omega) c i
  have hP6 := (hP1.other (p := ⟨w.heap.size + 1 + 1 + 1, 0, none⟩) (by simp) (.int .i64 c)).other (p := ⟨w.heap.size + 1 + 1 + 1, 1, none⟩) (by simp) (.int .i64 i)
  have hB7 := bdrew hB6
  rw [hw2] at t0 t1
  go_wp2_with fail
  rw [← hw2] at t0 t1 ⊢
  clear hw2
  obtain ⟨_, p0, p1, p2, p3, p4, p5, p6, p7⟩ := Eight.mk' hP1
  obtain ⟨q0, q1, q2, q3, q4, q5, q6, q7⟩ := Eight.fr hP1
  obtain ⟨s0, s1, s2, s3, s4, s5, s6, s7⟩ := Eight.se hP1
  obtain ⟨u0, u1, u2, u3, u4, u5, u6, u7⟩ := Eight.se hP6
  obtain ⟨_, m0, m1, m2, m3, m4, m5, m6, m7⟩ := Eight.mk' hP6
  go_region
  all_goals (
    go_wp2
    obtain ⟨z0, z1, _, _⟩ := hR6.two
    exact bodyPost_ret (v := .tuple #[.agg #[.int .i64 0, .slice none 0 0, .int .i64 0, .slice none 0 0, .int .i64 0, .slice none 0 0, .int .i64 0, .slice none 0 0], .agg #[.int .i64 c, .int .i64 i]]) (by simp [results, Tryz.results124, go_sem, z0, z1, m0, m1, m2, m3, m4, m5, m6, m7]) rfl ⟨rfl, hB7⟩)
end Go.Proofs.YtgejngpioldhpaaGreatDoor

namespace Go.Proofs.YtgejngpioldhpaaGreatDoor
open Go Go.RowKit

set_option maxRecDepth 100000 in
set_option maxHeartbeats 8000000 in
theorem pair_bad2 (n e : Nat) (M : Int) (v y : Value) (zs ys : List Int) (w : World) (hv : Sl w v zs) (hg : IsGrp n zs e) (hy : Sl w y ys) (hc : (gfault M ys).1 ≠ 0) :
    Calls Tryz.prog 124 #[.agg #[.int .i64 n, v], .agg #[.int .i64 M, y]] w fun x w' => x = .returned (.tuple #[.agg #[.int .i64 0, .slice none 0 0, .int .i64 0, .slice none 0 0, .int .i64 0, .slice none 0 0, .int .i64 0, .slice none 0 0], .agg #[.int .i64 (gfault M ys).1, .int .i64 (gfault M ys).2]]) ∧ Below w.heap.size w w' := by
  obtain ⟨va, vl, vc, rfl⟩ := hv.isSlice
  obtain ⟨w0, BG⟩ := BegP.new w n M (.slice va vl vc) y
  have HCK := hide (opened_good n e (.slice va vl vc) zs w0 (hv.below BG.bel) hg)
  have HCL := hide (fun W (h : Below w.heap.size w W) => opened_bad M y ys W (hy.below h) hc)
  obtain ⟨c0, c1, _, _⟩ := BG.box.two
  obtain ⟨c, i, hci⟩ : ∃ c i, gfault M ys = (c, i) := ⟨_, _, rfl⟩
  rw [hci] at HCL hc ⊢
  simp only at HCL hc ⊢
  clear hci
  have hcb : (c != 0) = true := by simpa using hc
  rw [BG.eq] at c0 c1
  go_enter Tryz.func124, Tryz.ntmps124
  go_wp2_with fail
  rw [← BG.eq]
  clear c0 c1
  refine HCK.out.mono ?_
  rintro x w1 ⟨iv9, rfl, hSI, hb1⟩
  obtain ⟨ia, il, ic, rfl⟩ := hSI.sl.isSlice
  obtain ⟨w2, hw2⟩ : ∃ w2, w2 = (w1.alloc (.cells #[.int .i64 n, .slice va vl vc, .int .i64 e, .slice ia il ic] 51)).alloc (.cells #[.int .i64 0, .int .i64 0] 27) := ⟨_, rfl⟩
  have hB1 : Below w0.heap.size w0 w2 := by rw [hw2]; exact bcat2 hb1 ((balloc w1 _).alloc (by simp) _)
  have hF1 : Blk w2 (w1.heap.size + 1) 27 [.int .i64 0, .int .i64 0] := by
    rw [hw2]
    have := blk0 (w := w1.alloc (.cells #[.int .i64 n, .slice va vl vc, .int .i64 e, .slice ia il ic] 51)) (T := 27) (.int .i64 0) (.int .i64 0)
    rwa [World.size_alloc] at this
  have hBw2 := bcat BG.bel hB1 BG.bel.size
  have hY2 := blk_below BG.boy hB1
  obtain ⟨t0, t1, _, _⟩ := hF1.two
  obtain ⟨k0, k1, _, _⟩ := hY2.two
  have hw1s := hb1.size
  rw [BG.siz] at hw1s
  rw [hw2] at t0 t1 k0 k1
  go_wp2_with fail
  rw [← hw2]
  clear hw2 t0 t1 k0 k1
  refine (HCL.out _ hBw2).mono ?_
  rintro x w3 ⟨rfl, hb3⟩
  have hb4 := balloc w3 (.cells #[.int .i64 0, .slice none 0 0, .int .i64 0, .slice none 0 0] 51)
  have hb24 := bcat2 hb3 hb4
  have hF4 := blk_below hF1 hb24
  have hBw4 := bcat2 hBw2 hb24
  have hR4 := blk_below (blk_below BG.res hB1) hb24
  have hP4 := blk_below (blk_below BG.par hB1) hb24
  obtain ⟨t0, t1, ft0, ft1⟩ := hF4.two
  have hF5 := (hF4.set 0 (.int .i64 c)).set 1 (.int .i64 i)
  have hR5 := (hR4.other (p := ⟨w1.heap.size + 1, 0, none⟩) (by simp; omega) (.int .i64 c)).other (p := ⟨w1.heap.size + 1, 1, none⟩) (by simp; omega) (.int .i64 i)
  have hP5 := (hP4.other (p := ⟨w1.heap.size + 1, 0, none⟩) (by simp; omega) (.int .i64 c)).other (p := ⟨w1.heap.size + 1, 1, none⟩) (by simp; omega) (.int .i64 i)
  have hB5 := (hBw4.setCell (p := ⟨w1.heap.size + 1, 0, none⟩) (by simp; omega) (.int .i64 c)).setCell (p := ⟨w1.heap.size + 1, 1, none⟩) (by simp; omega) (.int .i64 i)
  obtain ⟨e0, e1, _, _⟩ := hF5.two
  go_wp2_with fail
  generalize ((w3.alloc (.cells #[.int .i64 0, .slice none 0 0, .int .i64 0, .slice none 0 0] 51)).setCell ⟨w1.heap.size + 1, 0, none⟩ (.int .i64 c)).setCell ⟨w1.heap.size + 1, 1, none⟩ (.int .i64 i) = w5 at *
  clear t0 t1 ft0 ft1 hF4 hR4 hP4
  obtain ⟨y0, y1, fy0, fy1⟩ := hR5.two
  obtain ⟨hR6, hB6⟩ := put2 hR5 hB5 (by omega) c i
  have hP6 := (hP5.other (p := ⟨w.heap.size + 1 + 1 + 1, 0, none⟩) (by simp) (.int .i64 c)).other (p := ⟨w.heap.size + 1 + 1 + 1, 1, none⟩) (by simp) (.int .i64 i)
  have hB7 := bdrew hB6
  obtain ⟨_, p0, p1, p2, p3, p4, p5, p6, p7⟩ := Eight.mk' hP5
  obtain ⟨q0, q1, q2, q3, q4, q5, q6, q7⟩ := Eight.fr hP5
  obtain ⟨s0, s1, s2, s3, s4, s5, s6, s7⟩ := Eight.se hP5
  obtain ⟨u0, u1, u2, u3, u4, u5, u6, u7⟩ := Eight.se hP6
  obtain ⟨_, m0, m1, m2, m3, m4, m5, m6, m7⟩ := Eight.mk' hP6
  go_region
  all_goals (
    go_wp2
    obtain ⟨z0, z1, _, _⟩ := hR6.two
    exact bodyPost_ret (v := .tuple #[.agg #[.int .i64 0, .slice none 0 0, .int .i64 0, .slice none 0 0, .int .i64 0, .slice none 0 0, .int .i64 0, .slice none 0 0], .agg #[.int .i64 c, .int .i64 i]]) (by simp [results, Tryz.results124, go_sem, z0, z1, m0, m1, m2, m3, m4, m5, m6, m7]) rfl ⟨rfl, hB7⟩)
theorem eight_set {W w : World} {b : Nat} {x0 x1 x2 x3 x4 x5 x6 x7 : Value} (h : Blk W b 127 [x0, x1, x2, x3, x4, x5, x6, x7]) (hB : Below w.heap.size w W) (hb : w.heap.size ≤ b) (y0 y1 y2 y3 y4 y5 y6 y7 : Value) :
    Blk ((((((((W.setCell ⟨b, 0, none⟩ y0).setCell ⟨b, 1, none⟩ y1).setCell ⟨b, 2, none⟩ y2).setCell ⟨b, 3, none⟩ y3).setCell ⟨b, 4, none⟩ y4).setCell ⟨b, 5, none⟩ y5).setCell ⟨b, 6, none⟩ y6).setCell ⟨b, 7, none⟩ y7) b 127 [y0, y1, y2, y3, y4, y5, y6, y7] ∧
    Below w.heap.size w ((((((((W.setCell ⟨b, 0, none⟩ y0).setCell ⟨b, 1, none⟩ y1).setCell ⟨b, 2, none⟩ y2).setCell ⟨b, 3, none⟩ y3).setCell ⟨b, 4, none⟩ y4).setCell ⟨b, 5, none⟩ y5).setCell ⟨b, 6, none⟩ y6).setCell ⟨b, 7, none⟩ y7) :=
  ⟨(((((((h.set 0 _).set 1 _).set 2 _).set 3 _).set 4 _).set 5 _).set 6 _).set 7 _, (((((((hB.setCell (p := ⟨b, 0, none⟩) hb _).setCell (p := ⟨b, 1, none⟩) hb _).setCell (p := ⟨b, 2, none⟩) hb _).setCell (p := ⟨b, 3, none⟩) hb _).setCell (p := ⟨b, 4, none⟩) hb _).setCell (p := ⟨b, 5, none⟩) hb _).setCell (p := ⟨b, 6, none⟩) hb _).setCell (p := ⟨b, 7, none⟩) hb _⟩
theorem eight_far {W : World} {b : Nat} (y0 y1 y2 y3 y4 y5 y6 y7 : Value) {g : Nat} (hg : g ≠ b) :
    ((((((((W.setCell ⟨b, 0, none⟩ y0).setCell ⟨b, 1, none⟩ y1).setCell ⟨b, 2, none⟩ y2).setCell ⟨b, 3, none⟩ y3).setCell ⟨b, 4, none⟩ y4).setCell ⟨b, 5, none⟩ y5).setCell ⟨b, 6, none⟩ y6).setCell ⟨b, 7, none⟩ y7).heap[g]? = W.heap[g]? := by
  have h : ∀ (V : World) k z, (V.setCell ⟨b, k, none⟩ z).heap[g]? = V.heap[g]? := fun V k z => Below.heap_setCell _ _ _ g (by simpa using hg)
  rw [h, h, h, h, h, h, h, h]
theorem eight_size {W : World} {b : Nat} (y0 y1 y2 y3 y4 y5 y6 y7 : Value) :
    ((((((((W.setCell ⟨b, 0, none⟩ y0).setCell ⟨b, 1, none⟩ y1).setCell ⟨b, 2, none⟩ y2).setCell ⟨b, 3, none⟩ y3).setCell ⟨b, 4, none⟩ y4).setCell ⟨b, 5, none⟩ y5).setCell ⟨b, 6, none⟩ y6).setCell ⟨b, 7, none⟩ y7).heap.size = W.heap.size := by
  simp only [size_set]
set_option maxRecDepth 100000 in
set_option maxHeartbeats 8000000 in
theorem pair_good (n e m d : Nat) (v y : Value) (zs ys : List Int) (w : World) (hv : Sl w v zs) (hg : IsGrp n zs e) (hy : Sl w y ys) (hh : IsGrp m ys d) :
    Calls Tryz.prog 124 #[.agg #[.int .i64 n, v], .agg #[.int .i64 m, y]] w fun x w' => ∃ u t, x = .returned (.tuple #[.agg #[.int .i64 n, v, .int .i64 e, u, .int .i64 m, y, .int .i64 d, t], .agg #[.int .i64 0, .int .i64 0]]) ∧ SlF w.heap.size w' u (li ((List.range n).map (iv n zs e))) ∧ SlF w.heap.size w' t (li ((List.range m).map (iv m ys d))) ∧ Below w.heap.size w w' := by
  obtain ⟨va, vl, vc, rfl⟩ := hv.isSlice
  obtain ⟨ya, yl, yc, rfl⟩ := hy.isSlice
  obtain ⟨w0, BG⟩ := BegP.new w n m (.slice va vl vc) (.slice ya yl yc)
  have HCK := hide (opened_good n e (.slice va vl vc) zs w0 (hv.below BG.bel) hg)
  have HCL := hide (fun W (h : Below w.heap.size w W) => opened_good m d (.slice ya yl yc) ys W (hy.below h) hh)
  obtain ⟨c0, c1, _, _⟩ := BG.box.two
  rw [BG.eq] at c0 c1
  go_enter Tryz.func124, Tryz.ntmps124
  go_wp2_with fail
  rw [← BG.eq]
  clear c0 c1
  refine HCK.out.mono ?_
  rintro x w1 ⟨iv9, rfl, hSI, hb1⟩
  obtain ⟨ia, il, ic, rfl⟩ := hSI.sl.isSlice
  obtain ⟨w2, hw2⟩ : ∃ w2, w2 = (w1.alloc (.cells #[.int .i64 n, .slice va vl vc, .int .i64 e, .slice ia il ic] 51)).alloc (.cells #[.int .i64 0, .int .i64 0] 27) := ⟨_, rfl⟩
  have hb12 : Below w1.heap.size w1 w2 := by rw [hw2]; exact (balloc w1 _).alloc (by simp) _
  have hB1 : Below w0.heap.size w0 w2 := bcat2 hb1 hb12
  have hF1 : Blk w2 (w1.heap.size + 1) 27 [.int .i64 0, .int .i64 0] := by
    rw [hw2]
    have := blk0 (w := w1.alloc (.cells #[.int .i64 n, .slice va vl vc, .int .i64 e, .slice ia il ic] 51)) (T := 27) (.int .i64 0) (.int .i64 0)
    rwa [World.size_alloc] at this
  have hH2 : Blk w2 w1.heap.size 51 [.int .i64 n, (.slice va vl vc), .int .i64 e, (.slice ia il ic)] := by
    rw [hw2]; exact (blk4 _ _ _ _).alloc _
  have hBw2 := bcat BG.bel hB1 BG.bel.size
  have hY2 := blk_below BG.boy hB1
  have hSI2 := hSI.below hb12
  obtain ⟨t0, t1, _, _⟩ := hF1.two
  obtain ⟨k0, k1, _, _⟩ := hY2.two
  have hw1s := hb1.size
  rw [BG.siz] at hw1s
  rw [hw2] at t0 t1 k0 k1
  go_wp2_with fail
  rw [← hw2]
  clear hw2 t0 t1 k0 k1
  refine (HCL.out _ hBw2).mono ?_
  rintro x w3 ⟨jv9, rfl, hSJ, hb3⟩
  obtain ⟨ja, jl, jc, rfl⟩ := hSJ.sl.isSlice
  have hb4 := balloc w3 (.cells #[.int .i64 m, .slice ya yl yc, .int .i64 d, .slice ja jl jc] 51)
  have hJ4 := blk4 (w := w3) (T := 51) (.int .i64 m) (.slice ya yl yc) (.int .i64 d) (.slice ja jl jc)
  have hb24 := bcat2 hb3 hb4
  have hF4 := blk_below hF1 hb24
  have hH4 := blk_below hH2 hb24
  have hBw4 := bcat2 hBw2 hb24
  have hR4 := blk_below (blk_below BG.res hB1) hb24
  have hP4 := blk_below (blk_below BG.par hB1) hb24
  have hSI4 := (hSI2.below hb24)
  have hSJ4 := hSJ.below hb4
  have hPl := (blk_below BG.par hB1).lt
  obtain ⟨t0, t1, ft0, ft1⟩ := hF4.two
  obtain ⟨s0, s1⟩ := hF4.self
  obtain ⟨_, h0, h1, h2, h3, _⟩ := Four.mk' hH4
  obtain ⟨_, j0, j1, j2, j3, _⟩ := Four.mk' hJ4
  obtain ⟨_, p0, p1, p2, p3, p4, p5, p6, p7⟩ := Eight.mk' hP4
  obtain ⟨q0, q1, q2, q3, q4, q5, q6, q7⟩ := Eight.fr hP4
  obtain ⟨y0, y1, fy0, fy1⟩ := hR4.two
  obtain ⟨hP5, hB5⟩ := eight_set hP4 hBw4 (by omega) (.int .i64 n) (.slice va vl vc) (.int .i64 e) (.slice ia il ic) (.int .i64 m) (.slice ya yl yc) (.int .i64 d) (.slice ja jl jc)
  have hR5 := hR4.of_eq (eight_far (W := w3.alloc (.cells #[.int .i64 m, .slice ya yl yc, .int .i64 d, .slice ja jl jc] 51)) (b := w.heap.size + 1 + 1) (.int .i64 n) (.slice va vl vc) (.int .i64 e) (.slice ia il ic) (.int .i64 m) (.slice ya yl yc) (.int .i64 d) (.slice ja jl jc) (g := w.heap.size + 1 + 1 + 1) (by omega))
  obtain ⟨o0, o1⟩ := hR5.self
  obtain ⟨_, m0, m1, m2, m3, m4, m5, m6, m7⟩ := Eight.mk' hP5
  obtain ⟨z0, z1, _, _⟩ := hR5.two
  have hkeep : ∀ g, w.heap.size + 1 + 1 + 1 + 1 ≤ g → _ := fun g (hg9 : w.heap.size + 1 + 1 + 1 + 1 ≤ g) => eight_far (W := w3.alloc (.cells #[.int .i64 m, .slice ya yl yc, .int .i64 d, .slice ja jl jc] 51)) (b := w.heap.size + 1 + 1) (.int .i64 n) (.slice va vl vc) (.int .i64 e) (.slice ia il ic) (.int .i64 m) (.slice ya yl yc) (.int .i64 d) (.slice ja jl jc) (g := g) (by omega)
  have hSI5 := (hSI4.keep (fun g h1 _ => hkeep g (by rw [BG.siz] at h1; exact h1)) (by rw [eight_size]; exact Nat.le_refl _)).mono BG.bel.size
  have hw2s := hb12.size
  have hSJ5 := (hSJ4.keep (fun g h1 _ => hkeep g (by omega)) (by rw [eight_size]; exact Nat.le_refl _)).mono hBw2.size
  clear hkeep
  go_wp2
  exact bodyPost_ret (v := .tuple #[.agg #[.int .i64 n, .slice va vl vc, .int .i64 e, .slice ia il ic, .int .i64 m, .slice ya yl yc, .int .i64 d, .slice ja jl jc], .agg #[.int .i64 0, .int .i64 0]]) (by simp [results, Tryz.results124, go_sem, z0, z1, m0, m1, m2, m3, m4, m5, m6, m7]) rfl ⟨_, _, rfl, hSI5, hSJ5, hB5⟩
end Go.Proofs.YtgejngpioldhpaaGreatDoor

namespace Go.Proofs.YtgejngpioldhpaaGreatDoor
open Go Go.RowKit

set_option maxRecDepth 100000 in
set_option maxHeartbeats 4000000 in
theorem ghas_ok (n : Nat) (v u : Value) (e a : Int) (w : World) :
    Calls Tryz.prog 125 #[.agg #[.int .i64 n, v, .int .i64 e, u], .int .i64 a] w fun x w' => x = .returned (.bool (decide (0 ≤ a ∧ a < n))) ∧ Below w.heap.size w w' := by
  have hB0 : Below w.heap.size w (w.alloc (.cells #[.int .i64 n, v, .int .i64 e, u] 51)) := balloc w _
  have hX0 := blk4 (w := w) (T := 51) (.int .i64 n) v (.int .i64 e) u
  obtain ⟨_, c0, c1, c2, c3, _⟩ := Four.mk' hX0
  obtain ⟨bb, hbb⟩ : ∃ bb, bb = decide (0 ≤ a ∧ a < (n : Int)) := ⟨_, rfl⟩
  rw [← hbb]
  have HBB := hide hbb
  clear hbb
  by_cases h0 : 0 ≤ a
  · by_cases h1 : a < n
    · have HD := hide (show bb = true by rw [HBB.out]; exact decide_eq_true ⟨h0, h1⟩)
      go_enter Tryz.func125, Tryz.ntmps125
      go_wp2
      go_ret
      exact ⟨by rw [HD.out]; rfl, hB0⟩
    · have HD := hide (show bb = false by rw [HBB.out]; exact decide_eq_false (fun h => h1 h.2))
      go_enter Tryz.func125, Tryz.ntmps125
      go_wp2
      go_ret
      exact ⟨by rw [HD.out]; rfl, hB0⟩
  · have HD := hide (show bb = false by rw [HBB.out]; exact decide_eq_false (fun h => h0 h.1))
    go_enter Tryz.func125, Tryz.ntmps125
    go_wp2
    go_ret
    exact ⟨by rw [HD.out]; rfl, hB0⟩
/-- Is there a thing by which a product is not kept? -/
def stq (n : Nat) (zs : List Int) (m : Nat) (ys ms : List Int) (a : Nat) : Bool := (List.range n).any fun b => !decide (ms[tm n zs a b]?.getD 0 = (tm m ys (ms[a]?.getD 0).toNat (ms[b]?.getD 0).toNat : Int))
theorem stq_no {n : Nat} {zs : List Int} {m : Nat} {ys ms : List Int} {a : Nat} : stq n zs m ys ms a = false ↔ ∀ b, b < n → ms[tm n zs a b]?.getD 0 = (tm m ys (ms[a]?.getD 0).toNat (ms[b]?.getD 0).toNat : Int) := by
  unfold stq
  rw [List.any_eq_false]
  simp only [List.mem_range, Bool.not_eq_true, Bool.not_eq_false', decide_eq_true_eq]
theorem stq_yes {n : Nat} {zs : List Int} {m : Nat} {ys ms : List Int} {a b : Nat} (hb : b < n) (h : ¬ ms[tm n zs a b]?.getD 0 = (tm m ys (ms[a]?.getD 0).toNat (ms[b]?.getD 0).toNat : Int)) : stq n zs m ys ms a = true := by
  unfold stq
  rw [List.any_eq_true]
  exact ⟨b, List.mem_range.2 hb, by simpa using h⟩
set_option maxRecDepth 100000 in
set_option maxHeartbeats 8000000 in
theorem strays_ok (n m e d a : Nat) (v u y t mv : Value) (zs ys ms : List Int) (w : World) (ht : IsTab n zs) (hu : IsTab m ys) (hv : Sl w v zs) (hy : Sl w y ys) (hm : Sl w mv ms) (hl : ms.length = n) (hr : ∀ i, i < n → 0 ≤ ms[i]?.getD 0 ∧ ms[i]?.getD 0 < m) (ha : a < n) :
    Calls Tryz.prog 126 #[.agg #[.int .i64 n, v, .int .i64 e, u, .int .i64 m, y, .int .i64 d, t], mv, .int .i64 a] w fun x w' => x = .returned (.bool (stq n zs m ys ms a)) ∧ Below w.heap.size w w' := by
  have hn := ht.le
  have hB0 : Below w.heap.size w (w.alloc (.cells #[.int .i64 n, v, .int .i64 e, u, .int .i64 m, y, .int .i64 d, t] 127)) := balloc w _
  have hX0 : Blk (w.alloc (.cells #[.int .i64 n, v, .int .i64 e, u, .int .i64 m, y, .int .i64 d, t] 127)) w.heap.size 127 [.int .i64 n, v, .int .i64 e, u, .int .i64 m, y, .int .i64 d, t] := World.alloc_heap_new _ _
  have HP1 := hide (fun W b (h : Below w.heap.size w W) (hb : b < n) => prd_ok n v u zs e a b W ht (hv.below h) ha hb)
  have HP2 := hide (fun W i j (h : Below w.heap.size w W) (hi : i < m) (hj : j < m) => prd_ok m y t ys d i j W hu (hy.below h) hi hj)
  have HTL := hide (fun b (hb : b < n) => tm_lt ht ha hb)
  have HR := hide hr
  have HNO := hide (stq_no (n := n) (zs := zs) (m := m) (ys := ys) (ms := ms) (a := a))
  have HYES := hide (fun b (hb : b < n) h => stq_yes (n := n) (zs := zs) (m := m) (ys := ys) (ms := ms) (a := a) (b := b) hb h)
  obtain ⟨bb, hbb⟩ : ∃ bb, bb = stq n zs m ys ms a := ⟨_, rfl⟩
  rw [← hbb] at HNO HYES ⊢
  clear hbb hr
  obtain ⟨ma, mc, mb, mo, rfl, hmr, hmb, _, hmm⟩ := hm
  have HMA := hide (fun (h : 0 < n) => hmr.at_ (by omega))
  have HMC := hide (fun i (h : i < n) => hmr.cell i (by omega))
  rw [hl] at *
  clear hmr hmm hl
  obtain ⟨_, p0, p1, p2, p3, p4, p5, p6, p7⟩ := Eight.mk' hX0
  go_enter Tryz.func126, Tryz.ntmps126
  go_wp2
  generalize w.alloc (.cells #[.int .i64 n, v, .int .i64 e, u, .int .i64 m, y, .int .i64 d, t] 127) = w0 at *
  clear p0 p1 p2 p3 p4 p5 p6 p7
  go_loopw [12] (fun i wr => ∃ b : Nat, b ≤ n ∧ i = .int .i64 b ∧ (∀ t, t < b → ms[tm n zs a t]?.getD 0 = (tm m ys (ms[a]?.getD 0).toNat (ms[t]?.getD 0).toNat : Int)) ∧ Below w0.heap.size w0 wr) (fun i _ => n - (intOf i).toNat)
  case atStart => exact ⟨0, Nat.zero_le _, rfl, fun t ht => by omega, Below.refl _ _⟩
  case round =>
    obtain ⟨b, hb, rfl, hno, hB⟩ := hrel
    have HALL := hide hno
    clear hno
    have hBw := bcat2 hB0 hB
    by_cases hlt : b < n
    · have hbi : (b : Int) < (n : Int) := by omega
      have hai : (a : Int) < (n : Int) := by omega
      obtain rfl := HMA.out (by omega)
      have hab := HTL.out b hlt
      have ca := below_cell hBw (HMC.out a ha)
      have cb := below_cell hBw (HMC.out b hlt)
      have cab := below_cell hBw (HMC.out _ hab)
      obtain ⟨a0, a1⟩ := HR.out a ha
      obtain ⟨b0, b1⟩ := HR.out b hlt
      have hea : ms[a]?.getD 0 = ((ms[a]?.getD 0).toNat : Int) := by omega
      have heb : ms[b]?.getD 0 = ((ms[b]?.getD 0).toNat : Int) := by omega
      have hfa : (ms[a]?.getD 0).toNat < m := by omega
      have hfb : (ms[b]?.getD 0).toNat < m := by omega
      have HQ1 := hide (fun W (h : Below w.heap.size w W) => HP1.out W b h hlt)
      have HQ2 := hide (fun W (h : Below w.heap.size w W) => HP2.out W _ _ h hfa hfb)
      have HB2 := hide (HYES.out b hlt)
      have HB1 := hide (fun (h : ms[tm n zs a b]?.getD 0 = (tm m ys (ms[a]?.getD 0).toNat (ms[b]?.getD 0).toNat : Int)) t (ht : t < b + 1) => show ms[tm n zs a t]?.getD 0 = (tm m ys (ms[a]?.getD 0).toNat (ms[t]?.getD 0).toNat : Int) by
        by_cases e9 : t = b
        · subst e9; exact h
        · exact HALL.out t (by omega))
      rw [hea] at ca
      rw [heb] at cb
      clear hea heb a0 a1 b0 b1
      generalize (ms[a]?.getD 0).toNat = fa at *
      generalize (ms[b]?.getD 0).toNat = fb at *
      generalize hcd : ms[tm n zs a b]?.getD 0 = fab at *
      have HCD := hide hcd
      clear hcd
      generalize hd9e : tm n zs a b = d9 at *
      have HD9 := hide hd9e
      clear hd9e
      generalize tm m ys fa fb = q9 at *
      have hdi : (d9 : Int) < (n : Int) := by omega
      obtain ⟨_, p0, p1, p2, p3, p4, p5, p6, p7⟩ := Eight.mk' (blk_below hX0 hB)
      have hS' : ∀ W, Below wr.heap.size wr W → (Below wr.heap.size wr W ∧ W.cell? ⟨mb, mo + a, none⟩ = some (.int .i64 (fa : Int)) ∧ W.cell? ⟨mb, mo + b, none⟩ = some (.int .i64 (fb : Int)) ∧ W.cell? ⟨mb, mo + d9, none⟩ = some (.int .i64 fab) ∧ W.cell? ⟨w.heap.size, 0, none⟩ = some (.int .i64 n) ∧ W.cell? ⟨w.heap.size, 1, none⟩ = some v ∧ W.cell? ⟨w.heap.size, 2, none⟩ = some (.int .i64 e) ∧ W.cell? ⟨w.heap.size, 3, none⟩ = some u ∧ W.cell? ⟨w.heap.size, 4, none⟩ = some (.int .i64 m) ∧ W.cell? ⟨w.heap.size, 5, none⟩ = some y ∧ W.cell? ⟨w.heap.size, 6, none⟩ = some (.int .i64 d) ∧ W.cell? ⟨w.heap.size, 7, none⟩ = some t) := fun W h => ⟨h, below_cell h ca, below_cell h cb, below_cell h cab, below_cell h p0, below_cell h p1, below_cell h p2, below_cell h p3, below_cell h p4, below_cell h p5, below_cell h p6, below_cell h p7⟩
      have hS1 := hS' _ (bdrew (Below.refl _ wr))
      have hk1 : Hid True := trivial
      clear p0 p1 p2 p3 p4 p5 p6 p7 ca cb cab
      by_cases heq : fab = (q9 : Int)
      · have HBX := hide (HB1.out heq)
        subst heq
        clear HB1 HB2
        go_wp2_with fail
        go_region_held3 (fun W => Below wr.heap.size wr W ∧ W.cell? ⟨mb, mo + a, none⟩ = some (.int .i64 (fa : Int)) ∧ W.cell? ⟨mb, mo + b, none⟩ = some (.int .i64 (fb : Int)) ∧ W.cell? ⟨mb, mo + d9, none⟩ = some (.int .i64 (q9 : Int)) ∧ W.cell? ⟨w.heap.size, 0, none⟩ = some (.int .i64 n) ∧ W.cell? ⟨w.heap.size, 1, none⟩ = some v ∧ W.cell? ⟨w.heap.size, 2, none⟩ = some (.int .i64 e) ∧ W.cell? ⟨w.heap.size, 3, none⟩ = some u ∧ W.cell? ⟨w.heap.size, 4, none⟩ = some (.int .i64 m) ∧ W.cell? ⟨w.heap.size, 5, none⟩ = some y ∧ W.cell? ⟨w.heap.size, 6, none⟩ = some (.int .i64 d) ∧ W.cell? ⟨w.heap.size, 7, none⟩ = some t)
          (first | exact hS1 | assumption | exact hS' _ (bcat2 (And.left ‹_›) hl1))
          (first
            | (go_at_call 79; clear hk1; refine (HQ1.out _ (bcat2 hBw (And.left ‹_›))).mono ?_; rintro e1 U1 ⟨rfl, hl1⟩)
            | (go_at_call 79; refine (HQ2.out _ (bcat2 hBw (And.left ‹_›))).mono ?_; rintro e2 U2 ⟨rfl, hl1⟩))
        all_goals (
          have hB9 := bcat2 hB (And.left ‹Below wr.heap.size wr U2 ∧ _›)
          go_wp2
          go_roundw
          case rel => exact ⟨b + 1, by omega, by go_num, HBX.out, hB9⟩
          case measure => simp [intOf]; omega)
      · have HBX := hide (HB2.out heq)
        have hne : (fab != (q9 : Int)) = true := by simpa using heq
        clear HB1 HB2
        go_wp2_with fail
        go_region_held3 (fun W => Below wr.heap.size wr W ∧ W.cell? ⟨mb, mo + a, none⟩ = some (.int .i64 (fa : Int)) ∧ W.cell? ⟨mb, mo + b, none⟩ = some (.int .i64 (fb : Int)) ∧ W.cell? ⟨mb, mo + d9, none⟩ = some (.int .i64 fab) ∧ W.cell? ⟨w.heap.size, 0, none⟩ = some (.int .i64 n) ∧ W.cell? ⟨w.heap.size, 1, none⟩ = some v ∧ W.cell? ⟨w.heap.size, 2, none⟩ = some (.int .i64 e) ∧ W.cell? ⟨w.heap.size, 3, none⟩ = some u ∧ W.cell? ⟨w.heap.size, 4, none⟩ = some (.int .i64 m) ∧ W.cell? ⟨w.heap.size, 5, none⟩ = some y ∧ W.cell? ⟨w.heap.size, 6, none⟩ = some (.int .i64 d) ∧ W.cell? ⟨w.heap.size, 7, none⟩ = some t)
          (first | exact hS1 | assumption | exact hS' _ (bcat2 (And.left ‹_›) hl1))
          (first
            | (go_at_call 79; clear hk1; refine (HQ1.out _ (bcat2 hBw (And.left ‹_›))).mono ?_; rintro e1 U1 ⟨rfl, hl1⟩)
            | (go_at_call 79; refine (HQ2.out _ (bcat2 hBw (And.left ‹_›))).mono ?_; rintro e2 U2 ⟨rfl, hl1⟩))
        all_goals (
          have hB9 := bcat2 hBw (And.left ‹Below wr.heap.size wr U2 ∧ _›)
          go_wp2
          go_ret
          exact ⟨by rw [HBX.out]; rfl, hB9⟩)
    · have hbi : ¬ (b : Int) < (n : Int) := by omega
      have HBN := hide (HNO.out.2 (fun t ht => HALL.out t (by omega)))
      go_wp2
      go_ret
      exact ⟨by rw [HBN.out]; rfl, bcat2 hB0 hB⟩
end Go.Proofs.YtgejngpioldhpaaGreatDoor

namespace Go.Proofs.YtgejngpioldhpaaGreatDoor
open Go Go.RowKit

/-- Is a list's number a thing? -/
def rng (m : Int) (ms : List Int) (i : Nat) : Bool := decide (0 ≤ ms[i]?.getD 0 ∧ ms[i]?.getD 0 < m)
/-- What is wrong with two tables and a list as a map of things. -/
def hfault (N : Int) (zs : List Int) (M : Int) (ys ms : List Int) : Int × Int :=
  if (gfault N zs).1 ≠ 0 then gfault N zs
  else if (gfault M ys).1 ≠ 0 then gfault M ys
  else if ¬ (ms.length : Int) = N then (8, 0)
  else if ¬ least ms.length (fun i => !rng M ms i) = -1 then (3, least ms.length (fun i => !rng M ms i))
  else if ¬ least ms.length (stq N.toNat zs M.toNat ys ms) = -1 then (7, least ms.length (stq N.toNat zs M.toNat ys ms))
  else (0, 0)
theorem hfault_1 {N : Int} {zs : List Int} {M : Int} {ys ms : List Int} (h : (gfault N zs).1 ≠ 0) : hfault N zs M ys ms = gfault N zs := by unfold hfault; rw [if_pos h]
theorem hfault_2 {n e : Nat} {zs : List Int} {M : Int} {ys ms : List Int} (g : IsGrp n zs e) (h : (gfault M ys).1 ≠ 0) : hfault n zs M ys ms = gfault M ys := by unfold hfault; rw [gfault_of_grp g, if_neg (by simp), if_pos h]
section
variable {n e m d : Nat} {zs ys ms : List Int}
theorem hfault_g (g : IsGrp n zs e) (h : IsGrp m ys d) : hfault n zs m ys ms = if ¬ (ms.length : Int) = (n : Int) then (8, 0) else if ¬ least ms.length (fun i => !rng m ms i) = -1 then (3, least ms.length (fun i => !rng m ms i)) else if ¬ least ms.length (stq n zs m ys ms) = -1 then (7, least ms.length (stq n zs m ys ms)) else (0, 0) := by
  unfold hfault
  rw [gfault_of_grp g, if_neg (by simp), gfault_of_grp h, if_neg (by simp), Int.toNat_natCast, Int.toNat_natCast]
theorem hfault_8 (g : IsGrp n zs e) (h : IsGrp m ys d) (hl : ¬ ms.length = n) : hfault n zs m ys ms = (8, 0) := by
  rw [hfault_g g h, if_pos (by omega)]
theorem least_is {k : Nat} {j : Nat} {p : Nat → Bool} (hj : j < k) (h1 : ∀ t, t < j → p t = false) (h2 : p j = true) : least k p = (j : Int) := by
  rcases least_cases k p with ⟨i, hi, hp, hlt, he⟩ | ⟨hno, _⟩
  · rw [he]
    rcases Nat.lt_trichotomy i j with h | h | h
    · rw [h1 i h] at hp; cases hp
    · rw [h]
    · have := hlt j h; rw [h2] at this; cases this
  · rw [hno j hj] at h2; cases h2
theorem least_no {k : Nat} {p : Nat → Bool} (h1 : ∀ t, t < k → p t = false) : least k p = -1 := by
  rcases least_cases k p with ⟨i, hi, hp, _, _⟩ | ⟨_, he⟩
  · rw [h1 i hi] at hp; cases hp
  · exact he
theorem hfault_3 (g : IsGrp n zs e) (h : IsGrp m ys d) (hl : ms.length = n) {k : Nat} (hk : k < n) (h1 : ∀ t, t < k → rng m ms t = true) (h2 : rng m ms k = false) : hfault n zs m ys ms = (3, (k : Int)) := by
  rw [hfault_g g h, if_neg (by omega), least_is (j := k) (by omega) (fun t ht => by rw [h1 t ht]; rfl) (by rw [h2]; rfl), if_pos (by omega)]
theorem hfault_7 (g : IsGrp n zs e) (h : IsGrp m ys d) (hl : ms.length = n) (hr : ∀ t, t < n → rng m ms t = true) {k : Nat} (hk : k < n) (h1 : ∀ t, t < k → stq n zs m ys ms t = false) (h2 : stq n zs m ys ms k = true) : hfault n zs m ys ms = (7, (k : Int)) := by
  rw [hfault_g g h, if_neg (by omega), least_no (fun t ht => by rw [hr t (by omega)]; rfl), if_neg (by simp), least_is (j := k) (by omega) h1 h2, if_pos (by omega)]
theorem hfault_0 (g : IsGrp n zs e) (h : IsGrp m ys d) (hl : ms.length = n) (hr : ∀ t, t < n → rng m ms t = true) (h1 : ∀ t, t < n → stq n zs m ys ms t = false) : hfault n zs m ys ms = (0, 0) := by
  rw [hfault_g g h, if_neg (by omega), least_no (fun t ht => by rw [hr t (by omega)]; rfl), if_neg (by simp), least_no (fun t ht => h1 t (by omega)), if_neg (by simp)]
end
set_option maxRecDepth 100000 in
set_option maxHeartbeats 8000000 in
theorem ow_bad (N M c i : Int) (v y mv : Value) (w : World) (hc : c ≠ 0)
    (HP : Hid (∀ W, Below w.heap.size w W → Calls Tryz.prog 124 #[.agg #[.int .i64 N, v], .agg #[.int .i64 M, y]] W fun x w' => x = .returned (.tuple #[.agg #[.int .i64 0, .slice none 0 0, .int .i64 0, .slice none 0 0, .int .i64 0, .slice none 0 0, .int .i64 0, .slice none 0 0], .agg #[.int .i64 c, .int .i64 i]]) ∧ Below W.heap.size W w')) :
    Calls Tryz.prog 118 #[.agg #[.int .i64 N, v], .agg #[.int .i64 M, y], mv] w fun x w' => x = .returned (.tuple #[.agg #[.int .i64 0, .slice none 0 0, .int .i64 0, .slice none 0 0, .int .i64 0, .slice none 0 0, .int .i64 0, .slice none 0 0], .agg #[.int .i64 c, .int .i64 i]]) ∧ Below w.heap.size w w' := by
  obtain ⟨w0, BG⟩ := BegP.new w N M v y
  have HCK := hide (HP.out w0 BG.bel)
  obtain ⟨c0, c1, _, _⟩ := BG.box.two
  obtain ⟨k0, k1, _, _⟩ := BG.boy.two
  have hcb : (c != 0) = true := by simpa using hc
  rw [BG.eq] at c0 c1 k0 k1
  go_enter Tryz.func118, Tryz.ntmps118
  go_wp2_with fail
  rw [← BG.eq]
  clear c0 c1 k0 k1
  refine HCK.out.mono ?_
  rintro x w1 ⟨rfl, hb1⟩
  obtain ⟨w2, hw2⟩ : ∃ w2, w2 = (w1.alloc (.cells #[.int .i64 0, .slice none 0 0, .int .i64 0, .slice none 0 0, .int .i64 0, .slice none 0 0, .int .i64 0, .slice none 0 0] 127)).alloc (.cells #[.int .i64 c, .int .i64 i] 27) := ⟨_, rfl⟩
  have hB1 : Below w0.heap.size w0 w2 := by rw [hw2]; exact bcat2 hb1 ((balloc w1 _).alloc (by simp) _)
  have hF1 : Blk w2 (w1.heap.size + 1) 27 [.int .i64 c, .int .i64 i] := by
    rw [hw2]
    have := blk0 (w := w1.alloc (.cells #[.int .i64 0, .slice none 0 0, .int .i64 0, .slice none 0 0, .int .i64 0, .slice none 0 0, .int .i64 0, .slice none 0 0] 127)) (T := 27) (.int .i64 c) (.int .i64 i)
    rwa [World.size_alloc] at this
  have hR1 := blk_below BG.res hB1
  have hP1 := blk_below BG.par hB1
  have hBw := bcat BG.bel hB1 BG.bel.size
  obtain ⟨y0, y1, fy0, fy1⟩ := hR1.two
  obtain ⟨t0, t1, _, _⟩ := hF1.two
  obtain ⟨hR6, hB6⟩ := put2 hR1 hBw (by omega) c i
  have hP6 := (hP1.other (p := ⟨w.heap.size + 1 + 1 + 1, 0, none⟩) (by simp) (.int .i64 c)).other (p := ⟨w.heap.size + 1 + 1 + 1, 1, none⟩) (by simp) (.int .i64 i)
  have hB7 := bdrew hB6
  rw [hw2] at t0 t1
  go_wp2_with fail
  rw [← hw2] at t0 t1 ⊢
  clear hw2
  obtain ⟨_, p0, p1, p2, p3, p4, p5, p6, p7⟩ := Eight.mk' hP1
  obtain ⟨q0, q1, q2, q3, q4, q5, q6, q7⟩ := Eight.fr hP1
  obtain ⟨s0, s1, s2, s3, s4, s5, s6, s7⟩ := Eight.se hP1
  obtain ⟨u0, u1, u2, u3, u4, u5, u6, u7⟩ := Eight.se hP6
  obtain ⟨_, m0, m1, m2, m3, m4, m5, m6, m7⟩ := Eight.mk' hP6
  go_region
  all_goals (
    go_wp2
    obtain ⟨z0, z1, _, _⟩ := hR6.two
    exact bodyPost_ret (v := .tuple #[.agg #[.int .i64 0, .slice none 0 0, .int .i64 0, .slice none 0 0, .int .i64 0, .slice none 0 0, .int .i64 0, .slice none 0 0], .agg #[.int .i64 c, .int .i64 i]]) (by simp [results, Tryz.results118, go_sem, z0, z1, m0, m1, m2, m3, m4, m5, m6, m7]) rfl ⟨rfl, hB7⟩)
end Go.Proofs.YtgejngpioldhpaaGreatDoor

namespace Go.Proofs.YtgejngpioldhpaaGreatDoor
open Go Go.RowKit

set_option maxRecDepth 100000 in
set_option maxHeartbeats 2000000 in
theorem ow_any (n e m d : Nat) (v y mv : Value) (zs ys ms : List Int) (w : World) (hv : Sl w v zs) (hg : IsGrp n zs e) (hy : Sl w y ys) (hh : IsGrp m ys d) (hm : Sl w mv ms) :
    Calls Tryz.prog 118 #[.agg #[.int .i64 n, v], .agg #[.int .i64 m, y], mv] w fun x w' => ∃ P, x = .returned (.tuple #[P, .agg #[.int .i64 (hfault n zs m ys ms).1, .int .i64 (hfault n zs m ys ms).2]]) ∧ ((hfault n zs m ys ms).1 = 0 → ∃ u t, P = .agg #[.int .i64 n, v, .int .i64 e, u, .int .i64 m, y, .int .i64 d, t] ∧ SlF w.heap.size w' u (li ((List.range n).map (iv n zs e))) ∧ SlF w.heap.size w' t (li ((List.range m).map (iv m ys d)))) ∧ (¬ (hfault n zs m ys ms).1 = 0 → P = .agg #[.int .i64 0, .slice none 0 0, .int .i64 0, .slice none 0 0, .int .i64 0, .slice none 0 0, .int .i64 0, .slice none 0 0]) ∧ Below w.heap.size w w' := by
  obtain ⟨va, vl, vc, rfl⟩ := hv.isSlice
  obtain ⟨ya, yl, yc, rfl⟩ := hy.isSlice
  have hn := hg.tab.le
  obtain ⟨w0, BG⟩ := BegP.new w n m (.slice va vl vc) (.slice ya yl yc)
  have HCK := hide (pair_good n e m d (.slice va vl vc) (.slice ya yl yc) zs ys w0 (hv.below BG.bel) hg (hy.below BG.bel) hh)
  have H8 := hide (fun (h : ¬ ms.length = n) => hfault_8 (ms := ms) hg hh h)
  have H3 := hide (fun (h : ms.length = n) k (hk : k < n) h1 h2 => hfault_3 (k := k) hg hh h hk h1 h2)
  have H7 := hide (fun (h : ms.length = n) hr k (hk : k < n) h1 h2 => hfault_7 (k := k) hg hh h hr hk h1 h2)
  have H0 := hide (fun (h : ms.length = n) hr h1 => hfault_0 hg hh h hr h1)
  obtain ⟨hf, hfe⟩ : ∃ hf, hf = hfault n zs m ys ms := ⟨_, rfl⟩
  rw [← hfe] at H8 H3 H7 H0 ⊢
  clear hfe
  have HST := hide (fun W a (u t : Value) (h : Below w.heap.size w W) (hl : ms.length = n) (hr : ∀ i, i < n → 0 ≤ ms[i]?.getD 0 ∧ ms[i]?.getD 0 < m) (ha : a < n) => strays_ok n m e d a (.slice va vl vc) u (.slice ya yl yc) t mv zs ys ms W hg.tab hh.tab (hv.below h) (hy.below h) (hm.below h) hl hr ha)
  obtain ⟨ma, mc, mb, mo, rfl, hmr, hmb, _, hmm⟩ := hm
  have hml : ms.length ≤ 9223372036854775807 := by unfold maxLen at hmm; omega
  have HMR := hide hmr
  clear hmr hmm
  obtain ⟨c0, c1, _, _⟩ := BG.box.two
  obtain ⟨k0, k1, _, _⟩ := BG.boy.two
  rw [BG.eq] at c0 c1 k0 k1
  go_enter Tryz.func118, Tryz.ntmps118
  go_wp2_with fail
  rw [← BG.eq]
  clear c0 c1 k0 k1
  refine HCK.out.mono ?_
  rintro x w1 ⟨iv9, jv9, rfl, hSI, hSJ, hb1⟩
  obtain ⟨ia, il, ic, rfl⟩ := hSI.sl.isSlice
  obtain ⟨ja, jl, jc, rfl⟩ := hSJ.sl.isSlice
  obtain ⟨w2, hw2⟩ : ∃ w2, w2 = (w1.alloc (.cells #[.int .i64 n, .slice va vl vc, .int .i64 e, .slice ia il ic, .int .i64 m, .slice ya yl yc, .int .i64 d, .slice ja jl jc] 127)).alloc (.cells #[.int .i64 0, .int .i64 0] 27) := ⟨_, rfl⟩
  have hb12 : Below w1.heap.size w1 w2 := by rw [hw2]; exact (balloc w1 _).alloc (by simp) _
  have hB1 : Below w0.heap.size w0 w2 := bcat2 hb1 hb12
  have hF2 : Blk w2 (w1.heap.size + 1) 27 [.int .i64 0, .int .i64 0] := by
    rw [hw2]
    have := blk0 (w := w1.alloc (.cells #[.int .i64 n, .slice va vl vc, .int .i64 e, .slice ia il ic, .int .i64 m, .slice ya yl yc, .int .i64 d, .slice ja jl jc] 127)) (T := 27) (.int .i64 0) (.int .i64 0)
    rwa [World.size_alloc] at this
  have hH2 : Blk w2 w1.heap.size 127 [.int .i64 n, .slice va vl vc, .int .i64 e, .slice ia il ic, .int .i64 m, .slice ya yl yc, .int .i64 d, .slice ja jl jc] := by
    rw [hw2]
    have h : Blk (w1.alloc (.cells #[.int .i64 n, .slice va vl vc, .int .i64 e, .slice ia il ic, .int .i64 m, .slice ya yl yc, .int .i64 d, .slice ja jl jc] 127)) w1.heap.size 127 [.int .i64 n, .slice va vl vc, .int .i64 e, .slice ia il ic, .int .i64 m, .slice ya yl yc, .int .i64 d, .slice ja jl jc] := World.alloc_heap_new _ _
    exact h.alloc _
  have hBw2 := bcat BG.bel hB1 BG.bel.size
  have hR2 := blk_below BG.res hB1
  have hP2 := blk_below BG.par hB1
  have hX2 := blk_below BG.box hB1
  have hSI2 := hSI.below hb12
  have hSJ2 := hSJ.below hb12
  have hPl := hP2.lt
  have hw1s := hb1.size
  rw [BG.siz] at hw1s
  have HIS := hide (And.intro hSI2 hSJ2)
  have HBS := hide (And.intro BG.siz BG.bel.size)
  obtain ⟨t0, t1, _, _⟩ := hF2.two
  obtain ⟨c0, c1, _, _⟩ := hX2.two
  clear hSI hSJ hSI2 hSJ2
  by_cases hl : ms.length = n
  · have hli : (ms.length : Int) = (n : Int) := by omega
    have G3 := hide (fun k hk h1 h2 => H3.out hl k hk h1 h2)
    have G7 := hide (fun hr k hk h1 h2 => H7.out hl hr k hk h1 h2)
    have G0 := hide (fun hr h1 => H0.out hl hr h1)
    have GST := hide (fun W a (u t : Value) (h : Below w.heap.size w W) (hr : ∀ i, i < n → 0 ≤ ms[i]?.getD 0 ∧ ms[i]?.getD 0 < m) (ha : a < n) => HST.out W a u t h hl hr ha)
    clear H3 H7 H0 H8 HST
    have HMA := hide (fun (h : 0 < n) => HMR.out.at_ (by omega))
    have HMC := hide (fun i (h : i < n) => HMR.out.cell i (by omega))
    rw [hl] at *
    clear hl hli
    rw [hw2] at t0 t1 c0 c1
    go_wp2
    rw [← hw2]
    clear hw2 t0 t1 c0 c1
    go_loopw [33] (fun i wr => ∃ k : Nat, k ≤ n ∧ i = .int .i64 k ∧ (∀ t, t < k → rng m ms t = true) ∧ Below w2.heap.size w2 wr) (fun i _ => n - (intOf i).toNat)
    case atStart => exact ⟨0, Nat.zero_le _, rfl, fun t ht => by omega, Below.refl _ _⟩
    case round =>
      obtain ⟨k, hk, rfl, hall, hB⟩ := hrel
      have HALL := hide hall
      clear hall
      have hBw := bcat2 hBw2 hB
      by_cases hlt : k < n
      · have hki : (k : Int) < (n : Int) := by omega
        obtain rfl := HMA.out (by omega)
        have ck := below_cell hBw (HMC.out k hlt)
        obtain ⟨_, h0, h1, h2, h3, h4, h5, h6, h7⟩ := Eight.mk' (blk_below hH2 hB)
        obtain ⟨r, hr⟩ : ∃ r, rng m ms k = r := ⟨_, rfl⟩
        have HGH := hide (fun W => ghas_ok m (.slice ya yl yc) (.slice ja jl jc) d (ms[k]?.getD 0) W)
        have hrd : decide (0 ≤ ms[k]?.getD 0 ∧ ms[k]?.getD 0 < (m : Int)) = r := hr
        rw [hrd] at HGH
        have HR := hide hr
        clear hr hrd
        generalize ms[k]?.getD 0 = x9 at *
        go_wp2_with fail
        refine (HGH.out _).mono ?_
        rintro x w4 ⟨rfl, hb4⟩
        have hB4 := bcat2 hB hb4
        have hBw4 := bcat2 hBw2 hB4
        clear h0 h1 h2 h3 h4 h5 h6 h7
        cases r with
        | true =>
          have HN := hide (fun t (ht : t < k + 1) => show rng m ms t = true by
            by_cases e9 : t = k
            · subst e9; exact HR.out
            · exact HALL.out t (by omega))
          go_wp2
          go_roundw
          case rel => exact ⟨k + 1, by omega, by go_num, HN.out, hB4⟩
          case measure => simp [intOf]; omega
        | false =>
          have HC := hide (show hf.1 = 3 ∧ hf.2 = (k : Int) by rw [G3.out k hlt HALL.out HR.out]; exact ⟨rfl, rfl⟩)
          have hR4 := blk_below hR2 hB4
          have hP4 := blk_below hP2 hB4
          clear G0 G3 G7 GST HIS HBS
          obtain ⟨y0, y1, fy0, fy1⟩ := hR4.two
          obtain ⟨hR6, hB6⟩ := put2 hR4 hBw4 (by omega) 3 (k : Int)
          have hP6 := (hP4.other (p := ⟨w.heap.size + 1 + 1 + 1, 0, none⟩) (by simp) (.int .i64 3)).other (p := ⟨w.heap.size + 1 + 1 + 1, 1, none⟩) (by simp) (.int .i64 (k : Int))
          obtain ⟨_, p0, p1, p2, p3, p4, p5, p6, p7⟩ := Eight.mk' hP4
          obtain ⟨q0, q1, q2, q3, q4, q5, q6, q7⟩ := Eight.fr hP4
          obtain ⟨o0, o1, o2, o3, o4, o5, o6, o7⟩ := Eight.se hP4
          obtain ⟨_, m0, m1, m2, m3, m4, m5, m6, m7⟩ := Eight.mk' hP6
          obtain ⟨z0, z1, _, _⟩ := hR6.two
          go_wp2
          exact bodyPost_ret (v := .tuple #[.agg #[.int .i64 0, .slice none 0 0, .int .i64 0, .slice none 0 0, .int .i64 0, .slice none 0 0, .int .i64 0, .slice none 0 0], .agg #[.int .i64 3, .int .i64 (k : Int)]]) (by simp [results, Tryz.results118, go_sem, z0, z1, m0, m1, m2, m3, m4, m5, m6, m7]) rfl ⟨_, by rw [HC.out.1, HC.out.2], fun h => absurd (HC.out.1.symm.trans h) (by decide), fun _ => rfl, hB6⟩
      · have hki : ¬ (k : Int) < (n : Int) := by omega
        have HRA := hide (fun t (ht : t < n) => HALL.out t (by omega))
        have HRB := hide (fun i (hi : i < n) => show 0 ≤ ms[i]?.getD 0 ∧ ms[i]?.getD 0 < (m : Int) from of_decide_eq_true (HRA.out i hi))
        clear HALL hlt
        obtain ⟨wo, rfl⟩ : ∃ wo, wo = wr := ⟨_, rfl⟩
        go_wp2
        go_loopw [49] (fun i wr => ∃ a : Nat, a ≤ n ∧ i = .int .i64 a ∧ (∀ t, t < a → stq n zs m ys ms t = false) ∧ Below w2.heap.size w2 wr) (fun i _ => n - (intOf i).toNat)
        case atStart => exact ⟨0, Nat.zero_le _, rfl, fun t ht => by omega, hB⟩
        case round =>
          clear hB hBw
          obtain ⟨a, ha, rfl, hall, hB⟩ := hrel
          have HALL := hide hall
          clear hall
          have hBw := bcat2 hBw2 hB
          by_cases hlt : a < n
          · have hai : (a : Int) < (n : Int) := by omega
            have HSA := hide (fun W (h : Below w.heap.size w W) => GST.out W a (.slice ia il ic) (.slice ja jl jc) h HRB.out hlt)
            obtain ⟨r, hr⟩ : ∃ r, stq n zs m ys ms a = r := ⟨_, rfl⟩
            rw [hr] at HSA
            have HR := hide hr
            clear hr
            obtain ⟨_, h0, h1, h2, h3, h4, h5, h6, h7⟩ := Eight.mk' (blk_below hH2 hB)
            go_wp2_with fail
            refine (HSA.out _ hBw).mono ?_
            rintro x w4 ⟨rfl, hb4⟩
            have hB4 := bcat2 hB hb4
            have hBw4 := bcat2 hBw2 hB4
            clear h0 h1 h2 h3 h4 h5 h6 h7
            cases r with
            | false =>
              have HN := hide (fun t (ht : t < a + 1) => show stq n zs m ys ms t = false by
                by_cases e9 : t = a
                · subst e9; exact HR.out
                · exact HALL.out t (by omega))
              go_wp2
              go_roundw
              case rel => exact ⟨a + 1, by omega, by go_num, HN.out, hB4⟩
              case measure => simp [intOf]; omega
            | true =>
              have HC := hide (show hf.1 = 7 ∧ hf.2 = (a : Int) by rw [G7.out HRA.out a hlt HALL.out HR.out]; exact ⟨rfl, rfl⟩)
              have hR4 := blk_below hR2 hB4
              have hP4 := blk_below hP2 hB4
              clear G0 G3 G7 GST HIS HBS
              obtain ⟨y0, y1, fy0, fy1⟩ := hR4.two
              obtain ⟨hR6, hB6⟩ := put2 hR4 hBw4 (by omega) 7 (a : Int)
              have hP6 := (hP4.other (p := ⟨w.heap.size + 1 + 1 + 1, 0, none⟩) (by simp) (.int .i64 7)).other (p := ⟨w.heap.size + 1 + 1 + 1, 1, none⟩) (by simp) (.int .i64 (a : Int))
              obtain ⟨_, p0, p1, p2, p3, p4, p5, p6, p7⟩ := Eight.mk' hP4
              obtain ⟨q0, q1, q2, q3, q4, q5, q6, q7⟩ := Eight.fr hP4
              obtain ⟨o0, o1, o2, o3, o4, o5, o6, o7⟩ := Eight.se hP4
              obtain ⟨_, m0, m1, m2, m3, m4, m5, m6, m7⟩ := Eight.mk' hP6
              obtain ⟨z0, z1, _, _⟩ := hR6.two
              go_wp2
              exact bodyPost_ret (v := .tuple #[.agg #[.int .i64 0, .slice none 0 0, .int .i64 0, .slice none 0 0, .int .i64 0, .slice none 0 0, .int .i64 0, .slice none 0 0], .agg #[.int .i64 7, .int .i64 (a : Int)]]) (by simp [results, Tryz.results118, go_sem, z0, z1, m0, m1, m2, m3, m4, m5, m6, m7]) rfl ⟨_, by rw [HC.out.1, HC.out.2], fun h => absurd (HC.out.1.symm.trans h) (by decide), fun _ => rfl, hB6⟩
          · have hai : ¬ (a : Int) < (n : Int) := by omega
            have HC := hide (show hf.1 = 0 ∧ hf.2 = 0 by rw [G0.out HRA.out (fun t ht => HALL.out t (by omega))]; exact ⟨rfl, rfl⟩)
            have hR4 := blk_below hR2 hB
            have hP4 := blk_below hP2 hB
            have hH4 := blk_below hH2 hB
            obtain ⟨hS4, hT4⟩ := HIS.out
            have hS4 := hS4.below hB
            have hT4 := hT4.below hB
            obtain ⟨_, h0, h1, h2, h3, h4, h5, h6, h7⟩ := Eight.mk' hH4
            obtain ⟨_, p0, p1, p2, p3, p4, p5, p6, p7⟩ := Eight.mk' hP4
            obtain ⟨q0, q1, q2, q3, q4, q5, q6, q7⟩ := Eight.fr hP4
            obtain ⟨y0, y1, fy0, fy1⟩ := hR4.two
            obtain ⟨hP5, hB5⟩ := eight_set hP4 hBw (by omega) (.int .i64 n) (.slice va vl vc) (.int .i64 e) (.slice ia il ic) (.int .i64 m) (.slice ya yl yc) (.int .i64 d) (.slice ja jl jc)
            have hfar : ∀ g, g ≠ w.heap.size + 1 + 1 → _ := fun g (hg9 : g ≠ w.heap.size + 1 + 1) => eight_far (W := wr) (b := w.heap.size + 1 + 1) (.int .i64 n) (.slice va vl vc) (.int .i64 e) (.slice ia il ic) (.int .i64 m) (.slice ya yl yc) (.int .i64 d) (.slice ja jl jc) (g := g) hg9
            have hR5 := hR4.of_eq (hfar _ (by omega))
            obtain ⟨o0, o1⟩ := hR5.self
            obtain ⟨_, m0, m1, m2, m3, m4, m5, m6, m7⟩ := Eight.mk' hP5
            obtain ⟨z0, z1, _, _⟩ := hR5.two
            have hbs := HBS.out
            have hS5 := (hS4.keep (fun g h1 _ => hfar g (by omega)) (by rw [eight_size]; exact Nat.le_refl _)).mono hbs.2
            have hT5 := (hT4.keep (fun g h1 _ => hfar g (by omega)) (by rw [eight_size]; exact Nat.le_refl _)).mono hbs.2
            clear hfar G0 G3 G7 GST hbs
            go_wp2
            exact bodyPost_ret (v := .tuple #[.agg #[.int .i64 n, .slice va vl vc, .int .i64 e, .slice ia il ic, .int .i64 m, .slice ya yl yc, .int .i64 d, .slice ja jl jc], .agg #[.int .i64 0, .int .i64 0]]) (by simp [results, Tryz.results118, go_sem, z0, z1, m0, m1, m2, m3, m4, m5, m6, m7]) rfl ⟨_, by rw [HC.out.1, HC.out.2], fun _ => ⟨_, _, rfl, hS5, hT5⟩, fun h => absurd HC.out.1 h, hB5⟩
  · have hli : ¬ (ms.length : Int) = (n : Int) := by omega
    have HC := hide (show hf.1 = 8 ∧ hf.2 = 0 by rw [H8.out hl]; exact ⟨rfl, rfl⟩)
    clear H0 H3 H7 H8 HST
    subst hw2
    obtain ⟨y0, y1, fy0, fy1⟩ := hR2.two
    obtain ⟨hR6, hB6⟩ := put2 hR2 hBw2 (by omega) 8 0
    have hP6 := (hP2.other (p := ⟨w.heap.size + 1 + 1 + 1, 0, none⟩) (by simp) (.int .i64 8)).other (p := ⟨w.heap.size + 1 + 1 + 1, 1, none⟩) (by simp) (.int .i64 0)
    obtain ⟨_, p0, p1, p2, p3, p4, p5, p6, p7⟩ := Eight.mk' hP2
    obtain ⟨q0, q1, q2, q3, q4, q5, q6, q7⟩ := Eight.fr hP2
    obtain ⟨o0, o1, o2, o3, o4, o5, o6, o7⟩ := Eight.se hP2
    obtain ⟨_, m0, m1, m2, m3, m4, m5, m6, m7⟩ := Eight.mk' hP6
    obtain ⟨z0, z1, _, _⟩ := hR6.two
    go_wp2
    exact bodyPost_ret (v := .tuple #[.agg #[.int .i64 0, .slice none 0 0, .int .i64 0, .slice none 0 0, .int .i64 0, .slice none 0 0, .int .i64 0, .slice none 0 0], .agg #[.int .i64 8, .int .i64 0]]) (by simp [results, Tryz.results118, go_sem, z0, z1, m0, m1, m2, m3, m4, m5, m6, m7]) rfl ⟨_, by rw [HC.out.1, HC.out.2], fun h => absurd (HC.out.1.symm.trans h) (by decide), fun _ => rfl, hB6⟩
end Go.Proofs.YtgejngpioldhpaaGreatDoor

namespace Go.Proofs.YtgejngpioldhpaaGreatDoor
open Go Go.RowKit

theorem ow_all (N M : Int) (v y mv : Value) (zs ys ms : List Int) (w : World) (hv : Sl w v zs) (hy : Sl w y ys) (hm : Sl w mv ms) :
    Calls Tryz.prog 118 #[.agg #[.int .i64 N, v], .agg #[.int .i64 M, y], mv] w fun x w' => ∃ p0 a0 b0 c0 p1 a1 b1 c1 p2 a2 b2 c2 p3 a3 b3 c3, x = .returned (.tuple #[.agg #[.int .i64 p0, .slice a0 b0 c0, .int .i64 p1, .slice a1 b1 c1, .int .i64 p2, .slice a2 b2 c2, .int .i64 p3, .slice a3 b3 c3], .agg #[.int .i64 (hfault N zs M ys ms).1, .int .i64 (hfault N zs M ys ms).2]]) ∧ Below w.heap.size w w' := by
  by_cases h1 : (gfault N zs).1 = 0
  · obtain ⟨n, e, rfl, hg, _⟩ := gfault_grp h1
    by_cases h2 : (gfault M ys).1 = 0
    · obtain ⟨m, d, rfl, hh, _⟩ := gfault_grp h2
      refine (ow_any n e m d v y mv zs ys ms w hv hg hy hh hm).mono ?_
      rintro x w' ⟨P, rfl, hA, hB, hb⟩
      by_cases h3 : (hfault n zs m ys ms).1 = 0
      · obtain ⟨u, t, rfl, hu, ht⟩ := hA h3
        obtain ⟨v1, v2, v3, rfl⟩ := hv.isSlice
        obtain ⟨y1, y2, y3, rfl⟩ := hy.isSlice
        obtain ⟨u1, u2, u3, rfl⟩ := hu.sl.isSlice
        obtain ⟨t1, t2, t3, rfl⟩ := ht.sl.isSlice
        exact ⟨_, _, _, _, _, _, _, _, _, _, _, _, _, _, _, _, rfl, hb⟩
      · obtain rfl := hB h3
        exact ⟨_, _, _, _, _, _, _, _, _, _, _, _, _, _, _, _, rfl, hb⟩
    · rw [hfault_2 hg h2]
      refine (ow_bad n M _ _ v y mv w h2 (hide fun W h => pair_bad2 n e M v y zs ys W (hv.below h) hg (hy.below h) h2)).mono ?_
      rintro x w' ⟨rfl, hb⟩
      exact ⟨_, _, _, _, _, _, _, _, _, _, _, _, _, _, _, _, rfl, hb⟩
  · rw [hfault_1 h1]
    refine (ow_bad N M _ _ v y mv w h1 (hide fun W h => pair_bad1 N M v y zs W (hv.below h) h1)).mono ?_
    rintro x w' ⟨rfl, hb⟩
    exact ⟨_, _, _, _, _, _, _, _, _, _, _, _, _, _, _, _, rfl, hb⟩
/-- What lies where a function begins that takes two tables and answers a fault. -/
structure BegF (w w0 : World) (N M : Int) (v y : Value) : Prop where
  eq : w0 = ((w.alloc (.cells #[.int .i64 N, v] 24)).alloc (.cells #[.int .i64 M, y] 24)).alloc (.cells #[.int .i64 0, .int .i64 0] 27)
  bel : Below w.heap.size w w0
  box : BoxG w0 w.heap.size N v
  boy : BoxG w0 (w.heap.size + 1) M y
  res : Blk w0 (w.heap.size + 1 + 1) 27 [.int .i64 0, .int .i64 0]
  siz : w0.heap.size = w.heap.size + 1 + 1 + 1
theorem BegF.new (w : World) (N M : Int) (v y : Value) : ∃ w0, BegF w w0 N M v y := by
  refine ⟨_, rfl, ((balloc w _).alloc (by simp) _).alloc (by simp; omega) _, ((blk0 (w := w) (T := 24) _ _).alloc _).alloc _, ?_, ?_, by simp⟩
  · have h := (blk0 (w := w.alloc (.cells #[.int .i64 N, v] 24)) (T := 24) (.int .i64 M) y).alloc (.cells #[.int .i64 0, .int .i64 0] 27)
    rw [World.size_alloc] at h
    exact h
  · have h := blk0 (w := (w.alloc (.cells #[.int .i64 N, v] 24)).alloc (.cells #[.int .i64 M, y] 24)) (T := 27) (.int .i64 0) (.int .i64 0)
    rw [World.size_alloc, World.size_alloc] at h
    exact h
set_option maxRecDepth 100000 in
set_option maxHeartbeats 4000000 in
theorem image_good (n m : Nat) (v y mv : Value) (zs ys : List Int) (xs : List Nat) (w : World) (hv : Sl w v zs) (hy : Sl w y ys) (hm : Sl w mv (li xs)) (hT : Tab w) (hm6 : m ≤ 60) (hx : ∀ x, x ∈ xs → x < m) (hxl : xs.length ≤ 60) (hc : hfault n zs m ys (li xs) = (0, 0)) :
    Calls Tryz.prog 105 #[.agg #[.int .i64 n, v], .agg #[.int .i64 m, y], mv] w fun x w' => ∃ r1 r2 r3, x = .returned (.tuple #[.slice r1 r2 r3, .agg #[.int .i64 0, .int .i64 0]]) ∧ Sl w' (.slice r1 r2 r3) (li (lst m (fun a => decide (a ∈ xs)))) ∧ Below w.heap.size w w' := by
  obtain ⟨w0, BG⟩ := BegF.new w n m v y
  have HCK := hide (ow_all n m v y mv zs ys (li xs) w0 (hv.below BG.bel) (hy.below BG.bel) (hm.below BG.bel))
  rw [hc] at HCK
  simp only at HCK
  obtain ⟨e0, e1, _, _⟩ := BG.box.two
  obtain ⟨k0, k1, _, _⟩ := BG.boy.two
  rw [BG.eq] at e0 e1 k0 k1
  go_enter Tryz.func105, Tryz.ntmps105
  go_wp2_with fail
  rw [← BG.eq]
  clear e0 e1 k0 k1
  refine HCK.out.mono ?_
  rintro x w1 ⟨p0, a0, b0, c0, p1, a1, b1, c1, p2, a2, b2, c2, p3, a3, b3, c3, rfl, hb1⟩
  obtain ⟨w2, hw2⟩ : ∃ w2, w2 = (w1.alloc (.cells #[.int .i64 p0, .slice a0 b0 c0, .int .i64 p1, .slice a1 b1 c1, .int .i64 p2, .slice a2 b2 c2, .int .i64 p3, .slice a3 b3 c3] 127)).alloc (.cells #[.int .i64 0, .int .i64 0] 27) := ⟨_, rfl⟩
  have hB1 : Below w0.heap.size w0 w2 := by rw [hw2]; exact bcat2 hb1 ((balloc w1 _).alloc (by simp) _)
  have hF1 : Blk w2 (w1.heap.size + 1) 27 [.int .i64 0, .int .i64 0] := by
    rw [hw2]
    have := blk0 (w := w1.alloc (.cells #[.int .i64 p0, .slice a0 b0 c0, .int .i64 p1, .slice a1 b1 c1, .int .i64 p2, .slice a2 b2 c2, .int .i64 p3, .slice a3 b3 c3] 127)) (T := 27) (.int .i64 0) (.int .i64 0)
    rwa [World.size_alloc] at this
  have hR1 := blk_below BG.res hB1
  have hBw := bcat BG.bel hB1 BG.bel.size
  obtain ⟨t0, t1, _, _⟩ := hF1.two
  rw [hw2] at t0 t1
  go_wp2_with fail
  rw [← hw2]
  clear hw2 t0 t1
  refine (of_ok m mv xs w2 hm6 hxl (hm.below hBw) hx).mono ?_
  rintro x w3 ⟨rfl, rfl⟩
  go_wp2_with fail
  refine (list_ok m _ w3 hm6 (hT.below hBw)).mono ?_
  rintro x w4 ⟨r, rfl, hr, hb4⟩
  have hrs := hr.sl
  obtain ⟨r1, r2, r3, rfl⟩ := hrs.isSlice
  have hR4 := blk_below hR1 hb4
  have hB4 := bcat2 hBw hb4
  obtain ⟨y0, y1, fy0, fy1⟩ := hR4.two
  obtain ⟨s0, s1⟩ := hR4.self
  go_wp2
  exact bodyPost_ret (v := .tuple #[.slice r1 r2 r3, .agg #[.int .i64 0, .int .i64 0]]) (by simp [results, Tryz.results105, go_sem, y0, y1]) rfl ⟨_, _, _, rfl, hrs, hB4⟩
end Go.Proofs.YtgejngpioldhpaaGreatDoor

namespace Go.Proofs.YtgejngpioldhpaaGreatDoor
open Go Go.RowKit

/-- A map of things that keeps products. -/
structure IsHom (n : Nat) (zs : List Int) (m : Nat) (ys : List Int) (φ : Nat → Nat) : Prop where
  lt : ∀ a, a < n → φ a < m
  mul : ∀ a b, a < n → b < n → φ (tm n zs a b) = tm m ys (φ a) (φ b)
theorem hom_of {n e m d : Nat} {zs ys ms : List Int} (g : IsGrp n zs e) (h : IsGrp m ys d) (hc : (hfault n zs m ys ms).1 = 0) : hfault n zs m ys ms = (0, 0) ∧ ms.length = n ∧ ∃ φ : Nat → Nat, IsHom n zs m ys φ ∧ ms = li ((List.range n).map φ) := by
  by_cases hl : ms.length = n
  · by_cases hr : ∀ t, t < n → rng m ms t = true
    · by_cases hs : ∀ t, t < n → stq n zs m ys ms t = false
      · have h1 : ∀ t, t < n → 0 ≤ ms[t]?.getD 0 ∧ ms[t]?.getD 0 < (m : Int) := fun t ht => of_decide_eq_true (hr t ht)
        refine ⟨hfault_0 g h hl hr hs, hl, fun a => (ms[a]?.getD 0).toNat, ⟨fun a ha => ?_, fun a b ha hb => ?_⟩, ?_⟩
        · have := h1 a ha
          show (ms[a]?.getD 0).toNat < m
          omega
        · have := stq_no.1 (hs a ha) b hb
          show (ms[tm n zs a b]?.getD 0).toNat = _
          rw [this, Int.toNat_natCast]
        · unfold li
          rw [List.map_map]
          apply List.ext_getElem
          · simp [hl]
          · intro i h2 h3
            have h4 := h1 i (by omega)
            rw [List.getElem?_eq_getElem h2, Option.getD_some] at h4
            simp [h2]
            omega
      · exfalso
        rcases least_cases n (stq n zs m ys ms) with ⟨k, hk, hp, hlt, _⟩ | ⟨hno, _⟩
        · rw [hfault_7 g h hl hr hk hlt hp] at hc
          exact absurd hc (by simp)
        · exact hs hno
    · exfalso
      rcases least_cases n (fun i => !rng m ms i) with ⟨k, hk, hp, hlt, _⟩ | ⟨hno, _⟩
      · rw [hfault_3 g h hl hk (fun t ht => by simpa using hlt t ht) (by simpa using hp)] at hc
        exact absurd hc (by simp)
      · exact hr (fun t ht => by simpa using hno t ht)
  · rw [hfault_8 g h hl] at hc
    exact absurd hc (by decide)
theorem of_hom {n e m d : Nat} {zs ys ms : List Int} {φ : Nat → Nat} (g : IsGrp n zs e) (h : IsGrp m ys d) (H : IsHom n zs m ys φ) (hl : ms.length = n) (hm : ∀ a, a < n → ms[a]?.getD 0 = (φ a : Int)) : hfault n zs m ys ms = (0, 0) := by
  refine hfault_0 g h hl (fun t ht => ?_) (fun t ht => ?_)
  · unfold rng
    rw [hm t ht]
    have := H.lt t ht
    exact decide_eq_true ⟨by omega, by omega⟩
  · refine stq_no.2 fun b hb => ?_
    rw [hm _ (tm_lt g.tab ht hb), hm t ht, hm b hb, H.mul t b ht hb, Int.toNat_natCast, Int.toNat_natCast]
theorem IsHom.one {n e m d : Nat} {zs ys : List Int} {φ : Nat → Nat} (g : IsGrp n zs e) (h : IsGrp m ys d) (H : IsHom n zs m ys φ) : φ e = d := by
  have h1 := H.mul e e g.elt g.elt
  rw [g.left e g.elt] at h1
  have hl := H.lt e g.elt
  exact grp_cancel h hl hl h.elt (by rw [← h1, h.right _ hl])
/-- Where what stands for things commutes, commutators go to the one, and cosets of what they make go to one thing. -/
theorem hom_cos {n e m d : Nat} {zs ys : List Int} {φ : Nat → Nat} {p : Nat → Bool} (g : IsGrp n zs e) (h : IsGrp m ys d) (H : IsHom n zs m ys φ) (hc : ∀ a b, a < n → b < n → tm m ys (φ a) (φ b) = tm m ys (φ b) (φ a))
    (hp : ∀ a, a < n → (p a = true ↔ Mkd n zs e (cmq n zs e (List.range n) (List.range n)) a)) {a b : Nat} (ha : a < n) (hb : b < n) (hn : num n (rgtq n zs (lst n (pset (li (lst n p))))) a = num n (rgtq n zs (lst n (pset (li (lst n p))))) b) : φ a = φ b := by
  have hs := der_sub g hp
  have PP := rgt_parts g hs
  have h1 := (prts_num_eq PP ha hb).1 hn
  obtain ⟨x, hx, rfl⟩ := mem_rgt.1 h1
  rw [lst_pset, mem_lst] at hx
  obtain ⟨hxn, hxp⟩ := hx
  have hx1 : φ x = d := by
    have hg := (cms_iff x).1 ((hp x hxn).1 hxp)
    have := Fin.Gen.least (P := fun y => y < n ∧ φ y = d) ⟨⟨g.elt, H.one g h⟩, fun y z _ _ h2 h3 => ⟨tm_lt g.tab h2.1 h3.1, by rw [H.mul y z h2.1 h3.1, h2.2, h3.2, h.left d h.elt]⟩⟩ (fun y hy ⟨i, j, hi, hj, he⟩ => by
      have hi := List.mem_range.1 hi
      have hj := List.mem_range.1 hj
      have hy := List.mem_range.1 hy
      refine ⟨hy, ?_⟩
      have h4 := Fin.cm_eq (grp_fg g) (grp_iv g) (List.mem_range.2 hi) (List.mem_range.2 hj)
      rw [he] at h4
      have h5 := congrArg φ h4
      rw [H.mul _ _ (tm_lt g.tab hj hi) hy, H.mul j i hj hi, H.mul i j hi hj, hc i j hi hj] at h5
      have hl := tm_lt h.tab (H.lt j hj) (H.lt i hi)
      exact grp_cancel h hl (H.lt y hy) h.elt (by rw [h5, h.right _ hl])) hg
    exact this.2
  rw [H.mul x a hxn ha, hx1, h.left _ (H.lt a ha)]
end Go.Proofs.YtgejngpioldhpaaGreatDoor

namespace Go.Proofs.YtgejngpioldhpaaGreatDoor
open Go Go.RowKit

/-- What is wrong with two tables. -/
def twofault (N : Int) (zs : List Int) (M : Int) (ys : List Int) : Int × Int := if (gfault N zs).1 ≠ 0 then gfault N zs else gfault M ys
namespace Go.Proofs.YtgejngpioldhpaaGreatDoor
open Go Go.RowKit

namespace Go.Proofs.YtgejngpioldhpaaGreatDoor
open Go Go.RowKit

theorem hf_grp {N M : Int} {zs ys ms : List Int} (h : (hfault N zs M ys ms).1 = 0) : ∃ n e m d : Nat, N = n ∧ M = m ∧ IsGrp n zs e ∧ IsGrp m ys d := by
  by_cases h1 : (gfault N zs).1 = 0
  · obtain ⟨n, e, rfl, hg, _⟩ := gfault_grp h1
    by_cases h2 : (gfault M ys).1 = 0
    · obtain ⟨m, d, rfl, hh, _⟩ := gfault_grp h2
      exact ⟨n, e, m, d, rfl, rfl, hg, hh⟩
    · rw [hfault_2 hg h2] at h
      exact absurd h h2
  · rw [hfault_1 h1] at h
    exact absurd h h1
end Go.Proofs.YtgejngpioldhpaaGreatDoor
end Go.Proofs.YtgejngpioldhpaaGreatDoor
end Go.Proofs.YtgejngpioldhpaaGreatDoor

namespace Go.Proofs.YtgejngpioldhpaaGreatDoor
open Go Go.RowKit

section
variable {n : Nat}
/-- The table of adding, modulo n. -/
def rngT (n : Nat) : List Int := mkT n (fun a b => (a + b) % n)
theorem rng_grp (h1 : 1 ≤ n) (h2 : n ≤ 60) : IsGrp n (rngT n) 0 := by
  refine grp_mk h1 h2 (fun a b _ _ => Nat.mod_lt _ (by omega)) (by omega) (fun a ha => ?_) (fun a ha => ?_) (fun a b c ha hb hc => ?_) (fun a ha => ?_)
  · show (0 + a) % n = a
    rw [Nat.zero_add]; exact Nat.mod_eq_of_lt ha
  · show (a + 0) % n = a
    rw [Nat.add_zero]; exact Nat.mod_eq_of_lt ha
  · show ((a + b) % n + c) % n = (a + (b + c) % n) % n
    rw [Nat.mod_add_mod, Nat.add_mod_mod, Nat.add_assoc]
  · refine ⟨(n - a) % n, Nat.mod_lt _ (by omega), ?_⟩
    show (a + (n - a) % n) % n = 0
    rw [Nat.add_mod_mod, show a + (n - a) = n by omega, Nat.mod_self]
theorem rng_tm {a b : Nat} (ha : a < n) (hb : b < n) : tm n (rngT n) a b = (a + b) % n := tm_mk ha hb
end
theorem rng_get {n a b : Nat} (ha : a < n) (hb : b < n) : (rngT n)[a * n + b]?.getD 0 = (((a + b) % n : Nat) : Int) := by
  obtain ⟨e1, e2⟩ := dm' (a := a) hb
  unfold rngT
  rw [mkT_get (place_lt ha hb), e1, e2]
set_option maxRecDepth 100000 in
set_option maxHeartbeats 8000000 in
theorem ring_ok (n : Nat) (w : World) (hn1 : 1 ≤ n) (hn : n ≤ 60) :
    Calls Tryz.prog 34 #[.int .i64 n] w fun x w' => ∃ r, x = .returned (.agg #[.int .i64 n, r]) ∧ Row w' w.heap.size r (rngT n) ∧ Below w.heap.size w w' := by
  obtain ⟨i0, hi, hz0, hz1, hz2⟩ := info_parts info3b
  obtain ⟨T, hT⟩ : ∃ T, T = rngT n := ⟨_, rfl⟩
  have HTL := hide (show T.length = n * n by rw [hT]; exact mkT_len _ _)
  have HTG := hide (fun a b (ha : a < n) (hb : b < n) => show T[a * n + b]?.getD 0 = (((a + b) % n : Nat) : Int) by rw [hT]; exact rng_get ha hb)
  rw [← hT]
  clear hT
  have hnn : n * n ≤ 3600 := Nat.mul_le_mul hn hn
  have HNN := hide hnn
  clear hnn
  have hB0 : Below w.heap.size w ((w.alloc (.cells #[.int .i64 0, .slice none 0 0] 24)).alloc (.cells #[.int .i64 n, .slice none 0 0] 24)) := (balloc w _).alloc (by simp) _
  have hR0 : Blk ((w.alloc (.cells #[.int .i64 0, .slice none 0 0] 24)).alloc (.cells #[.int .i64 n, .slice none 0 0] 24)) w.heap.size 24 [.int .i64 0, .slice none 0 0] := (blk0 _ _).alloc _
  have hX0 : Blk ((w.alloc (.cells #[.int .i64 0, .slice none 0 0] 24)).alloc (.cells #[.int .i64 n, .slice none 0 0] 24)) (w.heap.size + 1) 24 [.int .i64 n, .slice none 0 0] := by
    have := blk0 (w := w.alloc (.cells #[.int .i64 0, .slice none 0 0] 24)) (T := 24) (.int .i64 n) (.slice none 0 0)
    rwa [World.size_alloc] at this
  go_enter Tryz.func34, Tryz.ntmps34
  go_wp2
  go_loopw [4] (fun i wr => ∃ (a : Nat) (r : Value), a ≤ n ∧ i = .int .i64 a ∧ Row wr (w.heap.size + 1 + 1) r (T.take (a * n)) ∧ Blk wr w.heap.size 24 [.int .i64 0, .slice none 0 0] ∧ Blk wr (w.heap.size + 1) 24 [.int .i64 n, r] ∧ Below w.heap.size w wr) (fun i _ => n - (intOf i).toNat)
  case atStart => exact ⟨0, .slice none 0 0, by omega, rfl, by simpa using nil_row _ _, hR0, hX0, hB0⟩
  case round =>
    obtain ⟨a, r, ha, rfl, hrow, hR, hX, hB⟩ := hrel
    clear hR0 hX0 hB0
    by_cases hlta : a < n
    · have hai : (a : Int) < (n : Int) := by omega
      go_wp2
      go_loopw [5] (fun i wr => ∃ (b : Nat) (r : Value), b ≤ n ∧ i = .int .i64 b ∧ Row wr (w.heap.size + 1 + 1) r (T.take (a * n + b)) ∧ Blk wr w.heap.size 24 [.int .i64 0, .slice none 0 0] ∧ Blk wr (w.heap.size + 1) 24 [.int .i64 n, r] ∧ Below w.heap.size w wr) (fun i _ => n - (intOf i).toNat)
      case atStart => exact ⟨0, r, by omega, rfl, hrow, hR, hX, hB⟩
      case round =>
        obtain ⟨b, r', hb, rfl, hrow', hR', hX', hB'⟩ := hrel
        clear hrow hR hX hB
        by_cases hltb : b < n
        · have hbi : (b : Int) < (n : Int) := by omega
          have HV := hide (HTG.out a b hlta hltb)
          have hpl : a * n + b < n * n := place_lt hlta hltb
          have hlen : (T.take (a * n + b)).length = a * n + b := by rw [List.length_take, HTL.out]; omega
          have hsn : T.take (a * n + (b + 1)) = T.take (a * n + b) ++ [(((a + b) % n : Nat) : Int)] := by
            rw [← Nat.add_assoc, take_snoc' (by rw [HTL.out]; exact hpl), HV.out]
          have HSN := hide hsn
          have HLL := hide (show (T.take (a * n + b)).length ≤ 3600 by have := HNN.out; omega)
          have hown : wr.ownsRow (w.heap.size + 1 + 1) 3 1 r' (T.take (a * n + b)).length ((T.take (a * n + b)).map (Value.int .i64)) := hrow'
          clear hsn hlen hrow' HV hpl
          generalize T.take (a * n + b) = xs at *
          obtain ⟨q9, hq9⟩ : ∃ q9 : Nat, (a + b) % n = q9 := ⟨_, rfl⟩
          rw [hq9] at HSN
          have hwp : IntKind.i64.wrap ((a : Int) + (b : Int)) = (a : Int) + (b : Int) := by rw [IntKind.wrap_i64]; omega
          have hrm : ((a : Int) + (b : Int)).tmod (n : Int) = (q9 : Int) := by rw [← hq9]; exact tmod_nat n (by omega)
          have hqn : q9 < n := by rw [← hq9]; exact Nat.mod_lt _ (by omega)
          have hwq : IntKind.i64.wrap (q9 : Int) = (q9 : Int) := by rw [IntKind.wrap_i64]; omega
          have hn0 : ¬ n = 0 := by omega
          have hn0i : ¬ (n : Int) = 0 := by omega
          clear hq9
          obtain ⟨rx, rcap, rfl⟩ := own_slice hown
          obtain ⟨x0, x1, fx0, fx1⟩ := hX'.two
          have hs2 := hX'.lt
          go_wp2_with fail
          have hS0 : (fun W => Below w.heap.size w W) wr.drew := bdrew hB'
          refine wp_region_held_drew (S := (fun W => Below w.heap.size w W)) (by kernel_rfl) hS0 (fun hHeld => ?_)
          refine wpAnyH_take (i := 0) (oi := ({ dst := some 18, op := Go.Op.fieldAddr 24 (Go.Operand.tmp 3) 1, type := 0, pos := _, after := #[], guard := none } : Oper)) (v := ?_) rfl (by kernel_rfl) (by kernel_rfl) (by kernel_rfl) (fun _ _ _ h => h) (Or.inl ⟨by rfl, ?_⟩) (by assumption) ?_
          rotate_left
          · (intro w hSw; (try dsimp only at hSw); go_simp; try with_reducible rfl)
          simp only [Act.put, List.setIfInBounds_toArray, List.set_cons_zero, List.set_cons_succ]
          refine wpAnyH_take (i := 2) (oi := ({ dst := some 20, op := Go.Op.move (Go.Operand.tmp 4), type := 3, pos := _, after := #[], guard := none } : Oper)) (v := ?_) rfl (by kernel_rfl) (by kernel_rfl) (by kernel_rfl) (fun _ _ _ h => h) (Or.inl ⟨by rfl, ?_⟩) (by assumption) ?_
          rotate_left
          · (intro w hSw; (try dsimp only at hSw); go_simp; try with_reducible rfl)
          simp only [Act.put, List.setIfInBounds_toArray, List.set_cons_zero, List.set_cons_succ]
          refine wpAnyH_take (i := 3) (oi := ({ dst := some 21, op := Go.Op.move (Go.Operand.tmp 5), type := 3, pos := _, after := #[], guard := none } : Oper)) (v := ?_) rfl (by kernel_rfl) (by kernel_rfl) (by kernel_rfl) (fun _ _ _ h => h) (Or.inl ⟨by rfl, ?_⟩) (by assumption) ?_
          rotate_left
          · (intro w hSw; (try dsimp only at hSw); go_simp; try with_reducible rfl)
          simp only [Act.put, List.setIfInBounds_toArray, List.set_cons_zero, List.set_cons_succ]
          refine wpAnyH_take (i := 4) (oi := ({ dst := some 22, op := Go.Op.binOp Go.BinOp.add 3 (Go.Operand.tmp 20) (Go.Operand.tmp 21) 3, type := 3, pos := _, after := #[{ on := 2, ground := Go.Ground.data }, { on := 3, ground := Go.Ground.data }], guard := none } : Oper)) (v := ?_) rfl (by kernel_rfl) (by kernel_rfl) (by kernel_rfl) (fun _ _ _ h => h) (Or.inl ⟨by rfl, ?_⟩) (by assumption) ?_
          rotate_left
          · (intro w hSw; (try dsimp only at hSw); go_simp; try with_reducible rfl)
          simp only [Act.put, List.setIfInBounds_toArray, List.set_cons_zero, List.set_cons_succ]
          refine wpAnyH_take (i := 5) (oi := ({ dst := some 23, op := Go.Op.move (Go.Operand.tmp 0), type := 3, pos := _, after := #[], guard := none } : Oper)) (v := ?_) rfl (by kernel_rfl) (by kernel_rfl) (by kernel_rfl) (fun _ _ _ h => h) (Or.inl ⟨by rfl, ?_⟩) (by assumption) ?_
          rotate_left
          · (intro w hSw; (try dsimp only at hSw); go_simp; try with_reducible rfl)
          simp only [Act.put, List.setIfInBounds_toArray, List.set_cons_zero, List.set_cons_succ]
          refine wpAnyH_take (i := 6) (oi := ({ dst := some 24, op := Go.Op.binOp Go.BinOp.rem 3 (Go.Operand.tmp 22) (Go.Operand.tmp 23) 3, type := 3, pos := _, after := #[{ on := 4, ground := Go.Ground.data }, { on := 5, ground := Go.Ground.data }], guard := none } : Oper)) (v := ?_) rfl (by kernel_rfl) (by kernel_rfl) (by kernel_rfl) (fun _ _ _ h => h) (Or.inl ⟨by rfl, ?_⟩) (by assumption) ?_
          rotate_left
          · (intro w hSw; (try dsimp only at hSw); go_simp; try with_reducible rfl)
          simp only [Act.put, List.setIfInBounds_toArray, List.set_cons_zero, List.set_cons_succ]
          refine wpAnyH_ready (rs := [1, 7]) (by kernel_rfl) (by simp) (AllReadyH.cons (o := ({ dst := some 19, op := Go.Op.load 22 (Go.Operand.tmp 18), type := 22, pos := _, after := #[{ on := 0, ground := Go.Ground.data }], guard := none } : Oper)) rfl (fun K hK => ?_) (AllReadyH.cons (o := ({ dst := some 25, op := Go.Op.buildSlice 22 1 #[(0, Go.Operand.tmp 24)], type := 22, pos := _, after := #[{ on := 6, ground := Go.Ground.data }], guard := none } : Oper)) rfl (fun K hK => ?_) AllReadyH.nil))
          · go_simp
            refine hK.out _ _ hHeld (fun hHeld => ?_)
            clear hK
            try simp only [Act.put, List.setIfInBounds_toArray, List.set_cons_zero, List.set_cons_succ]
            refine wpAnyH_ready (rs := [7]) (by kernel_rfl) (by simp) (AllReadyH.cons (o := ({ dst := some 25, op := Go.Op.buildSlice 22 1 #[(0, Go.Operand.tmp 24)], type := 22, pos := _, after := #[{ on := 6, ground := Go.Ground.data }], guard := none } : Oper)) rfl (fun K hK => ?_) AllReadyH.nil)
            go_simp
            refine hK.out _ _ (show Below w.heap.size w (wr.drew.alloc (.cells #[.int .i64 (q9 : Int)] 3)) from (bdrew hB').alloc (bdrew hB').size _) (fun hHeld => ?_)
            clear hK
            try simp only [Act.put, List.setIfInBounds_toArray, List.set_cons_zero, List.set_cons_succ]
            refine wpAnyH_ready (rs := [8]) (by kernel_rfl) (by simp) (AllReadyH.cons (o := ({ dst := some 26, op := Go.Op.call { callee := Go.Callee.builtin Go.Builtin.append, args := #[Go.Operand.tmp 19, Go.Operand.tmp 25], argTypes := #[22, 22] }, type := 22, pos := _, after := #[{ on := 1, ground := Go.Ground.data }, { on := 7, ground := Go.Ground.data }], guard := none } : Oper)) rfl (fun K hK => ?_) AllReadyH.nil)
            refine step_append_lies _ rfl _ _ 22 rfl (w.heap.size + 1 + 1) 3 i0 (.int .i64 0) 1 8 under22b hi hz0 hz1 hz2 rfl (by decide) _ _ _ rfl (World.ownsRow.alloc hown _) ⟨wr.heap.size, 0, none⟩ 1 1 [.int .i64 q9] rfl rfl (cell_one_new _ _ _) (by simp [Value.oneCell']) (by decide) (by unfold maxLen; have := HLL.out; omega) (by have := HLL.out; omega) (by simp; omega) _ rfl ?_
            intro g9 cap9 w9 hown9 hgrow hloc _
            have hk9 : ∀ k, k < w.heap.size + 1 + 1 → w9.heap[k]? = wr.heap[k]? := fun k hk => (hgrow.block k (by simp; omega) (fun e9 => by have := owns_ge hown k e9.symm; omega)).trans (Below.heap_alloc _ _ k (show k < wr.heap.size by omega))
            have hX9 : Blk w9 (w.heap.size + 1) 24 [.int .i64 n, .slice rx xs.length rcap] := hX'.of_eq (hk9 _ (by omega))
            have hR9 : Blk w9 w.heap.size 24 [.int .i64 0, .slice none 0 0] := hR'.of_eq (hk9 _ (by omega))
            have hcw := hX9.two.2.1
            have hfw := hX9.two.2.2.2
            have hB9 : Below w.heap.size w w9 := ((bdrew hB').alloc (bdrew hB').size _).grown hgrow (by have := hB'.size; simp; omega) (fun t e9 => by have := owns_ge hown t e9; omega)
            have hB3 := hB9.setCell (p := ⟨w.heap.size + 1, 1, none⟩) (by simp) (.slice (some ⟨g9, 0, none⟩) (xs.length + 1) cap9)
            refine hK.out _ _ hB9 (fun hHeld => ?_)
            clear hK
            try simp only [Act.put, List.setIfInBounds_toArray, List.set_cons_zero, List.set_cons_succ]
            refine wpAnyH_take (i := 9) (oi := ({ dst := some 27, op := Go.Op.fieldAddr 24 (Go.Operand.tmp 3) 1, type := 0, pos := _, after := #[{ on := 0, ground := Go.Ground.phase }, { on := 1, ground := Go.Ground.phase }, { on := 2, ground := Go.Ground.phase }, { on := 3, ground := Go.Ground.phase }, { on := 4, ground := Go.Ground.phase }, { on := 5, ground := Go.Ground.phase }, { on := 6, ground := Go.Ground.phase }, { on := 7, ground := Go.Ground.phase }, { on := 8, ground := Go.Ground.phase }], guard := none } : Oper)) (v := ?_) rfl (by kernel_rfl) (by kernel_rfl) (by kernel_rfl) (fun _ _ _ h => h) (Or.inl ⟨by rfl, ?_⟩) (by assumption) ?_
            rotate_left
            · (intro w hSw; (try dsimp only at hSw); go_simp; try with_reducible rfl)
            simp only [Act.put, List.setIfInBounds_toArray, List.set_cons_zero, List.set_cons_succ]
            refine wpAnyH_ready (rs := [10]) (by kernel_rfl) (by simp) (AllReadyH.cons (o := ({ dst := none, op := Go.Op.store 22 (Go.Operand.tmp 27) (Go.Operand.tmp 26), type := 0, pos := _, after := #[{ on := 9, ground := Go.Ground.data }, { on := 8, ground := Go.Ground.data }, { on := 8, ground := Go.Ground.chain }, { on := 0, ground := Go.Ground.phase }, { on := 1, ground := Go.Ground.phase }, { on := 2, ground := Go.Ground.phase }, { on := 3, ground := Go.Ground.phase }, { on := 4, ground := Go.Ground.phase }, { on := 5, ground := Go.Ground.phase }, { on := 6, ground := Go.Ground.phase }, { on := 7, ground := Go.Ground.phase }, { on := 8, ground := Go.Ground.phase }], guard := none } : Oper)) rfl (fun K hK => ?_) AllReadyH.nil)
            go_simp
            refine hK.out _ _ hB3 (fun hHeld => ?_)
            clear hK
            try simp only [Act.put, List.setIfInBounds_toArray, List.set_cons_zero, List.set_cons_succ]
            refine wpAnyH_done (by kernel_rfl) ?_ _
            have hX3 := hX9.set 1 (.slice (some ⟨g9, 0, none⟩) (xs.length + 1) cap9)
            have hR3 := hR9.other (p := ⟨w.heap.size + 1, 1, none⟩) (by simp) (.slice (some ⟨g9, 0, none⟩) (xs.length + 1) cap9)
            have hrow9 : Row w9 (w.heap.size + 1 + 1) (.slice (some ⟨g9, 0, none⟩) (xs.length + 1) cap9) (T.take (a * n + (b + 1))) := by
              unfold Row
              rw [HSN.out]
              simpa using hown9
            have hrow3 := row_keep (W' := w9.setCell ⟨w.heap.size + 1, 1, none⟩ (.slice (some ⟨g9, 0, none⟩) (xs.length + 1) cap9)) hrow9 (fun g h1 _ => Below.heap_setCell _ _ _ g (by simp; omega))
            clear hown9 hgrow hown hrow9 hk9 hloc
            go_wp2
            go_roundw
            case rel => exact ⟨b + 1, _, by omega, by go_num, hrow3, hR3, hX3, hB3⟩
            case measure => simp [intOf]; omega
          · go_simp
            refine hK.out _ _ (show Below w.heap.size w (wr.drew.alloc (.cells #[.int .i64 (q9 : Int)] 3)) from (bdrew hB').alloc (bdrew hB').size _) (fun hHeld => ?_)
            clear hK
            try simp only [Act.put, List.setIfInBounds_toArray, List.set_cons_zero, List.set_cons_succ]
            refine wpAnyH_ready (rs := [1]) (by kernel_rfl) (by simp) (AllReadyH.cons (o := ({ dst := some 19, op := Go.Op.load 22 (Go.Operand.tmp 18), type := 22, pos := _, after := #[{ on := 0, ground := Go.Ground.data }], guard := none } : Oper)) rfl (fun K hK => ?_) AllReadyH.nil)
            have x1a := (Blk.alloc (show Blk wr.drew (w.heap.size + 1) 24 [.int .i64 n, .slice rx xs.length rcap] from hX') (.cells #[.int .i64 q9] 3)).two.2.1
            go_simp
            refine hK.out _ _ hHeld (fun hHeld => ?_)
            clear hK
            try simp only [Act.put, List.setIfInBounds_toArray, List.set_cons_zero, List.set_cons_succ]
            refine wpAnyH_ready (rs := [8]) (by kernel_rfl) (by simp) (AllReadyH.cons (o := ({ dst := some 26, op := Go.Op.call { callee := Go.Callee.builtin Go.Builtin.append, args := #[Go.Operand.tmp 19, Go.Operand.tmp 25], argTypes := #[22, 22] }, type := 22, pos := _, after := #[{ on := 1, ground := Go.Ground.data }, { on := 7, ground := Go.Ground.data }], guard := none } : Oper)) rfl (fun K hK => ?_) AllReadyH.nil)
            refine step_append_lies _ rfl _ _ 22 rfl (w.heap.size + 1 + 1) 3 i0 (.int .i64 0) 1 8 under22b hi hz0 hz1 hz2 rfl (by decide) _ _ _ rfl (World.ownsRow.alloc hown _) ⟨wr.heap.size, 0, none⟩ 1 1 [.int .i64 q9] rfl rfl (cell_one_new _ _ _) (by simp [Value.oneCell']) (by decide) (by unfold maxLen; have := HLL.out; omega) (by have := HLL.out; omega) (by simp; omega) _ rfl ?_
            intro g9 cap9 w9 hown9 hgrow hloc _
            have hk9 : ∀ k, k < w.heap.size + 1 + 1 → w9.heap[k]? = wr.heap[k]? := fun k hk => (hgrow.block k (by simp; omega) (fun e9 => by have := owns_ge hown k e9.symm; omega)).trans (Below.heap_alloc _ _ k (show k < wr.heap.size by omega))
            have hX9 : Blk w9 (w.heap.size + 1) 24 [.int .i64 n, .slice rx xs.length rcap] := hX'.of_eq (hk9 _ (by omega))
            have hR9 : Blk w9 w.heap.size 24 [.int .i64 0, .slice none 0 0] := hR'.of_eq (hk9 _ (by omega))
            have hcw := hX9.two.2.1
            have hfw := hX9.two.2.2.2
            have hB9 : Below w.heap.size w w9 := ((bdrew hB').alloc (bdrew hB').size _).grown hgrow (by have := hB'.size; simp; omega) (fun t e9 => by have := owns_ge hown t e9; omega)
            have hB3 := hB9.setCell (p := ⟨w.heap.size + 1, 1, none⟩) (by simp) (.slice (some ⟨g9, 0, none⟩) (xs.length + 1) cap9)
            refine hK.out _ _ hB9 (fun hHeld => ?_)
            clear hK
            try simp only [Act.put, List.setIfInBounds_toArray, List.set_cons_zero, List.set_cons_succ]
            refine wpAnyH_take (i := 9) (oi := ({ dst := some 27, op := Go.Op.fieldAddr 24 (Go.Operand.tmp 3) 1, type := 0, pos := _, after := #[{ on := 0, ground := Go.Ground.phase }, { on := 1, ground := Go.Ground.phase }, { on := 2, ground := Go.Ground.phase }, { on := 3, ground := Go.Ground.phase }, { on := 4, ground := Go.Ground.phase }, { on := 5, ground := Go.Ground.phase }, { on := 6, ground := Go.Ground.phase }, { on := 7, ground := Go.Ground.phase }, { on := 8, ground := Go.Ground.phase }], guard := none } : Oper)) (v := ?_) rfl (by kernel_rfl) (by kernel_rfl) (by kernel_rfl) (fun _ _ _ h => h) (Or.inl ⟨by rfl, ?_⟩) (by assumption) ?_
            rotate_left
            · (intro w hSw; (try dsimp only at hSw); go_simp; try with_reducible rfl)
            simp only [Act.put, List.setIfInBounds_toArray, List.set_cons_zero, List.set_cons_succ]
            refine wpAnyH_ready (rs := [10]) (by kernel_rfl) (by simp) (AllReadyH.cons (o := ({ dst := none, op := Go.Op.store 22 (Go.Operand.tmp 27) (Go.Operand.tmp 26), type := 0, pos := _, after := #[{ on := 9, ground := Go.Ground.data }, { on := 8, ground := Go.Ground.data }, { on := 8, ground := Go.Ground.chain }, { on := 0, ground := Go.Ground.phase }, { on := 1, ground := Go.Ground.phase }, { on := 2, ground := Go.Ground.phase }, { on := 3, ground := Go.Ground.phase }, { on := 4, ground := Go.Ground.phase }, { on := 5, ground := Go.Ground.phase }, { on := 6, ground := Go.Ground.phase }, { on := 7, ground := Go.Ground.phase }, { on := 8, ground := Go.Ground.phase }], guard := none } : Oper)) rfl (fun K hK => ?_) AllReadyH.nil)
            go_simp
            refine hK.out _ _ hB3 (fun hHeld => ?_)
            clear hK
            try simp only [Act.put, List.setIfInBounds_toArray, List.set_cons_zero, List.set_cons_succ]
            refine wpAnyH_done (by kernel_rfl) ?_ _
            have hX3 := hX9.set 1 (.slice (some ⟨g9, 0, none⟩) (xs.length + 1) cap9)
            have hR3 := hR9.other (p := ⟨w.heap.size + 1, 1, none⟩) (by simp) (.slice (some ⟨g9, 0, none⟩) (xs.length + 1) cap9)
            have hrow9 : Row w9 (w.heap.size + 1 + 1) (.slice (some ⟨g9, 0, none⟩) (xs.length + 1) cap9) (T.take (a * n + (b + 1))) := by
              unfold Row
              rw [HSN.out]
              simpa using hown9
            have hrow3 := row_keep (W' := w9.setCell ⟨w.heap.size + 1, 1, none⟩ (.slice (some ⟨g9, 0, none⟩) (xs.length + 1) cap9)) hrow9 (fun g h1 _ => Below.heap_setCell _ _ _ g (by simp; omega))
            clear hown9 hgrow hown hrow9 hk9 hloc
            go_wp2
            go_roundw
            case rel => exact ⟨b + 1, _, by omega, by go_num, hrow3, hR3, hX3, hB3⟩
            case measure => simp [intOf]; omega
        · have hbi : ¬ (b : Int) < (n : Int) := by omega
          have hbn : b = n := by omega
          have hrow8 : Row wr (w.heap.size + 1 + 1) r' (T.take ((a + 1) * n)) := by rw [Nat.add_mul, Nat.one_mul]; rw [hbn] at hrow'; exact hrow'
          clear hbn hrow'
          go_wp2
          go_roundw
          case rel => exact ⟨a + 1, r', by omega, by go_num, hrow8, hR', hX', hB'⟩
          case measure => simp [intOf]; omega
    · have hai : ¬ (a : Int) < (n : Int) := by omega
      have han : a = n := by omega
      have hTT : T.take (a * n) = T := List.take_of_length_le (by rw [HTL.out, han]; exact Nat.le_refl _)
      rw [hTT] at hrow
      clear hTT han
      have hown : wr.ownsRow (w.heap.size + 1 + 1) 3 1 r T.length (T.map (Value.int .i64)) := hrow
      obtain ⟨rx, rcap, rfl⟩ := own_slice hown
      obtain ⟨x0, x1, fx0, fx1⟩ := hX.two
      obtain ⟨r0, r1, fr0, fr1⟩ := hR.two
      have hR8 : Blk ((wr.setCell ⟨w.heap.size, 0, none⟩ (.int .i64 n)).setCell ⟨w.heap.size, 1, none⟩ (.slice rx T.length rcap)) w.heap.size 24 [.int .i64 n, .slice rx T.length rcap] := (hR.set 0 _).set 1 _
      have hB8 := (hB.setCell (p := ⟨w.heap.size, 0, none⟩) (by simp) (.int .i64 n)).setCell (p := ⟨w.heap.size, 1, none⟩) (by simp) (.slice rx T.length rcap)
      have hrow8 := owns_mono (row_keep (W' := (wr.setCell ⟨w.heap.size, 0, none⟩ (.int .i64 n)).setCell ⟨w.heap.size, 1, none⟩ (.slice rx T.length rcap)) hrow (fun g h1 _ => by rw [Below.heap_setCell _ _ _ g (by simp; omega), Below.heap_setCell _ _ _ g (by simp; omega)])) (show w.heap.size ≤ w.heap.size + 1 + 1 by omega)
      clear hown hrow
      go_wp2
      generalize (wr.setCell ⟨w.heap.size, 0, none⟩ (.int .i64 n)).setCell ⟨w.heap.size, 1, none⟩ (.slice rx T.length rcap) = W at hR8 hB8 hrow8 ⊢
      obtain ⟨z0, z1, _, _⟩ := hR8.two
      exact bodyPost_ret (v := .agg #[.int .i64 n, .slice rx T.length rcap]) (by simp [results, Tryz.results34, go_sem, z0, z1]) rfl ⟨_, rfl, hrow8, hB8⟩
/-- Does each number below n stand there? -/
def o1 (n : Nat) (xs : List Int) : Bool := (List.range n).all fun i => decide ((i : Int) ∈ xs)
theorem o1_iff {n : Nat} {xs : List Int} : o1 n xs = true ↔ ∀ i, i < n → (i : Int) ∈ xs := by simp [o1]
end Go.Proofs.YtgejngpioldhpaaGreatDoor

namespace Go.Proofs.YtgejngpioldhpaaGreatDoor
open Go.ChangeShapes Go.WideShapes Go.ChangeAt Go.RowKit

theorem own : ownKnob Tryz.prog.godebug = none := by kernel_rfl
theorem laidOut : laidOutB Tryz.prog = true := by kernel_rfl

/-- A slice of ints that reads as zs; where nothing is in it, nothing is told of the memory. -/
def SlA (w : World) (v : Value) (zs : List Int) : Prop := ∃ a cap pb po, v = .slice a zs.length cap ∧ Reads w a pb po zs ∧ (0 < zs.length → pb < w.heap.size) ∧ zs.length ≤ cap ∧ cap ≤ maxLen
theorem SlA.up {w w' : World} {v : Value} {zs : List Int} (h : SlA w v zs) (hb : Below w.heap.size w w') (h0 : 0 < w'.heap.size) : Sl w' v zs := by
  obtain ⟨a, cap, pb, po, hv, hr, hp, h1, h2⟩ := h
  rcases Nat.eq_zero_or_pos zs.length with hz | hz
  · exact ⟨a, cap, 0, 0, hv, ⟨fun h => by omega, fun j hj => by omega⟩, h0, h1, h2⟩
  · exact ⟨a, cap, pb, po, hv, hr.below hb (hp hz), Nat.lt_of_lt_of_le (hp hz) hb.size, h1, h2⟩
theorem SlA.of {w : World} {v : Value} {zs : List Int} (h : Sl w v zs) : SlA w v zs := by
  obtain ⟨a, cap, pb, po, hv, hr, hp, h1, h2⟩ := h
  exact ⟨a, cap, pb, po, hv, hr, fun _ => hp, h1, h2⟩

theorem und24 : ∃ f0 f1 : Field, Tryz.prog.underlying 24 = some (.struct #[f0, f1]) ∧ f0.type = 3 ∧ f1.type = 22 ∧ f0.offset = 0 ∧ f1.offset = 1 := ⟨_, _, Tryz.underlying24, rfl, rfl, rfl, rfl⟩
theorem und3 : Tryz.prog.underlying 3 = some (.int .i64) := by kernel_rfl
theorem und22 : Tryz.prog.underlying 22 = some (.slice 3) := by kernel_rfl
theorem und4 : Tryz.prog.underlying 4 = some .bool := by kernel_rfl

set_option maxRecDepth 100000 in
/-- What is told of a table that came in. -/
theorem open_group {H : Type} {enc : TypeId × Value → H} {W : World} {b0 : Nat} {v : Value} {d : DataW H} {ps : List MemPlace} (hval : Value.okWide Tryz.prog W .any b0 24 v)
    (hd : DataW.Trod enc Tryz.prog W 0 (fun _ => true) true 24 v d ps) :
    ∃ N u zs, v = .agg #[.int .i64 N, u] ∧ SlA W u zs ∧ (Lit.int .i64 N).wf = true ∧ ((d.weights Tryz.prog 24).all (· ≤ reachBytes) = true → zs.length * 8 ≤ 140737488355328) := by
  obtain ⟨f0, f1, hu, ht0, ht1, ho0, ho1⟩ := und24
  obtain ⟨cs, rfl, hsz⟩ := okWide_struct hu hval
  rw [show Tryz.prog.cellsOf 24 = 2 by kernel_rfl] at hsz
  obtain ⟨l⟩ := cs
  match l, hsz with
  | [c0, c1], _ =>
  obtain ⟨fuel, hf⟩ := hd
  obtain ⟨y0, y1, m, hx, _, hy0, hy1⟩ := trod_struct2 hu hf
  rw [ht0, ho0, show Tryz.prog.cellsOf 3 = 1 by kernel_rfl] at hy0
  rw [ht1, ho1, show Tryz.prog.cellsOf 22 = 1 by kernel_rfl] at hy1
  obtain ⟨N, e0, rfl, wN⟩ := DataW.trod_int und3 hy0
  simp [Value.cells] at e0
  subst e0
  simp [Value.cells] at hy1
  rcases open_ints und22 und3 (by kernel_rfl) hy1 with ⟨hcs, _⟩ | ⟨x, l, c, zs, hcs, _, hl, hm, hz, heq, hcell, hwz⟩
  · simp at hcs
    subst hcs
    exact ⟨N, _, [], rfl, ⟨none, 0, 0, 0, rfl, ⟨by simp, by simp⟩, by simp, by simp, by unfold maxLen; omega⟩, wN, fun _ => by simp⟩
  · simp at hcs
    subst hcs
    have hzc : zs.length = c := by simpa using hz
    have hlen : (zs.take l).length = l := by rw [List.length_take]; omega
    refine ⟨N, _, zs.take l, rfl, ?_, wN, fun hw => ?_⟩
    · by_cases hpos : 0 < c
      · obtain ⟨b, o, rfl, hc'⟩ := ints_at hcell (by omega)
        refine ⟨some ⟨b, o, none⟩, c, b, o, by rw [hlen], ⟨fun _ => rfl, fun j hj => ?_⟩, fun _ => World.block_lt_of_cell? W _ (hc' 0 (by omega)), by omega, hm⟩
        rw [hlen] at hj
        rw [hc' j (by omega), List.getElem?_take, if_pos hj, List.getD_eq_getElem?_getD]
      · have : l = 0 := by omega
        subst this
        exact ⟨some x, c, 0, 0, by simp, ⟨by simp, by simp⟩, by simp, by simp, hm⟩
    · have hd : d = .agg [.lit (.int .i64 N), .slice (lits .i64 (zs.take l)) (lits .i64 (zs.drop l))] := by
        have h1 := congrArg Prod.fst hx
        simp only [heq] at h1
        exact h1
      have hw2 := List.all_eq_true.1 hw (((lits (H := H) .i64 (zs.take l)).length + (lits (H := H) .i64 (zs.drop l)).length) * Tryz.prog.bytesOf 3) (by
        rw [hd]; simp [DataW.weights, DataW.weightsEach, hu, ht0, ht1])
      rw [show Tryz.prog.bytesOf 3 = 8 by kernel_rfl] at hw2
      simp only [lits, List.length_map, decide_eq_true_eq] at hw2
      unfold reachBytes at hw2
      omega
end Go.Proofs.YtgejngpioldhpaaGreatDoor

namespace Go.Proofs.YtgejngpioldhpaaGreatDoor
open Go.ChangeShapes Go.WideShapes Go.ChangeAt Go.RowKit

/-- What the rows list. -/
def laid1 : List (String × DataW Unit) := Rows.prodComplementsRow.laid
def tabZ : List Int := Lib.deBruijn64tab.map fun (x : Nat) => (x : Int)
theorem tab_data : (Rows.laid_math_bits_deBruijn64tab : DataW Unit) = Lib.tabData .u8 tabZ := by kernel_rfl
/-- The door's own heap meets the condition. -/
theorem door_met (os : Os) (args : Array Value) : laidMetH Tryz.prog laid1 ((World.doorLaid Tryz.prog 400 os).forCall (fun _ _ => 0) ⟨#[], args, []⟩).memory :=
  laidMetH_of_parts3 (fuel := 8) (laidMet_of_run' 8 (by kernel_rfl) (by kernel_rfl)) (by kernel_rfl) (by kernel_rfl)
theorem tab_of_laid {W : World} (h : laidMetH Tryz.prog laid1 W) : Tab W := by
  rw [MakeChecks.laidMetH_plain _ _ _ (by kernel_rfl)] at h
  have h2 : laidMet Tryz.prog [("math/bits.deBruijn64tab", (Rows.laid_math_bits_deBruijn64tab : DataW Unit))] W := h
  rw [tab_data] at h2
  have hg : Tryz.prog.globalNamed "math/bits.deBruijn64tab" = some 0 := by kernel_rfl
  have hT := Lib.tabIs_of_head hg (t := 115) (e := 5) (n := 64) (by kernel_rfl) (by kernel_rfl) (by kernel_rfl) (by kernel_rfl) (by kernel_rfl) h2
  intro j hj
  have hj' : j < tabZ.length := by simpa [tabZ] using hj
  have hc := hT.cell hg j hj'
  rw [hc]
  simp [tabZ, hj]
set_option maxRecDepth 100000 in
/-- A list of ints that came in: its value, what it reads as, and its size. -/
theorem open_list {H : Type} {enc : TypeId × Value → H} {W : World} {b0 : Nat} {v : Value} {d : DataW H} {ps : List MemPlace} (hval : Value.okWide Tryz.prog W .any b0 22 v)
    (hd : DataW.Trod enc Tryz.prog W 0 (fun _ => true) true 22 v d ps) (h0 : 0 < W.heap.size) :
    ∃ zs, Sl W v zs ∧ ((d.weights Tryz.prog 22).all (· ≤ reachBytes) = true → zs.length * 8 ≤ 140737488355328) := by
  obtain ⟨a, len, cap, rfl⟩ := okWide_slice und22 hval
  obtain ⟨fuel, hf⟩ := hd
  rcases open_ints und22 und3 (by kernel_rfl) hf with ⟨hcs, _⟩ | ⟨x, l, c, zs, hcs, _, hl, hm, hz, heq, hcell, hwz⟩
  · simp [Value.cells] at hcs
    obtain ⟨rfl, rfl, rfl⟩ := hcs
    exact ⟨[], Sl.nil h0, fun _ => by simp⟩
  · simp [Value.cells] at hcs
    obtain ⟨rfl, rfl, rfl⟩ := hcs
    have hzc : zs.length = cap := by simpa using hz
    have hlen : (zs.take len).length = len := by rw [List.length_take]; omega
    refine ⟨zs.take len, ?_, fun hw => ?_⟩
    · by_cases hpos : 0 < cap
      · obtain ⟨b, o, rfl, hc'⟩ := ints_at hcell (by omega)
        refine ⟨some ⟨b, o, none⟩, cap, b, o, by rw [hlen], ⟨fun _ => rfl, fun j hj => ?_⟩, World.block_lt_of_cell? W _ (hc' 0 (by omega)), by omega, hm⟩
        rw [hlen] at hj
        rw [hc' j (by omega), List.getElem?_take, if_pos hj, List.getD_eq_getElem?_getD]
      · have : len = 0 := by omega
        subst this
        exact ⟨some x, cap, 0, 0, by simp, ⟨by simp, by simp⟩, h0, by simp, hm⟩
    · simp only [Prod.mk.injEq] at heq
      have hw2 := List.all_eq_true.1 hw (((lits (H := H) .i64 (zs.take len)).length + (lits (H := H) .i64 (zs.drop len)).length) * Tryz.prog.bytesOf 3) (by
        rw [heq.1]; simp [DataW.weights])
      rw [show Tryz.prog.bytesOf 3 = 8 by kernel_rfl] at hw2
      simp only [lits, List.length_map, decide_eq_true_eq] at hw2
      unfold reachBytes at hw2
      omega
end Go.Proofs.YtgejngpioldhpaaGreatDoor

namespace Go.Proofs.YtgejngpioldhpaaGreatDoor
open Go.ChangeShapes Go.WideShapes Go.ChangeAt Go.RowKit

theorem und33L : Tryz.prog.underlying 25 = some (.slice 22) := by kernel_rfl
theorem row_of {W : World} {A : Option Addr} {L C : Nat} {Z : List Int} (h0 : 0 < W.heap.size) (hl : L ≤ C) (hm : C ≤ maxLen) (hz : Z.length = C) (hn : A = none → C = 0) (hc : ∀ a', A = some a' → ∀ c, c < C → W.cell? (a'.add c) = some (.int .i64 (Z.getD c 0))) : Sl W (.slice A L C) (Z.take L) := by
  have hlen : (Z.take L).length = L := by rw [List.length_take]; omega
  by_cases hpos : 0 < C
  · obtain ⟨x, hx⟩ : ∃ x, A = some x := by
      cases A with
      | none => exact absurd (hn rfl) (by omega)
      | some x => exact ⟨x, rfl⟩
    subst hx
    obtain ⟨b, o, rfl, hc'⟩ := ints_at (zs := Z) (fun i hi => hc x rfl i (by omega)) (by omega)
    refine ⟨some ⟨b, o, none⟩, C, b, o, by rw [hlen], ⟨fun _ => rfl, fun j hj => ?_⟩, World.block_lt_of_cell? W _ (hc' 0 (by omega)), by omega, hm⟩
    rw [hlen] at hj
    rw [hc' j (by omega), List.getElem?_take, if_pos hj, List.getD_eq_getElem?_getD]
  · have : L = 0 := by omega
    subst this
    exact ⟨A, C, 0, 0, by simp, ⟨by simp, by simp⟩, h0, by simp, hm⟩
set_option maxRecDepth 100000 in
/-- A list of lists of ints that came in: its value, and what it reads as. -/
theorem open_lists {H : Type} {enc : TypeId × Value → H} {W : World} {b0 : Nat} {v : Value} {d : DataW H} {ps : List MemPlace} (hval : Value.okWide Tryz.prog W .any b0 25 v)
    (hd : DataW.Trod enc Tryz.prog W 0 (fun _ => true) true 25 v d ps) (h0 : 0 < W.heap.size) : ∃ ls, SlL W v ls := by
  obtain ⟨a, len, cap, rfl⟩ := okWide_slice und33L hval
  obtain ⟨fuel, hf⟩ := hd
  rcases Go.Deep.open_int_rows und33L und22 und3 (by kernel_rfl) (by kernel_rfl) hf with ⟨hcs, _⟩ | ⟨x, l, c, A, L, C, Z, hcs, _, hl, hm, _, hrow⟩
  · simp [Value.cells] at hcs
    obtain ⟨rfl, rfl, rfl⟩ := hcs
    exact ⟨[], none, 0, 0, 0, rfl, by simp, by simp, h0, Nat.le_refl _, Nat.zero_le _⟩
  · simp [Value.cells] at hcs
    obtain ⟨rfl, rfl, rfl⟩ := hcs
    refine ⟨(List.range len).map fun r => (Z r).take (L r), ?_⟩
    have hlen : ((List.range len).map fun r => (Z r).take (L r)).length = len := by simp
    by_cases hpos : 0 < len
    · obtain ⟨b, o, spot⟩ := x
      have hspot : spot = none := by simpa [Addr.add] using World.cell?_spot (hrow 0 (by omega)).1
      subst hspot
      have hadd : ∀ r, (⟨b, o, none⟩ : Addr).add r = ⟨b, o + r, none⟩ := fun r => by unfold Addr.add; split <;> simp_all
      refine ⟨some ⟨b, o, none⟩, cap, b, o, by rw [hlen], fun _ => rfl, fun j hj => ?_, ?_, by rw [hlen]; exact hl, hm⟩
      · rw [hlen] at hj
        obtain ⟨h1, h2, h3, h4, _, h6, h7⟩ := hrow j (by omega)
        rw [hadd j] at h1
        refine ⟨_, h1, ?_⟩
        have e1 : ((List.range len).map fun r => (Z r).take (L r))[j]?.getD [] = (Z j).take (L j) := by simp [hj]
        rw [e1]
        exact row_of h0 h2 h3 h4 h6 (fun a' ha c hc => (h7 a' ha).2 c hc)
      · have h1 := (hrow 0 (by omega)).1
        exact World.block_lt_of_cell? W _ h1
    · have : len = 0 := by omega
      subst this
      exact ⟨some x, cap, 0, 0, by simp, by simp, by simp, h0, by simp, hm⟩
end Go.Proofs.YtgejngpioldhpaaGreatDoor

namespace Go.Proofs.YtgejngpioldhpaaGreatDoor
open Go.ChangeShapes Go.WideShapes Go.ChangeAt Go.RowKit

theorem weights_all {H : Type} {P : Program} {e : TypeId} {d : DataW H} : ∀ {l : List (DataW H)}, d ∈ l → ∀ x, x ∈ d.weights P e → x ∈ DataW.weightsAll P e l
  | [], h, _, _ => by cases h
  | a :: r, h, x, hx => by
    rw [DataW.weightsAll, List.mem_append]
    rcases List.mem_cons.1 h with rfl | h
    · exact .inl hx
    · exact .inr (weights_all h x hx)
set_option maxRecDepth 100000 in
/-- A list of lists of ints that came in: its value, what it reads as, and that no list of it is too great. -/
theorem open_lists2 {H : Type} {enc : TypeId × Value → H} {W : World} {b0 : Nat} {v : Value} {d : DataW H} {ps : List MemPlace} (hval : Value.okWide Tryz.prog W .any b0 25 v)
    (hd : DataW.Trod enc Tryz.prog W 0 (fun _ => true) true 25 v d ps) (h0 : 0 < W.heap.size) : ∃ ls, SlL W v ls ∧ ((d.weights Tryz.prog 25).all (· ≤ reachBytes) = true → ∀ j, j < ls.length → (ls[j]?.getD []).length * 8 ≤ 140737488355328) := by
  obtain ⟨a, len, cap, rfl⟩ := okWide_slice und33L hval
  obtain ⟨fuel, hf⟩ := hd
  rcases Go.Deep.open_int_rows und33L und22 und3 (by kernel_rfl) (by kernel_rfl) hf with ⟨hcs, _⟩ | ⟨x, l, c, A, L, C, Z, hcs, _, hl, hm, heq, hrow⟩
  · simp [Value.cells] at hcs
    obtain ⟨rfl, rfl, rfl⟩ := hcs
    exact ⟨[], ⟨none, 0, 0, 0, rfl, by simp, by simp, h0, Nat.le_refl _, Nat.zero_le _⟩, fun _ j hj => by simp at hj⟩
  · simp [Value.cells] at hcs
    obtain ⟨rfl, rfl, rfl⟩ := hcs
    have hlen : ((List.range len).map fun r => (Z r).take (L r)).length = len := by simp
    refine ⟨(List.range len).map fun r => (Z r).take (L r), ?_, fun hw j hj => ?_⟩
    · by_cases hpos : 0 < len
      · obtain ⟨b, o, spot⟩ := x
        have hspot : spot = none := by simpa [Addr.add] using World.cell?_spot (hrow 0 (by omega)).1
        subst hspot
        have hadd : ∀ r, (⟨b, o, none⟩ : Addr).add r = ⟨b, o + r, none⟩ := fun r => by unfold Addr.add; split <;> simp_all
        refine ⟨some ⟨b, o, none⟩, cap, b, o, by rw [hlen], fun _ => rfl, fun j hj => ?_, ?_, by rw [hlen]; exact hl, hm⟩
        · rw [hlen] at hj
          obtain ⟨h1, h2, h3, h4, _, h6, h7⟩ := hrow j (by omega)
          rw [hadd j] at h1
          refine ⟨_, h1, ?_⟩
          have e1 : ((List.range len).map fun r => (Z r).take (L r))[j]?.getD [] = (Z j).take (L j) := by simp [hj]
          rw [e1]
          exact row_of h0 h2 h3 h4 h6 (fun a' ha c hc => (h7 a' ha).2 c hc)
        · have h1 := (hrow 0 (by omega)).1
          exact World.block_lt_of_cell? W _ h1
      · have : len = 0 := by omega
        subst this
        exact ⟨some x, cap, 0, 0, by simp, by simp, by simp, h0, by simp, hm⟩
    · rw [hlen] at hj
      have e1 : ((List.range len).map fun r => (Z r).take (L r))[j]?.getD [] = (Z j).take (L j) := by simp [hj]
      rw [e1]
      obtain ⟨h1, h2, h3, h4, _, h6, h7⟩ := hrow j (by omega)
      simp only [Prod.mk.injEq] at heq
      cases hA : A j with
      | none =>
        have := h6 hA
        rw [List.length_take]
        omega
      | some a' =>
        have hmem : Go.Deep.intRow (H := H) .i64 (A j) (L j) (Z j) ∈ (List.range len).map fun r => Go.Deep.intRow (H := H) .i64 (A r) (L r) (Z r) := List.mem_map.2 ⟨j, List.mem_range.2 hj, rfl⟩
        have hin : (((Z j).take (L j)).length + ((Z j).drop (L j)).length) * 8 ∈ (Go.Deep.intRow (H := H) .i64 (A j) (L j) (Z j)).weights Tryz.prog 22 := by
          rw [hA]
          show _ ∈ (DataW.slice (lits .i64 ((Z j).take (L j))) (lits .i64 ((Z j).drop (L j)))).weights Tryz.prog 22
          rw [DataW.weights, und22]
          have e8 : Tryz.prog.bytesOf 3 = 8 := by kernel_rfl
          simp [lits, e8]
        have hall : (((Z j).take (L j)).length + ((Z j).drop (L j)).length) * 8 ∈ d.weights Tryz.prog 25 := by
          rw [heq.1, DataW.weights, und33L]
          exact List.mem_cons_of_mem _ (List.mem_append_left _ (weights_all hmem _ hin))
        have hw2 := List.all_eq_true.1 hw _ hall
        simp only [decide_eq_true_eq] at hw2
        unfold reachBytes at hw2
        omega
end Go.Proofs.YtgejngpioldhpaaGreatDoor

namespace Go.Proofs.YtgejngpioldhpaaGreatDoor
open Go Go.RowKit

theorem row_at {w : World} {pb po : Nat} {rs : List (List Int)} (h : ∀ j, j < rs.length → ∃ x, w.cell? ⟨pb, po + j, none⟩ = some x ∧ Sl w x (rs[j]?.getD [])) {j : Nat} (hj : j < rs.length) : ∃ r1 r3, w.cell? ⟨pb, po + j, none⟩ = some (.slice r1 (rs[j]?.getD []).length r3) ∧ Sl w (.slice r1 (rs[j]?.getD []).length r3) (rs[j]?.getD []) := by
  obtain ⟨x, hx, hs⟩ := h j hj
  obtain ⟨r1, r3, _, _, rfl, _⟩ := id hs
  exact ⟨r1, r3, hx, hs⟩
theorem own_keep2 {W W' : World} {B n : Nat} {e : TypeId} {v : Value} {xs : List Value} (h : W.ownsRow B e 1 v n xs) (hk : ∀ g, B ≤ g → g < W.heap.size → W'.heap[g]? = W.heap[g]?) : W'.ownsRow B e 1 v n xs := by
  refine ⟨h.1, ?_⟩
  rcases h.2 with h0 | ⟨g, cap, cur, hv, hg, hh, rest⟩
  · exact .inl h0
  · exact .inr ⟨g, cap, cur, hv, hg, (hk g hg (Array.getElem?_eq_some_iff.1 hh).1).trans hh, rest⟩
/-- A list of the call's own, read in a later world. -/
theorem own_new {W W8 : World} {B : Nat} {r : Value} {lj : List Int} (h : Row W B r lj) (hB : B ≤ W.heap.size) (hs : W.heap.size < W8.heap.size) (o : Option Nat) (ho : ∀ g, o = some g → g < B ∨ W.heap.size < g)
    (hk : ∀ g, B ≤ g → g < W.heap.size → W8.heap[g]? = W.heap[g]?) : ∃ a cap pb po, r = .slice a lj.length cap ∧ Reads W8 a pb po lj ∧ pb < W8.heap.size ∧ lj.length ≤ cap ∧ cap ≤ maxLen ∧ B ≤ pb ∧ ∀ g, o = some g → pb ≠ g := by
  rcases h.2 with ⟨rfl, hz⟩ | ⟨g, cap, cur, rfl, h1, hh, h2, h3, h4⟩
  · have hz : lj.length = 0 := by simpa using hz
    refine ⟨none, 0, W.heap.size, 0, by rw [hz], ⟨fun h => by omega, fun j hj => by omega⟩, hs, by omega, by unfold maxLen; omega, hB, fun g hg e => ?_⟩
    rcases ho g hg with h | h <;> omega
  · have hgs : g < W.heap.size := (Array.getElem?_eq_some_iff.1 hh).1
    refine ⟨some ⟨g, 0, none⟩, cap, g, 0, rfl, ⟨fun _ => rfl, fun j hj => ?_⟩, by omega, h2, h3, h1, fun g' hg e => ?_⟩
    · have h9 := World.ownsRow.cells h (g := g) rfl j _ (show (lj.map (Value.int .i64))[j]? = some (.int .i64 (lj[j]?.getD 0)) by simp [hj])
      rw [show (⟨g, 0, none⟩ : Addr).add j = ⟨g, 0 + j, none⟩ by unfold Addr.add; split <;> simp_all] at h9
      exact (World.cell?_of_block (a := ⟨g, 0 + j, none⟩) (hk g h1 hgs)).trans h9
    · rcases ho g' hg with h | h <;> omega
end Go.Proofs.YtgejngpioldhpaaGreatDoor
