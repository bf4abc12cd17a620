/- What package class's Times answers. Condition: the library's table of places lies as its text lays it. The law ClassTimes. Condition: the library's table of places lies as its text lays it. The frame that all rows of this family share: how a table that came in reads. The frame that all rows of this family share: what the listed table gives a walk; how a list of ints that came in reads. -/
import Derived.Test.YtobnfbnholbfoaaDoorZ7
import Derived.Test.YtobnfbnholbfoaaDoorRows
import Derived.Test.YtobnfbnholbfoaaDoorZ1
import Derived.ProofKit
import Derived.OpenShut
import Derived.ChangeOld
import Derived.Below
import Derived.SizedLaws
import Derived.LaidMore
import Derived.Stop.Joined
import Derived.Stop.LaidErr
import Derived.Lib.LaidTab
namespace Go.Proofs.YtobnfbnholbfoaaDoor
open Go Go.RowKit Go.Maps

set_option maxRecDepth 100000 in
set_option maxHeartbeats 4000000 in
theorem tim_bad (N : Int) (v : Value) (zs : List Int) (w : World) (hv : Sl w v zs) (hc : (gfault N zs).1 ≠ 0) :
    Calls Tryd.prog 17 #[.agg #[.int .i64 N, v]] w fun x w' => x = .returned (.tuple #[.slice none 0 0, .agg #[.int .i64 (gfault N zs).1, .int .i64 (gfault N zs).2]]) ∧ Below w.heap.size w w' := by
  obtain ⟨w0, BG⟩ := Beg.new w N v
  have HCK := hide (kop_bad N v zs w0 (hv.below BG.bel) hc)
  obtain ⟨c0, c1, _, _⟩ := BG.box.two
  have hcb : ((gfault N zs).1 != 0) = true := by simpa using hc
  generalize (gfault N zs).1 = c at *
  generalize (gfault N zs).2 = i at *
  rw [BG.eq] at c0 c1
  go_enter Tryd.func17, Tryd.ntmps17
  go_wp2_with fail
  rw [← BG.eq]
  refine HCK.out.mono ?_
  rintro x w1 ⟨rfl, hb1⟩
  clear c0 c1
  obtain ⟨w2, hw2⟩ : ∃ w2, w2 = (w1.alloc (.cells #[.int .i64 0, .slice none 0 0, .int .i64 0, .slice none 0 0, .slice none 0 0, .slice none 0 0] 65)).alloc (.cells #[.int .i64 c, .int .i64 i] 27) := ⟨_, rfl⟩
  have hB1 : Below w0.heap.size w0 w2 := by rw [hw2]; exact bcat2 hb1 ((balloc w1 _).alloc (by simp) _)
  have hF1 : Blk w2 (w1.heap.size + 1) 27 [.int .i64 c, .int .i64 i] := by
    rw [hw2]
    have := blk0 (w := w1.alloc (.cells #[.int .i64 0, .slice none 0 0, .int .i64 0, .slice none 0 0, .slice none 0 0, .slice none 0 0] 65)) (T := 27) (.int .i64 c) (.int .i64 i)
    rwa [World.size_alloc] at this
  have hR1 := blk_below BG.res hB1
  have hBw := bcat BG.bel hB1 BG.bel.size
  obtain ⟨y0, y1, fy0, fy1⟩ := hR1.two
  obtain ⟨t0, t1, _, _⟩ := hF1.two
  rw [hw2] at t0 t1
  go_wp2_with fail
  rw [← hw2]
  rw [← hw2] at t0 t1
  clear hw2
  go_region
  all_goals (
    go_wp2
    obtain ⟨hR6, hB6⟩ := put2 hR1 hBw (by omega) c i
    have hB7 := bdrew hB6
    have hR7 : Blk ((w2.setCell ⟨w.heap.size + 1, 0, none⟩ (.int .i64 c)).setCell ⟨w.heap.size + 1, 1, none⟩ (.int .i64 i)).drew (w.heap.size + 1) 27 [.int .i64 c, .int .i64 i] := hR6
    generalize ((w2.setCell ⟨w.heap.size + 1, 0, none⟩ (.int .i64 c)).setCell ⟨w.heap.size + 1, 1, none⟩ (.int .i64 i)).drew = W at hR7 hB7 ⊢
    obtain ⟨z0, z1, _, _⟩ := hR7.two
    exact bodyPost_ret (v := .tuple #[.slice none 0 0, .agg #[.int .i64 c, .int .i64 i]]) (by simp [results, Tryd.results17, go_sem, z0, z1]) rfl ⟨rfl, hB7⟩)
set_option maxRecDepth 100000 in
set_option maxHeartbeats 4000000 in
theorem tim_many (n e : Nat) (v : Value) (zs : List Int) (w : World) (hv : Sl w v zs) (hg : IsGrp n zs e) (hT : Tab w) (hmany : 24 < (rcs n (clq n zs e) n).length) :
    Calls Tryd.prog 17 #[.agg #[.int .i64 n, v]] w fun x w' => x = .returned (.tuple #[.slice none 0 0, .agg #[.int .i64 2, .int .i64 0]]) ∧ Below w.heap.size w w' := by
  obtain ⟨va, vl, vc, rfl⟩ := hv.isSlice
  obtain ⟨w0, BG⟩ := Beg.new w n (.slice va vl vc)
  have HCK := hide (kop_good n e (.slice va vl vc) zs w0 (hv.below BG.bel) hg (hT.below BG.bel))
  obtain ⟨c0, c1, _, _⟩ := BG.box.two
  have hz0 : w.heap.size + 1 < w0.heap.size := BG.res.lt
  rw [BG.eq] at c0 c1
  go_enter Tryd.func17, Tryd.ntmps17
  go_wp2_with fail
  rw [← BG.eq]
  refine HCK.out.mono ?_
  rintro x w1 ⟨u, cv, nv, vs, rfl, hu, hrow, hls, hnv, hb1⟩
  obtain ⟨ia, il, ic, rfl⟩ := hu.isSlice
  obtain ⟨na, nl, nc, rfl⟩ := hnv.isSlice
  have h01 : 0 < w1.heap.size := Nat.lt_of_lt_of_le (hT.below BG.bel).lt hb1.size
  have hL := SlL.of_own hrow hls h01
  obtain ⟨la, ll, lc, rfl⟩ := hL.isSlice
  clear c0 c1 hrow hls
  obtain ⟨w2, hw2⟩ : ∃ w2, w2 = (w1.alloc (.cells #[.int .i64 n, .slice va vl vc, .int .i64 e, .slice ia il ic, .slice la ll lc, .slice na nl nc] 65)).alloc (.cells #[.int .i64 0, .int .i64 0] 27) := ⟨_, rfl⟩
  have hb2 : Below w1.heap.size w1 w2 := by rw [hw2]; exact (balloc w1 _).alloc (by simp) _
  have hB1 : Below w0.heap.size w0 w2 := bcat2 hb1 hb2
  have hF1 : Blk w2 (w1.heap.size + 1) 27 [.int .i64 0, .int .i64 0] := by
    rw [hw2]
    have := blk0 (w := w1.alloc (.cells #[.int .i64 n, .slice va vl vc, .int .i64 e, .slice ia il ic, .slice la ll lc, .slice na nl nc] 65)) (T := 27) (.int .i64 0) (.int .i64 0)
    rwa [World.size_alloc] at this
  have hO1 : Blk w2 w1.heap.size 65 [.int .i64 n, .slice va vl vc, .int .i64 e, .slice ia il ic, .slice la ll lc, .slice na nl nc] := by
    rw [hw2]
    have h : Blk (w1.alloc (.cells #[.int .i64 n, .slice va vl vc, .int .i64 e, .slice ia il ic, .slice la ll lc, .slice na nl nc] 65)) _ 65 [.int .i64 n, .slice va vl vc, .int .i64 e, .slice ia il ic, .slice la ll lc, .slice na nl nc] := World.alloc_heap_new _ _
    exact h.alloc _
  have hR1 := blk_below BG.res hB1
  have hBw := bcat BG.bel hB1 BG.bel.size
  have hL2 := hL.below hb2
  have hnv2 := hnv.below hb2
  have hu2 := hu.below hb2
  obtain ⟨_, y0, y1, fy0, fy1, s0, s1⟩ := Two.mk' hR1
  obtain ⟨t0, t1, _, _⟩ := hF1.two
  obtain ⟨_, o0, o1, o2, o3, o4, o5, _⟩ := Six.mk' hO1
  have hrl := rcs_len n (clq n zs e) n
  have hn := hg.tab.le
  obtain ⟨_, _, _, _, hle, _⟩ := hL2
  injection hle with e1 e2 e3
  subst e1 e2 e3
  clear hL
  generalize hrn : (rcs n (clq n zs e) n).length = rn at *
  have hmi : (24 : Int) < (rn : Int) := by omega
  obtain ⟨hR6, hB6⟩ := put2 hR1 hBw (by omega) 2 0
  rw [hw2] at t0 t1 o4 y0 y1 fy0 fy1 s0 s1
  go_wp2
  rw [← hw2]
  clear hw2
  generalize (w2.setCell ⟨w.heap.size + 1, 0, none⟩ (.int .i64 2)).setCell ⟨w.heap.size + 1, 1, none⟩ (.int .i64 0) = W at hR6 hB6 ⊢
  obtain ⟨z0, z1, _, _⟩ := hR6.two
  exact bodyPost_ret (v := .tuple #[.slice none 0 0, .agg #[.int .i64 2, .int .i64 0]]) (by simp [results, Tryd.results17, go_sem, z0, z1]) rfl ⟨rfl, hB6⟩
set_option maxRecDepth 100000 in
set_option maxHeartbeats 4000000 in
theorem tim_good (n e : Nat) (v : Value) (zs : List Int) (w : World) (hv : Sl w v zs) (hg : IsGrp n zs e) (hT : Tab w) (hfew : (rcs n (clq n zs e) n).length ≤ 24) :
    Calls Tryd.prog 17 #[.agg #[.int .i64 n, v]] w fun x w' => ∃ S, x = .returned (.tuple #[.slice (some ⟨S, 0, none⟩) (rcs n (clq n zs e) n).length (rcs n (clq n zs e) n).length, .agg #[.int .i64 0, .int .i64 0]]) ∧ Cub w' S (rcs n (clq n zs e) n).length (fun i j k => (tmk n zs e i j (lda n (clq n zs e) k) n : Nat)) ∧ Below w.heap.size w w' := by
  obtain ⟨va, vl, vc, rfl⟩ := hv.isSlice
  obtain ⟨w0, BG⟩ := Beg.new w n (.slice va vl vc)
  have HCK := hide (kop_good n e (.slice va vl vc) zs w0 (hv.below BG.bel) hg (hT.below BG.bel))
  obtain ⟨c0, c1, _, _⟩ := BG.box.two
  have hz0 : w.heap.size + 1 < w0.heap.size := BG.res.lt
  rw [BG.eq] at c0 c1
  go_enter Tryd.func17, Tryd.ntmps17
  go_wp2_with fail
  rw [← BG.eq]
  refine HCK.out.mono ?_
  rintro x w1 ⟨u, cv, nv, vs, rfl, hu, hrow, hls, hnv, hb1⟩
  obtain ⟨ia, il, ic, rfl⟩ := hu.isSlice
  obtain ⟨na, nl, nc, rfl⟩ := hnv.isSlice
  have h01 : 0 < w1.heap.size := Nat.lt_of_lt_of_le (hT.below BG.bel).lt hb1.size
  have hL := SlL.of_own hrow hls h01
  obtain ⟨la, ll, lc, rfl⟩ := hL.isSlice
  clear c0 c1 hrow hls
  obtain ⟨w2, hw2⟩ : ∃ w2, w2 = (w1.alloc (.cells #[.int .i64 n, .slice va vl vc, .int .i64 e, .slice ia il ic, .slice la ll lc, .slice na nl nc] 65)).alloc (.cells #[.int .i64 0, .int .i64 0] 27) := ⟨_, rfl⟩
  have hb2 : Below w1.heap.size w1 w2 := by rw [hw2]; exact (balloc w1 _).alloc (by simp) _
  have hB1 : Below w0.heap.size w0 w2 := bcat2 hb1 hb2
  have hF1 : Blk w2 (w1.heap.size + 1) 27 [.int .i64 0, .int .i64 0] := by
    rw [hw2]
    have := blk0 (w := w1.alloc (.cells #[.int .i64 n, .slice va vl vc, .int .i64 e, .slice ia il ic, .slice la ll lc, .slice na nl nc] 65)) (T := 27) (.int .i64 0) (.int .i64 0)
    rwa [World.size_alloc] at this
  have hO1 : Blk w2 w1.heap.size 65 [.int .i64 n, .slice va vl vc, .int .i64 e, .slice ia il ic, .slice la ll lc, .slice na nl nc] := by
    rw [hw2]
    have h : Blk (w1.alloc (.cells #[.int .i64 n, .slice va vl vc, .int .i64 e, .slice ia il ic, .slice la ll lc, .slice na nl nc] 65)) _ 65 [.int .i64 n, .slice va vl vc, .int .i64 e, .slice ia il ic, .slice la ll lc, .slice na nl nc] := World.alloc_heap_new _ _
    exact h.alloc _
  have hR1 := blk_below BG.res hB1
  have hBw := bcat BG.bel hB1 BG.bel.size
  have hL2 := hL.below hb2
  have hnv2 := hnv.below hb2
  have hu2 := hu.below hb2
  obtain ⟨_, y0, y1, fy0, fy1, s0, s1⟩ := Two.mk' hR1
  obtain ⟨t0, t1, _, _⟩ := hF1.two
  obtain ⟨_, o0, o1, o2, o3, o4, o5, _⟩ := Six.mk' hO1
  have hrl := rcs_len n (clq n zs e) n
  have hn := hg.tab.le
  have HTM := hide (tms_ok n e (.slice va vl vc) (.slice ia il ic) (.slice la ll lc) (.slice na nl nc) zs w2 hg (hv.below hBw) hu2 hL2 hnv2)
  obtain ⟨_, _, _, _, hle, _⟩ := hL2
  injection hle with e1 e2 e3
  subst e1 e2 e3
  clear hL
  generalize hrn : (rcs n (clq n zs e) n).length = rn at *
  have hmi : ¬ (24 : Int) < (rn : Int) := by omega
  rw [hw2] at t0 t1 o0 o1 o2 o3 o4 o5
  go_wp2_with fail
  rw [← hw2]
  clear hw2 t0 t1 o0 o1 o2 o3 o4 o5
  refine HTM.out.mono ?_
  rintro x w3 ⟨S, rfl, hC, hb3⟩
  obtain ⟨_, y0, y1, fy0, fy1, s0, s1⟩ := Two.mk' (blk_below hR1 hb3)
  go_wp2
  exact bodyPost_ret (v := .tuple #[.slice (some ⟨S, 0, none⟩) rn rn, .agg #[.int .i64 0, .int .i64 0]]) (by simp [results, Tryd.results17, go_sem, y0, y1]) rfl ⟨S, by rw [hrn], by rw [hrn]; exact hC, bcat2 hBw hb3⟩
end Go.Proofs.YtobnfbnholbfoaaDoor

namespace Go.Proofs.YtobnfbnholbfoaaDoor
open Go Go.RowKit Go.Maps

set_option maxRecDepth 100000 in
set_option maxHeartbeats 4000000 in
theorem cltim_bad (N : Int) (v : Value) (zs : List Int) (w : World) (hv : Sl w v zs) (hT : Tab w) (hb8 : zs.length * 8 ≤ 140737488355328) (hc : (gfault N zs).1 ≠ 0) :
    Calls Tryd.prog 4 #[.agg #[.int .i64 N, v]] w fun x w' => x = .returned (.bool true) ∧ Below w.heap.size w w' := by
  have hB0 : Below w.heap.size w (w.alloc (.cells #[.int .i64 N, v] 24)) := balloc w _
  have hX0 : BoxG (w.alloc (.cells #[.int .i64 N, v] 24)) w.heap.size N v := blk0 _ _
  obtain ⟨w0, hw0⟩ : ∃ w0, w0 = w.alloc (.cells #[.int .i64 N, v] 24) := ⟨_, rfl⟩
  rw [← hw0] at hB0 hX0
  obtain ⟨c0, c1, _, _⟩ := hX0.two
  rw [hw0] at c0 c1
  go_enter Tryd.func4, Tryd.ntmps4
  go_wp2_with fail
  rw [← hw0]
  clear hw0 c0 c1
  refine (ownGroup_any N v zs w0 (hv.below hB0) hb8).mono ?_
  rintro x w1 ⟨u, rfl, hu, hb1⟩
  have hT1 := hT.below (bcat2 hB0 hb1)
  go_wp2_with fail
  refine (tim_bad N u zs w1 hu hc).mono ?_
  rintro x w2 ⟨rfl, hb2⟩
  have HGF := hide (fun W (h : Below w.heap.size w W) => groupFault_any N v zs W (hv.below h))
  have hcb : ((gfault N zs).1 != 0) = true := by simpa using hc
  have hc0 : ¬ (gfault N zs).1 = 0 := hc
  generalize (gfault N zs).1 = c at *
  generalize (gfault N zs).2 = i at *
  have hb3 := balloc w2 (.cells #[.int .i64 c, .int .i64 i] 27)
  have hF3 := blk0 (w := w2) (T := 27) (.int .i64 c) (.int .i64 i)
  have hB3 := bcat2 (bcat2 (bcat2 hB0 hb1) hb2) hb3
  have hX3 := blk_below hX0 (bcat2 (bcat2 hb1 hb2) hb3)
  obtain ⟨c0, c1, _, _⟩ := hX3.two
  obtain ⟨t0, t1, _, _⟩ := hF3.two
  go_wp2_with fail
  generalize w2.alloc (.cells #[.int .i64 c, .int .i64 i] 27) = w3 at *
  clear c0 c1 t0 t1
  refine (HGF.out _ hB3).mono ?_
  rintro x w4 ⟨rfl, hb4⟩
  have hb5 := balloc w4 (.cells #[.int .i64 c, .int .i64 i] 27)
  have hF5 := blk0 (w := w4) (T := 27) (.int .i64 c) (.int .i64 i)
  have hB5 := bcat2 (bcat2 hB3 hb4) hb5
  have hX5 := blk_below hX3 (bcat2 hb4 hb5)
  have hG5 := blk_below hF3 (bcat2 hb4 hb5)
  obtain ⟨s0, s1, s2, s3⟩ := hF5.two
  obtain ⟨c0, c1, _, _⟩ := hX5.two
  go_wp2_with fail
  generalize w4.alloc (.cells #[.int .i64 c, .int .i64 i] 27) = w5 at *
  clear s0 s1 s2 s3 c0 c1
  refine (classBegun_any w5 (hT.below hB5)).mono ?_
  rintro x w6 ⟨rfl, hb6⟩
  obtain ⟨s0, s1, _, _⟩ := (blk_below hF5 hb6).two
  obtain ⟨t0, t1, _, _⟩ := (blk_below hG5 hb6).two
  go_wp2
  go_ret
  exact ⟨rfl, bcat2 hB5 hb6⟩
set_option maxRecDepth 100000 in
set_option maxHeartbeats 4000000 in
theorem cltim_many (n e : Nat) (v : Value) (zs : List Int) (w : World) (hv : Sl w v zs) (hT : Tab w) (hb8 : zs.length * 8 ≤ 140737488355328) (hg : IsGrp n zs e) (hmany : 24 < (rcs n (clq n zs e) n).length) :
    Calls Tryd.prog 4 #[.agg #[.int .i64 n, v]] w fun x w' => x = .returned (.bool true) ∧ Below w.heap.size w w' := by
  have hB0 : Below w.heap.size w (w.alloc (.cells #[.int .i64 n, v] 24)) := balloc w _
  have hX0 : BoxG (w.alloc (.cells #[.int .i64 n, v] 24)) w.heap.size n v := blk0 _ _
  obtain ⟨w0, hw0⟩ : ∃ w0, w0 = w.alloc (.cells #[.int .i64 n, v] 24) := ⟨_, rfl⟩
  rw [← hw0] at hB0 hX0
  obtain ⟨c0, c1, _, _⟩ := hX0.two
  rw [hw0] at c0 c1
  go_enter Tryd.func4, Tryd.ntmps4
  go_wp2_with fail
  rw [← hw0]
  clear hw0 c0 c1
  refine (ownGroup_any n v zs w0 (hv.below hB0) hb8).mono ?_
  rintro x w1 ⟨u, rfl, hu, hb1⟩
  have hT1 := hT.below (bcat2 hB0 hb1)
  go_wp2_with fail
  refine (tim_many n e u zs w1 hu hg hT1 hmany).mono ?_
  rintro x w2 ⟨rfl, hb2⟩
  have HGF := hide (fun W (h : Below w.heap.size w W) => groupFault_any n v zs W (hv.below h))
  rw [grp_fault hg] at HGF
  simp only at HGF
  have hb3 := balloc w2 (.cells #[.int .i64 2, .int .i64 0] 27)
  have hF3 := blk0 (w := w2) (T := 27) (.int .i64 2) (.int .i64 0)
  have hB3 := bcat2 (bcat2 (bcat2 hB0 hb1) hb2) hb3
  have hX3 := blk_below hX0 (bcat2 (bcat2 hb1 hb2) hb3)
  obtain ⟨c0, c1, _, _⟩ := hX3.two
  obtain ⟨t0, t1, _, _⟩ := hF3.two
  go_wp2_with fail
  generalize w2.alloc (.cells #[.int .i64 2, .int .i64 0] 27) = w3 at *
  clear c0 c1 t0 t1
  refine (HGF.out _ hB3).mono ?_
  rintro x w4 ⟨rfl, hb4⟩
  have hb5 := balloc w4 (.cells #[.int .i64 0, .int .i64 0] 27)
  have hF5 := blk0 (w := w4) (T := 27) (.int .i64 0) (.int .i64 0)
  have hB5 := bcat2 (bcat2 hB3 hb4) hb5
  have hX5 := blk_below hX3 (bcat2 hb4 hb5)
  have hG5 := blk_below hF3 (bcat2 hb4 hb5)
  obtain ⟨s0, s1, s2, s3⟩ := hF5.two
  obtain ⟨c0, c1, _, _⟩ := hX5.two
  go_wp2_with fail
  generalize w4.alloc (.cells #[.int .i64 0, .int .i64 0] 27) = w5 at *
  clear s0 s1 s2 s3 c0 c1
  refine (rcl_ok n e v zs w5 hg (hv.below hB5)).mono ?_
  rintro x w6 ⟨r, vs, rfl, hrow, hls, hb6⟩
  have hL := SlL.of_own hrow hls (Nat.lt_of_lt_of_le hT.lt (bcat2 hB5 hb6).size)
  obtain ⟨_, _, _, _, rfl, _⟩ := hL
  have hmi : (24 : Int) < ((rcs n (clq n zs e) n).length : Int) := by omega
  generalize (rcs n (clq n zs e) n).length = rn at *
  go_wp2_with fail
  refine (f_any 2 0 w6).mono ?_
  rintro x w7 ⟨rfl, hb7⟩
  have hb57 := bcat2 hb6 hb7
  have hB7 := bcat2 hB5 hb57
  have hF7 := blk_below hF5 hb57
  have hG7 := blk_below hG5 hb57
  obtain ⟨s0, s1, s2, s3⟩ := hF7.two
  obtain ⟨q0, q1⟩ := hF7.self
  have hfw : w.heap.size ≤ w4.heap.size := (bcat2 hB3 hb4).size
  have hgl := hG5.lt
  have hne : w2.heap.size ≠ w4.heap.size := by
    have := hF3.lt
    have := hb4.size
    omega
  obtain ⟨hF8, hB8⟩ := put2 hF7 hB7 hfw 2 0
  have hG8 := (hG7.other (p := ⟨w4.heap.size, 0, none⟩) hne (.int .i64 2)).other (p := ⟨w4.heap.size, 1, none⟩) hne (.int .i64 0)
  go_wp2_with fail
  generalize (w7.setCell ⟨w4.heap.size, 0, none⟩ (.int .i64 2)).setCell ⟨w4.heap.size, 1, none⟩ (.int .i64 0) = w8 at *
  refine (classBegun_any w8 (hT.below hB8)).mono ?_
  rintro x w9 ⟨rfl, hb9⟩
  clear s0 s1 s2 s3 q0 q1
  obtain ⟨s0, s1, _, _⟩ := (blk_below hF8 hb9).two
  obtain ⟨t0, t1, _, _⟩ := (blk_below hG8 hb9).two
  go_wp2
  go_ret
  exact ⟨rfl, bcat2 hB8 hb9⟩
/-- What a list of classes holds, cell by cell. -/
theorem cls_cells {n e m lb lo lc : Nat} {zs : List Int} {W : World} (g : IsGrp n zs e) (hL : SlL W (.slice (some ⟨lb, lo, none⟩) m lc) (rcs n (clq n zs e) n)) (hm : (rcs n (clq n zs e) n).length = m) (i : Nat) (hi : i < m) :
    ∃ qb qo qc, W.cell? ⟨lb, lo + i, none⟩ = some (.slice (some ⟨qb, qo, none⟩) (lst n (clq n zs e (lda n (clq n zs e) i))).length qc) ∧ 0 < (lst n (clq n zs e (lda n (clq n zs e) i))).length ∧ W.cell? ⟨qb, qo, none⟩ = some (.int .i64 (lda n (clq n zs e) i)) ∧ ∀ a (h : a < (lst n (clq n zs e (lda n (clq n zs e) i))).length), W.cell? ⟨qb, qo + a, none⟩ = some (.int .i64 ((lst n (clq n zs e (lda n (clq n zs e) i)))[a] : Nat)) := by
  obtain ⟨la, lcap, lb', lo', hle, hl1, hl2, _⟩ := hL
  injection hle with e1 e2 e3
  have hl1' := hl1 (by omega)
  rw [hl1'] at e1
  injection e1 with e1
  injection e1 with e4 e5
  subst e4 e5
  obtain ⟨h1, h2, h3, h4⟩ := lda_num (clq_parts g) (show i < (rcs n (clq n zs e) n).length by omega)
  obtain ⟨xx, cx, hSx⟩ := hl2 i (by omega)
  rw [h4, Option.getD_some] at hSx
  obtain ⟨qa, qc, qb, qo, rfl, hq, _⟩ := hSx
  have hp : 0 < (lst n (clq n zs e (lda n (clq n zs e) i))).length := List.length_pos_of_mem (mem_lst.2 ⟨h1, (clq_parts g).refl _ h1⟩)
  have hli : (li (lst n (clq n zs e (lda n (clq n zs e) i)))).length = (lst n (clq n zs e (lda n (clq n zs e) i))).length := by simp [li]
  obtain rfl := hq.at_ (by rw [hli]; exact hp)
  rw [li_len] at cx
  have hc : ∀ a (h : a < (lst n (clq n zs e (lda n (clq n zs e) i))).length), W.cell? ⟨qb, qo + a, none⟩ = some (.int .i64 ((lst n (clq n zs e (lda n (clq n zs e) i)))[a] : Nat)) := fun a h => by
    have := hq.cell a (by rw [hli]; exact h)
    rwa [li_get h] at this
  refine ⟨qb, qo, qc, cx, hp, ?_, hc⟩
  have h0 := hc 0 hp
  rw [Nat.add_zero] at h0
  rw [h0]
  congr 2
  have h5 : (lst n (clq n zs e (lda n (clq n zs e) i)))[0]? = some (lda n (clq n zs e) i) := by rw [← h3, List.head?_eq_getElem?]
  rw [List.getElem?_eq_getElem hp] at h5
  injection h5 with h5
  rw [h5]
/-- The document's count, while it is made. -/
def wnt (n : Nat) (zs : List Int) (xd : Nat → Nat) (K L : List Nat) (s : Nat) (M : List Nat) (t r c : Nat) : Int := ((cA n zs (xd c) K L + cB n zs s (xd c) M + if c < r ∧ tm n zs s t = xd c then 1 else 0 : Nat) : Int)
theorem wnt_zero (n : Nat) (zs : List Int) (xd : Nat → Nat) (K L : List Nat) (s : Nat) (M : List Nat) (t c : Nat) : wnt n zs xd K L s M t 0 c = ((cA n zs (xd c) K L + cB n zs s (xd c) M : Nat) : Int) := by
  unfold wnt
  rw [if_neg (fun h => absurd h.1 (Nat.not_lt_zero _)), Nat.add_zero]
theorem wnt_hit {n m : Nat} {zs : List Int} {xd : Nat → Nat} {K L : List Nat} {s : Nat} {M : List Nat} {t r : Nat} (h : tm n zs s t = xd r) : ((List.range m).map (wnt n zs xd K L s M t r)).set r (((cA n zs (xd r) K L + cB n zs s (xd r) M : Nat) : Int) + 1) = (List.range m).map (wnt n zs xd K L s M t (r + 1)) := by
  rw [map_set]
  refine List.map_congr_left fun c _ => ?_
  unfold wnt
  by_cases e : c = r
  · subst e
    rw [if_pos rfl, if_pos ⟨Nat.lt_succ_self _, h⟩]
    omega
  · rw [if_neg e]
    by_cases h2 : c < r ∧ tm n zs s t = xd c
    · rw [if_pos h2, if_pos ⟨by omega, h2.2⟩]
    · rw [if_neg h2, if_neg (fun h9 => h2 ⟨by omega, h9.2⟩)]
theorem wnt_miss {n m : Nat} {zs : List Int} {xd : Nat → Nat} {K L : List Nat} {s : Nat} {M : List Nat} {t r : Nat} (h : ¬ tm n zs s t = xd r) : (List.range m).map (wnt n zs xd K L s M t r) = (List.range m).map (wnt n zs xd K L s M t (r + 1)) := by
  refine List.map_congr_left fun c _ => ?_
  unfold wnt
  by_cases e : c = r
  · subst e
    rw [if_neg (fun h9 => h h9.2), if_neg (fun h9 => h h9.2)]
  · by_cases h2 : c < r ∧ tm n zs s t = xd c
    · rw [if_pos h2, if_pos ⟨by omega, h2.2⟩]
    · rw [if_neg h2, if_neg (fun h9 => h2 ⟨by omega, h9.2⟩)]
theorem wnt_all {n m : Nat} {zs : List Int} {xd : Nat → Nat} {K L : List Nat} {s : Nat} {M : List Nat} {t : Nat} : (List.range m).map (wnt n zs xd K L s M t m) = (List.range m).map (fun c => ((cA n zs (xd c) K L + cB n zs s (xd c) (M ++ [t]) : Nat) : Int)) := by
  refine List.map_congr_left fun c hc => ?_
  have hc := List.mem_range.1 hc
  unfold wnt
  rw [cB_snoc]
  by_cases h : tm n zs s t = xd c
  · rw [if_pos ⟨hc, h⟩, if_pos h]; omega
  · rw [if_neg (fun h9 => h h9.2), if_neg h, Nat.add_zero, Nat.add_zero]
theorem wnt_at {n m : Nat} {zs : List Int} {xd : Nat → Nat} {K L : List Nat} {s : Nat} {M : List Nat} {t r : Nat} (hr : r < m) : ((List.range m).map (wnt n zs xd K L s M t r))[r]?.getD 0 = ((cA n zs (xd r) K L + cB n zs s (xd r) M : Nat) : Int) := by
  rw [List.getElem?_map, List.getElem?_range hr]
  simp [wnt]
set_option maxRecDepth 100000 in
set_option maxHeartbeats 8000000 in
theorem cltim_good (n e : Nat) (v : Value) (zs : List Int) (w : World) (hv : Sl w v zs) (hT : Tab w) (hb8 : zs.length * 8 ≤ 140737488355328) (hg : IsGrp n zs e) (hfew : (rcs n (clq n zs e) n).length ≤ 24) :
    Calls Tryd.prog 4 #[.agg #[.int .i64 n, v]] w fun x w' => x = .returned (.bool true) ∧ Below w.heap.size w w' := by
  obtain ⟨j0, gi, gz0, gz1, gz2⟩ := info_parts info3b
  have hB0 : Below w.heap.size w (w.alloc (.cells #[.int .i64 n, v] 24)) := balloc w _
  have hX0 : BoxG (w.alloc (.cells #[.int .i64 n, v] 24)) w.heap.size n v := blk0 _ _
  obtain ⟨w0, hw0⟩ : ∃ w0, w0 = w.alloc (.cells #[.int .i64 n, v] 24) := ⟨_, rfl⟩
  rw [← hw0] at hB0 hX0
  obtain ⟨c0, c1, _, _⟩ := hX0.two
  rw [hw0] at c0 c1
  go_enter Tryd.func4, Tryd.ntmps4
  go_wp2_with fail
  rw [← hw0]
  clear hw0 c0 c1
  refine (ownGroup_any n v zs w0 (hv.below hB0) hb8).mono ?_
  rintro x w1 ⟨u, rfl, hu, hb1⟩
  have hT1 := hT.below (bcat2 hB0 hb1)
  go_wp2_with fail
  refine (tim_good n e u zs w1 hu hg hT1 hfew).mono ?_
  rintro x w2 ⟨S, rfl, hC2, hb2⟩
  have HGF := hide (fun W (h : Below w.heap.size w W) => groupFault_any n v zs W (hv.below h))
  rw [grp_fault hg] at HGF
  simp only at HGF
  have hb3 := balloc w2 (.cells #[.int .i64 0, .int .i64 0] 27)
  have hF3 := blk0 (w := w2) (T := 27) (.int .i64 0) (.int .i64 0)
  have hB3 := bcat2 (bcat2 (bcat2 hB0 hb1) hb2) hb3
  have hX3 := blk_below hX0 (bcat2 (bcat2 hb1 hb2) hb3)
  obtain ⟨c0, c1, _, _⟩ := hX3.two
  obtain ⟨t0, t1, _, _⟩ := hF3.two
  go_wp2_with fail
  generalize w2.alloc (.cells #[.int .i64 0, .int .i64 0] 27) = w3 at *
  clear c0 c1 t0 t1
  refine (HGF.out _ hB3).mono ?_
  rintro x w4 ⟨rfl, hb4⟩
  have hb5 := balloc w4 (.cells #[.int .i64 0, .int .i64 0] 27)
  have hF5 := blk0 (w := w4) (T := 27) (.int .i64 0) (.int .i64 0)
  have hB5 := bcat2 (bcat2 hB3 hb4) hb5
  have hX5 := blk_below hX3 (bcat2 hb4 hb5)
  have hG5 := blk_below hF3 (bcat2 hb4 hb5)
  obtain ⟨s0, s1, s2, s3⟩ := hF5.two
  obtain ⟨c0, c1, _, _⟩ := hX5.two
  have hC5 := hC2.below (bcat2 (bcat2 hb3 hb4) hb5)
  go_wp2_with fail
  generalize w4.alloc (.cells #[.int .i64 0, .int .i64 0] 27) = w5 at *
  clear s0 s1 s2 s3 c0 c1
  refine (rcl_ok n e v zs w5 hg (hv.below hB5)).mono ?_
  rintro x w6 ⟨r, vs, rfl, hrow, hls, hb6⟩
  have hL := SlL.of_own hrow hls (Nat.lt_of_lt_of_le hT.lt (bcat2 hB5 hb6).size)
  have hp0 : 0 < (rcs n (clq n zs e) n).length := Nat.lt_of_le_of_lt (Nat.zero_le _) (num_rcs (clq_parts hg) hg.tab.pos)
  obtain ⟨la, lc, lb, lo, hr9, hl1, _⟩ := id hL
  obtain rfl := hl1 hp0
  subst hr9
  have HCC := hide (cls_cells hg hL rfl)
  have HEQ := hide (fun i j (hi : i < (rcs n (clq n zs e) n).length) (hj : j < (rcs n (clq n zs e) n).length) => show (List.range (rcs n (clq n zs e) n).length).map (fun c => ((cA n zs (lda n (clq n zs e) c) (lst n (clq n zs e (lda n (clq n zs e) i))) (lst n (clq n zs e (lda n (clq n zs e) j))) : Nat) : Int)) = (List.range (rcs n (clq n zs e) n).length).map (fun c => ((tmk n zs e i j (lda n (clq n zs e) c) n : Nat) : Int)) from List.map_congr_left fun c hc => by
    rw [cA_tmk hg hi hj (lda_num (clq_parts hg) (List.mem_range.1 hc)).1])
  have HLT := hide (fun x a (h : a ∈ lst n (clq n zs e x)) => (mem_lst.1 h).1)
  have HLL := hide (fun x => lst_len n (clq n zs e x))
  have hmi : ¬ (24 : Int) < ((rcs n (clq n zs e) n).length : Int) := by omega
  have hn := hg.tab.le
  clear hl1 hL hrow hls
  generalize hm : (rcs n (clq n zs e) n).length = m at *
  generalize lda n (clq n zs e) = xd at *
  go_wp2_with fail
  refine (classBegun_any w6 (hT.below (bcat2 hB5 hb6))).mono ?_
  rintro x w7 ⟨rfl, hb7⟩
  have hb57 := bcat2 hb6 hb7
  have hB7 := bcat2 hB5 hb57
  have hX7 := blk_below hX5 hb57
  have hC7 := hC5.below hb57
  obtain ⟨s0, s1, _, _⟩ := (blk_below hF5 hb57).two
  obtain ⟨t0, t1, _, _⟩ := (blk_below hG5 hb57).two
  clear hC5 hX5 hF5 hG5 hC2 hX3 hF3 hu
  go_wp2
  clear s0 s1 t0 t1
  go_loopw [7] (fun i wr => ∃ k : Nat, k ≤ m ∧ i = .int .i64 k ∧ Below w7.heap.size w7 wr) (fun i _ => m - (intOf i).toNat)
  case atStart => exact ⟨0, Nat.zero_le _, rfl, Below.refl _ _⟩
  case round =>
    obtain ⟨i, hi9, rfl, hB⟩ := hrel
    by_cases hi : i < m
    · have hii : (i : Int) < (m : Int) := by omega
      have tc : wr.cell? ⟨S, i, none⟩ = some (.slice (some ⟨pos S m i 0, 0, none⟩) m m) := ((hC7.below hB).top.cell i).trans (hdL_at hi hi)
      obtain ⟨ib, io, ic, ci0, hi0, _, ci1⟩ := HCC.out i hi
      have HII := hide (fun W (h : Below w7.heap.size w7 W) => below_cell (bcat2 hb7 h) ci0)
      have HIC := hide (fun p (hp : p < (lst n (clq n zs e (xd i))).length) W (h : Below w7.heap.size w7 W) => below_cell (bcat2 hb7 h) (ci1 p hp))
      have hKl := HLL.out (xd i)
      have HKM := hide (HLT.out (xd i))
      have HEI := hide (fun j (hj : j < m) => HEQ.out i j hi hj)
      clear ci0 ci1
      generalize lst n (clq n zs e (xd i)) = K at *
      go_wp2
      clear tc
      go_loopw [8] (fun j wr => ∃ k : Nat, k ≤ m ∧ j = .int .i64 k ∧ Below w7.heap.size w7 wr) (fun j _ => m - (intOf j).toNat)
      case atStart => exact ⟨0, Nat.zero_le _, rfl, hB⟩
      case round =>
        clear hB
        obtain ⟨j, hj9, rfl, hB⟩ := hrel
        by_cases hj : j < m
        · have hji : (j : Int) < (m : Int) := by omega
          obtain ⟨jb, jo, jc, cj0, hj0, _, cj1⟩ := HCC.out j hj
          have HJJ := hide (fun W (h : Below w7.heap.size w7 W) => below_cell (bcat2 hb7 h) cj0)
          have HJC := hide (fun p (hp : p < (lst n (clq n zs e (xd j))).length) W (h : Below w7.heap.size w7 W) => below_cell (bcat2 hb7 h) (cj1 p hp))
          have hLl := HLL.out (xd j)
          have HLM := hide (HLT.out (xd j))
          have HEJ := hide (HEI.out j hj)
          clear cj0 cj1
          generalize lst n (clq n zs e (xd j)) = L at *
          obtain ⟨W0, rfl⟩ : ∃ W0, W0 = wr := ⟨_, rfl⟩
          have hW1 : Below W0.heap.size W0 (W0.alloc (.cells (madeCells #[.int .i64 0] m) 3)) := balloc W0 _
          have hWb1 : Blk (W0.alloc (.cells (madeCells #[.int .i64 0] m) 3)) W0.heap.size 3 (((List.range m).map fun c => ((cA n zs (xd c) (K.take 0) L : Nat) : Int)).map (Value.int .i64)) := by
            rw [show (List.range m).map (fun c => ((cA n zs (xd c) (K.take 0) L : Nat) : Int)) = List.replicate m 0 from by apply List.ext_getElem <;> simp [cA]]
            exact make_blk m W0
          go_wp2_with (first
            | (at_make; refine wpList_make_at _ rfl _ _ 22 rfl 3 j0 (.int .i64 0) under22b gi gz0 gz1 .i64 .i64 m rfl rfl (by rw [gz2]; omega) (by unfold maxLen; omega) ?_))
          generalize W0.alloc (.cells (madeCells #[.int .i64 0] m) 3) = W1 at *
          go_loopw [10] (fun a wr => ∃ p : Nat, p ≤ K.length ∧ a = .int .i64 p ∧ Blk wr W0.heap.size 3 (((List.range m).map fun c => ((cA n zs (xd c) (K.take p) L : Nat) : Int)).map (Value.int .i64)) ∧ Below W0.heap.size W0 wr) (fun a _ => K.length - (intOf a).toNat)
          case atStart => exact ⟨0, Nat.zero_le _, rfl, hWb1, hW1⟩
          case round =>
            clear hWb1 hW1
            obtain ⟨p, hp9, rfl, hWb, hBw⟩ := hrel
            have ci := HII.out _ (bcat2 hB hBw)
            by_cases hp : p < K.length
            · have hpi : (p : Int) < (K.length : Int) := by omega
              obtain ⟨s, hs⟩ : ∃ s, K[p] = s := ⟨_, rfl⟩
              have hsn : s < n := by rw [← hs]; exact HKM.out _ (List.getElem_mem hp)
              have HTK := hide (show K.take (p + 1) = K.take p ++ [s] by rw [List.take_succ_eq_append_getElem hp, hs])
              have HIP := hide (HIC.out p hp)
              rw [hs] at HIP
              clear hs
              have hWb2 : Blk wr W0.heap.size 3 (((List.range m).map fun c => ((cA n zs (xd c) (K.take p) L + cB n zs s (xd c) (L.take 0) : Nat) : Int)).map (Value.int .i64)) := by
                rw [show (List.range m).map (fun c => ((cA n zs (xd c) (K.take p) L + cB n zs s (xd c) (L.take 0) : Nat) : Int)) = (List.range m).map (fun c => ((cA n zs (xd c) (K.take p) L : Nat) : Int)) from List.map_congr_left fun c _ => by simp [cB]]
                exact hWb
              clear hWb
              go_wp2
              clear ci
              go_loopw [11] (fun b wr => ∃ q : Nat, q ≤ L.length ∧ b = .int .i64 q ∧ Blk wr W0.heap.size 3 (((List.range m).map fun c => ((cA n zs (xd c) (K.take p) L + cB n zs s (xd c) (L.take q) : Nat) : Int)).map (Value.int .i64)) ∧ Below W0.heap.size W0 wr) (fun b _ => L.length - (intOf b).toNat)
              case atStart => exact ⟨0, Nat.zero_le _, rfl, hWb2, hBw⟩
              case round =>
                clear hWb2 hBw
                obtain ⟨q, hq9, rfl, hWb, hBw⟩ := hrel
                have cj := HJJ.out _ (bcat2 hB hBw)
                by_cases hq : q < L.length
                · have hqi : (q : Int) < (L.length : Int) := by omega
                  obtain ⟨t, ht⟩ : ∃ t, L[q] = t := ⟨_, rfl⟩
                  have htn : t < n := by rw [← ht]; exact HLM.out _ (List.getElem_mem hq)
                  have HTL := hide (show L.take (q + 1) = L.take q ++ [t] by rw [List.take_succ_eq_append_getElem hq, ht])
                  have HJQ := hide (HJC.out q hq)
                  rw [ht] at HJQ
                  clear ht
                  have hWb2 : Blk wr W0.heap.size 3 (((List.range m).map (wnt n zs xd (K.take p) L s (L.take q) t 0)).map (Value.int .i64)) := by
                    rw [show (List.range m).map (wnt n zs xd (K.take p) L s (L.take q) t 0) = (List.range m).map (fun c => ((cA n zs (xd c) (K.take p) L + cB n zs s (xd c) (L.take q) : Nat) : Int)) from List.map_congr_left fun c _ => wnt_zero n zs xd (K.take p) L s (L.take q) t c]
                    exact hWb
                  clear hWb
                  go_wp2
                  clear cj
                  go_loopw [12] (fun c wr => ∃ r : Nat, r ≤ m ∧ c = .int .i64 r ∧ Blk wr W0.heap.size 3 (((List.range m).map (wnt n zs xd (K.take p) L s (L.take q) t r)).map (Value.int .i64)) ∧ Below W0.heap.size W0 wr) (fun c _ => m - (intOf c).toNat)
                  case atStart => exact ⟨0, Nat.zero_le _, rfl, hWb2, hBw⟩
                  case round =>
                    clear hWb2 hBw
                    obtain ⟨r, hr9, rfl, hWb, hBw⟩ := hrel
                    by_cases hr : r < m
                    · have hri : (r : Int) < (m : Int) := by omega
                      obtain ⟨rb, ro, rc, cr0, hr0, cr1, cr2⟩ := HCC.out r hr
                      clear cr2
                      have HM := hide (fun W (h : Below W0.heap.size W0 W) => M_ok n v zs s t W hg.tab (hv.below (bcat2 hB7 (bcat2 hB h))) hsn htn)
                      generalize (lst n (clq n zs e (xd r))).length = rl at *
                      have hS : ∀ W, Below W0.heap.size W0 W → (Below W0.heap.size W0 W ∧ W.cell? ⟨w.heap.size, 0, none⟩ = some (.int .i64 n) ∧ W.cell? ⟨w.heap.size, 1, none⟩ = some v ∧ W.cell? ⟨lb, lo + i, none⟩ = some (.slice (some ⟨ib, io, none⟩) K.length ic) ∧ W.cell? ⟨ib, io + p, none⟩ = some (.int .i64 s) ∧ W.cell? ⟨lb, lo + j, none⟩ = some (.slice (some ⟨jb, jo, none⟩) L.length jc) ∧ W.cell? ⟨jb, jo + q, none⟩ = some (.int .i64 t) ∧ W.cell? ⟨lb, lo + r, none⟩ = some (.slice (some ⟨rb, ro, none⟩) rl rc) ∧ W.cell? ⟨rb, ro, none⟩ = some (.int .i64 (xd r))) := fun W h => by
                        have hw := bcat2 hB h
                        obtain ⟨c0, c1, _, _⟩ := (blk_below hX7 hw).two
                        exact ⟨h, c0, c1, HII.out _ hw, HIP.out _ hw, HJJ.out _ hw, HJQ.out _ hw, below_cell (bcat2 hb7 hw) cr0, below_cell (bcat2 hb7 hw) cr1⟩
                      clear cr0 cr1
                      have hcA := cA_le n zs (xd r) (K.take p) L
                      have hcA2 : (K.take p).length * L.length ≤ 60 * 60 := Nat.mul_le_mul (by rw [List.length_take]; omega) (by omega)
                      have hcB := cB_le n zs s (xd r) (L.take q)
                      have hcB2 : (L.take q).length ≤ 60 := by rw [List.length_take]; omega
                      have hBc : Below W0.heap.size W0 wr.drew := bdrew hBw
                      replace hWb : Blk wr.drew W0.heap.size 3 _ := hWb
                      go_wp2_with fail
                      go_cut [117] (fun s117 wx => s117 = .bool (((tm n zs s t : Nat) : Int) == ((xd r : Nat) : Int)) ∧ Blk wx W0.heap.size 3 (((List.range m).map (wnt n zs xd (K.take p) L s (L.take q) t r)).map (Value.int .i64)) ∧ Below W0.heap.size W0 wx)
                      case first =>
                        refine wp_region_held_drew (S := fun W => Below W0.heap.size W0 W ∧ W.cell? ⟨w.heap.size, 0, none⟩ = some (.int .i64 n) ∧ W.cell? ⟨w.heap.size, 1, none⟩ = some v ∧ W.cell? ⟨lb, lo + i, none⟩ = some (.slice (some ⟨ib, io, none⟩) K.length ic) ∧ W.cell? ⟨ib, io + p, none⟩ = some (.int .i64 s) ∧ W.cell? ⟨lb, lo + j, none⟩ = some (.slice (some ⟨jb, jo, none⟩) L.length jc) ∧ W.cell? ⟨jb, jo + q, none⟩ = some (.int .i64 t) ∧ W.cell? ⟨lb, lo + r, none⟩ = some (.slice (some ⟨rb, ro, none⟩) rl rc) ∧ W.cell? ⟨rb, ro, none⟩ = some (.int .i64 (xd r))) (by kernel_rfl) (hS _ hBc) (fun hHeld => ?_)
                        generalize wr.drew = wd at *
                        refine wpAnyH_take (i := 0) (oi := ({ dst := some 95, op := Go.Op.load 24 (Go.Operand.tmp 1), type := 24, pos := _, after := _, guard := none } : Oper)) (v := ?_) rfl (by kernel_rfl) (by kernel_rfl) (by kernel_rfl) (fun _ _ _ h => h) (Or.inl ⟨by rfl, ?_⟩) (by assumption) ?_
                        rotate_left
                        · (intro w hSw; (try dsimp only at hSw); go_simp; try with_reducible rfl)
                        simp only [Act.put, List.setIfInBounds_toArray, List.set_cons_zero, List.set_cons_succ]
                        refine wpAnyH_take (i := 1) (oi := ({ dst := some 96, op := Go.Op.move (Go.Operand.tmp 6), type := 25, pos := _, after := _, guard := none } : Oper)) (v := ?_) rfl (by kernel_rfl) (by kernel_rfl) (by kernel_rfl) (fun _ _ _ h => h) (Or.inl ⟨by rfl, ?_⟩) (by assumption) ?_
                        rotate_left
                        · (intro w hSw; (try dsimp only at hSw); go_simp; try with_reducible rfl)
                        simp only [Act.put, List.setIfInBounds_toArray, List.set_cons_zero, List.set_cons_succ]
                        refine wpAnyH_take (i := 2) (oi := ({ dst := some 97, op := Go.Op.move (Go.Operand.tmp 7), type := 3, pos := _, after := _, guard := none } : Oper)) (v := ?_) rfl (by kernel_rfl) (by kernel_rfl) (by kernel_rfl) (fun _ _ _ h => h) (Or.inl ⟨by rfl, ?_⟩) (by assumption) ?_
                        rotate_left
                        · (intro w hSw; (try dsimp only at hSw); go_simp; try with_reducible rfl)
                        simp only [Act.put, List.setIfInBounds_toArray, List.set_cons_zero, List.set_cons_succ]
                        refine wpAnyH_take (i := 3) (oi := ({ dst := some 98, op := Go.Op.indexAddr 25 (Go.Operand.tmp 96) (Go.Operand.tmp 97), type := 0, pos := _, after := _, guard := none } : Oper)) (v := ?_) rfl (by kernel_rfl) (by kernel_rfl) (by kernel_rfl) (fun _ _ _ h => h) (Or.inl ⟨by rfl, ?_⟩) (by assumption) ?_
                        rotate_left
                        · (intro w hSw; (try dsimp only at hSw); go_simp; try with_reducible rfl)
                        simp only [Act.put, List.setIfInBounds_toArray, List.set_cons_zero, List.set_cons_succ]
                        refine wpAnyH_take (i := 4) (oi := ({ dst := some 99, op := Go.Op.load 22 (Go.Operand.tmp 98), type := 22, pos := _, after := _, guard := none } : Oper)) (v := ?_) rfl (by kernel_rfl) (by kernel_rfl) (by kernel_rfl) (fun _ _ _ h => h) (Or.inl ⟨by rfl, ?_⟩) (by assumption) ?_
                        rotate_left
                        · (intro w hSw; (try dsimp only at hSw); go_simp; try with_reducible rfl)
                        simp only [Act.put, List.setIfInBounds_toArray, List.set_cons_zero, List.set_cons_succ]
                        refine wpAnyH_take (i := 5) (oi := ({ dst := some 100, op := Go.Op.move (Go.Operand.tmp 10), type := 3, pos := _, after := _, guard := none } : Oper)) (v := ?_) rfl (by kernel_rfl) (by kernel_rfl) (by kernel_rfl) (fun _ _ _ h => h) (Or.inl ⟨by rfl, ?_⟩) (by assumption) ?_
                        rotate_left
                        · (intro w hSw; (try dsimp only at hSw); go_simp; try with_reducible rfl)
                        simp only [Act.put, List.setIfInBounds_toArray, List.set_cons_zero, List.set_cons_succ]
                        refine wpAnyH_take (i := 6) (oi := ({ dst := some 101, op := Go.Op.indexAddr 22 (Go.Operand.tmp 99) (Go.Operand.tmp 100), type := 0, pos := _, after := _, guard := none } : Oper)) (v := ?_) rfl (by kernel_rfl) (by kernel_rfl) (by kernel_rfl) (fun _ _ _ h => h) (Or.inl ⟨by rfl, ?_⟩) (by assumption) ?_
                        rotate_left
                        · (intro w hSw; (try dsimp only at hSw); go_simp; try with_reducible rfl)
                        simp only [Act.put, List.setIfInBounds_toArray, List.set_cons_zero, List.set_cons_succ]
                        refine wpAnyH_take (i := 7) (oi := ({ dst := some 102, op := Go.Op.load 3 (Go.Operand.tmp 101), type := 3, pos := _, after := _, guard := none } : Oper)) (v := ?_) rfl (by kernel_rfl) (by kernel_rfl) (by kernel_rfl) (fun _ _ _ h => h) (Or.inl ⟨by rfl, ?_⟩) (by assumption) ?_
                        rotate_left
                        · (intro w hSw; (try dsimp only at hSw); go_simp; try with_reducible rfl)
                        simp only [Act.put, List.setIfInBounds_toArray, List.set_cons_zero, List.set_cons_succ]
                        refine wpAnyH_take (i := 8) (oi := ({ dst := some 103, op := Go.Op.move (Go.Operand.tmp 6), type := 25, pos := _, after := _, guard := none } : Oper)) (v := ?_) rfl (by kernel_rfl) (by kernel_rfl) (by kernel_rfl) (fun _ _ _ h => h) (Or.inl ⟨by rfl, ?_⟩) (by assumption) ?_
                        rotate_left
                        · (intro w hSw; (try dsimp only at hSw); go_simp; try with_reducible rfl)
                        simp only [Act.put, List.setIfInBounds_toArray, List.set_cons_zero, List.set_cons_succ]
                        refine wpAnyH_take (i := 9) (oi := ({ dst := some 104, op := Go.Op.move (Go.Operand.tmp 8), type := 3, pos := _, after := _, guard := none } : Oper)) (v := ?_) rfl (by kernel_rfl) (by kernel_rfl) (by kernel_rfl) (fun _ _ _ h => h) (Or.inl ⟨by rfl, ?_⟩) (by assumption) ?_
                        rotate_left
                        · (intro w hSw; (try dsimp only at hSw); go_simp; try with_reducible rfl)
                        simp only [Act.put, List.setIfInBounds_toArray, List.set_cons_zero, List.set_cons_succ]
                        refine wpAnyH_take (i := 10) (oi := ({ dst := some 105, op := Go.Op.indexAddr 25 (Go.Operand.tmp 103) (Go.Operand.tmp 104), type := 0, pos := _, after := _, guard := none } : Oper)) (v := ?_) rfl (by kernel_rfl) (by kernel_rfl) (by kernel_rfl) (fun _ _ _ h => h) (Or.inl ⟨by rfl, ?_⟩) (by assumption) ?_
                        rotate_left
                        · (intro w hSw; (try dsimp only at hSw); go_simp; try with_reducible rfl)
                        simp only [Act.put, List.setIfInBounds_toArray, List.set_cons_zero, List.set_cons_succ]
                        refine wpAnyH_take (i := 11) (oi := ({ dst := some 106, op := Go.Op.load 22 (Go.Operand.tmp 105), type := 22, pos := _, after := _, guard := none } : Oper)) (v := ?_) rfl (by kernel_rfl) (by kernel_rfl) (by kernel_rfl) (fun _ _ _ h => h) (Or.inl ⟨by rfl, ?_⟩) (by assumption) ?_
                        rotate_left
                        · (intro w hSw; (try dsimp only at hSw); go_simp; try with_reducible rfl)
                        simp only [Act.put, List.setIfInBounds_toArray, List.set_cons_zero, List.set_cons_succ]
                        refine wpAnyH_take (i := 12) (oi := ({ dst := some 107, op := Go.Op.move (Go.Operand.tmp 11), type := 3, pos := _, after := _, guard := none } : Oper)) (v := ?_) rfl (by kernel_rfl) (by kernel_rfl) (by kernel_rfl) (fun _ _ _ h => h) (Or.inl ⟨by rfl, ?_⟩) (by assumption) ?_
                        rotate_left
                        · (intro w hSw; (try dsimp only at hSw); go_simp; try with_reducible rfl)
                        simp only [Act.put, List.setIfInBounds_toArray, List.set_cons_zero, List.set_cons_succ]
                        refine wpAnyH_take (i := 13) (oi := ({ dst := some 108, op := Go.Op.indexAddr 22 (Go.Operand.tmp 106) (Go.Operand.tmp 107), type := 0, pos := _, after := _, guard := none } : Oper)) (v := ?_) rfl (by kernel_rfl) (by kernel_rfl) (by kernel_rfl) (fun _ _ _ h => h) (Or.inl ⟨by rfl, ?_⟩) (by assumption) ?_
                        rotate_left
                        · (intro w hSw; (try dsimp only at hSw); go_simp; try with_reducible rfl)
                        simp only [Act.put, List.setIfInBounds_toArray, List.set_cons_zero, List.set_cons_succ]
                        refine wpAnyH_take (i := 14) (oi := ({ dst := some 109, op := Go.Op.load 3 (Go.Operand.tmp 108), type := 3, pos := _, after := _, guard := none } : Oper)) (v := ?_) rfl (by kernel_rfl) (by kernel_rfl) (by kernel_rfl) (fun _ _ _ h => h) (Or.inl ⟨by rfl, ?_⟩) (by assumption) ?_
                        rotate_left
                        · (intro w hSw; (try dsimp only at hSw); go_simp; try with_reducible rfl)
                        simp only [Act.put, List.setIfInBounds_toArray, List.set_cons_zero, List.set_cons_succ]
                        refine wpAnyH_take (i := 16) (oi := ({ dst := some 111, op := Go.Op.move (Go.Operand.tmp 6), type := 25, pos := _, after := _, guard := none } : Oper)) (v := ?_) rfl (by kernel_rfl) (by kernel_rfl) (by kernel_rfl) (fun _ _ _ h => h) (Or.inl ⟨by rfl, ?_⟩) (by assumption) ?_
                        rotate_left
                        · (intro w hSw; (try dsimp only at hSw); go_simp; try with_reducible rfl)
                        simp only [Act.put, List.setIfInBounds_toArray, List.set_cons_zero, List.set_cons_succ]
                        refine wpAnyH_take (i := 17) (oi := ({ dst := some 112, op := Go.Op.move (Go.Operand.tmp 12), type := 3, pos := _, after := _, guard := none } : Oper)) (v := ?_) rfl (by kernel_rfl) (by kernel_rfl) (by kernel_rfl) (fun _ _ _ h => h) (Or.inl ⟨by rfl, ?_⟩) (by assumption) ?_
                        rotate_left
                        · (intro w hSw; (try dsimp only at hSw); go_simp; try with_reducible rfl)
                        simp only [Act.put, List.setIfInBounds_toArray, List.set_cons_zero, List.set_cons_succ]
                        refine wpAnyH_take (i := 18) (oi := ({ dst := some 113, op := Go.Op.indexAddr 25 (Go.Operand.tmp 111) (Go.Operand.tmp 112), type := 0, pos := _, after := _, guard := none } : Oper)) (v := ?_) rfl (by kernel_rfl) (by kernel_rfl) (by kernel_rfl) (fun _ _ _ h => h) (Or.inl ⟨by rfl, ?_⟩) (by assumption) ?_
                        rotate_left
                        · (intro w hSw; (try dsimp only at hSw); go_simp; try with_reducible rfl)
                        simp only [Act.put, List.setIfInBounds_toArray, List.set_cons_zero, List.set_cons_succ]
                        refine wpAnyH_take (i := 19) (oi := ({ dst := some 114, op := Go.Op.load 22 (Go.Operand.tmp 113), type := 22, pos := _, after := _, guard := none } : Oper)) (v := ?_) rfl (by kernel_rfl) (by kernel_rfl) (by kernel_rfl) (fun _ _ _ h => h) (Or.inl ⟨by rfl, ?_⟩) (by assumption) ?_
                        rotate_left
                        · (intro w hSw; (try dsimp only at hSw); go_simp; try with_reducible rfl)
                        simp only [Act.put, List.setIfInBounds_toArray, List.set_cons_zero, List.set_cons_succ]
                        refine wpAnyH_take (i := 20) (oi := ({ dst := some 115, op := Go.Op.indexAddr 22 (Go.Operand.tmp 114) (Go.Operand.const (Go.Value.int Go.IntKind.i64 0)), type := 0, pos := _, after := _, guard := none } : Oper)) (v := ?_) rfl (by kernel_rfl) (by kernel_rfl) (by kernel_rfl) (fun _ _ _ h => h) (Or.inl ⟨by rfl, ?_⟩) (by assumption) ?_
                        rotate_left
                        · (intro w hSw; (try dsimp only at hSw); go_simp; try with_reducible rfl)
                        simp only [Act.put, List.setIfInBounds_toArray, List.set_cons_zero, List.set_cons_succ]
                        refine wpAnyH_take (i := 21) (oi := ({ dst := some 116, op := Go.Op.load 3 (Go.Operand.tmp 115), type := 3, pos := _, after := _, guard := none } : Oper)) (v := ?_) rfl (by kernel_rfl) (by kernel_rfl) (by kernel_rfl) (fun _ _ _ h => h) (Or.inl ⟨by rfl, ?_⟩) (by assumption) ?_
                        rotate_left
                        · (intro w hSw; (try dsimp only at hSw); go_simp; try with_reducible rfl)
                        simp only [Act.put, List.setIfInBounds_toArray, List.set_cons_zero, List.set_cons_succ]
                        refine wpAnyH_ready (rs := [15]) (by kernel_rfl) (by simp) (AllReadyH.cons (o := ({ dst := some 110, op := Go.Op.call { callee := Go.Callee.value (Go.Operand.func 19), args := #[Go.Operand.tmp 95, Go.Operand.tmp 102, Go.Operand.tmp 109], argTypes := #[24, 3, 3] }, type := 3, pos := _, after := _, guard := none } : Oper)) rfl (fun KK hK => ?_) AllReadyH.nil)
                        go_simp
                        refine (HM.out _ hBc).mono ?_
                        rintro x1 W1 ⟨rfl, hl1⟩
                        replace hBc := bcat2 hBc hl1
                        replace hWb := blk_below hWb hl1
                        try go_wp2_with fail
                        refine hK.out _ _ (hS _ hBc) (fun hHeld => ?_)
                        clear hK
                        try simp only [Act.put, List.setIfInBounds_toArray, List.set_cons_zero, List.set_cons_succ]
                        refine wpAnyH_take (i := 22) (oi := ({ dst := some 117, op := Go.Op.binOp Go.BinOp.eql 3 (Go.Operand.tmp 110) (Go.Operand.tmp 116) 3, type := 4, pos := _, after := _, guard := none } : Oper)) (v := ?_) rfl (by kernel_rfl) (by kernel_rfl) (by kernel_rfl) (fun _ _ _ h => h) (Or.inl ⟨by rfl, ?_⟩) (by assumption) ?_
                        rotate_left
                        · (intro w hSw; (try dsimp only at hSw); go_simp; try with_reducible rfl)
                        simp only [Act.put, List.setIfInBounds_toArray, List.set_cons_zero, List.set_cons_succ]
                        refine wpAnyH_done (by kernel_rfl) ?_ _
                        go_wp2
                        go_meet
                        exact ⟨rfl, hWb, hBc⟩
                      case rest =>
                        clear hWb hBc hBw
                        obtain ⟨rfl, hWb, hBw⟩ := hcut
                        by_cases htt : tm n zs s t = xd r
                        · have hbt2 : (((tm n zs s t : Nat) : Int) == ((xd r : Nat) : Int)) = true := by rw [htt]; simp
                          rw [hbt2]
                          clear hbt2
                          have wc9 := hWb.int (y := r) (by simp; exact hr)
                          rw [wnt_at hr] at wc9
                          have wf9 := hWb.frozen r
                          have HN := hide (hWb.setInt r (((cA n zs (xd r) (K.take p) L + cB n zs s (xd r) (L.take q) : Nat) : Int) + 1))
                          rw [wnt_hit htt] at HN
                          have hB9 := hBw.setCell (p := ⟨W0.heap.size, r, none⟩) (Nat.le_refl _) (.int .i64 (((cA n zs (xd r) (K.take p) L + cB n zs s (xd r) (L.take q) : Nat) : Int) + 1))
                          have hX9 : cA n zs (xd r) (K.take p) L + cB n zs s (xd r) (L.take q) ≤ 3660 := by omega
                          clear htt hWb hcA hcB
                          generalize cA n zs (xd r) (K.take p) L + cB n zs s (xd r) (L.take q) = X at *
                          go_wp2
                          go_roundw
                          case rel => exact ⟨r + 1, by omega, by go_num, HN.out, hB9⟩
                          case measure => simp [intOf]; omega
                        · have hbt2 : (((tm n zs s t : Nat) : Int) == ((xd r : Nat) : Int)) = false := by rw [beq_eq_false_iff_ne]; omega
                          rw [hbt2]
                          clear hbt2
                          rw [wnt_miss htt] at hWb
                          go_wp2
                          go_roundw
                          case rel => exact ⟨r + 1, by omega, by go_num, hWb, hBw⟩
                          case measure => simp [intOf]; omega
                    · have hri : ¬ (r : Int) < (m : Int) := by omega
                      obtain rfl : r = m := by omega
                      rw [wnt_all, ← HTL.out] at hWb
                      go_wp2
                      go_roundw
                      case rel => exact ⟨q + 1, by omega, by go_num, hWb, hBw⟩
                      case measure => simp [intOf]; omega
                · have hqi : ¬ (q : Int) < (L.length : Int) := by omega
                  obtain rfl : q = L.length := by omega
                  rw [List.take_length] at hWb
                  have hWb2 : Blk wr W0.heap.size 3 (((List.range m).map fun c => ((cA n zs (xd c) (K.take (p + 1)) L : Nat) : Int)).map (Value.int .i64)) := by
                    rw [HTK.out, show (List.range m).map (fun c => ((cA n zs (xd c) (K.take p ++ [s]) L : Nat) : Int)) = (List.range m).map (fun c => ((cA n zs (xd c) (K.take p) L + cB n zs s (xd c) L : Nat) : Int)) from List.map_congr_left fun c _ => by rw [cA_snoc]]
                    exact hWb
                  go_wp2
                  go_roundw
                  case rel => exact ⟨p + 1, by omega, by go_num, hWb2, hBw⟩
                  case measure => simp [intOf]; omega
            · have hpi : ¬ (p : Int) < (K.length : Int) := by omega
              obtain rfl : p = K.length := by omega
              rw [List.take_length, HEJ.out] at hWb
              have hBB := bcat2 hB hBw
              have hCr := hC7.below hBB
              have tc : wr.cell? ⟨S, i, none⟩ = some (.slice (some ⟨pos S m i 0, 0, none⟩) m m) := (hCr.top.cell i).trans (hdL_at hi hi)
              have rc : wr.cell? ⟨pos S m i 0, j, none⟩ = some (.slice (some ⟨pos S m i (j + 1), 0, none⟩) m m) := ((hCr.row i hi).row.cell j).trans (hdL_at hj hj)
              have HIA := hide (ints_any (.slice (some ⟨pos S m i (j + 1), 0, none⟩) m m) (.slice (some ⟨W0.heap.size, 0, none⟩) m m) _ _ wr (Sl.of_blk ((hCr.row i hi).cel j hj) (by simp) (by simp; omega)) (Sl.of_blk hWb (by simp) (by simp; omega)))
              rw [decide_eq_true rfl] at HIA
              go_wp2_with fail
              refine HIA.out.mono ?_
              rintro x9 w9 ⟨rfl, hb9⟩
              go_wp2
              go_roundw
              case rel => exact ⟨j + 1, by omega, by go_num, bcat2 hBB hb9⟩
              case measure => simp [intOf]; omega
        · have hji : ¬ (j : Int) < (m : Int) := by omega
          go_wp2
          go_roundw
          case rel => exact ⟨i + 1, by omega, by go_num, hB⟩
          case measure => simp [intOf]; omega
    · have hii : ¬ (i : Int) < (m : Int) := by omega
      go_wp2
      go_ret
      exact ⟨rfl, bcat2 hB7 hB⟩
theorem cltim_law (N : Int) (v : Value) (zs : List Int) (w : World) (hv : Sl w v zs) (hT : Tab w) (hb8 : zs.length * 8 ≤ 140737488355328) :
    Calls Tryd.prog 4 #[.agg #[.int .i64 N, v]] w fun x w' => x = .returned (.bool true) ∧ Below w.heap.size w w' := by
  by_cases hc : (gfault N zs).1 = 0
  · obtain ⟨n, e, rfl, hg, _⟩ := gfault_grp hc
    by_cases hm : 24 < (rcs n (clq n zs e) n).length
    · exact cltim_many n e v zs w hv hT hb8 hg hm
    · exact cltim_good n e v zs w hv hT hb8 hg (by omega)
  · exact cltim_bad N v zs w hv hT hb8 hc
end Go.Proofs.YtobnfbnholbfoaaDoor

namespace Go.Proofs.YtobnfbnholbfoaaDoor
open Go.ChangeShapes Go.WideShapes Go.ChangeAt Go.RowKit

theorem own : ownKnob Tryd.prog.godebug = none := by kernel_rfl
theorem laidOut : laidOutB Tryd.prog = true := by kernel_rfl

/-- A slice of ints that reads as zs; where nothing is in it, nothing is told of the memory. -/
def SlA (w : World) (v : Value) (zs : List Int) : Prop := ∃ a cap pb po, v = .slice a zs.length cap ∧ Reads w a pb po zs ∧ (0 < zs.length → pb < w.heap.size) ∧ zs.length ≤ cap ∧ cap ≤ maxLen
theorem SlA.up {w w' : World} {v : Value} {zs : List Int} (h : SlA w v zs) (hb : Below w.heap.size w w') (h0 : 0 < w'.heap.size) : Sl w' v zs := by
  obtain ⟨a, cap, pb, po, hv, hr, hp, h1, h2⟩ := h
  rcases Nat.eq_zero_or_pos zs.length with hz | hz
  · exact ⟨a, cap, 0, 0, hv, ⟨fun h => by omega, fun j hj => by omega⟩, h0, h1, h2⟩
  · exact ⟨a, cap, pb, po, hv, hr.below hb (hp hz), Nat.lt_of_lt_of_le (hp hz) hb.size, h1, h2⟩
theorem SlA.of {w : World} {v : Value} {zs : List Int} (h : Sl w v zs) : SlA w v zs := by
  obtain ⟨a, cap, pb, po, hv, hr, hp, h1, h2⟩ := h
  exact ⟨a, cap, pb, po, hv, hr, fun _ => hp, h1, h2⟩

theorem und24 : ∃ f0 f1 : Field, Tryd.prog.underlying 24 = some (.struct #[f0, f1]) ∧ f0.type = 3 ∧ f1.type = 22 ∧ f0.offset = 0 ∧ f1.offset = 1 := ⟨_, _, Tryd.underlying24, rfl, rfl, rfl, rfl⟩
theorem und3 : Tryd.prog.underlying 3 = some (.int .i64) := by kernel_rfl
theorem und22 : Tryd.prog.underlying 22 = some (.slice 3) := by kernel_rfl
theorem und4 : Tryd.prog.underlying 4 = some .bool := by kernel_rfl

set_option maxRecDepth 100000 in
/-- What is told of a table that came in. -/
theorem open_group {H : Type} {enc : TypeId × Value → H} {W : World} {b0 : Nat} {v : Value} {d : DataW H} {ps : List MemPlace} (hval : Value.okWide Tryd.prog W .any b0 24 v)
    (hd : DataW.Trod enc Tryd.prog W 0 (fun _ => true) true 24 v d ps) :
    ∃ N u zs, v = .agg #[.int .i64 N, u] ∧ SlA W u zs ∧ (Lit.int .i64 N).wf = true ∧ ((d.weights Tryd.prog 24).all (· ≤ reachBytes) = true → zs.length * 8 ≤ 140737488355328) := by
  obtain ⟨f0, f1, hu, ht0, ht1, ho0, ho1⟩ := und24
  obtain ⟨cs, rfl, hsz⟩ := okWide_struct hu hval
  rw [show Tryd.prog.cellsOf 24 = 2 by kernel_rfl] at hsz
  obtain ⟨l⟩ := cs
  match l, hsz with
  | [c0, c1], _ =>
  obtain ⟨fuel, hf⟩ := hd
  obtain ⟨y0, y1, m, hx, _, hy0, hy1⟩ := trod_struct2 hu hf
  rw [ht0, ho0, show Tryd.prog.cellsOf 3 = 1 by kernel_rfl] at hy0
  rw [ht1, ho1, show Tryd.prog.cellsOf 22 = 1 by kernel_rfl] at hy1
  obtain ⟨N, e0, rfl, wN⟩ := DataW.trod_int und3 hy0
  simp [Value.cells] at e0
  subst e0
  simp [Value.cells] at hy1
  rcases open_ints und22 und3 (by kernel_rfl) hy1 with ⟨hcs, _⟩ | ⟨x, l, c, zs, hcs, _, hl, hm, hz, heq, hcell, hwz⟩
  · simp at hcs
    subst hcs
    exact ⟨N, _, [], rfl, ⟨none, 0, 0, 0, rfl, ⟨by simp, by simp⟩, by simp, by simp, by unfold maxLen; omega⟩, wN, fun _ => by simp⟩
  · simp at hcs
    subst hcs
    have hzc : zs.length = c := by simpa using hz
    have hlen : (zs.take l).length = l := by rw [List.length_take]; omega
    refine ⟨N, _, zs.take l, rfl, ?_, wN, fun hw => ?_⟩
    · by_cases hpos : 0 < c
      · obtain ⟨b, o, rfl, hc'⟩ := ints_at hcell (by omega)
        refine ⟨some ⟨b, o, none⟩, c, b, o, by rw [hlen], ⟨fun _ => rfl, fun j hj => ?_⟩, fun _ => World.block_lt_of_cell? W _ (hc' 0 (by omega)), by omega, hm⟩
        rw [hlen] at hj
        rw [hc' j (by omega), List.getElem?_take, if_pos hj, List.getD_eq_getElem?_getD]
      · have : l = 0 := by omega
        subst this
        exact ⟨some x, c, 0, 0, by simp, ⟨by simp, by simp⟩, by simp, by simp, hm⟩
    · have hd : d = .agg [.lit (.int .i64 N), .slice (lits .i64 (zs.take l)) (lits .i64 (zs.drop l))] := by
        have h1 := congrArg Prod.fst hx
        simp only [heq] at h1
        exact h1
      have hw2 := List.all_eq_true.1 hw (((lits (H := H) .i64 (zs.take l)).length + (lits (H := H) .i64 (zs.drop l)).length) * Tryd.prog.bytesOf 3) (by
        rw [hd]; simp [DataW.weights, DataW.weightsEach, hu, ht0, ht1])
      rw [show Tryd.prog.bytesOf 3 = 8 by kernel_rfl] at hw2
      simp only [lits, List.length_map, decide_eq_true_eq] at hw2
      unfold reachBytes at hw2
      omega
end Go.Proofs.YtobnfbnholbfoaaDoor

namespace Go.Proofs.YtobnfbnholbfoaaDoor
open Go.ChangeShapes Go.WideShapes Go.ChangeAt Go.RowKit

/-- What the rows list. -/
def laid1 : List (String × DataW Unit) := Rows.classAllRow.laid
def tabZ : List Int := Lib.deBruijn64tab.map fun (x : Nat) => (x : Int)
theorem tab_data : (Rows.laid_math_bits_deBruijn64tab : DataW Unit) = Lib.tabData .u8 tabZ := by kernel_rfl
/-- The door's own heap meets the condition. -/
theorem door_met (os : Os) (args : Array Value) : laidMetH Tryd.prog laid1 ((World.doorLaid Tryd.prog 400 os).forCall (fun _ _ => 0) ⟨#[], args, []⟩).memory :=
  laidMetH_of_parts3 (fuel := 8) (laidMet_of_run' 8 (by kernel_rfl) (by kernel_rfl)) (by kernel_rfl) (by kernel_rfl)
theorem tab_of_laid {W : World} (h : laidMetH Tryd.prog laid1 W) : Tab W := by
  rw [MakeChecks.laidMetH_plain _ _ _ (by kernel_rfl)] at h
  have h2 : laidMet Tryd.prog [("math/bits.deBruijn64tab", (Rows.laid_math_bits_deBruijn64tab : DataW Unit))] W := h
  rw [tab_data] at h2
  have hg : Tryd.prog.globalNamed "math/bits.deBruijn64tab" = some 0 := by kernel_rfl
  have hT := Lib.tabIs_of_head hg (t := 108) (e := 5) (n := 64) (by kernel_rfl) (by kernel_rfl) (by kernel_rfl) (by kernel_rfl) (by kernel_rfl) h2
  intro j hj
  have hj' : j < tabZ.length := by simpa [tabZ] using hj
  have hc := hT.cell hg j hj'
  rw [hc]
  simp [tabZ, hj]
set_option maxRecDepth 100000 in
/-- A list of ints that came in: its value, what it reads as, and its size. -/
theorem open_list {H : Type} {enc : TypeId × Value → H} {W : World} {b0 : Nat} {v : Value} {d : DataW H} {ps : List MemPlace} (hval : Value.okWide Tryd.prog W .any b0 22 v)
    (hd : DataW.Trod enc Tryd.prog W 0 (fun _ => true) true 22 v d ps) (h0 : 0 < W.heap.size) :
    ∃ zs, Sl W v zs ∧ ((d.weights Tryd.prog 22).all (· ≤ reachBytes) = true → zs.length * 8 ≤ 140737488355328) := by
  obtain ⟨a, len, cap, rfl⟩ := okWide_slice und22 hval
  obtain ⟨fuel, hf⟩ := hd
  rcases open_ints und22 und3 (by kernel_rfl) hf with ⟨hcs, _⟩ | ⟨x, l, c, zs, hcs, _, hl, hm, hz, heq, hcell, hwz⟩
  · simp [Value.cells] at hcs
    obtain ⟨rfl, rfl, rfl⟩ := hcs
    exact ⟨[], Sl.nil h0, fun _ => by simp⟩
  · simp [Value.cells] at hcs
    obtain ⟨rfl, rfl, rfl⟩ := hcs
    have hzc : zs.length = cap := by simpa using hz
    have hlen : (zs.take len).length = len := by rw [List.length_take]; omega
    refine ⟨zs.take len, ?_, fun hw => ?_⟩
    · by_cases hpos : 0 < cap
      · obtain ⟨b, o, rfl, hc'⟩ := ints_at hcell (by omega)
        refine ⟨some ⟨b, o, none⟩, cap, b, o, by rw [hlen], ⟨fun _ => rfl, fun j hj => ?_⟩, World.block_lt_of_cell? W _ (hc' 0 (by omega)), by omega, hm⟩
        rw [hlen] at hj
        rw [hc' j (by omega), List.getElem?_take, if_pos hj, List.getD_eq_getElem?_getD]
      · have : len = 0 := by omega
        subst this
        exact ⟨some x, cap, 0, 0, by simp, ⟨by simp, by simp⟩, h0, by simp, hm⟩
    · simp only [Prod.mk.injEq] at heq
      have hw2 := List.all_eq_true.1 hw (((lits (H := H) .i64 (zs.take len)).length + (lits (H := H) .i64 (zs.drop len)).length) * Tryd.prog.bytesOf 3) (by
        rw [heq.1]; simp [DataW.weights])
      rw [show Tryd.prog.bytesOf 3 = 8 by kernel_rfl] at hw2
      simp only [lits, List.length_map, decide_eq_true_eq] at hw2
      unfold reachBytes at hw2
      omega
end Go.Proofs.YtobnfbnholbfoaaDoor
