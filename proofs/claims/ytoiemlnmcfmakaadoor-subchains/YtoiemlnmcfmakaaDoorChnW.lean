/- What the law SubChains answers: true, at every table and every list. Condition: the library's table of places lies as its text lays it. -/
import Derived.Test.YtoiemlnmcfmakaaDoorChnM
import Derived.Deep.DeepCutAuto
namespace Go.Proofs.YtoiemlnmcfmakaaDoor
open Go Go.RowKit

set_option maxRecDepth 100000 in
set_option maxHeartbeats 4000000 in
theorem chains_bad (N : Int) (v u : Value) (zs l : List Int) (w : World) (hv : Sl w v zs) (hu : Sl w u l) (hT : Tab w) (hc : (sfault N zs l).1 ≠ 0) :
    Calls Tryd.prog 8 #[.agg #[.int .i64 N, v], u] w fun x w' => x = .returned (.bool true) ∧ Below w.heap.size w w' := by
  have hB0 : Below w.heap.size w (w.alloc (.cells #[.int .i64 N, v] 24)) := balloc w _
  have hX0 : BoxG (w.alloc (.cells #[.int .i64 N, v] 24)) w.heap.size N v := blk0 _ _
  obtain ⟨w0, hw0⟩ : ∃ w0, w0 = w.alloc (.cells #[.int .i64 N, v] 24) := ⟨_, rfl⟩
  rw [← hw0] at hB0 hX0
  have HST := hide (subBegun_any w0 (hT.below hB0))
  have HM := hide (fun W (h : Below w.heap.size w W) => mde_bad N v u zs l W (hv.below h) (hu.below h) hc)
  obtain ⟨c, i, hci⟩ : ∃ c i, sfault N zs l = (c, i) := ⟨_, _, rfl⟩
  rw [hci] at HM hc
  simp only at HM hc
  clear hci
  have hcb : (c != 0) = true := by simpa using hc
  go_enter Tryd.func8, Tryd.ntmps8
  go_wp2_with fail
  rw [← hw0]
  clear hw0
  refine HST.out.mono ?_
  rintro x w1 ⟨rfl, hb1⟩
  have hB1 := bcat2 hB0 hb1
  have hX1 := blk_below hX0 hb1
  obtain ⟨c0, c1, _, _⟩ := hX1.two
  go_wp2_with fail
  clear c0 c1
  refine (HM.out w1 hB1).mono ?_
  rintro x w2 ⟨rfl, hb2⟩
  have hF := blk0 (w := w2) (T := 28) (.int .i64 c) (.int .i64 i)
  have hb3 := bcat2 hb2 (balloc w2 (.cells #[.int .i64 c, .int .i64 i] 28))
  obtain ⟨t0, t1, _, _⟩ := hF.two
  go_wp2
  go_ret
  exact ⟨rfl, bcat2 hB1 hb3⟩

/-- What lies behind a question whether a subgroup is normal. -/
def NRel (w5 : World) (s17 s18 : Value) (W : World) : Prop := ∃ fb, s17 = .bool true ∧ s18 = .pointer (some ⟨fb, 0, none⟩) ∧ Blk W fb 28 [.int .i64 0, .int .i64 0] ∧ Below w5.heap.size w5 W
theorem blkd2 {w : World} {T : TypeId} {o : Obj} (x y : Value) : Blk ((w.alloc (.cells #[x, y] T)).alloc o).drew w.heap.size T [x, y] := (blk0 (w := w) x y).alloc o
theorem blkd3 {w : World} {T : TypeId} {o : Obj} (x y : Value) : Blk ((w.alloc o).alloc (.cells #[x, y] T)).drew (w.heap.size + 1) T [x, y] := by
  have := blk0 (w := w.alloc o) (T := T) x y
  rwa [World.size_alloc] at this
theorem blk4a {w : World} {T : TypeId} {o : Obj} (a b c d : Value) : Blk ((w.alloc o).alloc (.cells #[a, b, c, d] T)) (w.heap.size + 1) T [a, b, c, d] := by
  have := blk4 (w := w.alloc o) (T := T) a b c d
  rwa [World.size_alloc] at this
set_option maxRecDepth 100000 in
set_option maxHeartbeats 40000000 in
theorem chains_good (n e : Nat) (v u : Value) (zs l : List Int) (w : World) (hv : Sl w v zs) (hg : IsGrp n zs e) (hu : Sl w u l) (hT : Tab w) (hl : lfault n l = (0, 0)) :
    Calls Tryd.prog 8 #[.agg #[.int .i64 n, v], u] w fun x w' => x = .returned (.bool true) ∧ Below w.heap.size w w' := by
  have hn := hg.tab.le
  have hF := grp_fg hg
  have hV := grp_iv hg
  obtain ⟨p, hp⟩ := mkd_test n zs e (pset l)
  obtain ⟨q, hq⟩ : ∃ q, q = pset (li (lst n p)) := ⟨_, rfl⟩
  have hsT : subT n zs e q = true := by rw [hq]; exact sg_test hg (made_sg hg hp) (fun a ha => Iff.rfl)
  have hlq : lst n p = lst n q := by rw [hq, lst_pset]
  have S := subT_iff.1 hsT
  obtain ⟨pk, hk⟩ := mkd_test n zs e (cloq n zs e q n)
  obtain ⟨pd, hd⟩ := mkd_test n zs e (cmq n zs e (List.range n) (List.range n))
  obtain ⟨m1, m2, m3⟩ := chain_math hg S hk
  have kc : ∀ a, a < n → (corq n zs e q n a = true ↔ _) := fun a ha => cor_iff hg ha
  have kk : ∀ a, a < n → (pk a = true ↔ _) := fun a ha => (hk a ha).trans (mkd_clo a)
  have kz : ∀ a, a < n → (cenq n zs (fun _ => true) a = true ↔ _) := fun a _ => cen_iff a
  have kd : ∀ a, a < n → (pd a = true ↔ _) := fun a ha => (hd a ha).trans (cms_iff a)
  have HNc := hide (fun W x (h : Below w.heap.size w W) (hx : Sl W x (li (lst n (corq n zs e q n)))) => nrm_good n e v x zs _ W (hv.below h) hg hx (hT.below h) (lst_fault n _) (sg_test hg (Fin.core_sg hF hV S) kc))
  have HNk := hide (fun W x (h : Below w.heap.size w W) (hx : Sl W x (li (lst n pk))) => nrm_good n e v x zs _ W (hv.below h) hg hx (hT.below h) (lst_fault n _) (sg_test hg (Fin.Gen.sg _) kk))
  have HNz := hide (fun W x (h : Below w.heap.size w W) (hx : Sl W x (li (lst n (cenq n zs fun _ => true)))) => nrm_good n e v x zs _ W (hv.below h) hg hx (hT.below h) (lst_fault n _) (sg_test hg (Fin.cen_sg hF) kz))
  have HNd := hide (fun W x (h : Below w.heap.size w W) (hx : Sl W x (li (lst n pd))) => nrm_good n e v x zs _ W (hv.below h) hg hx (hT.below h) (lst_fault n _) (sg_test hg (Fin.Gen.sg _) kd))
  rw [nm_test hg (Fin.core_nm hF hV) kc] at HNc
  rw [nm_test hg (Fin.clos_nm hF hV) kk] at HNk
  rw [nm_test hg (Fin.cen_nm hF hV) kz] at HNz
  rw [nm_test hg (Fin.der_nm hF hV) kd] at HNd
  have P1 := hide (part_lst (n := n) (p := corq n zs e q n) (q := q) fun a ha h => Fin.core_in hF hV (List.mem_range.2 ha) ((kc a ha).1 h))
  have P2 := hide (part_lst (n := n) (p := q) (q := norq n zs e q) fun a ha h => (nor_iff a).2 (Fin.nor_sub hF hV S (List.mem_range.2 ha) h))
  have P3 := hide (part_lst (n := n) (p := q) (q := pk) fun a ha h => (kk a ha).2 (Fin.clos_has hF hV (List.mem_range.2 ha) h))
  have P4 := hide (part_lst (n := n) (p := cenq n zs fun _ => true) (q := norq n zs e q) fun a ha h => (nor_iff a).2 (Fin.cen_nor hF hV (List.mem_range.2 ha) ((kz a ha).1 h)))
  have hsq : subT n zs e (pset (li (lst n q))) = true := sg_test hg S (fun a ha => Iff.rfl)
  have hpq : pset (li (lst n q)) = q := by rw [← hlq]; exact hq.symm
  have HM := hide (fun W (h : Below w.heap.size w W) => mde_good n e v u zs l p W (hv.below h) hg (hu.below h) (hT.below h) hl hp)
  rw [hlq] at HM
  have HC := hide (fun W x (h : Below w.heap.size w W) (hx : Sl W x (li (lst n q))) => core_good n e v x zs _ W (hv.below h) hg hx (hT.below h) (lst_fault n q) hsq)
  have HN := hide (fun W x (h : Below w.heap.size w W) (hx : Sl W x (li (lst n q))) => nor_good n e v x zs _ W (hv.below h) hg hx (hT.below h) (lst_fault n q) hsq)
  have HK := hide (fun W x (h : Below w.heap.size w W) (hx : Sl W x (li (lst n q))) => clo_good n e v x zs _ pk W (hv.below h) hg hx (hT.below h) (lst_fault n q) (by rw [hpq]; exact hk))
  have HZ := hide (fun W (h : Below w.heap.size w W) => centre_good n e v zs W (hv.below h) hg (hT.below h))
  have HNs := hide (fun W x (h : Below w.heap.size w W) (hx : Sl W x (li (lst n q))) => nrm_good n e v x zs _ W (hv.below h) hg hx (hT.below h) (lst_fault n q) hsq)
  rw [hpq] at HC HN HNs
  have HS := hide (fun W (h : Below w.heap.size w W) => stays_sl n W hn (hT.below h).lt)
  have HD := hide (fun W r1 r2 (h : Below w.heap.size w W) (h1 : Sl W r1 (li (List.range n))) (h2 : Sl W r2 (li (List.range n))) => comm_good n e v r1 r2 zs (li (List.range n)) (li (List.range n)) pd W (hv.below h) hg h1 (hT.below h) (full_fault n) h2 (full_fault n) (by rw [full_pset]; exact hd))
  have M1 := hide m1
  have M2 := hide m2
  have M3 := hide m3
  clear m1 m2 m3 kc kk kz kd hsT hsq hpq hq hl hlq S hk hd hp
  have hB0 : Below w.heap.size w (w.alloc (.cells #[.int .i64 n, v] 24)) := balloc w _
  have hX0 : BoxG (w.alloc (.cells #[.int .i64 n, v] 24)) w.heap.size n v := blk0 _ _
  obtain ⟨w0, hw0⟩ : ∃ w0, w0 = w.alloc (.cells #[.int .i64 n, v] 24) := ⟨_, rfl⟩
  rw [← hw0] at hB0 hX0
  have HST := hide (subBegun_any w0 (hT.below hB0))
  go_enter Tryd.func8, Tryd.ntmps8
  go_wp2_with fail
  rw [← hw0]
  clear hw0
  refine HST.out.mono ?_
  rintro x w1 ⟨rfl, hb1⟩
  have hB1 := bcat2 hB0 hb1
  have hX1 := blk_below hX0 hb1
  obtain ⟨c0, c1, _, _⟩ := hX1.two
  go_wp2_with fail
  clear c0 c1
  refine (HM.out w1 hB1).mono ?_
  rintro x w2 ⟨s9, rfl, hs9, hb2⟩
  have hs := hs9.sl
  clear hs9
  obtain ⟨s1, s2, s3, rfl⟩ := hs.isSlice
  have hF3 := blk0 (w := w2) (T := 28) (.int .i64 0) (.int .i64 0)
  have hb3 := bcat2 hb2 (balloc w2 (.cells #[.int .i64 0, .int .i64 0] 28))
  have hB3 := bcat2 hB1 hb3
  have hX3 := blk_below hX1 hb3
  have hs := hs.below (balloc w2 (.cells #[.int .i64 0, .int .i64 0] 28))
  obtain ⟨t0, t1, _, _⟩ := hF3.two
  obtain ⟨c0, c1, _, _⟩ := hX3.two
  go_wp2_with fail
  clear c0 c1 t0 t1
  generalize w2.alloc (.cells #[.int .i64 0, .int .i64 0] 28) = w3 at *
  refine (HC.out w3 _ hB3 hs).mono ?_
  rintro x w4 ⟨c9, rfl, hc9, hb4⟩
  have hc := hc9.sl
  clear hc9
  obtain ⟨c1, c2, c3, rfl⟩ := hc.isSlice
  have hb5 := bcat2 hb4 (balloc w4 (.cells #[.int .i64 0, .int .i64 0] 28))
  have hB5 := bcat2 hB3 hb5
  have hX5 := blk_below hX3 hb5
  have hc := hc.below (balloc w4 (.cells #[.int .i64 0, .int .i64 0] 28))
  have hs := hs.below hb5
  have hF3 := blk_below hF3 hb5
  have hF5 := blk0 (w := w4) (T := 28) (.int .i64 0) (.int .i64 0)
  obtain ⟨c0, c1, _, _⟩ := hX5.two
  go_wp2_with fail
  clear c0 c1
  generalize w4.alloc (.cells #[.int .i64 0, .int .i64 0] 28) = w5 at *
  refine (HN.out w5 _ hB5 hs).mono ?_
  rintro x w6 ⟨m9, rfl, hm9, hb6⟩
  have hm := hm9.sl
  obtain ⟨m1, m3, _, _, rfl, _⟩ := hm9
  rw [li_len] at hm ⊢
  have hb7 := bcat2 hb6 (balloc w6 (.cells #[.int .i64 0, .int .i64 0] 28))
  have hB7 := bcat2 hB5 hb7
  have hX7 := blk_below hX5 hb7
  have hm := hm.below (balloc w6 (.cells #[.int .i64 0, .int .i64 0] 28))
  have hs := hs.below hb7
  have hc := hc.below hb7
  have hF3 := blk_below hF3 hb7
  have hF5 := blk_below hF5 hb7
  have hF7 := blk0 (w := w6) (T := 28) (.int .i64 0) (.int .i64 0)
  obtain ⟨c0, c1, _, _⟩ := hX7.two
  go_wp2_with fail
  clear c0 c1
  generalize w6.alloc (.cells #[.int .i64 0, .int .i64 0] 28) = w7 at *
  refine (HK.out w7 _ hB7 hs).mono ?_
  rintro x w8 ⟨k9, rfl, hk9, hb8⟩
  have hk := hk9.sl
  clear hk9
  obtain ⟨k1, k2, k3, rfl⟩ := hk.isSlice
  have hb9 := bcat2 hb8 (balloc w8 (.cells #[.int .i64 0, .int .i64 0] 28))
  have hB9 := bcat2 hB7 hb9
  have hX9 := blk_below hX7 hb9
  have hk := hk.below (balloc w8 (.cells #[.int .i64 0, .int .i64 0] 28))
  have hs := hs.below hb9
  have hc := hc.below hb9
  have hm := hm.below hb9
  have hF3 := blk_below hF3 hb9
  have hF5 := blk_below hF5 hb9
  have hF7 := blk_below hF7 hb9
  have hF9 := blk0 (w := w8) (T := 28) (.int .i64 0) (.int .i64 0)
  obtain ⟨c0, c1, _, _⟩ := hX9.two
  go_wp2_with fail
  clear c0 c1
  generalize w8.alloc (.cells #[.int .i64 0, .int .i64 0] 28) = w9 at *
  refine (HZ.out w9 hB9).mono ?_
  rintro x w10 ⟨z9, rfl, hz9, hb10⟩
  have hz := hz9.sl
  clear hz9
  obtain ⟨z1, z2, z3, rfl⟩ := hz.isSlice
  have hb11 := bcat2 hb10 (balloc w10 (.cells #[.int .i64 0, .int .i64 0] 28))
  have hB11 := bcat2 hB9 hb11
  have hX11 := blk_below hX9 hb11
  have hz := hz.below (balloc w10 (.cells #[.int .i64 0, .int .i64 0] 28))
  have hs := hs.below hb11
  have hc := hc.below hb11
  have hm := hm.below hb11
  have hk := hk.below hb11
  have hF3 := blk_below hF3 hb11
  have hF5 := blk_below hF5 hb11
  have hF7 := blk_below hF7 hb11
  have hF9 := blk_below hF9 hb11
  have hF11 := blk0 (w := w10) (T := 28) (.int .i64 0) (.int .i64 0)
  obtain ⟨c0, c1, _, _⟩ := hX11.two
  obtain ⟨f30, f31, _, _⟩ := hF3.two
  obtain ⟨f50, f51, _, _⟩ := hF5.two
  obtain ⟨f70, f71, _, _⟩ := hF7.two
  obtain ⟨f90, f91, _, _⟩ := hF9.two
  obtain ⟨f110, f111, _, _⟩ := hF11.two
  go_wp2_with fail
  generalize w10.alloc (.cells #[.int .i64 0, .int .i64 0] 28) = w11 at *
  have Q1 := hide (parted_ok _ _ _ _ w11 hc hs)
  have Q2 := hide (parted_ok _ _ _ _ w11 hs hm)
  have Q3 := hide (parted_ok _ _ _ _ w11 hs hk)
  have Q4 := hide (parted_ok _ _ _ _ w11 hz hm)
  rw [P1.out] at Q1
  rw [P2.out] at Q2
  rw [P3.out] at Q3
  rw [P4.out] at Q4
  refine Q1.out.mono ?_
  rintro x y ⟨rfl, rfl⟩
  go_wp2_with fail
  refine Q2.out.mono ?_
  rintro x y ⟨rfl, rfl⟩
  go_wp2_with fail
  refine Q3.out.mono ?_
  rintro x y ⟨rfl, rfl⟩
  go_wp2_with fail
  refine Q4.out.mono ?_
  rintro x w11 ⟨rfl, rfl⟩
  go_wp2_with fail
  clear c0 c1 f30 f31 f50 f51 f70 f71 f90 f91 f110 f111
  have hS : ∀ W, Below w11.heap.size w11 W → (Below w11.heap.size w11 W ∧ W.cell? ⟨w.heap.size, 0, none⟩ = some (.int .i64 n) ∧ W.cell? ⟨w.heap.size, 1, none⟩ = some v ∧ W.cell? ⟨w2.heap.size, 0, none⟩ = some (.int .i64 0) ∧ W.cell? ⟨w2.heap.size, 1, none⟩ = some (.int .i64 0) ∧ W.frozen? ⟨w2.heap.size, 0, none⟩ = false ∧ W.frozen? ⟨w2.heap.size, 1, none⟩ = false ∧ W.setCell ⟨w2.heap.size, 0, none⟩ (.int .i64 0) = W ∧ W.setCell ⟨w2.heap.size, 1, none⟩ (.int .i64 0) = W) := fun W h => by
    obtain ⟨_, y0, y1, fy0, fy1, s0, s1⟩ := Two.mk' (blk_below hF3 h)
    obtain ⟨c0, c1, _, _⟩ := (blk_below hX11 h).two
    exact ⟨h, c0, c1, y0, y1, fy0, fy1, s0, s1⟩
  have hS0 := hS _ (bdrew (Below.refl _ w11))
  have hmark : Hid True := trivial
  go_region_held3 (fun W => Below w11.heap.size w11 W ∧ W.cell? ⟨w.heap.size, 0, none⟩ = some (.int .i64 n) ∧ W.cell? ⟨w.heap.size, 1, none⟩ = some v ∧ W.cell? ⟨w2.heap.size, 0, none⟩ = some (.int .i64 0) ∧ W.cell? ⟨w2.heap.size, 1, none⟩ = some (.int .i64 0) ∧ W.frozen? ⟨w2.heap.size, 0, none⟩ = false ∧ W.frozen? ⟨w2.heap.size, 1, none⟩ = false ∧ W.setCell ⟨w2.heap.size, 0, none⟩ (.int .i64 0) = W ∧ W.setCell ⟨w2.heap.size, 1, none⟩ (.int .i64 0) = W)
    (first | exact hS0 | assumption | exact hS _ (bcat2 (And.left ‹_›) hl1))
    (first
      | (go_at_call 63; clear hmark; refine (HS.out _ (bcat2 hB11 (And.left ‹_›))).mono ?_; rintro e1 W1 ⟨r1, rfl, hr1, hl1⟩)
      | (go_at_call 63; refine (HS.out _ (bcat2 hB11 (And.left ‹_›))).mono ?_; rintro e2 W2 ⟨r2, rfl, hr2, hl1⟩; have hr3 := hr1.below hl1)
      | (go_at_call 29; refine (HD.out _ r1 r2 (bcat2 hB11 (And.left ‹_›)) hr3 hr2).mono ?_; rintro e3 W3 ⟨d, rfl, hd, hl1⟩))
  obtain ⟨hb12, c0, c1, y0, y1, _⟩ := ‹Below w11.heap.size w11 W3 ∧ _›
  have hd := hd.sl
  obtain ⟨d1, d2, d3, rfl⟩ := hd.isSlice
  have hB12 := bcat2 hB11 hb12
  have hX12 := blk_below hX11 hb12
  have hF12 := blk_below hF3 hb12
  have hs := hs.below hb12
  have hc := hc.below hb12
  have hm := hm.below hb12
  have hk := hk.below hb12
  have hz := hz.below hb12
  clear hS hS0
  go_wp2
  clear c0 c1 y0 y1
  go_loopw [16] (fun i wr => ∃ k : Nat, k ≤ 4 ∧ i = .int .i64 k ∧ Below W3.heap.size W3 wr) (fun i _ => 4 - (intOf i).toNat)
  case atStart => exact ⟨0, by omega, rfl, Below.refl _ _⟩
  case round =>
    obtain ⟨k, hk4, rfl, hB⟩ := hrel
    have hBw := bcat2 hB12 hB
    obtain ⟨c0, c1, _, _⟩ := (blk_below hX12 hB).two
    by_cases hlt : k < 4
    · have hS : ∀ W, Below wr.heap.size wr W → (Below wr.heap.size wr W ∧ W.cell? ⟨w.heap.size, 0, none⟩ = some (.int .i64 n) ∧ W.cell? ⟨w.heap.size, 1, none⟩ = some v) := fun W h => ⟨h, below_cell h c0, below_cell h c1⟩
      have hS0 := hS _ (bdrew (Below.refl _ wr))
      have hss := set_same
      have hwl : w.heap.size < wr.heap.size := (blk_below hX12 hB).lt
      have hwn : ¬ w.heap.size = wr.heap.size := by omega
      have hwn2 : ¬ w.heap.size = wr.heap.size + 1 := by omega
      have hk03 : k = 0 ∨ k = 1 ∨ k = 2 ∨ k = 3 := by omega
      rcases hk03 with rfl | rfl | rfl | rfl
      · go_wp2_with fail
        go_cut [17, 18] (fun s17 s18 wx => NRel wr s17 s18 wx)
        case first =>
          go_region_with (first
              | (go_at_call 43; refine (HNc.out _ _ (bcat2 hBw (by first | exact bdrew (balloc _ _) | exact bdrew ((balloc _ _).alloc (by simp) _))) ((hc.below hB).below (by first | exact bdrew (balloc _ _) | exact bdrew ((balloc _ _).alloc (by simp) _)))).mono ?_; rintro e2 U2 ⟨rfl, hl1⟩; have hl2 := hl1; have hU2 : Below wr.heap.size wr U2 := bcat2 (by first | exact bdrew (balloc _ _) | exact bdrew ((balloc _ _).alloc (by simp) _)) hl1; have hp2 := cell_eq hl1; have hq2 := frozen_eq hl1))
          all_goals (go_wp2; go_meet)
          all_goals (refine ⟨_, rfl, rfl, ?_, ?_⟩)
          all_goals (first
            | exact hU2
            | exact bcat2 hU2 (balloc _ _)
            | exact blk0 _ _
            | exact blk_below (blkd2 _ _) hl2
            | exact blk_below (blkd3 _ _) hl2)
        case rest =>
          obtain ⟨fb, rfl, rfl, hFx, hbx⟩ := hcut
          obtain ⟨f0, f1, _, _⟩ := hFx.two
          go_wp2
          go_roundw
          case rel => exact ⟨0 + 1, by omega, by go_num, bcat2 hB hbx⟩
          case measure => simp [intOf]
      · go_wp2_with fail
        go_cut [17, 18] (fun s17 s18 wx => NRel wr s17 s18 wx)
        case first =>
          go_region_with (first
              | (go_at_call 43; refine (HNk.out _ _ (bcat2 hBw (by first | exact bdrew (balloc _ _) | exact bdrew ((balloc _ _).alloc (by simp) _))) ((hk.below hB).below (by first | exact bdrew (balloc _ _) | exact bdrew ((balloc _ _).alloc (by simp) _)))).mono ?_; rintro e2 U2 ⟨rfl, hl1⟩; have hl2 := hl1; have hU2 : Below wr.heap.size wr U2 := bcat2 (by first | exact bdrew (balloc _ _) | exact bdrew ((balloc _ _).alloc (by simp) _)) hl1; have hp2 := cell_eq hl1; have hq2 := frozen_eq hl1))
          all_goals (go_wp2; go_meet)
          all_goals (refine ⟨_, rfl, rfl, ?_, ?_⟩)
          all_goals (first
            | exact hU2
            | exact bcat2 hU2 (balloc _ _)
            | exact blk0 _ _
            | exact blk_below (blkd2 _ _) hl2
            | exact blk_below (blkd3 _ _) hl2)
        case rest =>
          obtain ⟨fb, rfl, rfl, hFx, hbx⟩ := hcut
          obtain ⟨f0, f1, _, _⟩ := hFx.two
          go_wp2
          go_roundw
          case rel => exact ⟨1 + 1, by omega, by go_num, bcat2 hB hbx⟩
          case measure => simp [intOf]
      · go_wp2_with fail
        go_cut [17, 18] (fun s17 s18 wx => NRel wr s17 s18 wx)
        case first =>
          go_region_with (first
              | (go_at_call 43; refine (HNz.out _ _ (bcat2 hBw (by first | exact bdrew (balloc _ _) | exact bdrew ((balloc _ _).alloc (by simp) _))) ((hz.below hB).below (by first | exact bdrew (balloc _ _) | exact bdrew ((balloc _ _).alloc (by simp) _)))).mono ?_; rintro e2 U2 ⟨rfl, hl1⟩; have hl2 := hl1; have hU2 : Below wr.heap.size wr U2 := bcat2 (by first | exact bdrew (balloc _ _) | exact bdrew ((balloc _ _).alloc (by simp) _)) hl1; have hp2 := cell_eq hl1; have hq2 := frozen_eq hl1))
          all_goals (go_wp2; go_meet)
          all_goals (refine ⟨_, rfl, rfl, ?_, ?_⟩)
          all_goals (first
            | exact hU2
            | exact bcat2 hU2 (balloc _ _)
            | exact blk0 _ _
            | exact blk_below (blkd2 _ _) hl2
            | exact blk_below (blkd3 _ _) hl2)
        case rest =>
          obtain ⟨fb, rfl, rfl, hFx, hbx⟩ := hcut
          obtain ⟨f0, f1, _, _⟩ := hFx.two
          go_wp2
          go_roundw
          case rel => exact ⟨2 + 1, by omega, by go_num, bcat2 hB hbx⟩
          case measure => simp [intOf]
      · go_wp2_with fail
        go_cut [17, 18] (fun s17 s18 wx => NRel wr s17 s18 wx)
        case first =>
          go_region_with (first
              | (go_at_call 43; refine (HNd.out _ _ (bcat2 hBw (by first | exact bdrew (balloc _ _) | exact bdrew ((balloc _ _).alloc (by simp) _))) ((hd.below hB).below (by first | exact bdrew (balloc _ _) | exact bdrew ((balloc _ _).alloc (by simp) _)))).mono ?_; rintro e2 U2 ⟨rfl, hl1⟩; have hl2 := hl1; have hU2 : Below wr.heap.size wr U2 := bcat2 (by first | exact bdrew (balloc _ _) | exact bdrew ((balloc _ _).alloc (by simp) _)) hl1; have hp2 := cell_eq hl1; have hq2 := frozen_eq hl1))
          all_goals (go_wp2; go_meet)
          all_goals (refine ⟨_, rfl, rfl, ?_, ?_⟩)
          all_goals (first
            | exact hU2
            | exact bcat2 hU2 (balloc _ _)
            | exact blk0 _ _
            | exact blk_below (blkd2 _ _) hl2
            | exact blk_below (blkd3 _ _) hl2)
        case rest =>
          obtain ⟨fb, rfl, rfl, hFx, hbx⟩ := hcut
          obtain ⟨f0, f1, _, _⟩ := hFx.two
          go_wp2
          go_roundw
          case rel => exact ⟨3 + 1, by omega, by go_num, bcat2 hB hbx⟩
          case measure => simp [intOf]
    · have hk4' : k = 4 := by omega
      subst hk4'
      obtain ⟨_, y0, y1, fy0, fy1, s0, s1⟩ := Two.mk' (blk_below hF12 hB)
      go_wp2_with fail
      refine (HNs.out wr _ hBw (hs.below hB)).mono ?_
      rintro x w13 ⟨rfl, hb13⟩
      have hB13 := bcat2 hB hb13
      clear c0 c1 y0 y1 fy0 fy1 s0 s1
      obtain ⟨c0, c1, _, _⟩ := (blk_below hX12 hB13).two
      obtain ⟨_, y0, y1, fy0, fy1, s0, s1⟩ := Two.mk' (blk_below hF12 hB13)
      go_wp2_with fail
      refine (ints_any _ _ _ _ w13 (hc.below hB13) (hs.below hB13)).mono ?_
      rw [← M1.out]
      rintro x w14 ⟨rfl, hb14⟩
      have hB14 := bcat2 hB13 hb14
      cases hnb : nrmq n zs e q with
      | true =>
        rw [hnb] at M2 M3
        have L3 : (lst n (norq n zs e q)).length = n := by have := M3.out; simpa using this.symm
        have L3i : ((lst n (norq n zs e q)).length : Int) = (n : Int) := by omega
        
        clear L3
        go_wp2_with fail
        refine (ints_any _ _ _ _ w14 (hk.below hB14) (hs.below hB14)).mono ?_
        rw [← M2.out]
        rintro x w15 ⟨rfl, hb15⟩
        obtain ⟨e0, e1, _, _⟩ := (blk_below hX12 (bcat2 hB14 hb15)).two
        go_wp2
        go_ret
        exact ⟨by first | rfl | simp, bcat2 hB12 (bcat2 hB14 hb15)⟩
      | false =>
        rw [hnb] at M2 M3
        have L3 : ¬ (lst n (norq n zs e q)).length = n := by have := M3.out; simpa using this.symm
        have L3i : ¬ ((lst n (norq n zs e q)).length : Int) = (n : Int) := by omega
        have L3b : (((lst n (norq n zs e q)).length : Int) == (n : Int)) = false := by rw [beq_eq_false_iff_ne]; exact L3i
        clear L3
        go_wp2_with fail
        refine (ints_any _ _ _ _ w14 (hk.below hB14) (hs.below hB14)).mono ?_
        rw [← M2.out]
        rintro x w15 ⟨rfl, hb15⟩
        obtain ⟨e0, e1, _, _⟩ := (blk_below hX12 (bcat2 hB14 hb15)).two
        go_wp2
        go_ret
        exact ⟨by first | rfl | simp, bcat2 hB12 (bcat2 hB14 hb15)⟩

theorem chains_law (N : Int) (v u : Value) (zs l : List Int) (w : World) (hv : Sl w v zs) (hu : Sl w u l) (hT : Tab w) :
    Calls Tryd.prog 8 #[.agg #[.int .i64 N, v], u] w fun x w' => x = .returned (.bool true) ∧ Below w.heap.size w w' := by
  by_cases hc : (sfault N zs l).1 = 0
  · obtain ⟨n, e, rfl, hg, hl, _⟩ := sfault_zero hc
    exact chains_good n e v u zs l w hv hg hu hT hl
  · exact chains_bad N v u zs l w hv hu hT hc
end Go.Proofs.YtoiemlnmcfmakaaDoor
