/- What the law SubProducts answers: true, at every table and every two lists. Condition: the library's table of places lies as its text lays it. -/
import Derived.Test.YtoiemlnmcfmakaaDoorPrd
namespace Go.Proofs.YtoiemlnmcfmakaaDoor
open Go Go.RowKit

/-- What Made answers, whatever is wrong. -/
theorem mde_any (N : Int) (v u : Value) (zs ls : List Int) (w : World) (hv : Sl w v zs) (hu : Sl w u ls) (hT : Tab w) :
    Calls Tryd.prog 17 #[.agg #[.int .i64 N, v], u] w fun x w' => ∃ a l c, x = .returned (.tuple #[.slice a l c, .agg #[.int .i64 (sfault N zs ls).1, .int .i64 (sfault N zs ls).2]]) ∧ Below w.heap.size w w' := by
  by_cases hc : (sfault N zs ls).1 = 0
  · obtain ⟨n, e, rfl, hg, hl, h0⟩ := sfault_zero hc
    obtain ⟨p, hp⟩ := mkd_test n zs e (pset ls)
    rw [h0]
    refine (mde_good n e v u zs ls p w hv hg hu hT hl hp).mono ?_
    rintro x w' ⟨r, rfl, hr, hb⟩
    obtain ⟨a, l, c, rfl⟩ := hr.sl.isSlice
    exact ⟨a, l, c, rfl, hb⟩
  · refine (mde_bad N v u zs ls w hv hu hc).mono ?_
    rintro x w' ⟨rfl, hb⟩
    exact ⟨_, _, _, rfl, hb⟩
theorem box1 (w : World) (x y z : Value) (t : TypeId) : Boxed ((w.alloc (.cells #[x] t)).alloc (.cells #[y, z] 28)) w.heap.size t x ∧ Blk ((w.alloc (.cells #[x] t)).alloc (.cells #[y, z] 28)) (w.heap.size + 1) 28 [y, z] ∧ Below w.heap.size w ((w.alloc (.cells #[x] t)).alloc (.cells #[y, z] 28)) := by
  refine ⟨(Boxed.new w t x).alloc _, ?_, (balloc w _).alloc (by simp) _⟩
  have := blk0 (w := w.alloc (.cells #[x] t)) (T := 28) y z
  rwa [World.size_alloc] at this

set_option maxRecDepth 100000 in
set_option maxHeartbeats 4000000 in
theorem products_bad (N : Int) (v u1 u2 : Value) (zs l m : List Int) (w : World) (hv : Sl w v zs) (h1 : Sl w u1 l) (h2 : Sl w u2 m) (hT : Tab w) (hc : (sfault N zs l).1 ≠ 0 ∨ (sfault N zs m).1 ≠ 0) :
    Calls Tryd.prog 6 #[.agg #[.int .i64 N, v], u1, u2] w fun x w' => x = .returned (.bool true) ∧ Below w.heap.size w w' := by
  have hB0 : Below w.heap.size w (w.alloc (.cells #[.int .i64 N, v] 24)) := balloc w _
  have hX0 : BoxG (w.alloc (.cells #[.int .i64 N, v] 24)) w.heap.size N v := blk0 _ _
  obtain ⟨w0, hw0⟩ : ∃ w0, w0 = w.alloc (.cells #[.int .i64 N, v] 24) := ⟨_, rfl⟩
  rw [← hw0] at hB0 hX0
  have HM1 := hide (fun W (h : Below w.heap.size w W) => mde_any N v u1 zs l W (hv.below h) (h1.below h) (hT.below h))
  have HM2 := hide (fun W (h : Below w.heap.size w W) => mde_any N v u2 zs m W (hv.below h) (h2.below h) (hT.below h))
  have HS1 := hide (fun W (h : Below w.heap.size w W) => rset_any N v u1 zs l W (hv.below h) (h1.below h))
  have HS2 := hide (fun W (h : Below w.heap.size w W) => rset_any N v u2 zs m W (hv.below h) (h2.below h))
  obtain ⟨c, i, hci⟩ : ∃ c i, sfault N zs l = (c, i) := ⟨_, _, rfl⟩
  obtain ⟨d, j, hdj⟩ : ∃ d j, sfault N zs m = (d, j) := ⟨_, _, rfl⟩
  rw [hci] at HM1 HS1 hc
  rw [hdj] at HM2 HS2 hc
  simp only at HM1 HM2 HS1 HS2 hc
  clear hci hdj
  have HST := hide (subBegun_any w0 (hT.below hB0))
  go_enter Tryd.func6, Tryd.ntmps6
  go_wp2_with fail
  rw [← hw0]
  clear hw0
  refine HST.out.mono ?_
  rintro x w1 ⟨rfl, hb1⟩
  have hB1 := bcat2 hB0 hb1
  obtain ⟨c0, c1, _, _⟩ := (blk_below hX0 hb1).two
  go_wp2_with fail
  clear c0 c1
  refine (HM1.out w1 hB1).mono ?_
  rintro x w2 ⟨ra, rl, rc, rfl, hb2⟩
  obtain ⟨hA3, hF3, hb3⟩ := box1 w2 (.slice ra rl rc) (.int .i64 c) (.int .i64 i) 22
  have hb23 := bcat2 hb2 hb3
  have hB3 := bcat2 hB1 hb23
  have hX3 := blk_below hX0 (bcat2 hb1 hb23)
  obtain ⟨c0, c1, _, _⟩ := hX3.two
  go_wp2_with fail
  generalize (w2.alloc (.cells #[.slice ra rl rc] 22)).alloc (.cells #[.int .i64 c, .int .i64 i] 28) = w3 at *
  clear c0 c1
  refine (HM2.out w3 hB3).mono ?_
  rintro x w4 ⟨sa, sl, sc, rfl, hb4⟩
  obtain ⟨hA5, hF5, hb5⟩ := box1 w4 (.slice sa sl sc) (.int .i64 d) (.int .i64 j) 22
  have hb45 := bcat2 hb4 hb5
  have hB5 := bcat2 hB3 hb45
  have hX5 := blk_below hX3 hb45
  have hF35 := blk_below hF3 hb45
  obtain ⟨c0, c1, _, _⟩ := hX5.two
  obtain ⟨f0, f1, _, _⟩ := hF35.two
  obtain ⟨g0, g1, _, _⟩ := hF5.two
  have q1 := field27 c i
  have q2 := field27 d j
  by_cases hcz : c = 0
  · subst hcz
    have hdz : d ≠ 0 := by rcases hc with h | h; exact absurd rfl h; exact h
    have hdb : (d != 0) = true := by simpa using hdz
    go_wp2_with fail
    generalize (w4.alloc (.cells #[.slice sa sl sc] 22)).alloc (.cells #[.int .i64 d, .int .i64 j] 28) = w5 at *
    clear c0 c1 f0 f1 g0 g1
    refine (HS1.out w5 hB5).mono ?_
    rintro x w6 ⟨rfl, hb6⟩
    obtain ⟨c0, c1, _, _⟩ := (blk_below hX5 hb6).two
    go_wp2_with fail
    refine (HS2.out w6 (bcat2 hB5 hb6)).mono ?_
    rintro x w7 ⟨rfl, hb7⟩
    go_wp2
    go_ret
    exact ⟨rfl, bcat2 (bcat2 hB5 hb6) hb7⟩
  · have hcb : (c != 0) = true := by simpa using hcz
    go_wp2_with fail
    generalize (w4.alloc (.cells #[.slice sa sl sc] 22)).alloc (.cells #[.int .i64 d, .int .i64 j] 28) = w5 at *
    clear c0 c1 f0 f1 g0 g1
    refine (HS1.out w5 hB5).mono ?_
    rintro x w6 ⟨rfl, hb6⟩
    go_wp2
    go_ret
    exact ⟨rfl, bcat2 hB5 hb6⟩

set_option maxRecDepth 100000 in
set_option maxHeartbeats 4000000 in
theorem products_good (n e : Nat) (v u1 u2 : Value) (zs l m : List Int) (w : World) (hv : Sl w v zs) (hg : IsGrp n zs e) (h1 : Sl w u1 l) (h2 : Sl w u2 m) (hT : Tab w) (hl : lfault n l = (0, 0)) (hm : lfault n m = (0, 0)) :
    Calls Tryd.prog 6 #[.agg #[.int .i64 n, v], u1, u2] w fun x w' => x = .returned (.bool true) ∧ Below w.heap.size w w' := by
  have hn := hg.tab.le
  obtain ⟨p, hp⟩ := mkd_test n zs e (pset l)
  obtain ⟨q, hq⟩ := mkd_test n zs e (pset m)
  have Sp := made_sg hg hp
  have Sq := made_sg hg hq
  have hform := Fin.prod_formula (grp_fg hg) (N := n) (fun x hx => List.mem_range.1 hx) Sp Sq (prq n zs e (lst n p) (lst n q)) (fun x hx => prq_iff hg (List.mem_range.1 hx))
  have hboth : (li (lst n p)).filter (fun a => decide (a ∈ li (lst n q))) = li (lst n fun a => p a && q a) := by
    unfold li
    rw [List.filter_map]
    congr 1
    unfold lst
    rw [List.filter_filter]
    refine List.filter_congr fun a ha => ?_
    have h9 := mem_li (xs := lst n q) (a := a)
    unfold li lst at h9
    show (decide ((a : Int) ∈ List.map (fun (x : Nat) => (x : Int)) ((List.range n).filter q)) && p a) = (p a && q a)
    rw [Bool.and_comm]
    congr 1
    rw [Bool.eq_iff_iff, decide_eq_true_eq, h9, List.mem_filter]
    exact ⟨fun h => h.2, fun h => ⟨ha, h⟩⟩
  have hsub : subT n zs e (pset (li (lst n fun a => p a && q a))) = true := by
    rw [subT_congr hg (q := fun a => p a && q a) (fun a ha => pset_lst ha), subT_iff]
    have := Fin.Sg.both Sp Sq
    exact ⟨by simpa using this.one, fun a b ha hb k1 k2 => by
      simp only [Bool.and_eq_true] at k1 k2 ⊢
      exact this.mul a b ha hb k1 k2⟩
  have hB0 : Below w.heap.size w (w.alloc (.cells #[.int .i64 n, v] 24)) := balloc w _
  have hX0 : BoxG (w.alloc (.cells #[.int .i64 n, v] 24)) w.heap.size n v := blk0 _ _
  obtain ⟨w0, hw0⟩ : ∃ w0, w0 = w.alloc (.cells #[.int .i64 n, v] 24) := ⟨_, rfl⟩
  rw [← hw0] at hB0 hX0
  have HM1 := hide (fun W (h : Below w.heap.size w W) => mde_good n e v u1 zs l p W (hv.below h) hg (h1.below h) (hT.below h) hl hp)
  have HM2 := hide (fun W (h : Below w.heap.size w W) => mde_good n e v u2 zs m q W (hv.below h) hg (h2.below h) (hT.below h) hm hq)
  have HIS := hide (fun W r (h : Below w.heap.size w W) (hr : Sl W r (li (lst n fun a => p a && q a))) => is_good n e v r zs (li (lst n fun a => p a && q a)) W (hv.below h) hg hr (hT.below h) (lst_fault n _))
  rw [hsub] at HIS
  have HLF := hide (fun W r (s : Nat → Bool) (hr : Sl W r (li (lst n s))) => rlist_any n v r (li (lst n s)) W hn hr)
  simp only [lst_fault] at HLF
  have HST := hide (subBegun_any w0 (hT.below hB0))
  have k1 := lst_len n p
  have k2 := lst_len n q
  have k3 := lst_len n fun a => p a && q a
  have k4 := lst_len n (prq n zs e (lst n p) (lst n q))
  have hform : (lst n (prq n zs e (lst n p) (lst n q))).length * (lst n fun a => p a && q a).length = (lst n p).length * (lst n q).length := hform
  have HFO := hide hform
  clear hform hl hm hsub
  go_enter Tryd.func6, Tryd.ntmps6
  go_wp2_with fail
  rw [← hw0]
  clear hw0
  refine HST.out.mono ?_
  rintro x w1 ⟨rfl, hb1⟩
  have hB1 := bcat2 hB0 hb1
  obtain ⟨c0, c1, _, _⟩ := (blk_below hX0 hb1).two
  go_wp2_with fail
  clear c0 c1
  refine (HM1.out w1 hB1).mono ?_
  rintro x w2 ⟨r, rfl, hr, hb2⟩
  have hrs := hr.sl
  obtain ⟨ra, rc, _, _, rfl, _⟩ := hr
  rw [li_len] at hrs ⊢
  obtain ⟨hA3, hF3, hb3⟩ := box1 w2 (.slice ra (lst n p).length rc) (.int .i64 0) (.int .i64 0) 22
  have hb23 := bcat2 hb2 hb3
  have hB3 := bcat2 hB1 hb23
  have hX3 := blk_below hX0 (bcat2 hb1 hb23)
  have hr3 := hrs.below hb3
  obtain ⟨c0, c1, _, _⟩ := hX3.two
  go_wp2_with fail
  generalize (w2.alloc (.cells #[.slice ra (lst n p).length rc] 22)).alloc (.cells #[.int .i64 0, .int .i64 0] 28) = w3 at *
  clear c0 c1
  refine (HM2.out w3 hB3).mono ?_
  rintro x w4 ⟨s, rfl, hs, hb4⟩
  have hss := hs.sl
  obtain ⟨sa, sc, _, _, rfl, _⟩ := hs
  rw [li_len] at hss ⊢
  obtain ⟨hA5, hF5, hb5⟩ := box1 w4 (.slice sa (lst n q).length sc) (.int .i64 0) (.int .i64 0) 22
  have hb45 := bcat2 hb4 hb5
  have hB5 := bcat2 hB3 hb45
  have hX5 := blk_below hX3 hb45
  have hF35 := blk_below hF3 hb45
  have hA35 := Boxed.below hA3 hb45
  have hr5 := hr3.below hb45
  have hs5 := hss.below hb5
  have hT5 := hT.below hB5
  have hrf := Below.refl ((w4.alloc (.cells #[.slice sa (lst n q).length sc] 22)).alloc (.cells #[.int .i64 0, .int .i64 0] 28)).heap.size ((w4.alloc (.cells #[.slice sa (lst n q).length sc] 22)).alloc (.cells #[.int .i64 0, .int .i64 0] 28))
  have q1 := field27 0 0
  obtain ⟨c0, c1, _, _⟩ := (blk_below hX5 hrf).two
  obtain ⟨f0, f1, _, _⟩ := (blk_below hF35 hrf).two
  obtain ⟨g0, g1, _, _⟩ := (blk_below hF5 hrf).two
  have a0 := (Boxed.below hA35 hrf).cell
  have b0 := (Boxed.below hA5 hrf).cell
  go_wp2_with fail
  generalize (w4.alloc (.cells #[.slice sa (lst n q).length sc] 22)).alloc (.cells #[.int .i64 0, .int .i64 0] 28) = w5 at *
  clear c0 c1 f0 f1 g0 g1 a0 b0
  have HBO := hide (both_ok _ _ (li (lst n p)) (li (lst n q)) w5 hr5 hs5 (by rw [li_len]; omega))
  rw [hboth] at HBO
  clear hboth
  refine HBO.out.mono ?_
  rintro x w6 ⟨t, rfl, ht, hb6⟩
  have hB6 := bcat2 hB5 hb6
  have hts := row_sl ht (hT.below hB6).lt
  obtain ⟨ta, tc, rfl⟩ := row_len ht
  rw [li_len] at hts ⊢
  obtain ⟨c0, c1, _, _⟩ := (blk_below hX5 hb6).two
  obtain ⟨f0, f1, _, _⟩ := (blk_below hF35 hb6).two
  obtain ⟨g0, g1, _, _⟩ := (blk_below hF5 hb6).two
  have a0 := (Boxed.below hA35 hb6).cell
  have b0 := (Boxed.below hA5 hb6).cell
  go_wp2_with fail
  clear c0 c1 f0 f1 g0 g1 a0 b0
  refine (HIS.out w6 _ hB6 hts).mono ?_
  rintro x w7 ⟨rfl, hb7⟩
  have hb8 := bcat2 hb7 (balloc w7 (.cells #[.int .i64 0, .int .i64 0] 28))
  have hF8 := blk0 (w := w7) (T := 28) (.int .i64 0) (.int .i64 0)
  have hb68 := bcat2 hb6 hb8
  obtain ⟨m0, m1, _, _⟩ := hF8.two
  obtain ⟨c0, c1, _, _⟩ := (blk_below hX5 hb68).two
  obtain ⟨f0, f1, _, _⟩ := (blk_below hF35 hb68).two
  obtain ⟨g0, g1, _, _⟩ := (blk_below hF5 hb68).two
  have a0 := (Boxed.below hA35 hb68).cell
  have b0 := (Boxed.below hA5 hb68).cell
  go_wp2_with fail
  generalize w7.alloc (.cells #[.int .i64 0, .int .i64 0] 28) = w8 at *
  clear m0 m1
  clear c0 c1 f0 f1 g0 g1 a0 b0
  refine (HLF.out w8 _ p (hr5.below hb68)).mono ?_
  rintro x w9 ⟨rfl, hb9⟩
  have hb59 := bcat2 hb68 hb9
  obtain ⟨c0, c1, _, _⟩ := (blk_below hX5 hb59).two
  obtain ⟨f0, f1, _, _⟩ := (blk_below hF35 hb59).two
  obtain ⟨g0, g1, _, _⟩ := (blk_below hF5 hb59).two
  have a0 := (Boxed.below hA35 hb59).cell
  have b0 := (Boxed.below hA5 hb59).cell
  go_wp2_with fail
  clear c0 c1 f0 f1 g0 g1 a0 b0
  refine (HLF.out w9 _ q (hs5.below hb59)).mono ?_
  rintro x w10 ⟨rfl, hb10⟩
  have hb510 := bcat2 hb59 hb10
  have hB10 := bcat2 hB5 hb510
  obtain ⟨c0, c1, _, _⟩ := (blk_below hX5 hb510).two
  obtain ⟨f0, f1, _, _⟩ := (blk_below hF35 hb510).two
  obtain ⟨g0, g1, _, _⟩ := (blk_below hF5 hb510).two
  have a0 := (Boxed.below hA35 hb510).cell
  have b0 := (Boxed.below hA5 hb510).cell
  go_wp2_with fail
  clear c0 c1 f0 f1 g0 g1 a0 b0
  refine (rthose_ok n 57 v _ (prq n zs e (lst n p) (lst n q)) w10 hn (fun a W => call61 a _ _ _ W) (fun W x hW hx => pcl61_ok n e x w2.heap.size w4.heap.size w.heap.size v _ _ zs (lst n p) (lst n q) W hg ((hv.below hB10).below hW) hx (Boxed.below hA35 (bcat2 hb510 hW)) (hr5.below (bcat2 hb510 hW)) (Boxed.below hA5 (bcat2 hb510 hW)) (hs5.below (bcat2 hb510 hW)) (blk_below hX5 (bcat2 hb510 hW)) (fun a ha => (mem_lst.1 ha).1))).mono ?_
  rintro x w11 ⟨z, rfl, hz, hb11⟩
  obtain ⟨za, zc, rfl⟩ := row_len hz
  rw [li_len]
  have hb511 := bcat2 hb510 hb11
  obtain ⟨c0, c1, _, _⟩ := (blk_below hX5 hb511).two
  obtain ⟨f0, f1, _, _⟩ := (blk_below hF35 hb511).two
  obtain ⟨g0, g1, _, _⟩ := (blk_below hF5 hb511).two
  have a0 := (Boxed.below hA35 hb511).cell
  have b0 := (Boxed.below hA5 hb511).cell
  have hb1 : (lst n p).length * (lst n q).length ≤ 60 * 60 := Nat.mul_le_mul (by omega) (by omega)
  obtain ⟨M, hM⟩ : ∃ M, (lst n p).length * (lst n q).length = M := ⟨_, rfl⟩
  have e1 : ((lst n p).length : Int) * ((lst n q).length : Int) = (M : Int) := by rw [← Int.natCast_mul, hM]
  have e2 : ((lst n (prq n zs e (lst n p) (lst n q))).length : Int) * ((lst n fun a => p a && q a).length : Int) = (M : Int) := by rw [← Int.natCast_mul, HFO.out, hM]
  rw [hM] at hb1
  clear hM HFO
  generalize (lst n (prq n zs e (lst n p) (lst n q))).length = A at *
  generalize (lst n fun a => p a && q a).length = B at *
  generalize (lst n p).length = C at *
  generalize (lst n q).length = D at *
  go_wp2
  go_ret
  exact ⟨by first | rfl | simp, bcat2 hB10 hb11⟩

theorem products_law (N : Int) (v u1 u2 : Value) (zs l m : List Int) (w : World) (hv : Sl w v zs) (h1 : Sl w u1 l) (h2 : Sl w u2 m) (hT : Tab w) :
    Calls Tryd.prog 6 #[.agg #[.int .i64 N, v], u1, u2] w fun x w' => x = .returned (.bool true) ∧ Below w.heap.size w w' := by
  by_cases hc : (sfault N zs l).1 ≠ 0 ∨ (sfault N zs m).1 ≠ 0
  · exact products_bad N v u1 u2 zs l m w hv h1 h2 hT hc
  · have h3 : (sfault N zs l).1 = 0 := Decidable.not_not.1 fun h => hc (.inl h)
    have h4 : (sfault N zs m).1 = 0 := Decidable.not_not.1 fun h => hc (.inr h)
    obtain ⟨n, e, rfl, hg, hl, _⟩ := sfault_zero h3
    rw [sfault_l hg] at h4
    exact products_good n e v u1 u2 zs l m w hv hg h1 h2 hT hl (lfault_zero h4).1
end Go.Proofs.YtoiemlnmcfmakaaDoor
