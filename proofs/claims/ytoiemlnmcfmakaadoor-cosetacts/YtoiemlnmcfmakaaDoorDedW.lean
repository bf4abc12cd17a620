/- What the law SubDedekind answers: true, at every table and every three lists. Condition: the library's table of places lies as its text lays it. -/
import Derived.Test.YtoiemlnmcfmakaaDoorDedA
import Derived.Deep.DeepCutAuto
namespace Go.Proofs.YtoiemlnmcfmakaaDoor
open Go Go.RowKit

/-- What lies behind the third Made: its list, and a fault in a box that is none. -/
def DRel (w5 : World) (zs : List Int) (s13 s14 : Value) (W : World) : Prop := ∃ fb a l c, s13 = .slice a l c ∧ s14 = .pointer (some ⟨fb, 0, none⟩) ∧ Blk W fb 28 [.int .i64 0, .int .i64 0] ∧ Sl W (.slice a l c) zs ∧ Below w5.heap.size w5 W
theorem blkd {w : World} {T : TypeId} (x y : Value) : Blk (w.alloc (.cells #[x, y] T)).drew w.heap.size T [x, y] := blk0 (w := w) x y
theorem cell_eq {a b : World} (h : Below a.heap.size a b) (p : Addr) (hp : (a.cell? p).isSome = true) : b.cell? p = a.cell? p := by
  obtain ⟨v, hv⟩ := Option.isSome_iff_exists.1 hp
  rw [hv]; exact below_cell h hv
theorem frozen_eq {a b : World} (h : Below a.heap.size a b) (p : Addr) (hp : (a.cell? p).isSome = true) : b.frozen? p = a.frozen? p := by
  obtain ⟨v, hv⟩ := Option.isSome_iff_exists.1 hp
  exact World.frozen?_of_block (h.block _ (World.block_lt_of_cell? a p hv))
theorem those_sl {f : Nat} {args : Array Value} {w : World} {zs : List Int} (h0 : 0 < w.heap.size) (h : Calls Tryd.prog f args w fun x w' => ∃ r, x = .returned r ∧ Row w' w.heap.size r zs ∧ Below w.heap.size w w') :
    Calls Tryd.prog f args w fun x w' => ∃ a l c, x = .returned (.slice a l c) ∧ Sl w' (.slice a l c) zs ∧ Below w.heap.size w w' := by
  refine h.mono ?_
  rintro x w' ⟨r, rfl, hr, hb⟩
  have hs := row_sl hr (Nat.lt_of_lt_of_le h0 hb.size)
  obtain ⟨a, l, c, rfl⟩ := hs.isSlice
  exact ⟨a, l, c, rfl, hs, hb⟩
theorem set_same (W : World) (b o : Nat) (v : Value) (h : W.cell? ⟨b, o, none⟩ = some v) : W.setCell ⟨b, o, none⟩ v = W := by
  unfold World.cell? at h
  cases hb : W.heap[b]? with
  | none => simp [hb] at h
  | some ob =>
    cases ob with
    | cells c T fz =>
      refine setCell_self hb ?_
      simp [hb] at h
      obtain ⟨h1, h2⟩ := Array.getElem?_eq_some_iff.1 h
      apply Array.ext
      · simp
      · intro i h3 h4
        rw [Array.getElem_setIfInBounds (by simpa using h4)]
        split
        · rename_i e; subst e; exact h2.symm
        · rfl
    | _ => simp [hb] at h
theorem Sl.alloc {w : World} {v : Value} {zs : List Int} (h : Sl w v zs) (o : Obj) : Sl (w.alloc o) v zs := h.below (balloc w o)

set_option maxRecDepth 100000 in
set_option maxHeartbeats 4000000 in
theorem dedekind_bad (N : Int) (v u1 u2 u3 : Value) (zs l m k : List Int) (w : World) (hv : Sl w v zs) (h1 : Sl w u1 l) (h2 : Sl w u2 m) (h3 : Sl w u3 k) (hT : Tab w) (hc : (sfault N zs l).1 ≠ 0 ∨ (sfault N zs m).1 ≠ 0 ∨ (sfault N zs k).1 ≠ 0) :
    Calls Tryd.prog 7 #[.agg #[.int .i64 N, v], u1, u2, u3] w fun x w' => x = .returned (.bool true) ∧ Below w.heap.size w w' := by
  obtain ⟨n1, n2, n3, rfl⟩ := h3.isSlice
  have hB0 : Below w.heap.size w ((w.alloc (.cells #[.int .i64 N, v] 24)).alloc (.cells #[.slice n1 n2 n3] 22)) := (balloc w _).alloc (by simp) _
  have hX0 : BoxG ((w.alloc (.cells #[.int .i64 N, v] 24)).alloc (.cells #[.slice n1 n2 n3] 22)) w.heap.size N v := (blk0 _ _).alloc _
  have hN0 := Boxed.new (w.alloc (.cells #[.int .i64 N, v] 24)) 22 (.slice n1 n2 n3)
  rw [World.size_alloc] at hN0
  obtain ⟨w0, hw0⟩ : ∃ w0, w0 = (w.alloc (.cells #[.int .i64 N, v] 24)).alloc (.cells #[.slice n1 n2 n3] 22) := ⟨_, rfl⟩
  rw [← hw0] at hB0 hX0 hN0
  have HM1 := hide (fun W (h : Below w.heap.size w W) => mde_any N v u1 zs l W (hv.below h) (h1.below h) (hT.below h))
  have HM2 := hide (fun W (h : Below w.heap.size w W) => mde_any N v u2 zs m W (hv.below h) (h2.below h) (hT.below h))
  have HS3 := hide (fun W (h : Below w.heap.size w W) => rset_any N v (.slice n1 n2 n3) zs k W (hv.below h) (h3.below h))
  obtain ⟨c, i, hci⟩ : ∃ c i, sfault N zs l = (c, i) := ⟨_, _, rfl⟩
  obtain ⟨d, j, hdj⟩ : ∃ d j, sfault N zs m = (d, j) := ⟨_, _, rfl⟩
  obtain ⟨a, b, hab⟩ : ∃ a b, sfault N zs k = (a, b) := ⟨_, _, rfl⟩
  rw [hci, hdj, hab] at hc
  rw [hci] at HM1
  rw [hdj] at HM2
  rw [hab] at HS3
  simp only at HM1 HM2 HS3 hc
  clear hci hdj hab
  have HST := hide (subBegun_any w0 (hT.below hB0))
  go_enter Tryd.func7, Tryd.ntmps7
  go_wp2_with fail
  rw [← hw0]
  clear hw0
  refine HST.out.mono ?_
  rintro x w1 ⟨rfl, hb1⟩
  have hB1 := bcat2 hB0 hb1
  obtain ⟨c0, c1, _, _⟩ := (blk_below hX0 hb1).two
  go_wp2_with fail
  clear c0 c1
  refine (HM1.out w1 hB1).mono ?_
  rintro x w2 ⟨ra, rl, rc, rfl, hb2⟩
  obtain ⟨hA3, hF3, hb3⟩ := box1 w2 (.slice ra rl rc) (.int .i64 c) (.int .i64 i) 22
  have hb23 := bcat2 hb2 hb3
  have hB3 := bcat2 hB1 hb23
  have hX3 := blk_below hX0 (bcat2 hb1 hb23)
  have hN3 := Boxed.below hN0 (bcat2 hb1 hb23)
  obtain ⟨c0, c1, _, _⟩ := hX3.two
  go_wp2_with fail
  generalize (w2.alloc (.cells #[.slice ra rl rc] 22)).alloc (.cells #[.int .i64 c, .int .i64 i] 28) = w3 at *
  clear c0 c1
  refine (HM2.out w3 hB3).mono ?_
  rintro x w4 ⟨sa, sl, sc, rfl, hb4⟩
  have hF5 := blk0 (w := w4) (T := 28) (.int .i64 d) (.int .i64 j)
  have hb45 := bcat2 hb4 (balloc w4 (.cells #[.int .i64 d, .int .i64 j] 28))
  have hB5 := bcat2 hB3 hb45
  have hX5 := blk_below hX3 hb45
  have hF35 := blk_below hF3 hb45
  have n0 := (Boxed.below hN3 hb45).cell
  obtain ⟨c0, c1, _, _⟩ := hX5.two
  obtain ⟨f0, f1, _, _⟩ := hF35.two
  obtain ⟨g0, g1, _, _⟩ := hF5.two
  have q1 := field27 a b
  by_cases hcz : c = 0
  · subst hcz
    by_cases hdz : d = 0
    · subst hdz
      have haz : a ≠ 0 := by rcases hc with h | h | h; exact absurd rfl h; exact absurd rfl h; exact h
      have hab : (a != 0) = true := by simpa using haz
      go_wp2_with fail
      generalize w4.alloc (.cells #[.int .i64 0, .int .i64 j] 28) = w5 at *
      clear c0 c1 f0 f1 g0 g1 n0
      refine (HS3.out w5 hB5).mono ?_
      rintro x w6 ⟨rfl, hb6⟩
      go_wp2
      go_ret
      exact ⟨rfl, bcat2 hB5 hb6⟩
    · have hdb : (d != 0) = true := by simpa using hdz
      go_wp2
      go_ret
      exact ⟨rfl, hB5⟩
  · have hcb : (c != 0) = true := by simpa using hcz
    go_wp2
    go_ret
    exact ⟨rfl, hB5⟩

set_option maxRecDepth 100000 in
set_option maxHeartbeats 4000000 in
theorem dedekind_good (n e : Nat) (v u1 u2 u3 : Value) (zs l m k : List Int) (w : World) (hv : Sl w v zs) (hg : IsGrp n zs e) (h1 : Sl w u1 l) (h2 : Sl w u2 m) (h3 : Sl w u3 k) (hT : Tab w) (hl : lfault n l = (0, 0)) (hm : lfault n m = (0, 0)) (hk : lfault n k = (0, 0)) :
    Calls Tryd.prog 7 #[.agg #[.int .i64 n, v], u1, u2, u3] w fun x w' => x = .returned (.bool true) ∧ Below w.heap.size w w' := by
  have hn := hg.tab.le
  obtain ⟨n1, n2, n3, rfl⟩ := h3.isSlice
  obtain ⟨p, hp⟩ := mkd_test n zs e (pset l)
  obtain ⟨q, hq⟩ := mkd_test n zs e (pset m)
  obtain ⟨o, ho⟩ : ∃ o : Nat → Bool, o = fun (a : Nat) => decide ((a : Int) ∈ li (lst n p)) || decide ((a : Int) ∈ k) := ⟨_, rfl⟩
  obtain ⟨r, hr⟩ := mkd_test n zs e (pset (li (lst n o)))
  have Sp := made_sg hg hp
  have Sr := made_sg hg hr
  have hpr : ∀ a, a < n → p a = true → r a = true := fun a ha hpa => (hr a ha).2 (Fin.Gen.base (List.mem_range.2 ha) (by
    rw [pset_lst ha, ho]
    simp [mem_li, mem_lst, ha, hpa]))
  have hded := dedekind_math hg (q := q) Sp Sr hpr
  have hpar : ((li (lst n p)).all fun a => decide (a ∈ li (lst n r))) = true := by
    rw [List.all_eq_true]
    intro z hz
    obtain ⟨a, ha, rfl⟩ := List.mem_map.1 hz
    obtain ⟨h4, h5⟩ := mem_lst.1 ha
    simpa using (mem_li.2 (mem_lst.2 ⟨h4, hpr a h4 h5⟩))
  have k1 := lst_len n p
  have k2 := lst_len n q
  have k3 := lst_len n r
  have hB0 : Below w.heap.size w ((w.alloc (.cells #[.int .i64 n, v] 24)).alloc (.cells #[.slice n1 n2 n3] 22)) := (balloc w _).alloc (by simp) _
  have hX0 : BoxG ((w.alloc (.cells #[.int .i64 n, v] 24)).alloc (.cells #[.slice n1 n2 n3] 22)) w.heap.size n v := (blk0 _ _).alloc _
  have hN0 := Boxed.new (w.alloc (.cells #[.int .i64 n, v] 24)) 22 (.slice n1 n2 n3)
  rw [World.size_alloc] at hN0
  obtain ⟨w0, hw0⟩ : ∃ w0, w0 = (w.alloc (.cells #[.int .i64 n, v] 24)).alloc (.cells #[.slice n1 n2 n3] 22) := ⟨_, rfl⟩
  rw [← hw0] at hB0 hX0 hN0
  have HM1 := hide (fun W (h : Below w.heap.size w W) => mde_good n e v u1 zs l p W (hv.below h) hg (h1.below h) (hT.below h) hl hp)
  have HM2 := hide (fun W (h : Below w.heap.size w W) => mde_good n e v u2 zs m q W (hv.below h) hg (h2.below h) (hT.below h) hm hq)
  have HM3 := hide (fun W x (h : Below w.heap.size w W) (hx : Sl W x (li (lst n o))) => mde_good n e v x zs (li (lst n o)) r W (hv.below h) hg hx (hT.below h) (lst_fault n o) hr)
  have HS3 := hide (fun W (h : Below w.heap.size w W) => rset_any n v (.slice n1 n2 n3) zs k W (hv.below h) (h3.below h))
  rw [sfault_l hg, hk] at HS3
  simp only at HS3
  have HLF := hide (fun W x (s : Nat → Bool) (hr : Sl W x (li (lst n s))) => rlist_any n v x (li (lst n s)) W hn hr)
  simp only [lst_fault] at HLF
  have HDED := hide hded
  have HPAR := hide hpar
  have HPR := hide hpr
  clear hded hpar hpr hl hm hk hp hq hr
  have HST := hide (subBegun_any w0 (hT.below hB0))
  go_enter Tryd.func7, Tryd.ntmps7
  go_wp2_with fail
  rw [← hw0]
  clear hw0
  refine HST.out.mono ?_
  rintro x w1 ⟨rfl, hb1⟩
  have hB1 := bcat2 hB0 hb1
  obtain ⟨c0, c1, _, _⟩ := (blk_below hX0 hb1).two
  go_wp2_with fail
  clear c0 c1
  refine (HM1.out w1 hB1).mono ?_
  rintro x w2 ⟨ra, rfl, hra, hb2⟩
  have hrs := hra.sl
  obtain ⟨r1, r2, r3, rfl⟩ := hrs.isSlice
  clear hra
  obtain ⟨hA3, hF3, hb3⟩ := box1 w2 (.slice r1 r2 r3) (.int .i64 0) (.int .i64 0) 22
  have hb23 := bcat2 hb2 hb3
  have hB3 := bcat2 hB1 hb23
  have hX3 := blk_below hX0 (bcat2 hb1 hb23)
  have hN3 := Boxed.below hN0 (bcat2 hb1 hb23)
  have hr3 := hrs.below hb3
  obtain ⟨c0, c1, _, _⟩ := hX3.two
  go_wp2_with fail
  generalize (w2.alloc (.cells #[.slice r1 r2 r3] 22)).alloc (.cells #[.int .i64 0, .int .i64 0] 28) = w3 at *
  clear c0 c1
  refine (HM2.out w3 hB3).mono ?_
  rintro x w4 ⟨s, rfl, hs, hb4⟩
  have hss := hs.sl
  obtain ⟨s1, s2, s3, rfl⟩ := hss.isSlice
  clear hs
  have hF5 := blk0 (w := w4) (T := 28) (.int .i64 0) (.int .i64 0)
  have hb45 := bcat2 hb4 (balloc w4 (.cells #[.int .i64 0, .int .i64 0] 28))
  have hB5 := bcat2 hB3 hb45
  have hX5 := blk_below hX3 hb45
  have hF35 := blk_below hF3 hb45
  have hN5 := Boxed.below hN3 hb45
  have hA5 := Boxed.below hA3 hb45
  have hr5 := hr3.below hb45
  have hs5 := hss.below (balloc w4 (.cells #[.int .i64 0, .int .i64 0] 28))
  have h35 := h3.below hB5
  have n0 := hN5.cell
  obtain ⟨c0, c1, _, _⟩ := hX5.two
  obtain ⟨f0, f1, _, _⟩ := hF35.two
  obtain ⟨g0, g1, _, _⟩ := hF5.two
  have q1 := field27 0 0
  go_wp2_with fail
  generalize w4.alloc (.cells #[.int .i64 0, .int .i64 0] 28) = w5 at *
  clear c0 c1 f0 f1 g0 g1 n0
  refine (HS3.out w5 hB5).mono ?_
  rintro x w6 ⟨rfl, hb6⟩
  have hB6 := bcat2 hB5 hb6
  have hX6 := blk_below hX5 hb6
  have hA6 := Boxed.below hA5 hb6
  have hN6 := Boxed.below hN5 hb6
  have hr6 := hr5.below hb6
  have hs6 := hs5.below hb6
  have h36 := h35.below hb6
  go_wp2_with fail
  have HTH := hide (fun W (h : Below w6.heap.size w6 W) => those_sl (Nat.lt_of_lt_of_le (hT.below hB6).lt h.size) <| rthose_ok n 59 v #[.pointer (some ⟨w2.heap.size, 0, none⟩), .pointer (some ⟨w.heap.size + 1, 0, none⟩)] o W hn (fun a W => call63 a _ _ W) (fun W' a hW ha => by
    rw [ho]
    exact orcl_ok a w2.heap.size (w.heap.size + 1) _ _ (li (lst n p)) k W' (Boxed.below hA6 (bcat2 h hW)) (hr6.below (bcat2 h hW)) (Boxed.below hN6 (bcat2 h hW)) (h36.below (bcat2 h hW))))
  go_cut [13, 14] (fun s13 s14 wx => DRel w6 (li (lst n r)) s13 s14 wx)
  case first =>
    obtain ⟨c0, c1, _, _⟩ := hX6.two
    have hS : ∀ W, Below w6.heap.size w6 W → (Below w6.heap.size w6 W ∧ W.cell? ⟨w.heap.size, 0, none⟩ = some (.int .i64 n) ∧ W.cell? ⟨w.heap.size, 1, none⟩ = some v) := fun W h => ⟨h, below_cell h c0, below_cell h c1⟩
    have hS0 := hS _ (bdrew (Below.refl _ w6))
    have hss := set_same
    go_region_held3 (fun W => Below w6.heap.size w6 W ∧ W.cell? ⟨w.heap.size, 0, none⟩ = some (.int .i64 n) ∧ W.cell? ⟨w.heap.size, 1, none⟩ = some v)
      (first | exact hS0 | assumption | exact hS _ (bcat2 (And.left ‹_›) hl1) | exact hS _ (bcat2 (And.left ‹_›) (balloc _ _)))
      (first
        | (go_at_call 33; refine (HTH.out _ (And.left ‹_›)).mono ?_; rintro e1 U1 ⟨t1, t2, t3, rfl, ht1, hl1⟩; have hls := hl1; have hp1 := cell_eq hl1; have hq1 := frozen_eq hl1)
        | (go_at_call 17; refine (HM3.out _ (.slice t1 t2 t3) (bcat2 hB6 (And.left ‹_›)) (by first | exact ht1 | exact ht1.alloc _)).mono ?_; rintro e2 U2 ⟨t9, rfl, ht9, hl1⟩; obtain ⟨y1, y2, y3, rfl⟩ := ht9.sl.isSlice; have hl2 := hl1; have hU2 := bcat2 (And.left ‹_›) hl1; have hp2 := cell_eq hl1; have hq2 := frozen_eq hl1))
    all_goals (go_wp2; go_meet)
    all_goals (refine ⟨_, _, _, _, rfl, rfl, ?_, ?_, ?_⟩)
    all_goals (first
      | exact hU2
      | exact bcat2 hU2 (balloc _ _)
      | exact ht9.sl
      | exact ht9.sl.alloc _
      | exact blk0 _ _
      | exact blk_below (blk0 _ _) hl2
      | exact blk_below (blk_below (blkd _ _) hls) hl2)
  case rest =>
    obtain ⟨fb, x1, x2, x3, rfl, rfl, hFx, hcx, hbx⟩ := hcut
    obtain ⟨w9, hw9⟩ : ∃ w9, Below w6.heap.size w6 w9 := ⟨w6, Below.refl _ _⟩
    clear hw9 w9
    have HPT := hide (fun W (h : Sl W (.slice r1 r2 r3) (li (lst n p))) (h' : Sl W (.slice x1 x2 x3) (li (lst n r))) => parted_ok (.slice r1 r2 r3) (.slice x1 x2 x3) (li (lst n p)) (li (lst n r)) W h h')
    rw [HPAR.out] at HPT
    obtain ⟨f0, f1, _, _⟩ := hFx.two
    obtain ⟨c0, c1, _, _⟩ := (blk_below hX6 hbx).two
    have a0 := (Boxed.below hA6 hbx).cell
    go_wp2_with fail
    refine (HPT.out _ (hr6.below hbx) hcx).mono ?_
    rintro x y ⟨rfl, rfl⟩
    go_wp2_with fail
    clear c0 c1 a0
    clear f0 f1
    refine (HLF.out _ _ p (hr6.below hbx)).mono ?_
    rintro x w9 ⟨rfl, hb9⟩
    have hb69 := bcat2 hbx hb9
    obtain ⟨c0, c1, _, _⟩ := (blk_below hX6 hb69).two
    have a0 := (Boxed.below hA6 hb69).cell
    go_wp2_with fail
    clear c0 c1 a0
    refine (HLF.out _ _ q (hs6.below hb69)).mono ?_
    rintro x w10 ⟨rfl, hb10⟩
    have hb610 := bcat2 hb69 hb10
    obtain ⟨c0, c1, _, _⟩ := (blk_below hX6 hb610).two
    have a0 := (Boxed.below hA6 hb610).cell
    go_wp2_with fail
    clear c0 c1 a0
    refine (HLF.out _ _ r (hcx.below (bcat2 hb9 hb10))).mono ?_
    rintro x w11 ⟨rfl, hb11⟩
    have hb611 := bcat2 hb610 hb11
    have hB11 := bcat2 hB6 hb611
    have hX11 := blk_below hX6 hb611
    have hr11 := hr6.below hb611
    have hs11 := hs6.below hb611
    have hc11 := hcx.below (bcat2 hb9 (bcat2 hb10 hb11))
    have hv11 := hv.below hB11
    have h011 := (hT.below hB11).lt
    have a0 := (Boxed.below hA6 hb611).cell
    go_wp2_with fail
    have HB1 := hide (fun W (h : Below w11.heap.size w11 W) => those_sl (Nat.lt_of_lt_of_le h011 h.size) (both_ok (.slice s1 s2 s3) (.slice x1 x2 x3) (li (lst n q)) (li (lst n r)) W (hs11.below h) (hc11.below h) (by rw [li_len]; omega)))
    have HB2 := hide (fun W x (h : Below w11.heap.size w11 W) (hx : Sl W x (li (lst n (prq n zs e (lst n p) (lst n q))))) => those_sl (Nat.lt_of_lt_of_le h011 h.size) (both_ok x (.slice x1 x2 x3) (li (lst n (prq n zs e (lst n p) (lst n q)))) (li (lst n r)) W hx (hc11.below h) (by rw [li_len]; exact Nat.le_trans (lst_len _ _) hn)))
    simp only [both_li] at HB1 HB2
    have HP1 := hide (fun W x (h : Below w11.heap.size w11 W) (hx : Sl W x (li (lst n fun a => q a && r a))) => those_sl (Nat.lt_of_lt_of_le h011 h.size) (prdl_ok n e w.heap.size v (.slice r1 r2 r3) x zs (lst n p) (lst n fun a => q a && r a) W hg (hv11.below h) (hr11.below h) hx (blk_below hX11 h) (fun a ha => (mem_lst.1 ha).1)))
    have HP2 := hide (fun W (h : Below w11.heap.size w11 W) => those_sl (Nat.lt_of_lt_of_le h011 h.size) (prdl_ok n e w.heap.size v (.slice r1 r2 r3) (.slice s1 s2 s3) zs (lst n p) (lst n q) W hg (hv11.below h) (hr11.below h) (hs11.below h) (blk_below hX11 h) (fun a ha => (mem_lst.1 ha).1)))
    rw [HDED.out] at HP1
    have hm1 : Hid True := trivial
    have hm2 : Hid True := trivial
    have hS : ∀ W, Below w11.heap.size w11 W → (Below w11.heap.size w11 W ∧ W.cell? ⟨w2.heap.size, 0, none⟩ = some (.slice r1 r2 r3)) := fun W h => ⟨h, below_cell h a0⟩
    have hS0 := hS _ (bdrew (Below.refl _ w11))
    clear a0
    go_region_held3 (fun W => Below w11.heap.size w11 W ∧ W.cell? ⟨w2.heap.size, 0, none⟩ = some (.slice r1 r2 r3))
      (first | exact hS0 | assumption | exact hS _ (bcat2 (And.left ‹_›) hl1))
      (first
        | (go_at_call 56; clear hm1; refine (HB1.out _ (And.left ‹_›)).mono ?_; rintro e1 U1 ⟨a1, a2, a3, rfl, ha1, hl1⟩)
        | (go_at_call 61; clear hm2; refine (HP1.out _ _ (And.left ‹_›) ha1).mono ?_; rintro e2 U2 ⟨b1, b2, b3, rfl, hy1, hl1⟩)
        | (go_at_call 61; refine (HP2.out _ (And.left ‹_›)).mono ?_; rintro e3 U3 ⟨d1, d2, d3, rfl, hz1, hl1⟩; have hy3 := hy1.below hl1)
        | (go_at_call 56; refine (HB2.out _ _ (And.left ‹_›) hz1).mono ?_; rintro e4 U4 ⟨t1, t2, t3, rfl, ht1, hl1⟩; have hy4 := hy3.below hl1)
        | (go_at_call 23; refine (ints_any _ _ _ _ _ hy4 ht1).mono ?_; rintro e5 U5 ⟨rfl, hl1⟩))
    all_goals (
      have hB9 := And.left ‹Below w11.heap.size w11 U5 ∧ _›
      clear hS hS0
      go_wp2
      go_ret
      exact ⟨by simp, bcat2 hB11 hB9⟩)

theorem dedekind_law (N : Int) (v u1 u2 u3 : Value) (zs l m k : List Int) (w : World) (hv : Sl w v zs) (h1 : Sl w u1 l) (h2 : Sl w u2 m) (h3 : Sl w u3 k) (hT : Tab w) :
    Calls Tryd.prog 7 #[.agg #[.int .i64 N, v], u1, u2, u3] w fun x w' => x = .returned (.bool true) ∧ Below w.heap.size w w' := by
  by_cases hc : (sfault N zs l).1 ≠ 0 ∨ (sfault N zs m).1 ≠ 0 ∨ (sfault N zs k).1 ≠ 0
  · exact dedekind_bad N v u1 u2 u3 zs l m k w hv h1 h2 h3 hT hc
  · have h4 : (sfault N zs l).1 = 0 := Decidable.not_not.1 fun h => hc (.inl h)
    have h5 : (sfault N zs m).1 = 0 := Decidable.not_not.1 fun h => hc (.inr (.inl h))
    have h6 : (sfault N zs k).1 = 0 := Decidable.not_not.1 fun h => hc (.inr (.inr h))
    obtain ⟨n, e, rfl, hg, hl, _⟩ := sfault_zero h4
    rw [sfault_l hg] at h5 h6
    exact dedekind_good n e v u1 u2 u3 zs l m k w hv hg h1 h2 h3 hT hl (lfault_zero h5).1 (lfault_zero h6).1
end Go.Proofs.YtoiemlnmcfmakaaDoor
