/- TableFactors returns true at every two tables. -/
import Derived.Test.YtpcgacelljbkdaaBegun
import Derived.Test.YtpcgacelljbkdaaFrame
import Derived.Test.YtpcgacelljbkdaaProduct
import Derived.Test.YtpcgacelljbkdaaExpo
namespace Go.Proofs.Ytpcgacelljbkdaa
open Go Go.RowKit

theorem abelian_ok {n e : Nat} {zs : List Int} (h : IsGrp n zs e) (v : Value) (w : World) (hv : Sl w v zs) :
    Calls Try.prog 17 #[.agg #[.int .i64 n, v]] w fun r w' => r = .returned (.tuple #[.bool (comB n zs), .agg #[.int .i64 0, .int .i64 0]]) ∧ Below w.heap.size w w' := by
  have h1 := abelian_any n v zs w hv
  rw [gfault_of_grp h, Int.toNat_natCast, show okB 0 (comB n zs) = comB n zs by simp [okB]] at h1
  exact h1

set_option maxRecDepth 100000 in
set_option maxHeartbeats 8000000 in
theorem factors_any (N M : Int) (u v : Value) (zs ys : List Int) (w : World) (hu : SlA w u zs) (hv : SlA w v ys) :
    Calls Try.prog 11 #[.agg #[.int .i64 N, u], .agg #[.int .i64 M, v]] w fun r w' => r = .returned (.bool true) ∧ Below w.heap.size w w' := by
  obtain ⟨w0, hw0⟩ : ∃ w0, w0 = (w.alloc (.cells #[.int .i64 N, u] 24)).alloc (.cells #[.int .i64 M, v] 24) := ⟨_, rfl⟩
  have hB0 : Below w.heap.size w w0 := by rw [hw0]; exact (balloc w _).alloc (by simp) _
  have hg0 : BoxG w0 w.heap.size N u := by rw [hw0]; exact (blk0 _ _).alloc _
  have hh0 : BoxG w0 (w.heap.size + 1) M v := by rw [hw0]; exact blkNew _ _ _ _ _ (by simp)
  have hu0 := hu.up hB0 (by have := hg0.lt; omega)
  have hv0 := hv.up hB0 (by have := hg0.lt; omega)
  obtain ⟨g0, g1, _, _⟩ := hg0.two
  obtain ⟨h0, h1, _, _⟩ := hh0.two
  rcases prod_any N M zs ys u v with ⟨n, m, e, d, rfl, rfl, hg, hh, h60⟩ | ⟨c, i, hc, hbad⟩
  · have hP := prod_grp hg hh h60
    have Hp := hide (fun W (a : Sl W u zs) (b : Sl W v ys) => prod_ok hg hh h60 u v W a b)
    have Hog := hide (fun W (a : Sl W u zs) => orders_ok n e u zs W hg a)
    have Hoh := hide (fun W (a : Sl W v ys) => orders_ok m d v ys W hh a)
    have Hop := hide (fun (x : Value) W (a : Sl W x (mkT (n * m) (prodF n m zs ys))) => orders_ok (n * m) (e * m + d) x _ W hP a)
    have Hag := hide (fun W (a : Sl W u zs) => abelian_ok hg u W a)
    have Hah := hide (fun W (a : Sl W v ys) => abelian_ok hh v W a)
    have Hap := hide (fun (x : Value) W (a : Sl W x (mkT (n * m) (prodF n m zs ys))) => abelian_ok hP x W a)
    rw [com_prod hg hh] at Hap
    have HL1 := hide (ordL_len n zs e)
    have HL2 := hide (ordL_len m ys d)
    have HL3 := hide (ordL_len (n * m) (mkT (n * m) (prodF n m zs ys)) (e * m + d))
    have HO1 := hide (fun k (hk : k < n) => And.intro (show (ordL n zs e)[k]?.getD 0 = (ordN n zs e k : Int) by simp [ordL, hk]) (And.intro (ord_pos (n := n) (zs := zs) (e := e) k) (ord_le hg hk)))
    have HO2 := hide (fun k (hk : k < m) => And.intro (show (ordL m ys d)[k]?.getD 0 = (ordN m ys d k : Int) by simp [ordL, hk]) (And.intro (ord_pos (n := m) (zs := ys) (e := d) k) (ord_le hh hk)))
    have HO3 := hide (fun k (hk : k < n * m) => And.intro (show (ordL (n * m) (mkT (n * m) (prodF n m zs ys)) (e * m + d))[k]?.getD 0 = (Nat.lcm (ordN n zs e (k / m)) (ordN m ys d (k % m)) : Int) by rw [← ord_prod hg hh h60 hk]; simp [ordL, hk]) (show Nat.lcm (ordN n zs e (k / m)) (ordN m ys d (k % m)) ≤ 60 by rw [← ord_prod hg hh h60 hk]; exact Nat.le_trans (ord_le hP hk) h60))
    have hn60 := hg.tab.le
    have hm60 := hh.tab.le
    have hnp := hg.tab.pos
    have hmp := hh.tab.pos
    have hmul : (n : Int) * (m : Int) = ((n * m : Nat) : Int) := by rw [Int.natCast_mul]
    have HPP := hide (fun k (hk : k < n * m) => pair_parts hk)
    have hq1 : 1 ≤ n * m := hP.tab.pos
    generalize mkT (n * m) (prodF n m zs ys) = T at *
    generalize ordL (n * m) T (e * m + d) = L3 at *
    generalize ordL n zs e = L1 at *
    generalize ordL m ys d = L2 at *
    generalize ordN n zs e = o1 at *
    generalize ordN m ys d = o2 at *
    generalize n * m = q at *
    generalize comB n zs = bg at *
    generalize comB m ys = bh at *
    clear hg hh hP
    go_enter Try.func11, Try.ntmps11
    go_wp2_with fail
    rw [← hw0]
    clear hw0
    refine (begun_any w0).mono ?_
    rintro r w1 ⟨rfl, hb1⟩
    have k0 := below_cell hb1 g0
    have k1 := below_cell hb1 g1
    have k2 := below_cell hb1 h0
    have k3 := below_cell hb1 h1
    go_wp2_with fail
    refine (Hp.out _ (hu0.below hb1) (hv0.below hb1)).mono ?_
    rintro r w2 ⟨x, rfl, hx2, hb2⟩
    obtain ⟨a9, cap9, _, _, rfl, _⟩ := id hx2
    generalize T.length = tl at *
    have hX2 : Blk ((w2.alloc (.cells #[.int .i64 q, .slice a9 tl cap9] 24)).alloc (.cells #[.int .i64 0, .int .i64 0] 27)) w2.heap.size 24 [.int .i64 q, .slice a9 tl cap9] := (blk0 _ _).alloc _
    have N6 : Two ((w2.alloc (.cells #[.int .i64 q, .slice a9 tl cap9] 24)).alloc (.cells #[.int .i64 0, .int .i64 0] 27)) (w2.heap.size + 1) := by
      have := Two.new (w2.alloc (.cells #[.int .i64 q, .slice a9 tl cap9] 24)); rwa [World.size_alloc] at this
    have hA2 : Below w2.heap.size w2 ((w2.alloc (.cells #[.int .i64 q, .slice a9 tl cap9] 24)).alloc (.cells #[.int .i64 0, .int .i64 0] 27)) := (balloc w2 _).alloc (by simp) _
    have hx2 := hx2.below hA2
    have to2 := bcat2 hb1 (bcat2 hb2 hA2)
    clear k0 k1 k2 k3
    have k0 := below_cell to2 g0
    have k1 := below_cell to2 g1
    have k2 := below_cell to2 h0
    have k3 := below_cell to2 h1
    obtain ⟨x0, x1, _, _⟩ := hX2.two
    obtain ⟨_, f0, _, _, _, _, _⟩ := id N6
    go_wp2_with fail
    generalize (w2.alloc (.cells #[.int .i64 q, .slice a9 tl cap9] 24)).alloc (.cells #[.int .i64 0, .int .i64 0] 27) = wA at *
    have huA := hu0.below to2
    have hvA := hv0.below to2
    have hBA := bcat hB0 to2 hB0.size
    clear hb1 hb2 hA2 to2 hu0 hv0 g0 g1 h0 h1 hg0 hh0 f0 hB0
    refine (Hog.out _ huA).mono ?_
    rintro r w3 ⟨r1, rfl, hr1, hb3⟩
    have al3 := bcat2 hb3 (balloc w3 (.cells #[.int .i64 0, .int .i64 0] 27))
    have N8 := Two.new w3
    have hr1 := hr1.below (balloc w3 (.cells #[.int .i64 0, .int .i64 0] 27))
    have j2 := below_cell al3 k2
    have j3 := below_cell al3 k3
    go_wp2_with fail
    refine (Hoh.out _ (hvA.below al3)).mono ?_
    rintro r w4 ⟨r2, rfl, hr2, hb4⟩
    have al4 := bcat2 hb4 (balloc w4 (.cells #[.int .i64 0, .int .i64 0] 27))
    have to4 := bcat2 al3 al4
    have N10 := Two.new w4
    have hr2 := hr2.below (balloc w4 (.cells #[.int .i64 0, .int .i64 0] 27))
    have y0 := below_cell to4 x0
    have y1 := below_cell to4 x1
    clear j2 j3
    go_wp2_with fail
    refine (Hop.out _ _ (hx2.below to4)).mono ?_
    rintro r w5 ⟨r3, rfl, hr3, hb5⟩
    have al5 := bcat2 hb5 (balloc w5 (.cells #[.int .i64 0, .int .i64 0] 27))
    have to5 := bcat2 to4 al5
    have N12 := Two.new w5
    have hr3 := hr3.below (balloc w5 (.cells #[.int .i64 0, .int .i64 0] 27))
    have j0 := below_cell to5 k0
    have j1 := below_cell to5 k1
    clear y0 y1
    go_wp2_with fail
    refine (Hag.out _ (huA.below to5)).mono ?_
    rintro r w6 ⟨rfl, hb6⟩
    have al6 := bcat2 hb6 (balloc w6 (.cells #[.int .i64 0, .int .i64 0] 27))
    have to6 := bcat2 to5 al6
    have N14 := Two.new w6
    have j2 := below_cell to6 k2
    have j3 := below_cell to6 k3
    clear j0 j1
    go_wp2_with fail
    refine (Hah.out _ (hvA.below to6)).mono ?_
    rintro r w7 ⟨rfl, hb7⟩
    have al7 := bcat2 hb7 (balloc w7 (.cells #[.int .i64 0, .int .i64 0] 27))
    have to7 := bcat2 to6 al7
    have N16 := Two.new w7
    have y0 := below_cell to7 x0
    have y1 := below_cell to7 x1
    clear j2 j3
    go_wp2_with fail
    refine (Hap.out _ _ (hx2.below to7)).mono ?_
    rintro r w8 ⟨rfl, hb8⟩
    have al8 := bcat2 hb8 (balloc w8 (.cells #[.int .i64 0, .int .i64 0] 27))
    have to8 := bcat2 to7 al8
    have N18 := Two.new w8
    clear y0 y1
    obtain ⟨_, b8, _, _, _, _, _⟩ := N8.below (bcat2 al4 (bcat2 al5 (bcat2 al6 (bcat2 al7 al8))))
    obtain ⟨_, b10, _, _, _, _, _⟩ := N10.below (bcat2 al5 (bcat2 al6 (bcat2 al7 al8)))
    obtain ⟨_, b12, _, _, _, _, _⟩ := N12.below (bcat2 al6 (bcat2 al7 al8))
    obtain ⟨_, b14, _, _, _, _, _⟩ := N14.below (bcat2 al7 al8)
    obtain ⟨_, b16, _, _, _, _, _⟩ := N16.below al8
    obtain ⟨_, b18, _, _, _, _, _⟩ := N18
    have hr1 := hr1.below (bcat2 al4 (bcat2 al5 (bcat2 al6 (bcat2 al7 al8))))
    have hr2 := hr2.below (bcat2 al5 (bcat2 al6 (bcat2 al7 al8)))
    have hr3 := hr3.below (bcat2 al6 (bcat2 al7 al8))
    have y0 := below_cell to8 x0
    have y1 := below_cell to8 x1
    have j0 := below_cell to8 k0
    have j1 := below_cell to8 k1
    have j2 := below_cell to8 k2
    have j3 := below_cell to8 k3
    have hB8 := bcat hBA to8 hBA.size
    obtain ⟨a1, cap1, pb1, po1, rfl, hd1, hp1, hc1, hm1⟩ := hr1
    obtain ⟨a2, cap2, pb2, po2, rfl, hd2, hp2, hc2, hm2⟩ := hr2
    obtain ⟨a3, cap3, pb3, po3, rfl, hd3, hp3, hc3, hm3⟩ := hr3
    rw [HL1.out] at hc1 ⊢
    rw [HL2.out] at hc2 ⊢
    rw [HL3.out] at hc3 ⊢
    obtain rfl := hd1.at_ (by rw [HL1.out]; omega)
    obtain rfl := hd2.at_ (by rw [HL2.out]; omega)
    obtain rfl := hd3.at_ (by rw [HL3.out]; omega)
    have HE1 := hide (fun k (hk : k < n) => (hd1.cell k (by rw [HL1.out]; exact hk)).trans (by rw [(HO1.out k hk).1]))
    have HE2 := hide (fun k (hk : k < m) => (hd2.cell k (by rw [HL2.out]; exact hk)).trans (by rw [(HO2.out k hk).1]))
    have HE3 := hide (fun k (hk : k < q) => (hd3.cell k (by rw [HL3.out]; exact hk)).trans (by rw [(HO3.out k hk).1]))
    clear hd1 hd2 hd3 al3 al4 al5 al6 al7 al8 to4 to5 to6 to7 to8 hb3 hb4 hb5 hb6 hb7 hb8 N8 N10 N12 N14 N16 k0 k1 k2 k3 x0 x1 Hog Hoh Hop Hag Hah Hap Hp huA hvA hBA hX2 N6 hx2
    unfold maxLen at hm1 hm2 hm3
    cases bg <;> cases bh
    all_goals (
      go_wp2
      generalize w8.alloc (.cells #[.int .i64 0, .int .i64 0] 27) = w9 at *
      go_loopw [19] (fun i wr => ∃ k : Nat, k ≤ q ∧ i = .int .i64 k ∧ Below w9.heap.size w9 wr) (fun i _ => q - (intOf i).toNat)
      case atStart => exact ⟨0, Nat.zero_le _, rfl, Below.refl _ _⟩
      case round =>
        obtain ⟨k, hk, rfl, hB⟩ := hrel
        by_cases hlt : k < q
        · obtain ⟨s1, s2, _⟩ := HPP.out k hlt
          obtain ⟨_, o11, o12⟩ := HO1.out _ s1
          obtain ⟨_, o21, o22⟩ := HO2.out _ s2
          obtain ⟨_, o31⟩ := HO3.out k hlt
          have e1 := below_cell hB (HE1.out _ s1)
          have e2 := below_cell hB (HE2.out _ s2)
          have e3 := HE3.out k hlt
          have z0 := below_cell hB y0
          have z1 := below_cell hB y1
          have z2 := below_cell hB j2
          have z3 := below_cell hB j3
          have xq := ndiv (x := k) (y := m)
          have xr := nmod (x := (k : Int)) (y := k) (m := m) rfl
          have hm0 : ¬ ((m : Int) = 0) := by omega
          have hmn : ¬ m = 0 := by omega
          have hki : (k : Int) < (q : Int) := by omega
          have hdn := lcm_down (o1 (k / m)) (o2 (k % m))
          have hgp : 0 < Nat.gcd (o1 (k / m)) (o2 (k % m)) := Nat.gcd_pos_of_pos_left _ o11
          generalize k / m = ka at *
          generalize k % m = kb at *
          generalize Nat.lcm (o1 ka) (o2 kb) = lv at *
          generalize o1 ka = v1 at *
          generalize o2 kb = v2 at *
          have HG := hide (fun W => gcd_ok v1 v2 W (by omega) (by omega))
          generalize Nat.gcd v1 v2 = g at *
          have hq : (v1 : Int).tdiv (g : Int) = ((v1 / g : Nat) : Int) := ndiv
          have hql : v1 / g ≤ v1 := Nat.div_le_self _ _
          generalize v1 / g = vq at *
          have hmu : (vq : Int) * (v2 : Int) = (lv : Int) := by rw [← hdn, Int.natCast_mul]
          have hgn : ¬ ((g : Int) = 0) := by omega
          have hgn2 : ¬ g = 0 := by omega
          have hi1 : (ka : Int) < (n : Int) := by omega
          have hi2 : (kb : Int) < (m : Int) := by omega
          have hw1 : IntKind.i64.wrap (lv : Int) = (lv : Int) := by rw [IntKind.wrap_i64]; omega
          have hw2 : IntKind.i64.wrap (vq : Int) = (vq : Int) := by rw [IntKind.wrap_i64]; omega
          have d1 : decide ((v1 : Int) < 1) = false := decide_eq_false (by omega)
          have d2 : decide ((v2 : Int) < 1) = false := decide_eq_false (by omega)
          have hS : ∀ W, Below w9.heap.size w9 W → (Below w9.heap.size w9 W ∧ W.cell? ⟨pb3, po3 + k, none⟩ = some (.int .i64 lv)) := fun W h => ⟨h, below_cell h e3⟩
          have hS0 := fun nq => hS _ (bdrew (bdrewN hB nq))
          clear hdn
          go_wp2_with fail
          go_quiet (fail)
          go_wp2_with fail
          clear e1 e2 z0 z1 z2 z3 xq xr
          go_region_held3 (fun W => Below w9.heap.size w9 W ∧ W.cell? ⟨pb3, po3 + k, none⟩ = some (.int .i64 lv))
            (first | exact hS0 _ | assumption | exact hS _ (bcat2 (And.left ‹_›) hl1))
            (first | (go_at_call 34; refine (HG.out _).mono ?_; rintro r V2 ⟨rfl, hl1⟩))
          obtain ⟨hB4, _⟩ := ‹Below w9.heap.size w9 V2 ∧ _›
          clear hS hS0
          go_wp2
          go_roundw
          case rel => exact ⟨k + 1, by omega, by go_num, hB4⟩
          case measure => simp [intOf]; omega
        · have hkn : k = q := by omega
          subst hkn
          have z0 := below_cell hB y0
          have z1 := below_cell hB y1
          go_wp2
          go_ret
          exact ⟨rfl, bcat hB8 hB hB8.size⟩)
  · have HB := hide hbad
    have hcb : (c != 0) = true := by simpa using hc
    clear hbad
    go_enter Try.func11, Try.ntmps11
    go_wp2_with fail
    rw [← hw0]
    clear hw0
    refine (begun_any w0).mono ?_
    rintro r w1 ⟨rfl, hb1⟩
    have k0 := below_cell hb1 g0
    have k1 := below_cell hb1 g1
    have k2 := below_cell hb1 h0
    have k3 := below_cell hb1 h1
    go_wp2_with fail
    refine (HB.out _ (hu0.below hb1) (hv0.below hb1)).mono ?_
    rintro r w2 ⟨rfl, hb2⟩
    have hBz := bcat hB0 (bcat2 hb1 hb2) hB0.size
    clear k0 k1 k2 k3
    go_wp2
    go_ret
    exact ⟨rfl, (hBz.alloc hBz.size _).alloc (by have := hBz.size; simp; omega) _⟩
end Go.Proofs.Ytpcgacelljbkdaa
