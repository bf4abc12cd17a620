/- PermSigns returns true at every two lists. -/
import Derived.Test.YtjchmhngfnlbhaaDoorShp
import Derived.Test.YtjchmhngfnlbhaaDoorBegun
import Derived.Test.YtjchmhngfnlbhaaDoorOwn
namespace Go.Proofs.YtjchmhngfnlbhaaDoor
open Go Go.RowKit Go.Shelf

theorem Sl.shp {w : World} {v : Value} {zs : List Int} (h : Sl w v zs) : ∃ a c, v = .slice a zs.length c := by
  obtain ⟨a, cap, pb, po, hv, _⟩ := h
  exact ⟨a, cap, hv⟩
theorem Sl.psz {w : World} {v : Value} {zs : List Int} (h : Sl w v zs) : 0 < w.heap.size := by
  obtain ⟨a, cap, pb, po, hv, _, hp, _⟩ := h
  omega
/-- Natural numbers as ints. -/
def nz (l : List Nat) : List Int := l.map fun (x : Nat) => (x : Int)
theorem pts_sl {w : World} {base : Nat} {v : Value} {l : List Nat} (h : w.ownsRow base 3 1 v l.length (pts l)) (h0 : 0 < w.heap.size) : Sl w v (nz l) := by
  refine Sl.of_own (base := base) ?_ h0
  have e : (nz l).map (Value.int .i64) = pts l := by unfold nz pts; rw [List.map_map]; rfl
  rw [e]; simpa [nz] using h
theorem shape_sl (u : Value) (zs : List Int) (w : World) (hu : Sl w u zs) (hperm : IsPerm zs) (hl : zs.length ≤ 1000) :
    Calls Tryd.prog 11 #[u] w fun e w' => (∃ r, e = .returned (.tuple #[r, .agg #[.int .i64 0, .int .i64 0]]) ∧ Sl w' r (nz (shape zs))) ∧ Below w.heap.size w w' := by
  have h0 := hu.psz
  refine (shape_ok u zs w hu hperm hl).mono ?_
  rintro e w' ⟨r, rfl, h1, h2⟩
  exact ⟨⟨r, rfl, pts_sl h1 (by have := h2.size; omega)⟩, h2⟩
theorem ints_true (u v : Value) (xs ys : List Int) (w : World) (hu : Sl w u xs) (hv : Sl w v ys) (h : xs = ys) :
    Calls Tryd.prog 15 #[u, v] w fun e w' => e = .returned (.bool true) ∧ Below w.heap.size w w' := by
  have := ints_any u v xs ys w hu hv
  rw [decide_eq_true h] at this; exact this
theorem mul_good (u v : Value) (xs ys : List Int) (w : World) (hu : Sl w u xs) (hv : Sl w v ys) (hx : IsPerm xs) (hy : IsPerm ys) (hl : xs.length = ys.length) (h1000 : xs.length ≤ 1000) :
    Calls Tryd.prog 32 #[u, v] w fun e w' => (∃ r, e = .returned (.tuple #[r, .agg #[.int .i64 0, .int .i64 0]]) ∧ Sl w' r (mulL xs ys)) ∧ Below w.heap.size w w' := by
  refine (mul_ok u v xs ys w hu hv hx hy hl h1000).mono ?_
  rintro e w' ⟨r, rfl, h1, h2⟩
  exact ⟨⟨r, rfl, h1⟩, h2⟩
theorem inv_good (u : Value) (xs : List Int) (w : World) (hu : Sl w u xs) (hx : IsPerm xs) (h1000 : xs.length ≤ 1000) :
    Calls Tryd.prog 33 #[u] w fun e w' => (∃ r, e = .returned (.tuple #[r, .agg #[.int .i64 0, .int .i64 0]]) ∧ Sl w' r (invL xs)) ∧ Below w.heap.size w w' := by
  refine (inv_ok u xs w hu hx h1000).mono ?_
  rintro e w' ⟨r, rfl, h1, h2⟩
  exact ⟨⟨r, rfl, h1⟩, h2⟩

set_option maxRecDepth 100000 in
set_option maxHeartbeats 4000000 in
theorem signs_bad (u v : Value) (xs ys : List Int) (w : World) (hu : Sl w u xs) (hv : Sl w v ys) (htab : Tab w.heap.size w) (h : (twof xs ys).1 ≠ 0) :
    Calls Tryd.prog 7 #[u, v] w fun e w' => e = .returned (.bool true) ∧ Below w.heap.size w w' := by
  obtain ⟨ua, uc, hue⟩ := hu.shp
  obtain ⟨va, vc, hve⟩ := hv.shp
  subst hue hve
  have HTab := hide (fun (W : World) (h : Below w.heap.size w W) => (htab.below h).mono h.size)
  go_enter Tryd.func7, Tryd.ntmps7
  go_wp2_with fail
  refine (begun_any w htab).mono ?_
  rintro x w1 ⟨rfl, hB⟩
  have hge := hB.size
  have hsu := hu.below hB
  have hsv := hv.below hB
  clear hu hv htab
  go_wp2_with fail
  refine (twoFault_any _ _ xs ys w1 hsu hsv).mono ?_
  rintro x w2 ⟨rfl, hb2⟩
  replace hsu := hsu.below hb2
  replace hsv := hsv.below hb2
  replace hB := bcat hB hb2 hge
  replace hge := hB.size
  have hcb : ((twof xs ys).1 != 0) = true := by simpa using h
  generalize (twof xs ys).1 = c at *
  generalize (twof xs ys).2 = d at *
  have hfd := fun (W : World) => field25 c d W
  go_wp2
  go_ret
  exact ⟨rfl, hB⟩

set_option maxRecDepth 100000 in
set_option maxHeartbeats 4000000 in
theorem signs_good (u v : Value) (xs ys : List Int) (w : World) (hu : Sl w u xs) (hv : Sl w v ys) (htab : Tab w.heap.size w) (h : (twof xs ys).1 = 0) :
    Calls Tryd.prog 7 #[u, v] w fun e w' => e = .returned (.bool true) ∧ Below w.heap.size w w' := by
  obtain ⟨ua, uc, hue⟩ := hu.shp
  obtain ⟨va, vc, hve⟩ := hv.shp
  subst hue hve
  have HTab := hide (fun (W : World) (h : Below w.heap.size w W) => (htab.below h).mono h.size)
  obtain ⟨px, py, lxy, l1000⟩ := twof_zero h
  have htw := fun (W : World) (a : Sl W (.slice ua xs.length uc) xs) (b : Sl W (.slice va ys.length vc) ys) => twoFault_any _ _ xs ys W a b
  rw [twof_ok px py lxy l1000] at htw
  have HTW := hide htw
  have pm := mulL_perm px py lxy
  have pn := mulL_perm py px lxy.symm
  have HM := hide pm
  have HN := hide pn
  have HM1 : Hid ((mulL xs ys).length ≤ 1000) := hide (by rw [mulL_len]; exact l1000)
  have HN1 : Hid ((mulL ys xs).length ≤ 1000) := hide (by rw [mulL_len, ← lxy]; exact l1000)
  have HI := hide (invL_perm px)
  have HI1 : Hid ((invL xs).length ≤ 1000) := hide (by rw [invL_len]; exact l1000)
  have HSI := hide (sg_inv px)
  have HSM := hide (sg_mul px py lxy)
  have hlp := swap_lens px py lxy
  have HLC := hide (lcmL_perm hlp)
  have HSH : Hid (nz (shape (mulL xs ys)) = nz (shape (mulL ys xs))) := hide (by rw [shape, shape, shL_eq hlp])
  have hs1 := sg_one xs
  have hs2 := sg_one ys
  have HX := hide px
  have HY := hide py
  have HXY := hide lxy
  have H1000 := hide l1000
  have H1001 : Hid (ys.length ≤ 1000) := hide (by omega)
  clear px py lxy l1000 htw pm pn hlp h
  go_enter Tryd.func7, Tryd.ntmps7
  go_wp2_with fail
  refine (begun_any w htab).mono ?_
  rintro x w1 ⟨rfl, hB⟩
  have hge := hB.size
  have hsu := hu.below hB
  have hsv := hv.below hB
  clear hu hv htab
  go_wp2_with fail
  refine (HTW.out w1 hsu hsv).mono ?_
  rintro x w2 ⟨rfl, hb2⟩
  replace hsu := hsu.below hb2
  replace hsv := hsv.below hb2
  replace hB := bcat hB hb2 hge
  replace hge := hB.size
  have hfd := fun (W : World) => field25 0 0 W
  go_wp2_with fail
  refine (mul_good _ _ xs ys _ hsu hsv HX.out HY.out HXY.out H1000.out).mono ?_
  rintro x w4 ⟨⟨rm, rfl, hrm⟩, hb4⟩
  replace hsu := hsu.below hb4
  replace hsv := hsv.below hb4
  replace hB := bcat hB hb4 hge
  replace hge := hB.size
  obtain ⟨m1, m2, hm9⟩ := hrm.shp
  subst hm9
  have hb5 : Below w4.heap.size w4 (w4.alloc (.cells #[.int .i64 0, .int .i64 0] 26)) := balloc w4 _
  replace hsu := hsu.below hb5
  replace hsv := hsv.below hb5
  replace hrm := hrm.below hb5
  replace hB := bcat hB hb5 hge
  replace hge := hB.size
  have b1 : Two (w4.alloc (.cells #[.int .i64 0, .int .i64 0] 26)) w4.heap.size := Two.new w4
  obtain ⟨_, b16a, b16b, b16c, b16d, b16e, b16f⟩ := id b1
  go_wp2_with fail
  clear b16a b16b b16c b16d b16e b16f
  refine (mul_good _ _ ys xs _ hsv hsu HY.out HX.out HXY.out.symm H1001.out).mono ?_
  rintro x w7 ⟨⟨rn, rfl, hrn⟩, hb7⟩
  replace hsu := hsu.below hb7
  replace hsv := hsv.below hb7
  replace hrm := hrm.below hb7
  replace b1 := Two.below b1 hb7
  replace hB := bcat hB hb7 hge
  replace hge := hB.size
  obtain ⟨n1, n2, hn9⟩ := hrn.shp
  subst hn9
  have hb8 : Below w7.heap.size w7 (w7.alloc (.cells #[.int .i64 0, .int .i64 0] 26)) := balloc w7 _
  replace hsu := hsu.below hb8
  replace hsv := hsv.below hb8
  replace hrm := hrm.below hb8
  replace hrn := hrn.below hb8
  replace b1 := Two.below b1 hb8
  replace hB := bcat hB hb8 hge
  replace hge := hB.size
  have b2 : Two (w7.alloc (.cells #[.int .i64 0, .int .i64 0] 26)) w7.heap.size := Two.new w7
  obtain ⟨_, b19a, b19b, b19c, b19d, b19e, b19f⟩ := id b1
  obtain ⟨_, b29a, b29b, b29c, b29d, b29e, b29f⟩ := id b2
  go_wp2_with fail
  clear b19a b19b b19c b19d b19e b19f b29a b29b b29c b29d b29e b29f
  refine (inv_good _ xs _ hsu HX.out H1000.out).mono ?_
  rintro x w10 ⟨⟨ri, rfl, hri⟩, hb10⟩
  replace hsu := hsu.below hb10
  replace hsv := hsv.below hb10
  replace hrm := hrm.below hb10
  replace hrn := hrn.below hb10
  replace b1 := Two.below b1 hb10
  replace b2 := Two.below b2 hb10
  replace hB := bcat hB hb10 hge
  replace hge := hB.size
  obtain ⟨i1, i2, hi9⟩ := hri.shp
  subst hi9
  have hb11 : Below w10.heap.size w10 (w10.alloc (.cells #[.int .i64 0, .int .i64 0] 26)) := balloc w10 _
  replace hsu := hsu.below hb11
  replace hsv := hsv.below hb11
  replace hrm := hrm.below hb11
  replace hrn := hrn.below hb11
  replace hri := hri.below hb11
  replace b1 := Two.below b1 hb11
  replace b2 := Two.below b2 hb11
  replace hB := bcat hB hb11 hge
  replace hge := hB.size
  have b3 : Two (w10.alloc (.cells #[.int .i64 0, .int .i64 0] 26)) w10.heap.size := Two.new w10
  obtain ⟨_, b112a, b112b, b112c, b112d, b112e, b112f⟩ := id b1
  obtain ⟨_, b212a, b212b, b212c, b212d, b212e, b212f⟩ := id b2
  obtain ⟨_, b312a, b312b, b312c, b312d, b312e, b312f⟩ := id b3
  go_wp2_with fail
  clear b112a b112b b112c b112d b112e b112f b212a b212b b212c b212d b212e b212f b312a b312b b312c b312d b312e b312f
  refine (sign_ok _ xs _ hsu HX.out H1000.out).mono ?_
  rintro x w13 ⟨rfl, hb13⟩
  replace hsu := hsu.below hb13
  replace hsv := hsv.below hb13
  replace hrm := hrm.below hb13
  replace hrn := hrn.below hb13
  replace hri := hri.below hb13
  replace b1 := Two.below b1 hb13
  replace b2 := Two.below b2 hb13
  replace b3 := Two.below b3 hb13
  replace hB := bcat hB hb13 hge
  replace hge := hB.size
  obtain ⟨_, b114a, b114b, b114c, b114d, b114e, b114f⟩ := id b1
  obtain ⟨_, b214a, b214b, b214c, b214d, b214e, b214f⟩ := id b2
  obtain ⟨_, b314a, b314b, b314c, b314d, b314e, b314f⟩ := id b3
  go_wp2_with fail
  clear b114a b114b b114c b114d b114e b114f b214a b214b b214c b214d b214e b214f b314a b314b b314c b314d b314e b314f
  refine (sign_ok _ ys _ hsv HY.out H1001.out).mono ?_
  rintro x w15 ⟨rfl, hb15⟩
  replace hsu := hsu.below hb15
  replace hsv := hsv.below hb15
  replace hrm := hrm.below hb15
  replace hrn := hrn.below hb15
  replace hri := hri.below hb15
  replace b1 := Two.below b1 hb15
  replace b2 := Two.below b2 hb15
  replace b3 := Two.below b3 hb15
  replace hB := bcat hB hb15 hge
  replace hge := hB.size
  obtain ⟨_, b116a, b116b, b116c, b116d, b116e, b116f⟩ := id b1
  obtain ⟨_, b216a, b216b, b216c, b216d, b216e, b216f⟩ := id b2
  obtain ⟨_, b316a, b316b, b316c, b316d, b316e, b316f⟩ := id b3
  go_wp2_with fail
  clear b116a b116b b116c b116d b116e b116f b216a b216b b216c b216d b216e b216f b316a b316b b316c b316d b316e b316f
  refine (sign_ok _ (mulL xs ys) _ hrm HM.out HM1.out).mono ?_
  rintro x w17 ⟨rfl, hb17⟩
  replace hsu := hsu.below hb17
  replace hsv := hsv.below hb17
  replace hrm := hrm.below hb17
  replace hrn := hrn.below hb17
  replace hri := hri.below hb17
  replace b1 := Two.below b1 hb17
  replace b2 := Two.below b2 hb17
  replace b3 := Two.below b3 hb17
  replace hB := bcat hB hb17 hge
  replace hge := hB.size
  obtain ⟨_, b118a, b118b, b118c, b118d, b118e, b118f⟩ := id b1
  obtain ⟨_, b218a, b218b, b218c, b218d, b218e, b218f⟩ := id b2
  obtain ⟨_, b318a, b318b, b318c, b318d, b318e, b318f⟩ := id b3
  go_wp2_with fail
  clear b118a b118b b118c b118d b118e b118f b218a b218b b218c b218d b218e b218f b318a b318b b318c b318d b318e b318f
  refine (sign_ok _ (invL xs) _ hri HI.out HI1.out).mono ?_
  rintro x w19 ⟨rfl, hb19⟩
  replace hsu := hsu.below hb19
  replace hsv := hsv.below hb19
  replace hrm := hrm.below hb19
  replace hrn := hrn.below hb19
  replace hri := hri.below hb19
  replace b1 := Two.below b1 hb19
  replace b2 := Two.below b2 hb19
  replace b3 := Two.below b3 hb19
  replace hB := bcat hB hb19 hge
  replace hge := hB.size
  have hb20 : Below w19.heap.size w19 (w19.alloc (.cells #[.int .i64 0, .int .i64 0] 26)) := balloc w19 _
  replace hsu := hsu.below hb20
  replace hsv := hsv.below hb20
  replace hrm := hrm.below hb20
  replace hrn := hrn.below hb20
  replace hri := hri.below hb20
  replace b1 := Two.below b1 hb20
  replace b2 := Two.below b2 hb20
  replace b3 := Two.below b3 hb20
  replace hB := bcat hB hb20 hge
  replace hge := hB.size
  have b4 : Two (w19.alloc (.cells #[.int .i64 0, .int .i64 0] 26)) w19.heap.size := Two.new w19
  rw [HSI.out, HSM.out] 
  generalize sgOf (cyc xs) = sx at *
  generalize sgOf (cyc ys) = sy at *
  rcases hs1 with rfl | rfl <;> rcases hs2 with rfl | rfl
  all_goals
    obtain ⟨_, b121a, b121b, b121c, b121d, b121e, b121f⟩ := id b1
    obtain ⟨_, b221a, b221b, b221c, b221d, b221e, b221f⟩ := id b2
    obtain ⟨_, b321a, b321b, b321c, b321d, b321e, b321f⟩ := id b3
    obtain ⟨_, b421a, b421b, b421c, b421d, b421e, b421f⟩ := id b4
    go_wp2_with fail
    clear b121a b121b b121c b121d b121e b121f b221a b221b b221c b221d b221e b221f b321a b321b b321c b321d b321e b321f b421a b421b b421c b421d b421e b421f
    refine (shape_sl _ (mulL xs ys) _ hrm HM.out HM1.out).mono ?_
    rintro x w22 ⟨⟨rs, rfl, hrs⟩, hb22⟩
    replace hsu := hsu.below hb22
    replace hsv := hsv.below hb22
    replace hrm := hrm.below hb22
    replace hrn := hrn.below hb22
    replace hri := hri.below hb22
    replace b1 := Two.below b1 hb22
    replace b2 := Two.below b2 hb22
    replace b3 := Two.below b3 hb22
    replace b4 := Two.below b4 hb22
    replace hB := bcat hB hb22 hge
    replace hge := hB.size
    obtain ⟨s1, s2, hs9⟩ := hrs.shp
    subst hs9
    obtain ⟨_, b123a, b123b, b123c, b123d, b123e, b123f⟩ := id b1
    obtain ⟨_, b223a, b223b, b223c, b223d, b223e, b223f⟩ := id b2
    obtain ⟨_, b323a, b323b, b323c, b323d, b323e, b323f⟩ := id b3
    obtain ⟨_, b423a, b423b, b423c, b423d, b423e, b423f⟩ := id b4
    go_wp2_with fail
    clear b123a b123b b123c b123d b123e b123f b223a b223b b223c b223d b223e b223f b323a b323b b323c b323d b323e b323f b423a b423b b423c b423d b423e b423f
    refine (shape_sl _ (mulL ys xs) _ hrn HN.out HN1.out).mono ?_
    rintro x w24 ⟨⟨rt, rfl, hrt⟩, hb24⟩
    replace hsu := hsu.below hb24
    replace hsv := hsv.below hb24
    replace hrm := hrm.below hb24
    replace hrn := hrn.below hb24
    replace hri := hri.below hb24
    replace hrs := hrs.below hb24
    replace b1 := Two.below b1 hb24
    replace b2 := Two.below b2 hb24
    replace b3 := Two.below b3 hb24
    replace b4 := Two.below b4 hb24
    replace hB := bcat hB hb24 hge
    replace hge := hB.size
    obtain ⟨t1, t2, ht9⟩ := hrt.shp
    subst ht9
    obtain ⟨_, b125a, b125b, b125c, b125d, b125e, b125f⟩ := id b1
    obtain ⟨_, b225a, b225b, b225c, b225d, b225e, b225f⟩ := id b2
    obtain ⟨_, b325a, b325b, b325c, b325d, b325e, b325f⟩ := id b3
    obtain ⟨_, b425a, b425b, b425c, b425d, b425e, b425f⟩ := id b4
    go_wp2_with fail
    clear b125a b125b b125c b125d b125e b125f b225a b225b b225c b225d b225e b225f b325a b325b b325c b325d b325e b325f b425a b425b b425c b425d b425e b425f
    refine (order_ok _ (mulL xs ys) _ hrm HM.out HM1.out (HTab.out _ hB)).mono ?_
    rintro x w26 ⟨rfl, hb26⟩
    replace hsu := hsu.below hb26
    replace hsv := hsv.below hb26
    replace hrm := hrm.below hb26
    replace hrn := hrn.below hb26
    replace hri := hri.below hb26
    replace hrs := hrs.below hb26
    replace hrt := hrt.below hb26
    replace b1 := Two.below b1 hb26
    replace b2 := Two.below b2 hb26
    replace b3 := Two.below b3 hb26
    replace b4 := Two.below b4 hb26
    replace hB := bcat hB hb26 hge
    replace hge := hB.size
    obtain ⟨_, b127a, b127b, b127c, b127d, b127e, b127f⟩ := id b1
    obtain ⟨_, b227a, b227b, b227c, b227d, b227e, b227f⟩ := id b2
    obtain ⟨_, b327a, b327b, b327c, b327d, b327e, b327f⟩ := id b3
    obtain ⟨_, b427a, b427b, b427c, b427d, b427e, b427f⟩ := id b4
    go_wp2_with fail
    clear b127a b127b b127c b127d b127e b127f b227a b227b b227c b227d b227e b227f b327a b327b b327c b327d b327e b327f b427a b427b b427c b427d b427e b427f
    refine (order_ok _ (mulL ys xs) _ hrn HN.out HN1.out (HTab.out _ hB)).mono ?_
    rintro x w28 ⟨rfl, hb28⟩
    replace hsu := hsu.below hb28
    replace hsv := hsv.below hb28
    replace hrm := hrm.below hb28
    replace hrn := hrn.below hb28
    replace hri := hri.below hb28
    replace hrs := hrs.below hb28
    replace hrt := hrt.below hb28
    replace b1 := Two.below b1 hb28
    replace b2 := Two.below b2 hb28
    replace b3 := Two.below b3 hb28
    replace b4 := Two.below b4 hb28
    replace hB := bcat hB hb28 hge
    replace hge := hB.size
    rw [HLC.out]
    generalize Lib.decDigits (lcmL (lens (mulL ys xs))) = tx
    obtain ⟨_, b129a, b129b, b129c, b129d, b129e, b129f⟩ := id b1
    obtain ⟨_, b229a, b229b, b229c, b229d, b229e, b229f⟩ := id b2
    obtain ⟨_, b329a, b329b, b329c, b329d, b329e, b329f⟩ := id b3
    obtain ⟨_, b429a, b429b, b429c, b429d, b429e, b429f⟩ := id b4
    go_wp2_with fail
    clear b129a b129b b129c b129d b129e b129f b229a b229b b229c b229d b229e b229f b329a b329b b329c b329d b329e b329f b429a b429b b429c b429d b429e b429f
    refine (ints_true _ _ _ _ _ hrs hrt HSH.out).mono ?_
    rintro x w30 ⟨rfl, hb30⟩
    replace hsu := hsu.below hb30
    replace hsv := hsv.below hb30
    replace hrm := hrm.below hb30
    replace hrn := hrn.below hb30
    replace hri := hri.below hb30
    replace hrs := hrs.below hb30
    replace hrt := hrt.below hb30
    replace b1 := Two.below b1 hb30
    replace b2 := Two.below b2 hb30
    replace b3 := Two.below b3 hb30
    replace b4 := Two.below b4 hb30
    replace hB := bcat hB hb30 hge
    replace hge := hB.size
    obtain ⟨_, b131a, b131b, b131c, b131d, b131e, b131f⟩ := id b1
    obtain ⟨_, b231a, b231b, b231c, b231d, b231e, b231f⟩ := id b2
    obtain ⟨_, b331a, b331b, b331c, b331d, b331e, b331f⟩ := id b3
    obtain ⟨_, b431a, b431b, b431c, b431d, b431e, b431f⟩ := id b4
    go_wp2
    clear b131a b131b b131c b131d b131e b131f b231a b231b b231c b231d b231e b231f b331a b331b b331c b331d b331e b331f b431a b431b b431c b431d b431e b431f
    go_ret
    exact ⟨rfl, hB⟩
theorem signs_law (u v : Value) (xs ys : List Int) (w : World) (hu : Sl w u xs) (hv : Sl w v ys) (htab : Tab w.heap.size w) :
    Calls Tryd.prog 7 #[u, v] w fun e w' => e = .returned (.bool true) ∧ Below w.heap.size w w' := by
  by_cases h : (twof xs ys).1 = 0
  · exact signs_good u v xs ys w hu hv htab h
  · exact signs_bad u v xs ys w hu hv htab h
end Go.Proofs.YtjchmhngfnlbhaaDoor
