/- The law PermGroup, walked: at every three lists that can be read it returns true and nothing that lay has turned; condition: the library's table of powers of ten as the program lays it. -/
import Derived.Test.YtpcfljkniodlbaaDoorMul
import Derived.Test.YtpcfljkniodlbaaDoorBegun
namespace Go.Proofs.YtpcfljkniodlbaaDoor
open Go Go.RowKit

theorem setCell_self {W : World} {b o : Nat} {c : Array Value} {T : TypeId} {fz : Nat × Nat} {v : Value} (h : W.heap[b]? = some (.cells c T fz)) (hc : c.setIfInBounds o v = c) : W.setCell ⟨b, o, none⟩ v = W := by
  unfold World.setCell
  have e : ∀ (f : Obj → Obj), f (.cells c T fz) = .cells c T fz → W.heap.modify b f = W.heap := fun f hf => by
    apply Array.ext
    · simp
    · intro i h1 h2
      rw [Array.getElem_modify]
      split
      · rename_i e
        subst e
        have : W.heap[b] = .cells c T fz := by
          obtain ⟨_, h3⟩ := Array.getElem?_eq_some_iff.1 h
          exact h3
        rw [this, hf]
      · rfl
  rw [e _ (by simp [hc])]
theorem Blk.self {W : World} {b : Nat} {T : TypeId} {x y : Value} (h : Blk W b T [x, y]) : W.setCell ⟨b, 0, none⟩ x = W ∧ W.setCell ⟨b, 1, none⟩ y = W :=
  ⟨setCell_self h (by simp), setCell_self h (by simp)⟩

/-- A block, with all that the walk asks of it: what its two cells hold, and that storing the same again turns nothing. -/
structure Two (W : World) (b : Nat) : Prop where
  blk : Blk W b 25 [.int .i64 0, .int .i64 0]
  c0 : W.cell? ⟨b, 0, none⟩ = some (.int .i64 0)
  c1 : W.cell? ⟨b, 1, none⟩ = some (.int .i64 0)
  f0 : W.frozen? ⟨b, 0, none⟩ = false
  f1 : W.frozen? ⟨b, 1, none⟩ = false
  s0 : W.setCell ⟨b, 0, none⟩ (.int .i64 0) = W
  s1 : W.setCell ⟨b, 1, none⟩ (.int .i64 0) = W
theorem Two.mk' {W : World} {b : Nat} (h : Blk W b 25 [.int .i64 0, .int .i64 0]) : Two W b := ⟨h, h.cell 0, h.cell 1, h.frozen 0, h.frozen 1, h.self.1, h.self.2⟩
theorem Two.below {W W' : World} {b : Nat} (h : Two W b) (hb : Below W.heap.size W W') : Two W' b := Two.mk' (h.blk.of_eq (hb.block _ h.blk.lt))
theorem Two.alloc {W : World} {b : Nat} (h : Two W b) (o : Obj) : Two (W.alloc o) b := Two.mk' (h.blk.alloc o)
theorem Two.new (W : World) : Two (W.alloc (.cells #[.int .i64 0, .int .i64 0] 25)) W.heap.size := Two.mk' (blk0 _ _)
theorem field25 (c i : Int) (w : World) : (Instr.field 25 (.agg #[.int .i64 c, .int .i64 i]) 0).run Tryd.prog w = .ok (.int .i64 c) w := by kernel_rfl
theorem balloc (W : World) (o : Obj) : Below W.heap.size W (W.alloc o) := (Below.refl _ W).alloc (Nat.le_refl _) o

set_option maxRecDepth 100000 in
set_option maxHeartbeats 8000000 in
theorem group_ok (u v t : Value) (xs ys zs : List Int) (w : World) (hu : Sl w u xs) (hv : Sl w v ys) (ht : Sl w t zs) (htab : Tab w.heap.size w)
    (h1 : (twof xs ys).1 = 0) (h2 : (twof ys zs).1 = 0) :
    Calls Tryd.prog 8 #[u, v, t] w fun e w' => e = .returned (.bool true) ∧ Below w.heap.size w w' := by
  obtain ⟨px, py, lxy, l1000⟩ := twof_zero h1
  obtain ⟨_, pz, lyz, _⟩ := twof_zero h2
  have e1 := twof_ok px py lxy l1000
  have e2 := twof_ok py pz lyz (by omega)
  have h0 : 0 < w.heap.size := by
    obtain ⟨_, g, _, hg⟩ := htab
    omega
  obtain ⟨a, cap, pb, po, rfl, hr, hpb, hq3, hq4⟩ := id hu
  have PX := hide px
  have PY := hide py
  have PZ := hide pz
  have LXY := hide lxy
  have LYZ := hide lyz
  have E1 := hide e1
  have E2 := hide e2
  clear px py pz lxy lyz e1 e2 h1 h2 hr hpb
  unfold maxLen at hq4
  have hfd := field25
  go_enter Tryd.func8, Tryd.ntmps8
  go_wp2_with fail
  refine (begun_any w htab).mono ?_
  rintro e w1 ⟨rfl, b1⟩
  have hu1 := hu.below b1
  have hv1 := hv.below b1
  have ht1 := ht.below b1
  have B1 := b1
  have z1 : 0 < w1.heap.size := by have := b1.size; omega
  clear hu hv ht htab b1
  go_wp2_with fail
  refine (twoFault_any _ _ xs ys w1 hu1 hv1).mono ?_
  rintro e w2 ⟨rfl, b2⟩
  rw [E1.out]
  have hu2 := hu1.below b2
  have hv2 := hv1.below b2
  have ht2 := ht1.below b2
  have B2 := bcat B1 b2 B1.size
  clear hu1 hv1 ht1 b2 B1
  go_wp2_with fail
  refine (twoFault_any _ _ ys zs w2 hv2 ht2).mono ?_
  rintro e w3 ⟨rfl, b3⟩
  rw [E2.out]
  have hu3 := hu2.below b3
  have hv3 := hv2.below b3
  have ht3 := ht2.below b3
  have B3 := bcat B2 b3 B2.size
  clear hu2 hv2 ht2 b3 B2
  go_wp2_with fail
  refine (mul_ok _ _ xs ys w3 hu3 hv3 PX.out PY.out LXY.out l1000).mono ?_
  rintro e w4 ⟨ra, rfl, ha4, b4⟩
  have B4 := bcat B3 b4 B3.size
  go_wp2_with fail
  have al4 := balloc w4 (.cells #[.int .i64 0, .int .i64 0] 25)
  refine (mul_ok _ _ ys zs _ ((hv3.below b4).below al4) ((ht3.below b4).below al4) PY.out PZ.out LYZ.out (by have := LXY.out; omega)).mono ?_
  rintro e w5 ⟨rb, rfl, hb5, b5⟩
  have hu5 := ((hu3.below b4).below al4).below b5
  have ht5 := ((ht3.below b4).below al4).below b5
  have ha5 := (ha4.below al4).below b5
  have B5 := bcat (bcat B4 al4 B4.size) b5 (bcat B4 al4 B4.size).size
  have T8 := (Two.new w4).below b5
  have hlt8 : w4.heap.size < w5.heap.size := T8.blk.lt
  obtain ⟨_, c80, c81, f80, f81, s80, s81⟩ := id T8
  clear hu3 hv3 ht3 b4 B3 ha4 al4 b5 B4
  go_wp2_with fail
  have al5 := balloc w5 (.cells #[.int .i64 0, .int .i64 0] 25)
  refine (mul_ok _ _ (mulL xs ys) zs _ (ha5.below al5) (ht5.below al5) (mulL_perm PX.out PY.out LXY.out) PZ.out (by rw [mulL_len]; have := LXY.out; have := LYZ.out; omega) (by rw [mulL_len]; omega)).mono ?_
  rintro e w6 ⟨rx, rfl, hx6, b6⟩
  have hu6 := (hu5.below al5).below b6
  have hb6 := (hb5.below al5).below b6
  have B6 := bcat (bcat B5 al5 B5.size) b6 (bcat B5 al5 B5.size).size
  have T8b := (T8.alloc (.cells #[.int .i64 0, .int .i64 0] 25)).below b6
  have T10b := (Two.new w5).below b6
  clear c80 c81 f80 f81 s80 s81 T8
  obtain ⟨_, c80, c81, f80, f81, s80, s81⟩ := id T8b
  obtain ⟨_, c100, c101, f100, f101, s100, s101⟩ := id T10b
  clear hu5 ht5 ha5 hb5 al5 b6 B5
  go_wp2_with fail
  refine (mul_ok _ _ xs (mulL ys zs) _ hu6 hb6 PX.out (mulL_perm PY.out PZ.out LYZ.out) (by rw [mulL_len]; exact LXY.out) l1000).mono ?_
  rintro e w7 ⟨ry, rfl, hy7, b7⟩
  have hu7 := hu6.below b7
  have hx7 := hx6.below b7
  have B7 := bcat B6 b7 B6.size
  have T8c := T8b.below b7
  have T10c := T10b.below b7
  clear c80 c81 f80 f81 s80 s81 T8b c100 c101 f100 f101 s100 s101 T10b
  obtain ⟨_, c80, c81, f80, f81, s80, s81⟩ := id T8c
  obtain ⟨_, c100, c101, f100, f101, s100, s101⟩ := id T10c
  clear hu6 hb6 hx6 b7 B6
  go_wp2_with fail
  refine (inv_ok _ xs _ hu7 PX.out l1000).mono ?_
  rintro e w8 ⟨ri, rfl, hi8, b8⟩
  have hu8 := hu7.below b8
  have hx8 := hx7.below b8
  have hy8 := hy7.below b8
  have B8 := bcat B7 b8 B7.size
  have T8d := T8c.below b8
  have T10d := T10c.below b8
  clear c80 c81 f80 f81 s80 s81 T8c c100 c101 f100 f101 s100 s101 T10c
  obtain ⟨_, c80, c81, f80, f81, s80, s81⟩ := id T8d
  obtain ⟨_, c100, c101, f100, f101, s100, s101⟩ := id T10d
  have hlt88 := T8d.blk.lt
  have hlt108 := T10d.blk.lt
  clear hu7 hx7 hy7 b8 B7
  go_wp2_with fail
  have al8 := balloc w8 (.cells #[.int .i64 0, .int .i64 0] 25)
  refine (ints_any _ _ (mulL (mulL xs ys) zs) (mulL xs (mulL ys zs)) _ (hx8.below al8) (hy8.below al8)).mono ?_
  rintro e w9 ⟨rfl, b9⟩
  have ed : decide (mulL (mulL xs ys) zs = mulL xs (mulL ys zs)) = true := decide_eq_true (mulL_assoc PX.out LXY.out)
  rw [ed]
  have hu9 := (hu8.below al8).below b9
  have hi9 := (hi8.below al8).below b9
  have B9 := bcat (bcat B8 al8 B8.size) b9 (bcat B8 al8 B8.size).size
  have T8e := (T8d.alloc (.cells #[.int .i64 0, .int .i64 0] 25)).below b9
  have T10e := (T10d.alloc (.cells #[.int .i64 0, .int .i64 0] 25)).below b9
  have T14e := (Two.new w8).below b9
  clear ed c80 c81 f80 f81 s80 s81 T8d c100 c101 f100 f101 s100 s101 T10d hlt88 hlt108 hu8 hx8 hy8 hi8 al8 b9 B8
  go_wp2_with fail
  refine (mul_ok _ _ xs (invL xs) _ hu9 hi9 PX.out (invL_perm PX.out) (by rw [invL_len]) l1000).mono ?_
  rintro e w10 ⟨rp, rfl, hp10, b10⟩
  rw [mul_inv PX.out] at hp10
  have hu10 := hu9.below b10
  have hi10 := hi9.below b10
  have B10 := bcat B9 b10 B9.size
  have T8f := T8e.below b10
  have T10f := T10e.below b10
  have T14f := T14e.below b10
  obtain ⟨_, c80, c81, f80, f81, s80, s81⟩ := id T8f
  clear T8e T10e T14e hu9 hi9 b10 B9
  go_wp2_with fail
  refine (mul_ok _ _ (invL xs) xs _ hi10 hu10 (invL_perm PX.out) PX.out (by rw [invL_len]) (by rw [invL_len]; exact l1000)).mono ?_
  rintro e w11 ⟨rq, rfl, hq11, b11⟩
  rw [inv_mul PX.out] at hq11
  have hu11 := hu10.below b11
  have hp11 := hp10.below b11
  have B11 := bcat B10 b11 B10.size
  have T8g := T8f.below b11
  have T10g := T10f.below b11
  have T14g := T14f.below b11
  clear c80 c81 f80 f81 s80 s81
  obtain ⟨_, c100, c101, f100, f101, s100, s101⟩ := id T10g
  clear T8f T10f T14f hu10 hi10 hp10 b11 B10
  go_wp2_with fail
  refine (stays_any xs.length _ l1000 (by have := B11.size; omega)).mono ?_
  rintro e w12 ⟨rs, rfl, hs12, b12⟩
  have hu12 := hu11.below b12
  have hp12 := hp11.below b12
  have hq12 := hq11.below b12
  have B12 := bcat B11 b12 B11.size
  have T8h := T8g.below b12
  have T10h := T10g.below b12
  have T14h := T14g.below b12
  clear c100 c101 f100 f101 s100 s101 T8g T10g T14g hu11 hp11 hq11 b12 B11
  go_wp2_with fail
  refine (mul_ok _ _ (idL xs.length) xs _ hs12 hu12 (idL_perm _) PX.out (by rw [idL_len]) (by rw [idL_len]; exact l1000)).mono ?_
  rintro e w13 ⟨rw_, rfl, hw13, b13⟩
  rw [id_mul] at hw13
  have hu13 := hu12.below b13
  have hp13 := hp12.below b13
  have hq13 := hq12.below b13
  have B13 := bcat B12 b13 B12.size
  have T8i := T8h.below b13
  have T10i := T10h.below b13
  have T14i := T14h.below b13
  clear T8h T10h T14h hu12 hp12 hq12 hs12 b13 B12
  obtain ⟨_, c80, c81, f80, f81, s80, s81⟩ := id T8i
  obtain ⟨_, c100, c101, f100, f101, s100, s101⟩ := id T10i
  obtain ⟨_, c140, c141, f140, f141, s140, s141⟩ := id T14i
  go_wp2_with fail
  refine (ints_any _ _ (idL xs.length) (idL xs.length) _ hp13 hq13).mono ?_
  rintro e w14 ⟨rfl, b14⟩
  rw [decide_eq_true (rfl : idL xs.length = idL xs.length)]
  have hu14 := hu13.below b14
  have hp14 := hp13.below b14
  have hw14 := hw13.below b14
  have B14 := bcat B13 b14 B13.size
  clear c80 c81 f80 f81 s80 s81 c100 c101 f100 f101 s100 s101 c140 c141 f140 f141 s140 s141 T8i T10i T14i hu13 hp13 hq13 hw13 b14 B13
  go_wp2_with fail
  refine (stays_any xs.length _ l1000 (by have := B14.size; omega)).mono ?_
  rintro e w15 ⟨rs2, rfl, hs15, b15⟩
  have hu15 := hu14.below b15
  have hp15 := hp14.below b15
  have hw15 := hw14.below b15
  have B15 := bcat B14 b15 B14.size
  clear hu14 hp14 hw14 b15 B14
  go_wp2_with fail
  refine (ints_any _ _ (idL xs.length) (idL xs.length) _ hp15 hs15).mono ?_
  rintro e w16 ⟨rfl, b16⟩
  rw [decide_eq_true (rfl : idL xs.length = idL xs.length)]
  have hu16 := hu15.below b16
  have hw16 := hw15.below b16
  have B16 := bcat B15 b16 B15.size
  clear hu15 hp15 hs15 hw15 b16 B15
  go_wp2_with fail
  refine (ints_any _ _ xs xs _ hw16 hu16).mono ?_
  rintro e w17 ⟨rfl, b17⟩
  rw [decide_eq_true (rfl : xs = xs)]
  have B17 := bcat B16 b17 B16.size
  go_wp2
  go_ret
  exact ⟨rfl, B17⟩

set_option maxRecDepth 100000 in
set_option maxHeartbeats 2000000 in
theorem group_any (u v t : Value) (xs ys zs : List Int) (w : World) (hu : Sl w u xs) (hv : Sl w v ys) (ht : Sl w t zs) (htab : Tab w.heap.size w) :
    Calls Tryd.prog 8 #[u, v, t] w fun e w' => e = .returned (.bool true) ∧ Below w.heap.size w w' := by
  by_cases h1 : (twof xs ys).1 = 0
  · by_cases h2 : (twof ys zs).1 = 0
    · exact group_ok u v t xs ys zs w hu hv ht htab h1 h2
    · have hfd := field25
      obtain ⟨px, py, lxy, l1000⟩ := twof_zero h1
      have e1 := twof_ok px py lxy l1000
      have E1 := hide e1
      obtain ⟨c, i, hci⟩ : ∃ c i, twof ys zs = (c, i) := ⟨_, _, rfl⟩
      rw [hci] at h2
      have hbe : (c != 0) = true := by simpa using h2
      have HCI := hide hci
      clear hci h2 h1 px py lxy e1
      go_enter Tryd.func8, Tryd.ntmps8
      go_wp2_with fail
      refine (begun_any w htab).mono ?_
      rintro e w1 ⟨rfl, b1⟩
      go_wp2_with fail
      refine (twoFault_any _ _ xs ys w1 (hu.below b1) (hv.below b1)).mono ?_
      rintro e w2 ⟨rfl, b2⟩
      rw [E1.out]
      go_wp2_with fail
      refine (twoFault_any _ _ ys zs w2 ((hv.below b1).below b2) ((ht.below b1).below b2)).mono ?_
      rintro e w3 ⟨rfl, b3⟩
      rw [HCI.out]
      have B3 := bcat (bcat b1 b2 b1.size) b3 (bcat b1 b2 b1.size).size
      go_wp2
      go_ret
      exact ⟨rfl, B3⟩
  · have hfd := field25
    obtain ⟨c, i, hci⟩ : ∃ c i, twof xs ys = (c, i) := ⟨_, _, rfl⟩
    rw [hci] at h1
    have hbe : (c != 0) = true := by simpa using h1
    have HCI := hide hci
    clear hci h1
    go_enter Tryd.func8, Tryd.ntmps8
    go_wp2_with fail
    refine (begun_any w htab).mono ?_
    rintro e w1 ⟨rfl, b1⟩
    go_wp2_with fail
    refine (twoFault_any _ _ xs ys w1 (hu.below b1) (hv.below b1)).mono ?_
    rintro e w2 ⟨rfl, b2⟩
    rw [HCI.out]
    have B2 := bcat b1 b2 b1.size
    go_wp2
    go_ret
    exact ⟨rfl, B2⟩
end Go.Proofs.YtpcfljkniodlbaaDoor
