/- PermCycles returns true at every list. -/
import Derived.Test.YtjchmhngfnlbhaaDoorLso
import Derived.Test.YtjchmhngfnlbhaaDoorTxo
import Derived.Test.YtjchmhngfnlbhaaDoorBad
import Derived.Test.YtjchmhngfnlbhaaDoorBegun
namespace Go.Proofs.YtjchmhngfnlbhaaDoor
open Go Go.RowKit Go.Shelf

theorem own_good (u : Value) (zs : List Int) (w : World) (hu : Sl w u zs) (hb : zs.length * 8 ≤ 140737488355328) :
    Calls Tryd.prog 9 #[u] w fun e w' => (∃ r, e = .returned r ∧ Sl w' r zs) ∧ Below w.heap.size w w' := by
  refine (own_any u zs w hu hb).mono ?_
  rintro e w' ⟨r, rfl, h1, h2⟩
  exact ⟨⟨r, rfl, h1⟩, h2⟩
theorem cycles_l (u : Value) (zs : List Int) (w : World) (hu : Sl w u zs) (hperm : IsPerm zs) (hl : zs.length ≤ 1000) :
    Calls Tryd.prog 10 #[u] w fun e w' => (∃ r, e = .returned (.tuple #[r, .agg #[.int .i64 0, .int .i64 0]]) ∧ LSl w' r (moved (cyc zs))) ∧ Below w.heap.size w w' := by
  refine (cycles_ok u zs w hu hperm hl).mono ?_
  rintro e w' ⟨v, vs, rfl, h1, h2, h3⟩
  exact ⟨⟨v, rfl, _, vs, h1, h2⟩, h3⟩
theorem cyclesOf_l (u : Value) (zs : List Int) (w : World) (hu : Sl w u zs) (hperm : IsPerm zs) (hl : zs.length ≤ 1000) :
    Calls Tryd.prog 17 #[u, .bool false] w fun e w' => (∃ r, e = .returned r ∧ LSl w' r (moved (cyc zs))) ∧ Below w.heap.size w w' := by
  refine (cyclesOf_ok u zs false w hu hperm hl).mono ?_
  rintro e w' ⟨v, vs, rfl, h1, h2, h3⟩
  rw [← moved_ocs hperm] at h1 h2
  exact ⟨⟨v, rfl, _, vs, h1, h2⟩, h3⟩
theorem shapeOf_l (u : Value) (zs : List Int) (w : World) (hu : Sl w u zs) (hperm : IsPerm zs) (hl : zs.length ≤ 1000) :
    Calls Tryd.prog 18 #[u] w fun e w' => (∃ r, e = .returned r ∧ Sl w' r (nz (shape zs))) ∧ Below w.heap.size w w' := by
  have h0 := hu.psz
  refine (shapeOf_ok u zs w hu hperm hl).mono ?_
  rintro e w' ⟨r, rfl, h1, h2⟩
  exact ⟨⟨r, rfl, pts_sl h1 (by have := h2.size; omega)⟩, h2⟩
theorem text_l (u : Value) (zs : List Int) (w : World) (hu : Sl w u zs) (hf : fault zs = (0, 0)) (htab : Tab w.heap.size w) :
    Calls Tryd.prog 12 #[u] w fun e w' => e = .returned (.tuple #[.string ⟨(ptext zs).toArray⟩, .agg #[.int .i64 0, .int .i64 0]]) ∧ Below w.heap.size w w' := by
  obtain ⟨a, cap, pb, po, rfl, hr, hp, hq3, hq4⟩ := hu
  exact text_ok a cap pb po zs w hr hp hf htab

set_option maxRecDepth 100000 in
set_option maxHeartbeats 4000000 in
theorem cycles_lbad (u : Value) (xs : List Int) (w : World) (hu : Sl w u xs) (hsz : xs.length * 8 ≤ 140737488355328) (htab : Tab w.heap.size w) (h : (fault xs).1 ≠ 0) :
    Calls Tryd.prog 3 #[u] w fun e w' => e = .returned (.bool true) ∧ Below w.heap.size w w' := by
  obtain ⟨ua, uc, hue⟩ := hu.shp
  subst hue
  have HTab := hide (fun (W : World) (h : Below w.heap.size w W) => (htab.below h).mono h.size)
  have hB := Below.refl w.heap.size w
  have hge := hB.size
  have hc := fun (r : Value) (W : World) (a : Sl W r xs) => cycles_bad r xs W a h
  have hs := fun (r : Value) (W : World) (a : Sl W r xs) => shape_bad r xs W a h
  have ht := fun (r : Value) (W : World) (a : Sl W r xs) => text_bad r xs W a h
  have hp := fun (r : Value) (W : World) (a : Sl W r xs) => permFault_any r xs W a
  obtain ⟨c, d, hcd⟩ : ∃ c d, fault xs = (c, d) := ⟨_, _, rfl⟩
  rw [hcd] at hc hs ht hp h
  have hcb : (c != 0) = true := by simpa using h
  have hcn : ¬ c = 0 := h
  have HC := hide hc
  have HS := hide hs
  have HT := hide ht
  have HP := hide hp
  clear hc hs ht hp hcd h htab
  go_enter Tryd.func3, Tryd.ntmps3
  go_wp2_with fail
  refine (own_good _ xs _ hu hsz).mono ?_
  rintro x w2 ⟨⟨rx, rfl, hrx⟩, hb2⟩
  replace hu := hu.below hb2
  replace hB := bcat hB hb2 hge
  replace hge := hB.size
  obtain ⟨x1, x2, hx9⟩ := hrx.shp
  subst hx9
  go_wp2_with fail
  refine (HC.out _ _ hrx).mono ?_
  rintro x w4 ⟨rfl, hb4⟩
  replace hu := hu.below hb4
  replace hrx := hrx.below hb4
  replace hB := bcat hB hb4 hge
  replace hge := hB.size
  have hb5 : Below w4.heap.size w4 (w4.alloc (.cells #[.int .i64 c, .int .i64 d] 26)) := balloc w4 _
  replace hu := hu.below hb5
  replace hrx := hrx.below hb5
  replace hB := bcat hB hb5 hge
  replace hge := hB.size
  have b1 : Blk (w4.alloc (.cells #[.int .i64 c, .int .i64 d] 26)) w4.heap.size 26 [.int .i64 c, .int .i64 d] := blk0 _ _
  obtain ⟨b16a, b16b, b16c, b16d⟩ := b1.two
  go_wp2_with fail
  clear b16a b16b b16c b16d
  refine (HS.out _ _ hrx).mono ?_
  rintro x w7 ⟨rfl, hb7⟩
  replace hu := hu.below hb7
  replace hrx := hrx.below hb7
  replace b1 : Blk (w7) w4.heap.size 26 [.int .i64 c, .int .i64 d] := Blk.of_eq b1 (hb7.block _ b1.lt)
  replace hB := bcat hB hb7 hge
  replace hge := hB.size
  have hb8 : Below w7.heap.size w7 (w7.alloc (.cells #[.int .i64 c, .int .i64 d] 26)) := balloc w7 _
  replace hu := hu.below hb8
  replace hrx := hrx.below hb8
  replace b1 : Blk (w7.alloc (.cells #[.int .i64 c, .int .i64 d] 26)) w4.heap.size 26 [.int .i64 c, .int .i64 d] := Blk.of_eq b1 (hb8.block _ b1.lt)
  replace hB := bcat hB hb8 hge
  replace hge := hB.size
  have b2 : Blk (w7.alloc (.cells #[.int .i64 c, .int .i64 d] 26)) w7.heap.size 26 [.int .i64 c, .int .i64 d] := blk0 _ _
  obtain ⟨b19a, b19b, b19c, b19d⟩ := b1.two
  obtain ⟨b29a, b29b, b29c, b29d⟩ := b2.two
  go_wp2_with fail
  clear b19a b19b b19c b19d b29a b29b b29c b29d
  refine (HT.out _ _ hrx).mono ?_
  rintro x w10 ⟨rfl, hb10⟩
  replace hu := hu.below hb10
  replace hrx := hrx.below hb10
  replace b1 : Blk (w10) w4.heap.size 26 [.int .i64 c, .int .i64 d] := Blk.of_eq b1 (hb10.block _ b1.lt)
  replace b2 : Blk (w10) w7.heap.size 26 [.int .i64 c, .int .i64 d] := Blk.of_eq b2 (hb10.block _ b2.lt)
  replace hB := bcat hB hb10 hge
  replace hge := hB.size
  have hb11 : Below w10.heap.size w10 (w10.alloc (.cells #[.int .i64 c, .int .i64 d] 26)) := balloc w10 _
  replace hu := hu.below hb11
  replace hrx := hrx.below hb11
  replace b1 : Blk (w10.alloc (.cells #[.int .i64 c, .int .i64 d] 26)) w4.heap.size 26 [.int .i64 c, .int .i64 d] := Blk.of_eq b1 (hb11.block _ b1.lt)
  replace b2 : Blk (w10.alloc (.cells #[.int .i64 c, .int .i64 d] 26)) w7.heap.size 26 [.int .i64 c, .int .i64 d] := Blk.of_eq b2 (hb11.block _ b2.lt)
  replace hB := bcat hB hb11 hge
  replace hge := hB.size
  have b3 : Blk (w10.alloc (.cells #[.int .i64 c, .int .i64 d] 26)) w10.heap.size 26 [.int .i64 c, .int .i64 d] := blk0 _ _
  obtain ⟨b112a, b112b, b112c, b112d⟩ := b1.two
  obtain ⟨b212a, b212b, b212c, b212d⟩ := b2.two
  obtain ⟨b312a, b312b, b312c, b312d⟩ := b3.two
  go_wp2_with fail
  clear b112a b112b b112c b112d b212a b212b b212c b212d b312a b312b b312c b312d
  refine (HP.out _ _ hu).mono ?_
  rintro x w13 ⟨rfl, hb13⟩
  replace hu := hu.below hb13
  replace hrx := hrx.below hb13
  replace b1 : Blk (w13) w4.heap.size 26 [.int .i64 c, .int .i64 d] := Blk.of_eq b1 (hb13.block _ b1.lt)
  replace b2 : Blk (w13) w7.heap.size 26 [.int .i64 c, .int .i64 d] := Blk.of_eq b2 (hb13.block _ b2.lt)
  replace b3 : Blk (w13) w10.heap.size 26 [.int .i64 c, .int .i64 d] := Blk.of_eq b3 (hb13.block _ b3.lt)
  replace hB := bcat hB hb13 hge
  replace hge := hB.size
  have hb14 : Below w13.heap.size w13 (w13.alloc (.cells #[.int .i64 c, .int .i64 d] 26)) := balloc w13 _
  replace hu := hu.below hb14
  replace hrx := hrx.below hb14
  replace b1 : Blk (w13.alloc (.cells #[.int .i64 c, .int .i64 d] 26)) w4.heap.size 26 [.int .i64 c, .int .i64 d] := Blk.of_eq b1 (hb14.block _ b1.lt)
  replace b2 : Blk (w13.alloc (.cells #[.int .i64 c, .int .i64 d] 26)) w7.heap.size 26 [.int .i64 c, .int .i64 d] := Blk.of_eq b2 (hb14.block _ b2.lt)
  replace b3 : Blk (w13.alloc (.cells #[.int .i64 c, .int .i64 d] 26)) w10.heap.size 26 [.int .i64 c, .int .i64 d] := Blk.of_eq b3 (hb14.block _ b3.lt)
  replace hB := bcat hB hb14 hge
  replace hge := hB.size
  have b4 : Blk (w13.alloc (.cells #[.int .i64 c, .int .i64 d] 26)) w13.heap.size 26 [.int .i64 c, .int .i64 d] := blk0 _ _
  obtain ⟨b115a, b115b, b115c, b115d⟩ := b1.two
  obtain ⟨b215a, b215b, b215c, b215d⟩ := b2.two
  obtain ⟨b315a, b315b, b315c, b315d⟩ := b3.two
  obtain ⟨b415a, b415b, b415c, b415d⟩ := b4.two
  go_wp2_with fail
  clear b115a b115b b115c b115d b215a b215b b215c b215d b315a b315b b315c b315d b415a b415b b415c b415d
  refine (begun_any _ (HTab.out _ hB)).mono ?_
  rintro x w16 ⟨rfl, hb16⟩
  replace hu := hu.below hb16
  replace hrx := hrx.below hb16
  replace b1 : Blk (w16) w4.heap.size 26 [.int .i64 c, .int .i64 d] := Blk.of_eq b1 (hb16.block _ b1.lt)
  replace b2 : Blk (w16) w7.heap.size 26 [.int .i64 c, .int .i64 d] := Blk.of_eq b2 (hb16.block _ b2.lt)
  replace b3 : Blk (w16) w10.heap.size 26 [.int .i64 c, .int .i64 d] := Blk.of_eq b3 (hb16.block _ b3.lt)
  replace b4 : Blk (w16) w13.heap.size 26 [.int .i64 c, .int .i64 d] := Blk.of_eq b4 (hb16.block _ b4.lt)
  replace hB := bcat hB hb16 hge
  replace hge := hB.size
  obtain ⟨b117a, b117b, b117c, b117d⟩ := b1.two
  obtain ⟨b217a, b217b, b217c, b217d⟩ := b2.two
  obtain ⟨b317a, b317b, b317c, b317d⟩ := b3.two
  obtain ⟨b417a, b417b, b417c, b417d⟩ := b4.two
  go_wp2_with fail
  clear b117a b117b b117c b117d b217a b217b b217c b217d b317a b317b b317c b317d b417a b417b b417c b417d
  refine (ints_true _ _ _ _ _ hrx hu rfl).mono ?_
  rintro x w18 ⟨rfl, hb18⟩
  replace hu := hu.below hb18
  replace hrx := hrx.below hb18
  replace b1 : Blk (w18) w4.heap.size 26 [.int .i64 c, .int .i64 d] := Blk.of_eq b1 (hb18.block _ b1.lt)
  replace b2 : Blk (w18) w7.heap.size 26 [.int .i64 c, .int .i64 d] := Blk.of_eq b2 (hb18.block _ b2.lt)
  replace b3 : Blk (w18) w10.heap.size 26 [.int .i64 c, .int .i64 d] := Blk.of_eq b3 (hb18.block _ b3.lt)
  replace b4 : Blk (w18) w13.heap.size 26 [.int .i64 c, .int .i64 d] := Blk.of_eq b4 (hb18.block _ b4.lt)
  replace hB := bcat hB hb18 hge
  replace hge := hB.size
  obtain ⟨b119a, b119b, b119c, b119d⟩ := b1.two
  obtain ⟨b219a, b219b, b219c, b219d⟩ := b2.two
  obtain ⟨b319a, b319b, b319c, b319d⟩ := b3.two
  obtain ⟨b419a, b419b, b419c, b419d⟩ := b4.two
  go_wp2
  clear b119a b119b b119c b119d b219a b219b b219c b219d b319a b319b b319c b319d b419a b419b b419c b419d
  go_ret
  exact ⟨rfl, hB⟩

set_option maxRecDepth 100000 in
set_option maxHeartbeats 4000000 in
theorem cycles_lgood (u : Value) (xs : List Int) (w : World) (hu : Sl w u xs) (hsz : xs.length * 8 ≤ 140737488355328) (htab : Tab w.heap.size w) (h : (fault xs).1 = 0) :
    Calls Tryd.prog 3 #[u] w fun e w' => e = .returned (.bool true) ∧ Below w.heap.size w w' := by
  obtain ⟨ua, uc, hue⟩ := hu.shp
  subst hue
  have HTab := hide (fun (W : World) (h : Below w.heap.size w W) => (htab.below h).mono h.size)
  have hB := Below.refl w.heap.size w
  have hge := hB.size
  obtain ⟨px, l1000⟩ := fault_perm h
  have hf := fault_of_perm px l1000
  have hp := fun (r : Value) (W : World) (a : Sl W r xs) => permFault_any r xs W a
  rw [hf] at hp
  have HP := hide hp
  have HF := hide hf
  have HX := hide px
  have H1000 := hide l1000
  have HML : Hid ((moved (cyc xs)).length ≤ 1000) := hide (Nat.le_trans (moved_len xs) l1000)
  clear hp hf px l1000 h htab
  go_enter Tryd.func3, Tryd.ntmps3
  go_wp2_with fail
  refine (own_good _ xs _ hu hsz).mono ?_
  rintro x w2 ⟨⟨rx, rfl, hrx⟩, hb2⟩
  replace hu := hu.below hb2
  replace hB := bcat hB hb2 hge
  replace hge := hB.size
  obtain ⟨x1, x2, hx9⟩ := hrx.shp
  subst hx9
  go_wp2_with fail
  refine (cycles_l _ xs _ hrx HX.out H1000.out).mono ?_
  rintro x w4 ⟨⟨rc, rfl, hrc⟩, hb4⟩
  replace hu := hu.below hb4
  replace hrx := hrx.below hb4
  replace hB := bcat hB hb4 hge
  replace hge := hB.size
  obtain ⟨c1, c2, hc9⟩ := hrc.shape
  subst hc9
  have hb5 : Below w4.heap.size w4 (w4.alloc (.cells #[.int .i64 0, .int .i64 0] 26)) := balloc w4 _
  replace hu := hu.below hb5
  replace hrx := hrx.below hb5
  replace hrc := hrc.below hb5
  replace hB := bcat hB hb5 hge
  replace hge := hB.size
  have b1 : Two (w4.alloc (.cells #[.int .i64 0, .int .i64 0] 26)) w4.heap.size := Two.new w4
  obtain ⟨_, b16a, b16b, b16c, b16d, b16e, b16f⟩ := id b1
  go_wp2_with fail
  clear b16a b16b b16c b16d b16e b16f
  refine (shape_sl _ xs _ hrx HX.out H1000.out).mono ?_
  rintro x w7 ⟨⟨rs, rfl, hrs⟩, hb7⟩
  replace hu := hu.below hb7
  replace hrx := hrx.below hb7
  replace hrc := hrc.below hb7
  replace b1 := Two.below b1 hb7
  replace hB := bcat hB hb7 hge
  replace hge := hB.size
  obtain ⟨s1, s2, hs9⟩ := hrs.shp
  subst hs9
  have hb8 : Below w7.heap.size w7 (w7.alloc (.cells #[.int .i64 0, .int .i64 0] 26)) := balloc w7 _
  replace hu := hu.below hb8
  replace hrx := hrx.below hb8
  replace hrc := hrc.below hb8
  replace hrs := hrs.below hb8
  replace b1 := Two.below b1 hb8
  replace hB := bcat hB hb8 hge
  replace hge := hB.size
  have b2 : Two (w7.alloc (.cells #[.int .i64 0, .int .i64 0] 26)) w7.heap.size := Two.new w7
  obtain ⟨_, b19a, b19b, b19c, b19d, b19e, b19f⟩ := id b1
  obtain ⟨_, b29a, b29b, b29c, b29d, b29e, b29f⟩ := id b2
  go_wp2_with fail
  clear b19a b19b b19c b19d b19e b19f b29a b29b b29c b29d b29e b29f
  refine (text_l _ xs _ hrx HF.out (HTab.out _ hB)).mono ?_
  rintro x w10 ⟨rfl, hb10⟩
  replace hu := hu.below hb10
  replace hrx := hrx.below hb10
  replace hrc := hrc.below hb10
  replace hrs := hrs.below hb10
  replace b1 := Two.below b1 hb10
  replace b2 := Two.below b2 hb10
  replace hB := bcat hB hb10 hge
  replace hge := hB.size
  have hb11 : Below w10.heap.size w10 (w10.alloc (.cells #[.int .i64 0, .int .i64 0] 26)) := balloc w10 _
  replace hu := hu.below hb11
  replace hrx := hrx.below hb11
  replace hrc := hrc.below hb11
  replace hrs := hrs.below hb11
  replace b1 := Two.below b1 hb11
  replace b2 := Two.below b2 hb11
  replace hB := bcat hB hb11 hge
  replace hge := hB.size
  have b3 : Two (w10.alloc (.cells #[.int .i64 0, .int .i64 0] 26)) w10.heap.size := Two.new w10
  obtain ⟨_, b112a, b112b, b112c, b112d, b112e, b112f⟩ := id b1
  obtain ⟨_, b212a, b212b, b212c, b212d, b212e, b212f⟩ := id b2
  obtain ⟨_, b312a, b312b, b312c, b312d, b312e, b312f⟩ := id b3
  go_wp2_with fail
  clear b112a b112b b112c b112d b112e b112f b212a b212b b212c b212d b212e b212f b312a b312b b312c b312d b312e b312f
  refine (HP.out _ _ hu).mono ?_
  rintro x w13 ⟨rfl, hb13⟩
  replace hu := hu.below hb13
  replace hrx := hrx.below hb13
  replace hrc := hrc.below hb13
  replace hrs := hrs.below hb13
  replace b1 := Two.below b1 hb13
  replace b2 := Two.below b2 hb13
  replace b3 := Two.below b3 hb13
  replace hB := bcat hB hb13 hge
  replace hge := hB.size
  have hb14 : Below w13.heap.size w13 (w13.alloc (.cells #[.int .i64 0, .int .i64 0] 26)) := balloc w13 _
  replace hu := hu.below hb14
  replace hrx := hrx.below hb14
  replace hrc := hrc.below hb14
  replace hrs := hrs.below hb14
  replace b1 := Two.below b1 hb14
  replace b2 := Two.below b2 hb14
  replace b3 := Two.below b3 hb14
  replace hB := bcat hB hb14 hge
  replace hge := hB.size
  have b4 : Two (w13.alloc (.cells #[.int .i64 0, .int .i64 0] 26)) w13.heap.size := Two.new w13
  obtain ⟨_, b115a, b115b, b115c, b115d, b115e, b115f⟩ := id b1
  obtain ⟨_, b215a, b215b, b215c, b215d, b215e, b215f⟩ := id b2
  obtain ⟨_, b315a, b315b, b315c, b315d, b315e, b315f⟩ := id b3
  obtain ⟨_, b415a, b415b, b415c, b415d, b415e, b415f⟩ := id b4
  go_wp2_with fail
  clear b115a b115b b115c b115d b115e b115f b215a b215b b215c b215d b215e b215f b315a b315b b315c b315d b315e b315f b415a b415b b415c b415d b415e b415f
  refine (begun_any _ (HTab.out _ hB)).mono ?_
  rintro x w16 ⟨rfl, hb16⟩
  replace hu := hu.below hb16
  replace hrx := hrx.below hb16
  replace hrc := hrc.below hb16
  replace hrs := hrs.below hb16
  replace b1 := Two.below b1 hb16
  replace b2 := Two.below b2 hb16
  replace b3 := Two.below b3 hb16
  replace b4 := Two.below b4 hb16
  replace hB := bcat hB hb16 hge
  replace hge := hB.size
  obtain ⟨_, b117a, b117b, b117c, b117d, b117e, b117f⟩ := id b1
  obtain ⟨_, b217a, b217b, b217c, b217d, b217e, b217f⟩ := id b2
  obtain ⟨_, b317a, b317b, b317c, b317d, b317e, b317f⟩ := id b3
  obtain ⟨_, b417a, b417b, b417c, b417d, b417e, b417f⟩ := id b4
  go_wp2_with fail
  clear b117a b117b b117c b117d b117e b117f b217a b217b b217c b217d b217e b217f b317a b317b b317c b317d b317e b317f b417a b417b b417c b417d b417e b417f
  refine (ints_true _ _ _ _ _ hrx hu rfl).mono ?_
  rintro x w18 ⟨rfl, hb18⟩
  replace hu := hu.below hb18
  replace hrx := hrx.below hb18
  replace hrc := hrc.below hb18
  replace hrs := hrs.below hb18
  replace b1 := Two.below b1 hb18
  replace b2 := Two.below b2 hb18
  replace b3 := Two.below b3 hb18
  replace b4 := Two.below b4 hb18
  replace hB := bcat hB hb18 hge
  replace hge := hB.size
  obtain ⟨_, b119a, b119b, b119c, b119d, b119e, b119f⟩ := id b1
  obtain ⟨_, b219a, b219b, b219c, b219d, b219e, b219f⟩ := id b2
  obtain ⟨_, b319a, b319b, b319c, b319d, b319e, b319f⟩ := id b3
  obtain ⟨_, b419a, b419b, b419c, b419d, b419e, b419f⟩ := id b4
  go_wp2_with fail
  clear b119a b119b b119c b119d b119e b119f b219a b219b b219c b219d b219e b219f b319a b319b b319c b319d b319e b319f b419a b419b b419c b419d b419e b419f
  refine (cyclesOf_l _ xs _ hu HX.out H1000.out).mono ?_
  rintro x w20 ⟨⟨rd, rfl, hrd⟩, hb20⟩
  replace hu := hu.below hb20
  replace hrx := hrx.below hb20
  replace hrc := hrc.below hb20
  replace hrs := hrs.below hb20
  replace b1 := Two.below b1 hb20
  replace b2 := Two.below b2 hb20
  replace b3 := Two.below b3 hb20
  replace b4 := Two.below b4 hb20
  replace hB := bcat hB hb20 hge
  replace hge := hB.size
  obtain ⟨d1, d2, hd9⟩ := hrd.shape
  subst hd9
  obtain ⟨_, b121a, b121b, b121c, b121d, b121e, b121f⟩ := id b1
  obtain ⟨_, b221a, b221b, b221c, b221d, b221e, b221f⟩ := id b2
  obtain ⟨_, b321a, b321b, b321c, b321d, b321e, b321f⟩ := id b3
  obtain ⟨_, b421a, b421b, b421c, b421d, b421e, b421f⟩ := id b4
  go_wp2_with fail
  clear b121a b121b b121c b121d b121e b121f b221a b221b b221c b221d b221e b221f b321a b321b b321c b321d b321e b321f b421a b421b b421c b421d b421e b421f
  refine (lists_true _ _ _ _ hrc hrd HML.out).mono ?_
  rintro x w22 ⟨rfl, hb22⟩
  replace hu := hu.below hb22
  replace hrx := hrx.below hb22
  replace hrc := hrc.below hb22
  replace hrs := hrs.below hb22
  replace hrd := hrd.below hb22
  replace b1 := Two.below b1 hb22
  replace b2 := Two.below b2 hb22
  replace b3 := Two.below b3 hb22
  replace b4 := Two.below b4 hb22
  replace hB := bcat hB hb22 hge
  replace hge := hB.size
  obtain ⟨_, b123a, b123b, b123c, b123d, b123e, b123f⟩ := id b1
  obtain ⟨_, b223a, b223b, b223c, b223d, b223e, b223f⟩ := id b2
  obtain ⟨_, b323a, b323b, b323c, b323d, b323e, b323f⟩ := id b3
  obtain ⟨_, b423a, b423b, b423c, b423d, b423e, b423f⟩ := id b4
  go_wp2_with fail
  clear b123a b123b b123c b123d b123e b123f b223a b223b b223c b223d b223e b223f b323a b323b b323c b323d b323e b323f b423a b423b b423c b423d b423e b423f
  refine (shapeOf_l _ xs _ hu HX.out H1000.out).mono ?_
  rintro x w24 ⟨⟨re, rfl, hre⟩, hb24⟩
  replace hu := hu.below hb24
  replace hrx := hrx.below hb24
  replace hrc := hrc.below hb24
  replace hrs := hrs.below hb24
  replace hrd := hrd.below hb24
  replace b1 := Two.below b1 hb24
  replace b2 := Two.below b2 hb24
  replace b3 := Two.below b3 hb24
  replace b4 := Two.below b4 hb24
  replace hB := bcat hB hb24 hge
  replace hge := hB.size
  obtain ⟨e1, e2, he9⟩ := hre.shp
  subst he9
  obtain ⟨_, b125a, b125b, b125c, b125d, b125e, b125f⟩ := id b1
  obtain ⟨_, b225a, b225b, b225c, b225d, b225e, b225f⟩ := id b2
  obtain ⟨_, b325a, b325b, b325c, b325d, b325e, b325f⟩ := id b3
  obtain ⟨_, b425a, b425b, b425c, b425d, b425e, b425f⟩ := id b4
  go_wp2_with fail
  clear b125a b125b b125c b125d b125e b125f b225a b225b b225c b225d b225e b225f b325a b325b b325c b325d b325e b325f b425a b425b b425c b425d b425e b425f
  refine (ints_true _ _ _ _ _ hrs hre rfl).mono ?_
  rintro x w26 ⟨rfl, hb26⟩
  replace hu := hu.below hb26
  replace hrx := hrx.below hb26
  replace hrc := hrc.below hb26
  replace hrs := hrs.below hb26
  replace hrd := hrd.below hb26
  replace hre := hre.below hb26
  replace b1 := Two.below b1 hb26
  replace b2 := Two.below b2 hb26
  replace b3 := Two.below b3 hb26
  replace b4 := Two.below b4 hb26
  replace hB := bcat hB hb26 hge
  replace hge := hB.size
  obtain ⟨_, b127a, b127b, b127c, b127d, b127e, b127f⟩ := id b1
  obtain ⟨_, b227a, b227b, b227c, b227d, b227e, b227f⟩ := id b2
  obtain ⟨_, b327a, b327b, b327c, b327d, b327e, b327f⟩ := id b3
  obtain ⟨_, b427a, b427b, b427c, b427d, b427e, b427f⟩ := id b4
  go_wp2_with fail
  clear b127a b127b b127c b127d b127e b127f b227a b227b b227c b227d b227e b227f b327a b327b b327c b327d b327e b327f b427a b427b b427c b427d b427e b427f
  refine (textOf_ok _ xs _ hu HX.out H1000.out).mono ?_
  rintro x w28 ⟨rfl, hb28⟩
  replace hu := hu.below hb28
  replace hrx := hrx.below hb28
  replace hrc := hrc.below hb28
  replace hrs := hrs.below hb28
  replace hrd := hrd.below hb28
  replace hre := hre.below hb28
  replace b1 := Two.below b1 hb28
  replace b2 := Two.below b2 hb28
  replace b3 := Two.below b3 hb28
  replace b4 := Two.below b4 hb28
  replace hB := bcat hB hb28 hge
  replace hge := hB.size
  obtain ⟨_, b129a, b129b, b129c, b129d, b129e, b129f⟩ := id b1
  obtain ⟨_, b229a, b229b, b229c, b229d, b229e, b229f⟩ := id b2
  obtain ⟨_, b329a, b329b, b329c, b329d, b329e, b329f⟩ := id b3
  obtain ⟨_, b429a, b429b, b429c, b429d, b429e, b429f⟩ := id b4
  go_wp2
  clear b129a b129b b129c b129d b129e b129f b229a b229b b229c b229d b229e b229f b329a b329b b329c b329d b329e b329f b429a b429b b429c b429d b429e b429f
  go_ret
  exact ⟨rfl, hB⟩
theorem cycles_law (u : Value) (xs : List Int) (w : World) (hu : Sl w u xs) (hsz : xs.length * 8 ≤ 140737488355328) (htab : Tab w.heap.size w) :
    Calls Tryd.prog 3 #[u] w fun e w' => e = .returned (.bool true) ∧ Below w.heap.size w w' := by
  by_cases h : (fault xs).1 = 0
  · exact cycles_lgood u xs w hu hsz htab h
  · exact cycles_lbad u xs w hu hsz htab h
end Go.Proofs.YtjchmhngfnlbhaaDoor
