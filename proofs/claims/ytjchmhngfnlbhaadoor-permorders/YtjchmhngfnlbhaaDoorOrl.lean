/- PermOrders returns true at every list. -/
import Derived.Test.YtjchmhngfnlbhaaDoorOrf
import Derived.Test.YtjchmhngfnlbhaaDoorSgf
import Derived.Test.YtjchmhngfnlbhaaDoorTxo
import Derived.Test.YtjchmhngfnlbhaaDoorBad
import Derived.Test.YtjchmhngfnlbhaaDoorOwn
import Derived.Test.YtjchmhngfnlbhaaDoorBegun
namespace Go.Proofs.YtjchmhngfnlbhaaDoor
open Go Go.RowKit Go.Shelf

theorem own_l (u : Value) (zs : List Int) (w : World) (hu : Sl w u zs) (hb : zs.length * 8 ≤ 140737488355328) :
    Calls Tryd.prog 9 #[u] w fun e w' => (∃ r, e = .returned r ∧ Sl w' r zs) ∧ Below w.heap.size w w' := by
  refine (own_any u zs w hu hb).mono ?_
  rintro e w' ⟨r, rfl, h1, h2⟩
  exact ⟨⟨r, rfl, h1⟩, h2⟩

set_option maxRecDepth 100000 in
set_option maxHeartbeats 4000000 in
theorem orders_bad (u : Value) (xs : List Int) (w : World) (hu : Sl w u xs) (hsz : xs.length * 8 ≤ 140737488355328) (htab : Tab w.heap.size w) (h : (fault xs).1 ≠ 0) :
    Calls Tryd.prog 4 #[u] w fun e w' => e = .returned (.bool true) ∧ Below w.heap.size w w' := by
  obtain ⟨ua, uc, hue⟩ := hu.shp
  subst hue
  have HTab := hide (fun (W : World) (h : Below w.heap.size w W) => (htab.below h).mono h.size)
  have hB := Below.refl w.heap.size w
  have hge := hB.size
  have hc := fun (r : Value) (W : World) (a : Sl W r xs) => order_bad r xs W a h
  have hs := fun (r : Value) (W : World) (a : Sl W r xs) => sign_bad r xs W a h
  have hp := fun (r : Value) (W : World) (a : Sl W r xs) => permFault_any r xs W a
  obtain ⟨c, d, hcd⟩ : ∃ c d, fault xs = (c, d) := ⟨_, _, rfl⟩
  rw [hcd] at hc hs hp h
  have hcb : (c != 0) = true := by simpa using h
  have hcn : ¬ c = 0 := h
  have HC := hide hc
  have HS := hide hs
  have HP := hide hp
  clear hc hs hp hcd h htab
  go_enter Tryd.func4, Tryd.ntmps4
  go_wp2_with fail
  refine (own_l _ xs _ hu hsz).mono ?_
  rintro x w2 ⟨⟨rx, rfl, hrx⟩, hb2⟩
  replace hu := hu.below hb2
  replace hB := bcat hB hb2 hge
  replace hge := hB.size
  obtain ⟨x1, x2, hx9⟩ := hrx.shp
  subst hx9
  go_wp2_with fail
  refine (HC.out _ _ hrx).mono ?_
  rintro x w4 ⟨rfl, hb4⟩
  replace hu := hu.below hb4
  replace hrx := hrx.below hb4
  replace hB := bcat hB hb4 hge
  replace hge := hB.size
  have hb5 : Below w4.heap.size w4 (w4.alloc (.cells #[.int .i64 c, .int .i64 d] 26)) := balloc w4 _
  replace hu := hu.below hb5
  replace hrx := hrx.below hb5
  replace hB := bcat hB hb5 hge
  replace hge := hB.size
  have b1 : Blk (w4.alloc (.cells #[.int .i64 c, .int .i64 d] 26)) w4.heap.size 26 [.int .i64 c, .int .i64 d] := blk0 _ _
  obtain ⟨b16a, b16b, b16c, b16d⟩ := b1.two
  go_wp2_with fail
  clear b16a b16b b16c b16d
  refine (own_l _ xs _ hu hsz).mono ?_
  rintro x w7 ⟨⟨ry, rfl, hry⟩, hb7⟩
  replace hu := hu.below hb7
  replace hrx := hrx.below hb7
  replace b1 : Blk (w7) w4.heap.size 26 [.int .i64 c, .int .i64 d] := Blk.of_eq b1 (hb7.block _ b1.lt)
  replace hB := bcat hB hb7 hge
  replace hge := hB.size
  obtain ⟨y1, y2, hy9⟩ := hry.shp
  subst hy9
  obtain ⟨b18a, b18b, b18c, b18d⟩ := b1.two
  go_wp2_with fail
  clear b18a b18b b18c b18d
  refine (HS.out _ _ hry).mono ?_
  rintro x w9 ⟨rfl, hb9⟩
  replace hu := hu.below hb9
  replace hrx := hrx.below hb9
  replace hry := hry.below hb9
  replace b1 : Blk (w9) w4.heap.size 26 [.int .i64 c, .int .i64 d] := Blk.of_eq b1 (hb9.block _ b1.lt)
  replace hB := bcat hB hb9 hge
  replace hge := hB.size
  have hb10 : Below w9.heap.size w9 (w9.alloc (.cells #[.int .i64 c, .int .i64 d] 26)) := balloc w9 _
  replace hu := hu.below hb10
  replace hrx := hrx.below hb10
  replace hry := hry.below hb10
  replace b1 : Blk (w9.alloc (.cells #[.int .i64 c, .int .i64 d] 26)) w4.heap.size 26 [.int .i64 c, .int .i64 d] := Blk.of_eq b1 (hb10.block _ b1.lt)
  replace hB := bcat hB hb10 hge
  replace hge := hB.size
  have b2 : Blk (w9.alloc (.cells #[.int .i64 c, .int .i64 d] 26)) w9.heap.size 26 [.int .i64 c, .int .i64 d] := blk0 _ _
  obtain ⟨b111a, b111b, b111c, b111d⟩ := b1.two
  obtain ⟨b211a, b211b, b211c, b211d⟩ := b2.two
  go_wp2_with fail
  clear b111a b111b b111c b111d b211a b211b b211c b211d
  refine (HP.out _ _ hu).mono ?_
  rintro x w12 ⟨rfl, hb12⟩
  replace hu := hu.below hb12
  replace hrx := hrx.below hb12
  replace hry := hry.below hb12
  replace b1 : Blk (w12) w4.heap.size 26 [.int .i64 c, .int .i64 d] := Blk.of_eq b1 (hb12.block _ b1.lt)
  replace b2 : Blk (w12) w9.heap.size 26 [.int .i64 c, .int .i64 d] := Blk.of_eq b2 (hb12.block _ b2.lt)
  replace hB := bcat hB hb12 hge
  replace hge := hB.size
  have hb13 : Below w12.heap.size w12 (w12.alloc (.cells #[.int .i64 c, .int .i64 d] 26)) := balloc w12 _
  replace hu := hu.below hb13
  replace hrx := hrx.below hb13
  replace hry := hry.below hb13
  replace b1 : Blk (w12.alloc (.cells #[.int .i64 c, .int .i64 d] 26)) w4.heap.size 26 [.int .i64 c, .int .i64 d] := Blk.of_eq b1 (hb13.block _ b1.lt)
  replace b2 : Blk (w12.alloc (.cells #[.int .i64 c, .int .i64 d] 26)) w9.heap.size 26 [.int .i64 c, .int .i64 d] := Blk.of_eq b2 (hb13.block _ b2.lt)
  replace hB := bcat hB hb13 hge
  replace hge := hB.size
  have b3 : Blk (w12.alloc (.cells #[.int .i64 c, .int .i64 d] 26)) w12.heap.size 26 [.int .i64 c, .int .i64 d] := blk0 _ _
  obtain ⟨b114a, b114b, b114c, b114d⟩ := b1.two
  obtain ⟨b214a, b214b, b214c, b214d⟩ := b2.two
  obtain ⟨b314a, b314b, b314c, b314d⟩ := b3.two
  go_wp2_with fail
  clear b114a b114b b114c b114d b214a b214b b214c b214d b314a b314b b314c b314d
  refine (begun_any _ (HTab.out _ hB)).mono ?_
  rintro x w15 ⟨rfl, hb15⟩
  replace hu := hu.below hb15
  replace hrx := hrx.below hb15
  replace hry := hry.below hb15
  replace b1 : Blk (w15) w4.heap.size 26 [.int .i64 c, .int .i64 d] := Blk.of_eq b1 (hb15.block _ b1.lt)
  replace b2 : Blk (w15) w9.heap.size 26 [.int .i64 c, .int .i64 d] := Blk.of_eq b2 (hb15.block _ b2.lt)
  replace b3 : Blk (w15) w12.heap.size 26 [.int .i64 c, .int .i64 d] := Blk.of_eq b3 (hb15.block _ b3.lt)
  replace hB := bcat hB hb15 hge
  replace hge := hB.size
  obtain ⟨b116a, b116b, b116c, b116d⟩ := b1.two
  obtain ⟨b216a, b216b, b216c, b216d⟩ := b2.two
  obtain ⟨b316a, b316b, b316c, b316d⟩ := b3.two
  go_wp2
  clear b116a b116b b116c b116d b216a b216b b216c b216d b316a b316b b316c b316d
  go_ret
  exact ⟨rfl, hB⟩

set_option maxRecDepth 100000 in
set_option maxHeartbeats 4000000 in
theorem orders_good (u : Value) (xs : List Int) (w : World) (hu : Sl w u xs) (hsz : xs.length * 8 ≤ 140737488355328) (htab : Tab w.heap.size w) (h : (fault xs).1 = 0) :
    Calls Tryd.prog 4 #[u] w fun e w' => e = .returned (.bool true) ∧ Below w.heap.size w w' := by
  obtain ⟨ua, uc, hue⟩ := hu.shp
  subst hue
  have HTab := hide (fun (W : World) (h : Below w.heap.size w W) => (htab.below h).mono h.size)
  have hB := Below.refl w.heap.size w
  have hge := hB.size
  obtain ⟨px, l1000⟩ := fault_perm h
  have hf := fault_of_perm px l1000
  have hp := fun (r : Value) (W : World) (a : Sl W r xs) => permFault_any r xs W a
  rw [hf] at hp
  have hc := fun (r : Value) (W : World) (a : Sl W r xs) (t : Tab W.heap.size W) => order_ok r xs W a px l1000 t
  have hs := fun (r : Value) (W : World) (a : Sl W r xs) => sign_ok r xs W a px l1000
  have hso := fun (r : Value) (W : World) (a : Sl W r xs) => signOf_ok r xs W a px l1000
  have hst := fun (b m : Nat) (W : World) (a : BigZ W b ((lcmL (shape xs) : Nat) : Int) m) (hm : m ≤ 4002) => string_ok b m _ W a (by omega)
  rw [show lcmL (shape xs) = lcmL (lens xs) from lcmL_perm (shL_perm _)] at hst
  obtain ⟨st, hste⟩ : ∃ st, (⟨(Lib.decDigits (lcmL (lens xs))).toArray⟩ : ByteArray) = st := ⟨_, rfl⟩
  rw [hste] at hc hst
  obtain ⟨sv, hsve⟩ : ∃ sv, sgOf (cyc xs) = sv := ⟨_, rfl⟩
  rw [hsve] at hs hso
  rw [show lcmL (lens xs) = lcmL (shape xs) from (lcmL_perm (shL_perm _)).symm] at hst
  have HP := hide hp
  have HC := hide hc
  have HS := hide hs
  have HSO := hide hso
  have HST := hide hst
  have HX := hide px
  have H1000 := hide l1000
  clear hp hf px l1000 h htab hc hs hso hst hste hsve
  go_enter Tryd.func4, Tryd.ntmps4
  go_wp2_with fail
  refine (own_l _ xs _ hu hsz).mono ?_
  rintro x w2 ⟨⟨rx, rfl, hrx⟩, hb2⟩
  replace hu := hu.below hb2
  replace hB := bcat hB hb2 hge
  replace hge := hB.size
  obtain ⟨x1, x2, hx9⟩ := hrx.shp
  subst hx9
  go_wp2_with fail
  refine (HC.out _ _ hrx (HTab.out _ hB)).mono ?_
  rintro x w4 ⟨rfl, hb4⟩
  replace hu := hu.below hb4
  replace hrx := hrx.below hb4
  replace hB := bcat hB hb4 hge
  replace hge := hB.size
  have hb5 : Below w4.heap.size w4 (w4.alloc (.cells #[.int .i64 0, .int .i64 0] 26)) := balloc w4 _
  replace hu := hu.below hb5
  replace hrx := hrx.below hb5
  replace hB := bcat hB hb5 hge
  replace hge := hB.size
  have b1 : Two (w4.alloc (.cells #[.int .i64 0, .int .i64 0] 26)) w4.heap.size := Two.new w4
  obtain ⟨_, b16a, b16b, b16c, b16d, b16e, b16f⟩ := id b1
  go_wp2_with fail
  clear b16a b16b b16c b16d b16e b16f
  refine (own_l _ xs _ hu hsz).mono ?_
  rintro x w7 ⟨⟨ry, rfl, hry⟩, hb7⟩
  replace hu := hu.below hb7
  replace hrx := hrx.below hb7
  replace b1 := Two.below b1 hb7
  replace hB := bcat hB hb7 hge
  replace hge := hB.size
  obtain ⟨y1, y2, hy9⟩ := hry.shp
  subst hy9
  obtain ⟨_, b18a, b18b, b18c, b18d, b18e, b18f⟩ := id b1
  go_wp2_with fail
  clear b18a b18b b18c b18d b18e b18f
  refine (HS.out _ _ hry).mono ?_
  rintro x w9 ⟨rfl, hb9⟩
  replace hu := hu.below hb9
  replace hrx := hrx.below hb9
  replace hry := hry.below hb9
  replace b1 := Two.below b1 hb9
  replace hB := bcat hB hb9 hge
  replace hge := hB.size
  have hb10 : Below w9.heap.size w9 (w9.alloc (.cells #[.int .i64 0, .int .i64 0] 26)) := balloc w9 _
  replace hu := hu.below hb10
  replace hrx := hrx.below hb10
  replace hry := hry.below hb10
  replace b1 := Two.below b1 hb10
  replace hB := bcat hB hb10 hge
  replace hge := hB.size
  have b2 : Two (w9.alloc (.cells #[.int .i64 0, .int .i64 0] 26)) w9.heap.size := Two.new w9
  obtain ⟨_, b111a, b111b, b111c, b111d, b111e, b111f⟩ := id b1
  obtain ⟨_, b211a, b211b, b211c, b211d, b211e, b211f⟩ := id b2
  go_wp2_with fail
  clear b111a b111b b111c b111d b111e b111f b211a b211b b211c b211d b211e b211f
  refine (HP.out _ _ hu).mono ?_
  rintro x w12 ⟨rfl, hb12⟩
  replace hu := hu.below hb12
  replace hrx := hrx.below hb12
  replace hry := hry.below hb12
  replace b1 := Two.below b1 hb12
  replace b2 := Two.below b2 hb12
  replace hB := bcat hB hb12 hge
  replace hge := hB.size
  have hb13 : Below w12.heap.size w12 (w12.alloc (.cells #[.int .i64 0, .int .i64 0] 26)) := balloc w12 _
  replace hu := hu.below hb13
  replace hrx := hrx.below hb13
  replace hry := hry.below hb13
  replace b1 := Two.below b1 hb13
  replace b2 := Two.below b2 hb13
  replace hB := bcat hB hb13 hge
  replace hge := hB.size
  have b3 : Two (w12.alloc (.cells #[.int .i64 0, .int .i64 0] 26)) w12.heap.size := Two.new w12
  obtain ⟨_, b114a, b114b, b114c, b114d, b114e, b114f⟩ := id b1
  obtain ⟨_, b214a, b214b, b214c, b214d, b214e, b214f⟩ := id b2
  obtain ⟨_, b314a, b314b, b314c, b314d, b314e, b314f⟩ := id b3
  go_wp2_with fail
  clear b114a b114b b114c b114d b114e b114f b214a b214b b214c b214d b214e b214f b314a b314b b314c b314d b314e b314f
  refine (begun_any _ (HTab.out _ hB)).mono ?_
  rintro x w15 ⟨rfl, hb15⟩
  replace hu := hu.below hb15
  replace hrx := hrx.below hb15
  replace hry := hry.below hb15
  replace b1 := Two.below b1 hb15
  replace b2 := Two.below b2 hb15
  replace b3 := Two.below b3 hb15
  replace hB := bcat hB hb15 hge
  replace hge := hB.size
  obtain ⟨_, b116a, b116b, b116c, b116d, b116e, b116f⟩ := id b1
  obtain ⟨_, b216a, b216b, b216c, b216d, b216e, b216f⟩ := id b2
  obtain ⟨_, b316a, b316b, b316c, b316d, b316e, b316f⟩ := id b3
  go_wp2_with fail
  clear b116a b116b b116c b116d b116e b116f b216a b216b b216c b216d b216e b216f b316a b316b b316c b316d b316e b316f
  refine (orderOf_ok _ xs _ hu HX.out H1000.out).mono ?_
  rintro x w17 ⟨⟨ob, om, rfl, hob, hom⟩, hb17⟩
  replace hu := hu.below hb17
  replace hrx := hrx.below hb17
  replace hry := hry.below hb17
  replace b1 := Two.below b1 hb17
  replace b2 := Two.below b2 hb17
  replace b3 := Two.below b3 hb17
  replace hB := bcat hB hb17 hge
  replace hge := hB.size
  obtain ⟨_, b118a, b118b, b118c, b118d, b118e, b118f⟩ := id b1
  obtain ⟨_, b218a, b218b, b218c, b218d, b218e, b218f⟩ := id b2
  obtain ⟨_, b318a, b318b, b318c, b318d, b318e, b318f⟩ := id b3
  go_wp2_with fail
  clear b118a b118b b118c b118d b118e b118f b218a b218b b218c b218d b218e b218f b318a b318b b318c b318d b318e b318f
  refine (HST.out _ _ _ hob hom).mono ?_
  rintro x w19 ⟨rfl, hb19⟩
  replace hu := hu.below hb19
  replace hrx := hrx.below hb19
  replace hry := hry.below hb19
  replace b1 := Two.below b1 hb19
  replace b2 := Two.below b2 hb19
  replace b3 := Two.below b3 hb19
  replace hB := bcat hB hb19 hge
  replace hge := hB.size
  obtain ⟨_, b120a, b120b, b120c, b120d, b120e, b120f⟩ := id b1
  obtain ⟨_, b220a, b220b, b220c, b220d, b220e, b220f⟩ := id b2
  obtain ⟨_, b320a, b320b, b320c, b320d, b320e, b320f⟩ := id b3
  go_wp2_with fail
  clear b120a b120b b120c b120d b120e b120f b220a b220b b220c b220d b220e b220f b320a b320b b320c b320d b320e b320f
  refine (HSO.out _ _ hu).mono ?_
  rintro x w21 ⟨rfl, hb21⟩
  replace hu := hu.below hb21
  replace hrx := hrx.below hb21
  replace hry := hry.below hb21
  replace b1 := Two.below b1 hb21
  replace b2 := Two.below b2 hb21
  replace b3 := Two.below b3 hb21
  replace hB := bcat hB hb21 hge
  replace hge := hB.size
  obtain ⟨_, b122a, b122b, b122c, b122d, b122e, b122f⟩ := id b1
  obtain ⟨_, b222a, b222b, b222c, b222d, b222e, b222f⟩ := id b2
  obtain ⟨_, b322a, b322b, b322c, b322d, b322e, b322f⟩ := id b3
  go_wp2
  clear b122a b122b b122c b122d b122e b122f b222a b222b b222c b222d b222e b222f b322a b322b b322c b322d b322e b322f
  go_ret
  exact ⟨rfl, hB⟩
theorem orders_law (u : Value) (xs : List Int) (w : World) (hu : Sl w u xs) (hsz : xs.length * 8 ≤ 140737488355328) (htab : Tab w.heap.size w) :
    Calls Tryd.prog 4 #[u] w fun e w' => e = .returned (.bool true) ∧ Below w.heap.size w w' := by
  by_cases h : (fault xs).1 = 0
  · exact orders_good u xs w hu hsz htab h
  · exact orders_bad u xs w hu hsz htab h
end Go.Proofs.YtjchmhngfnlbhaaDoor
