/- PermRanks at up to 100 points, the last permutation. -/
import Derived.Test.YtjchmhngfnlbhaaDoorRk0
namespace Go.Proofs.YtjchmhngfnlbhaaDoor
open Go Go.RowKit Go.Shelf

set_option maxRecDepth 100000 in
set_option maxHeartbeats 8000000 in
theorem ranks_few_fall (u : Value) (xs : List Int) (w : World) (hu : Sl w u xs) (hsz : xs.length * 8 ≤ 140737488355328) (htab : Tab w.heap.size w) (h : (fault xs).1 = 0) (h100 : xs.length ≤ 100) (hfl : Falls xs) :
    Calls Tryd.prog 6 #[u] w fun e w' => e = .returned (.bool true) ∧ Below w.heap.size w w' := by
  obtain ⟨ua, uc, hue⟩ := hu.shp
  subst hue
  have HTab := hide (fun (W : World) (h : Below w.heap.size w W) => (htab.below h).mono h.size)
  have hB := Below.refl w.heap.size w
  have hge := hB.size
  obtain ⟨px, l1000⟩ := fault_perm h
  have hf := fault_of_perm px l1000
  have hp := fun (r : Value) (W : World) (a : Sl W r xs) => permFault_any r xs W a
  rw [hf] at hp
  have HP := hide hp
  have HX := hide px
  have H1000 := hide l1000
  have hlen : (xs.length : Int) ≤ 1000 := by omega
  have h100i : (xs.length : Int) ≤ 100 := by omega
  have h100d : decide ((100 : Int) < (xs.length : Int)) = false := decide_eq_false (by omega)
  obtain ⟨st, hste⟩ : ∃ st, (⟨(Lib.decDigits (rk xs xs.length)).toArray⟩ : ByteArray) = st := ⟨_, rfl⟩
  have hr := fun (r : Value) (W : World) (a : Sl W r xs) (t : Tab W.heap.size W) => rank_l r xs W a px h100 t
  have hro := fun (r : Value) (W : World) (a : Sl W r xs) => rankOf_ok r xs W a px h100
  have hst := fun (b m : Nat) (W : World) (a : BigZ W b ((rk xs xs.length : Nat) : Int) m) (hm : m ≤ 1000) => string_l b m _ W a (by omega)
  rw [hste] at hr hst
  have HR := hide hr
  have HRO := hide hro
  have HST := hide hst
  clear hr hro hst hste h100
  have HF := hide hfl
  clear hfl
  clear hp hf px l1000 h htab
  go_enter Tryd.func6, Tryd.ntmps6
  go_wp2_with fail
  refine (own_r _ xs _ hu hsz).mono ?_
  rintro x w2 ⟨⟨rx, rfl, hrx⟩, hb2⟩
  replace hu := hu.below hb2
  replace hB := bcat hB hb2 hge
  replace hge := hB.size
  obtain ⟨x1, x2, hx9⟩ := hrx.shp
  subst hx9
  go_wp2_with fail
  refine (HR.out _ _ hrx (HTab.out _ hB)).mono ?_
  rintro x w4 ⟨rfl, hb4⟩
  replace hu := hu.below hb4
  replace hrx := hrx.below hb4
  replace hB := bcat hB hb4 hge
  replace hge := hB.size
  have hb5 : Below w4.heap.size w4 (w4.alloc (.cells #[.int .i64 0, .int .i64 0] 26)) := balloc w4 _
  replace hu := hu.below hb5
  replace hrx := hrx.below hb5
  replace hB := bcat hB hb5 hge
  replace hge := hB.size
  have b1 : Two (w4.alloc (.cells #[.int .i64 0, .int .i64 0] 26)) w4.heap.size := Two.new w4
  obtain ⟨_, b16a, b16b, b16c, b16d, b16e, b16f⟩ := id b1
  go_wp2_with fail
  clear b16a b16b b16c b16d b16e b16f
  refine (own_r _ xs _ hu hsz).mono ?_
  rintro x w7 ⟨⟨ry, rfl, hry⟩, hb7⟩
  replace hu := hu.below hb7
  replace hrx := hrx.below hb7
  replace b1 := Two.below b1 hb7
  replace hB := bcat hB hb7 hge
  replace hge := hB.size
  obtain ⟨y1, y2, hy9⟩ := hry.shp
  subst hy9
  obtain ⟨_, b18a, b18b, b18c, b18d, b18e, b18f⟩ := id b1
  go_wp2_with fail
  clear b18a b18b b18c b18d b18e b18f
  refine (next_none _ xs _ hry HX.out H1000.out HF.out).mono ?_
  rintro x w9 ⟨rfl, hb9⟩
  replace hu := hu.below hb9
  replace hrx := hrx.below hb9
  replace hry := hry.below hb9
  replace b1 := Two.below b1 hb9
  replace hB := bcat hB hb9 hge
  replace hge := hB.size
  have hb10 : Below w9.heap.size w9 (w9.alloc (.cells #[.int .i64 6, .int .i64 0] 26)) := balloc w9 _
  replace hu := hu.below hb10
  replace hrx := hrx.below hb10
  replace hry := hry.below hb10
  replace b1 := Two.below b1 hb10
  replace hB := bcat hB hb10 hge
  replace hge := hB.size
  have b2 : Blk (w9.alloc (.cells #[.int .i64 6, .int .i64 0] 26)) w9.heap.size 26 [.int .i64 6, .int .i64 0] := blk0 _ _
  obtain ⟨_, b111a, b111b, b111c, b111d, b111e, b111f⟩ := id b1
  obtain ⟨b211a, b211b, b211c, b211d⟩ := b2.two
  go_wp2_with fail
  clear b111a b111b b111c b111d b111e b111f b211a b211b b211c b211d
  refine (HP.out _ _ hu).mono ?_
  rintro x w12 ⟨rfl, hb12⟩
  replace hu := hu.below hb12
  replace hrx := hrx.below hb12
  replace hry := hry.below hb12
  replace b1 := Two.below b1 hb12
  replace b2 : Blk (w12) w9.heap.size 26 [.int .i64 6, .int .i64 0] := Blk.of_eq b2 (hb12.block _ b2.lt)
  replace hB := bcat hB hb12 hge
  replace hge := hB.size
  have hb13 : Below w12.heap.size w12 (w12.alloc (.cells #[.int .i64 0, .int .i64 0] 26)) := balloc w12 _
  replace hu := hu.below hb13
  replace hrx := hrx.below hb13
  replace hry := hry.below hb13
  replace b1 := Two.below b1 hb13
  replace b2 : Blk (w12.alloc (.cells #[.int .i64 0, .int .i64 0] 26)) w9.heap.size 26 [.int .i64 6, .int .i64 0] := Blk.of_eq b2 (hb13.block _ b2.lt)
  replace hB := bcat hB hb13 hge
  replace hge := hB.size
  have b3 : Two (w12.alloc (.cells #[.int .i64 0, .int .i64 0] 26)) w12.heap.size := Two.new w12
  obtain ⟨_, mm0, mm1, mm2, mm3, mm4, mm5⟩ := id b3
  have hb14 : Below (w12.alloc (.cells #[.int .i64 0, .int .i64 0] 26)).heap.size (w12.alloc (.cells #[.int .i64 0, .int .i64 0] 26)) ((w12.alloc (.cells #[.int .i64 0, .int .i64 0] 26)).alloc (.cells #[.int .i64 0, .int .i64 0] 26)) := balloc (w12.alloc (.cells #[.int .i64 0, .int .i64 0] 26)) _
  replace hu := hu.below hb14
  replace hrx := hrx.below hb14
  replace hry := hry.below hb14
  replace b1 := Two.below b1 hb14
  replace b2 : Blk ((w12.alloc (.cells #[.int .i64 0, .int .i64 0] 26)).alloc (.cells #[.int .i64 0, .int .i64 0] 26)) w9.heap.size 26 [.int .i64 6, .int .i64 0] := Blk.of_eq b2 (hb14.block _ b2.lt)
  replace b3 := Two.below b3 hb14
  replace hB := bcat hB hb14 hge
  replace hge := hB.size
  have b4 : Two ((w12.alloc (.cells #[.int .i64 0, .int .i64 0] 26)).alloc (.cells #[.int .i64 0, .int .i64 0] 26)) (w12.alloc (.cells #[.int .i64 0, .int .i64 0] 26)).heap.size := Two.new (w12.alloc (.cells #[.int .i64 0, .int .i64 0] 26))
  replace b4 : Two ((w12.alloc (.cells #[.int .i64 0, .int .i64 0] 26)).alloc (.cells #[.int .i64 0, .int .i64 0] 26)) (w12.heap.size + 1) := by rwa [World.size_alloc] at b4
  obtain ⟨_, b115a, b115b, b115c, b115d, b115e, b115f⟩ := id b1
  obtain ⟨b215a, b215b, b215c, b215d⟩ := b2.two
  obtain ⟨_, b315a, b315b, b315c, b315d, b315e, b315f⟩ := id b3
  obtain ⟨_, b415a, b415b, b415c, b415d, b415e, b415f⟩ := id b4
  go_wp2_with fail
  clear b115a b115b b115c b115d b115e b115f b215a b215b b215c b215d b315a b315b b315c b315d b315e b315f b415a b415b b415c b415d b415e b415f
  clear mm0 mm1 mm2 mm3 mm4 mm5
  refine (begun_any _ (HTab.out _ hB)).mono ?_
  rintro x w16 ⟨rfl, hb16⟩
  replace hu := hu.below hb16
  replace hrx := hrx.below hb16
  replace hry := hry.below hb16
  replace b1 := Two.below b1 hb16
  replace b2 : Blk (w16) w9.heap.size 26 [.int .i64 6, .int .i64 0] := Blk.of_eq b2 (hb16.block _ b2.lt)
  replace b3 := Two.below b3 hb16
  replace b4 := Two.below b4 hb16
  replace hB := bcat hB hb16 hge
  replace hge := hB.size
  obtain ⟨_, b117a, b117b, b117c, b117d, b117e, b117f⟩ := id b1
  obtain ⟨b217a, b217b, b217c, b217d⟩ := b2.two
  obtain ⟨_, b317a, b317b, b317c, b317d, b317e, b317f⟩ := id b3
  obtain ⟨_, b417a, b417b, b417c, b417d, b417e, b417f⟩ := id b4
  go_wp2_with fail
  clear b117a b117b b117c b117d b117e b117f b217a b217b b217c b217d b317a b317b b317c b317d b317e b317f b417a b417b b417c b417d b417e b417f
  refine (HRO.out _ _ hu).mono ?_
  rintro x w18 ⟨⟨ob, om, rfl, hob, hom⟩, hb18⟩
  replace hu := hu.below hb18
  replace hrx := hrx.below hb18
  replace hry := hry.below hb18
  replace b1 := Two.below b1 hb18
  replace b2 : Blk (w18) w9.heap.size 26 [.int .i64 6, .int .i64 0] := Blk.of_eq b2 (hb18.block _ b2.lt)
  replace b3 := Two.below b3 hb18
  replace b4 := Two.below b4 hb18
  replace hB := bcat hB hb18 hge
  replace hge := hB.size
  obtain ⟨_, b119a, b119b, b119c, b119d, b119e, b119f⟩ := id b1
  obtain ⟨b219a, b219b, b219c, b219d⟩ := b2.two
  obtain ⟨_, b319a, b319b, b319c, b319d, b319e, b319f⟩ := id b3
  obtain ⟨_, b419a, b419b, b419c, b419d, b419e, b419f⟩ := id b4
  go_wp2_with fail
  clear b119a b119b b119c b119d b119e b119f b219a b219b b219c b219d b319a b319b b319c b319d b319e b319f b419a b419b b419c b419d b419e b419f
  refine (HST.out _ _ _ hob hom).mono ?_
  rintro x w20 ⟨rfl, hb20⟩
  replace hu := hu.below hb20
  replace hrx := hrx.below hb20
  replace hry := hry.below hb20
  replace b1 := Two.below b1 hb20
  replace b2 : Blk (w20) w9.heap.size 26 [.int .i64 6, .int .i64 0] := Blk.of_eq b2 (hb20.block _ b2.lt)
  replace b3 := Two.below b3 hb20
  replace b4 := Two.below b4 hb20
  replace hB := bcat hB hb20 hge
  replace hge := hB.size
  obtain ⟨_, b121a, b121b, b121c, b121d, b121e, b121f⟩ := id b1
  obtain ⟨b221a, b221b, b221c, b221d⟩ := b2.two
  obtain ⟨_, b321a, b321b, b321c, b321d, b321e, b321f⟩ := id b3
  obtain ⟨_, b421a, b421b, b421c, b421d, b421e, b421f⟩ := id b4
  go_wp2
  clear b121a b121b b121c b121d b121e b121f b221a b221b b221c b221d b321a b321b b321c b321d b321e b321f b421a b421b b421c b421d b421e b421f
  obtain ⟨pb, po, hrd, hpl⟩ := hu.rd
  have hcur := hide hge
  go_loopw [9, 10] (fun l i wr => ∃ k j : Nat, 1 ≤ k ∧ l = .bool true ∧ i = .int .i64 k ∧ wr = w20.drewN j) (fun _ i _ => xs.length - (intOf i).toNat)
  case atStart => exact ⟨1, 0, by omega, rfl, rfl, rfl⟩
  case round =>
    obtain ⟨k, j, hk, rfl, rfl, rfl⟩ := hrel
    by_cases hlt : k < xs.length
    · have hki : (k : Int) < (xs.length : Int) := by omega
      obtain ⟨q, hq⟩ : ∃ q, k - 1 = q := ⟨_, rfl⟩
      have hsq : (k : Int) - 1 = (q : Int) := by omega
      have hwq : IntKind.i64.wrap (q : Int) = (q : Int) := by rw [IntKind.wrap_i64]; omega
      have hqi : (q : Int) < (xs.length : Int) := by omega
      have hql : q < xs.length := by omega
      have hxy := HF.out k (by omega) hlt
      rw [hq] at hxy
      have c1 := hrd.cell k hlt
      have c2 := hrd.cell q hql
      obtain rfl := hrd.at_ (by omega)
      generalize xs[k]?.getD 0 = x at *
      generalize xs[q]?.getD 0 = y at *
      have HQ := hide hq
      clear hq
      go_wp2
      go_quiet (fail)
      go_wp2
      go_roundw
      case rel => exact ⟨k + 1, _, by omega, rfl, by go_num, rfl⟩
      case measure => simp [intOf]; omega
    · have hki : ¬ (k : Int) < (xs.length : Int) := by omega
      have hbj : Below w20.heap.size w20 (w20.drewN j) := bdrewN (Below.refl _ _) j
      have b29 : Blk (w20.drewN j) (w9.heap.size) 26 [.int .i64 6, .int .i64 0] := Blk.of_eq b2 (hbj.block _ b2.lt)
      have hB9 := bcat hB hbj hge
      have hge9 := hB9.size
      obtain ⟨z1, z2, z3, z4⟩ := b29.two
      have hS : ∀ W, Below (w20.drewN j).heap.size (w20.drewN j) W → (Below (w20.drewN j).heap.size (w20.drewN j) W ∧ W.cell? ⟨w9.heap.size, 0, none⟩ = some (.int .i64 6) ∧ W.cell? ⟨w9.heap.size, 1, none⟩ = some (.int .i64 0)) := fun W h => ⟨h, by rw [World.cell?_of_block (a := ⟨w9.heap.size, 0, none⟩) (h.block _ b29.lt)]; exact z1, by rw [World.cell?_of_block (a := ⟨w9.heap.size, 1, none⟩) (h.block _ b29.lt)]; exact z2⟩
      have hS0 := hS _ (bdrew (Below.refl _ _))
      clear hB hu b1 b2 b3 b4 hrx hry
      go_wp2_with fail
      generalize w20.drewN j = wv at *
      go_region_held3 (fun W => Below wv.heap.size wv W ∧ W.cell? ⟨w9.heap.size, 0, none⟩ = some (.int .i64 6) ∧ W.cell? ⟨w9.heap.size, 1, none⟩ = some (.int .i64 0))
        (first | exact hS0 | exact hS _ (bcat2 (And.left ‹_›) hl1))
        (first
          | (go_at_call 27; refine (f_any 6 0 _).mono ?_; rintro e W1 ⟨rfl, hl1⟩))
      obtain ⟨hb2, _, _⟩ := ‹Below wv.heap.size wv _ ∧ _›
      have hB8 := bcat hB9 hb2 hge9
      clear hS hS0
      go_wp2
      go_ret
      exact ⟨rfl, hB8⟩
end Go.Proofs.YtjchmhngfnlbhaaDoor
