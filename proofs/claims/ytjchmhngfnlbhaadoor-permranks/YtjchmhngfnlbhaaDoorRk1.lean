/- PermRanks at what is no permutation. -/
import Derived.Test.YtjchmhngfnlbhaaDoorRk0
namespace Go.Proofs.YtjchmhngfnlbhaaDoor
open Go Go.RowKit Go.Shelf

set_option maxRecDepth 100000 in
set_option maxHeartbeats 8000000 in
theorem ranks_bad (u : Value) (xs : List Int) (w : World) (hu : Sl w u xs) (hsz : xs.length * 8 ≤ 140737488355328) (htab : Tab w.heap.size w) (h : (fault xs).1 ≠ 0) :
    Calls Tryd.prog 6 #[u] w fun e w' => e = .returned (.bool true) ∧ Below w.heap.size w w' := by
  obtain ⟨ua, uc, hue⟩ := hu.shp
  subst hue
  have HTab := hide (fun (W : World) (h : Below w.heap.size w W) => (htab.below h).mono h.size)
  have hB := Below.refl w.heap.size w
  have hge := hB.size
  have hr := fun (r : Value) (W : World) (a : Sl W r xs) => rank_bad r xs W a h
  have hn := fun (r : Value) (W : World) (a : Sl W r xs) => next_bad r xs W a h
  have hp := fun (r : Value) (W : World) (a : Sl W r xs) => permFault_any r xs W a
  obtain ⟨c, d, hcd⟩ : ∃ c d, fault xs = (c, d) := ⟨_, _, rfl⟩
  rw [hcd] at hr hn hp h
  have hcb : (c != 0) = true := by simpa using h
  have hce : (c == 0) = false := by simpa using h
  have hcn : ¬ c = 0 := h
  have HR := hide hr
  have HN := hide hn
  have HP := hide hp
  clear hr hn hp hcd h htab
  go_enter Tryd.func6, Tryd.ntmps6
  go_wp2_with fail
  refine (own_r _ xs _ hu hsz).mono ?_
  rintro x w2 ⟨⟨rx, rfl, hrx⟩, hb2⟩
  replace hu := hu.below hb2
  replace hB := bcat hB hb2 hge
  replace hge := hB.size
  obtain ⟨x1, x2, hx9⟩ := hrx.shp
  subst hx9
  go_wp2_with fail
  refine (HR.out _ _ hrx).mono ?_
  rintro x w4 ⟨rfl, hb4⟩
  replace hu := hu.below hb4
  replace hrx := hrx.below hb4
  replace hB := bcat hB hb4 hge
  replace hge := hB.size
  have hb5 : Below w4.heap.size w4 (w4.alloc (.cells #[.int .i64 c, .int .i64 d] 26)) := balloc w4 _
  replace hu := hu.below hb5
  replace hrx := hrx.below hb5
  replace hB := bcat hB hb5 hge
  replace hge := hB.size
  have b1 : Blk (w4.alloc (.cells #[.int .i64 c, .int .i64 d] 26)) w4.heap.size 26 [.int .i64 c, .int .i64 d] := blk0 _ _
  obtain ⟨b16a, b16b, b16c, b16d⟩ := b1.two
  go_wp2_with fail
  clear b16a b16b b16c b16d
  refine (own_r _ xs _ hu hsz).mono ?_
  rintro x w7 ⟨⟨ry, rfl, hry⟩, hb7⟩
  replace hu := hu.below hb7
  replace hrx := hrx.below hb7
  replace b1 : Blk (w7) w4.heap.size 26 [.int .i64 c, .int .i64 d] := Blk.of_eq b1 (hb7.block _ b1.lt)
  replace hB := bcat hB hb7 hge
  replace hge := hB.size
  obtain ⟨y1, y2, hy9⟩ := hry.shp
  subst hy9
  obtain ⟨b18a, b18b, b18c, b18d⟩ := b1.two
  go_wp2_with fail
  clear b18a b18b b18c b18d
  refine (HN.out _ _ hry).mono ?_
  rintro x w9 ⟨rfl, hb9⟩
  replace hu := hu.below hb9
  replace hrx := hrx.below hb9
  replace hry := hry.below hb9
  replace b1 : Blk (w9) w4.heap.size 26 [.int .i64 c, .int .i64 d] := Blk.of_eq b1 (hb9.block _ b1.lt)
  replace hB := bcat hB hb9 hge
  replace hge := hB.size
  have hb10 : Below w9.heap.size w9 (w9.alloc (.cells #[.int .i64 c, .int .i64 d] 26)) := balloc w9 _
  replace hu := hu.below hb10
  replace hrx := hrx.below hb10
  replace hry := hry.below hb10
  replace b1 : Blk (w9.alloc (.cells #[.int .i64 c, .int .i64 d] 26)) w4.heap.size 26 [.int .i64 c, .int .i64 d] := Blk.of_eq b1 (hb10.block _ b1.lt)
  replace hB := bcat hB hb10 hge
  replace hge := hB.size
  have b2 : Blk (w9.alloc (.cells #[.int .i64 c, .int .i64 d] 26)) w9.heap.size 26 [.int .i64 c, .int .i64 d] := blk0 _ _
  obtain ⟨b111a, b111b, b111c, b111d⟩ := b1.two
  obtain ⟨b211a, b211b, b211c, b211d⟩ := b2.two
  go_wp2_with fail
  clear b111a b111b b111c b111d b211a b211b b211c b211d
  refine (HP.out _ _ hu).mono ?_
  rintro x w12 ⟨rfl, hb12⟩
  replace hu := hu.below hb12
  replace hrx := hrx.below hb12
  replace hry := hry.below hb12
  replace b1 : Blk (w12) w4.heap.size 26 [.int .i64 c, .int .i64 d] := Blk.of_eq b1 (hb12.block _ b1.lt)
  replace b2 : Blk (w12) w9.heap.size 26 [.int .i64 c, .int .i64 d] := Blk.of_eq b2 (hb12.block _ b2.lt)
  replace hB := bcat hB hb12 hge
  replace hge := hB.size
  have hb13 : Below w12.heap.size w12 (w12.alloc (.cells #[.int .i64 c, .int .i64 d] 26)) := balloc w12 _
  replace hu := hu.below hb13
  replace hrx := hrx.below hb13
  replace hry := hry.below hb13
  replace b1 : Blk (w12.alloc (.cells #[.int .i64 c, .int .i64 d] 26)) w4.heap.size 26 [.int .i64 c, .int .i64 d] := Blk.of_eq b1 (hb13.block _ b1.lt)
  replace b2 : Blk (w12.alloc (.cells #[.int .i64 c, .int .i64 d] 26)) w9.heap.size 26 [.int .i64 c, .int .i64 d] := Blk.of_eq b2 (hb13.block _ b2.lt)
  replace hB := bcat hB hb13 hge
  replace hge := hB.size
  have b3 : Blk (w12.alloc (.cells #[.int .i64 c, .int .i64 d] 26)) w12.heap.size 26 [.int .i64 c, .int .i64 d] := blk0 _ _
  obtain ⟨mm0, mm1, mm2, mm3⟩ := b3.two
  have hb14 : Below (w12.alloc (.cells #[.int .i64 c, .int .i64 d] 26)).heap.size (w12.alloc (.cells #[.int .i64 c, .int .i64 d] 26)) ((w12.alloc (.cells #[.int .i64 c, .int .i64 d] 26)).alloc (.cells #[.int .i64 c, .int .i64 d] 26)) := balloc (w12.alloc (.cells #[.int .i64 c, .int .i64 d] 26)) _
  replace hu := hu.below hb14
  replace hrx := hrx.below hb14
  replace hry := hry.below hb14
  replace b1 : Blk ((w12.alloc (.cells #[.int .i64 c, .int .i64 d] 26)).alloc (.cells #[.int .i64 c, .int .i64 d] 26)) w4.heap.size 26 [.int .i64 c, .int .i64 d] := Blk.of_eq b1 (hb14.block _ b1.lt)
  replace b2 : Blk ((w12.alloc (.cells #[.int .i64 c, .int .i64 d] 26)).alloc (.cells #[.int .i64 c, .int .i64 d] 26)) w9.heap.size 26 [.int .i64 c, .int .i64 d] := Blk.of_eq b2 (hb14.block _ b2.lt)
  replace b3 : Blk ((w12.alloc (.cells #[.int .i64 c, .int .i64 d] 26)).alloc (.cells #[.int .i64 c, .int .i64 d] 26)) w12.heap.size 26 [.int .i64 c, .int .i64 d] := Blk.of_eq b3 (hb14.block _ b3.lt)
  replace hB := bcat hB hb14 hge
  replace hge := hB.size
  have b4 : Blk ((w12.alloc (.cells #[.int .i64 c, .int .i64 d] 26)).alloc (.cells #[.int .i64 c, .int .i64 d] 26)) (w12.alloc (.cells #[.int .i64 c, .int .i64 d] 26)).heap.size 26 [.int .i64 c, .int .i64 d] := blk0 _ _
  replace b4 : Blk ((w12.alloc (.cells #[.int .i64 c, .int .i64 d] 26)).alloc (.cells #[.int .i64 c, .int .i64 d] 26)) (w12.heap.size + 1) 26 [.int .i64 c, .int .i64 d] := by rwa [World.size_alloc] at b4
  obtain ⟨b115a, b115b, b115c, b115d⟩ := b1.two
  obtain ⟨b215a, b215b, b215c, b215d⟩ := b2.two
  obtain ⟨b315a, b315b, b315c, b315d⟩ := b3.two
  obtain ⟨b415a, b415b, b415c, b415d⟩ := b4.two
  go_wp2_with fail
  clear b115a b115b b115c b115d b215a b215b b215c b215d b315a b315b b315c b315d b415a b415b b415c b415d
  clear mm0 mm1 mm2 mm3
  refine (begun_any _ (HTab.out _ hB)).mono ?_
  rintro x w16 ⟨rfl, hb16⟩
  replace hu := hu.below hb16
  replace hrx := hrx.below hb16
  replace hry := hry.below hb16
  replace b1 : Blk (w16) w4.heap.size 26 [.int .i64 c, .int .i64 d] := Blk.of_eq b1 (hb16.block _ b1.lt)
  replace b2 : Blk (w16) w9.heap.size 26 [.int .i64 c, .int .i64 d] := Blk.of_eq b2 (hb16.block _ b2.lt)
  replace b3 : Blk (w16) w12.heap.size 26 [.int .i64 c, .int .i64 d] := Blk.of_eq b3 (hb16.block _ b3.lt)
  replace b4 : Blk (w16) (w12.heap.size + 1) 26 [.int .i64 c, .int .i64 d] := Blk.of_eq b4 (hb16.block _ b4.lt)
  replace hB := bcat hB hb16 hge
  replace hge := hB.size
  obtain ⟨b117a, b117b, b117c, b117d⟩ := b1.two
  obtain ⟨b217a, b217b, b217c, b217d⟩ := b2.two
  obtain ⟨b317a, b317b, b317c, b317d⟩ := b3.two
  obtain ⟨b417a, b417b, b417c, b417d⟩ := b4.two
  go_wp2
  clear b117a b117b b117c b117d b217a b217b b217c b217d b317a b317b b317c b317d b417a b417b b417c b417d
  go_ret
  exact ⟨rfl, hB⟩

end Go.Proofs.YtjchmhngfnlbhaaDoor
