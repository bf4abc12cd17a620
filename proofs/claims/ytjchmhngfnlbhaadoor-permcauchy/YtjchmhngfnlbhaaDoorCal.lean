/- PermCauchy returns true at every two lists. -/
import Derived.Test.YtjchmhngfnlbhaaDoorCj3
import Derived.Test.YtjchmhngfnlbhaaDoorOwn
import Derived.Test.YtjchmhngfnlbhaaDoorSho
import Derived.Test.YtjchmhngfnlbhaaDoorThen
import Derived.Test.YtjchmhngfnlbhaaDoorBegun
namespace Go.Proofs.YtjchmhngfnlbhaaDoor
open Go Go.RowKit Go.Shelf

attribute [local go_sem] Oper.semAt_some

set_option maxRecDepth 100000 in
set_option maxHeartbeats 4000000 in
theorem conj_bad (u v : Value) (xs ys : List Int) (w : World) (hu : Sl w u xs) (hv : Sl w v ys) (hf : (twof xs ys).1 ≠ 0) :
    Calls Tryd.prog 25 #[u, v] w fun e w' => e = .returned (.tuple #[.slice none 0 0, .agg #[.int .i64 (twof xs ys).1, .int .i64 (twof xs ys).2]]) ∧ Below w.heap.size w w' := by
  have hB0 : Below w.heap.size w ((w.alloc (.cells #[.slice none 0 0] 22)).alloc (.cells #[.int .i64 0, .int .i64 0] 26)) := (balloc w _).alloc (by simp) _
  have hu0 := hu.below hB0
  have hv0 := hv.below hB0
  have N0 : Boxed ((w.alloc (.cells #[.slice none 0 0] 22)).alloc (.cells #[.int .i64 0, .int .i64 0] 26)) w.heap.size 22 (.slice none 0 0) := (Boxed.new w 22 _).alloc _
  have T0 : Two ((w.alloc (.cells #[.slice none 0 0] 22)).alloc (.cells #[.int .i64 0, .int .i64 0] 26)) (w.heap.size + 1) := by
    have := Two.new (w.alloc (.cells #[.slice none 0 0] 22)); rwa [World.size_alloc] at this
  have hck := checkPair_any _ _ xs ys _ hu0 hv0
  obtain ⟨c, i, hci⟩ : ∃ c i, twof xs ys = (c, i) := ⟨_, _, rfl⟩
  rw [hci] at hck hf ⊢
  obtain ⟨a, cap, pb, po, rfl, hr, hp, hq3, hq4⟩ := hu
  obtain ⟨a', cap', pb', po', rfl, hr', hp', hq3', hq4'⟩ := hv
  have hbe : (c != 0) = true := by simpa using hf
  have HCK := hide hck
  have HSZ : Hid (((w.alloc (.cells #[.slice none 0 0] 22)).alloc (.cells #[.int .i64 0, .int .i64 0] 26)).heap.size = w.heap.size + 2) := hide (by simp)
  clear hci hf hu0 hv0 hck
  refine (callsIn_wide (n := 9)).1 ?_
  refine callsIn_of_wp_marks Tryd.func25 rfl trivial ?_ rfl
  simp only [Tryd.ntmps25, List.size_toArray, List.length_cons, List.length_nil, Nat.reduceAdd, Nat.reduceSub, Array.replicate_succ, Array.replicate_zero, List.push_toArray, List.append_toArray, List.nil_append, List.cons_append]
  gi_wp2_with fail
  refine ⟨trivial, ?_⟩
  refine (callsIn_wide.2 HCK.out).mono ?_
  rintro e w1 ⟨rfl, hl1⟩
  have hB1 := bcat hB0 hl1 (by have := HSZ.out; omega)
  have T1 := T0.below hl1
  have N1 : Boxed w1 w.heap.size 22 (.slice none 0 0) := (hl1.block _ N0.lt).trans N0
  have hs1 : w.heap.size + 1 < w1.heap.size := T1.blk.lt
  have R2 : Blk (w1.alloc (.cells #[.int .i64 c, .int .i64 i] 26)) (w.heap.size + 1) 26 [.int .i64 0, .int .i64 0] := T1.blk.alloc _
  have M2 : Boxed (w1.alloc (.cells #[.int .i64 c, .int .i64 i] 26)) w.heap.size 22 (.slice none 0 0) := N1.alloc _
  have N2 : Blk (w1.alloc (.cells #[.int .i64 c, .int .i64 i] 26)) w1.heap.size 26 [.int .i64 c, .int .i64 i] := blk0 _ _
  have hB2 := hB1.alloc hB1.size (.cells #[.int .i64 c, .int .i64 i] 26)
  obtain ⟨hc0, hc1, hf0, hf1⟩ := R2.two
  obtain ⟨hd0, hd1, hg0, hg1⟩ := N2.two
  have hm0 := M2.cell
  have hm1 := M2.frozen
  clear hl1 hB0 T0 HCK N0 HSZ N1
  gi_wp2_with fail
  generalize w1.alloc (.cells #[.int .i64 c, .int .i64 i] 26) = w2 at *
  have hne1 : ¬ w.heap.size = w1.heap.size := by omega
  have hne2 : ¬ w.heap.size + 1 = w1.heap.size := by omega
  have hne3 : ¬ w1.heap.size = w.heap.size := by omega
  have hne4 : ¬ w1.heap.size = w.heap.size + 1 := by omega
  have hm2 : (w2.setCell ⟨w.heap.size, 0, none⟩ (.slice none 0 0)).cell? ⟨w1.heap.size, 0, none⟩ = some (.int .i64 c) := by rw [World.cell?_setCell_far _ _ _ _ (by simp; omega)]; exact hd0
  have hm3 : (w2.setCell ⟨w.heap.size, 0, none⟩ (.slice none 0 0)).cell? ⟨w1.heap.size, 1, none⟩ = some (.int .i64 i) := by rw [World.cell?_setCell_far _ _ _ _ (by simp; omega)]; exact hd1
  gi_region
  gi_wp2
  obtain ⟨W, hW⟩ : ∃ W, W = (((w2.setCell ⟨w.heap.size, 0, none⟩ (.slice none 0 0)).setCell ⟨w.heap.size + 1, 0, none⟩ (.int .i64 c)).setCell ⟨w.heap.size + 1, 1, none⟩ (.int .i64 i)).drew := ⟨_, rfl⟩
  rw [← hW]
  have b4' : Boxed W w.heap.size 22 (.slice none 0 0) := by
    rw [hW]; exact (Below.heap_setCell _ _ _ _ (by simp)).trans ((Below.heap_setCell _ _ _ _ (by simp)).trans (M2.set _))
  have b5' : Blk W (w.heap.size + 1) 26 [.int .i64 c, .int .i64 i] := by
    rw [hW]; exact ((R2.other (by simp) _).set 0 _).set 1 _
  have bel' : Below w.heap.size w W := by
    rw [hW]; exact bdrew (((hB2.setCell (by simp) _).setCell (by simp) _).setCell (by simp) _)
  clear hW
  have k0 := b4'.cell
  obtain ⟨k1, k2, _, _⟩ := b5'.two
  exact ⟨.tuple #[.slice none 0 0, .agg #[.int .i64 c, .int .i64 i]], by simp [results, Tryd.results25, go_sem, k0, k1, k2], rfl, bel'⟩

theorem conj_none (u v : Value) (xs ys : List Int) (w : World) (hu : Sl w u xs) (hv : Sl w v ys) (hx : IsPerm xs) (hy : IsPerm ys) (hl : xs.length = ys.length) (h1000 : ys.length ≤ 1000) (h : shape xs ≠ shape ys) :
    Calls Tryd.prog 25 #[u, v] w fun e w' => e = .returned (.tuple #[.slice none 0 0, .agg #[.int .i64 6, .int .i64 0]]) ∧ Below w.heap.size w w' := by
  refine (conj_ok u v xs ys w hu hv hx hy hl h1000).mono ?_
  rintro e w' (⟨r, cz, _, _, _, _, _, hs, _⟩ | ⟨rfl, _, hb⟩)
  · exact absurd hs h
  · exact ⟨rfl, hb⟩
theorem conj_some (u v : Value) (xs ys : List Int) (w : World) (hu : Sl w u xs) (hv : Sl w v ys) (hx : IsPerm xs) (hy : IsPerm ys) (hl : xs.length = ys.length) (h1000 : ys.length ≤ 1000) (h : shape xs = shape ys) :
    Calls Tryd.prog 25 #[u, v] w fun e w' => (∃ a c cz, e = .returned (.tuple #[.slice a xs.length c, .agg #[.int .i64 0, .int .i64 0]]) ∧ Sl w' (.slice a xs.length c) cz ∧ cz.length = xs.length ∧ IsPerm cz ∧ mulL cz ys = mulL xs cz) ∧ Below w.heap.size w w' := by
  refine (conj_ok u v xs ys w hu hv hx hy hl h1000).mono ?_
  rintro e w' (⟨r, cz, rfl, hs, hcl, hp, hm, _, hb⟩ | ⟨_, hn, _⟩)
  · obtain ⟨a, c, rfl⟩ := hs.shp
    rw [hcl] at hs ⊢
    exact ⟨⟨a, c, cz, rfl, hs, hcl, hp, hm⟩, hb⟩
  · exact absurd h hn
theorem ints_false (u v : Value) (xs ys : List Int) (w : World) (hu : Sl w u xs) (hv : Sl w v ys) (h : xs ≠ ys) :
    Calls Tryd.prog 15 #[u, v] w fun e w' => e = .returned (.bool false) ∧ Below w.heap.size w w' := by
  have := ints_any u v xs ys w hu hv
  rw [decide_eq_false h] at this; exact this
theorem nz_inj {l m : List Nat} (h : nz l = nz m) : l = m := by
  have h2 : (nz l).map Int.toNat = (nz m).map Int.toNat := by rw [h]
  have e : ∀ k : List Nat, (nz k).map Int.toNat = k := fun k => by simp [nz, Function.comp_def]
  rwa [e, e] at h2
theorem own_good' (u : Value) (zs : List Int) (w : World) (hu : Sl w u zs) (hb : zs.length * 8 ≤ 140737488355328) :
    Calls Tryd.prog 9 #[u] w fun e w' => (∃ r, e = .returned r ∧ Sl w' r zs) ∧ Below w.heap.size w w' := by
  refine (own_any u zs w hu hb).mono ?_
  rintro e w' ⟨r, rfl, h1, h2⟩
  exact ⟨⟨r, rfl, h1⟩, h2⟩
theorem shapeOf_l' (u : Value) (zs : List Int) (w : World) (hu : Sl w u zs) (hperm : IsPerm zs) (hl : zs.length ≤ 1000) :
    Calls Tryd.prog 18 #[u] w fun e w' => (∃ r, e = .returned r ∧ Sl w' r (nz (shape zs))) ∧ Below w.heap.size w w' := by
  have h0 := hu.psz
  refine (shapeOf_ok u zs w hu hperm hl).mono ?_
  rintro e w' ⟨r, rfl, h1, h2⟩
  exact ⟨⟨r, rfl, pts_sl h1 (by have := h2.size; omega)⟩, h2⟩
theorem then_l (u v : Value) (xs ys : List Int) (w : World) (hu : Sl w u xs) (hv : Sl w v ys) (hx : IsPerm xs) (hl : xs.length = ys.length) (h1000 : xs.length ≤ 1000) :
    Calls Tryd.prog 28 #[u, v] w fun e w' => (∃ r, e = .returned r ∧ Sl w' r (mulL xs ys)) ∧ Below w.heap.size w w' := by
  have h0 := hu.psz
  refine (then_ok u v xs ys w hu hv hx hl h1000).mono ?_
  rintro e w' ⟨r, rfl, h1, h2⟩
  exact ⟨⟨r, rfl, h1.sl (by have := h2.size; omega)⟩, h2⟩

set_option maxRecDepth 100000 in
set_option maxHeartbeats 4000000 in
theorem cauchy_bad (u v : Value) (xs ys : List Int) (w : World) (hu : Sl w u xs) (hv : Sl w v ys) (hs1 : xs.length * 8 ≤ 140737488355328) (hs2 : ys.length * 8 ≤ 140737488355328) (htab : Tab w.heap.size w) (h : (twof xs ys).1 ≠ 0) :
    Calls Tryd.prog 5 #[u, v] w fun e w' => e = .returned (.bool true) ∧ Below w.heap.size w w' := by
  obtain ⟨ua, uc, hue⟩ := hu.shp
  obtain ⟨va, vc, hve⟩ := hv.shp
  subst hue hve
  have HTab := hide (fun (W : World) (h : Below w.heap.size w W) => (htab.below h).mono h.size)
  have hB := Below.refl w.heap.size w
  have hge := hB.size
  have hc := fun (r s : Value) (W : World) (a : Sl W r xs) (b : Sl W s ys) => conj_bad r s xs ys W a b h
  have ht := fun (r s : Value) (W : World) (a : Sl W r xs) (b : Sl W s ys) => twoFault_any r s xs ys W a b
  obtain ⟨c, d, hcd⟩ : ∃ c d, twof xs ys = (c, d) := ⟨_, _, rfl⟩
  rw [hcd] at hc ht h
  have hcb : (c != 0) = true := by simpa using h
  have hce : (c == 0) = false := by simpa using h
  have hcn : ¬ c = 0 := h
  have HC := hide hc
  have HT := hide ht
  clear hc ht hcd h htab
  go_enter Tryd.func5, Tryd.ntmps5
  go_wp2_with fail
  refine (own_good' _ xs _ hu hs1).mono ?_
  rintro x w2 ⟨⟨rx, rfl, hrx⟩, hb2⟩
  replace hu := hu.below hb2
  replace hv := hv.below hb2
  replace hB := bcat hB hb2 hge
  replace hge := hB.size
  obtain ⟨x1, x2, hx9⟩ := hrx.shp
  subst hx9
  go_wp2_with fail
  refine (own_good' _ ys _ hv hs2).mono ?_
  rintro x w4 ⟨⟨ry, rfl, hry⟩, hb4⟩
  replace hu := hu.below hb4
  replace hv := hv.below hb4
  replace hrx := hrx.below hb4
  replace hB := bcat hB hb4 hge
  replace hge := hB.size
  obtain ⟨y1, y2, hy9⟩ := hry.shp
  subst hy9
  go_wp2_with fail
  refine (HC.out _ _ _ hrx hry).mono ?_
  rintro x w6 ⟨rfl, hb6⟩
  replace hu := hu.below hb6
  replace hv := hv.below hb6
  replace hrx := hrx.below hb6
  replace hry := hry.below hb6
  replace hB := bcat hB hb6 hge
  replace hge := hB.size
  have hb7 : Below w6.heap.size w6 (w6.alloc (.cells #[.int .i64 c, .int .i64 d] 26)) := balloc w6 _
  replace hu := hu.below hb7
  replace hv := hv.below hb7
  replace hrx := hrx.below hb7
  replace hry := hry.below hb7
  replace hB := bcat hB hb7 hge
  replace hge := hB.size
  have b1 : Blk (w6.alloc (.cells #[.int .i64 c, .int .i64 d] 26)) w6.heap.size 26 [.int .i64 c, .int .i64 d] := blk0 _ _
  obtain ⟨b18a, b18b, b18c, b18d⟩ := b1.two
  go_wp2_with fail
  clear b18a b18b b18c b18d
  refine (HT.out _ _ _ hu hv).mono ?_
  rintro x w9 ⟨rfl, hb9⟩
  replace hu := hu.below hb9
  replace hv := hv.below hb9
  replace hrx := hrx.below hb9
  replace hry := hry.below hb9
  replace b1 : Blk (w9) w6.heap.size 26 [.int .i64 c, .int .i64 d] := Blk.of_eq b1 (hb9.block _ b1.lt)
  replace hB := bcat hB hb9 hge
  replace hge := hB.size
  have hb10 : Below w9.heap.size w9 (w9.alloc (.cells #[.int .i64 c, .int .i64 d] 26)) := balloc w9 _
  replace hu := hu.below hb10
  replace hv := hv.below hb10
  replace hrx := hrx.below hb10
  replace hry := hry.below hb10
  replace b1 : Blk (w9.alloc (.cells #[.int .i64 c, .int .i64 d] 26)) w6.heap.size 26 [.int .i64 c, .int .i64 d] := Blk.of_eq b1 (hb10.block _ b1.lt)
  replace hB := bcat hB hb10 hge
  replace hge := hB.size
  have b2 : Blk (w9.alloc (.cells #[.int .i64 c, .int .i64 d] 26)) w9.heap.size 26 [.int .i64 c, .int .i64 d] := blk0 _ _
  obtain ⟨b111a, b111b, b111c, b111d⟩ := b1.two
  obtain ⟨b211a, b211b, b211c, b211d⟩ := b2.two
  go_wp2_with fail
  clear b111a b111b b111c b111d b211a b211b b211c b211d
  refine (begun_any _ (HTab.out _ hB)).mono ?_
  rintro x w12 ⟨rfl, hb12⟩
  replace hu := hu.below hb12
  replace hv := hv.below hb12
  replace hrx := hrx.below hb12
  replace hry := hry.below hb12
  replace b1 : Blk (w12) w6.heap.size 26 [.int .i64 c, .int .i64 d] := Blk.of_eq b1 (hb12.block _ b1.lt)
  replace b2 : Blk (w12) w9.heap.size 26 [.int .i64 c, .int .i64 d] := Blk.of_eq b2 (hb12.block _ b2.lt)
  replace hB := bcat hB hb12 hge
  replace hge := hB.size
  obtain ⟨b113a, b113b, b113c, b113d⟩ := b1.two
  obtain ⟨b213a, b213b, b213c, b213d⟩ := b2.two
  go_wp2
  clear b113a b113b b113c b113d b213a b213b b213c b213d
  go_ret
  exact ⟨rfl, hB⟩

set_option maxRecDepth 100000 in
set_option maxHeartbeats 4000000 in
theorem cauchy_none (u v : Value) (xs ys : List Int) (w : World) (hu : Sl w u xs) (hv : Sl w v ys) (hs1 : xs.length * 8 ≤ 140737488355328) (hs2 : ys.length * 8 ≤ 140737488355328) (htab : Tab w.heap.size w) (h : (twof xs ys).1 = 0) (hsh : shape xs ≠ shape ys) :
    Calls Tryd.prog 5 #[u, v] w fun e w' => e = .returned (.bool true) ∧ Below w.heap.size w w' := by
  obtain ⟨ua, uc, hue⟩ := hu.shp
  obtain ⟨va, vc, hve⟩ := hv.shp
  subst hue hve
  have HTab := hide (fun (W : World) (h : Below w.heap.size w W) => (htab.below h).mono h.size)
  have hB := Below.refl w.heap.size w
  have hge := hB.size
  obtain ⟨px, py, hl, l1000⟩ := twof_zero h
  have htw := twof_ok px py hl l1000
  have ht := fun (r s : Value) (W : World) (a : Sl W r xs) (b : Sl W s ys) => twoFault_any r s xs ys W a b
  rw [htw] at ht
  have HT := hide ht
  have HX := hide px
  have HY := hide py
  have HL := hide hl
  have H1001 : Hid (ys.length ≤ 1000) := hide (by omega)
  have HSH := hide hsh
  clear ht htw px py hl l1000 hsh h htab
  go_enter Tryd.func5, Tryd.ntmps5
  go_wp2_with fail
  refine (own_good' _ xs _ hu hs1).mono ?_
  rintro x w2 ⟨⟨rx, rfl, hrx⟩, hb2⟩
  replace hu := hu.below hb2
  replace hv := hv.below hb2
  replace hB := bcat hB hb2 hge
  replace hge := hB.size
  obtain ⟨x1, x2, hx9⟩ := hrx.shp
  subst hx9
  go_wp2_with fail
  refine (own_good' _ ys _ hv hs2).mono ?_
  rintro x w4 ⟨⟨ry, rfl, hry⟩, hb4⟩
  replace hu := hu.below hb4
  replace hv := hv.below hb4
  replace hrx := hrx.below hb4
  replace hB := bcat hB hb4 hge
  replace hge := hB.size
  obtain ⟨y1, y2, hy9⟩ := hry.shp
  subst hy9
  go_wp2_with fail
  refine (conj_none _ _ xs ys _ hrx hry HX.out HY.out HL.out H1001.out HSH.out).mono ?_
  rintro x w6 ⟨rfl, hb6⟩
  replace hu := hu.below hb6
  replace hv := hv.below hb6
  replace hrx := hrx.below hb6
  replace hry := hry.below hb6
  replace hB := bcat hB hb6 hge
  replace hge := hB.size
  have hb7 : Below w6.heap.size w6 (w6.alloc (.cells #[.int .i64 6, .int .i64 0] 26)) := balloc w6 _
  replace hu := hu.below hb7
  replace hv := hv.below hb7
  replace hrx := hrx.below hb7
  replace hry := hry.below hb7
  replace hB := bcat hB hb7 hge
  replace hge := hB.size
  have b1 : Blk (w6.alloc (.cells #[.int .i64 6, .int .i64 0] 26)) w6.heap.size 26 [.int .i64 6, .int .i64 0] := blk0 _ _
  obtain ⟨b18a, b18b, b18c, b18d⟩ := b1.two
  go_wp2_with fail
  clear b18a b18b b18c b18d
  refine (HT.out _ _ _ hu hv).mono ?_
  rintro x w9 ⟨rfl, hb9⟩
  replace hu := hu.below hb9
  replace hv := hv.below hb9
  replace hrx := hrx.below hb9
  replace hry := hry.below hb9
  replace b1 : Blk (w9) w6.heap.size 26 [.int .i64 6, .int .i64 0] := Blk.of_eq b1 (hb9.block _ b1.lt)
  replace hB := bcat hB hb9 hge
  replace hge := hB.size
  have hne : w6.heap.size < w9.heap.size := b1.lt
  have hwn : w.heap.size ≤ w9.heap.size := hge
  have hb10 : Below w9.heap.size w9 (w9.alloc (.cells #[.int .i64 0, .int .i64 0] 26)) := balloc w9 _
  replace hu := hu.below hb10
  replace hv := hv.below hb10
  replace hrx := hrx.below hb10
  replace hry := hry.below hb10
  replace b1 : Blk (w9.alloc (.cells #[.int .i64 0, .int .i64 0] 26)) w6.heap.size 26 [.int .i64 6, .int .i64 0] := Blk.of_eq b1 (hb10.block _ b1.lt)
  replace hB := bcat hB hb10 hge
  replace hge := hB.size
  have b2 : Two (w9.alloc (.cells #[.int .i64 0, .int .i64 0] 26)) w9.heap.size := Two.new w9
  obtain ⟨b111a, b111b, b111c, b111d⟩ := b1.two
  obtain ⟨_, b211a, b211b, b211c, b211d, b211e, b211f⟩ := id b2
  go_wp2_with fail
  clear b111a b111b b111c b111d b211a b211b b211c b211d b211e b211f
  refine (shapeOf_l' _ xs _ hu HX.out (by have := H1001.out; have := HL.out; omega)).mono ?_
  rintro x w12 ⟨⟨sp, rfl, hsp⟩, hb12⟩
  replace hu := hu.below hb12
  replace hv := hv.below hb12
  replace hrx := hrx.below hb12
  replace hry := hry.below hb12
  replace b1 : Blk (w12) w6.heap.size 26 [.int .i64 6, .int .i64 0] := Blk.of_eq b1 (hb12.block _ b1.lt)
  replace b2 := Two.below b2 hb12
  replace hB := bcat hB hb12 hge
  replace hge := hB.size
  obtain ⟨p1, p2, hp9⟩ := hsp.shp
  subst hp9
  obtain ⟨b113a, b113b, b113c, b113d⟩ := b1.two
  obtain ⟨_, b213a, b213b, b213c, b213d, b213e, b213f⟩ := id b2
  go_wp2_with fail
  clear b113a b113b b113c b113d b213a b213b b213c b213d b213e b213f
  refine (shapeOf_l' _ ys _ hv HY.out H1001.out).mono ?_
  rintro x w14 ⟨⟨sq, rfl, hsq⟩, hb14⟩
  replace hu := hu.below hb14
  replace hv := hv.below hb14
  replace hrx := hrx.below hb14
  replace hry := hry.below hb14
  replace hsp := hsp.below hb14
  replace b1 : Blk (w14) w6.heap.size 26 [.int .i64 6, .int .i64 0] := Blk.of_eq b1 (hb14.block _ b1.lt)
  replace b2 := Two.below b2 hb14
  replace hB := bcat hB hb14 hge
  replace hge := hB.size
  obtain ⟨q1, q2, hq9⟩ := hsq.shp
  subst hq9
  obtain ⟨b115a, b115b, b115c, b115d⟩ := b1.two
  obtain ⟨_, b215a, b215b, b215c, b215d, b215e, b215f⟩ := id b2
  go_wp2_with fail
  clear b115a b115b b115c b115d b215a b215b b215c b215d b215e b215f
  refine (ints_false _ _ _ _ _ hsp hsq (fun e => HSH.out (nz_inj e))).mono ?_
  rintro x w16 ⟨rfl, hb16⟩
  replace hu := hu.below hb16
  replace hv := hv.below hb16
  replace hrx := hrx.below hb16
  replace hry := hry.below hb16
  replace hsp := hsp.below hb16
  replace hsq := hsq.below hb16
  replace b1 : Blk (w16) w6.heap.size 26 [.int .i64 6, .int .i64 0] := Blk.of_eq b1 (hb16.block _ b1.lt)
  replace b2 := Two.below b2 hb16
  replace hB := bcat hB hb16 hge
  replace hge := hB.size
  obtain ⟨b117a, b117b, b117c, b117d⟩ := b1.two
  obtain ⟨_, b217a, b217b, b217c, b217d, b217e, b217f⟩ := id b2
  go_wp2_with fail
  clear b117a b117b b117c b117d b217a b217b b217c b217d b217e b217f
  refine (f_any 6 0 _).mono ?_
  rintro x w18 ⟨rfl, hb18⟩
  replace hu := hu.below hb18
  replace hv := hv.below hb18
  replace hrx := hrx.below hb18
  replace hry := hry.below hb18
  replace hsp := hsp.below hb18
  replace hsq := hsq.below hb18
  replace b1 : Blk (w18) w6.heap.size 26 [.int .i64 6, .int .i64 0] := Blk.of_eq b1 (hb18.block _ b1.lt)
  replace b2 := Two.below b2 hb18
  replace hB := bcat hB hb18 hge
  replace hge := hB.size
  have hB9 : Below w.heap.size w ((w18.setCell ⟨w9.heap.size, 0, none⟩ (.int .i64 6)).setCell ⟨w9.heap.size, 1, none⟩ (.int .i64 0)) := (hB.setCell (by simp; omega) _).setCell (by simp; omega) _
  have b19 : Blk ((w18.setCell ⟨w9.heap.size, 0, none⟩ (.int .i64 6)).setCell ⟨w9.heap.size, 1, none⟩ (.int .i64 0)) (w6.heap.size) 26 [.int .i64 6, .int .i64 0] := (b1.other (by simp; omega) _).other (by simp; omega) _
  have b29 : Blk ((w18.setCell ⟨w9.heap.size, 0, none⟩ (.int .i64 6)).setCell ⟨w9.heap.size, 1, none⟩ (.int .i64 0)) (w9.heap.size) 26 [.int .i64 6, .int .i64 0] := (b2.blk.set 0 _).set 1 _
  have HB9 := hide hB9
  have HB1 := hide b19
  have HB2 := hide b29
  clear hB9 b19 b29
  obtain ⟨b119a, b119b, b119c, b119d⟩ := b1.two
  obtain ⟨_, b219a, b219b, b219c, b219d, b219e, b219f⟩ := id b2
  go_wp2_with fail
  clear b119a b119b b119c b119d b219a b219b b219c b219d b219e b219f
  have hB9 := HB9.out
  have b19 := HB1.out
  have b29 := HB2.out
  clear HB9 HB1 HB2 b1 b2 hB
  generalize ((w18.setCell ⟨w9.heap.size, 0, none⟩ (.int .i64 6)).setCell ⟨w9.heap.size, 1, none⟩ (.int .i64 0)) = wz at *
  have hge9 := hB9.size
  refine (begun_any _ (HTab.out _ hB9)).mono ?_
  rintro x wy ⟨rfl, hby⟩
  replace b19 : Blk wy (w6.heap.size) 26 [.int .i64 6, .int .i64 0] := b19.of_eq (hby.block _ b19.lt)
  replace b29 : Blk wy (w9.heap.size) 26 [.int .i64 6, .int .i64 0] := b29.of_eq (hby.block _ b29.lt)
  replace hB9 := bcat hB9 hby hge9
  obtain ⟨z1, z2, z3, z4⟩ := b19.two
  obtain ⟨y1, y2, y3, y4⟩ := b29.two
  go_wp2
  go_ret
  exact ⟨rfl, hB9⟩

set_option maxRecDepth 100000 in
set_option maxHeartbeats 4000000 in
theorem cauchy_some (u v : Value) (xs ys : List Int) (w : World) (hu : Sl w u xs) (hv : Sl w v ys) (hs1 : xs.length * 8 ≤ 140737488355328) (hs2 : ys.length * 8 ≤ 140737488355328) (htab : Tab w.heap.size w) (h : (twof xs ys).1 = 0) (hsh : shape xs = shape ys) :
    Calls Tryd.prog 5 #[u, v] w fun e w' => e = .returned (.bool true) ∧ Below w.heap.size w w' := by
  obtain ⟨ua, uc, hue⟩ := hu.shp
  obtain ⟨va, vc, hve⟩ := hv.shp
  subst hue hve
  have HTab := hide (fun (W : World) (h : Below w.heap.size w W) => (htab.below h).mono h.size)
  have hB := Below.refl w.heap.size w
  have hge := hB.size
  obtain ⟨px, py, hl, l1000⟩ := twof_zero h
  have htw := twof_ok px py hl l1000
  have ht := fun (r s : Value) (W : World) (a : Sl W r xs) (b : Sl W s ys) => twoFault_any r s xs ys W a b
  rw [htw] at ht
  have HT := hide ht
  have HX := hide px
  have HY := hide py
  have HL := hide hl
  have H1001 : Hid (ys.length ≤ 1000) := hide (by omega)
  have HSH := hide hsh
  have hpf : ∀ (r : Value) (W : World) (cz : List Int), Sl W r cz → IsPerm cz → cz.length = xs.length → Calls Tryd.prog 13 #[r] W fun e w' => e = .returned (.agg #[.int .i64 0, .int .i64 0]) ∧ Below W.heap.size W w' := fun r W cz a p l => by
    have := permFault_any r cz W a
    rw [fault_of_perm p (by omega)] at this
    exact this
  have HPF := hide hpf
  have hfd := field25 0 0
  clear hpf
  clear ht htw px py hl l1000 hsh h htab
  go_enter Tryd.func5, Tryd.ntmps5
  go_wp2_with fail
  refine (own_good' _ xs _ hu hs1).mono ?_
  rintro x w2 ⟨⟨rx, rfl, hrx⟩, hb2⟩
  replace hu := hu.below hb2
  replace hv := hv.below hb2
  replace hB := bcat hB hb2 hge
  replace hge := hB.size
  obtain ⟨x1, x2, hx9⟩ := hrx.shp
  subst hx9
  go_wp2_with fail
  refine (own_good' _ ys _ hv hs2).mono ?_
  rintro x w4 ⟨⟨ry, rfl, hry⟩, hb4⟩
  replace hu := hu.below hb4
  replace hv := hv.below hb4
  replace hrx := hrx.below hb4
  replace hB := bcat hB hb4 hge
  replace hge := hB.size
  obtain ⟨y1, y2, hy9⟩ := hry.shp
  subst hy9
  go_wp2_with fail
  refine (conj_some _ _ xs ys _ hrx hry HX.out HY.out HL.out H1001.out HSH.out).mono ?_
  rintro x w6 ⟨⟨ca, cc, cz, rfl, hcz, hcl, hcp, hcm⟩, hb6⟩
  replace hu := hu.below hb6
  replace hv := hv.below hb6
  replace hrx := hrx.below hb6
  replace hry := hry.below hb6
  replace hB := bcat hB hb6 hge
  replace hge := hB.size
  have HCL := hide hcl
  have HCP := hide hcp
  have HCM := hide hcm
  clear hcl hcp hcm
  have hb7 : Below w6.heap.size w6 (w6.alloc (.cells #[.int .i64 0, .int .i64 0] 26)) := balloc w6 _
  replace hu := hu.below hb7
  replace hv := hv.below hb7
  replace hrx := hrx.below hb7
  replace hry := hry.below hb7
  replace hcz := hcz.below hb7
  replace hB := bcat hB hb7 hge
  replace hge := hB.size
  have b1 : Two (w6.alloc (.cells #[.int .i64 0, .int .i64 0] 26)) w6.heap.size := Two.new w6
  obtain ⟨_, b18a, b18b, b18c, b18d, b18e, b18f⟩ := id b1
  go_wp2_with fail
  clear b18a b18b b18c b18d b18e b18f
  refine (HT.out _ _ _ hu hv).mono ?_
  rintro x w9 ⟨rfl, hb9⟩
  replace hu := hu.below hb9
  replace hv := hv.below hb9
  replace hrx := hrx.below hb9
  replace hry := hry.below hb9
  replace hcz := hcz.below hb9
  replace b1 := Two.below b1 hb9
  replace hB := bcat hB hb9 hge
  replace hge := hB.size
  have hb10 : Below w9.heap.size w9 (w9.alloc (.cells #[.int .i64 0, .int .i64 0] 26)) := balloc w9 _
  replace hu := hu.below hb10
  replace hv := hv.below hb10
  replace hrx := hrx.below hb10
  replace hry := hry.below hb10
  replace hcz := hcz.below hb10
  replace b1 := Two.below b1 hb10
  replace hB := bcat hB hb10 hge
  replace hge := hB.size
  have b2 : Two (w9.alloc (.cells #[.int .i64 0, .int .i64 0] 26)) w9.heap.size := Two.new w9
  obtain ⟨_, b111a, b111b, b111c, b111d, b111e, b111f⟩ := id b1
  obtain ⟨_, b211a, b211b, b211c, b211d, b211e, b211f⟩ := id b2
  go_wp2_with fail
  clear b111a b111b b111c b111d b111e b111f b211a b211b b211c b211d b211e b211f
  refine (shapeOf_l' _ xs _ hu HX.out (by have := H1001.out; have := HL.out; omega)).mono ?_
  rintro x w12 ⟨⟨sp, rfl, hsp⟩, hb12⟩
  replace hu := hu.below hb12
  replace hv := hv.below hb12
  replace hrx := hrx.below hb12
  replace hry := hry.below hb12
  replace hcz := hcz.below hb12
  replace b1 := Two.below b1 hb12
  replace b2 := Two.below b2 hb12
  replace hB := bcat hB hb12 hge
  replace hge := hB.size
  obtain ⟨p1, p2, hp9⟩ := hsp.shp
  subst hp9
  obtain ⟨_, b113a, b113b, b113c, b113d, b113e, b113f⟩ := id b1
  obtain ⟨_, b213a, b213b, b213c, b213d, b213e, b213f⟩ := id b2
  go_wp2_with fail
  clear b113a b113b b113c b113d b113e b113f b213a b213b b213c b213d b213e b213f
  refine (shapeOf_l' _ ys _ hv HY.out H1001.out).mono ?_
  rintro x w14 ⟨⟨sq, rfl, hsq⟩, hb14⟩
  replace hu := hu.below hb14
  replace hv := hv.below hb14
  replace hrx := hrx.below hb14
  replace hry := hry.below hb14
  replace hcz := hcz.below hb14
  replace hsp := hsp.below hb14
  replace b1 := Two.below b1 hb14
  replace b2 := Two.below b2 hb14
  replace hB := bcat hB hb14 hge
  replace hge := hB.size
  obtain ⟨q1, q2, hq9⟩ := hsq.shp
  subst hq9
  obtain ⟨_, b115a, b115b, b115c, b115d, b115e, b115f⟩ := id b1
  obtain ⟨_, b215a, b215b, b215c, b215d, b215e, b215f⟩ := id b2
  go_wp2_with fail
  clear b115a b115b b115c b115d b115e b115f b215a b215b b215c b215d b215e b215f
  refine (ints_true _ _ _ _ _ hsp hsq (by rw [HSH.out])).mono ?_
  rintro x w16 ⟨rfl, hb16⟩
  replace hu := hu.below hb16
  replace hv := hv.below hb16
  replace hrx := hrx.below hb16
  replace hry := hry.below hb16
  replace hcz := hcz.below hb16
  replace hsp := hsp.below hb16
  replace hsq := hsq.below hb16
  replace b1 := Two.below b1 hb16
  replace b2 := Two.below b2 hb16
  replace hB := bcat hB hb16 hge
  replace hge := hB.size
  obtain ⟨_, b117a, b117b, b117c, b117d, b117e, b117f⟩ := id b1
  obtain ⟨_, b217a, b217b, b217c, b217d, b217e, b217f⟩ := id b2
  go_wp2_with fail
  clear b117a b117b b117c b117d b117e b117f b217a b217b b217c b217d b217e b217f
  refine (begun_any _ (HTab.out _ hB)).mono ?_
  rintro x w18 ⟨rfl, hb18⟩
  replace hu := hu.below hb18
  replace hv := hv.below hb18
  replace hrx := hrx.below hb18
  replace hry := hry.below hb18
  replace hcz := hcz.below hb18
  replace hsp := hsp.below hb18
  replace hsq := hsq.below hb18
  replace b1 := Two.below b1 hb18
  replace b2 := Two.below b2 hb18
  replace hB := bcat hB hb18 hge
  replace hge := hB.size
  obtain ⟨_, b119a, b119b, b119c, b119d, b119e, b119f⟩ := id b1
  obtain ⟨_, b219a, b219b, b219c, b219d, b219e, b219f⟩ := id b2
  go_wp2_with fail
  clear b119a b119b b119c b119d b119e b119f b219a b219b b219c b219d b219e b219f
  refine (HPF.out _ _ _ hcz HCP.out HCL.out).mono ?_
  rintro x w20 ⟨rfl, hb20⟩
  replace hu := hu.below hb20
  replace hv := hv.below hb20
  replace hrx := hrx.below hb20
  replace hry := hry.below hb20
  replace hcz := hcz.below hb20
  replace hsp := hsp.below hb20
  replace hsq := hsq.below hb20
  replace b1 := Two.below b1 hb20
  replace b2 := Two.below b2 hb20
  replace hB := bcat hB hb20 hge
  replace hge := hB.size
  obtain ⟨_, b121a, b121b, b121c, b121d, b121e, b121f⟩ := id b1
  obtain ⟨_, b221a, b221b, b221c, b221d, b221e, b221f⟩ := id b2
  go_wp2_with fail
  clear b121a b121b b121c b121d b121e b121f b221a b221b b221c b221d b221e b221f
  refine (then_l _ _ cz ys _ hcz hv HCP.out (by rw [HCL.out, HL.out]) (by have := HCL.out; have := H1001.out; have := HL.out; omega)).mono ?_
  rintro x w22 ⟨⟨r1, rfl, hr1⟩, hb22⟩
  replace hu := hu.below hb22
  replace hv := hv.below hb22
  replace hrx := hrx.below hb22
  replace hry := hry.below hb22
  replace hcz := hcz.below hb22
  replace hsp := hsp.below hb22
  replace hsq := hsq.below hb22
  replace b1 := Two.below b1 hb22
  replace b2 := Two.below b2 hb22
  replace hB := bcat hB hb22 hge
  replace hge := hB.size
  obtain ⟨m1, m2, hm9⟩ := hr1.shp
  subst hm9
  obtain ⟨_, b123a, b123b, b123c, b123d, b123e, b123f⟩ := id b1
  obtain ⟨_, b223a, b223b, b223c, b223d, b223e, b223f⟩ := id b2
  go_wp2_with fail
  clear b123a b123b b123c b123d b123e b123f b223a b223b b223c b223d b223e b223f
  refine (then_l _ _ xs cz _ hu hcz HX.out HCL.out.symm (by have := H1001.out; have := HL.out; omega)).mono ?_
  rintro x w24 ⟨⟨r2, rfl, hr2⟩, hb24⟩
  replace hu := hu.below hb24
  replace hv := hv.below hb24
  replace hrx := hrx.below hb24
  replace hry := hry.below hb24
  replace hcz := hcz.below hb24
  replace hsp := hsp.below hb24
  replace hsq := hsq.below hb24
  replace hr1 := hr1.below hb24
  replace b1 := Two.below b1 hb24
  replace b2 := Two.below b2 hb24
  replace hB := bcat hB hb24 hge
  replace hge := hB.size
  obtain ⟨n1, n2, hn9⟩ := hr2.shp
  subst hn9
  obtain ⟨_, b125a, b125b, b125c, b125d, b125e, b125f⟩ := id b1
  obtain ⟨_, b225a, b225b, b225c, b225d, b225e, b225f⟩ := id b2
  go_wp2_with fail
  clear b125a b125b b125c b125d b125e b125f b225a b225b b225c b225d b225e b225f
  refine (ints_true _ _ _ _ _ hr1 hr2 HCM.out).mono ?_
  rintro x w26 ⟨rfl, hb26⟩
  replace hu := hu.below hb26
  replace hv := hv.below hb26
  replace hrx := hrx.below hb26
  replace hry := hry.below hb26
  replace hcz := hcz.below hb26
  replace hsp := hsp.below hb26
  replace hsq := hsq.below hb26
  replace hr1 := hr1.below hb26
  replace hr2 := hr2.below hb26
  replace b1 := Two.below b1 hb26
  replace b2 := Two.below b2 hb26
  replace hB := bcat hB hb26 hge
  replace hge := hB.size
  obtain ⟨_, b127a, b127b, b127c, b127d, b127e, b127f⟩ := id b1
  obtain ⟨_, b227a, b227b, b227c, b227d, b227e, b227f⟩ := id b2
  go_wp2
  clear b127a b127b b127c b127d b127e b127f b227a b227b b227c b227d b227e b227f
  go_ret
  exact ⟨rfl, hB⟩
theorem cauchy_law (u v : Value) (xs ys : List Int) (w : World) (hu : Sl w u xs) (hv : Sl w v ys) (hs1 : xs.length * 8 ≤ 140737488355328) (hs2 : ys.length * 8 ≤ 140737488355328) (htab : Tab w.heap.size w) :
    Calls Tryd.prog 5 #[u, v] w fun e w' => e = .returned (.bool true) ∧ Below w.heap.size w w' := by
  by_cases h : (twof xs ys).1 = 0
  · by_cases hsh : shape xs = shape ys
    · exact cauchy_some u v xs ys w hu hv hs1 hs2 htab h hsh
    · exact cauchy_none u v xs ys w hu hv hs1 hs2 htab h hsh
  · exact cauchy_bad u v xs ys w hu hv hs1 hs2 htab h
end Go.Proofs.YtjchmhngfnlbhaaDoor
