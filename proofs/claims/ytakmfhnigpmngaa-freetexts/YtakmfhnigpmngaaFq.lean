/- What came in as a list, and the law FreeGroup. -/
import Derived.Test.YtakmfhnigpmngaaFp
namespace Go.Proofs.Ytakmfhnigpmngaa
open Go Go.RowKit

/-- A slice of ints that reads as zs; where nothing is in it, nothing is told of the memory. -/
def SlA (w : World) (v : Value) (zs : List Int) : Prop := ∃ a cap pb po, v = .slice a zs.length cap ∧ Reads w a pb po zs ∧ (0 < zs.length → pb < w.heap.size) ∧ zs.length ≤ cap ∧ cap ≤ maxLen
theorem SlA.up {w w' : World} {v : Value} {zs : List Int} (h : SlA w v zs) (hb : Below w.heap.size w w') (h0 : 0 < w'.heap.size) : Sl w' v zs := by
  obtain ⟨a, cap, pb, po, hv, hr, hp, h1, h2⟩ := h
  rcases Nat.eq_zero_or_pos zs.length with hz | hz
  · exact ⟨a, cap, 0, 0, hv, ⟨fun h => by omega, fun j hj => by omega⟩, h0, h1, h2⟩
  · exact ⟨a, cap, pb, po, hv, hr.below hb (hp hz), Nat.lt_of_lt_of_le (hp hz) hb.size, h1, h2⟩
theorem SlA.shape {w : World} {v : Value} {zs : List Int} (h : SlA w v zs) : ∃ a c, v = .slice a zs.length c := by
  obtain ⟨a, cap, pb, po, hv, _⟩ := h
  exact ⟨a, cap, hv⟩

theorem mul_any (v u : Value) (zs ys : List Int) (w : World) (hv : Sl w v zs) (hu : Sl w u ys) :
    Calls Try.prog 15 #[v, u] w fun e w' => ∃ r c d, e = .returned (.tuple #[r, .agg #[.int .i64 c, .int .i64 d]]) ∧ Below w.heap.size w w' := by
  by_cases h : wsc [zs, ys] = 0
  · refine (mul_good v u zs ys w hv hu (wsc_all h _ (by simp)) (wsc_all h _ (by simp))).mono ?_
    rintro e w' ⟨⟨r, rfl, _⟩, hb⟩
    exact ⟨_, _, _, rfl, hb⟩
  · refine (mul_bad v u zs ys w hv hu h).mono ?_
    rintro e w' ⟨rfl, hb⟩
    exact ⟨_, _, _, rfl, hb⟩
theorem Row.sl2 {W : World} {B : Nat} {v : Value} {zs : List Int} (h : Row W B v zs) (hs : 0 < W.heap.size) : Sl W v zs ∧ ∃ a c, v = .slice a zs.length c := ⟨h.sl hs, h.slice⟩
theorem ints_true (u v : Value) (xs ys : List Int) (w : World) (hu : Sl w u xs) (hv : Sl w v ys) (h : xs = ys) :
    Calls Try.prog 20 #[u, v] w fun e w' => e = .returned (.bool true) ∧ Below w.heap.size w w' := by
  have := ints_any u v xs ys w hu hv
  rw [decide_eq_true h] at this; exact this
theorem Wd.of {w : List Int} (h : Lt w) (h2 : w.length ≤ 2000) : Wd w := ⟨h2, h⟩

set_option maxRecDepth 100000 in
set_option maxHeartbeats 4000000 in
theorem group_long (u v x : Value) (us vs xs : List Int) (w : World) (hu : SlA w u us) (hv : SlA w v vs) (hw : SlA w x xs) (hl : 1900 < us.length + vs.length + xs.length) (hb1 : us.length ≤ 17592186044416) (hb2 : vs.length ≤ 17592186044416) (hb3 : xs.length ≤ 17592186044416) :
    Calls Try.prog 8 #[u, v, x] w fun e w' => e = .returned (.bool true) ∧ Below w.heap.size w w' := by
  obtain ⟨ua, uc, hue⟩ := hu.shape
  obtain ⟨va, vc, hve⟩ := hv.shape
  obtain ⟨wa, wc, hwe⟩ := hw.shape
  subst hue hve hwe
  have HU := hide hu
  have HV := hide hv
  have HW := hide hw
  clear hu hv hw
  have hl1 : (1900 : Int) < (us.length : Int) + (vs.length : Int) + (xs.length : Int) := by omega
  go_enter Try.func8, Try.ntmps8
  go_wp2_with fail
  refine (freeBegun_any w).mono ?_
  rintro x w1 ⟨rfl, hB, h01⟩
  have hge := hB.size
  have hsu := HU.out.up hB h01
  have hsv := HV.out.up hB h01
  have hsx := HW.out.up hB h01
  clear HU HV HW
  go_wp2
  go_ret
  exact ⟨rfl, hB⟩

set_option maxRecDepth 100000 in
set_option maxHeartbeats 4000000 in
theorem group_bad1 (u v x : Value) (us vs xs : List Int) (w : World) (hu : SlA w u us) (hv : SlA w v vs) (hw : SlA w x xs) (hl : us.length + vs.length + xs.length ≤ 1900) (h : wsc [us, vs] ≠ 0) :
    Calls Try.prog 8 #[u, v, x] w fun e w' => e = .returned (.bool true) ∧ Below w.heap.size w w' := by
  obtain ⟨ua, uc, hue⟩ := hu.shape
  obtain ⟨va, vc, hve⟩ := hv.shape
  obtain ⟨wa, wc, hwe⟩ := hw.shape
  subst hue hve hwe
  have HU := hide hu
  have HV := hide hv
  have HW := hide hw
  clear hu hv hw
  have hl1 : (us.length : Int) + (vs.length : Int) + (xs.length : Int) ≤ 1900 := by omega
  have hl2 : ¬ ((1900 : Int) < (us.length : Int) + (vs.length : Int) + (xs.length : Int)) := by omega
  go_enter Try.func8, Try.ntmps8
  go_wp2_with fail
  refine (freeBegun_any w).mono ?_
  rintro x w1 ⟨rfl, hB, h01⟩
  have hge := hB.size
  have hsu := HU.out.up hB h01
  have hsv := HV.out.up hB h01
  have hsx := HW.out.up hB h01
  clear HU HV HW
  go_wp2_with fail
  refine (mul_bad _ _ us vs w1 hsu hsv h).mono ?_
  rintro x w2 ⟨rfl, hb2⟩
  replace hsu := hsu.below hb2
  replace hsv := hsv.below hb2
  replace hsx := hsx.below hb2
  replace hB := bcat hB hb2 hge
  replace hge := hB.size
  have hcb : (wsc [us, vs] != 0) = true := by simpa using h
  have hcb2 : (wsc [us, vs] == 0) = false := by simpa using h
  generalize wsc [us, vs] = c at *
  generalize wsa [us, vs] = d at *
  have hb3 : Below w2.heap.size w2 (w2.alloc (.cells #[.int .i64 c, .int .i64 d] 26)) := balloc w2 _
  replace hsu := hsu.below hb3
  replace hsv := hsv.below hb3
  replace hsx := hsx.below hb3
  replace hB := bcat hB hb3 hge
  replace hge := hB.size
  have bx : Blk (w2.alloc (.cells #[.int .i64 c, .int .i64 d] 26)) w2.heap.size 26 [.int .i64 c, .int .i64 d] := blk0 _ _
  obtain ⟨bx4a, bx4b, bx4c, bx4d⟩ := bx.two
  go_wp2_with fail
  clear bx4a bx4b bx4c bx4d
  refine (mul_any _ _ vs xs _ hsv hsx).mono ?_
  rintro x w5 ⟨rb, c2, d2, rfl, hb5⟩
  replace hsu := hsu.below hb5
  replace hsv := hsv.below hb5
  replace hsx := hsx.below hb5
  replace bx : Blk (w5) w2.heap.size 26 [.int .i64 c, .int .i64 d] := Blk.of_eq bx (hb5.block _ bx.lt)
  replace hB := bcat hB hb5 hge
  replace hge := hB.size
  have hb6 : Below w5.heap.size w5 (w5.alloc (.cells #[.int .i64 c2, .int .i64 d2] 26)) := balloc w5 _
  replace hsu := hsu.below hb6
  replace hsv := hsv.below hb6
  replace hsx := hsx.below hb6
  replace bx : Blk (w5.alloc (.cells #[.int .i64 c2, .int .i64 d2] 26)) w2.heap.size 26 [.int .i64 c, .int .i64 d] := Blk.of_eq bx (hb6.block _ bx.lt)
  replace hB := bcat hB hb6 hge
  replace hge := hB.size
  have bq : Blk (w5.alloc (.cells #[.int .i64 c2, .int .i64 d2] 26)) w5.heap.size 26 [.int .i64 c2, .int .i64 d2] := blk0 _ _
  obtain ⟨bx7a, bx7b, bx7c, bx7d⟩ := bx.two
  obtain ⟨bq7a, bq7b, bq7c, bq7d⟩ := bq.two
  go_wp2
  clear bx7a bx7b bx7c bx7d bq7a bq7b bq7c bq7d
  go_ret
  exact ⟨rfl, hB⟩

set_option maxRecDepth 100000 in
set_option maxHeartbeats 4000000 in
theorem group_bad2 (u v x : Value) (us vs xs : List Int) (w : World) (hu : SlA w u us) (hv : SlA w v vs) (hw : SlA w x xs) (hl : us.length + vs.length + xs.length ≤ 1900) (h1 : wsc [us, vs] = 0) (h : wsc [vs, xs] ≠ 0) :
    Calls Try.prog 8 #[u, v, x] w fun e w' => e = .returned (.bool true) ∧ Below w.heap.size w w' := by
  obtain ⟨ua, uc, hue⟩ := hu.shape
  obtain ⟨va, vc, hve⟩ := hv.shape
  obtain ⟨wa, wc, hwe⟩ := hw.shape
  subst hue hve hwe
  have HU := hide hu
  have HV := hide hv
  have HW := hide hw
  clear hu hv hw
  have hl1 : (us.length : Int) + (vs.length : Int) + (xs.length : Int) ≤ 1900 := by omega
  have hl2 : ¬ ((1900 : Int) < (us.length : Int) + (vs.length : Int) + (xs.length : Int)) := by omega
  have HH1 := hide h1
  clear h1
  go_enter Try.func8, Try.ntmps8
  go_wp2_with fail
  refine (freeBegun_any w).mono ?_
  rintro x w1 ⟨rfl, hB, h01⟩
  have hge := hB.size
  have hsu := HU.out.up hB h01
  have hsv := HV.out.up hB h01
  have hsx := HW.out.up hB h01
  clear HU HV HW
  go_wp2_with fail
  refine (mul_good _ _ us vs w1 hsu hsv (wsc_all HH1.out _ (by simp)) (wsc_all HH1.out _ (by simp))).mono ?_
  rintro x w2 ⟨⟨ra, rfl, hra⟩, hb2⟩
  replace hsu := hsu.below hb2
  replace hsv := hsv.below hb2
  replace hsx := hsx.below hb2
  replace hB := bcat hB hb2 hge
  replace hge := hB.size
  clear hra
  have hb3 : Below w2.heap.size w2 (w2.alloc (.cells #[.int .i64 0, .int .i64 0] 26)) := balloc w2 _
  replace hsu := hsu.below hb3
  replace hsv := hsv.below hb3
  replace hsx := hsx.below hb3
  replace hB := bcat hB hb3 hge
  replace hge := hB.size
  have bx : Two (w2.alloc (.cells #[.int .i64 0, .int .i64 0] 26)) w2.heap.size := Two.new w2
  obtain ⟨_, bx4a, bx4b, bx4c, bx4d, bx4e, bx4f⟩ := id bx
  go_wp2_with fail
  clear bx4a bx4b bx4c bx4d bx4e bx4f
  refine (mul_bad _ _ vs xs _ hsv hsx h).mono ?_
  rintro x w5 ⟨rfl, hb5⟩
  replace hsu := hsu.below hb5
  replace hsv := hsv.below hb5
  replace hsx := hsx.below hb5
  replace bx := Two.below bx hb5
  replace hB := bcat hB hb5 hge
  replace hge := hB.size
  have hcb : (wsc [vs, xs] != 0) = true := by simpa using h
  have hcb2 : (wsc [vs, xs] == 0) = false := by simpa using h
  generalize wsc [vs, xs] = c at *
  generalize wsa [vs, xs] = d at *
  have hb6 : Below w5.heap.size w5 (w5.alloc (.cells #[.int .i64 c, .int .i64 d] 26)) := balloc w5 _
  replace hsu := hsu.below hb6
  replace hsv := hsv.below hb6
  replace hsx := hsx.below hb6
  replace bx := Two.below bx hb6
  replace hB := bcat hB hb6 hge
  replace hge := hB.size
  have bq : Blk (w5.alloc (.cells #[.int .i64 c, .int .i64 d] 26)) w5.heap.size 26 [.int .i64 c, .int .i64 d] := blk0 _ _
  obtain ⟨_, bx7a, bx7b, bx7c, bx7d, bx7e, bx7f⟩ := id bx
  obtain ⟨bq7a, bq7b, bq7c, bq7d⟩ := bq.two
  go_wp2
  clear bx7a bx7b bx7c bx7d bx7e bx7f bq7a bq7b bq7c bq7d
  go_ret
  exact ⟨rfl, hB⟩

set_option maxRecDepth 100000 in
set_option maxHeartbeats 4000000 in
theorem group_good (u v x : Value) (us vs xs : List Int) (w : World) (hu : SlA w u us) (hv : SlA w v vs) (hw : SlA w x xs) (hl : us.length + vs.length + xs.length ≤ 1900) (h1 : wsc [us, vs] = 0) (h2 : wsc [vs, xs] = 0) :
    Calls Try.prog 8 #[u, v, x] w fun e w' => e = .returned (.bool true) ∧ Below w.heap.size w w' := by
  obtain ⟨ua, uc, hue⟩ := hu.shape
  obtain ⟨va, vc, hve⟩ := hv.shape
  obtain ⟨wa, wc, hwe⟩ := hw.shape
  subst hue hve hwe
  have HU := hide hu
  have HV := hide hv
  have HW := hide hw
  clear hu hv hw
  have hl1 : (us.length : Int) + (vs.length : Int) + (xs.length : Int) ≤ 1900 := by omega
  have hl2 : ¬ ((1900 : Int) < (us.length : Int) + (vs.length : Int) + (xs.length : Int)) := by omega
  have HWU := hide (wsc_all h1 us (by simp))
  have HWV := hide (wsc_all h1 vs (by simp))
  have HWX := hide (wsc_all h2 xs (by simp))
  have HWA := hide (Wd.of ((HWU.out.lt.append HWV.out.lt).red) (by have := red_len (us ++ vs); simp at this; omega))
  have HWB := hide (Wd.of ((HWV.out.lt.append HWX.out.lt).red) (by have := red_len (vs ++ xs); simp at this; omega))
  have HWI := hide (Wd.of (HWU.out.lt.wi.red) (by have := red_len (wi us); rw [wi_length] at this; omega))
  have HXY := hide (show red (red (us ++ vs) ++ xs) = red (us ++ red (vs ++ xs)) by rw [red_left, red_right, List.append_assoc])
  have HZZ := hide (show red (us ++ red (wi us)) = [] by rw [red_right]; exact red_own us)
  have HJR := hide (show red (wi (red (wi us))) = red us by rw [red_wi_red, wi_wi])
  clear h1 h2
  go_enter Try.func8, Try.ntmps8
  go_wp2_with fail
  refine (freeBegun_any w).mono ?_
  rintro x w1 ⟨rfl, hB, h01⟩
  have hge := hB.size
  have hsu := HU.out.up hB h01
  have hsv := HV.out.up hB h01
  have hsx := HW.out.up hB h01
  clear HU HV HW
  go_wp2_with fail
  refine (mul_good _ _ us vs w1 hsu hsv HWU.out HWV.out).mono ?_
  rintro x w2 ⟨⟨ra, rfl, hra⟩, hb2⟩
  replace hsu := hsu.below hb2
  replace hsv := hsv.below hb2
  replace hsx := hsx.below hb2
  replace hB := bcat hB hb2 hge
  replace hge := hB.size
  have h0a : 0 < w2.heap.size := hsu.pos
  have hsa := hra.sl h0a
  obtain ⟨a1, a2, rfl⟩ := hra.slice
  clear hra
  have hb3 : Below w2.heap.size w2 (w2.alloc (.cells #[.int .i64 0, .int .i64 0] 26)) := balloc w2 _
  replace hsu := hsu.below hb3
  replace hsv := hsv.below hb3
  replace hsx := hsx.below hb3
  replace hsa := hsa.below hb3
  replace hB := bcat hB hb3 hge
  replace hge := hB.size
  have bx : Two (w2.alloc (.cells #[.int .i64 0, .int .i64 0] 26)) w2.heap.size := Two.new w2
  obtain ⟨_, bx4a, bx4b, bx4c, bx4d, bx4e, bx4f⟩ := id bx
  go_wp2_with fail
  clear bx4a bx4b bx4c bx4d bx4e bx4f
  refine (mul_good _ _ vs xs _ hsv hsx HWV.out HWX.out).mono ?_
  rintro x w5 ⟨⟨rb, rfl, hrb⟩, hb5⟩
  replace hsu := hsu.below hb5
  replace hsv := hsv.below hb5
  replace hsx := hsx.below hb5
  replace hsa := hsa.below hb5
  replace bx := Two.below bx hb5
  replace hB := bcat hB hb5 hge
  replace hge := hB.size
  have h0b : 0 < w5.heap.size := hsu.pos
  have hsb := hrb.sl h0b
  obtain ⟨b1, b2, rfl⟩ := hrb.slice
  clear hrb
  have hb6 : Below w5.heap.size w5 (w5.alloc (.cells #[.int .i64 0, .int .i64 0] 26)) := balloc w5 _
  replace hsu := hsu.below hb6
  replace hsv := hsv.below hb6
  replace hsx := hsx.below hb6
  replace hsa := hsa.below hb6
  replace hsb := hsb.below hb6
  replace bx := Two.below bx hb6
  replace hB := bcat hB hb6 hge
  replace hge := hB.size
  have bq : Two (w5.alloc (.cells #[.int .i64 0, .int .i64 0] 26)) w5.heap.size := Two.new w5
  obtain ⟨_, bx7a, bx7b, bx7c, bx7d, bx7e, bx7f⟩ := id bx
  obtain ⟨_, bq7a, bq7b, bq7c, bq7d, bq7e, bq7f⟩ := id bq
  go_wp2_with fail
  clear bx7a bx7b bx7c bx7d bx7e bx7f bq7a bq7b bq7c bq7d bq7e bq7f
  refine (mul_good _ _ (red (us ++ vs)) xs _ hsa hsx HWA.out HWX.out).mono ?_
  rintro x w8 ⟨⟨rp, rfl, hrp⟩, hb8⟩
  replace hsu := hsu.below hb8
  replace hsv := hsv.below hb8
  replace hsx := hsx.below hb8
  replace hsa := hsa.below hb8
  replace hsb := hsb.below hb8
  replace bx := Two.below bx hb8
  replace bq := Two.below bq hb8
  replace hB := bcat hB hb8 hge
  replace hge := hB.size
  have h0p : 0 < w8.heap.size := hsu.pos
  have hsp := hrp.sl h0p
  obtain ⟨p1, p2, rfl⟩ := hrp.slice
  clear hrp
  obtain ⟨_, bx9a, bx9b, bx9c, bx9d, bx9e, bx9f⟩ := id bx
  obtain ⟨_, bq9a, bq9b, bq9c, bq9d, bq9e, bq9f⟩ := id bq
  go_wp2_with fail
  clear bx9a bx9b bx9c bx9d bx9e bx9f bq9a bq9b bq9c bq9d bq9e bq9f
  refine (mul_good _ _ us (red (vs ++ xs)) _ hsu hsb HWU.out HWB.out).mono ?_
  rintro x w10 ⟨⟨rq, rfl, hrq⟩, hb10⟩
  replace hsu := hsu.below hb10
  replace hsv := hsv.below hb10
  replace hsx := hsx.below hb10
  replace hsa := hsa.below hb10
  replace hsb := hsb.below hb10
  replace hsp := hsp.below hb10
  replace bx := Two.below bx hb10
  replace bq := Two.below bq hb10
  replace hB := bcat hB hb10 hge
  replace hge := hB.size
  have h0q : 0 < w10.heap.size := hsu.pos
  have hsq := hrq.sl h0q
  obtain ⟨q1, q2, rfl⟩ := hrq.slice
  clear hrq
  obtain ⟨_, bx11a, bx11b, bx11c, bx11d, bx11e, bx11f⟩ := id bx
  obtain ⟨_, bq11a, bq11b, bq11c, bq11d, bq11e, bq11f⟩ := id bq
  go_wp2_with fail
  clear bx11a bx11b bx11c bx11d bx11e bx11f bq11a bq11b bq11c bq11d bq11e bq11f
  refine (inv_good _ us _ hsu HWU.out).mono ?_
  rintro x w12 ⟨⟨ri, rfl, hri⟩, hb12⟩
  replace hsu := hsu.below hb12
  replace hsv := hsv.below hb12
  replace hsx := hsx.below hb12
  replace hsa := hsa.below hb12
  replace hsb := hsb.below hb12
  replace hsp := hsp.below hb12
  replace hsq := hsq.below hb12
  replace bx := Two.below bx hb12
  replace bq := Two.below bq hb12
  replace hB := bcat hB hb12 hge
  replace hge := hB.size
  have h0i : 0 < w12.heap.size := hsu.pos
  have hsi := hri.sl h0i
  obtain ⟨i1, i2, rfl⟩ := hri.slice
  clear hri
  have hb13 : Below w12.heap.size w12 (w12.alloc (.cells #[.int .i64 0, .int .i64 0] 26)) := balloc w12 _
  replace hsu := hsu.below hb13
  replace hsv := hsv.below hb13
  replace hsx := hsx.below hb13
  replace hsa := hsa.below hb13
  replace hsb := hsb.below hb13
  replace hsp := hsp.below hb13
  replace hsq := hsq.below hb13
  replace hsi := hsi.below hb13
  replace bx := Two.below bx hb13
  replace bq := Two.below bq hb13
  replace hB := bcat hB hb13 hge
  replace hge := hB.size
  have bz : Two (w12.alloc (.cells #[.int .i64 0, .int .i64 0] 26)) w12.heap.size := Two.new w12
  obtain ⟨_, bx14a, bx14b, bx14c, bx14d, bx14e, bx14f⟩ := id bx
  obtain ⟨_, bq14a, bq14b, bq14c, bq14d, bq14e, bq14f⟩ := id bq
  obtain ⟨_, bz14a, bz14b, bz14c, bz14d, bz14e, bz14f⟩ := id bz
  go_wp2_with fail
  clear bx14a bx14b bx14c bx14d bx14e bx14f bq14a bq14b bq14c bq14d bq14e bq14f bz14a bz14b bz14c bz14d bz14e bz14f
  refine (ints_true _ _ _ _ _ hsp hsq HXY.out).mono ?_
  rintro x w15 ⟨rfl, hb15⟩
  replace hsu := hsu.below hb15
  replace hsv := hsv.below hb15
  replace hsx := hsx.below hb15
  replace hsa := hsa.below hb15
  replace hsb := hsb.below hb15
  replace hsp := hsp.below hb15
  replace hsq := hsq.below hb15
  replace hsi := hsi.below hb15
  replace bx := Two.below bx hb15
  replace bq := Two.below bq hb15
  replace bz := Two.below bz hb15
  replace hB := bcat hB hb15 hge
  replace hge := hB.size
  obtain ⟨_, bx16a, bx16b, bx16c, bx16d, bx16e, bx16f⟩ := id bx
  obtain ⟨_, bq16a, bq16b, bq16c, bq16d, bq16e, bq16f⟩ := id bq
  obtain ⟨_, bz16a, bz16b, bz16c, bz16d, bz16e, bz16f⟩ := id bz
  go_wp2_with fail
  clear bx16a bx16b bx16c bx16d bx16e bx16f bq16a bq16b bq16c bq16d bq16e bq16f bz16a bz16b bz16c bz16d bz16e bz16f
  refine (mul_good _ _ us (red (wi us)) _ hsu hsi HWU.out HWI.out).mono ?_
  rintro x w17 ⟨⟨rz, rfl, hrz⟩, hb17⟩
  replace hsu := hsu.below hb17
  replace hsv := hsv.below hb17
  replace hsx := hsx.below hb17
  replace hsa := hsa.below hb17
  replace hsb := hsb.below hb17
  replace hsp := hsp.below hb17
  replace hsq := hsq.below hb17
  replace hsi := hsi.below hb17
  replace bx := Two.below bx hb17
  replace bq := Two.below bq hb17
  replace bz := Two.below bz hb17
  replace hB := bcat hB hb17 hge
  replace hge := hB.size
  rw [HZZ.out] at hrz
  obtain ⟨z1, z2, hz9⟩ := hrz.slice
  subst hz9
  clear hrz
  obtain ⟨_, bx18a, bx18b, bx18c, bx18d, bx18e, bx18f⟩ := id bx
  obtain ⟨_, bq18a, bq18b, bq18c, bq18d, bq18e, bq18f⟩ := id bq
  obtain ⟨_, bz18a, bz18b, bz18c, bz18d, bz18e, bz18f⟩ := id bz
  go_wp2_with fail
  clear bx18a bx18b bx18c bx18d bx18e bx18f bq18a bq18b bq18c bq18d bq18e bq18f bz18a bz18b bz18c bz18d bz18e bz18f
  refine (inv_good _ (red (wi us)) _ hsi HWI.out).mono ?_
  rintro x w19 ⟨⟨rj, rfl, hrj⟩, hb19⟩
  replace hsu := hsu.below hb19
  replace hsv := hsv.below hb19
  replace hsx := hsx.below hb19
  replace hsa := hsa.below hb19
  replace hsb := hsb.below hb19
  replace hsp := hsp.below hb19
  replace hsq := hsq.below hb19
  replace hsi := hsi.below hb19
  replace bx := Two.below bx hb19
  replace bq := Two.below bq hb19
  replace bz := Two.below bz hb19
  replace hB := bcat hB hb19 hge
  replace hge := hB.size
  have h0j : 0 < w19.heap.size := hsu.pos
  have hsj := hrj.sl h0j
  obtain ⟨j1, j2, rfl⟩ := hrj.slice
  clear hrj
  obtain ⟨_, bx20a, bx20b, bx20c, bx20d, bx20e, bx20f⟩ := id bx
  obtain ⟨_, bq20a, bq20b, bq20c, bq20d, bq20e, bq20f⟩ := id bq
  obtain ⟨_, bz20a, bz20b, bz20c, bz20d, bz20e, bz20f⟩ := id bz
  go_wp2_with fail
  clear bx20a bx20b bx20c bx20d bx20e bx20f bq20a bq20b bq20c bq20d bq20e bq20f bz20a bz20b bz20c bz20d bz20e bz20f
  refine (reduce_good _ us _ hsu HWU.out).mono ?_
  rintro x w21 ⟨⟨rr, rfl, hrr⟩, hb21⟩
  replace hsu := hsu.below hb21
  replace hsv := hsv.below hb21
  replace hsx := hsx.below hb21
  replace hsa := hsa.below hb21
  replace hsb := hsb.below hb21
  replace hsp := hsp.below hb21
  replace hsq := hsq.below hb21
  replace hsi := hsi.below hb21
  replace hsj := hsj.below hb21
  replace bx := Two.below bx hb21
  replace bq := Two.below bq hb21
  replace bz := Two.below bz hb21
  replace hB := bcat hB hb21 hge
  replace hge := hB.size
  have h0r : 0 < w21.heap.size := hsu.pos
  have hsr := hrr.sl h0r
  obtain ⟨r1, r2, rfl⟩ := hrr.slice
  clear hrr
  obtain ⟨_, bx22a, bx22b, bx22c, bx22d, bx22e, bx22f⟩ := id bx
  obtain ⟨_, bq22a, bq22b, bq22c, bq22d, bq22e, bq22f⟩ := id bq
  obtain ⟨_, bz22a, bz22b, bz22c, bz22d, bz22e, bz22f⟩ := id bz
  go_wp2_with fail
  clear bx22a bx22b bx22c bx22d bx22e bx22f bq22a bq22b bq22c bq22d bq22e bq22f bz22a bz22b bz22c bz22d bz22e bz22f
  refine (ints_true _ _ _ _ _ hsj hsr HJR.out).mono ?_
  rintro x w23 ⟨rfl, hb23⟩
  replace hsu := hsu.below hb23
  replace hsv := hsv.below hb23
  replace hsx := hsx.below hb23
  replace hsa := hsa.below hb23
  replace hsb := hsb.below hb23
  replace hsp := hsp.below hb23
  replace hsq := hsq.below hb23
  replace hsi := hsi.below hb23
  replace hsj := hsj.below hb23
  replace hsr := hsr.below hb23
  replace bx := Two.below bx hb23
  replace bq := Two.below bq hb23
  replace bz := Two.below bz hb23
  replace hB := bcat hB hb23 hge
  replace hge := hB.size
  obtain ⟨_, bx24a, bx24b, bx24c, bx24d, bx24e, bx24f⟩ := id bx
  obtain ⟨_, bq24a, bq24b, bq24c, bq24d, bq24e, bq24f⟩ := id bq
  obtain ⟨_, bz24a, bz24b, bz24c, bz24d, bz24e, bz24f⟩ := id bz
  go_wp2
  clear bx24a bx24b bx24c bx24d bx24e bx24f bq24a bq24b bq24c bq24d bq24e bq24f bz24a bz24b bz24c bz24d bz24e bz24f
  go_ret
  exact ⟨rfl, hB⟩

theorem group_law (u v x : Value) (us vs xs : List Int) (w : World) (hu : SlA w u us) (hv : SlA w v vs) (hw : SlA w x xs) (hb1 : us.length ≤ 17592186044416) (hb2 : vs.length ≤ 17592186044416) (hb3 : xs.length ≤ 17592186044416) :
    Calls Try.prog 8 #[u, v, x] w fun e w' => e = .returned (.bool true) ∧ Below w.heap.size w w' := by
  by_cases hl : us.length + vs.length + xs.length ≤ 1900
  · by_cases h1 : wsc [us, vs] = 0
    · by_cases h2 : wsc [vs, xs] = 0
      · exact group_good u v x us vs xs w hu hv hw hl h1 h2
      · exact group_bad2 u v x us vs xs w hu hv hw hl h1 h2
    · exact group_bad1 u v x us vs xs w hu hv hw hl h1
  · exact group_long u v x us vs xs w hu hv hw (by omega) hb1 hb2 hb3

end Go.Proofs.Ytakmfhnigpmngaa
