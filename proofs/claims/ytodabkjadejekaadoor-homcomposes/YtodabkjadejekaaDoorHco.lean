/- What the law HomComposes answers: true, at every two tables and every two lists. -/
import Derived.Test.YtodabkjadejekaaDoorHy
import Derived.Test.YtodabkjadejekaaDoorHz
namespace Go.Proofs.YtodabkjadejekaaDoor
open Go Go.RowKit

theorem hf_grp {N M : Int} {zs ys ms : List Int} (h : (hfault N zs M ys ms).1 = 0) : ∃ n e m d : Nat, N = n ∧ M = m ∧ IsGrp n zs e ∧ IsGrp m ys d := by
  by_cases h1 : (gfault N zs).1 = 0
  · obtain ⟨n, e, rfl, hg, _⟩ := gfault_grp h1
    by_cases h2 : (gfault M ys).1 = 0
    · obtain ⟨m, d, rfl, hh, _⟩ := gfault_grp h2
      exact ⟨n, e, m, d, rfl, rfl, hg, hh⟩
    · rw [hfault_2 hg h2] at h
      exact absurd h h2
  · rw [hfault_1 h1] at h
    exact absurd h h1
set_option maxRecDepth 100000 in
set_option maxHeartbeats 2000000 in
theorem then_ok (u v : Value) (xs ys : List Int) (w : World) (hu : Sl w u xs) (hv : Sl w v ys) (hx : ∀ k, k < xs.length → ∃ x : Nat, xs[k]?.getD 0 = (x : Int) ∧ x < ys.length) (h1000 : xs.length ≤ 1000) :
    Calls Tryd.prog 34 #[u, v] w fun e w' => ∃ r, e = .returned r ∧ Row w' w.heap.size r (xs.map fun x => ys[x.toNat]?.getD 0) ∧ Below w.heap.size w w' := by
  obtain ⟨i0, hi, hz0, hz1, hz2⟩ := info_parts info3b
  obtain ⟨a, cap, pb, po, rfl, hr, hp, hq3, hq4⟩ := hu
  obtain ⟨b, cap', qb, qo, rfl, hs, hq, hq7, hq8⟩ := hv
  have hyl : ys.length ≤ 9223372036854775807 := by unfold maxLen at hq8; omega
  have HX := hide hx
  obtain ⟨M, hM⟩ : ∃ M, M = xs.map fun x => ys[x.toNat]?.getD 0 := ⟨_, rfl⟩
  have HML := hide (show M.length = xs.length by rw [hM, List.length_map])
  have HMG := hide (fun k (hk : k < xs.length) (x : Nat) (h : xs[k]?.getD 0 = (x : Int)) => show M[k]?.getD 0 = ys[x]?.getD 0 by
    rw [List.getElem?_eq_getElem hk, Option.getD_some] at h
    rw [hM, List.getElem?_map, List.getElem?_eq_getElem hk]
    simp [h])
  rw [← hM]
  clear hM hx
  go_enter Tryd.func34, Tryd.ntmps34
  go_wp2
  go_loopw [5, 6] (fun v i wr => ∃ k : Nat, k ≤ xs.length ∧ i = .int .i64 k ∧ Row wr w.heap.size v (M.take k) ∧ Below w.heap.size w wr)
    (fun _ i _ => xs.length - (intOf i).toNat)
  case atStart => exact ⟨0, Nat.zero_le _, rfl, World.ownsRow_nil _ _ _ _, Below.refl _ _⟩
  case round =>
    obtain ⟨k, hk, rfl, hown, hB⟩ := hrel
    obtain ⟨v, rfl⟩ : ∃ v, v = u5 := ⟨_, rfl⟩
    have hBs := hB.size
    by_cases hlt : k < xs.length
    · have hil : (M.take k).length = k := by rw [List.length_take, HML.out]; omega
      obtain ⟨x, hxe, hxl⟩ := HX.out k hlt
      have hcx := (hr.below hB hp).cell k hlt
      have hcy := (hs.below hB hq).cell x hxl
      rw [hxe] at hcx
      obtain rfl := hr.at_ (by omega)
      obtain rfl := hs.at_ (by omega)
      have hsn : M.take (k + 1) = M.take k ++ [ys[x]?.getD 0] := by
        have h9 : k < M.length := by rw [HML.out]; exact hlt
        rw [List.take_succ_eq_append_getElem h9, ← HMG.out k hlt x hxe, List.getElem?_eq_getElem h9, Option.getD_some]
      have HIL := hide hil
      have HSN := hide hsn
      clear hil hsn hxe
      generalize ys[x]?.getD 0 = y at hcy HSN
      have hx1 : (x : Int) < (ys.length : Int) := by omega
      go_wp2_with (first
        | (at_builtin; refine wpList_append_own _ rfl _ _ 22 rfl w.heap.size 3 i0 (.int .i64 0) 1 8 under22b hi hz0 hz1 hz2 rfl (by decide) _ _ _ rfl (World.ownsRow.alloc hown _) ⟨wr.heap.size, 0, none⟩ 1 1 [.int .i64 y] rfl rfl ?c1 ?c2 ?c3 ?c4 ?c5 ?_))
      case c1 => exact cell_one_new _ _ _
      case c2 => simp [Value.oneCell']
      case c3 => unfold maxLen; have := HIL.out; omega
      case c4 => have := HIL.out; omega
      case c5 => simp; omega
      intro v' w2 hown' hgrow _
      obtain ⟨g', cap', rfl⟩ := ownsRow_succ hown'
      have hB2 : Below w.heap.size w w2 := (hB.alloc hBs _).grown hgrow (by simp; omega) (fun j e => owns_ge hown j e)
      have hown5 : Row w2 w.heap.size (.slice (some ⟨g', 0, none⟩) ((M.take k).length + 1) cap') (M.take (k + 1)) := by
        unfold Row
        rw [HSN.out]; simpa using hown'
      clear hown' hgrow hown
      go_wp2
      go_roundw
      case rel => exact ⟨k + 1, by omega, by go_num, by rw [← List.length_take]; exact hown5, hB2⟩
      case measure => simp [intOf]; omega
    · have hli : ¬ (k : Int) < (xs.length : Int) := by omega
      rw [List.take_of_length_le (by rw [HML.out]; omega)] at hown
      go_wp2
      go_ret
      exact ⟨_, rfl, hown, hB⟩
set_option maxRecDepth 100000 in
set_option maxHeartbeats 4000000 in
theorem hcomp_bad1 (N M c i : Int) (v1 : Option Addr) (v2 v3 : Nat) (y1 : Option Addr) (y2 y3 : Nat) (mv nv : Value) (w : World) (hT : Tab w) (hc : c ≠ 0)
    (HC1 : Hid (∀ W, Below w.heap.size w W → Calls Tryd.prog 13 #[.agg #[.int .i64 N, .slice v1 v2 v3], .agg #[.int .i64 M, .slice y1 y2 y3], mv] W fun x W' => x = .returned (.agg #[.int .i64 c, .int .i64 i]) ∧ Below W.heap.size W W')) :
    Calls Tryd.prog 6 #[.agg #[.int .i64 N, .slice v1 v2 v3], .agg #[.int .i64 M, .slice y1 y2 y3], mv, nv] w fun e w' => e = .returned (.bool true) ∧ Below w.heap.size w w' := by
  obtain ⟨w0, hw0⟩ : ∃ w0, w0 = (w.alloc (.cells #[.int .i64 N, .slice v1 v2 v3] 24)).alloc (.cells #[.int .i64 M, .slice y1 y2 y3] 24) := ⟨_, rfl⟩
  have hB0 : Below w.heap.size w w0 := by rw [hw0]; exact (balloc w _).alloc (by simp) _
  have hX0 : BoxG w0 w.heap.size N (.slice v1 v2 v3) := by rw [hw0]; exact (blk0 (w := w) (T := 24) _ _).alloc _
  have hY0 : BoxG w0 (w.heap.size + 1) M (.slice y1 y2 y3) := by
    have := blk0 (w := w.alloc (.cells #[.int .i64 N, .slice v1 v2 v3] 24)) (T := 24) (.int .i64 M) (.slice y1 y2 y3)
    rw [World.size_alloc] at this
    rw [hw0]; exact this
  have hcb : (c != 0) = true := by simpa using hc
  go_enter Tryd.func6, Tryd.ntmps6
  go_wp2_with fail
  rw [← hw0]
  clear hw0
  refine (homBegun_any _ (hT.below hB0)).mono ?_
  rintro x w1 ⟨rfl, hb1⟩
  have hB := bcat2 hB0 hb1
  have hX := blk_below hX0 hb1
  have hY := blk_below hY0 hb1
  clear hB0 hX0 hY0 hb1
  obtain ⟨c0, c1, _, _⟩ := hX.two
  obtain ⟨d0, d1, _, _⟩ := hY.two
  go_wp2_with fail
  refine (HC1.out _ hB).mono ?_
  rintro x w2 ⟨rfl, hb2⟩
  have hB2 := bcat2 hB hb2
  have hfd := field27 c i w2
  go_wp2
  go_ret
  exact ⟨rfl, hB2⟩
set_option maxRecDepth 100000 in
set_option maxHeartbeats 4000000 in
theorem hcomp_bad2 (N M c i : Int) (v1 : Option Addr) (v2 v3 : Nat) (y1 : Option Addr) (y2 y3 : Nat) (mv nv : Value) (w : World) (hT : Tab w) (hc : c ≠ 0)
    (HC1 : Hid (∀ W, Below w.heap.size w W → Calls Tryd.prog 13 #[.agg #[.int .i64 N, .slice v1 v2 v3], .agg #[.int .i64 M, .slice y1 y2 y3], mv] W fun x W' => x = .returned (.agg #[.int .i64 0, .int .i64 0]) ∧ Below W.heap.size W W'))
    (HC2 : Hid (∀ W, Below w.heap.size w W → Calls Tryd.prog 13 #[.agg #[.int .i64 M, .slice y1 y2 y3], .agg #[.int .i64 M, .slice y1 y2 y3], nv] W fun x W' => x = .returned (.agg #[.int .i64 c, .int .i64 i]) ∧ Below W.heap.size W W')) :
    Calls Tryd.prog 6 #[.agg #[.int .i64 N, .slice v1 v2 v3], .agg #[.int .i64 M, .slice y1 y2 y3], mv, nv] w fun e w' => e = .returned (.bool true) ∧ Below w.heap.size w w' := by
  obtain ⟨w0, hw0⟩ : ∃ w0, w0 = (w.alloc (.cells #[.int .i64 N, .slice v1 v2 v3] 24)).alloc (.cells #[.int .i64 M, .slice y1 y2 y3] 24) := ⟨_, rfl⟩
  have hB0 : Below w.heap.size w w0 := by rw [hw0]; exact (balloc w _).alloc (by simp) _
  have hX0 : BoxG w0 w.heap.size N (.slice v1 v2 v3) := by rw [hw0]; exact (blk0 (w := w) (T := 24) _ _).alloc _
  have hY0 : BoxG w0 (w.heap.size + 1) M (.slice y1 y2 y3) := by
    have := blk0 (w := w.alloc (.cells #[.int .i64 N, .slice v1 v2 v3] 24)) (T := 24) (.int .i64 M) (.slice y1 y2 y3)
    rw [World.size_alloc] at this
    rw [hw0]; exact this
  have hcb : (c != 0) = true := by simpa using hc
  go_enter Tryd.func6, Tryd.ntmps6
  go_wp2_with fail
  rw [← hw0]
  clear hw0
  refine (homBegun_any _ (hT.below hB0)).mono ?_
  rintro x w1 ⟨rfl, hb1⟩
  have hB := bcat2 hB0 hb1
  have hX := blk_below hX0 hb1
  have hY := blk_below hY0 hb1
  clear hB0 hX0 hY0 hb1
  obtain ⟨c0, c1, _, _⟩ := hX.two
  obtain ⟨d0, d1, _, _⟩ := hY.two
  go_wp2_with fail
  clear c0 c1 d0 d1
  refine (HC1.out _ hB).mono ?_
  rintro x w2 ⟨rfl, hb2⟩
  have hB := bcat2 hB hb2
  have hY := blk_below hY hb2
  obtain ⟨d0, d1, _, _⟩ := hY.two
  have hfd := field27 0 0 w2
  go_wp2_with fail
  clear d0 d1 hfd
  refine (HC2.out _ hB).mono ?_
  rintro x w3 ⟨rfl, hb3⟩
  have hB3 := bcat2 hB hb3
  have hfd := field27 c i w3
  go_wp2
  go_ret
  exact ⟨rfl, hB3⟩
set_option maxRecDepth 100000 in
set_option maxHeartbeats 8000000 in
theorem hcomp_good (n m : Nat) (v1 : Option Addr) (v2 v3 : Nat) (y1 : Option Addr) (y2 y3 : Nat) (mv nv : Value) (cs : List Int) (ka kb ix iy : List Nat) (w : World) (hT : Tab w) (hpa : ((li ka).all fun a => decide (a ∈ li kb)) = true) (hpb : ((li iy).all fun a => decide (a ∈ li ix)) = true)
    (HC1 : Hid (∀ W, Below w.heap.size w W → Calls Tryd.prog 13 #[.agg #[.int .i64 n, .slice v1 v2 v3], .agg #[.int .i64 m, .slice y1 y2 y3], mv] W fun x W' => x = .returned (.agg #[.int .i64 0, .int .i64 0]) ∧ Below W.heap.size W W'))
    (HC2 : Hid (∀ W, Below w.heap.size w W → Calls Tryd.prog 13 #[.agg #[.int .i64 m, .slice y1 y2 y3], .agg #[.int .i64 m, .slice y1 y2 y3], nv] W fun x W' => x = .returned (.agg #[.int .i64 0, .int .i64 0]) ∧ Below W.heap.size W W'))
    (HR1 : Hid (∀ W, Below w.heap.size w W → Calls Tryd.prog 16 #[.agg #[.int .i64 n, .slice v1 v2 v3], .agg #[.int .i64 m, .slice y1 y2 y3], mv] W fun x W' => x = .returned (.agg #[.int .i64 0, .int .i64 0]) ∧ Below W.heap.size W W'))
    (HR2 : Hid (∀ W, Below w.heap.size w W → Calls Tryd.prog 16 #[.agg #[.int .i64 m, .slice y1 y2 y3], .agg #[.int .i64 m, .slice y1 y2 y3], nv] W fun x W' => x = .returned (.agg #[.int .i64 0, .int .i64 0]) ∧ Below W.heap.size W W'))
    (HTH : Hid (∀ W, Below w.heap.size w W → Calls Tryd.prog 34 #[mv, nv] W fun x W' => ∃ r1 r2 r3, x = .returned (.slice r1 r2 r3) ∧ Sl W' (.slice r1 r2 r3) cs ∧ Below W.heap.size W W'))
    (HK1 : Hid (∀ W, Below w.heap.size w W → Calls Tryd.prog 14 #[.agg #[.int .i64 n, .slice v1 v2 v3], .agg #[.int .i64 m, .slice y1 y2 y3], mv] W fun x W' => ∃ r1 r2 r3, x = .returned (.tuple #[.slice r1 r2 r3, .agg #[.int .i64 0, .int .i64 0]]) ∧ Sl W' (.slice r1 r2 r3) (li ka) ∧ Below W.heap.size W W'))
    (HK2 : Hid (∀ W cv, Below w.heap.size w W → Sl W cv cs → Calls Tryd.prog 14 #[.agg #[.int .i64 n, .slice v1 v2 v3], .agg #[.int .i64 m, .slice y1 y2 y3], cv] W fun x W' => ∃ r1 r2 r3, x = .returned (.tuple #[.slice r1 r2 r3, .agg #[.int .i64 0, .int .i64 0]]) ∧ Sl W' (.slice r1 r2 r3) (li kb) ∧ Below W.heap.size W W'))
    (HI1 : Hid (∀ W, Below w.heap.size w W → Calls Tryd.prog 15 #[.agg #[.int .i64 m, .slice y1 y2 y3], .agg #[.int .i64 m, .slice y1 y2 y3], nv] W fun x W' => ∃ r1 r2 r3, x = .returned (.tuple #[.slice r1 r2 r3, .agg #[.int .i64 0, .int .i64 0]]) ∧ Sl W' (.slice r1 r2 r3) (li ix) ∧ Below W.heap.size W W'))
    (HI2 : Hid (∀ W cv, Below w.heap.size w W → Sl W cv cs → Calls Tryd.prog 15 #[.agg #[.int .i64 n, .slice v1 v2 v3], .agg #[.int .i64 m, .slice y1 y2 y3], cv] W fun x W' => ∃ r1 r2 r3, x = .returned (.tuple #[.slice r1 r2 r3, .agg #[.int .i64 0, .int .i64 0]]) ∧ Sl W' (.slice r1 r2 r3) (li iy) ∧ Below W.heap.size W W'))
    (HC3 : Hid (∀ W cv, Below w.heap.size w W → Sl W cv cs → Calls Tryd.prog 13 #[.agg #[.int .i64 n, .slice v1 v2 v3], .agg #[.int .i64 m, .slice y1 y2 y3], cv] W fun x W' => x = .returned (.agg #[.int .i64 0, .int .i64 0]) ∧ Below W.heap.size W W'))
    : Calls Tryd.prog 6 #[.agg #[.int .i64 n, .slice v1 v2 v3], .agg #[.int .i64 m, .slice y1 y2 y3], mv, nv] w fun e w' => e = .returned (.bool true) ∧ Below w.heap.size w w' := by
  obtain ⟨w0, hw0⟩ : ∃ w0, w0 = (w.alloc (.cells #[.int .i64 n, .slice v1 v2 v3] 24)).alloc (.cells #[.int .i64 m, .slice y1 y2 y3] 24) := ⟨_, rfl⟩
  have hB0 : Below w.heap.size w w0 := by rw [hw0]; exact (balloc w _).alloc (by simp) _
  have hX0 : BoxG w0 w.heap.size n (.slice v1 v2 v3) := by rw [hw0]; exact (blk0 (w := w) (T := 24) _ _).alloc _
  have hY0 : BoxG w0 (w.heap.size + 1) m (.slice y1 y2 y3) := by
    have := blk0 (w := w.alloc (.cells #[.int .i64 n, .slice v1 v2 v3] 24)) (T := 24) (.int .i64 m) (.slice y1 y2 y3)
    rw [World.size_alloc] at this
    rw [hw0]; exact this
  go_enter Tryd.func6, Tryd.ntmps6
  go_wp2_with fail
  rw [← hw0]
  clear hw0
  refine (homBegun_any _ (hT.below hB0)).mono ?_
  rintro x w1 ⟨rfl, hb1⟩
  have hB := bcat2 hB0 hb1
  have hX := blk_below hX0 hb1
  have hY := blk_below hY0 hb1
  clear hB0 hX0 hY0 hb1
  obtain ⟨c0, c1, _, _⟩ := hX.two
  obtain ⟨d0, d1, _, _⟩ := hY.two
  go_wp2_with fail
  clear c0 c1 d0 d1
  refine (HC1.out _ hB).mono ?_
  rintro x w2 ⟨rfl, hb2⟩
  have hB := bcat2 hB hb2
  have hX := blk_below hX hb2
  have hY := blk_below hY hb2
  have hfd := field27 0 0 w2
  obtain ⟨c0, c1, _, _⟩ := hX.two
  obtain ⟨d0, d1, _, _⟩ := hY.two
  go_wp2_with fail
  clear c0 c1 d0 d1 hfd
  refine (HC2.out _ hB).mono ?_
  rintro x w3 ⟨rfl, hb3⟩
  have hB := bcat2 hB hb3
  have hX := blk_below hX hb3
  have hY := blk_below hY hb3
  have hfd := field27 0 0 w3
  obtain ⟨c0, c1, _, _⟩ := hX.two
  obtain ⟨d0, d1, _, _⟩ := hY.two
  go_wp2_with fail
  clear c0 c1 d0 d1 hfd
  refine (HR1.out _ hB).mono ?_
  rintro x w4 ⟨rfl, hb4⟩
  have hB := bcat2 hB hb4
  have hX := blk_below hX hb4
  have hY := blk_below hY hb4
  have hfd := field27 0 0 w4
  obtain ⟨c0, c1, _, _⟩ := hX.two
  obtain ⟨d0, d1, _, _⟩ := hY.two
  go_wp2_with fail
  clear c0 c1 d0 d1 hfd
  refine (HR2.out _ hB).mono ?_
  rintro x w5 ⟨rfl, hb5⟩
  have hB := bcat2 hB hb5
  have hX := blk_below hX hb5
  have hY := blk_below hY hb5
  have hfd := field27 0 0 w5
  obtain ⟨c0, c1, _, _⟩ := hX.two
  obtain ⟨d0, d1, _, _⟩ := hY.two
  go_wp2_with fail
  clear c0 c1 d0 d1 hfd
  refine (HTH.out _ hB).mono ?_
  rintro x w6 ⟨t1, t2, t3, rfl, hcs, hb6⟩
  have hB := bcat2 hB hb6
  have hX := blk_below hX hb6
  have hY := blk_below hY hb6
  obtain ⟨c0, c1, _, _⟩ := hX.two
  obtain ⟨d0, d1, _, _⟩ := hY.two
  go_wp2_with fail
  clear c0 c1 d0 d1
  refine (HK1.out _ hB).mono ?_
  rintro x w7 ⟨a1, a2, a3, rfl, hka, hb7⟩
  have hG7 := balloc w7 (.cells #[.int .i64 0, .int .i64 0] 28)
  have hbb := bcat2 hb7 hG7
  have hB := bcat2 hB hbb
  have hX := blk_below hX hbb
  have hY := blk_below hY hbb
  have hcs := Sl.below hcs hbb
  have hF7 := blk0 (w := w7) (T := 28) (.int .i64 0) (.int .i64 0)
  have hka := Sl.below hka hG7
  obtain ⟨f0, f1, _, _⟩ := hF7.two
  clear f0 f1
  obtain ⟨c0, c1, _, _⟩ := hX.two
  obtain ⟨d0, d1, _, _⟩ := hY.two
  go_wp2_with fail
  clear c0 c1 d0 d1
  refine (HK2.out _ _ hB hcs).mono ?_
  rintro x w8 ⟨b1, b2, b3, rfl, hkb, hb8⟩
  have hG8 := balloc w8 (.cells #[.int .i64 0, .int .i64 0] 28)
  have hbb := bcat2 hb8 hG8
  have hB := bcat2 hB hbb
  have hX := blk_below hX hbb
  have hY := blk_below hY hbb
  have hF7 := blk_below hF7 hbb
  have hcs := Sl.below hcs hbb
  have hka := Sl.below hka hbb
  have hF8 := blk0 (w := w8) (T := 28) (.int .i64 0) (.int .i64 0)
  have hkb := Sl.below hkb hG8
  obtain ⟨f0, f1, _, _⟩ := hF8.two
  clear f0 f1
  obtain ⟨c0, c1, _, _⟩ := hX.two
  obtain ⟨d0, d1, _, _⟩ := hY.two
  go_wp2_with fail
  clear c0 c1 d0 d1
  refine (HI1.out _ hB).mono ?_
  rintro x w9 ⟨e1, e2, e3, rfl, hix, hb9⟩
  have hG9 := balloc w9 (.cells #[.int .i64 0, .int .i64 0] 28)
  have hbb := bcat2 hb9 hG9
  have hB := bcat2 hB hbb
  have hX := blk_below hX hbb
  have hY := blk_below hY hbb
  have hF7 := blk_below hF7 hbb
  have hF8 := blk_below hF8 hbb
  have hcs := Sl.below hcs hbb
  have hka := Sl.below hka hbb
  have hkb := Sl.below hkb hbb
  have hF9 := blk0 (w := w9) (T := 28) (.int .i64 0) (.int .i64 0)
  have hix := Sl.below hix hG9
  obtain ⟨f0, f1, _, _⟩ := hF9.two
  clear f0 f1
  obtain ⟨c0, c1, _, _⟩ := hX.two
  obtain ⟨d0, d1, _, _⟩ := hY.two
  go_wp2_with fail
  clear c0 c1 d0 d1
  refine (HI2.out _ _ hB hcs).mono ?_
  rintro x w10 ⟨g1, g2, g3, rfl, hiy, hb10⟩
  have hG10 := balloc w10 (.cells #[.int .i64 0, .int .i64 0] 28)
  have hbb := bcat2 hb10 hG10
  have hB := bcat2 hB hbb
  have hX := blk_below hX hbb
  have hY := blk_below hY hbb
  have hF7 := blk_below hF7 hbb
  have hF8 := blk_below hF8 hbb
  have hF9 := blk_below hF9 hbb
  have hcs := Sl.below hcs hbb
  have hka := Sl.below hka hbb
  have hkb := Sl.below hkb hbb
  have hix := Sl.below hix hbb
  have hF10 := blk0 (w := w10) (T := 28) (.int .i64 0) (.int .i64 0)
  have hiy := Sl.below hiy hG10
  obtain ⟨f0, f1, _, _⟩ := hF10.two
  clear f0 f1
  obtain ⟨c0, c1, _, _⟩ := hX.two
  obtain ⟨d0, d1, _, _⟩ := hY.two
  go_wp2_with fail
  clear c0 c1 d0 d1
  refine (HC3.out _ _ hB hcs).mono ?_
  rintro x w11 ⟨rfl, hb11⟩
  have hB := bcat2 hB hb11
  have hX := blk_below hX hb11
  have hY := blk_below hY hb11
  have hF7 := blk_below hF7 hb11
  have hF8 := blk_below hF8 hb11
  have hF9 := blk_below hF9 hb11
  have hF10 := blk_below hF10 hb11
  have hcs := Sl.below hcs hb11
  have hka := Sl.below hka hb11
  have hkb := Sl.below hkb hb11
  have hix := Sl.below hix hb11
  have hiy := Sl.below hiy hb11
  have hfd := field27 0 0 w11
  obtain ⟨q00, q01, _, _⟩ := hF7.two
  obtain ⟨q10, q11, _, _⟩ := hF8.two
  obtain ⟨q20, q21, _, _⟩ := hF9.two
  obtain ⟨q30, q31, _, _⟩ := hF10.two
  go_wp2_with fail
  refine (parted_ok _ _ _ _ _ hka hkb).mono ?_
  rintro x w20 ⟨rfl, rfl⟩
  rw [hpa]
  go_wp2_with fail
  refine (parted_ok _ _ _ _ _ hiy hix).mono ?_
  rintro x w21 ⟨rfl, rfl⟩
  rw [hpb]
  go_wp2
  go_ret
  exact ⟨rfl, hB⟩
theorem img_map {n m : Nat} {φ : Nat → Nat} {W : World} (zs ys ms : List Int) (v y mv : Value) (e d : Nat) (hv : Sl W v zs) (hg : IsGrp n zs e) (hy : Sl W y ys) (hh : IsGrp m ys d) (hm : Sl W mv ms) (hT : Tab W) (H : IsHom n zs m ys φ) (hms : ms = li ((List.range n).map φ)) (hf : hfault n zs m ys ms = (0, 0)) :
    Calls Tryd.prog 15 #[.agg #[.int .i64 n, v], .agg #[.int .i64 m, y], mv] W fun x w' => ∃ r1 r2 r3, x = .returned (.tuple #[.slice r1 r2 r3, .agg #[.int .i64 0, .int .i64 0]]) ∧ Sl w' (.slice r1 r2 r3) (li (lst m (fun a => decide (a ∈ (List.range n).map φ)))) ∧ Below W.heap.size W w' :=
  image_good n m v y mv zs ys ((List.range n).map φ) W hv hy (by rw [← hms]; exact hm) hT hh.tab.le (fun x hx => by
    obtain ⟨a, ha, rfl⟩ := List.mem_map.1 hx
    exact H.lt a (List.mem_range.1 ha)) (by rw [List.length_map, List.length_range]; exact hg.tab.le) (by rw [← hms]; exact hf)
theorem all_li {xs ys : List Nat} (h : ∀ x, x ∈ xs → x ∈ ys) : ((li xs).all fun a => decide (a ∈ li ys)) = true := by
  rw [List.all_eq_true]
  intro a ha
  obtain ⟨x, hx, rfl⟩ := List.mem_map.1 ha
  exact decide_eq_true (List.mem_map.2 ⟨x, h x hx, rfl⟩)
theorem hcomp_law (N M : Int) (v y mv nv : Value) (zs ys ms ns : List Int) (w : World) (hv : Sl w v zs) (hy : Sl w y ys) (hm : Sl w mv ms) (hn : Sl w nv ns) (hT : Tab w) :
    Calls Tryd.prog 6 #[.agg #[.int .i64 N, v], .agg #[.int .i64 M, y], mv, nv] w fun e w' => e = .returned (.bool true) ∧ Below w.heap.size w w' := by
  obtain ⟨v1, v2, v3, rfl⟩ := hv.isSlice
  obtain ⟨y1, y2, y3, rfl⟩ := hy.isSlice
  by_cases hc : (hfault N zs M ys ms).1 = 0
  · obtain ⟨n, e, m, d, rfl, rfl, hg, hh⟩ := hf_grp hc
    obtain ⟨hf0, hml, φ, H, hms⟩ := hom_of hg hh hc
    by_cases hc2 : (hfault m ys m ys ns).1 = 0
    · obtain ⟨hf2, hnl, ψ, H2, hns⟩ := hom_of hh hh hc2
      have hφ : ∀ a, a < n → ms[a]?.getD 0 = (φ a : Int) := fun a ha => by rw [hms]; simp [li, ha]
      have hψ : ∀ a, a < m → ns[a]?.getD 0 = (ψ a : Int) := fun a ha => by rw [hns]; simp [li, ha]
      have H3 : IsHom n zs m ys (fun a => ψ (φ a)) := ⟨fun a ha => H2.lt _ (H.lt a ha), fun a b ha hb => by rw [H.mul a b ha hb, H2.mul _ _ (H.lt a ha) (H.lt b hb)]⟩
      obtain ⟨cs, hcs⟩ : ∃ cs, cs = li ((List.range n).map fun a => ψ (φ a)) := ⟨_, rfl⟩
      have hcg : ∀ a, a < n → cs[a]?.getD 0 = (ψ (φ a) : Int) := fun a ha => by rw [hcs]; simp [li, ha]
      have hcl : cs.length = n := by rw [hcs]; simp [li]
      have hf3 : hfault n zs m ys cs = (0, 0) := of_hom hg hh H3 hcl hcg
      have hn6 := hg.tab.le
      have hth : (ms.map fun x => ns[x.toNat]?.getD 0) = cs := by
        rw [hms, hcs]
        simp only [li, List.map_map]
        refine List.map_congr_left fun a ha => ?_
        have ha := List.mem_range.1 ha
        simp only [Function.comp, Int.toNat_natCast]
        exact hψ _ (H.lt a ha)
      refine hcomp_good n m v1 v2 v3 y1 y2 y3 mv nv cs (lst n (kerq ms d)) (lst n (kerq cs d)) (lst m (fun a => decide (a ∈ (List.range m).map ψ))) (lst m (fun a => decide (a ∈ (List.range n).map fun a => ψ (φ a)))) w hT (all_li fun a ha => ?_) (all_li fun b hb => ?_)
        (hide fun W h => ?_) (hide fun W h => ?_) (hide fun W h => rhom_good n e m d (.slice v1 v2 v3) (.slice y1 y2 y3) mv zs ys ms φ W (hv.below h) hg (hy.below h) hh (hm.below h) hml H hφ) (hide fun W h => rhom_good m d m d (.slice y1 y2 y3) (.slice y1 y2 y3) nv ys ys ns ψ W (hy.below h) hh (hy.below h) hh (hn.below h) hnl H2 hψ)
        (hide fun W h => ?_) (hide fun W h => kernel_good n e m d (.slice v1 v2 v3) (.slice y1 y2 y3) mv zs ys ms W (hv.below h) hg (hy.below h) hh (hm.below h) (hT.below h) hf0)
        (hide fun W cv h hcv => kernel_good n e m d (.slice v1 v2 v3) (.slice y1 y2 y3) cv zs ys cs W (hv.below h) hg (hy.below h) hh hcv (hT.below h) hf3)
        (hide fun W h => img_map ys ys ns (.slice y1 y2 y3) (.slice y1 y2 y3) nv d d (hy.below h) hh (hy.below h) hh (hn.below h) (hT.below h) H2 hns hf2)
        (hide fun W cv h hcv => img_map zs ys cs (.slice v1 v2 v3) (.slice y1 y2 y3) cv e d (hv.below h) hg (hy.below h) hh hcv (hT.below h) H3 hcs hf3)
        (hide fun W cv h hcv => ?_)
      · obtain ⟨ha1, ha2⟩ := mem_lst.1 ha
        refine mem_lst.2 ⟨ha1, ?_⟩
        have h1 : ms[a]?.getD 0 = (d : Int) := by unfold kerq at ha2; exact of_decide_eq_true ha2
        rw [hφ a ha1] at h1
        have h2 : φ a = d := by omega
        unfold kerq
        rw [hcg a ha1, h2, IsHom.one hh hh H2]
        simp
      · obtain ⟨hb1, hb2⟩ := mem_lst.1 hb
        refine mem_lst.2 ⟨hb1, ?_⟩
        obtain ⟨a, ha, he⟩ := List.mem_map.1 (of_decide_eq_true hb2)
        exact decide_eq_true (List.mem_map.2 ⟨φ a, List.mem_range.2 (H.lt a (List.mem_range.1 ha)), he⟩)
      · have h9 := hcheck_ok n m (.slice v1 v2 v3) (.slice y1 y2 y3) mv zs ys ms W (hv.below h) (hy.below h) (hm.below h)
        rw [hf0] at h9
        exact h9
      · have h9 := hcheck_ok m m (.slice y1 y2 y3) (.slice y1 y2 y3) nv ys ys ns W (hy.below h) (hy.below h) (hn.below h)
        rw [hf2] at h9
        exact h9
      · refine (then_ok mv nv ms ns W (hm.below h) (hn.below h) (fun k hk => ⟨φ k, hφ k (by omega), by rw [hnl]; exact H.lt k (by omega)⟩) (by omega)).mono ?_
        rintro x w' ⟨r, rfl, hr, hb⟩
        rw [hth] at hr
        have hs := row_sl hr (Nat.lt_of_lt_of_le (Nat.lt_of_lt_of_le hT.lt h.size) hb.size)
        obtain ⟨r1, r2, r3, rfl⟩ := hs.isSlice
        exact ⟨r1, r2, r3, rfl, hs, hb⟩
      · have h9 := hcheck_ok n m (.slice v1 v2 v3) (.slice y1 y2 y3) cv zs ys cs W (hv.below h) (hy.below h) hcv
        rw [hf3] at h9
        exact h9
    · refine hcomp_bad2 n m _ _ v1 v2 v3 y1 y2 y3 mv nv w hT hc2 (hide fun W h => ?_) (hide fun W h => hcheck_ok m m (.slice y1 y2 y3) (.slice y1 y2 y3) nv ys ys ns W (hy.below h) (hy.below h) (hn.below h))
      have h9 := hcheck_ok n m (.slice v1 v2 v3) (.slice y1 y2 y3) mv zs ys ms W (hv.below h) (hy.below h) (hm.below h)
      rw [hf0] at h9
      exact h9
  · exact hcomp_bad1 N M _ _ v1 v2 v3 y1 y2 y3 mv nv w hT hc (hide fun W h => hcheck_ok N M (.slice v1 v2 v3) (.slice y1 y2 y3) mv zs ys ms W (hv.below h) (hy.below h) (hm.below h))
end Go.Proofs.YtodabkjadejekaaDoor
