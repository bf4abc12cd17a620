/- The law FreeCommutes: words commute just where their roots are the same, or opposite. -/
import Derived.Test.YtakmfhnigpmngaaFq
namespace Go.Proofs.Ytakmfhnigpmngaa
open Go Go.RowKit

theorem root_len {r a : List Int} {k : Nat} (h : RootOf r a k) : a.length ≤ r.length := by
  obtain ⟨A, p, hc, hp, hk, rfl⟩ := h
  have h1 := core_len hc
  rw [pw_len] at h1
  have h2 := red_len (A ++ (p ++ wi A))
  simp [wi_length] at h2
  have h3 : p.length ≤ k * p.length := Nat.le_mul_of_pos_left _ hk
  omega
theorem root_lt {r a : List Int} {k : Nat} (h : RootOf r a k) (hl : Lt r) : Lt a := by
  obtain ⟨A, p, hc, hp, hk, rfl⟩ := h
  obtain ⟨h1, h2⟩ := core_lt hc hl
  have h3 : Lt p := fun x hx => h1 x (by
    obtain ⟨j, rfl⟩ : ∃ j, k = j + 1 := ⟨k - 1, by omega⟩
    rw [pw_succ]; simp [hx])
  exact (h2.append (h3.append h2.wi)).red
theorem comm_one {v w : List Int} (h : red v = []) : red (v ++ w) = red (w ++ v) := by
  have h1 : Eqv (v ++ w) ([] ++ w) := Eqv.right w h
  have h2 : Eqv (w ++ v) (w ++ []) := Eqv.left w h
  have h3 : red (v ++ w) = red w := h1
  have h4 : red (w ++ v) = red (w ++ []) := h2
  rw [h3, h4, List.append_nil]
theorem ints_false (u v : Value) (xs ys : List Int) (w : World) (hu : Sl w u xs) (hv : Sl w v ys) (h : xs ≠ ys) :
    Calls Try.prog 20 #[u, v] w fun e w' => e = .returned (.bool false) ∧ Below w.heap.size w w' := by
  have := ints_any u v xs ys w hu hv
  rw [decide_eq_false h] at this; exact this
theorem root_any (v : Value) (zs : List Int) (w : World) (hv : Sl w v zs) (hw : Wd zs) :
    Calls Try.prog 32 #[v] w fun e w' => ∃ r k c, e = .returned (.tuple #[r, .int .i64 k, .agg #[.int .i64 c, .int .i64 0]]) ∧ Below w.heap.size w w' := by
  by_cases h : red zs = []
  · refine (root_one_good v zs w hv hw h).mono ?_
    rintro e w' ⟨rfl, hb⟩
    exact ⟨_, _, _, rfl, hb⟩
  · refine (root_good_good v zs w hv hw h).mono ?_
    rintro e w' ⟨⟨r, b, k, rfl, _⟩, hb⟩
    exact ⟨_, _, _, rfl, hb⟩

set_option maxRecDepth 100000 in
set_option maxHeartbeats 4000000 in
theorem comm_long (v : Value) (u : Value) (vs : List Int) (us : List Int) (w : World) (hv : SlA w v vs) (hu : SlA w u us) (hl : 1900 < vs.length + us.length) (hb1 : vs.length ≤ 17592186044416) (hb2 : us.length ≤ 17592186044416) :
    Calls Try.prog 9 #[v, u] w fun e w' => e = .returned (.bool true) ∧ Below w.heap.size w w' := by
  have hl1 : (1900 : Int) < (vs.length : Int) + (us.length : Int) := by omega
  obtain ⟨va, vc, hve⟩ := hv.shape
  obtain ⟨ua, uc, hue⟩ := hu.shape
  subst hve hue
  have HV := hide hv
  have HU := hide hu
  clear hv hu
  go_enter Try.func9, Try.ntmps9
  go_wp2_with fail
  refine (freeBegun_any w).mono ?_
  rintro x w1 ⟨rfl, hB, h01⟩
  have hge := hB.size
  have hsv := HV.out.up hB h01
  have hsu := HU.out.up hB h01
  clear HV HU
  go_wp2
  go_ret
  exact ⟨rfl, hB⟩

set_option maxRecDepth 100000 in
set_option maxHeartbeats 4000000 in
theorem comm_bad (v : Value) (u : Value) (vs : List Int) (us : List Int) (w : World) (hv : SlA w v vs) (hu : SlA w u us) (hl : vs.length + us.length ≤ 1900) (h : wsc [vs, us] ≠ 0) :
    Calls Try.prog 9 #[v, u] w fun e w' => e = .returned (.bool true) ∧ Below w.heap.size w w' := by
  have hl1 : (vs.length : Int) + (us.length : Int) ≤ 1900 := by omega
  have hl2 : ¬ ((1900 : Int) < (vs.length : Int) + (us.length : Int)) := by omega
  obtain ⟨va, vc, hve⟩ := hv.shape
  obtain ⟨ua, uc, hue⟩ := hu.shape
  subst hve hue
  have HV := hide hv
  have HU := hide hu
  clear hv hu
  go_enter Try.func9, Try.ntmps9
  go_wp2_with fail
  refine (freeBegun_any w).mono ?_
  rintro x w1 ⟨rfl, hB, h01⟩
  have hge := hB.size
  have hsv := HV.out.up hB h01
  have hsu := HU.out.up hB h01
  clear HV HU
  go_wp2_with fail
  refine (commute_bad _ _ vs us w1 hsv hsu h).mono ?_
  rintro x w2 ⟨rfl, hb2⟩
  replace hsv := hsv.below hb2
  replace hsu := hsu.below hb2
  replace hB := bcat hB hb2 hge
  replace hge := hB.size
  have hcb : (wsc [vs, us] != 0) = true := by simpa using h
  have hcb2 : (wsc [vs, us] == 0) = false := by simpa using h
  generalize wsc [vs, us] = c at *
  generalize wsa [vs, us] = d at *
  have hb3 : Below w2.heap.size w2 (w2.alloc (.cells #[.int .i64 c, .int .i64 d] 26)) := balloc w2 _
  replace hsv := hsv.below hb3
  replace hsu := hsu.below hb3
  replace hB := bcat hB hb3 hge
  replace hge := hB.size
  have bx : Blk (w2.alloc (.cells #[.int .i64 c, .int .i64 d] 26)) w2.heap.size 26 [.int .i64 c, .int .i64 d] := blk0 _ _
  obtain ⟨bx4a, bx4b, bx4c, bx4d⟩ := bx.two
  go_wp2
  clear bx4a bx4b bx4c bx4d
  go_ret
  exact ⟨rfl, hB⟩

set_option maxRecDepth 100000 in
set_option maxHeartbeats 4000000 in
theorem comm_one1 (v : Value) (u : Value) (vs : List Int) (us : List Int) (w : World) (hv : SlA w v vs) (hu : SlA w u us) (hl : vs.length + us.length ≤ 1900) (h : wsc [vs, us] = 0) (h1 : red vs = []) :
    Calls Try.prog 9 #[v, u] w fun e w' => e = .returned (.bool true) ∧ Below w.heap.size w w' := by
  have hl1 : (vs.length : Int) + (us.length : Int) ≤ 1900 := by omega
  have hl2 : ¬ ((1900 : Int) < (vs.length : Int) + (us.length : Int)) := by omega
  have HWV := hide (wsc_all h vs (by simp))
  have HWU := hide (wsc_all h us (by simp))
  clear h
  have HV := hide h1
  have HCO := hide (comm_one (w := us) h1)
  clear h1
  obtain ⟨va, vc, hve⟩ := hv.shape
  obtain ⟨ua, uc, hue⟩ := hu.shape
  subst hve hue
  have HVV := hide hv
  have HU := hide hu
  clear hv hu
  go_enter Try.func9, Try.ntmps9
  go_wp2_with fail
  refine (freeBegun_any w).mono ?_
  rintro x w1 ⟨rfl, hB, h01⟩
  have hge := hB.size
  have hsv := HVV.out.up hB h01
  have hsu := HU.out.up hB h01
  clear HVV HU
  go_wp2_with fail
  refine (commute_good _ _ vs us w1 hsv hsu HWV.out HWU.out).mono ?_
  rintro x w2 ⟨rfl, hb2⟩
  replace hsv := hsv.below hb2
  replace hsu := hsu.below hb2
  replace hB := bcat hB hb2 hge
  replace hge := hB.size
  rw [decide_eq_true HCO.out]
  have hb3 : Below w2.heap.size w2 (w2.alloc (.cells #[.int .i64 0, .int .i64 0] 26)) := balloc w2 _
  replace hsv := hsv.below hb3
  replace hsu := hsu.below hb3
  replace hB := bcat hB hb3 hge
  replace hge := hB.size
  have bx : Two (w2.alloc (.cells #[.int .i64 0, .int .i64 0] 26)) w2.heap.size := Two.new w2
  obtain ⟨_, bx4a, bx4b, bx4c, bx4d, bx4e, bx4f⟩ := id bx
  go_wp2_with fail
  clear bx4a bx4b bx4c bx4d bx4e bx4f
  refine (root_one_good _ vs _ hsv HWV.out HV.out).mono ?_
  rintro x w5 ⟨rfl, hb5⟩
  replace hsv := hsv.below hb5
  replace hsu := hsu.below hb5
  replace bx := Two.below bx hb5
  replace hB := bcat hB hb5 hge
  replace hge := hB.size
  have hb6 : Below w5.heap.size w5 (w5.alloc (.cells #[.int .i64 6, .int .i64 0] 26)) := balloc w5 _
  replace hsv := hsv.below hb6
  replace hsu := hsu.below hb6
  replace bx := Two.below bx hb6
  replace hB := bcat hB hb6 hge
  replace hge := hB.size
  have bq : Blk (w5.alloc (.cells #[.int .i64 6, .int .i64 0] 26)) w5.heap.size 26 [.int .i64 6, .int .i64 0] := blk0 _ _
  obtain ⟨_, bx7a, bx7b, bx7c, bx7d, bx7e, bx7f⟩ := id bx
  obtain ⟨bq7a, bq7b, bq7c, bq7d⟩ := bq.two
  go_wp2_with fail
  clear bx7a bx7b bx7c bx7d bx7e bx7f bq7a bq7b bq7c bq7d
  refine (root_any _ us _ hsu HWU.out).mono ?_
  rintro x w8 ⟨r, k, c, rfl, hb8⟩
  replace hsv := hsv.below hb8
  replace hsu := hsu.below hb8
  replace bx := Two.below bx hb8
  replace bq : Blk (w8) w5.heap.size 26 [.int .i64 6, .int .i64 0] := Blk.of_eq bq (hb8.block _ bq.lt)
  replace hB := bcat hB hb8 hge
  replace hge := hB.size
  have hb9 : Below w8.heap.size w8 (w8.alloc (.cells #[.int .i64 c, .int .i64 0] 26)) := balloc w8 _
  replace hsv := hsv.below hb9
  replace hsu := hsu.below hb9
  replace bx := Two.below bx hb9
  replace bq : Blk (w8.alloc (.cells #[.int .i64 c, .int .i64 0] 26)) w5.heap.size 26 [.int .i64 6, .int .i64 0] := Blk.of_eq bq (hb9.block _ bq.lt)
  replace hB := bcat hB hb9 hge
  replace hge := hB.size
  have bz : Blk (w8.alloc (.cells #[.int .i64 c, .int .i64 0] 26)) w8.heap.size 26 [.int .i64 c, .int .i64 0] := blk0 _ _
  obtain ⟨_, bx10a, bx10b, bx10c, bx10d, bx10e, bx10f⟩ := id bx
  obtain ⟨bq10a, bq10b, bq10c, bq10d⟩ := bq.two
  obtain ⟨bz10a, bz10b, bz10c, bz10d⟩ := bz.two
  go_wp2
  clear bx10a bx10b bx10c bx10d bx10e bx10f bq10a bq10b bq10c bq10d bz10a bz10b bz10c bz10d
  go_ret
  exact ⟨rfl, hB⟩

set_option maxRecDepth 100000 in
set_option maxHeartbeats 4000000 in
theorem comm_one2 (v : Value) (u : Value) (vs : List Int) (us : List Int) (w : World) (hv : SlA w v vs) (hu : SlA w u us) (hl : vs.length + us.length ≤ 1900) (h : wsc [vs, us] = 0) (h1 : red vs ≠ []) (h2 : red us = []) :
    Calls Try.prog 9 #[v, u] w fun e w' => e = .returned (.bool true) ∧ Below w.heap.size w w' := by
  have hl1 : (vs.length : Int) + (us.length : Int) ≤ 1900 := by omega
  have hl2 : ¬ ((1900 : Int) < (vs.length : Int) + (us.length : Int)) := by omega
  have HWV := hide (wsc_all h vs (by simp))
  have HWU := hide (wsc_all h us (by simp))
  clear h
  have HRV := hide h1
  have HRU := hide h2
  have HCO := hide (comm_one (w := vs) h2).symm
  clear h1 h2
  obtain ⟨va, vc, hve⟩ := hv.shape
  obtain ⟨ua, uc, hue⟩ := hu.shape
  subst hve hue
  have HV := hide hv
  have HU := hide hu
  clear hv hu
  go_enter Try.func9, Try.ntmps9
  go_wp2_with fail
  refine (freeBegun_any w).mono ?_
  rintro x w1 ⟨rfl, hB, h01⟩
  have hge := hB.size
  have hsv := HV.out.up hB h01
  have hsu := HU.out.up hB h01
  clear HV HU
  go_wp2_with fail
  refine (commute_good _ _ vs us w1 hsv hsu HWV.out HWU.out).mono ?_
  rintro x w2 ⟨rfl, hb2⟩
  replace hsv := hsv.below hb2
  replace hsu := hsu.below hb2
  replace hB := bcat hB hb2 hge
  replace hge := hB.size
  rw [decide_eq_true HCO.out]
  have hb3 : Below w2.heap.size w2 (w2.alloc (.cells #[.int .i64 0, .int .i64 0] 26)) := balloc w2 _
  replace hsv := hsv.below hb3
  replace hsu := hsu.below hb3
  replace hB := bcat hB hb3 hge
  replace hge := hB.size
  have bx : Two (w2.alloc (.cells #[.int .i64 0, .int .i64 0] 26)) w2.heap.size := Two.new w2
  obtain ⟨_, bx4a, bx4b, bx4c, bx4d, bx4e, bx4f⟩ := id bx
  go_wp2_with fail
  clear bx4a bx4b bx4c bx4d bx4e bx4f
  refine (root_good_good _ vs _ hsv HWV.out HRV.out).mono ?_
  rintro x w5 ⟨⟨r, b, k, rfl, _, _, _⟩, hb5⟩
  replace hsv := hsv.below hb5
  replace hsu := hsu.below hb5
  replace bx := Two.below bx hb5
  replace hB := bcat hB hb5 hge
  replace hge := hB.size
  have hb6 : Below w5.heap.size w5 (w5.alloc (.cells #[.int .i64 0, .int .i64 0] 26)) := balloc w5 _
  replace hsv := hsv.below hb6
  replace hsu := hsu.below hb6
  replace bx := Two.below bx hb6
  replace hB := bcat hB hb6 hge
  replace hge := hB.size
  have bq : Two (w5.alloc (.cells #[.int .i64 0, .int .i64 0] 26)) w5.heap.size := Two.new w5
  obtain ⟨_, bx7a, bx7b, bx7c, bx7d, bx7e, bx7f⟩ := id bx
  obtain ⟨_, bq7a, bq7b, bq7c, bq7d, bq7e, bq7f⟩ := id bq
  go_wp2_with fail
  clear bx7a bx7b bx7c bx7d bx7e bx7f bq7a bq7b bq7c bq7d bq7e bq7f
  refine (root_one_good _ us _ hsu HWU.out HRU.out).mono ?_
  rintro x w8 ⟨rfl, hb8⟩
  replace hsv := hsv.below hb8
  replace hsu := hsu.below hb8
  replace bx := Two.below bx hb8
  replace bq := Two.below bq hb8
  replace hB := bcat hB hb8 hge
  replace hge := hB.size
  have hb9 : Below w8.heap.size w8 (w8.alloc (.cells #[.int .i64 6, .int .i64 0] 26)) := balloc w8 _
  replace hsv := hsv.below hb9
  replace hsu := hsu.below hb9
  replace bx := Two.below bx hb9
  replace bq := Two.below bq hb9
  replace hB := bcat hB hb9 hge
  replace hge := hB.size
  have bz : Blk (w8.alloc (.cells #[.int .i64 6, .int .i64 0] 26)) w8.heap.size 26 [.int .i64 6, .int .i64 0] := blk0 _ _
  obtain ⟨_, bx10a, bx10b, bx10c, bx10d, bx10e, bx10f⟩ := id bx
  obtain ⟨_, bq10a, bq10b, bq10c, bq10d, bq10e, bq10f⟩ := id bq
  obtain ⟨bz10a, bz10b, bz10c, bz10d⟩ := bz.two
  go_wp2
  clear bx10a bx10b bx10c bx10d bx10e bx10f bq10a bq10b bq10c bq10d bq10e bq10f bz10a bz10b bz10c bz10d
  go_ret
  exact ⟨rfl, hB⟩

set_option maxRecDepth 100000 in
set_option maxHeartbeats 4000000 in
theorem comm_both (v : Value) (u : Value) (vs : List Int) (us : List Int) (w : World) (hv : SlA w v vs) (hu : SlA w u us) (hl : vs.length + us.length ≤ 1900) (h : wsc [vs, us] = 0) (h1 : red vs ≠ []) (h2 : red us ≠ []) :
    Calls Try.prog 9 #[v, u] w fun e w' => e = .returned (.bool true) ∧ Below w.heap.size w w' := by
  have hl1 : (vs.length : Int) + (us.length : Int) ≤ 1900 := by omega
  have hl2 : ¬ ((1900 : Int) < (vs.length : Int) + (us.length : Int)) := by omega
  have HWV := hide (wsc_all h vs (by simp))
  have HWU := hide (wsc_all h us (by simp))
  clear h
  have HRV := hide h1
  have HRU := hide h2
  clear h1 h2
  obtain ⟨va, vc, hve⟩ := hv.shape
  obtain ⟨ua, uc, hue⟩ := hu.shape
  subst hve hue
  have HV := hide hv
  have HU := hide hu
  clear hv hu
  go_enter Try.func9, Try.ntmps9
  go_wp2_with fail
  refine (freeBegun_any w).mono ?_
  rintro x w1 ⟨rfl, hB, h01⟩
  have hge := hB.size
  have hsv := HV.out.up hB h01
  have hsu := HU.out.up hB h01
  clear HV HU
  go_wp2_with fail
  refine (commute_good _ _ vs us w1 hsv hsu HWV.out HWU.out).mono ?_
  rintro x w2 ⟨rfl, hb2⟩
  replace hsv := hsv.below hb2
  replace hsu := hsu.below hb2
  replace hB := bcat hB hb2 hge
  replace hge := hB.size
  have hb3 : Below w2.heap.size w2 (w2.alloc (.cells #[.int .i64 0, .int .i64 0] 26)) := balloc w2 _
  replace hsv := hsv.below hb3
  replace hsu := hsu.below hb3
  replace hB := bcat hB hb3 hge
  replace hge := hB.size
  have bx : Two (w2.alloc (.cells #[.int .i64 0, .int .i64 0] 26)) w2.heap.size := Two.new w2
  obtain ⟨_, bx4a, bx4b, bx4c, bx4d, bx4e, bx4f⟩ := id bx
  go_wp2_with fail
  clear bx4a bx4b bx4c bx4d bx4e bx4f
  refine (root_good_good _ vs _ hsv HWV.out HRV.out).mono ?_
  rintro x w5 ⟨⟨r, a, k, rfl, hra, hrv, hk⟩, hb5⟩
  replace hsv := hsv.below hb5
  replace hsu := hsu.below hb5
  replace bx := Two.below bx hb5
  replace hB := bcat hB hb5 hge
  replace hge := hB.size
  have HA := hide hrv
  clear hrv
  have h0p : 0 < w5.heap.size := hsv.pos
  have hsp := hra.sl h0p
  obtain ⟨p1, p2, rfl⟩ := hra.slice
  clear hra
  have hb6 : Below w5.heap.size w5 (w5.alloc (.cells #[.int .i64 0, .int .i64 0] 26)) := balloc w5 _
  replace hsv := hsv.below hb6
  replace hsu := hsu.below hb6
  replace hsp := hsp.below hb6
  replace bx := Two.below bx hb6
  replace hB := bcat hB hb6 hge
  replace hge := hB.size
  have bq : Two (w5.alloc (.cells #[.int .i64 0, .int .i64 0] 26)) w5.heap.size := Two.new w5
  obtain ⟨_, bx7a, bx7b, bx7c, bx7d, bx7e, bx7f⟩ := id bx
  obtain ⟨_, bq7a, bq7b, bq7c, bq7d, bq7e, bq7f⟩ := id bq
  go_wp2_with fail
  clear bx7a bx7b bx7c bx7d bx7e bx7f bq7a bq7b bq7c bq7d bq7e bq7f
  refine (root_good_good _ us _ hsu HWU.out HRU.out).mono ?_
  rintro x w8 ⟨⟨r2, b, m, rfl, hrb, hru, hm⟩, hb8⟩
  replace hsv := hsv.below hb8
  replace hsu := hsu.below hb8
  replace hsp := hsp.below hb8
  replace bx := Two.below bx hb8
  replace bq := Two.below bq hb8
  replace hB := bcat hB hb8 hge
  replace hge := hB.size
  have HCI := hide (commute_iff HA.out hru)
  have HWB := hide (Wd.of (root_lt hru HWU.out.lt.red) (by have h8 := root_len hru; have h9 := red_len us; omega))
  clear hru
  have h0q : 0 < w8.heap.size := hsv.pos
  have hsq := hrb.sl h0q
  obtain ⟨q1, q2, rfl⟩ := hrb.slice
  clear hrb
  have hb9 : Below w8.heap.size w8 (w8.alloc (.cells #[.int .i64 0, .int .i64 0] 26)) := balloc w8 _
  replace hsv := hsv.below hb9
  replace hsu := hsu.below hb9
  replace hsp := hsp.below hb9
  replace hsq := hsq.below hb9
  replace bx := Two.below bx hb9
  replace bq := Two.below bq hb9
  replace hB := bcat hB hb9 hge
  replace hge := hB.size
  have bz : Two (w8.alloc (.cells #[.int .i64 0, .int .i64 0] 26)) w8.heap.size := Two.new w8
  obtain ⟨_, bx10a, bx10b, bx10c, bx10d, bx10e, bx10f⟩ := id bx
  obtain ⟨_, bq10a, bq10b, bq10c, bq10d, bq10e, bq10f⟩ := id bq
  obtain ⟨_, bz10a, bz10b, bz10c, bz10d, bz10e, bz10f⟩ := id bz
  go_wp2_with fail
  clear bx10a bx10b bx10c bx10d bx10e bx10f bq10a bq10b bq10c bq10d bq10e bq10f bz10a bz10b bz10c bz10d bz10e bz10f
  refine (inv_good _ b _ hsq HWB.out).mono ?_
  rintro x w11 ⟨⟨ri, rfl, hri⟩, hb11⟩
  replace hsv := hsv.below hb11
  replace hsu := hsu.below hb11
  replace hsp := hsp.below hb11
  replace hsq := hsq.below hb11
  replace bx := Two.below bx hb11
  replace bq := Two.below bq hb11
  replace bz := Two.below bz hb11
  replace hB := bcat hB hb11 hge
  replace hge := hB.size
  have h0i : 0 < w11.heap.size := hsv.pos
  have hsi := hri.sl h0i
  obtain ⟨i1, i2, rfl⟩ := hri.slice
  clear hri
  by_cases hab : a = b
  · rw [decide_eq_true (HCI.out.2 (.inl hab))]
    have HE := hide hab
    clear hab HCI
    obtain ⟨_, bx12a, bx12b, bx12c, bx12d, bx12e, bx12f⟩ := id bx
    obtain ⟨_, bq12a, bq12b, bq12c, bq12d, bq12e, bq12f⟩ := id bq
    obtain ⟨_, bz12a, bz12b, bz12c, bz12d, bz12e, bz12f⟩ := id bz
    go_wp2_with fail
    clear bx12a bx12b bx12c bx12d bx12e bx12f bq12a bq12b bq12c bq12d bq12e bq12f bz12a bz12b bz12c bz12d bz12e bz12f
    refine (ints_true _ _ _ _ _ hsp hsq HE.out).mono ?_
    rintro x w13 ⟨rfl, hb13⟩
    replace hsv := hsv.below hb13
    replace hsu := hsu.below hb13
    replace hsp := hsp.below hb13
    replace hsq := hsq.below hb13
    replace hsi := hsi.below hb13
    replace bx := Two.below bx hb13
    replace bq := Two.below bq hb13
    replace bz := Two.below bz hb13
    replace hB := bcat hB hb13 hge
    replace hge := hB.size
    obtain ⟨_, bx14a, bx14b, bx14c, bx14d, bx14e, bx14f⟩ := id bx
    obtain ⟨_, bq14a, bq14b, bq14c, bq14d, bq14e, bq14f⟩ := id bq
    obtain ⟨_, bz14a, bz14b, bz14c, bz14d, bz14e, bz14f⟩ := id bz
    go_wp2
    clear bx14a bx14b bx14c bx14d bx14e bx14f bq14a bq14b bq14c bq14d bq14e bq14f bz14a bz14b bz14c bz14d bz14e bz14f
    go_ret
    exact ⟨rfl, hB⟩
  · by_cases hac : a = red (wi b)
    · rw [decide_eq_true (HCI.out.2 (.inr hac))]
      have HE := hide hac
      have HN := hide hab
      clear hac hab HCI
      obtain ⟨_, bx12a, bx12b, bx12c, bx12d, bx12e, bx12f⟩ := id bx
      obtain ⟨_, bq12a, bq12b, bq12c, bq12d, bq12e, bq12f⟩ := id bq
      obtain ⟨_, bz12a, bz12b, bz12c, bz12d, bz12e, bz12f⟩ := id bz
      go_wp2_with fail
      clear bx12a bx12b bx12c bx12d bx12e bx12f bq12a bq12b bq12c bq12d bq12e bq12f bz12a bz12b bz12c bz12d bz12e bz12f
      refine (ints_false _ _ _ _ _ hsp hsq HN.out).mono ?_
      rintro x w13 ⟨rfl, hb13⟩
      replace hsv := hsv.below hb13
      replace hsu := hsu.below hb13
      replace hsp := hsp.below hb13
      replace hsq := hsq.below hb13
      replace hsi := hsi.below hb13
      replace bx := Two.below bx hb13
      replace bq := Two.below bq hb13
      replace bz := Two.below bz hb13
      replace hB := bcat hB hb13 hge
      replace hge := hB.size
      obtain ⟨_, bx14a, bx14b, bx14c, bx14d, bx14e, bx14f⟩ := id bx
      obtain ⟨_, bq14a, bq14b, bq14c, bq14d, bq14e, bq14f⟩ := id bq
      obtain ⟨_, bz14a, bz14b, bz14c, bz14d, bz14e, bz14f⟩ := id bz
      go_wp2_with fail
      clear bx14a bx14b bx14c bx14d bx14e bx14f bq14a bq14b bq14c bq14d bq14e bq14f bz14a bz14b bz14c bz14d bz14e bz14f
      refine (ints_true _ _ _ _ _ hsp hsi HE.out).mono ?_
      rintro x w15 ⟨rfl, hb15⟩
      replace hsv := hsv.below hb15
      replace hsu := hsu.below hb15
      replace hsp := hsp.below hb15
      replace hsq := hsq.below hb15
      replace hsi := hsi.below hb15
      replace bx := Two.below bx hb15
      replace bq := Two.below bq hb15
      replace bz := Two.below bz hb15
      replace hB := bcat hB hb15 hge
      replace hge := hB.size
      obtain ⟨_, bx16a, bx16b, bx16c, bx16d, bx16e, bx16f⟩ := id bx
      obtain ⟨_, bq16a, bq16b, bq16c, bq16d, bq16e, bq16f⟩ := id bq
      obtain ⟨_, bz16a, bz16b, bz16c, bz16d, bz16e, bz16f⟩ := id bz
      go_wp2
      clear bx16a bx16b bx16c bx16d bx16e bx16f bq16a bq16b bq16c bq16d bq16e bq16f bz16a bz16b bz16c bz16d bz16e bz16f
      go_ret
      exact ⟨rfl, hB⟩
    · rw [decide_eq_false (fun h9 => (HCI.out.1 h9).elim hab hac)]
      have HE := hide hac
      have HN := hide hab
      clear hac hab HCI
      obtain ⟨_, bx12a, bx12b, bx12c, bx12d, bx12e, bx12f⟩ := id bx
      obtain ⟨_, bq12a, bq12b, bq12c, bq12d, bq12e, bq12f⟩ := id bq
      obtain ⟨_, bz12a, bz12b, bz12c, bz12d, bz12e, bz12f⟩ := id bz
      go_wp2_with fail
      clear bx12a bx12b bx12c bx12d bx12e bx12f bq12a bq12b bq12c bq12d bq12e bq12f bz12a bz12b bz12c bz12d bz12e bz12f
      refine (ints_false _ _ _ _ _ hsp hsq HN.out).mono ?_
      rintro x w13 ⟨rfl, hb13⟩
      replace hsv := hsv.below hb13
      replace hsu := hsu.below hb13
      replace hsp := hsp.below hb13
      replace hsq := hsq.below hb13
      replace hsi := hsi.below hb13
      replace bx := Two.below bx hb13
      replace bq := Two.below bq hb13
      replace bz := Two.below bz hb13
      replace hB := bcat hB hb13 hge
      replace hge := hB.size
      obtain ⟨_, bx14a, bx14b, bx14c, bx14d, bx14e, bx14f⟩ := id bx
      obtain ⟨_, bq14a, bq14b, bq14c, bq14d, bq14e, bq14f⟩ := id bq
      obtain ⟨_, bz14a, bz14b, bz14c, bz14d, bz14e, bz14f⟩ := id bz
      go_wp2_with fail
      clear bx14a bx14b bx14c bx14d bx14e bx14f bq14a bq14b bq14c bq14d bq14e bq14f bz14a bz14b bz14c bz14d bz14e bz14f
      refine (ints_false _ _ _ _ _ hsp hsi HE.out).mono ?_
      rintro x w15 ⟨rfl, hb15⟩
      replace hsv := hsv.below hb15
      replace hsu := hsu.below hb15
      replace hsp := hsp.below hb15
      replace hsq := hsq.below hb15
      replace hsi := hsi.below hb15
      replace bx := Two.below bx hb15
      replace bq := Two.below bq hb15
      replace bz := Two.below bz hb15
      replace hB := bcat hB hb15 hge
      replace hge := hB.size
      obtain ⟨_, bx16a, bx16b, bx16c, bx16d, bx16e, bx16f⟩ := id bx
      obtain ⟨_, bq16a, bq16b, bq16c, bq16d, bq16e, bq16f⟩ := id bq
      obtain ⟨_, bz16a, bz16b, bz16c, bz16d, bz16e, bz16f⟩ := id bz
      go_wp2
      clear bx16a bx16b bx16c bx16d bx16e bx16f bq16a bq16b bq16c bq16d bq16e bq16f bz16a bz16b bz16c bz16d bz16e bz16f
      go_ret
      exact ⟨rfl, hB⟩

theorem commutes_law (v u : Value) (vs us : List Int) (w : World) (hv : SlA w v vs) (hu : SlA w u us) (hb1 : vs.length ≤ 17592186044416) (hb2 : us.length ≤ 17592186044416) :
    Calls Try.prog 9 #[v, u] w fun e w' => e = .returned (.bool true) ∧ Below w.heap.size w w' := by
  by_cases hl : vs.length + us.length ≤ 1900
  · by_cases h : wsc [vs, us] = 0
    · by_cases h1 : red vs = []
      · exact comm_one1 v u vs us w hv hu hl h h1
      · by_cases h2 : red us = []
        · exact comm_one2 v u vs us w hv hu hl h h1 h2
        · exact comm_both v u vs us w hv hu hl h h1 h2
    · exact comm_bad v u vs us w hv hu hl h
  · exact comm_long v u vs us w hv hu (by omega) hb1 hb2

end Go.Proofs.Ytakmfhnigpmngaa
