/- The law FreeCores. -/
import Derived.Test.YtakmfhnigpmngaaFq
namespace Go.Proofs.Ytakmfhnigpmngaa
open Go Go.RowKit

theorem own_row (u : Value) (zs : List Int) (w : World) (hu : Sl w u zs) (hb : zs.length ≤ 1000000) :
    Calls Try.prog 12 #[u] w fun e w' => ∃ r, e = .returned r ∧ Row w' w.heap.size r zs ∧ Below w.heap.size w w' := own_any u zs w hu (by omega)

set_option maxRecDepth 100000 in
set_option maxHeartbeats 4000000 in
theorem cores_long (v : Value) (zs : List Int) (w : World) (hv : SlA w v zs) (hl : 5000 < zs.length) (hb : zs.length ≤ 17592186044416) :
    Calls Try.prog 4 #[v] w fun e w' => e = .returned (.bool true) ∧ Below w.heap.size w w' := by
  have hl1 : (5000 : Int) < (zs.length : Int) := by omega
  obtain ⟨va, vc, hve⟩ := hv.shape
  subst hve
  have HV := hide hv
  clear hv
  go_enter Try.func4, Try.ntmps4
  go_wp2_with fail
  refine (freeBegun_any w).mono ?_
  rintro x w1 ⟨rfl, hB, h01⟩
  have hge := hB.size
  have hsv := HV.out.up hB h01
  clear HV
  go_wp2
  go_ret
  exact ⟨rfl, hB⟩

set_option maxRecDepth 100000 in
set_option maxHeartbeats 4000000 in
theorem cores_bad (v : Value) (zs : List Int) (w : World) (hv : SlA w v zs) (hl : zs.length ≤ 5000) (h : wsc [zs] ≠ 0) :
    Calls Try.prog 4 #[v] w fun e w' => e = .returned (.bool true) ∧ Below w.heap.size w w' := by
  have hl1 : (zs.length : Int) ≤ 5000 := by omega
  have hl2 : ¬ ((5000 : Int) < (zs.length : Int)) := by omega
  obtain ⟨va, vc, hve⟩ := hv.shape
  subst hve
  have HV := hide hv
  clear hv
  go_enter Try.func4, Try.ntmps4
  go_wp2_with fail
  refine (freeBegun_any w).mono ?_
  rintro x w1 ⟨rfl, hB, h01⟩
  have hge := hB.size
  have hsv := HV.out.up hB h01
  clear HV
  go_wp2_with fail
  refine (own_row _ zs w1 hsv (by omega)).mono ?_
  rintro x w2 ⟨r, rfl, hr, hb2⟩
  replace hsv := hsv.below hb2
  replace hB := bcat hB hb2 hge
  replace hge := hB.size
  have h0r : 0 < w2.heap.size := hsv.pos
  have hsr := hr.sl h0r
  obtain ⟨r1, r2, rfl⟩ := hr.slice
  clear hr
  go_wp2_with fail
  refine (core_bad _ zs _ hsr h).mono ?_
  rintro x w4 ⟨rfl, hb4⟩
  replace hsv := hsv.below hb4
  replace hsr := hsr.below hb4
  replace hB := bcat hB hb4 hge
  replace hge := hB.size
  have e1 := (wsc_one zs).1
  have e2 := (wsc_one zs).2
  rw [e1, e2]
  rw [e1] at h
  clear e1 e2
  have hb5 : Below w4.heap.size w4 (w4.alloc (.cells #[.int .i64 (wfc zs), .int .i64 (wfa zs)] 26)) := balloc w4 _
  replace hsv := hsv.below hb5
  replace hsr := hsr.below hb5
  replace hB := bcat hB hb5 hge
  replace hge := hB.size
  have bx : Blk (w4.alloc (.cells #[.int .i64 (wfc zs), .int .i64 (wfa zs)] 26)) w4.heap.size 26 [.int .i64 (wfc zs), .int .i64 (wfa zs)] := blk0 _ _
  obtain ⟨bx6a, bx6b, bx6c, bx6d⟩ := bx.two
  go_wp2_with fail
  clear bx6a bx6b bx6c bx6d
  refine (wfault_any _ zs _ hsv).mono ?_
  rintro x w7 ⟨rfl, hb7⟩
  replace hsv := hsv.below hb7
  replace hsr := hsr.below hb7
  replace bx : Blk (w7) w4.heap.size 26 [.int .i64 (wfc zs), .int .i64 (wfa zs)] := Blk.of_eq bx (hb7.block _ bx.lt)
  replace hB := bcat hB hb7 hge
  replace hge := hB.size
  have hcb : (wfc zs != 0) = true := by simpa using h
  have hcb2 : (wfc zs == 0) = false := by simpa using h
  generalize wfc zs = c at *
  generalize wfa zs = d at *
  have hb8 : Below w7.heap.size w7 (w7.alloc (.cells #[.int .i64 c, .int .i64 d] 26)) := balloc w7 _
  replace hsv := hsv.below hb8
  replace hsr := hsr.below hb8
  replace bx : Blk (w7.alloc (.cells #[.int .i64 c, .int .i64 d] 26)) w4.heap.size 26 [.int .i64 c, .int .i64 d] := Blk.of_eq bx (hb8.block _ bx.lt)
  replace hB := bcat hB hb8 hge
  replace hge := hB.size
  have bq : Blk (w7.alloc (.cells #[.int .i64 c, .int .i64 d] 26)) w7.heap.size 26 [.int .i64 c, .int .i64 d] := blk0 _ _
  obtain ⟨bx9a, bx9b, bx9c, bx9d⟩ := bx.two
  obtain ⟨bq9a, bq9b, bq9c, bq9d⟩ := bq.two
  go_wp2
  clear bx9a bx9b bx9c bx9d bq9a bq9b bq9c bq9d
  go_ret
  exact ⟨rfl, hB⟩

set_option maxRecDepth 100000 in
set_option maxHeartbeats 4000000 in
theorem cores_good (v : Value) (zs : List Int) (w : World) (hv : SlA w v zs) (hl : zs.length ≤ 5000) (h : wsc [zs] = 0) :
    Calls Try.prog 4 #[v] w fun e w' => e = .returned (.bool true) ∧ Below w.heap.size w w' := by
  have hl1 : (zs.length : Int) ≤ 5000 := by omega
  have hl2 : ¬ ((5000 : Int) < (zs.length : Int)) := by omega
  have HWD := hide (wsc_all h zs (by simp))
  clear h
  obtain ⟨va, vc, hve⟩ := hv.shape
  subst hve
  have HV := hide hv
  clear hv
  go_enter Try.func4, Try.ntmps4
  go_wp2_with fail
  refine (freeBegun_any w).mono ?_
  rintro x w1 ⟨rfl, hB, h01⟩
  have hge := hB.size
  have hsv := HV.out.up hB h01
  clear HV
  go_wp2_with fail
  refine (own_row _ zs w1 hsv (by omega)).mono ?_
  rintro x w2 ⟨r, rfl, hr, hb2⟩
  replace hsv := hsv.below hb2
  replace hB := bcat hB hb2 hge
  replace hge := hB.size
  have h0r : 0 < w2.heap.size := hsv.pos
  have hsr := hr.sl h0r
  obtain ⟨r1, r2, rfl⟩ := hr.slice
  clear hr
  go_wp2_with fail
  refine (core_good _ zs _ hsr HWD.out).mono ?_
  rintro x w4 ⟨⟨rc, ra, c, a, rfl, hrc, hra, hcore⟩, hb4⟩
  replace hsv := hsv.below hb4
  replace hsr := hsr.below hb4
  replace hB := bcat hB hb4 hge
  replace hge := hB.size
  have HC := hide hcore
  clear hcore
  have h0p : 0 < w4.heap.size := hsv.pos
  have hsp := hrc.sl h0p
  obtain ⟨p1, p2, rfl⟩ := hrc.slice
  clear hrc
  have h0q : 0 < w4.heap.size := hsv.pos
  have hsq := hra.sl h0q
  obtain ⟨q1, q2, rfl⟩ := hra.slice
  clear hra
  have hb5 : Below w4.heap.size w4 (w4.alloc (.cells #[.int .i64 0, .int .i64 0] 26)) := balloc w4 _
  replace hsv := hsv.below hb5
  replace hsr := hsr.below hb5
  replace hsp := hsp.below hb5
  replace hsq := hsq.below hb5
  replace hB := bcat hB hb5 hge
  replace hge := hB.size
  have bx : Two (w4.alloc (.cells #[.int .i64 0, .int .i64 0] 26)) w4.heap.size := Two.new w4
  obtain ⟨_, bx6a, bx6b, bx6c, bx6d, bx6e, bx6f⟩ := id bx
  go_wp2_with fail
  clear bx6a bx6b bx6c bx6d bx6e bx6f
  refine (wfault_any _ zs _ hsv).mono ?_
  rintro x w7 ⟨rfl, hb7⟩
  replace hsv := hsv.below hb7
  replace hsr := hsr.below hb7
  replace hsp := hsp.below hb7
  replace hsq := hsq.below hb7
  replace bx := Two.below bx hb7
  replace hB := bcat hB hb7 hge
  replace hge := hB.size
  rw [HWD.out.code.1, HWD.out.code.2]
  have hb8 : Below w7.heap.size w7 (w7.alloc (.cells #[.int .i64 0, .int .i64 0] 26)) := balloc w7 _
  replace hsv := hsv.below hb8
  replace hsr := hsr.below hb8
  replace hsp := hsp.below hb8
  replace hsq := hsq.below hb8
  replace bx := Two.below bx hb8
  replace hB := bcat hB hb8 hge
  replace hge := hB.size
  have bq : Two (w7.alloc (.cells #[.int .i64 0, .int .i64 0] 26)) w7.heap.size := Two.new w7
  obtain ⟨_, bx9a, bx9b, bx9c, bx9d, bx9e, bx9f⟩ := id bx
  obtain ⟨_, bq9a, bq9b, bq9c, bq9d, bq9e, bq9f⟩ := id bq
  go_wp2_with fail
  clear bx9a bx9b bx9c bx9d bx9e bx9f bq9a bq9b bq9c bq9d bq9e bq9f
  refine (cored_ok _ zs _ hsv HWD.out.lt (by omega)).mono ?_
  rintro x w10 ⟨u1, u2, c2, a2, rfl, hs1, hs2, hcore, hb10⟩
  replace hsv := hsv.below hb10
  replace hsr := hsr.below hb10
  replace hsp := hsp.below hb10
  replace hsq := hsq.below hb10
  replace bx := Two.below bx hb10
  replace bq := Two.below bq hb10
  replace hB := bcat hB hb10 hge
  replace hge := hB.size
  obtain ⟨e1, e2⟩ := core_unique HC.out hcore
  have HE1 := hide e1
  have HE2 := hide e2
  clear e1 e2 hcore
  obtain ⟨u1a, u1c, _, _, hu1e, _⟩ := id hs1
  obtain ⟨u2a, u2c, _, _, hu2e, _⟩ := id hs2
  subst hu1e hu2e
  obtain ⟨_, bx11a, bx11b, bx11c, bx11d, bx11e, bx11f⟩ := id bx
  obtain ⟨_, bq11a, bq11b, bq11c, bq11d, bq11e, bq11f⟩ := id bq
  go_wp2_with fail
  clear bx11a bx11b bx11c bx11d bx11e bx11f bq11a bq11b bq11c bq11d bq11e bq11f
  refine (ints_true _ _ _ _ _ hsp hs1 HE1.out).mono ?_
  rintro x w12 ⟨rfl, hb12⟩
  replace hsv := hsv.below hb12
  replace hsr := hsr.below hb12
  replace hsp := hsp.below hb12
  replace hsq := hsq.below hb12
  replace hs1 := hs1.below hb12
  replace hs2 := hs2.below hb12
  replace bx := Two.below bx hb12
  replace bq := Two.below bq hb12
  replace hB := bcat hB hb12 hge
  replace hge := hB.size
  obtain ⟨_, bx13a, bx13b, bx13c, bx13d, bx13e, bx13f⟩ := id bx
  obtain ⟨_, bq13a, bq13b, bq13c, bq13d, bq13e, bq13f⟩ := id bq
  go_wp2_with fail
  clear bx13a bx13b bx13c bx13d bx13e bx13f bq13a bq13b bq13c bq13d bq13e bq13f
  refine (ints_true _ _ _ _ _ hsq hs2 HE2.out).mono ?_
  rintro x w14 ⟨rfl, hb14⟩
  replace hsv := hsv.below hb14
  replace hsr := hsr.below hb14
  replace hsp := hsp.below hb14
  replace hsq := hsq.below hb14
  replace hs1 := hs1.below hb14
  replace hs2 := hs2.below hb14
  replace bx := Two.below bx hb14
  replace bq := Two.below bq hb14
  replace hB := bcat hB hb14 hge
  replace hge := hB.size
  obtain ⟨_, bx15a, bx15b, bx15c, bx15d, bx15e, bx15f⟩ := id bx
  obtain ⟨_, bq15a, bq15b, bq15c, bq15d, bq15e, bq15f⟩ := id bq
  go_wp2
  clear bx15a bx15b bx15c bx15d bx15e bx15f bq15a bq15b bq15c bq15d bq15e bq15f
  go_ret
  exact ⟨rfl, hB⟩

theorem cores_law (v : Value) (zs : List Int) (w : World) (hv : SlA w v zs) (hb : zs.length ≤ 17592186044416) :
    Calls Try.prog 4 #[v] w fun e w' => e = .returned (.bool true) ∧ Below w.heap.size w w' := by
  by_cases hl : zs.length ≤ 5000
  · by_cases h : wsc [zs] = 0
    · exact cores_good v zs w hv hl h
    · exact cores_bad v zs w hv hl h
  · exact cores_long v zs w hv (by omega) hb

end Go.Proofs.Ytakmfhnigpmngaa
