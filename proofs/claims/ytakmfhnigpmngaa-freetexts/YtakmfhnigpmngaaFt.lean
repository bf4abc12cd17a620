/- The law FreeRoots. -/
import Derived.Test.YtakmfhnigpmngaaFs
import Derived.Test.YtakmfhnigpmngaaFw
namespace Go.Proofs.Ytakmfhnigpmngaa
open Go Go.RowKit

theorem root_num {r a A c : List Int} {k d : Nat} (h : RootOf r a k) (hc : IsCore r c A) (hd : PerOf c d) : k = c.length / d := by
  obtain ⟨A', p, hc', hp, hk, rfl⟩ := h
  obtain ⟨e, _⟩ := core_unique hc hc'
  have h1 := perOf_pw hk hp
  rw [← e] at h1
  have h2 := hd.unique h1
  rw [e, pw_len, h2, Nat.mul_div_cancel _ hp.pos]
theorem root_bound {r a : List Int} {k : Nat} (h : RootOf r a k) (hl : r.length ≤ 2000) : k * a.length ≤ 4000000 ∧ k ≤ 2000 := by
  have h1 := root_len h
  obtain ⟨A, p, hc, hp, hk, _⟩ := id h
  have h2 := core_len hc
  rw [pw_len] at h2
  have h3 : k ≤ k * p.length := Nat.le_mul_of_pos_right _ hp.pos
  have h4 : k ≤ 2000 := by omega
  refine ⟨?_, h4⟩
  have h5 : k * a.length ≤ 2000 * 2000 := Nat.mul_le_mul h4 (by omega)
  omega
theorem f_ok (c i : Int) (w : World) : Calls Try.prog 31 #[.int .i64 c, .int .i64 i] w fun e w' => e = .returned (.agg #[.int .i64 c, .int .i64 i]) ∧ Below w.heap.size w w' := f_any c i w

set_option maxRecDepth 100000 in
set_option maxHeartbeats 4000000 in
theorem roots_long (v : Value) (zs : List Int) (w : World) (hv : SlA w v zs) (hl : 5000 < zs.length) (hb : zs.length ≤ 17592186044416) :
    Calls Try.prog 6 #[v] w fun e w' => e = .returned (.bool true) ∧ Below w.heap.size w w' := by
  have hl1 : (5000 : Int) < (zs.length : Int) := by omega
  obtain ⟨va, vc, hve⟩ := hv.shape
  subst hve
  have HV := hide hv
  clear hv
  go_enter Try.func6, Try.ntmps6
  go_wp2_with fail
  refine (freeBegun_any w).mono ?_
  rintro x w1 ⟨rfl, hB, h01⟩
  have hge := hB.size
  have hsv := HV.out.up hB h01
  clear HV
  go_wp2
  go_ret
  exact ⟨rfl, hB⟩

set_option maxRecDepth 100000 in
set_option maxHeartbeats 4000000 in
theorem roots_bad (v : Value) (zs : List Int) (w : World) (hv : SlA w v zs) (hl : zs.length ≤ 5000) (h : wsc [zs] ≠ 0) :
    Calls Try.prog 6 #[v] w fun e w' => e = .returned (.bool true) ∧ Below w.heap.size w w' := by
  have hl1 : (zs.length : Int) ≤ 5000 := by omega
  have hl2 : ¬ ((5000 : Int) < (zs.length : Int)) := by omega
  obtain ⟨va, vc, hve⟩ := hv.shape
  subst hve
  have HV := hide hv
  clear hv
  go_enter Try.func6, Try.ntmps6
  go_wp2_with fail
  refine (freeBegun_any w).mono ?_
  rintro x w1 ⟨rfl, hB, h01⟩
  have hge := hB.size
  have hsv := HV.out.up hB h01
  clear HV
  go_wp2_with fail
  refine (own_row _ zs w1 hsv (by omega)).mono ?_
  rintro x w2 ⟨r, rfl, hr, hb2⟩
  replace hsv := hsv.below hb2
  replace hB := bcat hB hb2 hge
  replace hge := hB.size
  have h0r : 0 < w2.heap.size := hsv.pos
  have hsr := hr.sl h0r
  obtain ⟨r1, r2, rfl⟩ := hr.slice
  clear hr
  go_wp2_with fail
  refine (root_bad _ zs _ hsr h).mono ?_
  rintro x w4 ⟨rfl, hb4⟩
  replace hsv := hsv.below hb4
  replace hsr := hsr.below hb4
  replace hB := bcat hB hb4 hge
  replace hge := hB.size
  have e1 := (wsc_one zs).1
  have e2 := (wsc_one zs).2
  rw [e1, e2]
  rw [e1] at h
  clear e1 e2
  have hb5 : Below w4.heap.size w4 (w4.alloc (.cells #[.int .i64 (wfc zs), .int .i64 (wfa zs)] 26)) := balloc w4 _
  replace hsv := hsv.below hb5
  replace hsr := hsr.below hb5
  replace hB := bcat hB hb5 hge
  replace hge := hB.size
  have bx : Blk (w4.alloc (.cells #[.int .i64 (wfc zs), .int .i64 (wfa zs)] 26)) w4.heap.size 26 [.int .i64 (wfc zs), .int .i64 (wfa zs)] := blk0 _ _
  obtain ⟨bx6a, bx6b, bx6c, bx6d⟩ := bx.two
  go_wp2_with fail
  clear bx6a bx6b bx6c bx6d
  refine (wfault_any _ zs _ hsv).mono ?_
  rintro x w7 ⟨rfl, hb7⟩
  replace hsv := hsv.below hb7
  replace hsr := hsr.below hb7
  replace bx : Blk (w7) w4.heap.size 26 [.int .i64 (wfc zs), .int .i64 (wfa zs)] := Blk.of_eq bx (hb7.block _ bx.lt)
  replace hB := bcat hB hb7 hge
  replace hge := hB.size
  have hcb : (wfc zs != 0) = true := by simpa using h
  have hcb2 : (wfc zs == 0) = false := by simpa using h
  generalize wfc zs = c at *
  generalize wfa zs = d at *
  have hb8 : Below w7.heap.size w7 (w7.alloc (.cells #[.int .i64 c, .int .i64 d] 26)) := balloc w7 _
  replace hsv := hsv.below hb8
  replace hsr := hsr.below hb8
  replace bx : Blk (w7.alloc (.cells #[.int .i64 c, .int .i64 d] 26)) w4.heap.size 26 [.int .i64 c, .int .i64 d] := Blk.of_eq bx (hb8.block _ bx.lt)
  replace hB := bcat hB hb8 hge
  replace hge := hB.size
  have bq : Blk (w7.alloc (.cells #[.int .i64 c, .int .i64 d] 26)) w7.heap.size 26 [.int .i64 c, .int .i64 d] := blk0 _ _
  obtain ⟨bx9a, bx9b, bx9c, bx9d⟩ := bx.two
  obtain ⟨bq9a, bq9b, bq9c, bq9d⟩ := bq.two
  go_wp2
  clear bx9a bx9b bx9c bx9d bq9a bq9b bq9c bq9d
  go_ret
  exact ⟨rfl, hB⟩

set_option maxRecDepth 100000 in
set_option maxHeartbeats 4000000 in
theorem roots_one (v : Value) (zs : List Int) (w : World) (hv : SlA w v zs) (hl : zs.length ≤ 5000) (h : wsc [zs] = 0) (hz : red zs = []) :
    Calls Try.prog 6 #[v] w fun e w' => e = .returned (.bool true) ∧ Below w.heap.size w w' := by
  have hl1 : (zs.length : Int) ≤ 5000 := by omega
  have hl2 : ¬ ((5000 : Int) < (zs.length : Int)) := by omega
  have HWD := hide (wsc_all h zs (by simp))
  have HRZ := hide hz
  clear h hz
  obtain ⟨va, vc, hve⟩ := hv.shape
  subst hve
  have HV := hide hv
  clear hv
  go_enter Try.func6, Try.ntmps6
  go_wp2_with fail
  refine (freeBegun_any w).mono ?_
  rintro x w1 ⟨rfl, hB, h01⟩
  have hge := hB.size
  have hsv := HV.out.up hB h01
  clear HV
  go_wp2_with fail
  refine (own_row _ zs w1 hsv (by omega)).mono ?_
  rintro x w2 ⟨r, rfl, hr, hb2⟩
  replace hsv := hsv.below hb2
  replace hB := bcat hB hb2 hge
  replace hge := hB.size
  have h0r : 0 < w2.heap.size := hsv.pos
  have hsr := hr.sl h0r
  obtain ⟨r1, r2, rfl⟩ := hr.slice
  clear hr
  go_wp2_with fail
  refine (root_one_good _ zs _ hsr HWD.out HRZ.out).mono ?_
  rintro x w4 ⟨rfl, hb4⟩
  replace hsv := hsv.below hb4
  replace hsr := hsr.below hb4
  replace hB := bcat hB hb4 hge
  replace hge := hB.size
  have hb5 : Below w4.heap.size w4 (w4.alloc (.cells #[.int .i64 6, .int .i64 0] 26)) := balloc w4 _
  replace hsv := hsv.below hb5
  replace hsr := hsr.below hb5
  replace hB := bcat hB hb5 hge
  replace hge := hB.size
  have bx : Blk (w4.alloc (.cells #[.int .i64 6, .int .i64 0] 26)) w4.heap.size 26 [.int .i64 6, .int .i64 0] := blk0 _ _
  obtain ⟨bx6a, bx6b, bx6c, bx6d⟩ := bx.two
  go_wp2_with fail
  clear bx6a bx6b bx6c bx6d
  refine (wfault_any _ zs _ hsv).mono ?_
  rintro x w7 ⟨rfl, hb7⟩
  replace hsv := hsv.below hb7
  replace hsr := hsr.below hb7
  replace bx : Blk (w7) w4.heap.size 26 [.int .i64 6, .int .i64 0] := Blk.of_eq bx (hb7.block _ bx.lt)
  replace hB := bcat hB hb7 hge
  replace hge := hB.size
  rw [HWD.out.code.1, HWD.out.code.2]
  have HGB := hge
  have hb8 : Below w7.heap.size w7 (w7.alloc (.cells #[.int .i64 0, .int .i64 0] 26)) := balloc w7 _
  replace hsv := hsv.below hb8
  replace hsr := hsr.below hb8
  replace bx : Blk (w7.alloc (.cells #[.int .i64 0, .int .i64 0] 26)) w4.heap.size 26 [.int .i64 6, .int .i64 0] := Blk.of_eq bx (hb8.block _ bx.lt)
  replace hB := bcat hB hb8 hge
  replace hge := hB.size
  have HGE0 : Hid (w.heap.size ≤ w7.heap.size) := hide HGB
  have bq : Two (w7.alloc (.cells #[.int .i64 0, .int .i64 0] 26)) w7.heap.size := Two.new w7
  obtain ⟨bx9a, bx9b, bx9c, bx9d⟩ := bx.two
  obtain ⟨_, bq9a, bq9b, bq9c, bq9d, bq9e, bq9f⟩ := id bq
  go_wp2_with fail
  clear bx9a bx9b bx9c bx9d bq9a bq9b bq9c bq9d bq9e bq9f
  refine (reduced_ok _ zs _ hsv HWD.out.lt (by omega)).mono ?_
  rintro x w10 ⟨rr, rfl, hrr, hb10⟩
  replace hsv := hsv.below hb10
  replace hsr := hsr.below hb10
  replace bx : Blk (w10) w4.heap.size 26 [.int .i64 6, .int .i64 0] := Blk.of_eq bx (hb10.block _ bx.lt)
  replace bq := Two.below bq hb10
  replace hB := bcat hB hb10 hge
  replace hge := hB.size
  rw [HRZ.out] at hrr
  obtain ⟨r1', r2', hr9⟩ := hrr.slice
  subst hr9
  clear hrr
  obtain ⟨bx11a, bx11b, bx11c, bx11d⟩ := bx.two
  obtain ⟨_, bq11a, bq11b, bq11c, bq11d, bq11e, bq11f⟩ := id bq
  go_wp2_with fail
  clear bx11a bx11b bx11c bx11d bq11a bq11b bq11c bq11d bq11e bq11f
  refine (f_ok 6 0 _).mono ?_
  rintro x w12 ⟨rfl, hb12⟩
  replace hsv := hsv.below hb12
  replace hsr := hsr.below hb12
  replace bx : Blk (w12) w4.heap.size 26 [.int .i64 6, .int .i64 0] := Blk.of_eq bx (hb12.block _ bx.lt)
  replace bq := Two.below bq hb12
  replace hB := bcat hB hb12 hge
  replace hge := hB.size
  have HGE : Hid (w.heap.size ≤ w7.heap.size) := HGE0
  have hne : ¬ w4.heap.size = w7.heap.size := by
    have h1 := bx.lt
    have h2 := bq.blk.lt
    have h3 := hb7.size
    simp at h3
    omega
  have hne2 : ¬ w7.heap.size = w4.heap.size := fun h => hne h.symm
  have hR9 : Blk (w12.setCell ⟨w7.heap.size, 0, none⟩ (.int .i64 6)) w7.heap.size 26 [.int .i64 6, .int .i64 0] := bq.blk.set 0 _
  have hX9 : Blk (w12.setCell ⟨w7.heap.size, 0, none⟩ (.int .i64 6)) w4.heap.size 26 [.int .i64 6, .int .i64 0] := bx.other (p := ⟨w7.heap.size, 0, none⟩) hne _
  obtain ⟨z0, z1, fz0, fz1⟩ := hR9.two
  obtain ⟨x0, x1, _, _⟩ := hX9.two
  have hs9 := hR9.self.2
  have hB9 := hB.setCell (p := ⟨w7.heap.size, 0, none⟩) (show w.heap.size ≤ w7.heap.size from HGE.out) (.int .i64 6)
  obtain ⟨_, q0, q1, q2, q3, q4, q5⟩ := bq
  go_wp2
  go_ret
  exact ⟨rfl, hB9⟩

set_option maxRecDepth 100000 in
set_option maxHeartbeats 4000000 in
theorem roots_good (v : Value) (zs : List Int) (w : World) (hv : SlA w v zs) (hl : zs.length ≤ 5000) (h : wsc [zs] = 0) (hz : red zs ≠ []) :
    Calls Try.prog 6 #[v] w fun e w' => e = .returned (.bool true) ∧ Below w.heap.size w w' := by
  have hl1 : (zs.length : Int) ≤ 5000 := by omega
  have hl2 : ¬ ((5000 : Int) < (zs.length : Int)) := by omega
  have HWD := hide (wsc_all h zs (by simp))
  have HRZ := hide hz
  clear h hz
  obtain ⟨va, vc, hve⟩ := hv.shape
  subst hve
  have HV := hide hv
  clear hv
  go_enter Try.func6, Try.ntmps6
  go_wp2_with fail
  refine (freeBegun_any w).mono ?_
  rintro x w1 ⟨rfl, hB, h01⟩
  have hge := hB.size
  have hsv := HV.out.up hB h01
  clear HV
  go_wp2_with fail
  refine (own_row _ zs w1 hsv (by omega)).mono ?_
  rintro x w2 ⟨r, rfl, hr, hb2⟩
  replace hsv := hsv.below hb2
  replace hB := bcat hB hb2 hge
  replace hge := hB.size
  have h0r : 0 < w2.heap.size := hsv.pos
  have hsr := hr.sl h0r
  obtain ⟨r1, r2, rfl⟩ := hr.slice
  clear hr
  go_wp2_with fail
  refine (root_good_good _ zs _ hsr HWD.out HRZ.out).mono ?_
  rintro x w4 ⟨⟨ra, b, k, rfl, hra, hroot, hk⟩, hb4⟩
  replace hsv := hsv.below hb4
  replace hsr := hsr.below hb4
  replace hB := bcat hB hb4 hge
  replace hge := hB.size
  have HWA := hide (show Lt b ∧ b.length ≤ 2000 from ⟨root_lt hroot HWD.out.lt.red, by have h8 := root_len hroot; have h9 := red_len zs; have h7 := HWD.out.len; omega⟩)
  have HRO := hide hroot
  clear hroot
  have h0b : 0 < w4.heap.size := hsv.pos
  have hsb := hra.sl h0b
  obtain ⟨b1, b2, rfl⟩ := hra.slice
  clear hra
  have hb5 : Below w4.heap.size w4 (w4.alloc (.cells #[.int .i64 0, .int .i64 0] 26)) := balloc w4 _
  replace hsv := hsv.below hb5
  replace hsr := hsr.below hb5
  replace hsb := hsb.below hb5
  replace hB := bcat hB hb5 hge
  replace hge := hB.size
  have bx : Two (w4.alloc (.cells #[.int .i64 0, .int .i64 0] 26)) w4.heap.size := Two.new w4
  obtain ⟨_, bx6a, bx6b, bx6c, bx6d, bx6e, bx6f⟩ := id bx
  go_wp2_with fail
  clear bx6a bx6b bx6c bx6d bx6e bx6f
  refine (wfault_any _ zs _ hsv).mono ?_
  rintro x w7 ⟨rfl, hb7⟩
  replace hsv := hsv.below hb7
  replace hsr := hsr.below hb7
  replace hsb := hsb.below hb7
  replace bx := Two.below bx hb7
  replace hB := bcat hB hb7 hge
  replace hge := hB.size
  rw [HWD.out.code.1, HWD.out.code.2]
  have hb8 : Below w7.heap.size w7 (w7.alloc (.cells #[.int .i64 0, .int .i64 0] 26)) := balloc w7 _
  replace hsv := hsv.below hb8
  replace hsr := hsr.below hb8
  replace hsb := hsb.below hb8
  replace bx := Two.below bx hb8
  replace hB := bcat hB hb8 hge
  replace hge := hB.size
  have bq : Two (w7.alloc (.cells #[.int .i64 0, .int .i64 0] 26)) w7.heap.size := Two.new w7
  obtain ⟨_, bx9a, bx9b, bx9c, bx9d, bx9e, bx9f⟩ := id bx
  obtain ⟨_, bq9a, bq9b, bq9c, bq9d, bq9e, bq9f⟩ := id bq
  go_wp2_with fail
  clear bx9a bx9b bx9c bx9d bx9e bx9f bq9a bq9b bq9c bq9d bq9e bq9f
  refine (reduced_ok _ zs _ hsv HWD.out.lt (by omega)).mono ?_
  rintro x w10 ⟨rr, rfl, hrr, hb10⟩
  replace hsv := hsv.below hb10
  replace hsr := hsr.below hb10
  replace hsb := hsb.below hb10
  replace bx := Two.below bx hb10
  replace bq := Two.below bq hb10
  replace hB := bcat hB hb10 hge
  replace hge := hB.size
  obtain ⟨r1', r2', hr9⟩ := hrr.slice
  subst hr9
  have hrzl : 0 < (red zs).length := List.length_pos_iff.2 HRZ.out
  have hrzb : ((((red zs).length : Nat) : Int) == 0) = false := by simp; exact HRZ.out
  clear hrr
  obtain ⟨_, bx11a, bx11b, bx11c, bx11d, bx11e, bx11f⟩ := id bx
  obtain ⟨_, bq11a, bq11b, bq11c, bq11d, bq11e, bq11f⟩ := id bq
  go_wp2_with fail
  clear bx11a bx11b bx11c bx11d bx11e bx11f bq11a bq11b bq11c bq11d bq11e bq11f
  refine (cored_ok _ zs _ hsv HWD.out.lt (by omega)).mono ?_
  rintro x w12 ⟨u1, u2, c, a, rfl, hs1, hs2, hcore, hb12⟩
  replace hsv := hsv.below hb12
  replace hsr := hsr.below hb12
  replace hsb := hsb.below hb12
  replace bx := Two.below bx hb12
  replace bq := Two.below bq hb12
  replace hB := bcat hB hb12 hge
  replace hge := hB.size
  have hcp := core_pos hcore (red_rd zs) HRZ.out
  have hclen := core_len hcore
  have hrl := red_len zs
  have hcl1 : c.length ≤ 2000 := by have := HWD.out.len; omega
  obtain ⟨hlc, _⟩ := core_lt hcore HWD.out.lt.red
  have HLC := hide hlc
  have HRC := hide (hcore.rd (red_rd zs))
  have HNUM := hide (fun d (hd : PerOf c d) => root_num HRO.out hcore hd)
  clear hcore hclen hrl hlc hs2 hrzl hrzb
  obtain ⟨ca, cc, cpb, cpo, hce, hcr, hcpb, hcc, hcm⟩ := id hs1
  subst hce
  have hca := hcr.at_ hcp
  subst hca
  have hcm' := hcm
  unfold maxLen at hcm
  have HSC := hide hs1
  have HSB := hide hsb
  have HSV := hide hsv
  have HBX := hide bx
  have HBQ := hide bq
  have HBB := hide hB
  clear hs1 hsb hsv hsr hcr hcpb
  go_wp2_with fail
  go_loopw [9] (fun i wr => ∃ d : Nat, 0 < d ∧ d ≤ c.length ∧ i = .int .i64 d ∧ (∀ e, 0 < e → e < d → e ∣ c.length → ¬ Per c e) ∧ Below w12.heap.size w12 wr) (fun i _ => c.length - (intOf i).toNat)
  case atStart => exact ⟨1, by omega, hcp, rfl, fun e h1 h2 => by omega, Below.refl _ _⟩
  case round =>
    clear hB bx bq
    obtain ⟨d, hd0, hd, rfl, hall, hBr⟩ := hrel
    have HA := hide hall
    clear hall
    have hger := hBr.size
    have hnz : ¬ (d : Int) = 0 := by omega
    have hnz2 : ¬ d = 0 := by omega
    have hnm1 : ¬ (d : Int) = -1 := by omega
    have hrm := Int.tmod_eq_emod_of_nonneg (a := (c.length : Int)) (b := (d : Int)) (by omega)
    rw [← Int.natCast_emod] at hrm
    have hrb : c.length % d < d := Nat.mod_lt _ hd0
    have hdl : d = c.length → c.length % d = 0 := fun e => by rw [e]; exact Nat.mod_self _
    have hdvi : c.length % d = 0 → d ∣ c.length := Nat.dvd_of_mod_eq_zero
    have hdvn : d ∣ c.length → c.length % d = 0 := Nat.mod_eq_zero_of_dvd
    obtain ⟨rm, hrme⟩ : ∃ rm : Nat, c.length % d = rm := ⟨_, rfl⟩
    rw [hrme] at hrm hrb hdl hdvi hdvn
    clear hrme
    by_cases hr0 : rm = 0
    · have hdv := hdvi hr0
      subst hr0
      have hq1 : c.length / d * d = c.length := Nat.div_mul_cancel hdv
      have hq2 : c.length / d ≤ c.length := Nat.div_le_self _ _
      have hdiv : (c.length : Int).tdiv (d : Int) = ((c.length / d : Nat) : Int) := by
        rw [Int.tdiv_eq_ediv_of_nonneg (by omega), Int.natCast_ediv]
      have htl : (c.take d).length = d := by rw [List.length_take]; omega
      have hpsz : c.length / d * (c.take d).length ≤ 4000000 := by rw [htl, hq1]; omega
      have hplt : Lt (c.take d) := fun x hx => HLC.out x (List.mem_of_mem_take hx)
      have hsc9 := (HSC.out.below hBr).drewN 1
      have hpc : Sl wr.drew (.slice (some ⟨cpb, cpo, none⟩) d cc) (c.take d) := by
        obtain ⟨a9, cap9, pb, po, hve, hr9, hp9, hcap9, hcm9⟩ := HSC.out.below hBr
        injection hve with e1 _ e2
        subst e1 e2
        have h2 := hr9.at_ hcp
        injection h2 with h2
        injection h2 with h3 h4
        subst h3 h4
        have h5 := Sl.piece (i := 0) (m := d) (c := cc) (b := some ⟨cpb, cpo, none⟩) (hr9.of_eq (w' := wr.drew) rfl) hp9 (by omega) (fun _ => rfl) (by omega) hcm'
        rwa [List.drop_zero] at h5
      have hsc9 : Sl wr.drew (.slice (some ⟨cpb, cpo, none⟩) c.length cc) c := hsc9
      have hncc : (d : Int) ≤ (cc : Int) := by omega
      have hncc2 : (d : Int) ≤ (c.length : Int) := by omega
      have hBd := bdrew hBr
      have hged := hBd.size
      have hiff := red_pw_iff HRC.out hdv hd0 hcp
      obtain ⟨qk, hqk⟩ : ∃ qk, c.length / d = qk := ⟨_, rfl⟩
      rw [hqk] at hq1 hq2 hdiv hpsz hiff
      have hwq : IntKind.i64.wrap (qk : Int) = (qk : Int) := by rw [IntKind.wrap_i64]; omega
      have HQK := hide hqk
      have HQ := hide (And.intro hq1 (And.intro hq2 hdv))
      have HTL := hide htl
      have hqb : qk ≤ 2000 := by omega
      clear hq1 hq2 htl hdv hdvi hdvn hdl hqk
      by_cases hP : Per c d
      · have HPE := hide (hiff.2 hP)
        have HPO := hide (perOf_least hcp hd0 hP (fun e h1 h2 h3 => HA.out e h1 h2 h3))
        have HK := hide (HNUM.out d HPO.out)
        clear hiff hP
        go_wp2_with fail
        refine wp_region_held_drew (S := fun W => Below w12.heap.size w12 W) (by kernel_rfl) hBd (fun hHeld => ?_)
        generalize wr.drew = wd at *
        refine wpAnyH_take (i := 0) (oi := ({ dst := some 52, op := Go.Op.move (Go.Operand.tmp 7), type := 22, pos := _, after := _, guard := none } : Oper)) (v := ?_) rfl (by kernel_rfl) (by kernel_rfl) (by kernel_rfl) (fun _ _ _ h => h) (Or.inl ⟨by rfl, ?_⟩) (by assumption) ?_
        rotate_left
        · (intro w hSw; (try dsimp only at hSw); go_simp; try with_reducible rfl)
        simp only [Act.put, List.setIfInBounds_toArray, List.set_cons_zero, List.set_cons_succ]
        refine wpAnyH_take (i := 1) (oi := ({ dst := some 53, op := Go.Op.call { callee := Go.Callee.builtin Go.Builtin.len, args := #[Go.Operand.tmp 52], argTypes := #[22] }, type := 3, pos := _, after := _, guard := none } : Oper)) (v := ?_) rfl (by kernel_rfl) (by kernel_rfl) (by kernel_rfl) (fun _ _ _ h => h) (Or.inl ⟨by rfl, ?_⟩) (by assumption) ?_
        rotate_left
        · (intro w hSw; (try dsimp only at hSw); go_simp; try with_reducible rfl)
        simp only [Act.put, List.setIfInBounds_toArray, List.set_cons_zero, List.set_cons_succ]
        refine wpAnyH_take (i := 2) (oi := ({ dst := some 54, op := Go.Op.move (Go.Operand.tmp 9), type := 3, pos := _, after := _, guard := none } : Oper)) (v := ?_) rfl (by kernel_rfl) (by kernel_rfl) (by kernel_rfl) (fun _ _ _ h => h) (Or.inl ⟨by rfl, ?_⟩) (by assumption) ?_
        rotate_left
        · (intro w hSw; (try dsimp only at hSw); go_simp; try with_reducible rfl)
        simp only [Act.put, List.setIfInBounds_toArray, List.set_cons_zero, List.set_cons_succ]
        refine wpAnyH_take (i := 3) (oi := ({ dst := some 55, op := Go.Op.binOp Go.BinOp.rem 3 (Go.Operand.tmp 53) (Go.Operand.tmp 54) 3, type := 3, pos := _, after := _, guard := none } : Oper)) (v := ?_) rfl (by kernel_rfl) (by kernel_rfl) (by kernel_rfl) (fun _ _ _ h => h) (Or.inl ⟨by rfl, ?_⟩) (by assumption) ?_
        rotate_left
        · (intro w hSw; (try dsimp only at hSw); go_simp; try with_reducible rfl)
        simp only [Act.put, List.setIfInBounds_toArray, List.set_cons_zero, List.set_cons_succ]
        refine wpAnyH_take (i := 4) (oi := ({ dst := some 56, op := Go.Op.binOp Go.BinOp.neq 3 (Go.Operand.tmp 55) (Go.Operand.const (Go.Value.int Go.IntKind.i64 0)) 3, type := 4, pos := _, after := _, guard := none } : Oper)) (v := ?_) rfl (by kernel_rfl) (by kernel_rfl) (by kernel_rfl) (fun _ _ _ h => h) (Or.inl ⟨by rfl, ?_⟩) (by assumption) ?_
        rotate_left
        · (intro w hSw; (try dsimp only at hSw); go_simp; try with_reducible rfl)
        simp only [Act.put, List.setIfInBounds_toArray, List.set_cons_zero, List.set_cons_succ]
        refine wpAnyH_take (i := 5) (oi := ({ dst := some 57, op := Go.Op.move (Go.Operand.tmp 56), type := 4, pos := _, after := _, guard := none } : Oper)) (v := ?_) rfl (by kernel_rfl) (by kernel_rfl) (by kernel_rfl) (fun _ _ _ h => h) (Or.inl ⟨by rfl, ?_⟩) (by assumption) ?_
        rotate_left
        · (intro w hSw; (try dsimp only at hSw); go_simp; try with_reducible rfl)
        simp only [Act.put, List.setIfInBounds_toArray, List.set_cons_zero, List.set_cons_succ]
        refine wpAnyH_take (i := 6) (oi := ({ dst := some 58, op := Go.Op.move (Go.Operand.tmp 7), type := 22, pos := _, after := _, guard := some (5, false) } : Oper)) (v := ?_) rfl (by kernel_rfl) (by kernel_rfl) (by kernel_rfl) (fun _ _ _ h => h) (Or.inl ⟨by rfl, ?_⟩) (by assumption) ?_
        rotate_left
        · (intro w hSw; (try dsimp only at hSw); go_simp; try with_reducible rfl)
        simp only [Act.put, List.setIfInBounds_toArray, List.set_cons_zero, List.set_cons_succ]
        refine wpAnyH_take (i := 7) (oi := ({ dst := some 59, op := Go.Op.move (Go.Operand.tmp 9), type := 3, pos := _, after := _, guard := some (5, false) } : Oper)) (v := ?_) rfl (by kernel_rfl) (by kernel_rfl) (by kernel_rfl) (fun _ _ _ h => h) (Or.inl ⟨by rfl, ?_⟩) (by assumption) ?_
        rotate_left
        · (intro w hSw; (try dsimp only at hSw); go_simp; try with_reducible rfl)
        simp only [Act.put, List.setIfInBounds_toArray, List.set_cons_zero, List.set_cons_succ]
        refine wpAnyH_take (i := 8) (oi := ({ dst := some 60, op := Go.Op.slice 22 (Go.Operand.tmp 58) none (some (Go.Operand.tmp 59)) none, type := 22, pos := _, after := _, guard := some (5, false) } : Oper)) (v := ?_) rfl (by kernel_rfl) (by kernel_rfl) (by kernel_rfl) (fun _ _ _ h => h) (Or.inl ⟨by rfl, ?_⟩) (by assumption) ?_
        rotate_left
        · (intro w hSw; (try dsimp only at hSw); go_simp; try with_reducible rfl)
        simp only [Act.put, List.setIfInBounds_toArray, List.set_cons_zero, List.set_cons_succ]
        refine wpAnyH_take (i := 9) (oi := ({ dst := some 61, op := Go.Op.move (Go.Operand.tmp 7), type := 22, pos := _, after := _, guard := some (5, false) } : Oper)) (v := ?_) rfl (by kernel_rfl) (by kernel_rfl) (by kernel_rfl) (fun _ _ _ h => h) (Or.inl ⟨by rfl, ?_⟩) (by assumption) ?_
        rotate_left
        · (intro w hSw; (try dsimp only at hSw); go_simp; try with_reducible rfl)
        simp only [Act.put, List.setIfInBounds_toArray, List.set_cons_zero, List.set_cons_succ]
        refine wpAnyH_take (i := 10) (oi := ({ dst := some 62, op := Go.Op.call { callee := Go.Callee.builtin Go.Builtin.len, args := #[Go.Operand.tmp 61], argTypes := #[22] }, type := 3, pos := _, after := _, guard := some (5, false) } : Oper)) (v := ?_) rfl (by kernel_rfl) (by kernel_rfl) (by kernel_rfl) (fun _ _ _ h => h) (Or.inl ⟨by rfl, ?_⟩) (by assumption) ?_
        rotate_left
        · (intro w hSw; (try dsimp only at hSw); go_simp; try with_reducible rfl)
        simp only [Act.put, List.setIfInBounds_toArray, List.set_cons_zero, List.set_cons_succ]
        refine wpAnyH_take (i := 11) (oi := ({ dst := some 63, op := Go.Op.move (Go.Operand.tmp 9), type := 3, pos := _, after := _, guard := some (5, false) } : Oper)) (v := ?_) rfl (by kernel_rfl) (by kernel_rfl) (by kernel_rfl) (fun _ _ _ h => h) (Or.inl ⟨by rfl, ?_⟩) (by assumption) ?_
        rotate_left
        · (intro w hSw; (try dsimp only at hSw); go_simp; try with_reducible rfl)
        simp only [Act.put, List.setIfInBounds_toArray, List.set_cons_zero, List.set_cons_succ]
        refine wpAnyH_take (i := 12) (oi := ({ dst := some 64, op := Go.Op.binOp Go.BinOp.quo 3 (Go.Operand.tmp 62) (Go.Operand.tmp 63) 3, type := 3, pos := _, after := _, guard := some (5, false) } : Oper)) (v := ?_) rfl (by kernel_rfl) (by kernel_rfl) (by kernel_rfl) (fun _ _ _ h => h) (Or.inl ⟨by rfl, ?_⟩) (by assumption) ?_
        rotate_left
        · (intro w hSw; (try dsimp only at hSw); go_simp; try with_reducible rfl)
        simp only [Act.put, List.setIfInBounds_toArray, List.set_cons_zero, List.set_cons_succ]
        refine wpAnyH_take (i := 14) (oi := ({ dst := some 66, op := Go.Op.move (Go.Operand.tmp 7), type := 22, pos := _, after := _, guard := some (5, false) } : Oper)) (v := ?_) rfl (by kernel_rfl) (by kernel_rfl) (by kernel_rfl) (fun _ _ _ h => h) (Or.inl ⟨by rfl, ?_⟩) (by assumption) ?_
        rotate_left
        · (intro w hSw; (try dsimp only at hSw); go_simp; try with_reducible rfl)
        simp only [Act.put, List.setIfInBounds_toArray, List.set_cons_zero, List.set_cons_succ]
        refine wpAnyH_ready (rs := [13]) (by kernel_rfl) (by simp) (AllReadyH.cons (o := ({ dst := some 65, op := Go.Op.call { callee := Go.Callee.value (Go.Operand.func 33), args := #[Go.Operand.tmp 60, Go.Operand.tmp 64], argTypes := #[22, 3] }, type := 22, pos := _, after := _, guard := some (5, false) } : Oper)) rfl (fun KK hK => ?_) AllReadyH.nil)
        go_simp
        refine (timesWord_ok _ (c.take d) qk wd hpc hplt (by omega) hpsz).mono ?_
        rintro x w8 ⟨rt, rfl, hrt, hb8⟩
        have hB8 := bcat hBd hb8 hged
        have hge8 := hB8.size
        have hst := hrt.sl (show 0 < w8.heap.size by have := hpc.pos; have := hb8.size; omega)
        obtain ⟨t1, t2, rfl⟩ := hrt.slice
        have hc8 := hsc9.below hb8
        try go_wp2_with fail
        refine hK.out _ _ hB8 (fun hHeld => ?_)
        clear hK
        try simp only [Act.put, List.setIfInBounds_toArray, List.set_cons_zero, List.set_cons_succ]
        refine wpAnyH_ready (rs := [15]) (by kernel_rfl) (by simp) (AllReadyH.cons (o := ({ dst := some 67, op := Go.Op.call { callee := Go.Callee.value (Go.Operand.func 20), args := #[Go.Operand.tmp 65, Go.Operand.tmp 66], argTypes := #[22, 22] }, type := 4, pos := _, after := _, guard := some (5, false) } : Oper)) rfl (fun KK hK => ?_) AllReadyH.nil)
        go_simp
        refine (ints_true _ _ _ _ w8 hst hc8 HPE.out).mono ?_
        rintro x w9 ⟨rfl, hb9⟩
        have hB9 := bcat hB8 hb9 hge8
        try go_wp2_with fail
        refine hK.out _ _ hB9 (fun hHeld => ?_)
        clear hK
        try simp only [Act.put, List.setIfInBounds_toArray, List.set_cons_zero, List.set_cons_succ]
        refine wpAnyH_take (i := 16) (oi := ({ dst := some 68, op := Go.Op.unOp Go.UnOp.not 4 (Go.Operand.tmp 67), type := 4, pos := _, after := _, guard := some (5, false) } : Oper)) (v := ?_) rfl (by kernel_rfl) (by kernel_rfl) (by kernel_rfl) (fun _ _ _ h => h) (Or.inl ⟨by rfl, ?_⟩) (by assumption) ?_
        rotate_left
        · (intro w hSw; (try dsimp only at hSw); go_simp; try with_reducible rfl)
        simp only [Act.put, List.setIfInBounds_toArray, List.set_cons_zero, List.set_cons_succ]
        refine wpAnyH_take (i := 17) (oi := ({ dst := some 69, op := Go.Op.pick (Go.Operand.tmp 57) (Go.Operand.const (Go.Value.bool true)) (Go.Operand.tmp 68), type := 4, pos := _, after := _, guard := none } : Oper)) (v := ?_) rfl (by kernel_rfl) (by kernel_rfl) (by kernel_rfl) (fun _ _ _ h => h) (Or.inl ⟨by rfl, ?_⟩) (by assumption) ?_
        rotate_left
        · (intro w hSw; (try dsimp only at hSw); go_simp; try with_reducible rfl)
        simp only [Act.put, List.setIfInBounds_toArray, List.set_cons_zero, List.set_cons_succ]
        refine wpAnyH_done (by kernel_rfl) ?_ _
        have hBf := bcat HBB.out hB9 HBB.out.size
        have hsbf := HSB.out.below hB9
        have hsvf := HSV.out.below hB9
        have hbl : b.length ≤ 2000 := HWA.out.2
        have hgef := hBf.size
        have hkb := (root_bound HRO.out (by have h8 := red_len zs; have h7 := HWD.out.len; omega)).2
        have hkz : qk = k := by rw [HK.out, HQK.out]
        rw [hkz] at hdiv hwq
        have hneq : ((k : Int) != (k : Int)) = false := by simp
        have HKZ := hide hkz
        clear hkz
        go_wp2_with fail
        refine (reduced_ok _ b _ hsbf HWA.out.1 (by omega)).mono ?_
        rintro x v1 ⟨rq, rfl, hrq, hc1⟩
        replace hsbf := hsbf.below hc1
        replace hsvf := hsvf.below hc1
        replace hBf := bcat hBf hc1 hgef
        replace hgef := hBf.size
        have hsq := hrq.sl hsbf.pos
        obtain ⟨q1, q2, rfl⟩ := hrq.slice
        clear hrq
        go_wp2_with fail
        refine (ints_true _ _ _ _ _ hsq hsbf (show red b = b by obtain ⟨A, p, _, _, _, hb⟩ := HRO.out; rw [hb]; exact red_idem _)).mono ?_
        rintro x v2 ⟨rfl, hc2⟩
        replace hsbf := hsbf.below hc2
        replace hsvf := hsvf.below hc2
        replace hBf := bcat hBf hc2 hgef
        replace hgef := hBf.size
        clear hsq
        go_wp2_with fail
        refine (timesWord_ok _ b k _ hsbf HWA.out.1 (by omega) (root_bound HRO.out (by have h8 := red_len zs; have h7 := HWD.out.len; omega)).1).mono ?_
        rintro x v3 ⟨rp, rfl, hrp, hc3⟩
        replace hsvf := hsvf.below hc3
        replace hBf := bcat hBf hc3 hgef
        replace hgef := hBf.size
        have hsp := hrp.sl hsvf.pos
        obtain ⟨p1, p2, rfl⟩ := hrp.slice
        clear hrp
        go_wp2_with fail
        refine (reduced_ok _ zs _ hsvf HWD.out.lt (by omega)).mono ?_
        rintro x v4 ⟨rz, rfl, hrz, hc4⟩
        replace hsp := hsp.below hc4
        replace hBf := bcat hBf hc4 hgef
        replace hgef := hBf.size
        have hsz := hrz.sl hsp.pos
        obtain ⟨z1, z2, rfl⟩ := hrz.slice
        clear hrz
        go_wp2_with fail
        refine (ints_true _ _ _ _ _ hsp hsz (show red (pw b k) = red zs from (show red (pw b k) = red (red zs) from HRO.out.pow).trans (red_idem zs))).mono ?_
        rintro x v5 ⟨rfl, hc5⟩
        replace hBf := bcat hBf hc5 hgef
        go_wp2
        go_ret
        exact ⟨rfl, hBf⟩
      · have HPE := hide (show red (pw (c.take d) qk) ≠ c from fun e => hP (hiff.1 e))
        have HNP := hide hP
        have hdc : d ≠ c.length := fun e => hP (by rw [e]; exact per_len c)
        clear hiff hP
        go_wp2_with fail
        refine wp_region_held_drew (S := fun W => Below w12.heap.size w12 W) (by kernel_rfl) hBd (fun hHeld => ?_)
        generalize wr.drew = wd at *
        refine wpAnyH_take (i := 0) (oi := ({ dst := some 52, op := Go.Op.move (Go.Operand.tmp 7), type := 22, pos := _, after := _, guard := none } : Oper)) (v := ?_) rfl (by kernel_rfl) (by kernel_rfl) (by kernel_rfl) (fun _ _ _ h => h) (Or.inl ⟨by rfl, ?_⟩) (by assumption) ?_
        rotate_left
        · (intro w hSw; (try dsimp only at hSw); go_simp; try with_reducible rfl)
        simp only [Act.put, List.setIfInBounds_toArray, List.set_cons_zero, List.set_cons_succ]
        refine wpAnyH_take (i := 1) (oi := ({ dst := some 53, op := Go.Op.call { callee := Go.Callee.builtin Go.Builtin.len, args := #[Go.Operand.tmp 52], argTypes := #[22] }, type := 3, pos := _, after := _, guard := none } : Oper)) (v := ?_) rfl (by kernel_rfl) (by kernel_rfl) (by kernel_rfl) (fun _ _ _ h => h) (Or.inl ⟨by rfl, ?_⟩) (by assumption) ?_
        rotate_left
        · (intro w hSw; (try dsimp only at hSw); go_simp; try with_reducible rfl)
        simp only [Act.put, List.setIfInBounds_toArray, List.set_cons_zero, List.set_cons_succ]
        refine wpAnyH_take (i := 2) (oi := ({ dst := some 54, op := Go.Op.move (Go.Operand.tmp 9), type := 3, pos := _, after := _, guard := none } : Oper)) (v := ?_) rfl (by kernel_rfl) (by kernel_rfl) (by kernel_rfl) (fun _ _ _ h => h) (Or.inl ⟨by rfl, ?_⟩) (by assumption) ?_
        rotate_left
        · (intro w hSw; (try dsimp only at hSw); go_simp; try with_reducible rfl)
        simp only [Act.put, List.setIfInBounds_toArray, List.set_cons_zero, List.set_cons_succ]
        refine wpAnyH_take (i := 3) (oi := ({ dst := some 55, op := Go.Op.binOp Go.BinOp.rem 3 (Go.Operand.tmp 53) (Go.Operand.tmp 54) 3, type := 3, pos := _, after := _, guard := none } : Oper)) (v := ?_) rfl (by kernel_rfl) (by kernel_rfl) (by kernel_rfl) (fun _ _ _ h => h) (Or.inl ⟨by rfl, ?_⟩) (by assumption) ?_
        rotate_left
        · (intro w hSw; (try dsimp only at hSw); go_simp; try with_reducible rfl)
        simp only [Act.put, List.setIfInBounds_toArray, List.set_cons_zero, List.set_cons_succ]
        refine wpAnyH_take (i := 4) (oi := ({ dst := some 56, op := Go.Op.binOp Go.BinOp.neq 3 (Go.Operand.tmp 55) (Go.Operand.const (Go.Value.int Go.IntKind.i64 0)) 3, type := 4, pos := _, after := _, guard := none } : Oper)) (v := ?_) rfl (by kernel_rfl) (by kernel_rfl) (by kernel_rfl) (fun _ _ _ h => h) (Or.inl ⟨by rfl, ?_⟩) (by assumption) ?_
        rotate_left
        · (intro w hSw; (try dsimp only at hSw); go_simp; try with_reducible rfl)
        simp only [Act.put, List.setIfInBounds_toArray, List.set_cons_zero, List.set_cons_succ]
        refine wpAnyH_take (i := 5) (oi := ({ dst := some 57, op := Go.Op.move (Go.Operand.tmp 56), type := 4, pos := _, after := _, guard := none } : Oper)) (v := ?_) rfl (by kernel_rfl) (by kernel_rfl) (by kernel_rfl) (fun _ _ _ h => h) (Or.inl ⟨by rfl, ?_⟩) (by assumption) ?_
        rotate_left
        · (intro w hSw; (try dsimp only at hSw); go_simp; try with_reducible rfl)
        simp only [Act.put, List.setIfInBounds_toArray, List.set_cons_zero, List.set_cons_succ]
        refine wpAnyH_take (i := 6) (oi := ({ dst := some 58, op := Go.Op.move (Go.Operand.tmp 7), type := 22, pos := _, after := _, guard := some (5, false) } : Oper)) (v := ?_) rfl (by kernel_rfl) (by kernel_rfl) (by kernel_rfl) (fun _ _ _ h => h) (Or.inl ⟨by rfl, ?_⟩) (by assumption) ?_
        rotate_left
        · (intro w hSw; (try dsimp only at hSw); go_simp; try with_reducible rfl)
        simp only [Act.put, List.setIfInBounds_toArray, List.set_cons_zero, List.set_cons_succ]
        refine wpAnyH_take (i := 7) (oi := ({ dst := some 59, op := Go.Op.move (Go.Operand.tmp 9), type := 3, pos := _, after := _, guard := some (5, false) } : Oper)) (v := ?_) rfl (by kernel_rfl) (by kernel_rfl) (by kernel_rfl) (fun _ _ _ h => h) (Or.inl ⟨by rfl, ?_⟩) (by assumption) ?_
        rotate_left
        · (intro w hSw; (try dsimp only at hSw); go_simp; try with_reducible rfl)
        simp only [Act.put, List.setIfInBounds_toArray, List.set_cons_zero, List.set_cons_succ]
        refine wpAnyH_take (i := 8) (oi := ({ dst := some 60, op := Go.Op.slice 22 (Go.Operand.tmp 58) none (some (Go.Operand.tmp 59)) none, type := 22, pos := _, after := _, guard := some (5, false) } : Oper)) (v := ?_) rfl (by kernel_rfl) (by kernel_rfl) (by kernel_rfl) (fun _ _ _ h => h) (Or.inl ⟨by rfl, ?_⟩) (by assumption) ?_
        rotate_left
        · (intro w hSw; (try dsimp only at hSw); go_simp; try with_reducible rfl)
        simp only [Act.put, List.setIfInBounds_toArray, List.set_cons_zero, List.set_cons_succ]
        refine wpAnyH_take (i := 9) (oi := ({ dst := some 61, op := Go.Op.move (Go.Operand.tmp 7), type := 22, pos := _, after := _, guard := some (5, false) } : Oper)) (v := ?_) rfl (by kernel_rfl) (by kernel_rfl) (by kernel_rfl) (fun _ _ _ h => h) (Or.inl ⟨by rfl, ?_⟩) (by assumption) ?_
        rotate_left
        · (intro w hSw; (try dsimp only at hSw); go_simp; try with_reducible rfl)
        simp only [Act.put, List.setIfInBounds_toArray, List.set_cons_zero, List.set_cons_succ]
        refine wpAnyH_take (i := 10) (oi := ({ dst := some 62, op := Go.Op.call { callee := Go.Callee.builtin Go.Builtin.len, args := #[Go.Operand.tmp 61], argTypes := #[22] }, type := 3, pos := _, after := _, guard := some (5, false) } : Oper)) (v := ?_) rfl (by kernel_rfl) (by kernel_rfl) (by kernel_rfl) (fun _ _ _ h => h) (Or.inl ⟨by rfl, ?_⟩) (by assumption) ?_
        rotate_left
        · (intro w hSw; (try dsimp only at hSw); go_simp; try with_reducible rfl)
        simp only [Act.put, List.setIfInBounds_toArray, List.set_cons_zero, List.set_cons_succ]
        refine wpAnyH_take (i := 11) (oi := ({ dst := some 63, op := Go.Op.move (Go.Operand.tmp 9), type := 3, pos := _, after := _, guard := some (5, false) } : Oper)) (v := ?_) rfl (by kernel_rfl) (by kernel_rfl) (by kernel_rfl) (fun _ _ _ h => h) (Or.inl ⟨by rfl, ?_⟩) (by assumption) ?_
        rotate_left
        · (intro w hSw; (try dsimp only at hSw); go_simp; try with_reducible rfl)
        simp only [Act.put, List.setIfInBounds_toArray, List.set_cons_zero, List.set_cons_succ]
        refine wpAnyH_take (i := 12) (oi := ({ dst := some 64, op := Go.Op.binOp Go.BinOp.quo 3 (Go.Operand.tmp 62) (Go.Operand.tmp 63) 3, type := 3, pos := _, after := _, guard := some (5, false) } : Oper)) (v := ?_) rfl (by kernel_rfl) (by kernel_rfl) (by kernel_rfl) (fun _ _ _ h => h) (Or.inl ⟨by rfl, ?_⟩) (by assumption) ?_
        rotate_left
        · (intro w hSw; (try dsimp only at hSw); go_simp; try with_reducible rfl)
        simp only [Act.put, List.setIfInBounds_toArray, List.set_cons_zero, List.set_cons_succ]
        refine wpAnyH_take (i := 14) (oi := ({ dst := some 66, op := Go.Op.move (Go.Operand.tmp 7), type := 22, pos := _, after := _, guard := some (5, false) } : Oper)) (v := ?_) rfl (by kernel_rfl) (by kernel_rfl) (by kernel_rfl) (fun _ _ _ h => h) (Or.inl ⟨by rfl, ?_⟩) (by assumption) ?_
        rotate_left
        · (intro w hSw; (try dsimp only at hSw); go_simp; try with_reducible rfl)
        simp only [Act.put, List.setIfInBounds_toArray, List.set_cons_zero, List.set_cons_succ]
        refine wpAnyH_ready (rs := [13]) (by kernel_rfl) (by simp) (AllReadyH.cons (o := ({ dst := some 65, op := Go.Op.call { callee := Go.Callee.value (Go.Operand.func 33), args := #[Go.Operand.tmp 60, Go.Operand.tmp 64], argTypes := #[22, 3] }, type := 22, pos := _, after := _, guard := some (5, false) } : Oper)) rfl (fun KK hK => ?_) AllReadyH.nil)
        go_simp
        refine (timesWord_ok _ (c.take d) qk wd hpc hplt (by omega) hpsz).mono ?_
        rintro x w8 ⟨rt, rfl, hrt, hb8⟩
        have hB8 := bcat hBd hb8 hged
        have hge8 := hB8.size
        have hst := hrt.sl (show 0 < w8.heap.size by have := hpc.pos; have := hb8.size; omega)
        obtain ⟨t1, t2, rfl⟩ := hrt.slice
        have hc8 := hsc9.below hb8
        try go_wp2_with fail
        refine hK.out _ _ hB8 (fun hHeld => ?_)
        clear hK
        try simp only [Act.put, List.setIfInBounds_toArray, List.set_cons_zero, List.set_cons_succ]
        refine wpAnyH_ready (rs := [15]) (by kernel_rfl) (by simp) (AllReadyH.cons (o := ({ dst := some 67, op := Go.Op.call { callee := Go.Callee.value (Go.Operand.func 20), args := #[Go.Operand.tmp 65, Go.Operand.tmp 66], argTypes := #[22, 22] }, type := 4, pos := _, after := _, guard := some (5, false) } : Oper)) rfl (fun KK hK => ?_) AllReadyH.nil)
        go_simp
        refine (ints_false _ _ _ _ w8 hst hc8 HPE.out).mono ?_
        rintro x w9 ⟨rfl, hb9⟩
        have hB9 := bcat hB8 hb9 hge8
        try go_wp2_with fail
        refine hK.out _ _ hB9 (fun hHeld => ?_)
        clear hK
        try simp only [Act.put, List.setIfInBounds_toArray, List.set_cons_zero, List.set_cons_succ]
        refine wpAnyH_take (i := 16) (oi := ({ dst := some 68, op := Go.Op.unOp Go.UnOp.not 4 (Go.Operand.tmp 67), type := 4, pos := _, after := _, guard := some (5, false) } : Oper)) (v := ?_) rfl (by kernel_rfl) (by kernel_rfl) (by kernel_rfl) (fun _ _ _ h => h) (Or.inl ⟨by rfl, ?_⟩) (by assumption) ?_
        rotate_left
        · (intro w hSw; (try dsimp only at hSw); go_simp; try with_reducible rfl)
        simp only [Act.put, List.setIfInBounds_toArray, List.set_cons_zero, List.set_cons_succ]
        refine wpAnyH_take (i := 17) (oi := ({ dst := some 69, op := Go.Op.pick (Go.Operand.tmp 57) (Go.Operand.const (Go.Value.bool true)) (Go.Operand.tmp 68), type := 4, pos := _, after := _, guard := none } : Oper)) (v := ?_) rfl (by kernel_rfl) (by kernel_rfl) (by kernel_rfl) (fun _ _ _ h => h) (Or.inl ⟨by rfl, ?_⟩) (by assumption) ?_
        rotate_left
        · (intro w hSw; (try dsimp only at hSw); go_simp; try with_reducible rfl)
        simp only [Act.put, List.setIfInBounds_toArray, List.set_cons_zero, List.set_cons_succ]
        refine wpAnyH_done (by kernel_rfl) ?_ _
        go_wp2
        go_roundw
        case rel => exact ⟨d + 1, by omega, by omega, by go_num, fun e h1 h2 h3 => by
            by_cases he : e = d
            · rw [he]; exact HNP.out
            · exact HA.out e h1 (by omega) h3, hB9⟩
        case measure => simp [intOf]; omega
    · have hdc : d ≠ c.length := fun e => hr0 (hdl e)
      have hrb0 : ((rm : Int) == 0) = false := by simpa using hr0
      have hrb1 : ¬ (rm : Int) = 0 := by omega
      have hrb2 : ((rm : Int) != 0) = true := by simpa using hr0
      have HR0 := hide hr0
      have HDV := hide hdvn
      clear hdl hdvi hdvn hr0
      go_wp2_with fail
      go_quiet (fail)
      go_wp2
      go_roundw
      case rel => exact ⟨d + 1, by omega, by omega, by go_num, fun e h1 h2 h3 => by
        by_cases he : e = d
        · rw [he] at h3
          exact absurd (HDV.out h3) HR0.out
        · exact HA.out e h1 (by omega) h3, bdrewN hBr _⟩
      case measure => simp [intOf]; omega

theorem roots_law (v : Value) (zs : List Int) (w : World) (hv : SlA w v zs) (hb : zs.length ≤ 17592186044416) :
    Calls Try.prog 6 #[v] w fun e w' => e = .returned (.bool true) ∧ Below w.heap.size w w' := by
  by_cases hl : zs.length ≤ 5000
  · by_cases h : wsc [zs] = 0
    · by_cases hz : red zs = []
      · exact roots_one v zs w hv hl h hz
      · exact roots_good v zs w hv hl h hz
    · exact roots_bad v zs w hv hl h
  · exact roots_long v zs w hv (by omega) hb

end Go.Proofs.Ytakmfhnigpmngaa
