/- The law FreeTurns: what is conjugated has a conjugated root; powers have the roots powers. -/
import Derived.Test.YtakmfhnigpmngaaFw
namespace Go.Proofs.Ytakmfhnigpmngaa
open Go Go.RowKit

theorem behind3 {u v x : Value} {zs ys xs : List Int} {W : World} (B : Nat) (hB : W.heap.size = B) (h : Sl W u zs) (k : Sl W v ys) (l : Sl W x xs) (hlt : Lt zs) (klt : Lt ys) (llt : Lt xs) (hsm : zs.length + (ys.length + xs.length) ≤ 1000000) :
    Calls Try.prog 21 #[.slice (some ⟨B, 0, none⟩) 3 3] (W.alloc (.cells #[u, v, x] 22)) fun e w' => ∃ r, e = .returned r ∧ Row w' W.heap.size r (red (zs ++ (ys ++ xs))) ∧ Below W.heap.size W w' := by
  subst hB
  refine (behind_ok _ [zs, ys, xs] _ (SlW.three h k l) (by intro y hy; simp at hy; rcases hy with hy | hy | hy <;> rw [hy] <;> assumption) (by simpa using hsm)).mono ?_
  rintro e w' ⟨r, rfl, hr, hb⟩
  have h0 := balloc W (.cells #[u, v, x] 22)
  exact ⟨r, rfl, by have := hr.mono h0.size; simpa using this, bcat h0 hb h0.size⟩
theorem core_exists {r : List Int} (hl : Lt r) : ∃ c A, IsCore r c A := by
  have key : ∀ k n, CI r n → r.length ≤ 2 * n + k → ∃ c A, IsCore r c A := by
    intro k
    induction k with
    | zero => intro n h hk; exact ⟨_, _, h.core (.inl (by omega))⟩
    | succ k ih =>
      intro n h hk
      by_cases h1 : r.length - n ≤ n
      · exact ⟨_, _, h.core (.inl h1)⟩
      · by_cases he : r[n]?.getD 0 = -(r[r.length - 1 - n]?.getD 0)
        · exact ih (n + 1) (h.next hl (by omega) he) (by omega)
        · exact ⟨_, _, h.core (.inr he)⟩
  exact key r.length 0 (CI.start r) (by omega)
/-- What is conjugated, and again and again. -/
theorem turned_eqv {zs A p xs : List Int} {k n : Nat} (h : IsCore (red zs) (pw p k) A) : Eqv (wi xs ++ (red (pw zs n) ++ xs)) ((wi xs ++ A) ++ (pw p (k * n) ++ wi (wi xs ++ A))) := by
  have h1 : Eqv (pw zs n) (pw (red zs) n) := (eqv_red zs).symm.pw n
  have h2 : Eqv (pw (red zs) n) (A ++ (pw (pw p k) n ++ wi A)) := by
    rw [h.eq]; exact pw_conj A (pw p k) n
  rw [pw_mul] at h2
  have h3 : Eqv (red (pw zs n)) (A ++ (pw p (k * n) ++ wi A)) := ((eqv_red _).trans h1).trans h2
  have h4 := (h3.right xs).left (wi xs)
  rw [wi_append, wi_wi]
  simpa using h4
theorem turned_root {zs xs a b : List Int} {k m n : Nat} (hn : 0 < n) (hv : RootOf (red zs) a k) (hw : RootOf (red (red (wi xs ++ (red (pw zs n) ++ xs)))) b m) : m = k * n ∧ red (wi xs ++ (a ++ xs)) = b := by
  obtain ⟨A, p, hcore, hp, hk, rfl⟩ := hv
  have hcr : CR (pw p k) := rd_core hcore (red_rd _) (by rw [pw_len]; exact Nat.mul_pos hk hp.pos)
  have hE : red (red (wi xs ++ (red (pw zs n) ++ xs))) = red ((wi xs ++ A) ++ (pw p (k * n) ++ wi (wi xs ++ A))) := by
    rw [red_idem]; exact turned_eqv hcore
  rw [hE] at hw
  obtain ⟨h1, h2⟩ := root_conj hp (CR.of_pw hk hcr) (Nat.mul_pos hk hn) hw
  refine ⟨h1, ?_⟩
  rw [h2]
  have h3 : Eqv (red (A ++ (p ++ wi A))) (A ++ (p ++ wi A)) := eqv_red _
  have h4 := (h3.right xs).left (wi xs)
  have h5 : Eqv (wi xs ++ (red (A ++ (p ++ wi A)) ++ xs)) ((wi xs ++ A) ++ (p ++ wi (wi xs ++ A))) := by
    rw [wi_append, wi_wi]
    simpa using h4
  exact h5
theorem turned_some {zs xs : List Int} {n : Nat} (hl : Lt zs) (hn : 0 < n) (h : red (red (wi xs ++ (red (pw zs n) ++ xs))) = []) : red zs = [] := by
  false_or_by_contra
  rename_i hz
  obtain ⟨c, A, hcore⟩ : ∃ c A, IsCore (red zs) c A := core_exists hl.red
  have hc := core_pos hcore (red_rd _) hz
  have hcr : CR c := rd_core hcore (red_rd _) hc
  obtain ⟨m, hm⟩ := perOf_exists hc
  obtain ⟨h1, h2, h3⟩ := prim_of hm hc
  rw [h2] at hcore
  rw [red_idem] at h
  have hE : Eqv [] ((wi xs ++ A) ++ (pw (c.take m) (c.length / m * n) ++ wi (wi xs ++ A))) := by
    have := turned_eqv (xs := xs) (n := n) hcore
    refine Eqv.trans ?_ this
    unfold Eqv
    rw [h]; rfl
  generalize wi xs ++ A = Y at hE
  have h5 : Eqv (wi Y ++ ([] ++ Y)) (pw (c.take m) (c.length / m * n)) := by
    refine ((hE.right Y).left (wi Y)).trans ?_
    have h6 : Eqv (wi Y ++ (Y ++ ((pw (c.take m) (c.length / m * n) ++ wi Y) ++ Y))) ((pw (c.take m) (c.length / m * n) ++ wi Y) ++ Y) := can1 Y _
    have h7 : Eqv (pw (c.take m) (c.length / m * n) ++ (wi Y ++ Y)) (pw (c.take m) (c.length / m * n) ++ []) := (can4 Y).left _
    have h8 : Eqv (wi Y ++ (Y ++ ((pw (c.take m) (c.length / m * n) ++ wi Y) ++ Y))) (pw (c.take m) (c.length / m * n)) := h6.trans (by simpa using h7)
    simpa using h8
  have h9 : Eqv [] (pw (c.take m) (c.length / m * n)) := by
    have := can4 Y
    exact (this.symm).trans (by simpa using h5)
  rw [h2] at hcr
  have h10 := (CR.of_pw h3 hcr).pw (Nat.mul_pos h3 hn)
  have h11 : red [] = red (pw (c.take m) (c.length / m * n)) := h9
  rw [red_of_rd h10.rd] at h11
  have := h10.pos
  rw [← h11] at this
  simp [red_nil] at this
theorem turned_none {zs xs : List Int} {n : Nat} (h : red zs = []) : red (wi xs ++ (red (pw zs n) ++ xs)) = [] := by
  have h1 : Eqv (pw zs n) (pw [] n) := Eqv.pw (show Eqv zs [] from h) n
  have h2 : pw ([] : List Int) n = [] := by
    have := pw_len [] n
    exact List.length_eq_zero_iff.1 (by simpa using this)
  rw [h2] at h1
  have h3 : red (pw zs n) = [] := h1
  rw [h3, List.nil_append]
  exact red_own' xs

set_option maxRecDepth 100000 in
set_option maxHeartbeats 4000000 in
theorem turns_low (v : Value) (u : Value) (zs : List Int) (xs : List Int) (w : World) (hv : SlA w v zs) (hu : SlA w u xs) (n : Int) (hn : n < 1) :
    Calls Try.prog 10 #[v, u, .int .i64 n] w fun e w' => e = .returned (.bool true) ∧ Below w.heap.size w w' := by
  obtain ⟨va, vc, hve⟩ := hv.shape
  obtain ⟨ua, uc, hue⟩ := hu.shape
  subst hve hue
  have HV := hide hv
  have HU := hide hu
  clear hv hu
  go_enter Try.func10, Try.ntmps10
  go_wp2_with fail
  refine (freeBegun_any w).mono ?_
  rintro x w1 ⟨rfl, hB, h01⟩
  have hge := hB.size
  have hsv := HV.out.up hB h01
  have hsu := HU.out.up hB h01
  clear HV HU
  go_wp2
  go_ret
  exact ⟨rfl, hB⟩

set_option maxRecDepth 100000 in
set_option maxHeartbeats 4000000 in
theorem turns_high (v : Value) (u : Value) (zs : List Int) (xs : List Int) (w : World) (hv : SlA w v zs) (hu : SlA w u xs) (n : Int) (h0 : ¬ n < 1) (hn : 6 < n) :
    Calls Try.prog 10 #[v, u, .int .i64 n] w fun e w' => e = .returned (.bool true) ∧ Below w.heap.size w w' := by
  obtain ⟨va, vc, hve⟩ := hv.shape
  obtain ⟨ua, uc, hue⟩ := hu.shape
  subst hve hue
  have HV := hide hv
  have HU := hide hu
  clear hv hu
  go_enter Try.func10, Try.ntmps10
  go_wp2_with fail
  refine (freeBegun_any w).mono ?_
  rintro x w1 ⟨rfl, hB, h01⟩
  have hge := hB.size
  have hsv := HV.out.up hB h01
  have hsu := HU.out.up hB h01
  clear HV HU
  go_wp2
  go_ret
  exact ⟨rfl, hB⟩

set_option maxRecDepth 100000 in
set_option maxHeartbeats 4000000 in
theorem turns_long (v : Value) (u : Value) (zs : List Int) (xs : List Int) (w : World) (hv : SlA w v zs) (hu : SlA w u xs) (hb1 : zs.length ≤ 17592186044416) (hb2 : xs.length ≤ 17592186044416) (n : Nat) (hn1 : 1 ≤ n) (hn2 : n ≤ 6) (hl : 1900 < zs.length * n + 2 * xs.length) :
    Calls Try.prog 10 #[v, u, .int .i64 n] w fun e w' => e = .returned (.bool true) ∧ Below w.heap.size w w' := by
  have hnb1 : ¬ ((n : Int) < 1) := by omega
  have hnb2 : ¬ ((6 : Int) < (n : Int)) := by omega
  obtain ⟨P, hP⟩ : ∃ P, zs.length * n = P := ⟨_, rfl⟩
  have hPi : (zs.length : Int) * (n : Int) = (P : Int) := by rw [← hP, Int.natCast_mul]
  have hPb : P ≤ 17592186044416 * 6 := by
    rw [← hP]
    exact Nat.mul_le_mul hb1 hn2
  rw [hP] at hl
  have hl1 : (1900 : Int) < (P : Int) + 2 * (xs.length : Int) := by omega
  have HP := hide hP
  clear hP hl
  obtain ⟨va, vc, hve⟩ := hv.shape
  obtain ⟨ua, uc, hue⟩ := hu.shape
  subst hve hue
  have HV := hide hv
  have HU := hide hu
  clear hv hu
  go_enter Try.func10, Try.ntmps10
  go_wp2_with fail
  refine (freeBegun_any w).mono ?_
  rintro x w1 ⟨rfl, hB, h01⟩
  have hge := hB.size
  have hsv := HV.out.up hB h01
  have hsu := HU.out.up hB h01
  clear HV HU
  go_wp2
  go_ret
  exact ⟨rfl, hB⟩

set_option maxRecDepth 100000 in
set_option maxHeartbeats 4000000 in
theorem turns_bad (v : Value) (u : Value) (zs : List Int) (xs : List Int) (w : World) (hv : SlA w v zs) (hu : SlA w u xs) (hb1 : zs.length ≤ 17592186044416) (hb2 : xs.length ≤ 17592186044416) (n : Nat) (hn1 : 1 ≤ n) (hn2 : n ≤ 6) (hl : zs.length * n + 2 * xs.length ≤ 1900) (h : wsc [zs, xs] ≠ 0) :
    Calls Try.prog 10 #[v, u, .int .i64 n] w fun e w' => e = .returned (.bool true) ∧ Below w.heap.size w w' := by
  have hnb1 : ¬ ((n : Int) < 1) := by omega
  have hnb2 : ¬ ((6 : Int) < (n : Int)) := by omega
  obtain ⟨P, hP⟩ : ∃ P, zs.length * n = P := ⟨_, rfl⟩
  have hPi : (zs.length : Int) * (n : Int) = (P : Int) := by rw [← hP, Int.natCast_mul]
  have hPb : P ≤ 17592186044416 * 6 := by
    rw [← hP]
    exact Nat.mul_le_mul hb1 hn2
  rw [hP] at hl
  have hl1 : (P : Int) + 2 * (xs.length : Int) ≤ 1900 := by omega
  have hl2 : ¬ ((1900 : Int) < (P : Int) + 2 * (xs.length : Int)) := by omega
  have HP := hide hP
  have hP2 : P ≤ 1900 := by omega
  have hxl : xs.length ≤ 950 := by omega
  clear hP hl
  obtain ⟨va, vc, hve⟩ := hv.shape
  obtain ⟨ua, uc, hue⟩ := hu.shape
  subst hve hue
  have HV := hide hv
  have HU := hide hu
  clear hv hu
  go_enter Try.func10, Try.ntmps10
  go_wp2_with fail
  refine (freeBegun_any w).mono ?_
  rintro x w1 ⟨rfl, hB, h01⟩
  have hge := hB.size
  have hsv := HV.out.up hB h01
  have hsu := HU.out.up hB h01
  clear HV HU
  go_wp2_with fail
  refine (wsfault_any _ _ zs xs w1 hsv hsu).mono ?_
  rintro x w2 ⟨rfl, hb2⟩
  replace hsv := hsv.below hb2
  replace hsu := hsu.below hb2
  replace hB := bcat hB hb2 hge
  replace hge := hB.size
  have hcb : (wsc [zs, xs] != 0) = true := by simpa using h
  generalize wsc [zs, xs] = c at *
  generalize wsa [zs, xs] = d at *
  have hfd := field26 c d
  go_wp2
  go_ret
  exact ⟨rfl, hB⟩

set_option maxRecDepth 100000 in
set_option maxHeartbeats 4000000 in
theorem turns_one (v : Value) (u : Value) (zs : List Int) (xs : List Int) (w : World) (hv : SlA w v zs) (hu : SlA w u xs) (hb1 : zs.length ≤ 17592186044416) (hb2 : xs.length ≤ 17592186044416) (n : Nat) (hn1 : 1 ≤ n) (hn2 : n ≤ 6) (hl : zs.length * n + 2 * xs.length ≤ 1900) (h : wsc [zs, xs] = 0) (hz : red zs = []) :
    Calls Try.prog 10 #[v, u, .int .i64 n] w fun e w' => e = .returned (.bool true) ∧ Below w.heap.size w w' := by
  have hnb1 : ¬ ((n : Int) < 1) := by omega
  have hnb2 : ¬ ((6 : Int) < (n : Int)) := by omega
  obtain ⟨P, hP⟩ : ∃ P, zs.length * n = P := ⟨_, rfl⟩
  have hPi : (zs.length : Int) * (n : Int) = (P : Int) := by rw [← hP, Int.natCast_mul]
  have hPb : P ≤ 17592186044416 * 6 := by
    rw [← hP]
    exact Nat.mul_le_mul hb1 hn2
  rw [hP] at hl
  have hl1 : (P : Int) + 2 * (xs.length : Int) ≤ 1900 := by omega
  have hl2 : ¬ ((1900 : Int) < (P : Int) + 2 * (xs.length : Int)) := by omega
  have HP := hide hP
  have hP2 : P ≤ 1900 := by omega
  have hxl : xs.length ≤ 950 := by omega
  clear hP hl
  have HWV := hide (wsc_all h zs (by simp))
  have HWU := hide (wsc_all h xs (by simp))
  have HC1 := hide (wsc_zero (ws := [zs, xs]) (by intro y hy; simp at hy; rcases hy with hy | hy <;> rw [hy]; exact HWV.out; exact HWU.out))
  have hzl : zs.length ≤ P := by rw [← HP.out]; exact Nat.le_mul_of_pos_right _ (by omega)
  have HVL := hide (show (red (pw zs n)).length ≤ P by have h9 := red_len (pw zs n); have h8 := pw_len zs n; rw [Nat.mul_comm] at h8; have h7 := HP.out; omega)
  have HWVV := hide (show Wd (red (wi xs ++ (red (pw zs n) ++ xs))) from Wd.of ((HWU.out.lt.wi.append (((HWV.out.lt.pw n).red).append HWU.out.lt)).red) (by
    have h9 := red_len (wi xs ++ (red (pw zs n) ++ xs))
    have h8 := HVL.out
    simp [wi_length] at h9
    omega))
  clear h
  have HRZ := hide hz
  have HRV := hide (show red (red (wi xs ++ (red (pw zs n) ++ xs))) = [] by rw [turned_none hz]; rfl)
  clear hz
  obtain ⟨va, vc, hve⟩ := hv.shape
  obtain ⟨ua, uc, hue⟩ := hu.shape
  subst hve hue
  have HV := hide hv
  have HU := hide hu
  clear hv hu
  go_enter Try.func10, Try.ntmps10
  go_wp2_with fail
  refine (freeBegun_any w).mono ?_
  rintro x w1 ⟨rfl, hB, h01⟩
  have hge := hB.size
  have hsv := HV.out.up hB h01
  have hsu := HU.out.up hB h01
  clear HV HU
  go_wp2_with fail
  refine (wsfault_any _ _ zs xs w1 hsv hsu).mono ?_
  rintro x w2 ⟨rfl, hb2⟩
  replace hsv := hsv.below hb2
  replace hsu := hsu.below hb2
  replace hB := bcat hB hb2 hge
  replace hge := hB.size
  rw [HC1.out.1, HC1.out.2]
  have hfd := field26 0 0
  go_wp2_with fail
  refine (turned_ok _ xs _ hsu HWU.out.lt (by omega)).mono ?_
  rintro x w4 ⟨rt, rfl, hrt, hb4⟩
  replace hsv := hsv.below hb4
  replace hsu := hsu.below hb4
  replace hB := bcat hB hb4 hge
  replace hge := hB.size
  have h0t : 0 < w4.heap.size := hsv.pos
  have hst := hrt.sl h0t
  obtain ⟨t1, t2, rfl⟩ := hrt.slice
  clear hrt
  go_wp2_with fail
  refine (timesWord_ok _ zs n _ hsv HWV.out.lt (by omega) (by have h7 := HP.out; rw [Nat.mul_comm] at h7; omega)).mono ?_
  rintro x w6 ⟨rp, rfl, hrp, hb6⟩
  replace hsv := hsv.below hb6
  replace hsu := hsu.below hb6
  replace hst := hst.below hb6
  replace hB := bcat hB hb6 hge
  replace hge := hB.size
  have h0p : 0 < w6.heap.size := hsv.pos
  have hsp := hrp.sl h0p
  obtain ⟨p1, p2, rfl⟩ := hrp.slice
  clear hrp
  go_wp2_with fail
  refine (behind3 _ rfl hst hsp hsu HWU.out.lt.wi (HWV.out.lt.pw n).red HWU.out.lt (by have h8 := HVL.out; have h9 := wi_length xs; omega)).mono ?_
  rintro x w8 ⟨rv, rfl, hrv, hb8⟩
  replace hsv := hsv.below hb8
  replace hsu := hsu.below hb8
  replace hst := hst.below hb8
  replace hsp := hsp.below hb8
  replace hB := bcat hB hb8 hge
  replace hge := hB.size
  have h0y : 0 < w8.heap.size := hsv.pos
  have hsy := hrv.sl h0y
  obtain ⟨y1, y2, rfl⟩ := hrv.slice
  clear hrv
  go_wp2_with fail
  refine (root_one_good _ zs _ hsv HWV.out HRZ.out).mono ?_
  rintro x w10 ⟨rfl, hb10⟩
  replace hsv := hsv.below hb10
  replace hsu := hsu.below hb10
  replace hst := hst.below hb10
  replace hsp := hsp.below hb10
  replace hsy := hsy.below hb10
  replace hB := bcat hB hb10 hge
  replace hge := hB.size
  have hb11 : Below w10.heap.size w10 (w10.alloc (.cells #[.int .i64 6, .int .i64 0] 26)) := balloc w10 _
  replace hsv := hsv.below hb11
  replace hsu := hsu.below hb11
  replace hst := hst.below hb11
  replace hsp := hsp.below hb11
  replace hsy := hsy.below hb11
  replace hB := bcat hB hb11 hge
  replace hge := hB.size
  have bx : Blk (w10.alloc (.cells #[.int .i64 6, .int .i64 0] 26)) w10.heap.size 26 [.int .i64 6, .int .i64 0] := blk0 _ _
  obtain ⟨bx12a, bx12b, bx12c, bx12d⟩ := bx.two
  go_wp2_with fail
  clear bx12a bx12b bx12c bx12d
  refine (root_one_good _ _ _ hsy HWVV.out HRV.out).mono ?_
  rintro x w13 ⟨rfl, hb13⟩
  replace hsv := hsv.below hb13
  replace hsu := hsu.below hb13
  replace hst := hst.below hb13
  replace hsp := hsp.below hb13
  replace hsy := hsy.below hb13
  replace bx : Blk (w13) w10.heap.size 26 [.int .i64 6, .int .i64 0] := Blk.of_eq bx (hb13.block _ bx.lt)
  replace hB := bcat hB hb13 hge
  replace hge := hB.size
  have hb14 : Below w13.heap.size w13 (w13.alloc (.cells #[.int .i64 6, .int .i64 0] 26)) := balloc w13 _
  replace hsv := hsv.below hb14
  replace hsu := hsu.below hb14
  replace hst := hst.below hb14
  replace hsp := hsp.below hb14
  replace hsy := hsy.below hb14
  replace bx : Blk (w13.alloc (.cells #[.int .i64 6, .int .i64 0] 26)) w10.heap.size 26 [.int .i64 6, .int .i64 0] := Blk.of_eq bx (hb14.block _ bx.lt)
  replace hB := bcat hB hb14 hge
  replace hge := hB.size
  have bq : Blk (w13.alloc (.cells #[.int .i64 6, .int .i64 0] 26)) w13.heap.size 26 [.int .i64 6, .int .i64 0] := blk0 _ _
  obtain ⟨bx15a, bx15b, bx15c, bx15d⟩ := bx.two
  obtain ⟨bq15a, bq15b, bq15c, bq15d⟩ := bq.two
  go_wp2_with fail
  clear bx15a bx15b bx15c bx15d bq15a bq15b bq15c bq15d
  refine (reduced_ok _ zs _ hsv HWV.out.lt (by omega)).mono ?_
  rintro x w16 ⟨rr, rfl, hrr, hb16⟩
  replace hsv := hsv.below hb16
  replace hsu := hsu.below hb16
  replace hst := hst.below hb16
  replace hsp := hsp.below hb16
  replace hsy := hsy.below hb16
  replace bx : Blk (w16) w10.heap.size 26 [.int .i64 6, .int .i64 0] := Blk.of_eq bx (hb16.block _ bx.lt)
  replace bq : Blk (w16) w13.heap.size 26 [.int .i64 6, .int .i64 0] := Blk.of_eq bq (hb16.block _ bq.lt)
  replace hB := bcat hB hb16 hge
  replace hge := hB.size
  rw [HRZ.out] at hrr
  obtain ⟨r1, r2, hr9⟩ := hrr.slice
  subst hr9
  clear hrr
  obtain ⟨bx17a, bx17b, bx17c, bx17d⟩ := bx.two
  obtain ⟨bq17a, bq17b, bq17c, bq17d⟩ := bq.two
  go_wp2
  clear bx17a bx17b bx17c bx17d bq17a bq17b bq17c bq17d
  go_ret
  exact ⟨rfl, hB⟩

set_option maxRecDepth 100000 in
set_option maxHeartbeats 4000000 in
theorem turns_good (v : Value) (u : Value) (zs : List Int) (xs : List Int) (w : World) (hv : SlA w v zs) (hu : SlA w u xs) (hb1 : zs.length ≤ 17592186044416) (hb2 : xs.length ≤ 17592186044416) (n : Nat) (hn1 : 1 ≤ n) (hn2 : n ≤ 6) (hl : zs.length * n + 2 * xs.length ≤ 1900) (h : wsc [zs, xs] = 0) (hz : red zs ≠ []) :
    Calls Try.prog 10 #[v, u, .int .i64 n] w fun e w' => e = .returned (.bool true) ∧ Below w.heap.size w w' := by
  have hnb1 : ¬ ((n : Int) < 1) := by omega
  have hnb2 : ¬ ((6 : Int) < (n : Int)) := by omega
  obtain ⟨P, hP⟩ : ∃ P, zs.length * n = P := ⟨_, rfl⟩
  have hPi : (zs.length : Int) * (n : Int) = (P : Int) := by rw [← hP, Int.natCast_mul]
  have hPb : P ≤ 17592186044416 * 6 := by
    rw [← hP]
    exact Nat.mul_le_mul hb1 hn2
  rw [hP] at hl
  have hl1 : (P : Int) + 2 * (xs.length : Int) ≤ 1900 := by omega
  have hl2 : ¬ ((1900 : Int) < (P : Int) + 2 * (xs.length : Int)) := by omega
  have HP := hide hP
  have hP2 : P ≤ 1900 := by omega
  have hxl : xs.length ≤ 950 := by omega
  clear hP hl
  have HWV := hide (wsc_all h zs (by simp))
  have HWU := hide (wsc_all h xs (by simp))
  have HC1 := hide (wsc_zero (ws := [zs, xs]) (by intro y hy; simp at hy; rcases hy with hy | hy <;> rw [hy]; exact HWV.out; exact HWU.out))
  have hzl : zs.length ≤ P := by rw [← HP.out]; exact Nat.le_mul_of_pos_right _ (by omega)
  have HVL := hide (show (red (pw zs n)).length ≤ P by have h9 := red_len (pw zs n); have h8 := pw_len zs n; rw [Nat.mul_comm] at h8; have h7 := HP.out; omega)
  have HWVV := hide (show Wd (red (wi xs ++ (red (pw zs n) ++ xs))) from Wd.of ((HWU.out.lt.wi.append (((HWV.out.lt.pw n).red).append HWU.out.lt)).red) (by
    have h9 := red_len (wi xs ++ (red (pw zs n) ++ xs))
    have h8 := HVL.out
    simp [wi_length] at h9
    omega))
  clear h
  have HRZ := hide hz
  have HRV := hide (show red (red (wi xs ++ (red (pw zs n) ++ xs))) ≠ [] from fun h => hz (turned_some HWV.out.lt (by omega) h))
  clear hz
  obtain ⟨va, vc, hve⟩ := hv.shape
  obtain ⟨ua, uc, hue⟩ := hu.shape
  subst hve hue
  have HV := hide hv
  have HU := hide hu
  clear hv hu
  go_enter Try.func10, Try.ntmps10
  go_wp2_with fail
  refine (freeBegun_any w).mono ?_
  rintro x w1 ⟨rfl, hB, h01⟩
  have hge := hB.size
  have hsv := HV.out.up hB h01
  have hsu := HU.out.up hB h01
  clear HV HU
  go_wp2_with fail
  refine (wsfault_any _ _ zs xs w1 hsv hsu).mono ?_
  rintro x w2 ⟨rfl, hb2⟩
  replace hsv := hsv.below hb2
  replace hsu := hsu.below hb2
  replace hB := bcat hB hb2 hge
  replace hge := hB.size
  rw [HC1.out.1, HC1.out.2]
  have hfd := field26 0 0
  go_wp2_with fail
  refine (turned_ok _ xs _ hsu HWU.out.lt (by omega)).mono ?_
  rintro x w4 ⟨rt, rfl, hrt, hb4⟩
  replace hsv := hsv.below hb4
  replace hsu := hsu.below hb4
  replace hB := bcat hB hb4 hge
  replace hge := hB.size
  have h0t : 0 < w4.heap.size := hsv.pos
  have hst := hrt.sl h0t
  obtain ⟨t1, t2, rfl⟩ := hrt.slice
  clear hrt
  go_wp2_with fail
  refine (timesWord_ok _ zs n _ hsv HWV.out.lt (by omega) (by have h7 := HP.out; rw [Nat.mul_comm] at h7; omega)).mono ?_
  rintro x w6 ⟨rp, rfl, hrp, hb6⟩
  replace hsv := hsv.below hb6
  replace hsu := hsu.below hb6
  replace hst := hst.below hb6
  replace hB := bcat hB hb6 hge
  replace hge := hB.size
  have h0p : 0 < w6.heap.size := hsv.pos
  have hsp := hrp.sl h0p
  obtain ⟨p1, p2, rfl⟩ := hrp.slice
  clear hrp
  go_wp2_with fail
  refine (behind3 _ rfl hst hsp hsu HWU.out.lt.wi (HWV.out.lt.pw n).red HWU.out.lt (by have h8 := HVL.out; have h9 := wi_length xs; omega)).mono ?_
  rintro x w8 ⟨rv, rfl, hrv, hb8⟩
  replace hsv := hsv.below hb8
  replace hsu := hsu.below hb8
  replace hst := hst.below hb8
  replace hsp := hsp.below hb8
  replace hB := bcat hB hb8 hge
  replace hge := hB.size
  have h0y : 0 < w8.heap.size := hsv.pos
  have hsy := hrv.sl h0y
  obtain ⟨y1, y2, rfl⟩ := hrv.slice
  clear hrv
  go_wp2_with fail
  refine (root_good_good _ zs _ hsv HWV.out HRZ.out).mono ?_
  rintro x w10 ⟨⟨ra, a, k, rfl, hra, hroot, hk⟩, hb10⟩
  replace hsv := hsv.below hb10
  replace hsu := hsu.below hb10
  replace hst := hst.below hb10
  replace hsp := hsp.below hb10
  replace hsy := hsy.below hb10
  replace hB := bcat hB hb10 hge
  replace hge := hB.size
  have HWA := hide (show Lt a ∧ a.length ≤ 1900 from ⟨root_lt hroot HWV.out.lt.red, by have h8 := root_len hroot; have h9 := red_len zs; omega⟩)
  have HRO := hide hroot
  clear hroot
  have h0a : 0 < w10.heap.size := hsv.pos
  have hsa := hra.sl h0a
  obtain ⟨a1, a2, rfl⟩ := hra.slice
  clear hra
  have hb11 : Below w10.heap.size w10 (w10.alloc (.cells #[.int .i64 0, .int .i64 0] 26)) := balloc w10 _
  replace hsv := hsv.below hb11
  replace hsu := hsu.below hb11
  replace hst := hst.below hb11
  replace hsp := hsp.below hb11
  replace hsy := hsy.below hb11
  replace hsa := hsa.below hb11
  replace hB := bcat hB hb11 hge
  replace hge := hB.size
  have bx : Two (w10.alloc (.cells #[.int .i64 0, .int .i64 0] 26)) w10.heap.size := Two.new w10
  obtain ⟨_, bx12a, bx12b, bx12c, bx12d, bx12e, bx12f⟩ := id bx
  go_wp2_with fail
  clear bx12a bx12b bx12c bx12d bx12e bx12f
  refine (root_good_good _ _ _ hsy HWVV.out HRV.out).mono ?_
  rintro x w13 ⟨⟨rb, b, m, rfl, hrb, hroot, hm⟩, hb13⟩
  replace hsv := hsv.below hb13
  replace hsu := hsu.below hb13
  replace hst := hst.below hb13
  replace hsp := hsp.below hb13
  replace hsy := hsy.below hb13
  replace hsa := hsa.below hb13
  replace bx := Two.below bx hb13
  replace hB := bcat hB hb13 hge
  replace hge := hB.size
  obtain ⟨hmk, hbe⟩ := turned_root (by omega) HRO.out hroot
  have HBE := hide hbe
  have hkn : (k : Int) * (n : Int) = (m : Int) := by rw [hmk, Int.natCast_mul]
  have hwm : IntKind.i64.wrap (m : Int) = (m : Int) := by rw [IntKind.wrap_i64]; omega
  clear hroot hbe hmk
  have h0b : 0 < w13.heap.size := hsv.pos
  have hsb := hrb.sl h0b
  obtain ⟨b1, b2, rfl⟩ := hrb.slice
  clear hrb
  have hb14 : Below w13.heap.size w13 (w13.alloc (.cells #[.int .i64 0, .int .i64 0] 26)) := balloc w13 _
  replace hsv := hsv.below hb14
  replace hsu := hsu.below hb14
  replace hst := hst.below hb14
  replace hsp := hsp.below hb14
  replace hsy := hsy.below hb14
  replace hsa := hsa.below hb14
  replace hsb := hsb.below hb14
  replace bx := Two.below bx hb14
  replace hB := bcat hB hb14 hge
  replace hge := hB.size
  have bq : Two (w13.alloc (.cells #[.int .i64 0, .int .i64 0] 26)) w13.heap.size := Two.new w13
  obtain ⟨_, bx15a, bx15b, bx15c, bx15d, bx15e, bx15f⟩ := id bx
  obtain ⟨_, bq15a, bq15b, bq15c, bq15d, bq15e, bq15f⟩ := id bq
  go_wp2_with fail
  clear bx15a bx15b bx15c bx15d bx15e bx15f bq15a bq15b bq15c bq15d bq15e bq15f
  refine (turned_ok _ xs _ hsu HWU.out.lt (by omega)).mono ?_
  rintro x w16 ⟨rt, rfl, hrt, hb16⟩
  replace hsv := hsv.below hb16
  replace hsu := hsu.below hb16
  replace hst := hst.below hb16
  replace hsp := hsp.below hb16
  replace hsy := hsy.below hb16
  replace hsa := hsa.below hb16
  replace hsb := hsb.below hb16
  replace bx := Two.below bx hb16
  replace bq := Two.below bq hb16
  replace hB := bcat hB hb16 hge
  replace hge := hB.size
  have h0s : 0 < w16.heap.size := hsv.pos
  have hss := hrt.sl h0s
  obtain ⟨s1, s2, rfl⟩ := hrt.slice
  clear hrt
  obtain ⟨_, bx17a, bx17b, bx17c, bx17d, bx17e, bx17f⟩ := id bx
  obtain ⟨_, bq17a, bq17b, bq17c, bq17d, bq17e, bq17f⟩ := id bq
  go_wp2_with fail
  clear bx17a bx17b bx17c bx17d bx17e bx17f bq17a bq17b bq17c bq17d bq17e bq17f
  refine (behind3 _ rfl hss hsa hsu HWU.out.lt.wi HWA.out.1 HWU.out.lt (by have h8 := HWA.out.2; have h9 := wi_length xs; omega)).mono ?_
  rintro x w18 ⟨rw, rfl, hrw, hb18⟩
  replace hsv := hsv.below hb18
  replace hsu := hsu.below hb18
  replace hst := hst.below hb18
  replace hsp := hsp.below hb18
  replace hsy := hsy.below hb18
  replace hsa := hsa.below hb18
  replace hsb := hsb.below hb18
  replace hss := hss.below hb18
  replace bx := Two.below bx hb18
  replace bq := Two.below bq hb18
  replace hB := bcat hB hb18 hge
  replace hge := hB.size
  have h0z : 0 < w18.heap.size := hsv.pos
  have hsz := hrw.sl h0z
  obtain ⟨z1, z2, rfl⟩ := hrw.slice
  clear hrw
  obtain ⟨_, bx19a, bx19b, bx19c, bx19d, bx19e, bx19f⟩ := id bx
  obtain ⟨_, bq19a, bq19b, bq19c, bq19d, bq19e, bq19f⟩ := id bq
  go_wp2_with fail
  clear bx19a bx19b bx19c bx19d bx19e bx19f bq19a bq19b bq19c bq19d bq19e bq19f
  refine (ints_true _ _ _ _ _ hsz hsb HBE.out).mono ?_
  rintro x w20 ⟨rfl, hb20⟩
  replace hsv := hsv.below hb20
  replace hsu := hsu.below hb20
  replace hst := hst.below hb20
  replace hsp := hsp.below hb20
  replace hsy := hsy.below hb20
  replace hsa := hsa.below hb20
  replace hsb := hsb.below hb20
  replace hss := hss.below hb20
  replace hsz := hsz.below hb20
  replace bx := Two.below bx hb20
  replace bq := Two.below bq hb20
  replace hB := bcat hB hb20 hge
  replace hge := hB.size
  obtain ⟨_, bx21a, bx21b, bx21c, bx21d, bx21e, bx21f⟩ := id bx
  obtain ⟨_, bq21a, bq21b, bq21c, bq21d, bq21e, bq21f⟩ := id bq
  go_wp2
  clear bx21a bx21b bx21c bx21d bx21e bx21f bq21a bq21b bq21c bq21d bq21e bq21f
  go_ret
  exact ⟨rfl, hB⟩

theorem turns_law (v u : Value) (zs xs : List Int) (n : Int) (w : World) (hv : SlA w v zs) (hu : SlA w u xs) (hb1 : zs.length ≤ 17592186044416) (hb2 : xs.length ≤ 17592186044416) :
    Calls Try.prog 10 #[v, u, .int .i64 n] w fun e w' => e = .returned (.bool true) ∧ Below w.heap.size w w' := by
  by_cases h0 : n < 1
  · exact turns_low v u zs xs w hv hu n h0
  · by_cases h6 : 6 < n
    · exact turns_high v u zs xs w hv hu n h0 h6
    · obtain ⟨m, rfl⟩ : ∃ m : Nat, n = m := ⟨n.toNat, by omega⟩
      by_cases hl : zs.length * m + 2 * xs.length ≤ 1900
      · by_cases h : wsc [zs, xs] = 0
        · by_cases hz : red zs = []
          · exact turns_one v u zs xs w hv hu hb1 hb2 m (by omega) (by omega) hl h hz
          · exact turns_good v u zs xs w hv hu hb1 hb2 m (by omega) (by omega) hl h hz
        · exact turns_bad v u zs xs w hv hu hb1 hb2 m (by omega) (by omega) hl h
      · exact turns_long v u zs xs w hv hu hb1 hb2 m (by omega) (by omega) (by omega)

end Go.Proofs.Ytakmfhnigpmngaa
