/- What slices.Clone makes of a list, and the document's Cored of a word. -/
import Derived.Test.YtakmfhnigpmngaaFh
namespace Go.Proofs.Ytakmfhnigpmngaa
open Go Go.RowKit

theorem nilq1 (n cap : Nat) (W : World) : Sem.run Try.prog (binOp .eql 22 (.slice none n cap) (.slice none 0 0)) W = .ok (.bool true) W := by kernel_rfl
theorem nilq2 (b : Addr) (n cap : Nat) (W : World) : Sem.run Try.prog (binOp .eql 22 (.slice (some b) n cap) (.slice none 0 0)) W = .ok (.bool false) W := by kernel_rfl

set_option maxRecDepth 100000 in
set_option maxHeartbeats 2000000 in
theorem clone_ok (v : Value) (zs : List Int) (w : World) (hv : Sl w v zs) (hsm : zs.length ≤ 1000000) :
    Calls Try.prog 41 #[v] w fun e w' => ∃ r, e = .returned r ∧ Row w' w.heap.size r zs ∧ Below w.heap.size w w' := by
  have h0w := hv.pos
  obtain ⟨a, cap, pb, po, hve, hr, hp, hcap, hcm⟩ := id hv
  subst hve
  cases a with
  | none =>
    have h0 : zs.length = 0 := by
      rcases Nat.eq_zero_or_pos zs.length with h1 | h1
      · exact h1
      · have := hr.at_ h1; cases this
    have hys : zs = [] := List.length_eq_zero_iff.1 h0
    subst hys
    have hq := nilq1 0 cap
    go_enter Try.func41, Try.ntmps41
    go_wp2
    go_ret
    exact ⟨_, rfl, nil_row _ _, Below.refl _ _⟩
  | some b =>
    have hq := nilq2 b zs.length cap
    have hB0 := balloc w (.cells #[] 3)
    have hv0 := hv.below hB0
    have hrow0 : Row (w.alloc (.cells #[] 3)) w.heap.size (.slice (some ⟨w.heap.size, 0, none⟩) 0 0) [] := World.ownsRow_lit (base := w.heap.size) (e := 3) (size := 1) w #[] 0 (Nat.le_refl _) (by unfold maxLen; omega) (by simp)
    have hb0 := hB0.size
    clear hr hv
    go_enter Try.func41, Try.ntmps41
    go_wp2_with (first
      | (at_builtin; refine wpList_append_row rfl _ _ rfl w.heap.size _ _ [] zs rfl hrow0 rfl hv0 (by simp; omega) hb0 ?_))
    intro v' w2 hrow2 hgrow
    have hB2 : Below w.heap.size w w2 := hB0.grown hgrow hb0 (fun t e => owns_ge hrow0 t e)
    go_wp2
    go_ret
    exact ⟨_, rfl, hrow2, hB2⟩

set_option maxRecDepth 100000 in
set_option maxHeartbeats 4000000 in
theorem cored_ok (v : Value) (zs : List Int) (w : World) (hv : Sl w v zs) (hlt : Lt zs) (hsm : zs.length ≤ 1000000) :
    Calls Try.prog 29 #[v] w fun e w' => ∃ u1 u2 c a, e = .returned (.tuple #[u1, u2]) ∧ Sl w' u1 c ∧ Sl w' u2 a ∧ IsCore (red zs) c a ∧ Below w.heap.size w w' := by
  obtain ⟨i0, hi, hz0, hz1, hz2⟩ := info_parts info3b
  have h0w := hv.pos
  have HR := hide (reduced_ok v zs w hv hlt (by omega))
  have hLT := hlt.red
  have hln : (red zs).length ≤ 1000000 := Nat.le_trans (red_len zs) hsm
  generalize red zs = rs at *
  clear hlt hv hsm
  go_enter Try.func29, Try.ntmps29
  go_wp2_with fail
  refine HR.out.mono ?_
  rintro e w1 ⟨r, rfl, hrow, hl1⟩
  have hb1 := hl1.size
  have h01 : 0 < w1.heap.size := by omega
  have hs1 := hrow.sl h01
  obtain ⟨ra, rc, hre⟩ := hrow.slice
  subst hre
  have hs1c := hs1
  obtain ⟨a9, cap9, pb, po, hve, hr, hp, hcap, hcm⟩ := hs1c
  injection hve with e1 _ e2
  subst e1 e2
  have hcm' := hcm
  unfold maxLen at hcm
  rcases Nat.eq_zero_or_pos rs.length with hz | hpos
  · have hz : rs = [] := List.length_eq_zero_iff.1 hz
    subst hz
    have HN := hide (show IsCore [] [] [] from ⟨rfl, Cyc.nil⟩)
    have HS1 := hide (fun j => (Sl.empty ra rc h01 hcm').drewN j)
    have HS2 := hide (fun j => (Sl.nil h01).drewN j)
    clear hr hs1 hrow
    go_wp2_with fail
    go_loopw [0, 4] (fun o i wr => ∃ j : Nat, o = .slice ra 0 rc ∧ i = .slice none 0 0 ∧ wr = w1.drewN j) (fun _ _ _ => 0)
    case atStart => exact ⟨0, rfl, rfl, rfl⟩
    case round =>
      obtain ⟨j, rfl, rfl, rfl⟩ := hrel
      go_wp2
      go_quiet (fail)
      go_wp2
      go_ret2
      exact ⟨_, _, [], [], rfl, (HS1.out _).drewN _, (HS2.out _).drewN _, HN.out, bdrewN (bdrewN hl1 _) _⟩
  · obtain rfl := hr.at_ hpos
    have HCI := hide (fun n (h : CI rs n) h1 he => h.next hLT h1 he)
    have hge : w.heap.size ≤ pb := owns_ge hrow pb (by simp [Value.ownBlock])
    have HLT := hide hLT
    have HRD := hide hr
    clear hLT hr hs1 hrow
    go_wp2_with fail
    go_loopw [0, 4] (fun o i wr => ∃ n : Nat, o = .slice (some ⟨pb, po + n, none⟩) (rs.length - 2 * n) (rc - n) ∧ CI rs n ∧ Row wr w1.heap.size i (rs.take n) ∧ Below w1.heap.size w1 wr) (fun o _ _ => lenOf o)
    case atStart => exact ⟨0, by simp, CI.start rs, nil_row _ _, Below.refl _ _⟩
    case round =>
      obtain ⟨n, rfl, hci, hrow, hB⟩ := hrel
      have hle := hci.le
      have hBs := hB.size
      have HC := hide hci
      clear hci
      have hrcn : n < rc := by omega
      have hsl1 := fun (W : World) (h : Below w1.heap.size w1 W) => ((HRD.out.below h hp).piece (i := n) (m := rs.length - 2 * n) (b := some ⟨pb, po + n, none⟩) (by omega) (fun _ => rfl)).sl (n := rs.length - 2 * n) (cap := rc - n) (by simp; omega) (Nat.lt_of_lt_of_le hp h.size) (by omega) (by omega)
      have HS1 := hide hsl1
      clear hsl1
      have h0r : 0 < wr.heap.size := by omega
      have HS2 := hide (fun j => (hrow.sl h0r).drewN j)
      have HLS := hide (show 2 ≤ rs.length - 2 * n → n < rs.length - n ∧ rs.length - 2 * n - 1 = rs.length - 1 - n - n by intro h; omega)
      have HLE := hide (show rs.length - 2 * (n + 1) = rs.length - 2 * n - 1 - 1 ∧ rc - (n + 1) = rc - n - 1 by omega)
      have hmc : rs.length - 2 * n ≤ rc - n := by omega
      have hcc : rc - n ≤ 2 ^ 63 - 1 := by omega
      have hml : rs.length - 2 * n ≤ 1000000 := by omega
      have HNN := hide (show n + (rs.length - 2 * n) ≤ rs.length by omega)
      have HDN := hide (show rs.length - 2 * n ≤ 1 → IsCore rs ((rs.drop n).take (rs.length - 2 * n)) (rs.take n) from fun h => by
        refine HC.out.core ?_
        by_cases h1 : rs.length - n ≤ n
        · exact .inl h1
        · refine .inr (fun he => ?_)
          have := (HCI.out n HC.out (by omega) he).le
          omega)
      have HCN := hide (HC.out.core (n := n))
      have HNX := hide (HCI.out n HC.out)
      have HCELL := hide (fun j (hj : j < rs.length) => below_cell hB (HRD.out.cell j hj))
      have HTS := hide (fun (h : n < rs.length) => take_snoc' h)
      have HTL := hide (show (rs.take n).length ≤ 1000000 by simp; omega)
      obtain ⟨m, hm⟩ : ∃ m, m = rs.length - 2 * n := ⟨_, rfl⟩
      obtain ⟨c, hc⟩ : ∃ c, c = rc - n := ⟨_, rfl⟩
      obtain ⟨of, hof⟩ : ∃ of, of = po + n := ⟨_, rfl⟩
      rw [← hm, ← hc] at hmc HLE
      rw [← hm] at hml HLS HDN HNN
      rw [← hm, ← hc, ← hof] at HS1
      rw [← hc] at hcc
      rw [← hm, ← hc, ← hof]
      have HM := hide hm
      have HOF := hide hof
      generalize hF : rs.take n = F at *
      generalize hG : rs.drop n = G at *
      clear hm hc hof hle hrcn hF hG
      by_cases h2 : 2 ≤ m
      · obtain ⟨hn1, hn2⟩ := HLS.out h2
        have hx := HCELL.out n (by omega)
        have hy := HCELL.out (rs.length - 1 - n) (by omega)
        have hyb := lt_neg (HLT.out.at (show rs.length - 1 - n < rs.length by omega))
        obtain ⟨q, hq⟩ : ∃ q : Nat, q = rs.length - 1 - n := ⟨_, rfl⟩
        rw [← hq] at hy HNX HCN hn2 hyb
        obtain ⟨x, hxe⟩ : ∃ x, rs[n]?.getD 0 = x := ⟨_, rfl⟩
        obtain ⟨y, hye⟩ : ∃ y, rs[q]?.getD 0 = y := ⟨_, rfl⟩
        rw [hxe] at hx HCN HNX HTS
        rw [hye] at hy HCN HNX hyb
        obtain ⟨hy1, hy2⟩ := hyb
        rw [show po + n = of from HOF.out.symm] at hx
        rw [show po + q = of + (m - 1) by have := HOF.out; omega] at hy
        have HNN1 := hide hn1
        have hm1 : (m : Int) > 1 := by omega
        have hm2 : ((m : Int) - 1) = ((m - 1 : Nat) : Int) := by omega
        have hm3 : ((m - 1 : Nat) : Int) < (m : Int) := by omega
        have hm4 : (0 : Int) < (m : Int) := by omega
        have HQ := hide hq
        have HN2 := hide hn2
        clear hxe hye hq hn2 hn1
        by_cases hxy : x = -y
        · have HC2 := hide (HNX.out HNN1.out hxy)
          have HTS2 := hide (HTS.out (by have := HNN1.out; omega))
          have hxb : (x == -y) = true := by simpa using hxy
          clear HNX HCN HTS hxy HCELL HDN HLS
          have hown : wr.ownsRow w1.heap.size 3 1 u4 F.length (F.map (Value.int .i64)) := hrow
          obtain ⟨va, vc, rfl⟩ := hrow.slice
          go_wp2_with fail
          go_quiet (fail)
          have hown2 : (wr.drewN nq).ownsRow w1.heap.size 3 1 (.slice va F.length vc) F.length (F.map (Value.int .i64)) := hown
          have hx2 : (wr.drewN nq).cell? ⟨pb, of, none⟩ = some (.int .i64 x) := hx
          have hB2 : Below w1.heap.size w1 (wr.drewN nq) := bdrewN hB _
          have hB2s := hB2.size
          clear hx hy hown hB HS2
          have hmq : (1 : Int) ≤ ((m - 1 : Nat) : Int) := by omega
          have hmr : ((m - 1 : Nat) : Int) ≤ (c : Int) := by omega
          have hc1 : ¬ c = 1 := by omega
          generalize wr.drewN nq = W at *
          go_wp2_with (first
            | (at_builtin; refine wpList_append_own _ rfl _ _ 22 rfl w1.heap.size 3 i0 (.int .i64 0) 1 8 under22b hi hz0 hz1 hz2 rfl (by decide) _ _ _ rfl (World.ownsRow.alloc hown2 _) ⟨W.heap.size, 0, none⟩ 1 1 [.int .i64 x] rfl rfl ?c1 ?c2 ?c3 ?c4 ?c5 ?_))
          case c1 => exact cell_one_new _ _ _
          case c2 => simp [Value.oneCell']
          case c3 => unfold maxLen; have := HTL.out; omega
          case c4 => have := HTL.out; omega
          case c5 => simp; omega
          intro v' w2 hown' hgrow _
          obtain ⟨g', cap', rfl⟩ := ownsRow_succ hown'
          have hB3 : Below w1.heap.size w1 w2 := (hB2.alloc hB2s _).grown hgrow (by simp; omega) (fun t e => owns_ge hown2 t e)
          have hrow2 : Row w2 w1.heap.size (.slice (some ⟨g', 0, none⟩) (F.length + 1) cap') (rs.take (n + 1)) := by
            unfold Row
            rw [HTS2.out]
            simpa using hown'
          clear hown' hgrow hown2
          go_wp2
          go_roundw
          case rel => exact ⟨n + 1, by rw [HLE.out.1, HLE.out.2, show po + (n + 1) = of + 1 by have := HOF.out; omega], HC2.out, hrow2, hB3⟩
          case measure => simp [lenOf]; omega
        · have HC2 := hide (HCN.out (.inr hxy))
          have hxb : (x == -y) = false := by simpa using hxy
          clear HNX HCN HTS hxy HCELL HDN HLS
          obtain ⟨va, vc, rfl⟩ := hrow.slice
          go_wp2_with fail
          go_quiet (fail)
          go_wp2
          go_ret2
          exact ⟨_, _, _, _, rfl, HS1.out _ (bdrewN hB _), HS2.out _, by rw [← HM.out] at HC2; exact HC2.out, bcat hl1 (bdrewN hB _) hb1⟩
      · have HC2 := hide (HDN.out (by omega))
        clear HNX HCN HTS HCELL HDN HLS
        have hm1 : decide ((1 : Int) < (m : Int)) = false := by simp; omega
        have hm5 : decide (1 < m) = false := by simp; omega
        obtain ⟨va, vc, rfl⟩ := hrow.slice
        go_wp2_with fail
        go_quiet (fail)
        go_wp2
        go_ret2
        exact ⟨_, _, _, _, rfl, HS1.out _ (bdrewN hB _), HS2.out _, HC2.out, bcat hl1 (bdrewN hB _) hb1⟩

end Go.Proofs.Ytakmfhnigpmngaa
