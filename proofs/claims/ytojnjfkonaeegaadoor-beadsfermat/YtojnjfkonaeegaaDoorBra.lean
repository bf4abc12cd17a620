/- What beads' bracelets answers. -/
import Derived.Test.YtojnjfkonaeegaaDoorNkl
import Derived.Deep.RegionHeld3
namespace Go.Proofs.YtojnjfkonaeegaaDoor
open Go Go.RowKit
open YtojnjfkonaeegaaDoorQ (UN plus_ok minus_ok divq_ok of_any timesPlus_any decimal_any Tab UN.below UN.mono UN.nil us owns_mono)

set_option maxRecDepth 100000 in
set_option maxHeartbeats 8000000 in
theorem bracelets_ok (n k : Nat) (w : World) (hn0 : 0 < n) (hn : n ≤ 1000) (hk0 : 0 < k) (hk : k ≤ 1000) :
    Calls Tryd.prog 43 #[.int .i64 n, .int .i64 k] w fun e w' => ∃ v, e = .returned (.agg #[v]) ∧ UN w' 0 v (((lyw k (dvs n)).sum + (lyw k (dvs n)).sum + (k ^ ((n + 1) / 2) + k ^ (n / 2 + 1))) / 4) 9000 ∧ Below w.heap.size w w' := by
  have hB0 : Below w.heap.size w (w.alloc (.cells #[.slice none 0 0] 60)) := balloc w _
  obtain ⟨p, hp⟩ : ∃ p, (n + 1) / 2 = p := ⟨_, rfl⟩
  obtain ⟨q, hq⟩ : ∃ q, n / 2 = q := ⟨_, rfl⟩
  have hpl : p ≤ 1000 := by omega
  have hql : q + 1 ≤ 1000 := by omega
  have hw1 : IntKind.i64.wrap ((n : Int) + 1) = (n : Int) + 1 := by rw [IntKind.wrap_i64]; omega
  have hd1 : ((n : Int) + 1).tdiv 2 = (p : Int) := by rw [Int.tdiv_eq_ediv_of_nonneg (by omega)]; omega
  have hd2 : (n : Int).tdiv 2 = (q : Int) := by rw [Int.tdiv_eq_ediv_of_nonneg (by omega)]; omega
  have hw2 : IntKind.i64.wrap (p : Int) = (p : Int) := by rw [IntKind.wrap_i64]; omega
  have hw3 : IntKind.i64.wrap (q : Int) = (q : Int) := by rw [IntKind.wrap_i64]; omega
  have hw4 : IntKind.i64.wrap ((q : Int) + 1) = ((q + 1 : Nat) : Int) := by rw [IntKind.wrap_i64]; omega
  rw [hp, hq]
  clear hp hq
  have HN := hide (necklaces_ok n k (w.alloc (.cells #[.slice none 0 0] 60)) hn hk0 hk)
  generalize (lyw k (dvs n)).sum = N at *
  go_enter Tryd.func43, Tryd.ntmps43
  go_wp2_with fail
  refine HN.out.mono ?_
  rintro e w1 ⟨vT, rfl, hU1, hb1⟩
  obtain ⟨aT, mT, cT, rfl⟩ := UN.blk hU1
  have hB1 := bcat hB0 hb1 (by simp)
  have hR1 : Boxed w1 w.heap.size 60 (.slice none 0 0) := Boxed.below (Boxed.new _ _ _) hb1
  have hX2 := Boxed.new w1 60 (.slice aT mT cT)
  have hU2 := hU1.below (balloc w1 (.cells #[.slice aT mT cT] 60))
  have hB2 := hB1.alloc hB1.size (.cells #[.slice aT mT cT] 60)
  have hR2 := hR1.alloc (.cells #[.slice aT mT cT] 60)
  have HP1 := hide (power_ok k p (w1.alloc (.cells #[.slice aT mT cT] 60)) hk hpl)
  clear HN hU1 hb1 hB1 hR1 hB0
  go_wp2_with fail
  refine HP1.out.mono ?_
  rintro e w3 ⟨vP, rfl, hU3, hb3⟩
  obtain ⟨aP, mP, cP, rfl⟩ := UN.blk hU3
  have HP2 := hide (power_ok k (q + 1) w3 hk hql)
  have hX3 := Boxed.below hX2 hb3
  have hT3 := hU2.below hb3
  have hB3 := bcat hB2 hb3 hB2.size
  have hR3 := Boxed.below hR2 hb3
  clear HP1 hX2 hU2 hB2 hR2 hb3
  go_wp2_with fail
  refine HP2.out.mono ?_
  rintro e w4 ⟨vQ, rfl, hU4, hb4⟩
  obtain ⟨aQ, mQ, cQ, rfl⟩ := UN.blk hU4
  have HPL := hide (plus_ok _ _ _ _ _ _ w4 ((hU3.below hb4).mono (Nat.zero_le _) (Nat.le_refl _)) (hU4.mono (Nat.zero_le _) (Nat.le_refl _)) (by omega) (by omega))
  have hX4 := Boxed.below hX3 hb4
  have hT4 := hT3.below hb4
  have hB4 := bcat hB3 hb4 hB3.size
  have hR4 := Boxed.below hR3 hb4
  clear HP2 hX3 hT3 hB3 hR3 hU3 hU4 hb4
  go_wp2_with fail
  refine HPL.out.mono ?_
  rintro e w5 ⟨vR, rfl, hU5, hb5⟩
  obtain ⟨aR, mR, cR, rfl⟩ := UN.blk hU5
  have hX5 := (Boxed.below hX4 hb5).alloc (.cells #[.slice aR mR cR] 60)
  have hT5 := (hT4.below hb5).below (balloc w5 (.cells #[.slice aR mR cR] 60))
  have hB5 := (bcat hB4 hb5 hB4.size).alloc (bcat hB4 hb5 hB4.size).size (.cells #[.slice aR mR cR] 60)
  have hR5 := (Boxed.below hR4 hb5).alloc (.cells #[.slice aR mR cR] 60)
  have hY5 := Boxed.new w5 60 (.slice aR mR cR)
  have hV5 := (hU5.below (balloc w5 (.cells #[.slice aR mR cR] 60))).mono (B' := 0) (k' := 2005) (Nat.zero_le _) (by omega)
  clear HPL hX4 hT4 hB4 hR4 hU5 hb5
  go_wp2_with fail
  generalize (w5.alloc (.cells #[.slice aR mR cR] 60)) = w6 at *
  have hX6 : Boxed w6.drew w1.heap.size 60 (.slice aT mT cT) := hX5
  have hY6 : Boxed w6.drew w5.heap.size 60 (.slice aR mR cR) := hY5
  have hT6 : UN w6.drew 0 (.slice aT mT cT) N 5000 := hT5.below (bdrew (Below.refl _ w6))
  have hV6 : UN w6.drew 0 (.slice aR mR cR) (k ^ p + k ^ (q + 1)) 2005 := hV5.below (bdrew (Below.refl _ w6))
  have hB6 : Below w.heap.size w w6.drew := bdrew hB5
  have hR6 : Boxed w6.drew w.heap.size 60 (.slice none 0 0) := hR5
  have hS : ∀ W, Below w6.drew.heap.size w6.drew W → (Below w6.drew.heap.size w6.drew W ∧ W.cell? ⟨w1.heap.size, 0, none⟩ = some (.slice aT mT cT) ∧ W.cell? ⟨w5.heap.size, 0, none⟩ = some (.slice aR mR cR)) := fun W h =>
    ⟨h, (Boxed.below hX6 h).cell, (Boxed.below hY6 h).cell⟩
  clear hX5 hY5 hT5 hV5 hB5 hR5
  refine wp_region_held_drew (S := fun W => Below w6.drew.heap.size w6.drew W ∧ W.cell? ⟨w1.heap.size, 0, none⟩ = some (.slice aT mT cT) ∧ W.cell? ⟨w5.heap.size, 0, none⟩ = some (.slice aR mR cR)) (by kernel_rfl) (hS _ (Below.refl _ _)) (fun hHeld => ?_)
  generalize w6.drew = wd at *
  have hBr : Below wd.heap.size wd wd := Below.refl _ _
  refine wpAnyH_take (i := 0) (oi := ({ dst := some 24, op := Go.Op.load 60 (Go.Operand.tmp 5), type := 60, pos := _, after := _, guard := none } : Oper)) (v := ?_) rfl (by kernel_rfl) (by kernel_rfl) (by kernel_rfl) (fun _ _ _ h => h) (Or.inl ⟨by rfl, ?_⟩) (by assumption) ?_
  rotate_left
  · (intro w hSw; (try dsimp only at hSw); go_simp; try with_reducible rfl)
  simp only [Act.put, List.setIfInBounds_toArray, List.set_cons_zero, List.set_cons_succ]
  refine wpAnyH_take (i := 1) (oi := ({ dst := some 25, op := Go.Op.load 60 (Go.Operand.tmp 5), type := 60, pos := _, after := _, guard := none } : Oper)) (v := ?_) rfl (by kernel_rfl) (by kernel_rfl) (by kernel_rfl) (fun _ _ _ h => h) (Or.inl ⟨by rfl, ?_⟩) (by assumption) ?_
  rotate_left
  · (intro w hSw; (try dsimp only at hSw); go_simp; try with_reducible rfl)
  simp only [Act.put, List.setIfInBounds_toArray, List.set_cons_zero, List.set_cons_succ]
  refine wpAnyH_take (i := 3) (oi := ({ dst := some 27, op := Go.Op.load 60 (Go.Operand.tmp 6), type := 60, pos := _, after := _, guard := none } : Oper)) (v := ?_) rfl (by kernel_rfl) (by kernel_rfl) (by kernel_rfl) (fun _ _ _ h => h) (Or.inl ⟨by rfl, ?_⟩) (by assumption) ?_
  rotate_left
  · (intro w hSw; (try dsimp only at hSw); go_simp; try with_reducible rfl)
  simp only [Act.put, List.setIfInBounds_toArray, List.set_cons_zero, List.set_cons_succ]
  refine wpAnyH_ready (rs := [2, 9]) (by kernel_rfl) (by simp) (AllReadyH.cons (o := ({ dst := some 26, op := Go.Op.call { callee := Go.Callee.value (Go.Operand.func 68), args := #[Go.Operand.tmp 24, Go.Operand.tmp 25], argTypes := #[60, 60] }, type := 60, pos := _, after := _, guard := none } : Oper)) rfl (fun KK hK => ?_) (AllReadyH.cons (o := ({ dst := some 7, op := Go.Op.alloc 60, type := 0, pos := _, after := _, guard := none } : Oper)) rfl (fun KK hK => ?_) AllReadyH.nil))
  · go_simp
    refine (plus_ok _ _ _ _ _ _ wd (hT6.below hBr) (hT6.below hBr) (by omega) (by omega)).mono ?_
    rintro e W1 ⟨v1, rfl, hr1, hb1⟩
    obtain ⟨a1, m1, c1, rfl⟩ := UN.blk hr1
    have hBz1 := bcat2 hBr hb1
    try go_wp2_with fail
    refine hK.out _ _ (hS _ hBz1) (fun hHeld => ?_)
    clear hK
    try simp only [Act.put, List.setIfInBounds_toArray, List.set_cons_zero, List.set_cons_succ]
    refine wpAnyH_ready (rs := [4, 9]) (by kernel_rfl) (by simp) (AllReadyH.cons (o := ({ dst := some 28, op := Go.Op.call { callee := Go.Callee.value (Go.Operand.func 68), args := #[Go.Operand.tmp 26, Go.Operand.tmp 27], argTypes := #[60, 60] }, type := 60, pos := _, after := _, guard := none } : Oper)) rfl (fun KK hK => ?_) (AllReadyH.cons (o := ({ dst := some 7, op := Go.Op.alloc 60, type := 0, pos := _, after := _, guard := none } : Oper)) rfl (fun KK hK => ?_) AllReadyH.nil))
    · go_simp
      refine (plus_ok _ _ _ _ _ _ W1 ((hr1).mono (Nat.zero_le _) (Nat.le_refl _)) (hV6.below hBz1) (by omega) (by omega)).mono ?_
      rintro e W2 ⟨v2, rfl, hr2, hb2⟩
      obtain ⟨a2, m2, c2, rfl⟩ := UN.blk hr2
      have hBz2 := bcat2 hBz1 hb2
      try go_wp2_with fail
      refine hK.out _ _ (hS _ hBz2) (fun hHeld => ?_)
      clear hK
      try simp only [Act.put, List.setIfInBounds_toArray, List.set_cons_zero, List.set_cons_succ]
      refine wpAnyH_ready (rs := [5, 9]) (by kernel_rfl) (by simp) (AllReadyH.cons (o := ({ dst := some 29, op := Go.Op.call { callee := Go.Callee.value (Go.Operand.func 69), args := #[Go.Operand.tmp 28, Go.Operand.const (Go.Value.int Go.IntKind.u64 4)], argTypes := #[60, 89] }, type := 99, pos := _, after := _, guard := none } : Oper)) rfl (fun KK hK => ?_) (AllReadyH.cons (o := ({ dst := some 7, op := Go.Op.alloc 60, type := 0, pos := _, after := _, guard := none } : Oper)) rfl (fun KK hK => ?_) AllReadyH.nil))
      · go_simp
        refine (divq_ok _ _ _ 4 W2 ((hr2).mono (Nat.zero_le _) (Nat.le_refl _)) (by omega) (by omega) (by omega)).mono ?_
        rintro e W3 ⟨v3, rfl, hr3, hb3⟩
        obtain ⟨a3, m3, c3, rfl⟩ := UN.blk hr3
        have hBz3 := bcat2 hBz2 hb3
        try go_wp2_with fail
        refine hK.out _ _ (hS _ hBz3) (fun hHeld => ?_)
        clear hK
        try simp only [Act.put, List.setIfInBounds_toArray, List.set_cons_zero, List.set_cons_succ]
        refine wpAnyH_take (i := 6) (oi := ({ dst := some 23, op := Go.Op.move (Go.Operand.tmp 29), type := 99, pos := _, after := _, guard := none } : Oper)) (v := ?_) rfl (by kernel_rfl) (by kernel_rfl) (by kernel_rfl) (fun _ _ _ h => h) (Or.inl ⟨by rfl, ?_⟩) (by assumption) ?_
        rotate_left
        · (intro w hSw; (try dsimp only at hSw); go_simp; try with_reducible rfl)
        simp only [Act.put, List.setIfInBounds_toArray, List.set_cons_zero, List.set_cons_succ]
        refine wpAnyH_take (i := 7) (oi := ({ dst := some 30, op := Go.Op.extract (Go.Operand.tmp 23) 0, type := 60, pos := _, after := _, guard := none } : Oper)) (v := ?_) rfl (by kernel_rfl) (by kernel_rfl) (by kernel_rfl) (fun _ _ _ h => h) (Or.inl ⟨by rfl, ?_⟩) (by assumption) ?_
        rotate_left
        · (intro w hSw; (try dsimp only at hSw); go_simp; try with_reducible rfl)
        simp only [Act.put, List.setIfInBounds_toArray, List.set_cons_zero, List.set_cons_succ]
        refine wpAnyH_take (i := 8) (oi := ({ dst := some 31, op := Go.Op.extract (Go.Operand.tmp 23) 1, type := 89, pos := _, after := _, guard := none } : Oper)) (v := ?_) rfl (by kernel_rfl) (by kernel_rfl) (by kernel_rfl) (fun _ _ _ h => h) (Or.inl ⟨by rfl, ?_⟩) (by assumption) ?_
        rotate_left
        · (intro w hSw; (try dsimp only at hSw); go_simp; try with_reducible rfl)
        simp only [Act.put, List.setIfInBounds_toArray, List.set_cons_zero, List.set_cons_succ]
        refine wpAnyH_ready (rs := [9]) (by kernel_rfl) (by simp) (AllReadyH.cons (o := ({ dst := some 7, op := Go.Op.alloc 60, type := 0, pos := _, after := _, guard := none } : Oper)) rfl (fun KK hK => ?_) AllReadyH.nil)
        go_simp
        have hx4 := Boxed.new W3 60 (.slice none 0 0)
        have hBz4 := bcat2 hBz3 (balloc W3 (.cells #[.slice none 0 0] 60))
        have hu4 := (hr3).below (balloc W3 (.cells #[.slice none 0 0] 60))
        obtain ⟨W4, hW4⟩ : ∃ W4, (W3.alloc (.cells #[.slice none 0 0] 60)) = W4 := ⟨_, rfl⟩
        obtain ⟨b4, hbb4⟩ : ∃ b4, W3.heap.size = b4 := ⟨_, rfl⟩
        have hbw4 : wd.heap.size ≤ b4 := by rw [← hbb4]; exact (hBz3).size
        rw [hW4] at hx4 hBz4 hu4 ⊢
        rw [hbb4] at hx4 ⊢
        clear hW4 hbb4
        refine hK.out _ _ (hS _ hBz4) (fun hHeld => ?_)
        clear hK
        try simp only [Act.put, List.setIfInBounds_toArray, List.set_cons_zero, List.set_cons_succ]
        refine wpAnyH_ready (rs := [10]) (by kernel_rfl) (by simp) (AllReadyH.cons (o := ({ dst := none, op := Go.Op.store 60 (Go.Operand.tmp 7) (Go.Operand.tmp 30), type := 0, pos := _, after := _, guard := none } : Oper)) rfl (fun KK hK => ?_) AllReadyH.nil)
        have hc5 := hx4.cell
        have hf5 := hx4.frozen
        go_simp
        have hs5 := hx4.set (.slice a3 m3 c3)
        have hu5 := UN.set hu4 hx4 (by decide) (.slice a3 m3 c3)
        have hBz5 := (hBz4).setCell (p := ⟨b4, 0, none⟩) hbw4 (.slice a3 m3 c3)
        refine hK.out _ _ (hS _ hBz5) (fun hHeld => ?_)
        clear hK
        try simp only [Act.put, List.setIfInBounds_toArray, List.set_cons_zero, List.set_cons_succ]
        refine wpAnyH_take (i := 11) (oi := ({ dst := some 8, op := Go.Op.assign (Go.Operand.tmp 31), type := 89, pos := _, after := _, guard := none } : Oper)) (v := ?_) rfl (by kernel_rfl) (by kernel_rfl) (by kernel_rfl) (fun _ _ _ h => h) (Or.inl ⟨by rfl, ?_⟩) (by assumption) ?_
        rotate_left
        · (intro w hSw; (try dsimp only at hSw); go_simp; try with_reducible rfl)
        simp only [Act.put, List.setIfInBounds_toArray, List.set_cons_zero, List.set_cons_succ]
        refine wpAnyH_done (by kernel_rfl) ?_ _
        have hRz := Boxed.below hR6 hBz5
        have hcz := hRz.cell
        have hfz := hRz.frozen
        have hcb := hs5.cell
        have hRs := hRz.set (.slice a3 m3 c3)
        have hUs := UN.set hu5 hRz (by decide) (.slice a3 m3 c3)
        have hBs := (bcat hB6 hBz5 hB6.size).setCell (p := ⟨w.heap.size, 0, none⟩) (by simp) (.slice a3 m3 c3)
        have hcs := hRs.cell
        go_wp2
        exact bodyPost_ret (v := .agg #[.slice a3 m3 c3]) (by simp [results, Tryd.results43, go_sem, hcs]) rfl ⟨_, rfl, hUs.mono (Nat.zero_le _) (by omega), hBs⟩
      go_simp
      have hx6 := Boxed.new W2 60 (.slice none 0 0)
      have hBz6 := bcat2 hBz2 (balloc W2 (.cells #[.slice none 0 0] 60))
      have hu6 := (hr2).below (balloc W2 (.cells #[.slice none 0 0] 60))
      obtain ⟨W6, hW6⟩ : ∃ W6, (W2.alloc (.cells #[.slice none 0 0] 60)) = W6 := ⟨_, rfl⟩
      obtain ⟨b6, hbb6⟩ : ∃ b6, W2.heap.size = b6 := ⟨_, rfl⟩
      have hbw6 : wd.heap.size ≤ b6 := by rw [← hbb6]; exact (hBz2).size
      rw [hW6] at hx6 hBz6 hu6 ⊢
      rw [hbb6] at hx6 ⊢
      clear hW6 hbb6
      refine hK.out _ _ (hS _ hBz6) (fun hHeld => ?_)
      clear hK
      try simp only [Act.put, List.setIfInBounds_toArray, List.set_cons_zero, List.set_cons_succ]
      refine wpAnyH_ready (rs := [5]) (by kernel_rfl) (by simp) (AllReadyH.cons (o := ({ dst := some 29, op := Go.Op.call { callee := Go.Callee.value (Go.Operand.func 69), args := #[Go.Operand.tmp 28, Go.Operand.const (Go.Value.int Go.IntKind.u64 4)], argTypes := #[60, 89] }, type := 99, pos := _, after := _, guard := none } : Oper)) rfl (fun KK hK => ?_) AllReadyH.nil)
      go_simp
      refine (divq_ok _ _ _ 4 W6 ((hu6).mono (Nat.zero_le _) (Nat.le_refl _)) (by omega) (by omega) (by omega)).mono ?_
      rintro e W7 ⟨v7, rfl, hr7, hb7⟩
      obtain ⟨a7, m7, c7, rfl⟩ := UN.blk hr7
      have hBz7 := bcat2 hBz6 hb7
      have hx7 := Boxed.below hx6 hb7
      try go_wp2_with fail
      refine hK.out _ _ (hS _ hBz7) (fun hHeld => ?_)
      clear hK
      try simp only [Act.put, List.setIfInBounds_toArray, List.set_cons_zero, List.set_cons_succ]
      refine wpAnyH_take (i := 6) (oi := ({ dst := some 23, op := Go.Op.move (Go.Operand.tmp 29), type := 99, pos := _, after := _, guard := none } : Oper)) (v := ?_) rfl (by kernel_rfl) (by kernel_rfl) (by kernel_rfl) (fun _ _ _ h => h) (Or.inl ⟨by rfl, ?_⟩) (by assumption) ?_
      rotate_left
      · (intro w hSw; (try dsimp only at hSw); go_simp; try with_reducible rfl)
      simp only [Act.put, List.setIfInBounds_toArray, List.set_cons_zero, List.set_cons_succ]
      refine wpAnyH_take (i := 7) (oi := ({ dst := some 30, op := Go.Op.extract (Go.Operand.tmp 23) 0, type := 60, pos := _, after := _, guard := none } : Oper)) (v := ?_) rfl (by kernel_rfl) (by kernel_rfl) (by kernel_rfl) (fun _ _ _ h => h) (Or.inl ⟨by rfl, ?_⟩) (by assumption) ?_
      rotate_left
      · (intro w hSw; (try dsimp only at hSw); go_simp; try with_reducible rfl)
      simp only [Act.put, List.setIfInBounds_toArray, List.set_cons_zero, List.set_cons_succ]
      refine wpAnyH_take (i := 8) (oi := ({ dst := some 31, op := Go.Op.extract (Go.Operand.tmp 23) 1, type := 89, pos := _, after := _, guard := none } : Oper)) (v := ?_) rfl (by kernel_rfl) (by kernel_rfl) (by kernel_rfl) (fun _ _ _ h => h) (Or.inl ⟨by rfl, ?_⟩) (by assumption) ?_
      rotate_left
      · (intro w hSw; (try dsimp only at hSw); go_simp; try with_reducible rfl)
      simp only [Act.put, List.setIfInBounds_toArray, List.set_cons_zero, List.set_cons_succ]
      refine wpAnyH_ready (rs := [10]) (by kernel_rfl) (by simp) (AllReadyH.cons (o := ({ dst := none, op := Go.Op.store 60 (Go.Operand.tmp 7) (Go.Operand.tmp 30), type := 0, pos := _, after := _, guard := none } : Oper)) rfl (fun KK hK => ?_) AllReadyH.nil)
      have hc8 := hx7.cell
      have hf8 := hx7.frozen
      go_simp
      have hs8 := hx7.set (.slice a7 m7 c7)
      have hu8 := UN.set hr7 hx7 (by decide) (.slice a7 m7 c7)
      have hBz8 := (hBz7).setCell (p := ⟨b6, 0, none⟩) hbw6 (.slice a7 m7 c7)
      refine hK.out _ _ (hS _ hBz8) (fun hHeld => ?_)
      clear hK
      try simp only [Act.put, List.setIfInBounds_toArray, List.set_cons_zero, List.set_cons_succ]
      refine wpAnyH_take (i := 11) (oi := ({ dst := some 8, op := Go.Op.assign (Go.Operand.tmp 31), type := 89, pos := _, after := _, guard := none } : Oper)) (v := ?_) rfl (by kernel_rfl) (by kernel_rfl) (by kernel_rfl) (fun _ _ _ h => h) (Or.inl ⟨by rfl, ?_⟩) (by assumption) ?_
      rotate_left
      · (intro w hSw; (try dsimp only at hSw); go_simp; try with_reducible rfl)
      simp only [Act.put, List.setIfInBounds_toArray, List.set_cons_zero, List.set_cons_succ]
      refine wpAnyH_done (by kernel_rfl) ?_ _
      have hRz := Boxed.below hR6 hBz8
      have hcz := hRz.cell
      have hfz := hRz.frozen
      have hcb := hs8.cell
      have hRs := hRz.set (.slice a7 m7 c7)
      have hUs := UN.set hu8 hRz (by decide) (.slice a7 m7 c7)
      have hBs := (bcat hB6 hBz8 hB6.size).setCell (p := ⟨w.heap.size, 0, none⟩) (by simp) (.slice a7 m7 c7)
      have hcs := hRs.cell
      go_wp2
      exact bodyPost_ret (v := .agg #[.slice a7 m7 c7]) (by simp [results, Tryd.results43, go_sem, hcs]) rfl ⟨_, rfl, hUs.mono (Nat.zero_le _) (by omega), hBs⟩
    go_simp
    have hx9 := Boxed.new W1 60 (.slice none 0 0)
    have hBz9 := bcat2 hBz1 (balloc W1 (.cells #[.slice none 0 0] 60))
    have hu9 := (hr1).below (balloc W1 (.cells #[.slice none 0 0] 60))
    obtain ⟨W9, hW9⟩ : ∃ W9, (W1.alloc (.cells #[.slice none 0 0] 60)) = W9 := ⟨_, rfl⟩
    obtain ⟨b9, hbb9⟩ : ∃ b9, W1.heap.size = b9 := ⟨_, rfl⟩
    have hbw9 : wd.heap.size ≤ b9 := by rw [← hbb9]; exact (hBz1).size
    rw [hW9] at hx9 hBz9 hu9 ⊢
    rw [hbb9] at hx9 ⊢
    clear hW9 hbb9
    refine hK.out _ _ (hS _ hBz9) (fun hHeld => ?_)
    clear hK
    try simp only [Act.put, List.setIfInBounds_toArray, List.set_cons_zero, List.set_cons_succ]
    refine wpAnyH_ready (rs := [4]) (by kernel_rfl) (by simp) (AllReadyH.cons (o := ({ dst := some 28, op := Go.Op.call { callee := Go.Callee.value (Go.Operand.func 68), args := #[Go.Operand.tmp 26, Go.Operand.tmp 27], argTypes := #[60, 60] }, type := 60, pos := _, after := _, guard := none } : Oper)) rfl (fun KK hK => ?_) AllReadyH.nil)
    go_simp
    refine (plus_ok _ _ _ _ _ _ W9 ((hu9).mono (Nat.zero_le _) (Nat.le_refl _)) (hV6.below hBz9) (by omega) (by omega)).mono ?_
    rintro e W10 ⟨v10, rfl, hr10, hb10⟩
    obtain ⟨a10, m10, c10, rfl⟩ := UN.blk hr10
    have hBz10 := bcat2 hBz9 hb10
    have hx10 := Boxed.below hx9 hb10
    try go_wp2_with fail
    refine hK.out _ _ (hS _ hBz10) (fun hHeld => ?_)
    clear hK
    try simp only [Act.put, List.setIfInBounds_toArray, List.set_cons_zero, List.set_cons_succ]
    refine wpAnyH_ready (rs := [5]) (by kernel_rfl) (by simp) (AllReadyH.cons (o := ({ dst := some 29, op := Go.Op.call { callee := Go.Callee.value (Go.Operand.func 69), args := #[Go.Operand.tmp 28, Go.Operand.const (Go.Value.int Go.IntKind.u64 4)], argTypes := #[60, 89] }, type := 99, pos := _, after := _, guard := none } : Oper)) rfl (fun KK hK => ?_) AllReadyH.nil)
    go_simp
    refine (divq_ok _ _ _ 4 W10 ((hr10).mono (Nat.zero_le _) (Nat.le_refl _)) (by omega) (by omega) (by omega)).mono ?_
    rintro e W11 ⟨v11, rfl, hr11, hb11⟩
    obtain ⟨a11, m11, c11, rfl⟩ := UN.blk hr11
    have hBz11 := bcat2 hBz10 hb11
    have hx11 := Boxed.below hx10 hb11
    try go_wp2_with fail
    refine hK.out _ _ (hS _ hBz11) (fun hHeld => ?_)
    clear hK
    try simp only [Act.put, List.setIfInBounds_toArray, List.set_cons_zero, List.set_cons_succ]
    refine wpAnyH_take (i := 6) (oi := ({ dst := some 23, op := Go.Op.move (Go.Operand.tmp 29), type := 99, pos := _, after := _, guard := none } : Oper)) (v := ?_) rfl (by kernel_rfl) (by kernel_rfl) (by kernel_rfl) (fun _ _ _ h => h) (Or.inl ⟨by rfl, ?_⟩) (by assumption) ?_
    rotate_left
    · (intro w hSw; (try dsimp only at hSw); go_simp; try with_reducible rfl)
    simp only [Act.put, List.setIfInBounds_toArray, List.set_cons_zero, List.set_cons_succ]
    refine wpAnyH_take (i := 7) (oi := ({ dst := some 30, op := Go.Op.extract (Go.Operand.tmp 23) 0, type := 60, pos := _, after := _, guard := none } : Oper)) (v := ?_) rfl (by kernel_rfl) (by kernel_rfl) (by kernel_rfl) (fun _ _ _ h => h) (Or.inl ⟨by rfl, ?_⟩) (by assumption) ?_
    rotate_left
    · (intro w hSw; (try dsimp only at hSw); go_simp; try with_reducible rfl)
    simp only [Act.put, List.setIfInBounds_toArray, List.set_cons_zero, List.set_cons_succ]
    refine wpAnyH_take (i := 8) (oi := ({ dst := some 31, op := Go.Op.extract (Go.Operand.tmp 23) 1, type := 89, pos := _, after := _, guard := none } : Oper)) (v := ?_) rfl (by kernel_rfl) (by kernel_rfl) (by kernel_rfl) (fun _ _ _ h => h) (Or.inl ⟨by rfl, ?_⟩) (by assumption) ?_
    rotate_left
    · (intro w hSw; (try dsimp only at hSw); go_simp; try with_reducible rfl)
    simp only [Act.put, List.setIfInBounds_toArray, List.set_cons_zero, List.set_cons_succ]
    refine wpAnyH_ready (rs := [10]) (by kernel_rfl) (by simp) (AllReadyH.cons (o := ({ dst := none, op := Go.Op.store 60 (Go.Operand.tmp 7) (Go.Operand.tmp 30), type := 0, pos := _, after := _, guard := none } : Oper)) rfl (fun KK hK => ?_) AllReadyH.nil)
    have hc12 := hx11.cell
    have hf12 := hx11.frozen
    go_simp
    have hs12 := hx11.set (.slice a11 m11 c11)
    have hu12 := UN.set hr11 hx11 (by decide) (.slice a11 m11 c11)
    have hBz12 := (hBz11).setCell (p := ⟨b9, 0, none⟩) hbw9 (.slice a11 m11 c11)
    refine hK.out _ _ (hS _ hBz12) (fun hHeld => ?_)
    clear hK
    try simp only [Act.put, List.setIfInBounds_toArray, List.set_cons_zero, List.set_cons_succ]
    refine wpAnyH_take (i := 11) (oi := ({ dst := some 8, op := Go.Op.assign (Go.Operand.tmp 31), type := 89, pos := _, after := _, guard := none } : Oper)) (v := ?_) rfl (by kernel_rfl) (by kernel_rfl) (by kernel_rfl) (fun _ _ _ h => h) (Or.inl ⟨by rfl, ?_⟩) (by assumption) ?_
    rotate_left
    · (intro w hSw; (try dsimp only at hSw); go_simp; try with_reducible rfl)
    simp only [Act.put, List.setIfInBounds_toArray, List.set_cons_zero, List.set_cons_succ]
    refine wpAnyH_done (by kernel_rfl) ?_ _
    have hRz := Boxed.below hR6 hBz12
    have hcz := hRz.cell
    have hfz := hRz.frozen
    have hcb := hs12.cell
    have hRs := hRz.set (.slice a11 m11 c11)
    have hUs := UN.set hu12 hRz (by decide) (.slice a11 m11 c11)
    have hBs := (bcat hB6 hBz12 hB6.size).setCell (p := ⟨w.heap.size, 0, none⟩) (by simp) (.slice a11 m11 c11)
    have hcs := hRs.cell
    go_wp2
    exact bodyPost_ret (v := .agg #[.slice a11 m11 c11]) (by simp [results, Tryd.results43, go_sem, hcs]) rfl ⟨_, rfl, hUs.mono (Nat.zero_le _) (by omega), hBs⟩
  go_simp
  have hx13 := Boxed.new wd 60 (.slice none 0 0)
  have hBz13 := bcat2 hBr (balloc wd (.cells #[.slice none 0 0] 60))
  obtain ⟨W13, hW13⟩ : ∃ W13, (wd.alloc (.cells #[.slice none 0 0] 60)) = W13 := ⟨_, rfl⟩
  obtain ⟨b13, hbb13⟩ : ∃ b13, wd.heap.size = b13 := ⟨_, rfl⟩
  have hbw13 : wd.heap.size ≤ b13 := by rw [← hbb13]; exact (hBr).size
  rw [hW13] at hx13 hBz13  ⊢
  rw [hbb13] at hx13 ⊢
  clear hW13 hbb13
  refine hK.out _ _ (hS _ hBz13) (fun hHeld => ?_)
  clear hK
  try simp only [Act.put, List.setIfInBounds_toArray, List.set_cons_zero, List.set_cons_succ]
  refine wpAnyH_ready (rs := [2]) (by kernel_rfl) (by simp) (AllReadyH.cons (o := ({ dst := some 26, op := Go.Op.call { callee := Go.Callee.value (Go.Operand.func 68), args := #[Go.Operand.tmp 24, Go.Operand.tmp 25], argTypes := #[60, 60] }, type := 60, pos := _, after := _, guard := none } : Oper)) rfl (fun KK hK => ?_) AllReadyH.nil)
  go_simp
  refine (plus_ok _ _ _ _ _ _ W13 (hT6.below hBz13) (hT6.below hBz13) (by omega) (by omega)).mono ?_
  rintro e W14 ⟨v14, rfl, hr14, hb14⟩
  obtain ⟨a14, m14, c14, rfl⟩ := UN.blk hr14
  have hBz14 := bcat2 hBz13 hb14
  have hx14 := Boxed.below hx13 hb14
  try go_wp2_with fail
  refine hK.out _ _ (hS _ hBz14) (fun hHeld => ?_)
  clear hK
  try simp only [Act.put, List.setIfInBounds_toArray, List.set_cons_zero, List.set_cons_succ]
  refine wpAnyH_ready (rs := [4]) (by kernel_rfl) (by simp) (AllReadyH.cons (o := ({ dst := some 28, op := Go.Op.call { callee := Go.Callee.value (Go.Operand.func 68), args := #[Go.Operand.tmp 26, Go.Operand.tmp 27], argTypes := #[60, 60] }, type := 60, pos := _, after := _, guard := none } : Oper)) rfl (fun KK hK => ?_) AllReadyH.nil)
  go_simp
  refine (plus_ok _ _ _ _ _ _ W14 ((hr14).mono (Nat.zero_le _) (Nat.le_refl _)) (hV6.below hBz14) (by omega) (by omega)).mono ?_
  rintro e W15 ⟨v15, rfl, hr15, hb15⟩
  obtain ⟨a15, m15, c15, rfl⟩ := UN.blk hr15
  have hBz15 := bcat2 hBz14 hb15
  have hx15 := Boxed.below hx14 hb15
  try go_wp2_with fail
  refine hK.out _ _ (hS _ hBz15) (fun hHeld => ?_)
  clear hK
  try simp only [Act.put, List.setIfInBounds_toArray, List.set_cons_zero, List.set_cons_succ]
  refine wpAnyH_ready (rs := [5]) (by kernel_rfl) (by simp) (AllReadyH.cons (o := ({ dst := some 29, op := Go.Op.call { callee := Go.Callee.value (Go.Operand.func 69), args := #[Go.Operand.tmp 28, Go.Operand.const (Go.Value.int Go.IntKind.u64 4)], argTypes := #[60, 89] }, type := 99, pos := _, after := _, guard := none } : Oper)) rfl (fun KK hK => ?_) AllReadyH.nil)
  go_simp
  refine (divq_ok _ _ _ 4 W15 ((hr15).mono (Nat.zero_le _) (Nat.le_refl _)) (by omega) (by omega) (by omega)).mono ?_
  rintro e W16 ⟨v16, rfl, hr16, hb16⟩
  obtain ⟨a16, m16, c16, rfl⟩ := UN.blk hr16
  have hBz16 := bcat2 hBz15 hb16
  have hx16 := Boxed.below hx15 hb16
  try go_wp2_with fail
  refine hK.out _ _ (hS _ hBz16) (fun hHeld => ?_)
  clear hK
  try simp only [Act.put, List.setIfInBounds_toArray, List.set_cons_zero, List.set_cons_succ]
  refine wpAnyH_take (i := 6) (oi := ({ dst := some 23, op := Go.Op.move (Go.Operand.tmp 29), type := 99, pos := _, after := _, guard := none } : Oper)) (v := ?_) rfl (by kernel_rfl) (by kernel_rfl) (by kernel_rfl) (fun _ _ _ h => h) (Or.inl ⟨by rfl, ?_⟩) (by assumption) ?_
  rotate_left
  · (intro w hSw; (try dsimp only at hSw); go_simp; try with_reducible rfl)
  simp only [Act.put, List.setIfInBounds_toArray, List.set_cons_zero, List.set_cons_succ]
  refine wpAnyH_take (i := 7) (oi := ({ dst := some 30, op := Go.Op.extract (Go.Operand.tmp 23) 0, type := 60, pos := _, after := _, guard := none } : Oper)) (v := ?_) rfl (by kernel_rfl) (by kernel_rfl) (by kernel_rfl) (fun _ _ _ h => h) (Or.inl ⟨by rfl, ?_⟩) (by assumption) ?_
  rotate_left
  · (intro w hSw; (try dsimp only at hSw); go_simp; try with_reducible rfl)
  simp only [Act.put, List.setIfInBounds_toArray, List.set_cons_zero, List.set_cons_succ]
  refine wpAnyH_take (i := 8) (oi := ({ dst := some 31, op := Go.Op.extract (Go.Operand.tmp 23) 1, type := 89, pos := _, after := _, guard := none } : Oper)) (v := ?_) rfl (by kernel_rfl) (by kernel_rfl) (by kernel_rfl) (fun _ _ _ h => h) (Or.inl ⟨by rfl, ?_⟩) (by assumption) ?_
  rotate_left
  · (intro w hSw; (try dsimp only at hSw); go_simp; try with_reducible rfl)
  simp only [Act.put, List.setIfInBounds_toArray, List.set_cons_zero, List.set_cons_succ]
  refine wpAnyH_ready (rs := [10]) (by kernel_rfl) (by simp) (AllReadyH.cons (o := ({ dst := none, op := Go.Op.store 60 (Go.Operand.tmp 7) (Go.Operand.tmp 30), type := 0, pos := _, after := _, guard := none } : Oper)) rfl (fun KK hK => ?_) AllReadyH.nil)
  have hc17 := hx16.cell
  have hf17 := hx16.frozen
  go_simp
  have hs17 := hx16.set (.slice a16 m16 c16)
  have hu17 := UN.set hr16 hx16 (by decide) (.slice a16 m16 c16)
  have hBz17 := (hBz16).setCell (p := ⟨b13, 0, none⟩) hbw13 (.slice a16 m16 c16)
  refine hK.out _ _ (hS _ hBz17) (fun hHeld => ?_)
  clear hK
  try simp only [Act.put, List.setIfInBounds_toArray, List.set_cons_zero, List.set_cons_succ]
  refine wpAnyH_take (i := 11) (oi := ({ dst := some 8, op := Go.Op.assign (Go.Operand.tmp 31), type := 89, pos := _, after := _, guard := none } : Oper)) (v := ?_) rfl (by kernel_rfl) (by kernel_rfl) (by kernel_rfl) (fun _ _ _ h => h) (Or.inl ⟨by rfl, ?_⟩) (by assumption) ?_
  rotate_left
  · (intro w hSw; (try dsimp only at hSw); go_simp; try with_reducible rfl)
  simp only [Act.put, List.setIfInBounds_toArray, List.set_cons_zero, List.set_cons_succ]
  refine wpAnyH_done (by kernel_rfl) ?_ _
  have hRz := Boxed.below hR6 hBz17
  have hcz := hRz.cell
  have hfz := hRz.frozen
  have hcb := hs17.cell
  have hRs := hRz.set (.slice a16 m16 c16)
  have hUs := UN.set hu17 hRz (by decide) (.slice a16 m16 c16)
  have hBs := (bcat hB6 hBz17 hB6.size).setCell (p := ⟨w.heap.size, 0, none⟩) (by simp) (.slice a16 m16 c16)
  have hcs := hRs.cell
  go_wp2
  exact bodyPost_ret (v := .agg #[.slice a16 m16 c16]) (by simp [results, Tryd.results43, go_sem, hcs]) rfl ⟨_, rfl, hUs.mono (Nat.zero_le _) (by omega), hBs⟩

end Go.Proofs.YtojnjfkonaeegaaDoor
