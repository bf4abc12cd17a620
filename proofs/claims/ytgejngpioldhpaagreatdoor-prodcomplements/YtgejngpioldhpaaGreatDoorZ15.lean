/- The law ProdComplements at a normal subgroup of a group of at most 24 things: its walk. Condition: the library's table of places lies as its text lays it. The law ProdComplements: which way is gone. Condition: the library's table of places lies as its text lays it. -/
import Derived.Test.YtgejngpioldhpaaGreatDoorZ14
namespace Go.Proofs.YtgejngpioldhpaaGreatDoor
open Go Go.RowKit

structure CA (n e : Nat) (zs : List Int) (q : Nat → Bool) (W : World) (r1 : Option Addr) (r2 r3 : Nat) : Prop where
  ans : ∃ (P : List (Nat → Bool)) (ms : List (List Int)) (k : Nat), P.length ≤ k ∧ SInv n zs e P k 0 ∧ ms.Perm (LL n P) ∧ srt ms ∧ SlL W (.slice r1 r2 r3) (ms.filter (cplB n zs e q))
theorem CA.below {n e : Nat} {zs : List Int} {q : Nat → Bool} {W W' : World} {r1 : Option Addr} {r2 r3 : Nat} (h : CA n e zs q W r1 r2 r3) (hb : Below W.heap.size W W') : CA n e zs q W' r1 r2 r3 := by
  obtain ⟨P, ms, k, h1, h2, h3, h4, h5⟩ := h.ans
  exact ⟨P, ms, k, h1, h2, h3, h4, h5.below hb⟩

set_option maxRecDepth 100000 in
set_option maxHeartbeats 8000000 in
theorem pcm_good (n e : Nat) (v1 : Option Addr) (v2 v3 mb mo l2 l3 : Nat) (zs ls : List Int) (q : Nat → Bool) (w : World)
    (hv : Sl w (.slice v1 v2 v3) zs) (hl : Sl w (.slice (some ⟨mb, mo, none⟩) l2 l3) ls) (hT : Tab w) (hb8 : zs.length * 8 ≤ 140737488355328) (hbl : ls.length * 8 ≤ 140737488355328) (h24 : n ≤ 24) (hl0 : 0 < l2) (hl60 : l2 ≤ 60)
    (HCP : Hid (∀ W u l9, Below w.heap.size w W → Sl W u zs → Sl W l9 ls → Calls Tryz.prog 5 #[.agg #[.int .i64 n, u], l9] W fun x W' => ∃ r1 r2 r3, x = .returned (.tuple #[.slice r1 r2 r3, .agg #[.int .i64 0, .int .i64 0]]) ∧ CA n e zs q W' r1 r2 r3 ∧ Below W.heap.size W W'))
    (HNF : Hid (∀ W, Below w.heap.size w W → Calls Tryz.prog 8 #[.agg #[.int .i64 n, .slice v1 v2 v3], .slice (some ⟨mb, mo, none⟩) l2 l3] W fun x W' => x = .returned (.agg #[.int .i64 0, .int .i64 0]) ∧ Below W.heap.size W W'))
    (HLA : Hid (∀ W r1 r2 r3, Below w.heap.size w W → CA n e zs q W r1 r2 r3 → BoxG W w.heap.size n (.slice v1 v2 v3) → Boxed W (w.heap.size + 1) 22 (.slice (some ⟨mb, mo, none⟩) l2 l3) → Calls Tryz.prog 11 #[.slice r1 r2 r3, .agg #[.int .i64 0, .int .i64 0], .agg #[.int .i64 0, .int .i64 0], .func (.func 12) #[] #[.pointer (some ⟨w.heap.size, 0, none⟩), .pointer (some ⟨w.heap.size + 1, 0, none⟩)]] W fun x W' => x = .returned (.bool true) ∧ Below W.heap.size W W'))
    (HNE : Hid (∀ W r1 r2 r3, CA n e zs q W r1 r2 r3 → ¬ 1 < Nat.gcd l2 (n / l2) → 0 < r2)) :
    Calls Tryz.prog 3 #[.agg #[.int .i64 n, .slice v1 v2 v3], .slice (some ⟨mb, mo, none⟩) l2 l3] w fun x w' => x = .returned (.bool true) ∧ Below w.heap.size w w' := by
  have HOG := hide (fun W (h : Below w.heap.size w W) => ownGroup_any n (.slice v1 v2 v3) zs W (hv.below h) hb8)
  have HOL := hide (fun W (h : Below w.heap.size w W) => own_sl (.slice (some ⟨mb, mo, none⟩) l2 l3) ls W (hl.below h) hbl (Nat.lt_of_lt_of_le hT.lt h.size))
  have HBE := hide (fun W (h : Below w.heap.size w W) => prodBegun_any W (hT.below h))
  have HGC := hide (fun W => gcd_ok l2 (n / l2) W (by omega) (Nat.le_trans (Nat.div_le_self _ _) (by omega)))
  have hn24 : ¬ (24 : Int) < (n : Int) := by omega
  have hyz : ¬ (l2 : Int) = 0 := by omega
  have hyn : ¬ l2 = 0 := by omega
  have hdl : n / l2 ≤ 24 := Nat.le_trans (Nat.div_le_self _ _) h24
  have hq9 : Int.tdiv (n : Int) (l2 : Int) = ((n / l2 : Nat) : Int) := by rw [Int.tdiv_eq_ediv_of_nonneg (by omega), Int.natCast_ediv]
  have HWD := hide (show IntKind.i64.wrap ((n : Int) / (l2 : Int)) = (n : Int) / (l2 : Int) by
    rw [← Int.natCast_ediv]
    clear hq9
    generalize n / l2 = d9 at *
    rw [IntKind.wrap_i64]; omega)
  obtain ⟨w0, hw0⟩ : ∃ w0, w0 = (w.alloc (.cells #[.int .i64 n, .slice v1 v2 v3] 24)).alloc (.cells #[.slice (some ⟨mb, mo, none⟩) l2 l3] 22) := ⟨_, rfl⟩
  have hB0 : Below w.heap.size w w0 := by rw [hw0]; exact (balloc w _).alloc (by simp) _
  have hX0 : BoxG w0 w.heap.size n (.slice v1 v2 v3) := by rw [hw0]; exact Blk.alloc (blk0 _ _) _
  have hL0 : Boxed w0 (w.heap.size + 1) 22 (.slice (some ⟨mb, mo, none⟩) l2 l3) := by
    rw [hw0]
    have := Boxed.new (w.alloc (.cells #[.int .i64 n, .slice v1 v2 v3] 24)) 22 (.slice (some ⟨mb, mo, none⟩) l2 l3)
    rwa [World.size_alloc] at this
  have hs0 : w0.heap.size = w.heap.size + 1 + 1 := by rw [hw0]; simp
  have hs1 : w.heap.size + 1 < w0.heap.size := by omega
  obtain ⟨g0, g1, _, _⟩ := hX0.two
  have l0 : w0.cell? ⟨w.heap.size + 1, 0, none⟩ = some (.slice (some ⟨mb, mo, none⟩) l2 l3) := hL0.cell
  have hS : ∀ W, Below w0.heap.size w0 W → (Below w0.heap.size w0 W ∧ W.cell? ⟨w.heap.size, 0, none⟩ = some (.int .i64 n) ∧ W.cell? ⟨w.heap.size, 1, none⟩ = some (.slice v1 v2 v3) ∧ W.cell? ⟨w.heap.size + 1, 0, none⟩ = some (.slice (some ⟨mb, mo, none⟩) l2 l3)) := fun W h => ⟨h, below_cell h g0, below_cell h g1, below_cell h l0⟩
  have hBc : Below w0.heap.size w0 w0.drew := bdrew (Below.refl _ _)
  have hS0 := hS _ hBc
  have HS0 := hide hs0
  clear hs0
  go_enter Tryz.func3, Tryz.ntmps3
  go_wp2_with fail
  rw [← hw0]
  clear hw0
  go_cut [5, 6] (fun s5 s6 wx => ∃ eb r1 r2 r3, s6 = .pointer (some ⟨eb, 0, none⟩) ∧ s5 = .slice r1 r2 r3 ∧ w0.heap.size ≤ eb ∧ Blk wx eb 27 [.int .i64 0, .int .i64 0] ∧ CA n e zs q wx r1 r2 r3 ∧ Below w0.heap.size w0 wx)
  case first =>
    refine wp_region_held_drew (S := fun W => Below w0.heap.size w0 W ∧ W.cell? ⟨w.heap.size, 0, none⟩ = some (.int .i64 n) ∧ W.cell? ⟨w.heap.size, 1, none⟩ = some (.slice v1 v2 v3) ∧ W.cell? ⟨w.heap.size + 1, 0, none⟩ = some (.slice (some ⟨mb, mo, none⟩) l2 l3)) (by kernel_rfl) hS0 (fun hHeld => ?_)
    generalize w0.drew = wd at *
    refine wpAnyH_take (i := 0) (oi := ({ dst := some 9, op := Go.Op.load 24 (Go.Operand.tmp 2), type := 24, pos := _, after := _, guard := none } : Oper)) (v := ?_) rfl (by kernel_rfl) (by kernel_rfl) (by kernel_rfl) (fun _ _ _ h => h) (Or.inl ⟨by rfl, ?_⟩) (by assumption) ?_
    rotate_left
    · (intro w hSw; (try dsimp only at hSw); go_simp; try with_reducible rfl)
    simp only [Act.put, List.setIfInBounds_toArray, List.set_cons_zero, List.set_cons_succ]
    refine wpAnyH_take (i := 2) (oi := ({ dst := some 11, op := Go.Op.load 22 (Go.Operand.tmp 3), type := 22, pos := _, after := _, guard := none } : Oper)) (v := ?_) rfl (by kernel_rfl) (by kernel_rfl) (by kernel_rfl) (fun _ _ _ h => h) (Or.inl ⟨by rfl, ?_⟩) (by assumption) ?_
    rotate_left
    · (intro w hSw; (try dsimp only at hSw); go_simp; try with_reducible rfl)
    simp only [Act.put, List.setIfInBounds_toArray, List.set_cons_zero, List.set_cons_succ]
    refine wpAnyH_ready (rs := [1, 8]) (by kernel_rfl) (by simp) (AllReadyH.cons (o := ({ dst := some 10, op := Go.Op.call { callee := Go.Callee.value (Go.Operand.func 6), args := #[Go.Operand.tmp 9], argTypes := #[24] }, type := 24, pos := _, after := _, guard := none } : Oper)) rfl (fun KK hK => ?_) (AllReadyH.cons (o := ({ dst := some 6, op := Go.Op.alloc 27, type := 0, pos := _, after := _, guard := none } : Oper)) rfl (fun KK hK => ?_) AllReadyH.nil))
    · go_simp
      refine (HOG.out _ (bcat2 hB0 hBc)).mono ?_
      rintro x1 WA ⟨u, rfl, hu, hl1⟩
      replace hBc := bcat2 hBc hl1
      try go_wp2_with fail
      refine hK.out _ _ (hS _ hBc) (fun hHeld => ?_)
      clear hK
      try simp only [Act.put, List.setIfInBounds_toArray, List.set_cons_zero, List.set_cons_succ]
      refine wpAnyH_ready (rs := [3, 8]) (by kernel_rfl) (by simp) (AllReadyH.cons (o := ({ dst := some 12, op := Go.Op.call { callee := Go.Callee.value (Go.Operand.func 7), args := #[Go.Operand.tmp 11], argTypes := #[22] }, type := 22, pos := _, after := _, guard := none } : Oper)) rfl (fun KK hK => ?_) (AllReadyH.cons (o := ({ dst := some 6, op := Go.Op.alloc 27, type := 0, pos := _, after := _, guard := none } : Oper)) rfl (fun KK hK => ?_) AllReadyH.nil))
      · go_simp
        refine (HOL.out _ (bcat2 hB0 hBc)).mono ?_
        rintro x2 WB ⟨l9, rfl, hl9, hl2⟩
        replace hBc := bcat2 hBc hl2
        replace hu := hu.below hl2
        try go_wp2_with fail
        refine hK.out _ _ (hS _ hBc) (fun hHeld => ?_)
        clear hK
        try simp only [Act.put, List.setIfInBounds_toArray, List.set_cons_zero, List.set_cons_succ]
        refine wpAnyH_ready (rs := [4, 8]) (by kernel_rfl) (by simp) (AllReadyH.cons (o := ({ dst := some 13, op := Go.Op.call { callee := Go.Callee.value (Go.Operand.func 5), args := #[Go.Operand.tmp 10, Go.Operand.tmp 12], argTypes := #[24, 22] }, type := 28, pos := _, after := _, guard := none } : Oper)) rfl (fun KK hK => ?_) (AllReadyH.cons (o := ({ dst := some 6, op := Go.Op.alloc 27, type := 0, pos := _, after := _, guard := none } : Oper)) rfl (fun KK hK => ?_) AllReadyH.nil))
        · go_simp
          refine (HCP.out _ _ _ (bcat2 hB0 hBc) hu hl9).mono ?_
          rintro x3 WC ⟨r1, r2, r3, rfl, hrr, hl3⟩
          replace hBc := bcat2 hBc hl3
          clear hu hl9
          try go_wp2_with fail
          refine hK.out _ _ (hS _ hBc) (fun hHeld => ?_)
          clear hK
          try simp only [Act.put, List.setIfInBounds_toArray, List.set_cons_zero, List.set_cons_succ]
          refine wpAnyH_take (i := 5) (oi := ({ dst := some 8, op := Go.Op.move (Go.Operand.tmp 13), type := 28, pos := _, after := _, guard := none } : Oper)) (v := ?_) rfl (by kernel_rfl) (by kernel_rfl) (by kernel_rfl) (fun _ _ _ h => h) (Or.inl ⟨by rfl, ?_⟩) (by assumption) ?_
          rotate_left
          · (intro w hSw; (try dsimp only at hSw); go_simp; try with_reducible rfl)
          simp only [Act.put, List.setIfInBounds_toArray, List.set_cons_zero, List.set_cons_succ]
          refine wpAnyH_take (i := 6) (oi := ({ dst := some 14, op := Go.Op.extract (Go.Operand.tmp 8) 0, type := 25, pos := _, after := _, guard := none } : Oper)) (v := ?_) rfl (by kernel_rfl) (by kernel_rfl) (by kernel_rfl) (fun _ _ _ h => h) (Or.inl ⟨by rfl, ?_⟩) (by assumption) ?_
          rotate_left
          · (intro w hSw; (try dsimp only at hSw); go_simp; try with_reducible rfl)
          simp only [Act.put, List.setIfInBounds_toArray, List.set_cons_zero, List.set_cons_succ]
          refine wpAnyH_take (i := 7) (oi := ({ dst := some 15, op := Go.Op.extract (Go.Operand.tmp 8) 1, type := 27, pos := _, after := _, guard := none } : Oper)) (v := ?_) rfl (by kernel_rfl) (by kernel_rfl) (by kernel_rfl) (fun _ _ _ h => h) (Or.inl ⟨by rfl, ?_⟩) (by assumption) ?_
          rotate_left
          · (intro w hSw; (try dsimp only at hSw); go_simp; try with_reducible rfl)
          simp only [Act.put, List.setIfInBounds_toArray, List.set_cons_zero, List.set_cons_succ]
          refine wpAnyH_ready (rs := [8]) (by kernel_rfl) (by simp) (AllReadyH.cons (o := ({ dst := some 6, op := Go.Op.alloc 27, type := 0, pos := _, after := _, guard := none } : Oper)) rfl (fun KK hK => ?_) AllReadyH.nil)
          have hgE : w0.heap.size ≤ (WC).heap.size := hBc.size
          have ha2 := balloc (WC) (.cells #[.int .i64 0, .int .i64 0] 27)
          replace hBc := bcat2 hBc ha2
          replace hrr := hrr.below ha2
          have hE : Blk ((WC).alloc (.cells #[.int .i64 0, .int .i64 0] 27)) (WC).heap.size 27 [.int .i64 0, .int .i64 0] := blk0 _ _
          go_simp
          refine hK.out _ _ (hS _ hBc) (fun hHeld => ?_)
          clear hK
          try simp only [Act.put, List.setIfInBounds_toArray, List.set_cons_zero, List.set_cons_succ]
          generalize (WC).alloc (.cells #[.int .i64 0, .int .i64 0] 27) = WE at *
          generalize (WC).heap.size = eb at *
          refine wpAnyH_take (i := 9) (oi := ({ dst := some 5, op := Go.Op.assign (Go.Operand.tmp 14), type := 25, pos := _, after := _, guard := none } : Oper)) (v := ?_) rfl (by kernel_rfl) (by kernel_rfl) (by kernel_rfl) (fun _ _ _ h => h) (Or.inl ⟨by rfl, ?_⟩) (by assumption) ?_
          rotate_left
          · (intro w hSw; (try dsimp only at hSw); go_simp; try with_reducible rfl)
          simp only [Act.put, List.setIfInBounds_toArray, List.set_cons_zero, List.set_cons_succ]
          refine wpAnyH_ready (rs := [10]) (by kernel_rfl) (by simp) (AllReadyH.cons (o := ({ dst := none, op := Go.Op.store 27 (Go.Operand.tmp 6) (Go.Operand.tmp 15), type := 0, pos := _, after := _, guard := none } : Oper)) rfl (fun KK hK => ?_) AllReadyH.nil)
          obtain ⟨_, k0, k1, k2, k3, k4, k5⟩ := Two.mk' hE
          go_simp
          refine hK.out _ _ (hS _ hBc) (fun hHeld => ?_)
          clear hK
          try simp only [Act.put, List.setIfInBounds_toArray, List.set_cons_zero, List.set_cons_succ]
          clear k0 k1 k2 k3 k4 k5
          refine wpAnyH_done (by kernel_rfl) ?_ _
          go_wp2
          go_meet
          exact ⟨eb, r1, r2, r3, rfl, rfl, hgE, hE, hrr, hBc⟩
        have hgE : w0.heap.size ≤ (WB).heap.size := hBc.size
        have ha2 := balloc (WB) (.cells #[.int .i64 0, .int .i64 0] 27)
        replace hBc := bcat2 hBc ha2
        replace hu := hu.below ha2
        replace hl9 := hl9.below ha2
        have hE : Blk ((WB).alloc (.cells #[.int .i64 0, .int .i64 0] 27)) (WB).heap.size 27 [.int .i64 0, .int .i64 0] := blk0 _ _
        go_simp
        refine hK.out _ _ (hS _ hBc) (fun hHeld => ?_)
        clear hK
        try simp only [Act.put, List.setIfInBounds_toArray, List.set_cons_zero, List.set_cons_succ]
        generalize (WB).alloc (.cells #[.int .i64 0, .int .i64 0] 27) = WE at *
        generalize (WB).heap.size = eb at *
        refine wpAnyH_ready (rs := [4]) (by kernel_rfl) (by simp) (AllReadyH.cons (o := ({ dst := some 13, op := Go.Op.call { callee := Go.Callee.value (Go.Operand.func 5), args := #[Go.Operand.tmp 10, Go.Operand.tmp 12], argTypes := #[24, 22] }, type := 28, pos := _, after := _, guard := none } : Oper)) rfl (fun KK hK => ?_) AllReadyH.nil)
        go_simp
        refine (HCP.out _ _ _ (bcat2 hB0 hBc) hu hl9).mono ?_
        rintro x3 WC ⟨r1, r2, r3, rfl, hrr, hl3⟩
        replace hBc := bcat2 hBc hl3
        replace hE := blk_below hE hl3
        clear hu hl9
        try go_wp2_with fail
        refine hK.out _ _ (hS _ hBc) (fun hHeld => ?_)
        clear hK
        try simp only [Act.put, List.setIfInBounds_toArray, List.set_cons_zero, List.set_cons_succ]
        refine wpAnyH_take (i := 5) (oi := ({ dst := some 8, op := Go.Op.move (Go.Operand.tmp 13), type := 28, pos := _, after := _, guard := none } : Oper)) (v := ?_) rfl (by kernel_rfl) (by kernel_rfl) (by kernel_rfl) (fun _ _ _ h => h) (Or.inl ⟨by rfl, ?_⟩) (by assumption) ?_
        rotate_left
        · (intro w hSw; (try dsimp only at hSw); go_simp; try with_reducible rfl)
        simp only [Act.put, List.setIfInBounds_toArray, List.set_cons_zero, List.set_cons_succ]
        refine wpAnyH_take (i := 6) (oi := ({ dst := some 14, op := Go.Op.extract (Go.Operand.tmp 8) 0, type := 25, pos := _, after := _, guard := none } : Oper)) (v := ?_) rfl (by kernel_rfl) (by kernel_rfl) (by kernel_rfl) (fun _ _ _ h => h) (Or.inl ⟨by rfl, ?_⟩) (by assumption) ?_
        rotate_left
        · (intro w hSw; (try dsimp only at hSw); go_simp; try with_reducible rfl)
        simp only [Act.put, List.setIfInBounds_toArray, List.set_cons_zero, List.set_cons_succ]
        refine wpAnyH_take (i := 7) (oi := ({ dst := some 15, op := Go.Op.extract (Go.Operand.tmp 8) 1, type := 27, pos := _, after := _, guard := none } : Oper)) (v := ?_) rfl (by kernel_rfl) (by kernel_rfl) (by kernel_rfl) (fun _ _ _ h => h) (Or.inl ⟨by rfl, ?_⟩) (by assumption) ?_
        rotate_left
        · (intro w hSw; (try dsimp only at hSw); go_simp; try with_reducible rfl)
        simp only [Act.put, List.setIfInBounds_toArray, List.set_cons_zero, List.set_cons_succ]
        refine wpAnyH_take (i := 9) (oi := ({ dst := some 5, op := Go.Op.assign (Go.Operand.tmp 14), type := 25, pos := _, after := _, guard := none } : Oper)) (v := ?_) rfl (by kernel_rfl) (by kernel_rfl) (by kernel_rfl) (fun _ _ _ h => h) (Or.inl ⟨by rfl, ?_⟩) (by assumption) ?_
        rotate_left
        · (intro w hSw; (try dsimp only at hSw); go_simp; try with_reducible rfl)
        simp only [Act.put, List.setIfInBounds_toArray, List.set_cons_zero, List.set_cons_succ]
        refine wpAnyH_ready (rs := [10]) (by kernel_rfl) (by simp) (AllReadyH.cons (o := ({ dst := none, op := Go.Op.store 27 (Go.Operand.tmp 6) (Go.Operand.tmp 15), type := 0, pos := _, after := _, guard := none } : Oper)) rfl (fun KK hK => ?_) AllReadyH.nil)
        obtain ⟨_, k0, k1, k2, k3, k4, k5⟩ := Two.mk' hE
        go_simp
        refine hK.out _ _ (hS _ hBc) (fun hHeld => ?_)
        clear hK
        try simp only [Act.put, List.setIfInBounds_toArray, List.set_cons_zero, List.set_cons_succ]
        clear k0 k1 k2 k3 k4 k5
        refine wpAnyH_done (by kernel_rfl) ?_ _
        go_wp2
        go_meet
        exact ⟨eb, r1, r2, r3, rfl, rfl, hgE, hE, hrr, hBc⟩
      have hgE : w0.heap.size ≤ (WA).heap.size := hBc.size
      have ha2 := balloc (WA) (.cells #[.int .i64 0, .int .i64 0] 27)
      replace hBc := bcat2 hBc ha2
      replace hu := hu.below ha2
      have hE : Blk ((WA).alloc (.cells #[.int .i64 0, .int .i64 0] 27)) (WA).heap.size 27 [.int .i64 0, .int .i64 0] := blk0 _ _
      go_simp
      refine hK.out _ _ (hS _ hBc) (fun hHeld => ?_)
      clear hK
      try simp only [Act.put, List.setIfInBounds_toArray, List.set_cons_zero, List.set_cons_succ]
      generalize (WA).alloc (.cells #[.int .i64 0, .int .i64 0] 27) = WE at *
      generalize (WA).heap.size = eb at *
      refine wpAnyH_ready (rs := [3]) (by kernel_rfl) (by simp) (AllReadyH.cons (o := ({ dst := some 12, op := Go.Op.call { callee := Go.Callee.value (Go.Operand.func 7), args := #[Go.Operand.tmp 11], argTypes := #[22] }, type := 22, pos := _, after := _, guard := none } : Oper)) rfl (fun KK hK => ?_) AllReadyH.nil)
      go_simp
      refine (HOL.out _ (bcat2 hB0 hBc)).mono ?_
      rintro x2 WB ⟨l9, rfl, hl9, hl2⟩
      replace hBc := bcat2 hBc hl2
      replace hE := blk_below hE hl2
      replace hu := hu.below hl2
      try go_wp2_with fail
      refine hK.out _ _ (hS _ hBc) (fun hHeld => ?_)
      clear hK
      try simp only [Act.put, List.setIfInBounds_toArray, List.set_cons_zero, List.set_cons_succ]
      refine wpAnyH_ready (rs := [4]) (by kernel_rfl) (by simp) (AllReadyH.cons (o := ({ dst := some 13, op := Go.Op.call { callee := Go.Callee.value (Go.Operand.func 5), args := #[Go.Operand.tmp 10, Go.Operand.tmp 12], argTypes := #[24, 22] }, type := 28, pos := _, after := _, guard := none } : Oper)) rfl (fun KK hK => ?_) AllReadyH.nil)
      go_simp
      refine (HCP.out _ _ _ (bcat2 hB0 hBc) hu hl9).mono ?_
      rintro x3 WC ⟨r1, r2, r3, rfl, hrr, hl3⟩
      replace hBc := bcat2 hBc hl3
      replace hE := blk_below hE hl3
      clear hu hl9
      try go_wp2_with fail
      refine hK.out _ _ (hS _ hBc) (fun hHeld => ?_)
      clear hK
      try simp only [Act.put, List.setIfInBounds_toArray, List.set_cons_zero, List.set_cons_succ]
      refine wpAnyH_take (i := 5) (oi := ({ dst := some 8, op := Go.Op.move (Go.Operand.tmp 13), type := 28, pos := _, after := _, guard := none } : Oper)) (v := ?_) rfl (by kernel_rfl) (by kernel_rfl) (by kernel_rfl) (fun _ _ _ h => h) (Or.inl ⟨by rfl, ?_⟩) (by assumption) ?_
      rotate_left
      · (intro w hSw; (try dsimp only at hSw); go_simp; try with_reducible rfl)
      simp only [Act.put, List.setIfInBounds_toArray, List.set_cons_zero, List.set_cons_succ]
      refine wpAnyH_take (i := 6) (oi := ({ dst := some 14, op := Go.Op.extract (Go.Operand.tmp 8) 0, type := 25, pos := _, after := _, guard := none } : Oper)) (v := ?_) rfl (by kernel_rfl) (by kernel_rfl) (by kernel_rfl) (fun _ _ _ h => h) (Or.inl ⟨by rfl, ?_⟩) (by assumption) ?_
      rotate_left
      · (intro w hSw; (try dsimp only at hSw); go_simp; try with_reducible rfl)
      simp only [Act.put, List.setIfInBounds_toArray, List.set_cons_zero, List.set_cons_succ]
      refine wpAnyH_take (i := 7) (oi := ({ dst := some 15, op := Go.Op.extract (Go.Operand.tmp 8) 1, type := 27, pos := _, after := _, guard := none } : Oper)) (v := ?_) rfl (by kernel_rfl) (by kernel_rfl) (by kernel_rfl) (fun _ _ _ h => h) (Or.inl ⟨by rfl, ?_⟩) (by assumption) ?_
      rotate_left
      · (intro w hSw; (try dsimp only at hSw); go_simp; try with_reducible rfl)
      simp only [Act.put, List.setIfInBounds_toArray, List.set_cons_zero, List.set_cons_succ]
      refine wpAnyH_take (i := 9) (oi := ({ dst := some 5, op := Go.Op.assign (Go.Operand.tmp 14), type := 25, pos := _, after := _, guard := none } : Oper)) (v := ?_) rfl (by kernel_rfl) (by kernel_rfl) (by kernel_rfl) (fun _ _ _ h => h) (Or.inl ⟨by rfl, ?_⟩) (by assumption) ?_
      rotate_left
      · (intro w hSw; (try dsimp only at hSw); go_simp; try with_reducible rfl)
      simp only [Act.put, List.setIfInBounds_toArray, List.set_cons_zero, List.set_cons_succ]
      refine wpAnyH_ready (rs := [10]) (by kernel_rfl) (by simp) (AllReadyH.cons (o := ({ dst := none, op := Go.Op.store 27 (Go.Operand.tmp 6) (Go.Operand.tmp 15), type := 0, pos := _, after := _, guard := none } : Oper)) rfl (fun KK hK => ?_) AllReadyH.nil)
      obtain ⟨_, k0, k1, k2, k3, k4, k5⟩ := Two.mk' hE
      go_simp
      refine hK.out _ _ (hS _ hBc) (fun hHeld => ?_)
      clear hK
      try simp only [Act.put, List.setIfInBounds_toArray, List.set_cons_zero, List.set_cons_succ]
      clear k0 k1 k2 k3 k4 k5
      refine wpAnyH_done (by kernel_rfl) ?_ _
      go_wp2
      go_meet
      exact ⟨eb, r1, r2, r3, rfl, rfl, hgE, hE, hrr, hBc⟩
    have hgE : w0.heap.size ≤ (wd).heap.size := hBc.size
    have ha2 := balloc (wd) (.cells #[.int .i64 0, .int .i64 0] 27)
    replace hBc := bcat2 hBc ha2
    have hE : Blk ((wd).alloc (.cells #[.int .i64 0, .int .i64 0] 27)) (wd).heap.size 27 [.int .i64 0, .int .i64 0] := blk0 _ _
    go_simp
    refine hK.out _ _ (hS _ hBc) (fun hHeld => ?_)
    clear hK
    try simp only [Act.put, List.setIfInBounds_toArray, List.set_cons_zero, List.set_cons_succ]
    generalize (wd).alloc (.cells #[.int .i64 0, .int .i64 0] 27) = WE at *
    generalize (wd).heap.size = eb at *
    refine wpAnyH_ready (rs := [1]) (by kernel_rfl) (by simp) (AllReadyH.cons (o := ({ dst := some 10, op := Go.Op.call { callee := Go.Callee.value (Go.Operand.func 6), args := #[Go.Operand.tmp 9], argTypes := #[24] }, type := 24, pos := _, after := _, guard := none } : Oper)) rfl (fun KK hK => ?_) AllReadyH.nil)
    go_simp
    refine (HOG.out _ (bcat2 hB0 hBc)).mono ?_
    rintro x1 WA ⟨u, rfl, hu, hl1⟩
    replace hBc := bcat2 hBc hl1
    replace hE := blk_below hE hl1
    try go_wp2_with fail
    refine hK.out _ _ (hS _ hBc) (fun hHeld => ?_)
    clear hK
    try simp only [Act.put, List.setIfInBounds_toArray, List.set_cons_zero, List.set_cons_succ]
    refine wpAnyH_ready (rs := [3]) (by kernel_rfl) (by simp) (AllReadyH.cons (o := ({ dst := some 12, op := Go.Op.call { callee := Go.Callee.value (Go.Operand.func 7), args := #[Go.Operand.tmp 11], argTypes := #[22] }, type := 22, pos := _, after := _, guard := none } : Oper)) rfl (fun KK hK => ?_) AllReadyH.nil)
    go_simp
    refine (HOL.out _ (bcat2 hB0 hBc)).mono ?_
    rintro x2 WB ⟨l9, rfl, hl9, hl2⟩
    replace hBc := bcat2 hBc hl2
    replace hE := blk_below hE hl2
    replace hu := hu.below hl2
    try go_wp2_with fail
    refine hK.out _ _ (hS _ hBc) (fun hHeld => ?_)
    clear hK
    try simp only [Act.put, List.setIfInBounds_toArray, List.set_cons_zero, List.set_cons_succ]
    refine wpAnyH_ready (rs := [4]) (by kernel_rfl) (by simp) (AllReadyH.cons (o := ({ dst := some 13, op := Go.Op.call { callee := Go.Callee.value (Go.Operand.func 5), args := #[Go.Operand.tmp 10, Go.Operand.tmp 12], argTypes := #[24, 22] }, type := 28, pos := _, after := _, guard := none } : Oper)) rfl (fun KK hK => ?_) AllReadyH.nil)
    go_simp
    refine (HCP.out _ _ _ (bcat2 hB0 hBc) hu hl9).mono ?_
    rintro x3 WC ⟨r1, r2, r3, rfl, hrr, hl3⟩
    replace hBc := bcat2 hBc hl3
    replace hE := blk_below hE hl3
    clear hu hl9
    try go_wp2_with fail
    refine hK.out _ _ (hS _ hBc) (fun hHeld => ?_)
    clear hK
    try simp only [Act.put, List.setIfInBounds_toArray, List.set_cons_zero, List.set_cons_succ]
    refine wpAnyH_take (i := 5) (oi := ({ dst := some 8, op := Go.Op.move (Go.Operand.tmp 13), type := 28, pos := _, after := _, guard := none } : Oper)) (v := ?_) rfl (by kernel_rfl) (by kernel_rfl) (by kernel_rfl) (fun _ _ _ h => h) (Or.inl ⟨by rfl, ?_⟩) (by assumption) ?_
    rotate_left
    · (intro w hSw; (try dsimp only at hSw); go_simp; try with_reducible rfl)
    simp only [Act.put, List.setIfInBounds_toArray, List.set_cons_zero, List.set_cons_succ]
    refine wpAnyH_take (i := 6) (oi := ({ dst := some 14, op := Go.Op.extract (Go.Operand.tmp 8) 0, type := 25, pos := _, after := _, guard := none } : Oper)) (v := ?_) rfl (by kernel_rfl) (by kernel_rfl) (by kernel_rfl) (fun _ _ _ h => h) (Or.inl ⟨by rfl, ?_⟩) (by assumption) ?_
    rotate_left
    · (intro w hSw; (try dsimp only at hSw); go_simp; try with_reducible rfl)
    simp only [Act.put, List.setIfInBounds_toArray, List.set_cons_zero, List.set_cons_succ]
    refine wpAnyH_take (i := 7) (oi := ({ dst := some 15, op := Go.Op.extract (Go.Operand.tmp 8) 1, type := 27, pos := _, after := _, guard := none } : Oper)) (v := ?_) rfl (by kernel_rfl) (by kernel_rfl) (by kernel_rfl) (fun _ _ _ h => h) (Or.inl ⟨by rfl, ?_⟩) (by assumption) ?_
    rotate_left
    · (intro w hSw; (try dsimp only at hSw); go_simp; try with_reducible rfl)
    simp only [Act.put, List.setIfInBounds_toArray, List.set_cons_zero, List.set_cons_succ]
    refine wpAnyH_take (i := 9) (oi := ({ dst := some 5, op := Go.Op.assign (Go.Operand.tmp 14), type := 25, pos := _, after := _, guard := none } : Oper)) (v := ?_) rfl (by kernel_rfl) (by kernel_rfl) (by kernel_rfl) (fun _ _ _ h => h) (Or.inl ⟨by rfl, ?_⟩) (by assumption) ?_
    rotate_left
    · (intro w hSw; (try dsimp only at hSw); go_simp; try with_reducible rfl)
    simp only [Act.put, List.setIfInBounds_toArray, List.set_cons_zero, List.set_cons_succ]
    refine wpAnyH_ready (rs := [10]) (by kernel_rfl) (by simp) (AllReadyH.cons (o := ({ dst := none, op := Go.Op.store 27 (Go.Operand.tmp 6) (Go.Operand.tmp 15), type := 0, pos := _, after := _, guard := none } : Oper)) rfl (fun KK hK => ?_) AllReadyH.nil)
    obtain ⟨_, k0, k1, k2, k3, k4, k5⟩ := Two.mk' hE
    go_simp
    refine hK.out _ _ (hS _ hBc) (fun hHeld => ?_)
    clear hK
    try simp only [Act.put, List.setIfInBounds_toArray, List.set_cons_zero, List.set_cons_succ]
    clear k0 k1 k2 k3 k4 k5
    refine wpAnyH_done (by kernel_rfl) ?_ _
    go_wp2
    go_meet
    exact ⟨eb, r1, r2, r3, rfl, rfl, hgE, hE, hrr, hBc⟩
  case rest =>
    obtain ⟨eb, r1, r2, r3, rfl, rfl, hgE, hE, hrr, hbx⟩ := hcut
    obtain ⟨g0, g1, _, _⟩ := (blk_below hX0 hbx).two
    replace l0 := below_cell hbx l0
    clear hS hS0 hBc
    have hBx := bcat2 hB0 hbx
    go_wp2_with fail
    refine (HNF.out _ hBx).mono ?_
    rintro x6 W6 ⟨rfl, hb6⟩
    obtain ⟨W7, hW7⟩ : ∃ W7, W7 = W6.alloc (.cells #[.int .i64 0, .int .i64 0] 27) := ⟨_, rfl⟩
    have hb67 : Below W6.heap.size W6 W7 := by rw [hW7]; exact balloc W6 _
    have hR7 : Blk W7 W6.heap.size 27 [.int .i64 0, .int .i64 0] := by rw [hW7]; exact blk0 _ _
    have hb7 := bcat2 hb6 hb67
    have hE7 := blk_below hE hb7
    have hx7 := bcat2 hbx hb7
    have hX7 := blk_below hX0 hx7
    have hL7 : W7.cell? ⟨w.heap.size + 1, 0, none⟩ = some (.slice (some ⟨mb, mo, none⟩) l2 l3) := below_cell hb7 l0
    have hLB7 : Boxed W7 (w.heap.size + 1) 22 (.slice (some ⟨mb, mo, none⟩) l2 l3) := (hx7.block _ hs1).trans hL0
    have hB7 := bcat2 hB0 hx7
    have hew : eb < W6.heap.size := Nat.lt_of_lt_of_le hE.lt hb6.size
    have hgw : w.heap.size < W6.heap.size := by omega
    clear g0 g1 l0
    obtain ⟨g0, g1, _, _⟩ := hX7.two
    obtain ⟨f0, f1, _, _⟩ := hE7.two
    obtain ⟨r0, r1z, _, _⟩ := hR7.two
    have l0 := hL7
    rw [hW7] at g0 g1 f0 f1 r0 r1z l0
    go_wp2_with fail
    rw [← hW7] at g0 g1 f0 f1 r0 r1z l0
    rw [← hW7]
    clear hW7 hb67 hb6
    generalize W6.heap.size = wb at *
    refine (HBE.out _ hB7).mono ?_
    rintro x8 W8 ⟨rfl, hb8⟩
    have hB8 := bcat2 hB7 hb8
    have hX8 := blk_below hX7 hb8
    have hLB8 : Boxed W8 (w.heap.size + 1) 22 (.slice (some ⟨mb, mo, none⟩) l2 l3) := Boxed.below (b := w.heap.size + 1) (t := 22) hLB7 hb8
    have hrr8 := hrr.below (bcat2 hb7 hb8)
    have f0' := below_cell hb8 f0
    have f1' := below_cell hb8 f1
    have r0' := below_cell hb8 r0
    have r1' := below_cell hb8 r1z
    have g0' := below_cell hb8 g0
    have l0' := below_cell hb8 l0
    clear f0 f1 r0 r1z g0 g1 l0
    have HLB8 := hide hLB8
    have HX8 := hide hX8
    have HRR8 := hide hrr8
    clear hLB8 hX8 hrr8 hrr hLB7 hX7 hL7
    go_wp2_with fail
    refine (HLA.out _ _ _ _ hB8 HRR8.out HX8.out HLB8.out).mono ?_
    rintro x9 Wz ⟨rfl, hb9⟩
    have hBz := bcat2 hB8 hb9
    have r0 := below_cell hb9 r0'
    have g0 := below_cell hb9 g0'
    have l0 := below_cell hb9 l0'
    have HR2 := hide (HNE.out _ _ _ _ HRR8.out)
    clear f0' f1' r0' r1' g0' l0' hE7 hR7 hx7 hB7 hb8 hb9 hB8 hb7 hE hbx hBx HLB8 HX8 HRR8 HLA HNE HBE
    have hS : ∀ W, Below Wz.heap.size Wz W → (Below Wz.heap.size Wz W ∧ W.cell? ⟨wb, 0, none⟩ = some (.int .i64 0) ∧ W.cell? ⟨w.heap.size, 0, none⟩ = some (.int .i64 n) ∧ W.cell? ⟨w.heap.size + 1, 0, none⟩ = some (.slice (some ⟨mb, mo, none⟩) l2 l3)) := fun W h => ⟨h, below_cell h r0, below_cell h g0, below_cell h l0⟩
    have hBc : Below Wz.heap.size Wz Wz.drew := bdrew (Below.refl _ _)
    have hS7 := hS _ hBc
    by_cases hgg : 1 < Nat.gcd l2 (n / l2)
    · have hgd : (1 : Int) < ((Nat.gcd l2 (n / l2) : Nat) : Int) := by omega
      clear hgg
      go_wp2_with fail
      clear r0 g0 l0
      refine wp_region_held_drew (S := fun W => Below Wz.heap.size Wz W ∧ W.cell? ⟨wb, 0, none⟩ = some (.int .i64 0) ∧ W.cell? ⟨w.heap.size, 0, none⟩ = some (.int .i64 n) ∧ W.cell? ⟨w.heap.size + 1, 0, none⟩ = some (.slice (some ⟨mb, mo, none⟩) l2 l3)) (by kernel_rfl) hS7 (fun hHeld => ?_)
      refine wpAnyH_take (i := 0) (oi := ({ dst := some 38, op := Go.Op.fieldAddr 27 (Go.Operand.tmp 7) 0, type := 0, pos := _, after := _, guard := none } : Oper)) (v := ?_) rfl (by kernel_rfl) (by kernel_rfl) (by kernel_rfl) (fun _ _ _ h => h) (Or.inl ⟨by rfl, ?_⟩) (by assumption) ?_
      rotate_left
      · (intro w hSw; (try dsimp only at hSw); go_simp; try with_reducible rfl)
      simp only [Act.put, List.setIfInBounds_toArray, List.set_cons_zero, List.set_cons_succ]
      refine wpAnyH_take (i := 1) (oi := ({ dst := some 39, op := Go.Op.load 3 (Go.Operand.tmp 38), type := 3, pos := _, after := _, guard := none } : Oper)) (v := ?_) rfl (by kernel_rfl) (by kernel_rfl) (by kernel_rfl) (fun _ _ _ h => h) (Or.inl ⟨by rfl, ?_⟩) (by assumption) ?_
      rotate_left
      · (intro w hSw; (try dsimp only at hSw); go_simp; try with_reducible rfl)
      simp only [Act.put, List.setIfInBounds_toArray, List.set_cons_zero, List.set_cons_succ]
      refine wpAnyH_take (i := 2) (oi := ({ dst := some 40, op := Go.Op.binOp Go.BinOp.neq 3 (Go.Operand.tmp 39) (Go.Operand.const (Go.Value.int Go.IntKind.i64 0)) 3, type := 4, pos := _, after := _, guard := none } : Oper)) (v := .bool false) rfl (by kernel_rfl) (by kernel_rfl) (by kernel_rfl) (fun _ _ _ h => h) (Or.inl ⟨by rfl, ?_⟩) (by assumption) ?_
      · (intro w hSw; (try dsimp only at hSw); go_simp; try (first | with_reducible rfl | (simp; done) | omega | (simp; omega)))
      simp only [Act.put, List.setIfInBounds_toArray, List.set_cons_zero, List.set_cons_succ]
      refine wpAnyH_take (i := 3) (oi := ({ dst := some 41, op := Go.Op.move (Go.Operand.tmp 40), type := 4, pos := _, after := _, guard := none } : Oper)) (v := .bool false) rfl (by kernel_rfl) (by kernel_rfl) (by kernel_rfl) (fun _ _ _ h => h) (Or.inl ⟨by rfl, ?_⟩) (by assumption) ?_
      · (intro w hSw; (try dsimp only at hSw); go_simp; try (first | with_reducible rfl | (simp; done) | omega | (simp; omega)))
      simp only [Act.put, List.setIfInBounds_toArray, List.set_cons_zero, List.set_cons_succ]
      refine wpAnyH_take (i := 4) (oi := ({ dst := some 42, op := Go.Op.load 22 (Go.Operand.tmp 3), type := 22, pos := _, after := _, guard := some (3, false) } : Oper)) (v := ?_) rfl (by kernel_rfl) (by kernel_rfl) (by kernel_rfl) (fun _ _ _ h => h) (Or.inl ⟨by rfl, ?_⟩) (by assumption) ?_
      rotate_left
      · (intro w hSw; (try dsimp only at hSw); go_simp; try with_reducible rfl)
      simp only [Act.put, List.setIfInBounds_toArray, List.set_cons_zero, List.set_cons_succ]
      refine wpAnyH_take (i := 5) (oi := ({ dst := some 43, op := Go.Op.call { callee := Go.Callee.builtin Go.Builtin.len, args := #[Go.Operand.tmp 42], argTypes := #[22] }, type := 3, pos := _, after := _, guard := some (3, false) } : Oper)) (v := ?_) rfl (by kernel_rfl) (by kernel_rfl) (by kernel_rfl) (fun _ _ _ h => h) (Or.inl ⟨by rfl, ?_⟩) (by assumption) ?_
      rotate_left
      · (intro w hSw; (try dsimp only at hSw); go_simp; try with_reducible rfl)
      simp only [Act.put, List.setIfInBounds_toArray, List.set_cons_zero, List.set_cons_succ]
      refine wpAnyH_take (i := 6) (oi := ({ dst := some 44, op := Go.Op.fieldAddr 24 (Go.Operand.tmp 2) 0, type := 0, pos := _, after := _, guard := some (3, false) } : Oper)) (v := ?_) rfl (by kernel_rfl) (by kernel_rfl) (by kernel_rfl) (fun _ _ _ h => h) (Or.inl ⟨by rfl, ?_⟩) (by assumption) ?_
      rotate_left
      · (intro w hSw; (try dsimp only at hSw); go_simp; try with_reducible rfl)
      simp only [Act.put, List.setIfInBounds_toArray, List.set_cons_zero, List.set_cons_succ]
      refine wpAnyH_take (i := 7) (oi := ({ dst := some 45, op := Go.Op.load 3 (Go.Operand.tmp 44), type := 3, pos := _, after := _, guard := some (3, false) } : Oper)) (v := ?_) rfl (by kernel_rfl) (by kernel_rfl) (by kernel_rfl) (fun _ _ _ h => h) (Or.inl ⟨by rfl, ?_⟩) (by assumption) ?_
      rotate_left
      · (intro w hSw; (try dsimp only at hSw); go_simp; try with_reducible rfl)
      simp only [Act.put, List.setIfInBounds_toArray, List.set_cons_zero, List.set_cons_succ]
      refine wpAnyH_take (i := 8) (oi := ({ dst := some 46, op := Go.Op.load 22 (Go.Operand.tmp 3), type := 22, pos := _, after := _, guard := some (3, false) } : Oper)) (v := ?_) rfl (by kernel_rfl) (by kernel_rfl) (by kernel_rfl) (fun _ _ _ h => h) (Or.inl ⟨by rfl, ?_⟩) (by assumption) ?_
      rotate_left
      · (intro w hSw; (try dsimp only at hSw); go_simp; try with_reducible rfl)
      simp only [Act.put, List.setIfInBounds_toArray, List.set_cons_zero, List.set_cons_succ]
      refine wpAnyH_take (i := 9) (oi := ({ dst := some 47, op := Go.Op.call { callee := Go.Callee.builtin Go.Builtin.len, args := #[Go.Operand.tmp 46], argTypes := #[22] }, type := 3, pos := _, after := _, guard := some (3, false) } : Oper)) (v := ?_) rfl (by kernel_rfl) (by kernel_rfl) (by kernel_rfl) (fun _ _ _ h => h) (Or.inl ⟨by rfl, ?_⟩) (by assumption) ?_
      rotate_left
      · (intro w hSw; (try dsimp only at hSw); go_simp; try with_reducible rfl)
      simp only [Act.put, List.setIfInBounds_toArray, List.set_cons_zero, List.set_cons_succ]
      refine wpAnyH_take (i := 10) (oi := ({ dst := some 48, op := Go.Op.binOp Go.BinOp.quo 3 (Go.Operand.tmp 45) (Go.Operand.tmp 47) 3, type := 3, pos := _, after := _, guard := some (3, false) } : Oper)) (v := .int .i64 ((n / l2 : Nat) : Int)) rfl (by kernel_rfl) (by kernel_rfl) (by kernel_rfl) (fun _ _ _ h => h) (Or.inl ⟨by rfl, ?_⟩) (by assumption) ?_
      · (intro w hSw; (try dsimp only at hSw); go_simp; try (first | with_reducible rfl | exact HWD.out | (simp [hq9, hyz]; done) | (simp; done) | omega | (simp; omega)))
      simp only [Act.put, List.setIfInBounds_toArray, List.set_cons_zero, List.set_cons_succ]
      refine wpAnyH_ready (rs := [11]) (by kernel_rfl) (by simp) (AllReadyH.cons (o := ({ dst := some 49, op := Go.Op.call { callee := Go.Callee.value (Go.Operand.func 16), args := #[Go.Operand.tmp 43, Go.Operand.tmp 48], argTypes := #[3, 3] }, type := 3, pos := _, after := _, guard := some (3, false) } : Oper)) rfl (fun KK hK => ?_) AllReadyH.nil)
      go_simp
      refine (HGC.out _).mono ?_
      rintro x1 WA ⟨rfl, hl1⟩
      replace hBc := bcat2 hBc hl1
      try go_wp2_with fail
      refine hK.out _ _ (hS _ hBc) (fun hHeld => ?_)
      clear hK
      try simp only [Act.put, List.setIfInBounds_toArray, List.set_cons_zero, List.set_cons_succ]
      refine wpAnyH_take (i := 12) (oi := ({ dst := some 50, op := Go.Op.binOp Go.BinOp.gtr 3 (Go.Operand.tmp 49) (Go.Operand.const (Go.Value.int Go.IntKind.i64 1)) 3, type := 4, pos := _, after := _, guard := some (3, false) } : Oper)) (v := .bool true) rfl (by kernel_rfl) (by kernel_rfl) (by kernel_rfl) (fun _ _ _ h => h) (Or.inl ⟨by rfl, ?_⟩) (by assumption) ?_
      · (intro w hSw; (try dsimp only at hSw); go_simp; try (first | with_reducible rfl | (simp [hgd]; done) | (simp; done) | omega | (simp; omega)))
      simp only [Act.put, List.setIfInBounds_toArray, List.set_cons_zero, List.set_cons_succ]
      refine wpAnyH_take (i := 13) (oi := ({ dst := some 51, op := Go.Op.pick (Go.Operand.tmp 41) (Go.Operand.const (Go.Value.bool true)) (Go.Operand.tmp 50), type := 4, pos := _, after := _, guard := none } : Oper)) (v := .bool true) rfl (by kernel_rfl) (by kernel_rfl) (by kernel_rfl) (fun _ _ _ h => h) (Or.inl ⟨by rfl, ?_⟩) (by assumption) ?_
      · (intro w hSw; (try dsimp only at hSw); go_simp; try (first | with_reducible rfl | (simp; done) | omega | (simp; omega)))
      simp only [Act.put, List.setIfInBounds_toArray, List.set_cons_zero, List.set_cons_succ]
      refine wpAnyH_take (i := 14) (oi := ({ dst := some 52, op := Go.Op.move (Go.Operand.tmp 51), type := 4, pos := _, after := _, guard := none } : Oper)) (v := .bool true) rfl (by kernel_rfl) (by kernel_rfl) (by kernel_rfl) (fun _ _ _ h => h) (Or.inl ⟨by rfl, ?_⟩) (by assumption) ?_
      · (intro w hSw; (try dsimp only at hSw); go_simp; try (first | with_reducible rfl | (simp; done) | omega | (simp; omega)))
      simp only [Act.put, List.setIfInBounds_toArray, List.set_cons_zero, List.set_cons_succ]
      refine wpAnyH_take (i := 15) (oi := ({ dst := some 53, op := Go.Op.move (Go.Operand.tmp 5), type := 25, pos := _, after := _, guard := some (14, false) } : Oper)) (v := undef) rfl (by kernel_rfl) (by kernel_rfl) (by kernel_rfl) (fun _ _ _ h => h) (Or.inr ⟨by rfl, rfl⟩) (by assumption) ?_
      simp only [Act.put, List.setIfInBounds_toArray, List.set_cons_zero, List.set_cons_succ]
      refine wpAnyH_take (i := 16) (oi := ({ dst := some 54, op := Go.Op.call { callee := Go.Callee.builtin Go.Builtin.len, args := #[Go.Operand.tmp 53], argTypes := #[25] }, type := 3, pos := _, after := _, guard := some (14, false) } : Oper)) (v := undef) rfl (by kernel_rfl) (by kernel_rfl) (by kernel_rfl) (fun _ _ _ h => h) (Or.inr ⟨by rfl, rfl⟩) (by assumption) ?_
      simp only [Act.put, List.setIfInBounds_toArray, List.set_cons_zero, List.set_cons_succ]
      refine wpAnyH_take (i := 17) (oi := ({ dst := some 55, op := Go.Op.binOp Go.BinOp.gtr 3 (Go.Operand.tmp 54) (Go.Operand.const (Go.Value.int Go.IntKind.i64 0)) 3, type := 4, pos := _, after := _, guard := some (14, false) } : Oper)) (v := undef) rfl (by kernel_rfl) (by kernel_rfl) (by kernel_rfl) (fun _ _ _ h => h) (Or.inr ⟨by rfl, rfl⟩) (by assumption) ?_
      simp only [Act.put, List.setIfInBounds_toArray, List.set_cons_zero, List.set_cons_succ]
      refine wpAnyH_take (i := 18) (oi := ({ dst := some 56, op := Go.Op.pick (Go.Operand.tmp 52) (Go.Operand.const (Go.Value.bool true)) (Go.Operand.tmp 55), type := 4, pos := _, after := _, guard := none } : Oper)) (v := .bool true) rfl (by kernel_rfl) (by kernel_rfl) (by kernel_rfl) (fun _ _ _ h => h) (Or.inl ⟨by rfl, ?_⟩) (by assumption) ?_
      · (intro w hSw; (try dsimp only at hSw); go_simp; try (first | with_reducible rfl | (simp; done) | omega | (simp; omega)))
      simp only [Act.put, List.setIfInBounds_toArray, List.set_cons_zero, List.set_cons_succ]
      refine wpAnyH_take (i := 19) (oi := ({ dst := some 4, op := Go.Op.assign (Go.Operand.tmp 56), type := 4, pos := _, after := _, guard := none } : Oper)) (v := .bool true) rfl (by kernel_rfl) (by kernel_rfl) (by kernel_rfl) (fun _ _ _ h => h) (Or.inl ⟨by rfl, ?_⟩) (by assumption) ?_
      · (intro w hSw; (try dsimp only at hSw); go_simp; try (first | with_reducible rfl | (simp; done) | omega | (simp; omega)))
      simp only [Act.put, List.setIfInBounds_toArray, List.set_cons_zero, List.set_cons_succ]
      refine wpAnyH_done (by kernel_rfl) ?_ _
      have hBf := bcat2 hBz hBc
      clear hHeld hS7
      go_wp2
      go_ret
      exact ⟨rfl, hBf⟩
    · have hgd : ¬ (1 : Int) < ((Nat.gcd l2 (n / l2) : Nat) : Int) := by omega
      have hr2 : (0 : Int) < ((r2 : Nat) : Int) := by have := HR2.out hgg; omega
      clear hgg
      go_wp2_with fail
      clear r0 g0 l0
      refine wp_region_held_drew (S := fun W => Below Wz.heap.size Wz W ∧ W.cell? ⟨wb, 0, none⟩ = some (.int .i64 0) ∧ W.cell? ⟨w.heap.size, 0, none⟩ = some (.int .i64 n) ∧ W.cell? ⟨w.heap.size + 1, 0, none⟩ = some (.slice (some ⟨mb, mo, none⟩) l2 l3)) (by kernel_rfl) hS7 (fun hHeld => ?_)
      refine wpAnyH_take (i := 0) (oi := ({ dst := some 38, op := Go.Op.fieldAddr 27 (Go.Operand.tmp 7) 0, type := 0, pos := _, after := _, guard := none } : Oper)) (v := ?_) rfl (by kernel_rfl) (by kernel_rfl) (by kernel_rfl) (fun _ _ _ h => h) (Or.inl ⟨by rfl, ?_⟩) (by assumption) ?_
      rotate_left
      · (intro w hSw; (try dsimp only at hSw); go_simp; try with_reducible rfl)
      simp only [Act.put, List.setIfInBounds_toArray, List.set_cons_zero, List.set_cons_succ]
      refine wpAnyH_take (i := 1) (oi := ({ dst := some 39, op := Go.Op.load 3 (Go.Operand.tmp 38), type := 3, pos := _, after := _, guard := none } : Oper)) (v := ?_) rfl (by kernel_rfl) (by kernel_rfl) (by kernel_rfl) (fun _ _ _ h => h) (Or.inl ⟨by rfl, ?_⟩) (by assumption) ?_
      rotate_left
      · (intro w hSw; (try dsimp only at hSw); go_simp; try with_reducible rfl)
      simp only [Act.put, List.setIfInBounds_toArray, List.set_cons_zero, List.set_cons_succ]
      refine wpAnyH_take (i := 2) (oi := ({ dst := some 40, op := Go.Op.binOp Go.BinOp.neq 3 (Go.Operand.tmp 39) (Go.Operand.const (Go.Value.int Go.IntKind.i64 0)) 3, type := 4, pos := _, after := _, guard := none } : Oper)) (v := .bool false) rfl (by kernel_rfl) (by kernel_rfl) (by kernel_rfl) (fun _ _ _ h => h) (Or.inl ⟨by rfl, ?_⟩) (by assumption) ?_
      · (intro w hSw; (try dsimp only at hSw); go_simp; try (first | with_reducible rfl | (simp; done) | omega | (simp; omega)))
      simp only [Act.put, List.setIfInBounds_toArray, List.set_cons_zero, List.set_cons_succ]
      refine wpAnyH_take (i := 3) (oi := ({ dst := some 41, op := Go.Op.move (Go.Operand.tmp 40), type := 4, pos := _, after := _, guard := none } : Oper)) (v := .bool false) rfl (by kernel_rfl) (by kernel_rfl) (by kernel_rfl) (fun _ _ _ h => h) (Or.inl ⟨by rfl, ?_⟩) (by assumption) ?_
      · (intro w hSw; (try dsimp only at hSw); go_simp; try (first | with_reducible rfl | (simp; done) | omega | (simp; omega)))
      simp only [Act.put, List.setIfInBounds_toArray, List.set_cons_zero, List.set_cons_succ]
      refine wpAnyH_take (i := 4) (oi := ({ dst := some 42, op := Go.Op.load 22 (Go.Operand.tmp 3), type := 22, pos := _, after := _, guard := some (3, false) } : Oper)) (v := ?_) rfl (by kernel_rfl) (by kernel_rfl) (by kernel_rfl) (fun _ _ _ h => h) (Or.inl ⟨by rfl, ?_⟩) (by assumption) ?_
      rotate_left
      · (intro w hSw; (try dsimp only at hSw); go_simp; try with_reducible rfl)
      simp only [Act.put, List.setIfInBounds_toArray, List.set_cons_zero, List.set_cons_succ]
      refine wpAnyH_take (i := 5) (oi := ({ dst := some 43, op := Go.Op.call { callee := Go.Callee.builtin Go.Builtin.len, args := #[Go.Operand.tmp 42], argTypes := #[22] }, type := 3, pos := _, after := _, guard := some (3, false) } : Oper)) (v := ?_) rfl (by kernel_rfl) (by kernel_rfl) (by kernel_rfl) (fun _ _ _ h => h) (Or.inl ⟨by rfl, ?_⟩) (by assumption) ?_
      rotate_left
      · (intro w hSw; (try dsimp only at hSw); go_simp; try with_reducible rfl)
      simp only [Act.put, List.setIfInBounds_toArray, List.set_cons_zero, List.set_cons_succ]
      refine wpAnyH_take (i := 6) (oi := ({ dst := some 44, op := Go.Op.fieldAddr 24 (Go.Operand.tmp 2) 0, type := 0, pos := _, after := _, guard := some (3, false) } : Oper)) (v := ?_) rfl (by kernel_rfl) (by kernel_rfl) (by kernel_rfl) (fun _ _ _ h => h) (Or.inl ⟨by rfl, ?_⟩) (by assumption) ?_
      rotate_left
      · (intro w hSw; (try dsimp only at hSw); go_simp; try with_reducible rfl)
      simp only [Act.put, List.setIfInBounds_toArray, List.set_cons_zero, List.set_cons_succ]
      refine wpAnyH_take (i := 7) (oi := ({ dst := some 45, op := Go.Op.load 3 (Go.Operand.tmp 44), type := 3, pos := _, after := _, guard := some (3, false) } : Oper)) (v := ?_) rfl (by kernel_rfl) (by kernel_rfl) (by kernel_rfl) (fun _ _ _ h => h) (Or.inl ⟨by rfl, ?_⟩) (by assumption) ?_
      rotate_left
      · (intro w hSw; (try dsimp only at hSw); go_simp; try with_reducible rfl)
      simp only [Act.put, List.setIfInBounds_toArray, List.set_cons_zero, List.set_cons_succ]
      refine wpAnyH_take (i := 8) (oi := ({ dst := some 46, op := Go.Op.load 22 (Go.Operand.tmp 3), type := 22, pos := _, after := _, guard := some (3, false) } : Oper)) (v := ?_) rfl (by kernel_rfl) (by kernel_rfl) (by kernel_rfl) (fun _ _ _ h => h) (Or.inl ⟨by rfl, ?_⟩) (by assumption) ?_
      rotate_left
      · (intro w hSw; (try dsimp only at hSw); go_simp; try with_reducible rfl)
      simp only [Act.put, List.setIfInBounds_toArray, List.set_cons_zero, List.set_cons_succ]
      refine wpAnyH_take (i := 9) (oi := ({ dst := some 47, op := Go.Op.call { callee := Go.Callee.builtin Go.Builtin.len, args := #[Go.Operand.tmp 46], argTypes := #[22] }, type := 3, pos := _, after := _, guard := some (3, false) } : Oper)) (v := ?_) rfl (by kernel_rfl) (by kernel_rfl) (by kernel_rfl) (fun _ _ _ h => h) (Or.inl ⟨by rfl, ?_⟩) (by assumption) ?_
      rotate_left
      · (intro w hSw; (try dsimp only at hSw); go_simp; try with_reducible rfl)
      simp only [Act.put, List.setIfInBounds_toArray, List.set_cons_zero, List.set_cons_succ]
      refine wpAnyH_take (i := 10) (oi := ({ dst := some 48, op := Go.Op.binOp Go.BinOp.quo 3 (Go.Operand.tmp 45) (Go.Operand.tmp 47) 3, type := 3, pos := _, after := _, guard := some (3, false) } : Oper)) (v := .int .i64 ((n / l2 : Nat) : Int)) rfl (by kernel_rfl) (by kernel_rfl) (by kernel_rfl) (fun _ _ _ h => h) (Or.inl ⟨by rfl, ?_⟩) (by assumption) ?_
      · (intro w hSw; (try dsimp only at hSw); go_simp; try (first | with_reducible rfl | exact HWD.out | (simp [hq9, hyz]; done) | (simp; done) | omega | (simp; omega)))
      simp only [Act.put, List.setIfInBounds_toArray, List.set_cons_zero, List.set_cons_succ]
      refine wpAnyH_ready (rs := [11]) (by kernel_rfl) (by simp) (AllReadyH.cons (o := ({ dst := some 49, op := Go.Op.call { callee := Go.Callee.value (Go.Operand.func 16), args := #[Go.Operand.tmp 43, Go.Operand.tmp 48], argTypes := #[3, 3] }, type := 3, pos := _, after := _, guard := some (3, false) } : Oper)) rfl (fun KK hK => ?_) AllReadyH.nil)
      go_simp
      refine (HGC.out _).mono ?_
      rintro x1 WA ⟨rfl, hl1⟩
      replace hBc := bcat2 hBc hl1
      try go_wp2_with fail
      refine hK.out _ _ (hS _ hBc) (fun hHeld => ?_)
      clear hK
      try simp only [Act.put, List.setIfInBounds_toArray, List.set_cons_zero, List.set_cons_succ]
      refine wpAnyH_take (i := 12) (oi := ({ dst := some 50, op := Go.Op.binOp Go.BinOp.gtr 3 (Go.Operand.tmp 49) (Go.Operand.const (Go.Value.int Go.IntKind.i64 1)) 3, type := 4, pos := _, after := _, guard := some (3, false) } : Oper)) (v := .bool false) rfl (by kernel_rfl) (by kernel_rfl) (by kernel_rfl) (fun _ _ _ h => h) (Or.inl ⟨by rfl, ?_⟩) (by assumption) ?_
      · (intro w hSw; (try dsimp only at hSw); go_simp; try (first | with_reducible rfl | (simp [hgd]; done) | (simp; done) | omega | (simp; omega)))
      simp only [Act.put, List.setIfInBounds_toArray, List.set_cons_zero, List.set_cons_succ]
      refine wpAnyH_take (i := 13) (oi := ({ dst := some 51, op := Go.Op.pick (Go.Operand.tmp 41) (Go.Operand.const (Go.Value.bool true)) (Go.Operand.tmp 50), type := 4, pos := _, after := _, guard := none } : Oper)) (v := .bool false) rfl (by kernel_rfl) (by kernel_rfl) (by kernel_rfl) (fun _ _ _ h => h) (Or.inl ⟨by rfl, ?_⟩) (by assumption) ?_
      · (intro w hSw; (try dsimp only at hSw); go_simp; try (first | with_reducible rfl | (simp; done) | omega | (simp; omega)))
      simp only [Act.put, List.setIfInBounds_toArray, List.set_cons_zero, List.set_cons_succ]
      refine wpAnyH_take (i := 14) (oi := ({ dst := some 52, op := Go.Op.move (Go.Operand.tmp 51), type := 4, pos := _, after := _, guard := none } : Oper)) (v := .bool false) rfl (by kernel_rfl) (by kernel_rfl) (by kernel_rfl) (fun _ _ _ h => h) (Or.inl ⟨by rfl, ?_⟩) (by assumption) ?_
      · (intro w hSw; (try dsimp only at hSw); go_simp; try (first | with_reducible rfl | (simp; done) | omega | (simp; omega)))
      simp only [Act.put, List.setIfInBounds_toArray, List.set_cons_zero, List.set_cons_succ]
      refine wpAnyH_take (i := 15) (oi := ({ dst := some 53, op := Go.Op.move (Go.Operand.tmp 5), type := 25, pos := _, after := _, guard := some (14, false) } : Oper)) (v := ?_) rfl (by kernel_rfl) (by kernel_rfl) (by kernel_rfl) (fun _ _ _ h => h) (Or.inl ⟨by rfl, ?_⟩) (by assumption) ?_
      rotate_left
      · (intro w hSw; (try dsimp only at hSw); go_simp; try with_reducible rfl)
      simp only [Act.put, List.setIfInBounds_toArray, List.set_cons_zero, List.set_cons_succ]
      refine wpAnyH_take (i := 16) (oi := ({ dst := some 54, op := Go.Op.call { callee := Go.Callee.builtin Go.Builtin.len, args := #[Go.Operand.tmp 53], argTypes := #[25] }, type := 3, pos := _, after := _, guard := some (14, false) } : Oper)) (v := ?_) rfl (by kernel_rfl) (by kernel_rfl) (by kernel_rfl) (fun _ _ _ h => h) (Or.inl ⟨by rfl, ?_⟩) (by assumption) ?_
      rotate_left
      · (intro w hSw; (try dsimp only at hSw); go_simp; try with_reducible rfl)
      simp only [Act.put, List.setIfInBounds_toArray, List.set_cons_zero, List.set_cons_succ]
      refine wpAnyH_take (i := 17) (oi := ({ dst := some 55, op := Go.Op.binOp Go.BinOp.gtr 3 (Go.Operand.tmp 54) (Go.Operand.const (Go.Value.int Go.IntKind.i64 0)) 3, type := 4, pos := _, after := _, guard := some (14, false) } : Oper)) (v := .bool true) rfl (by kernel_rfl) (by kernel_rfl) (by kernel_rfl) (fun _ _ _ h => h) (Or.inl ⟨by rfl, ?_⟩) (by assumption) ?_
      · (intro w hSw; (try dsimp only at hSw); go_simp; try (first | with_reducible rfl | (simp [hr2]; done) | (simp; done) | omega | (simp; omega)))
      simp only [Act.put, List.setIfInBounds_toArray, List.set_cons_zero, List.set_cons_succ]
      refine wpAnyH_take (i := 18) (oi := ({ dst := some 56, op := Go.Op.pick (Go.Operand.tmp 52) (Go.Operand.const (Go.Value.bool true)) (Go.Operand.tmp 55), type := 4, pos := _, after := _, guard := none } : Oper)) (v := .bool true) rfl (by kernel_rfl) (by kernel_rfl) (by kernel_rfl) (fun _ _ _ h => h) (Or.inl ⟨by rfl, ?_⟩) (by assumption) ?_
      · (intro w hSw; (try dsimp only at hSw); go_simp; try (first | with_reducible rfl | (simp; done) | omega | (simp; omega)))
      simp only [Act.put, List.setIfInBounds_toArray, List.set_cons_zero, List.set_cons_succ]
      refine wpAnyH_take (i := 19) (oi := ({ dst := some 4, op := Go.Op.assign (Go.Operand.tmp 56), type := 4, pos := _, after := _, guard := none } : Oper)) (v := .bool true) rfl (by kernel_rfl) (by kernel_rfl) (by kernel_rfl) (fun _ _ _ h => h) (Or.inl ⟨by rfl, ?_⟩) (by assumption) ?_
      · (intro w hSw; (try dsimp only at hSw); go_simp; try (first | with_reducible rfl | (simp; done) | omega | (simp; omega)))
      simp only [Act.put, List.setIfInBounds_toArray, List.set_cons_zero, List.set_cons_succ]
      refine wpAnyH_done (by kernel_rfl) ?_ _
      have hBf := bcat2 hBz hBc
      clear hHeld hS7
      go_wp2
      go_ret
      exact ⟨rfl, hBf⟩
end Go.Proofs.YtgejngpioldhpaaGreatDoor

namespace Go.Proofs.YtgejngpioldhpaaGreatDoor
open Go Go.RowKit

theorem call12 (caps : Array Value) (W : World) : Sem.run Tryz.prog (callFunc 12 caps) W = .ok (.enter 12 caps) W := by kernel_rfl

theorem pcm_law (N : Int) (v l : Value) (zs ls : List Int) (w : World) (hv : Sl w v zs) (hl : Sl w l ls) (hT : Tab w) (hb8 : zs.length * 8 ≤ 140737488355328) (hbl : ls.length * 8 ≤ 140737488355328) :
    Calls Tryz.prog 3 #[.agg #[.int .i64 N, v], l] w fun x w' => x = .returned (.bool true) ∧ Below w.heap.size w w' := by
  obtain ⟨v1, v2, v3, rfl⟩ := hv.isSlice
  obtain ⟨l1, l2, l3, rfl⟩ := hl.isSlice
  have hNF : ∀ W, Below w.heap.size w W → Calls Tryz.prog 8 #[.agg #[.int .i64 N, .slice v1 v2 v3], .slice l1 l2 l3] W fun x W' => x = .returned (.agg #[.int .i64 (qfault N zs ls).1, .int .i64 (qfault N zs ls).2]) ∧ Below W.heap.size W W' := fun W h => nfault_ok N _ _ zs ls W (hv.below h) (hl.below h)
  by_cases hu : (ufault N zs ls).1 = 0
  · obtain ⟨n, e, rfl, hg, hlf, hsub, huf⟩ := ufault_zero hu
    have hqf := qfault_u hg huf
    have hnrm : ∀ W u l9, Below w.heap.size w W → Sl W u zs → Sl W l9 ls → ∀ W', Below W.heap.size W W' → Calls Tryz.prog 24 #[.agg #[.int .i64 n, u], l9] W' fun x W'' => x = .returned (.tuple #[.bool (nrmq n zs e (pset ls)), .agg #[.int .i64 0, .int .i64 0]]) ∧ Below W'.heap.size W' W'' := fun W u l9 hW h1 h2 W' hW' => nrm_good n e u l9 zs ls W' (h1.below hW') hg (h2.below hW') (hT.below (bcat2 hW hW')) hlf hsub
    cases hq : nrmq n zs e (pset ls) with
    | false =>
      rw [hq] at hqf hnrm
      rw [hqf] at hNF
      exact pcm_bad n 4 0 v1 v2 v3 l1 l2 l3 zs ls w hv hl hT hb8 hbl (by decide) (hide fun W u l9 hW h1 h2 => cmp_not n u l9 W (hide (hnrm W u l9 hW h1 h2))) (hide hNF)
    | true =>
      rw [hq] at hqf hnrm
      rw [hqf] at hNF
      by_cases h24 : n ≤ 24
      · have hls := set_lst (show (lfault n ls).1 = 0 by rw [hlf])
        have hqe := subT_one hsub
        have hll : ls.length = l2 := by
          obtain ⟨_, _, _, _, h1, _⟩ := id hl
          injection h1 with _ h1 _
          exact h1.symm
        have hlen : ls.length = (lst n (pset ls)).length := by conv => lhs; rw [hls, li_len]
        have hl0 : 0 < l2 := by rw [← hll, hlen]; exact List.length_pos_of_mem (mem_lst.2 ⟨hg.elt, hqe⟩)
        have hl60 : l2 ≤ 60 := by rw [← hll, hlen]; exact Nat.le_trans (lst_len _ _) (by omega)
        obtain ⟨mb, mo, rfl, _, _⟩ := sl_news hl (by omega)
        refine pcm_good n e v1 v2 v3 mb mo l2 l3 zs ls (pset ls) w hv hl hT hb8 hbl h24 hl0 hl60 (hide fun W u l9 hW h1 h2 => ?_) (hide hNF) (hide fun W r1 r2 r3 hW hCA hX hL => ?_) (hide fun W r1 r2 r3 hCA hgc => ?_)
        · refine (cmp_good n e u l9 zs ls W h1 h2 hg (hT.below hW) h24 hlf (hide (hnrm W u l9 hW h1 h2))).mono ?_
          rintro x W' ⟨r, P, ms, rfl, ⟨k, hk, hI⟩, hp, hs, hr, hb⟩
          obtain ⟨r1, r2, r3, rfl⟩ := hr.isSlice
          exact ⟨r1, r2, r3, rfl, ⟨P, ms, k, hk, hI, hp, hs, hr⟩, hb⟩
        · obtain ⟨P, ms, k, hk, hI, hp, hs, hr⟩ := hCA.ans
          have := lsas_good 12 #[.pointer (some ⟨w.heap.size, 0, none⟩), .pointer (some ⟨w.heap.size + 1, 0, none⟩)] (.slice r1 r2 r3) (ms.filter (cplB n zs e (pset ls))) (ms.filter (cplB n zs e (pset ls))) W hr (call12 _) (fun W2 h2 => ?_)
          · rw [decide_eq_true rfl] at this
            exact this
          · refine (c12_ok n e w.heap.size (w.heap.size + 1) v1 v2 v3 mb mo l2 l3 zs (pset ls) W2 hg h24 (hv.below (bcat2 hW h2)) ?_ hqe (blk_below hX h2) (Boxed.below (b := w.heap.size + 1) (t := 22) hL h2)).mono ?_
            · rw [← hls]
              exact hl.below (bcat2 hW h2)
            · intro x W3 hR
              obtain ⟨r, Q, ns, rfl, hQ, hp2, hs2, hr2, hb2⟩ := hR.ans
              have hmn : ms = ns := srtN_eq (hp.trans ((inv_same hg hI hk hQ).trans hp2.symm)) hs hs2
              rw [← hmn] at hr2
              exact ⟨r, rfl, hr2, hb2⟩
        · obtain ⟨P, ms, k, hk, hI, hp, hs, hr⟩ := hCA.ans
          rw [← hll, hlen] at hgc
          obtain ⟨r, hC⟩ := sz hg h24 hsub (Nat.le_of_not_lt hgc)
          have hmem : li (lst n r) ∈ ms := hp.mem_iff.2 (LL_mem.2 (SInv.all hg hI hk hC.sub))
          have hsr : subT n zs e (pset (li (lst n r))) = true := by rw [subT_congr hg (fun a ha => pset_lst ha)]; exact hC.sub
          have hC2 : Cpl n zs e (pset ls) (pset (li (lst n r))) := by
            refine ⟨hsr, fun a ha h1 h2 => hC.meet a ha h1 (by rw [pset_lst ha] at h2; exact h2), fun a ha => ?_⟩
            refine Fin.Gen.mono (fun x hx h => ?_) (hC.all a ha)
            show (pset ls x || pset (li (lst n r)) x) = true
            rw [pset_lst (List.mem_range.1 hx)]
            exact h
          have hin : li (lst n r) ∈ ms.filter (cplB n zs e (pset ls)) := List.mem_filter.2 ⟨hmem, by
            unfold cplB
            exact (cmpB_iff hqe hsr (mdq_iff n zs e _)).2 hC2⟩
          have hpos := List.length_pos_of_mem hin
          obtain ⟨_, _, _, _, h1, _⟩ := hr
          injection h1 with _ h1 _
          omega
      · have hopn : ∀ W u, Below w.heap.size w W → Sl W u zs → ∀ W', Below W.heap.size W W' → Calls Tryz.prog 25 #[.agg #[.int .i64 n, u]] W' fun x W'' => x = .returned (.tuple #[.agg #[.int .i64 0, .slice none 0 0, .int .i64 0, .slice none 0 0], .slice none 0 0, .agg #[.int .i64 2, .int .i64 0]]) ∧ Below W'.heap.size W' W'' := fun W u hW h1 W' hW' => opens_bad n 2 0 u W' (hide fun W2 h2 => all_bad n 2 0 u W2 (hide fun W3 h3 => osml_many n e u zs W3 (h1.below (bcat2 hW' (bcat2 h2 h3))) hg (by omega)) (by decide)) (by decide)
        exact pcm_many n 2 0 v1 v2 v3 l1 l2 l3 zs ls w hv hl hT hb8 hbl (by decide) (hide fun W u l9 hW h1 h2 => cmp_many n 2 0 u l9 W (hide (hnrm W u l9 hW h1 h2)) (hide (hopn W u hW h1)) (by decide)) (hide hNF) (by omega) (hide fun W _ => f_any 2 0 W)
  · have hqb := qfault_bad hu
    rw [hqb] at hNF
    refine pcm_bad N (ufault N zs ls).1 (ufault N zs ls).2 v1 v2 v3 l1 l2 l3 zs ls w hv hl hT hb8 hbl hu (hide fun W u l9 hW h1 h2 => ?_) (hide hNF)
    obtain ⟨b, hb⟩ := nrm_any N u l9 zs ls W h1 h2 (hT.below hW)
    exact cmp_bad N _ _ b u l9 W (hide hb) hu
end Go.Proofs.YtgejngpioldhpaaGreatDoor
