/- The law ProdSemi: its fifth region, in every order. -/
import Derived.Test.YtanbpjfdfnmjpaaDoorZ8
namespace Go.Proofs.YtanbpjfdfnmjpaaDoor
open Go Go.RowKit

set_option maxRecDepth 100000 in
set_option maxHeartbeats 16000000 in
theorem psem_r5 (N M : Int) (v1 : Option Addr) (v2 v3 : Nat) (y1 : Option Addr) (y2 y3 : Nat) (l1 : Option Addr) (LL l3 : Nat) (sc si GN : Int) (GD : Bool) (w w1 : World) (hB1 : Below w.heap.size w w1) (hX1 : Blk w1 w.heap.size 24 [.int .i64 N, .slice v1 v2 v3]) (hY1 : Blk w1 (w.heap.size + 1) 24 [.int .i64 M, .slice y1 y2 y3])
    (AP HP LP : World → Value → Prop) (RP : World → Nat → Value → Prop)
    (HAU : Hid (∀ W W' u, AP W u → Below W.heap.size W W' → AP W' u)) (HHU : Hid (∀ W W' u, HP W u → Below W.heap.size W W' → HP W' u)) (HLU : Hid (∀ W W' u, LP W u → Below W.heap.size W W' → LP W' u))
    (HRB : Hid (∀ W W' pb u, RP W pb u → Below W.heap.size W W' → RP W' pb u)) (HRS : Hid (∀ W pb u b k x, RP W pb u → (GD = true → pb ≠ b) → RP (W.setCell ⟨b, k, none⟩ x) pb u)) (HRL : Hid (∀ W pb u, RP W pb u → GD = true → pb < W.heap.size))
    (HO1 : Hid (∀ W, Below w.heap.size w W → Calls Tryd.prog 8 #[.agg #[.int .i64 N, .slice v1 v2 v3]] W fun x W' => ∃ u1 u2 u3, x = .returned (.agg #[.int .i64 N, .slice u1 u2 u3]) ∧ AP W' (.slice u1 u2 u3) ∧ Below W.heap.size W W'))
    (HO2 : Hid (∀ W, Below w.heap.size w W → Calls Tryd.prog 8 #[.agg #[.int .i64 M, .slice y1 y2 y3]] W fun x W' => ∃ u1 u2 u3, x = .returned (.agg #[.int .i64 M, .slice u1 u2 u3]) ∧ HP W' (.slice u1 u2 u3) ∧ Below W.heap.size W W'))
    (HOL : Hid (∀ W, Below w.heap.size w W → Calls Tryd.prog 9 #[.slice l1 LL l3] W fun x W' => ∃ u1 u2 u3, x = .returned (.slice u1 u2 u3) ∧ LP W' (.slice u1 u2 u3) ∧ Below W.heap.size W W'))
    (HSE : Hid (∀ W a b l, Below w.heap.size w W → AP W a → HP W b → LP W l → Calls Tryd.prog 7 #[.agg #[.int .i64 N, a], .agg #[.int .i64 M, b], l] W fun x W' => ∃ r1 r2 r3 pb, x = .returned (.tuple #[.agg #[.int .i64 GN, .slice r1 r2 r3], .agg #[.int .i64 sc, .int .i64 si]]) ∧ RP W' pb (.slice r1 r2 r3) ∧ (GD = true → W.heap.size ≤ pb) ∧ Below W.heap.size W W'))
    (K : Act → World → Prop) (Q : Exit → Act → World → Prop) (HPN : Hid (∀ x (a : Act) d v W, Q (Exit.panic x) (a.put d v) W → Q (Exit.panic x) a W))
    (HQ : Hid (∀ gb fb pb r1 r2 r3 a1 a2 a3 b1 b2 b3 k1 k2 k3 W, Blk W gb 24 [.int .i64 GN, .slice r1 r2 r3] → Blk W fb 28 [.int .i64 sc, .int .i64 si] → RP W pb (.slice r1 r2 r3) → Below w1.heap.size w1 W → K { tmps := List.toArray (.agg #[.int .i64 N, .slice v1 v2 v3] :: .agg #[.int .i64 M, .slice y1 y2 y3] :: .slice l1 LL l3 :: .pointer (some ⟨w.heap.size, 0, none⟩) :: .pointer (some ⟨w.heap.size + 1, 0, none⟩) :: undef :: .bool false :: .pointer (some ⟨gb, 0, none⟩) :: .pointer (some ⟨fb, 0, none⟩) :: undef :: undef :: undef :: undef :: undef :: undef :: undef :: .bool true :: .bool false :: .slice l1 LL l3 :: .int .i64 LL :: .bool false :: .tuple #[.agg #[.int .i64 GN, .slice r1 r2 r3], .agg #[.int .i64 sc, .int .i64 si]] :: .agg #[.int .i64 N, .slice v1 v2 v3] :: .agg #[.int .i64 N, .slice a1 a2 a3] :: .agg #[.int .i64 M, .slice y1 y2 y3] :: .agg #[.int .i64 M, .slice b1 b2 b3] :: .slice l1 LL l3 :: .slice k1 k2 k3 :: .tuple #[.agg #[.int .i64 GN, .slice r1 r2 r3], .agg #[.int .i64 sc, .int .i64 si]] :: .agg #[.int .i64 GN, .slice r1 r2 r3] :: .agg #[.int .i64 sc, .int .i64 si] :: undef :: undef :: undef :: undef :: undef :: undef :: undef :: undef :: undef :: undef :: undef :: undef :: undef :: undef :: undef :: undef :: undef :: undef :: undef :: undef :: undef :: undef :: undef :: undef :: undef :: undef :: undef :: undef :: undef :: undef :: undef :: undef :: undef :: undef :: undef :: undef :: undef :: undef :: undef :: undef :: undef :: undef :: undef :: undef :: undef :: undef :: undef :: undef :: undef :: undef :: undef :: undef :: undef :: undef :: undef :: undef :: undef :: undef :: undef :: undef :: undef :: undef :: undef :: undef :: undef :: undef :: undef :: undef :: undef :: undef :: undef :: undef :: undef :: undef :: undef :: undef :: undef :: undef :: undef :: undef :: undef :: undef :: undef :: undef :: undef :: undef :: undef :: undef :: undef :: undef :: undef :: undef :: undef :: undef :: undef :: undef :: undef :: undef :: undef :: undef :: undef :: undef :: undef :: undef :: undef :: undef :: undef :: undef :: undef :: undef :: undef :: undef :: undef :: undef :: undef :: undef :: undef :: undef :: undef :: undef :: undef :: undef :: undef :: undef :: undef :: undef :: undef :: undef :: undef :: undef :: undef :: undef :: undef :: undef :: undef :: undef :: undef :: undef :: undef :: undef :: undef :: undef :: undef :: undef :: undef :: undef :: undef :: undef :: undef :: undef :: undef :: undef :: undef :: undef :: undef :: undef :: undef :: undef :: undef :: undef :: undef :: undef :: undef :: undef :: undef :: undef :: undef :: undef :: undef :: undef :: undef :: undef :: undef :: undef :: undef :: undef :: undef :: undef :: undef :: undef :: undef :: undef :: undef :: undef :: []), defers := [] } W)) :
    Code.wp Tryd.prog (Code.region 5 #[{ dst := some 22, op := Go.Op.load 24 (Go.Operand.tmp 3), type := 24, pos := "law12.go:39", after := #[], guard := none }, { dst := some 23, op := Go.Op.call { callee := Go.Callee.value (Go.Operand.func 8), args := #[Go.Operand.tmp 22], argTypes := #[24] }, type := 24, pos := "law12.go:39", after := #[{ on := 0, ground := Go.Ground.data }], guard := none }, { dst := some 24, op := Go.Op.load 24 (Go.Operand.tmp 4), type := 24, pos := "law12.go:39", after := #[], guard := none }, { dst := some 25, op := Go.Op.call { callee := Go.Callee.value (Go.Operand.func 8), args := #[Go.Operand.tmp 24], argTypes := #[24] }, type := 24, pos := "law12.go:39", after := #[{ on := 2, ground := Go.Ground.data }, { on := 1, ground := Go.Ground.chain }], guard := none }, { dst := some 26, op := Go.Op.move (Go.Operand.tmp 2), type := 25, pos := "law12.go:39", after := #[], guard := none }, { dst := some 27, op := Go.Op.call { callee := Go.Callee.value (Go.Operand.func 9), args := #[Go.Operand.tmp 26], argTypes := #[25] }, type := 25, pos := "law12.go:39", after := #[{ on := 4, ground := Go.Ground.data }, { on := 3, ground := Go.Ground.chain }], guard := none }, { dst := some 28, op := Go.Op.call { callee := Go.Callee.value (Go.Operand.func 7), args := #[Go.Operand.tmp 23, Go.Operand.tmp 25, Go.Operand.tmp 27], argTypes := #[24, 24, 25] }, type := 29, pos := "law12.go:39", after := #[{ on := 1, ground := Go.Ground.data }, { on := 3, ground := Go.Ground.data }, { on := 5, ground := Go.Ground.data }, { on := 5, ground := Go.Ground.chain }], guard := none }, { dst := some 21, op := Go.Op.move (Go.Operand.tmp 28), type := 29, pos := "law12.go:39", after := #[{ on := 6, ground := Go.Ground.data }], guard := none }, { dst := some 29, op := Go.Op.extract (Go.Operand.tmp 21) 0, type := 24, pos := "law12.go:39", after := #[{ on := 7, ground := Go.Ground.data }], guard := none }, { dst := some 30, op := Go.Op.extract (Go.Operand.tmp 21) 1, type := 28, pos := "law12.go:39", after := #[{ on := 7, ground := Go.Ground.data }, { on := 12, ground := Go.Ground.gcOnly Go.Departure.lateStores }], guard := none }, { dst := some 7, op := Go.Op.alloc 24, type := 0, pos := "law12.go:39", after := #[], guard := none }, { dst := some 8, op := Go.Op.alloc 28, type := 0, pos := "law12.go:39", after := #[], guard := none }, { dst := none, op := Go.Op.store 24 (Go.Operand.tmp 7) (Go.Operand.tmp 29), type := 0, pos := "law12.go:39", after := #[{ on := 10, ground := Go.Ground.data }, { on := 8, ground := Go.Ground.data }, { on := 6, ground := Go.Ground.chain }, { on := 0, ground := Go.Ground.phase }, { on := 1, ground := Go.Ground.phase }, { on := 2, ground := Go.Ground.phase }, { on := 3, ground := Go.Ground.phase }, { on := 4, ground := Go.Ground.phase }, { on := 5, ground := Go.Ground.phase }, { on := 6, ground := Go.Ground.phase }, { on := 7, ground := Go.Ground.phase }, { on := 8, ground := Go.Ground.phase }, { on := 9, ground := Go.Ground.textOnly Go.Departure.lateStores }, { on := 10, ground := Go.Ground.phase }, { on := 11, ground := Go.Ground.phase }], guard := none }, { dst := none, op := Go.Op.store 28 (Go.Operand.tmp 8) (Go.Operand.tmp 30), type := 0, pos := "law12.go:39", after := #[{ on := 11, ground := Go.Ground.data }, { on := 9, ground := Go.Ground.data }, { on := 12, ground := Go.Ground.chain }, { on := 0, ground := Go.Ground.phase }, { on := 1, ground := Go.Ground.phase }, { on := 2, ground := Go.Ground.phase }, { on := 3, ground := Go.Ground.phase }, { on := 4, ground := Go.Ground.phase }, { on := 5, ground := Go.Ground.phase }, { on := 6, ground := Go.Ground.phase }, { on := 7, ground := Go.Ground.phase }, { on := 8, ground := Go.Ground.phase }, { on := 9, ground := Go.Ground.phase }, { on := 10, ground := Go.Ground.phase }, { on := 11, ground := Go.Ground.phase }, { on := 12, ground := Go.Ground.phase }], guard := none }] true) (Exit.then K Q) { tmps := List.toArray (.agg #[.int .i64 N, .slice v1 v2 v3] :: .agg #[.int .i64 M, .slice y1 y2 y3] :: .slice l1 LL l3 :: .pointer (some ⟨w.heap.size, 0, none⟩) :: .pointer (some ⟨w.heap.size + 1, 0, none⟩) :: undef :: .bool false :: undef :: undef :: undef :: undef :: undef :: undef :: undef :: undef :: undef :: .bool true :: .bool false :: .slice l1 LL l3 :: .int .i64 LL :: .bool false :: undef :: undef :: undef :: undef :: undef :: undef :: undef :: undef :: undef :: undef :: undef :: undef :: undef :: undef :: undef :: undef :: undef :: undef :: undef :: undef :: undef :: undef :: undef :: undef :: undef :: undef :: undef :: undef :: undef :: undef :: undef :: undef :: undef :: undef :: undef :: undef :: undef :: undef :: undef :: undef :: undef :: undef :: undef :: undef :: undef :: undef :: undef :: undef :: undef :: undef :: undef :: undef :: undef :: undef :: undef :: undef :: undef :: undef :: undef :: undef :: undef :: undef :: undef :: undef :: undef :: undef :: undef :: undef :: undef :: undef :: undef :: undef :: undef :: undef :: undef :: undef :: undef :: undef :: undef :: undef :: undef :: undef :: undef :: undef :: undef :: undef :: undef :: undef :: undef :: undef :: undef :: undef :: undef :: undef :: undef :: undef :: undef :: undef :: undef :: undef :: undef :: undef :: undef :: undef :: undef :: undef :: undef :: undef :: undef :: undef :: undef :: undef :: undef :: undef :: undef :: undef :: undef :: undef :: undef :: undef :: undef :: undef :: undef :: undef :: undef :: undef :: undef :: undef :: undef :: undef :: undef :: undef :: undef :: undef :: undef :: undef :: undef :: undef :: undef :: undef :: undef :: undef :: undef :: undef :: undef :: undef :: undef :: undef :: undef :: undef :: undef :: undef :: undef :: undef :: undef :: undef :: undef :: undef :: undef :: undef :: undef :: undef :: undef :: undef :: undef :: undef :: undef :: undef :: undef :: undef :: undef :: undef :: undef :: undef :: undef :: undef :: undef :: undef :: undef :: undef :: undef :: undef :: undef :: undef :: undef :: undef :: undef :: undef :: undef :: undef :: undef :: undef :: undef :: undef :: []), defers := [] } w1 := by
  obtain ⟨c0, c1, _, _⟩ := hX1.two
  obtain ⟨d0, d1, _, _⟩ := hY1.two
  have hS : ∀ W, Below w1.heap.size w1 W → (Below w1.heap.size w1 W ∧ W.cell? ⟨w.heap.size, 0, none⟩ = some (.int .i64 N) ∧ W.cell? ⟨w.heap.size, 1, none⟩ = some (.slice v1 v2 v3) ∧ W.cell? ⟨w.heap.size + 1, 0, none⟩ = some (.int .i64 M) ∧ W.cell? ⟨w.heap.size + 1, 1, none⟩ = some (.slice y1 y2 y3)) := fun W h => ⟨h, below_cell h c0, below_cell h c1, below_cell h d0, below_cell h d1⟩
  have hBc : Below w1.heap.size w1 w1.drew := bdrew (Below.refl _ _)
  have hS0 := hS _ hBc
  clear c0 c1 d0 d1
  refine wp_region_held_drew (S := fun W => Below w1.heap.size w1 W ∧ W.cell? ⟨w.heap.size, 0, none⟩ = some (.int .i64 N) ∧ W.cell? ⟨w.heap.size, 1, none⟩ = some (.slice v1 v2 v3) ∧ W.cell? ⟨w.heap.size + 1, 0, none⟩ = some (.int .i64 M) ∧ W.cell? ⟨w.heap.size + 1, 1, none⟩ = some (.slice y1 y2 y3)) (by kernel_rfl) hS0 (fun hHeld => ?_)
  generalize w1.drew = wd at *
  refine wpAnyH_take (i := 0) (oi := ({ dst := some 22, op := Go.Op.load 24 (Go.Operand.tmp 3), type := 24, pos := _, after := _, guard := none } : Oper)) (v := ?_) rfl (by kernel_rfl) (by kernel_rfl) (by kernel_rfl) (fun _ _ _ h => HPN.out _ _ _ _ _ h) (Or.inl ⟨by rfl, ?_⟩) (by assumption) ?_
  rotate_left
  · (intro w hSw; (try dsimp only at hSw); go_simp; try with_reducible rfl)
  simp only [Act.put, List.setIfInBounds_toArray, List.set_cons_zero, List.set_cons_succ]
  refine wpAnyH_take (i := 2) (oi := ({ dst := some 24, op := Go.Op.load 24 (Go.Operand.tmp 4), type := 24, pos := _, after := _, guard := none } : Oper)) (v := ?_) rfl (by kernel_rfl) (by kernel_rfl) (by kernel_rfl) (fun _ _ _ h => HPN.out _ _ _ _ _ h) (Or.inl ⟨by rfl, ?_⟩) (by assumption) ?_
  rotate_left
  · (intro w hSw; (try dsimp only at hSw); go_simp; try with_reducible rfl)
  simp only [Act.put, List.setIfInBounds_toArray, List.set_cons_zero, List.set_cons_succ]
  refine wpAnyH_take (i := 4) (oi := ({ dst := some 26, op := Go.Op.move (Go.Operand.tmp 2), type := 25, pos := _, after := _, guard := none } : Oper)) (v := ?_) rfl (by kernel_rfl) (by kernel_rfl) (by kernel_rfl) (fun _ _ _ h => HPN.out _ _ _ _ _ h) (Or.inl ⟨by rfl, ?_⟩) (by assumption) ?_
  rotate_left
  · (intro w hSw; (try dsimp only at hSw); go_simp; try with_reducible rfl)
  simp only [Act.put, List.setIfInBounds_toArray, List.set_cons_zero, List.set_cons_succ]
  refine wpAnyH_ready (rs := [1, 10, 11]) (by kernel_rfl) (by simp) (AllReadyH.cons (o := ({ dst := some 23, op := Go.Op.call { callee := Go.Callee.value (Go.Operand.func 8), args := #[Go.Operand.tmp 22], argTypes := #[24] }, type := 24, pos := _, after := _, guard := none } : Oper)) rfl (fun KK hK => ?_) (AllReadyH.cons (o := ({ dst := some 7, op := Go.Op.alloc 24, type := 0, pos := _, after := _, guard := none } : Oper)) rfl (fun KK hK => ?_) (AllReadyH.cons (o := ({ dst := some 8, op := Go.Op.alloc 28, type := 0, pos := _, after := _, guard := none } : Oper)) rfl (fun KK hK => ?_) AllReadyH.nil)))
  · as_aux_lemma =>
     go_simp
     refine (HO1.out _ (bcat2 hB1 hBc)).mono ?_
     rintro x1 U1 ⟨a1, a2, a3, rfl, hA, hl1⟩
     have hBc := bcat2 hBc hl1
     try go_wp2_with fail
     refine hK.out _ _ (hS _ hBc) (fun hHeld => ?_)
     clear hK
     try simp only [Act.put, List.setIfInBounds_toArray, List.set_cons_zero, List.set_cons_succ]
     refine wpAnyH_ready (rs := [3, 10, 11]) (by kernel_rfl) (by simp) (AllReadyH.cons (o := ({ dst := some 25, op := Go.Op.call { callee := Go.Callee.value (Go.Operand.func 8), args := #[Go.Operand.tmp 24], argTypes := #[24] }, type := 24, pos := _, after := _, guard := none } : Oper)) rfl (fun KK hK => ?_) (AllReadyH.cons (o := ({ dst := some 7, op := Go.Op.alloc 24, type := 0, pos := _, after := _, guard := none } : Oper)) rfl (fun KK hK => ?_) (AllReadyH.cons (o := ({ dst := some 8, op := Go.Op.alloc 28, type := 0, pos := _, after := _, guard := none } : Oper)) rfl (fun KK hK => ?_) AllReadyH.nil)))
     · as_aux_lemma =>
        go_simp
        refine (HO2.out _ (bcat2 hB1 hBc)).mono ?_
        rintro x2 U2 ⟨b1, b2, b3, rfl, hH, hl2⟩
        have hBc := bcat2 hBc hl2
        have hA := HAU.out _ _ _ hA hl2
        try go_wp2_with fail
        refine hK.out _ _ (hS _ hBc) (fun hHeld => ?_)
        clear hK
        try simp only [Act.put, List.setIfInBounds_toArray, List.set_cons_zero, List.set_cons_succ]
        refine wpAnyH_ready (rs := [5, 10, 11]) (by kernel_rfl) (by simp) (AllReadyH.cons (o := ({ dst := some 27, op := Go.Op.call { callee := Go.Callee.value (Go.Operand.func 9), args := #[Go.Operand.tmp 26], argTypes := #[25] }, type := 25, pos := _, after := _, guard := none } : Oper)) rfl (fun KK hK => ?_) (AllReadyH.cons (o := ({ dst := some 7, op := Go.Op.alloc 24, type := 0, pos := _, after := _, guard := none } : Oper)) rfl (fun KK hK => ?_) (AllReadyH.cons (o := ({ dst := some 8, op := Go.Op.alloc 28, type := 0, pos := _, after := _, guard := none } : Oper)) rfl (fun KK hK => ?_) AllReadyH.nil)))
        · as_aux_lemma =>
           go_simp
           refine (HOL.out _ (bcat2 hB1 hBc)).mono ?_
           rintro x3 U3 ⟨k1, k2, k3, rfl, hL, hl3⟩
           have hBc := bcat2 hBc hl3
           have hA := HAU.out _ _ _ hA hl3
           have hH := HHU.out _ _ _ hH hl3
           try go_wp2_with fail
           refine hK.out _ _ (hS _ hBc) (fun hHeld => ?_)
           clear hK
           try simp only [Act.put, List.setIfInBounds_toArray, List.set_cons_zero, List.set_cons_succ]
           refine wpAnyH_ready (rs := [6, 10, 11]) (by kernel_rfl) (by simp) (AllReadyH.cons (o := ({ dst := some 28, op := Go.Op.call { callee := Go.Callee.value (Go.Operand.func 7), args := #[Go.Operand.tmp 23, Go.Operand.tmp 25, Go.Operand.tmp 27], argTypes := #[24, 24, 25] }, type := 29, pos := _, after := _, guard := none } : Oper)) rfl (fun KK hK => ?_) (AllReadyH.cons (o := ({ dst := some 7, op := Go.Op.alloc 24, type := 0, pos := _, after := _, guard := none } : Oper)) rfl (fun KK hK => ?_) (AllReadyH.cons (o := ({ dst := some 8, op := Go.Op.alloc 28, type := 0, pos := _, after := _, guard := none } : Oper)) rfl (fun KK hK => ?_) AllReadyH.nil)))
           · have hpz := hBc
             go_simp
             refine (HSE.out _ _ _ _ (bcat2 hB1 hBc) hA hH hL).mono ?_
             rintro x4 U4 ⟨r1, r2, r3, pb, rfl, hR, hpb, hl4⟩
             have hBc := bcat2 hBc hl4
             clear hA hH hL hpz
             try go_wp2_with fail
             refine hK.out _ _ (hS _ hBc) (fun hHeld => ?_)
             clear hK
             try simp only [Act.put, List.setIfInBounds_toArray, List.set_cons_zero, List.set_cons_succ]
             refine wpAnyH_take (i := 7) (oi := ({ dst := some 21, op := Go.Op.move (Go.Operand.tmp 28), type := 29, pos := _, after := _, guard := none } : Oper)) (v := ?_) rfl (by kernel_rfl) (by kernel_rfl) (by kernel_rfl) (fun _ _ _ h => HPN.out _ _ _ _ _ h) (Or.inl ⟨by rfl, ?_⟩) (by assumption) ?_
             rotate_left
             · (intro w hSw; (try dsimp only at hSw); go_simp; try with_reducible rfl)
             simp only [Act.put, List.setIfInBounds_toArray, List.set_cons_zero, List.set_cons_succ]
             refine wpAnyH_take (i := 8) (oi := ({ dst := some 29, op := Go.Op.extract (Go.Operand.tmp 21) 0, type := 24, pos := _, after := _, guard := none } : Oper)) (v := ?_) rfl (by kernel_rfl) (by kernel_rfl) (by kernel_rfl) (fun _ _ _ h => HPN.out _ _ _ _ _ h) (Or.inl ⟨by rfl, ?_⟩) (by assumption) ?_
             rotate_left
             · (intro w hSw; (try dsimp only at hSw); go_simp; try with_reducible rfl)
             simp only [Act.put, List.setIfInBounds_toArray, List.set_cons_zero, List.set_cons_succ]
             refine wpAnyH_take (i := 9) (oi := ({ dst := some 30, op := Go.Op.extract (Go.Operand.tmp 21) 1, type := 28, pos := _, after := _, guard := none } : Oper)) (v := ?_) rfl (by kernel_rfl) (by kernel_rfl) (by kernel_rfl) (fun _ _ _ h => HPN.out _ _ _ _ _ h) (Or.inl ⟨by rfl, ?_⟩) (by assumption) ?_
             rotate_left
             · (intro w hSw; (try dsimp only at hSw); go_simp; try with_reducible rfl)
             simp only [Act.put, List.setIfInBounds_toArray, List.set_cons_zero, List.set_cons_succ]
             refine wpAnyH_ready (rs := [10, 11]) (by kernel_rfl) (by simp) (AllReadyH.cons (o := ({ dst := some 7, op := Go.Op.alloc 24, type := 0, pos := _, after := _, guard := none } : Oper)) rfl (fun KK hK => ?_) (AllReadyH.cons (o := ({ dst := some 8, op := Go.Op.alloc 28, type := 0, pos := _, after := _, guard := none } : Oper)) rfl (fun KK hK => ?_) AllReadyH.nil))
             · go_simp
               have hgeG : w1.heap.size ≤ U4.heap.size := hBc.size
               have haG := balloc U4 (.cells #[.int .i64 0, .slice none 0 0] 24)
               have hBc := bcat2 hBc haG
               have hgp : GD = true → pb ≠ U4.heap.size := fun h => by have := HRL.out _ _ _ hR h; omega
               have hR := HRB.out _ _ _ _ hR haG
               have hG := blk0 (w := U4) (T := 24) (.int .i64 0) (.slice none 0 0)
               refine hK.out _ _ (hS _ hBc) (fun hHeld => ?_)
               clear hK
               try simp only [Act.put, List.setIfInBounds_toArray, List.set_cons_zero, List.set_cons_succ]
               generalize U4.alloc (.cells #[.int .i64 0, .slice none 0 0] 24) = WAg at *
               generalize U4.heap.size = gb at *
               refine wpAnyH_ready (rs := [11]) (by kernel_rfl) (by simp) (AllReadyH.cons (o := ({ dst := some 8, op := Go.Op.alloc 28, type := 0, pos := _, after := _, guard := none } : Oper)) rfl (fun KK hK => ?_) AllReadyH.nil)
               go_simp
               have hgeF : w1.heap.size ≤ WAg.heap.size := hBc.size
               have haF := balloc WAg (.cells #[.int .i64 0, .int .i64 0] 28)
               have hBc := bcat2 hBc haF
               have hfp : GD = true → pb ≠ WAg.heap.size := fun h => by have := HRL.out _ _ _ hR h; omega
               have hlt9 := hG.lt
               have hR := HRB.out _ _ _ _ hR haF
               have hG := blk_below hG haF
               have hF := blk0 (w := WAg) (T := 28) (.int .i64 0) (.int .i64 0)
               refine hK.out _ _ (hS _ hBc) (fun hHeld => ?_)
               clear hK
               try simp only [Act.put, List.setIfInBounds_toArray, List.set_cons_zero, List.set_cons_succ]
               generalize WAg.alloc (.cells #[.int .i64 0, .int .i64 0] 28) = WAf at *
               generalize WAg.heap.size = fb at *
               have hne : gb ≠ fb := by omega
               refine wpAnyH_ready (rs := [12]) (by kernel_rfl) (by simp) (AllReadyH.cons (o := ({ dst := none, op := Go.Op.store 24 (Go.Operand.tmp 7) (Go.Operand.tmp 29), type := 0, pos := _, after := _, guard := none } : Oper)) rfl (fun KK hK => ?_) AllReadyH.nil)
               obtain ⟨z0, z1, z2, z3⟩ := hG.two
               go_simp
               have hBc := (hBc.setCell (p := ⟨gb, 0, none⟩) hgeG (.int .i64 GN)).setCell (p := ⟨gb, 1, none⟩) hgeG (.slice r1 r2 r3)
               have hG : Blk _ gb 24 [.int .i64 GN, .slice r1 r2 r3] := (hG.set 0 (.int .i64 GN)).set 1 (.slice r1 r2 r3)
               have hF := (hF.other (p := ⟨gb, 0, none⟩) (fun h => hne h.symm) (.int .i64 GN)).other (p := ⟨gb, 1, none⟩) (fun h => hne h.symm) (.slice r1 r2 r3)
               have hR := HRS.out _ _ _ gb 1 (.slice r1 r2 r3) (HRS.out _ _ _ gb 0 (.int .i64 GN) hR hgp) hgp
               refine hK.out _ _ (hS _ hBc) (fun hHeld => ?_)
               clear hK
               try simp only [Act.put, List.setIfInBounds_toArray, List.set_cons_zero, List.set_cons_succ]
               clear z0 z1 z2 z3
               generalize (WAf.setCell ⟨gb, 0, none⟩ (.int .i64 GN)).setCell ⟨gb, 1, none⟩ (.slice r1 r2 r3) = WG at *
               refine wpAnyH_ready (rs := [13]) (by kernel_rfl) (by simp) (AllReadyH.cons (o := ({ dst := none, op := Go.Op.store 28 (Go.Operand.tmp 8) (Go.Operand.tmp 30), type := 0, pos := _, after := _, guard := none } : Oper)) rfl (fun KK hK => ?_) AllReadyH.nil)
               obtain ⟨z0, z1, z2, z3⟩ := hF.two
               go_simp
               have hBc := (hBc.setCell (p := ⟨fb, 0, none⟩) hgeF (.int .i64 sc)).setCell (p := ⟨fb, 1, none⟩) hgeF (.int .i64 si)
               have hF : Blk _ fb 28 [.int .i64 sc, .int .i64 si] := (hF.set 0 (.int .i64 sc)).set 1 (.int .i64 si)
               have hG := (hG.other (p := ⟨fb, 0, none⟩) hne (.int .i64 sc)).other (p := ⟨fb, 1, none⟩) hne (.int .i64 si)
               have hR := HRS.out _ _ _ fb 1 (.int .i64 si) (HRS.out _ _ _ fb 0 (.int .i64 sc) hR hfp) hfp
               refine hK.out _ _ (hS _ hBc) (fun hHeld => ?_)
               clear hK
               try simp only [Act.put, List.setIfInBounds_toArray, List.set_cons_zero, List.set_cons_succ]
               clear z0 z1 z2 z3
               refine wpAnyH_done (by kernel_rfl) ?_ _
               go_wp2_with fail
               exact HQ.out gb fb pb r1 r2 r3 a1 a2 a3 b1 b2 b3 k1 k2 k3 _ hG hF hR hBc
             go_simp
             have hgeF : w1.heap.size ≤ U4.heap.size := hBc.size
             have haF := balloc U4 (.cells #[.int .i64 0, .int .i64 0] 28)
             have hBc := bcat2 hBc haF
             have hfp : GD = true → pb ≠ U4.heap.size := fun h => by have := HRL.out _ _ _ hR h; omega
             have hR := HRB.out _ _ _ _ hR haF
             have hF := blk0 (w := U4) (T := 28) (.int .i64 0) (.int .i64 0)
             refine hK.out _ _ (hS _ hBc) (fun hHeld => ?_)
             clear hK
             try simp only [Act.put, List.setIfInBounds_toArray, List.set_cons_zero, List.set_cons_succ]
             generalize U4.alloc (.cells #[.int .i64 0, .int .i64 0] 28) = WAf at *
             generalize U4.heap.size = fb at *
             refine wpAnyH_ready (rs := [10]) (by kernel_rfl) (by simp) (AllReadyH.cons (o := ({ dst := some 7, op := Go.Op.alloc 24, type := 0, pos := _, after := _, guard := none } : Oper)) rfl (fun KK hK => ?_) AllReadyH.nil)
             go_simp
             have hgeG : w1.heap.size ≤ WAf.heap.size := hBc.size
             have haG := balloc WAf (.cells #[.int .i64 0, .slice none 0 0] 24)
             have hBc := bcat2 hBc haG
             have hgp : GD = true → pb ≠ WAf.heap.size := fun h => by have := HRL.out _ _ _ hR h; omega
             have hlt9 := hF.lt
             have hR := HRB.out _ _ _ _ hR haG
             have hF := blk_below hF haG
             have hG := blk0 (w := WAf) (T := 24) (.int .i64 0) (.slice none 0 0)
             refine hK.out _ _ (hS _ hBc) (fun hHeld => ?_)
             clear hK
             try simp only [Act.put, List.setIfInBounds_toArray, List.set_cons_zero, List.set_cons_succ]
             generalize WAf.alloc (.cells #[.int .i64 0, .slice none 0 0] 24) = WAg at *
             generalize WAf.heap.size = gb at *
             have hne : gb ≠ fb := by omega
             refine wpAnyH_ready (rs := [12]) (by kernel_rfl) (by simp) (AllReadyH.cons (o := ({ dst := none, op := Go.Op.store 24 (Go.Operand.tmp 7) (Go.Operand.tmp 29), type := 0, pos := _, after := _, guard := none } : Oper)) rfl (fun KK hK => ?_) AllReadyH.nil)
             obtain ⟨z0, z1, z2, z3⟩ := hG.two
             go_simp
             have hBc := (hBc.setCell (p := ⟨gb, 0, none⟩) hgeG (.int .i64 GN)).setCell (p := ⟨gb, 1, none⟩) hgeG (.slice r1 r2 r3)
             have hG : Blk _ gb 24 [.int .i64 GN, .slice r1 r2 r3] := (hG.set 0 (.int .i64 GN)).set 1 (.slice r1 r2 r3)
             have hF := (hF.other (p := ⟨gb, 0, none⟩) (fun h => hne h.symm) (.int .i64 GN)).other (p := ⟨gb, 1, none⟩) (fun h => hne h.symm) (.slice r1 r2 r3)
             have hR := HRS.out _ _ _ gb 1 (.slice r1 r2 r3) (HRS.out _ _ _ gb 0 (.int .i64 GN) hR hgp) hgp
             refine hK.out _ _ (hS _ hBc) (fun hHeld => ?_)
             clear hK
             try simp only [Act.put, List.setIfInBounds_toArray, List.set_cons_zero, List.set_cons_succ]
             clear z0 z1 z2 z3
             generalize (WAg.setCell ⟨gb, 0, none⟩ (.int .i64 GN)).setCell ⟨gb, 1, none⟩ (.slice r1 r2 r3) = WG at *
             refine wpAnyH_ready (rs := [13]) (by kernel_rfl) (by simp) (AllReadyH.cons (o := ({ dst := none, op := Go.Op.store 28 (Go.Operand.tmp 8) (Go.Operand.tmp 30), type := 0, pos := _, after := _, guard := none } : Oper)) rfl (fun KK hK => ?_) AllReadyH.nil)
             obtain ⟨z0, z1, z2, z3⟩ := hF.two
             go_simp
             have hBc := (hBc.setCell (p := ⟨fb, 0, none⟩) hgeF (.int .i64 sc)).setCell (p := ⟨fb, 1, none⟩) hgeF (.int .i64 si)
             have hF : Blk _ fb 28 [.int .i64 sc, .int .i64 si] := (hF.set 0 (.int .i64 sc)).set 1 (.int .i64 si)
             have hG := (hG.other (p := ⟨fb, 0, none⟩) hne (.int .i64 sc)).other (p := ⟨fb, 1, none⟩) hne (.int .i64 si)
             have hR := HRS.out _ _ _ fb 1 (.int .i64 si) (HRS.out _ _ _ fb 0 (.int .i64 sc) hR hfp) hfp
             refine hK.out _ _ (hS _ hBc) (fun hHeld => ?_)
             clear hK
             try simp only [Act.put, List.setIfInBounds_toArray, List.set_cons_zero, List.set_cons_succ]
             clear z0 z1 z2 z3
             refine wpAnyH_done (by kernel_rfl) ?_ _
             go_wp2_with fail
             exact HQ.out gb fb pb r1 r2 r3 a1 a2 a3 b1 b2 b3 k1 k2 k3 _ hG hF hR hBc
           · go_simp
             have hgeG : w1.heap.size ≤ U3.heap.size := hBc.size
             have haG := balloc U3 (.cells #[.int .i64 0, .slice none 0 0] 24)
             have hBc := bcat2 hBc haG
             have hA := HAU.out _ _ _ hA haG
             have hH := HHU.out _ _ _ hH haG
             have hL := HLU.out _ _ _ hL haG
             have hG := blk0 (w := U3) (T := 24) (.int .i64 0) (.slice none 0 0)
             refine hK.out _ _ (hS _ hBc) (fun hHeld => ?_)
             clear hK
             try simp only [Act.put, List.setIfInBounds_toArray, List.set_cons_zero, List.set_cons_succ]
             generalize U3.alloc (.cells #[.int .i64 0, .slice none 0 0] 24) = WAg at *
             generalize U3.heap.size = gb at *
             refine wpAnyH_ready (rs := [6, 11]) (by kernel_rfl) (by simp) (AllReadyH.cons (o := ({ dst := some 28, op := Go.Op.call { callee := Go.Callee.value (Go.Operand.func 7), args := #[Go.Operand.tmp 23, Go.Operand.tmp 25, Go.Operand.tmp 27], argTypes := #[24, 24, 25] }, type := 29, pos := _, after := _, guard := none } : Oper)) rfl (fun KK hK => ?_) (AllReadyH.cons (o := ({ dst := some 8, op := Go.Op.alloc 28, type := 0, pos := _, after := _, guard := none } : Oper)) rfl (fun KK hK => ?_) AllReadyH.nil))
             · have hpz := hBc
               have hg9 := hG.lt
               go_simp
               refine (HSE.out _ _ _ _ (bcat2 hB1 hBc) hA hH hL).mono ?_
               rintro x4 U4 ⟨r1, r2, r3, pb, rfl, hR, hpb, hl4⟩
               have hBc := bcat2 hBc hl4
               have hgp : GD = true → pb ≠ gb := fun h => by have := hpb h; omega
               have hG := blk_below hG hl4
               clear hA hH hL hpz
               try go_wp2_with fail
               refine hK.out _ _ (hS _ hBc) (fun hHeld => ?_)
               clear hK
               try simp only [Act.put, List.setIfInBounds_toArray, List.set_cons_zero, List.set_cons_succ]
               refine wpAnyH_take (i := 7) (oi := ({ dst := some 21, op := Go.Op.move (Go.Operand.tmp 28), type := 29, pos := _, after := _, guard := none } : Oper)) (v := ?_) rfl (by kernel_rfl) (by kernel_rfl) (by kernel_rfl) (fun _ _ _ h => HPN.out _ _ _ _ _ h) (Or.inl ⟨by rfl, ?_⟩) (by assumption) ?_
               rotate_left
               · (intro w hSw; (try dsimp only at hSw); go_simp; try with_reducible rfl)
               simp only [Act.put, List.setIfInBounds_toArray, List.set_cons_zero, List.set_cons_succ]
               refine wpAnyH_take (i := 8) (oi := ({ dst := some 29, op := Go.Op.extract (Go.Operand.tmp 21) 0, type := 24, pos := _, after := _, guard := none } : Oper)) (v := ?_) rfl (by kernel_rfl) (by kernel_rfl) (by kernel_rfl) (fun _ _ _ h => HPN.out _ _ _ _ _ h) (Or.inl ⟨by rfl, ?_⟩) (by assumption) ?_
               rotate_left
               · (intro w hSw; (try dsimp only at hSw); go_simp; try with_reducible rfl)
               simp only [Act.put, List.setIfInBounds_toArray, List.set_cons_zero, List.set_cons_succ]
               refine wpAnyH_take (i := 9) (oi := ({ dst := some 30, op := Go.Op.extract (Go.Operand.tmp 21) 1, type := 28, pos := _, after := _, guard := none } : Oper)) (v := ?_) rfl (by kernel_rfl) (by kernel_rfl) (by kernel_rfl) (fun _ _ _ h => HPN.out _ _ _ _ _ h) (Or.inl ⟨by rfl, ?_⟩) (by assumption) ?_
               rotate_left
               · (intro w hSw; (try dsimp only at hSw); go_simp; try with_reducible rfl)
               simp only [Act.put, List.setIfInBounds_toArray, List.set_cons_zero, List.set_cons_succ]
               refine wpAnyH_ready (rs := [11]) (by kernel_rfl) (by simp) (AllReadyH.cons (o := ({ dst := some 8, op := Go.Op.alloc 28, type := 0, pos := _, after := _, guard := none } : Oper)) rfl (fun KK hK => ?_) AllReadyH.nil)
               go_simp
               have hgeF : w1.heap.size ≤ U4.heap.size := hBc.size
               have haF := balloc U4 (.cells #[.int .i64 0, .int .i64 0] 28)
               have hBc := bcat2 hBc haF
               have hfp : GD = true → pb ≠ U4.heap.size := fun h => by have := HRL.out _ _ _ hR h; omega
               have hlt9 := hG.lt
               have hR := HRB.out _ _ _ _ hR haF
               have hG := blk_below hG haF
               have hF := blk0 (w := U4) (T := 28) (.int .i64 0) (.int .i64 0)
               refine hK.out _ _ (hS _ hBc) (fun hHeld => ?_)
               clear hK
               try simp only [Act.put, List.setIfInBounds_toArray, List.set_cons_zero, List.set_cons_succ]
               generalize U4.alloc (.cells #[.int .i64 0, .int .i64 0] 28) = WAf at *
               generalize U4.heap.size = fb at *
               have hne : gb ≠ fb := by omega
               refine wpAnyH_ready (rs := [12]) (by kernel_rfl) (by simp) (AllReadyH.cons (o := ({ dst := none, op := Go.Op.store 24 (Go.Operand.tmp 7) (Go.Operand.tmp 29), type := 0, pos := _, after := _, guard := none } : Oper)) rfl (fun KK hK => ?_) AllReadyH.nil)
               obtain ⟨z0, z1, z2, z3⟩ := hG.two
               go_simp
               have hBc := (hBc.setCell (p := ⟨gb, 0, none⟩) hgeG (.int .i64 GN)).setCell (p := ⟨gb, 1, none⟩) hgeG (.slice r1 r2 r3)
               have hG : Blk _ gb 24 [.int .i64 GN, .slice r1 r2 r3] := (hG.set 0 (.int .i64 GN)).set 1 (.slice r1 r2 r3)
               have hF := (hF.other (p := ⟨gb, 0, none⟩) (fun h => hne h.symm) (.int .i64 GN)).other (p := ⟨gb, 1, none⟩) (fun h => hne h.symm) (.slice r1 r2 r3)
               have hR := HRS.out _ _ _ gb 1 (.slice r1 r2 r3) (HRS.out _ _ _ gb 0 (.int .i64 GN) hR hgp) hgp
               refine hK.out _ _ (hS _ hBc) (fun hHeld => ?_)
               clear hK
               try simp only [Act.put, List.setIfInBounds_toArray, List.set_cons_zero, List.set_cons_succ]
               clear z0 z1 z2 z3
               generalize (WAf.setCell ⟨gb, 0, none⟩ (.int .i64 GN)).setCell ⟨gb, 1, none⟩ (.slice r1 r2 r3) = WG at *
               refine wpAnyH_ready (rs := [13]) (by kernel_rfl) (by simp) (AllReadyH.cons (o := ({ dst := none, op := Go.Op.store 28 (Go.Operand.tmp 8) (Go.Operand.tmp 30), type := 0, pos := _, after := _, guard := none } : Oper)) rfl (fun KK hK => ?_) AllReadyH.nil)
               obtain ⟨z0, z1, z2, z3⟩ := hF.two
               go_simp
               have hBc := (hBc.setCell (p := ⟨fb, 0, none⟩) hgeF (.int .i64 sc)).setCell (p := ⟨fb, 1, none⟩) hgeF (.int .i64 si)
               have hF : Blk _ fb 28 [.int .i64 sc, .int .i64 si] := (hF.set 0 (.int .i64 sc)).set 1 (.int .i64 si)
               have hG := (hG.other (p := ⟨fb, 0, none⟩) hne (.int .i64 sc)).other (p := ⟨fb, 1, none⟩) hne (.int .i64 si)
               have hR := HRS.out _ _ _ fb 1 (.int .i64 si) (HRS.out _ _ _ fb 0 (.int .i64 sc) hR hfp) hfp
               refine hK.out _ _ (hS _ hBc) (fun hHeld => ?_)
               clear hK
               try simp only [Act.put, List.setIfInBounds_toArray, List.set_cons_zero, List.set_cons_succ]
               clear z0 z1 z2 z3
               refine wpAnyH_done (by kernel_rfl) ?_ _
               go_wp2_with fail
               exact HQ.out gb fb pb r1 r2 r3 a1 a2 a3 b1 b2 b3 k1 k2 k3 _ hG hF hR hBc
             go_simp
             have hgeF : w1.heap.size ≤ WAg.heap.size := hBc.size
             have haF := balloc WAg (.cells #[.int .i64 0, .int .i64 0] 28)
             have hBc := bcat2 hBc haF
             have hlt9 := hG.lt
             have hA := HAU.out _ _ _ hA haF
             have hH := HHU.out _ _ _ hH haF
             have hL := HLU.out _ _ _ hL haF
             have hG := blk_below hG haF
             have hF := blk0 (w := WAg) (T := 28) (.int .i64 0) (.int .i64 0)
             refine hK.out _ _ (hS _ hBc) (fun hHeld => ?_)
             clear hK
             try simp only [Act.put, List.setIfInBounds_toArray, List.set_cons_zero, List.set_cons_succ]
             generalize WAg.alloc (.cells #[.int .i64 0, .int .i64 0] 28) = WAf at *
             generalize WAg.heap.size = fb at *
             have hne : gb ≠ fb := by omega
             refine wpAnyH_ready (rs := [6]) (by kernel_rfl) (by simp) (AllReadyH.cons (o := ({ dst := some 28, op := Go.Op.call { callee := Go.Callee.value (Go.Operand.func 7), args := #[Go.Operand.tmp 23, Go.Operand.tmp 25, Go.Operand.tmp 27], argTypes := #[24, 24, 25] }, type := 29, pos := _, after := _, guard := none } : Oper)) rfl (fun KK hK => ?_) AllReadyH.nil)
             have hpz := hBc
             have hg9 := hG.lt
             have hf9 := hF.lt
             go_simp
             refine (HSE.out _ _ _ _ (bcat2 hB1 hBc) hA hH hL).mono ?_
             rintro x4 U4 ⟨r1, r2, r3, pb, rfl, hR, hpb, hl4⟩
             have hBc := bcat2 hBc hl4
             have hgp : GD = true → pb ≠ gb := fun h => by have := hpb h; omega
             have hfp : GD = true → pb ≠ fb := fun h => by have := hpb h; omega
             have hG := blk_below hG hl4
             have hF := blk_below hF hl4
             clear hA hH hL hpz
             try go_wp2_with fail
             refine hK.out _ _ (hS _ hBc) (fun hHeld => ?_)
             clear hK
             try simp only [Act.put, List.setIfInBounds_toArray, List.set_cons_zero, List.set_cons_succ]
             refine wpAnyH_take (i := 7) (oi := ({ dst := some 21, op := Go.Op.move (Go.Operand.tmp 28), type := 29, pos := _, after := _, guard := none } : Oper)) (v := ?_) rfl (by kernel_rfl) (by kernel_rfl) (by kernel_rfl) (fun _ _ _ h => HPN.out _ _ _ _ _ h) (Or.inl ⟨by rfl, ?_⟩) (by assumption) ?_
             rotate_left
             · (intro w hSw; (try dsimp only at hSw); go_simp; try with_reducible rfl)
             simp only [Act.put, List.setIfInBounds_toArray, List.set_cons_zero, List.set_cons_succ]
             refine wpAnyH_take (i := 8) (oi := ({ dst := some 29, op := Go.Op.extract (Go.Operand.tmp 21) 0, type := 24, pos := _, after := _, guard := none } : Oper)) (v := ?_) rfl (by kernel_rfl) (by kernel_rfl) (by kernel_rfl) (fun _ _ _ h => HPN.out _ _ _ _ _ h) (Or.inl ⟨by rfl, ?_⟩) (by assumption) ?_
             rotate_left
             · (intro w hSw; (try dsimp only at hSw); go_simp; try with_reducible rfl)
             simp only [Act.put, List.setIfInBounds_toArray, List.set_cons_zero, List.set_cons_succ]
             refine wpAnyH_take (i := 9) (oi := ({ dst := some 30, op := Go.Op.extract (Go.Operand.tmp 21) 1, type := 28, pos := _, after := _, guard := none } : Oper)) (v := ?_) rfl (by kernel_rfl) (by kernel_rfl) (by kernel_rfl) (fun _ _ _ h => HPN.out _ _ _ _ _ h) (Or.inl ⟨by rfl, ?_⟩) (by assumption) ?_
             rotate_left
             · (intro w hSw; (try dsimp only at hSw); go_simp; try with_reducible rfl)
             simp only [Act.put, List.setIfInBounds_toArray, List.set_cons_zero, List.set_cons_succ]
             refine wpAnyH_ready (rs := [12]) (by kernel_rfl) (by simp) (AllReadyH.cons (o := ({ dst := none, op := Go.Op.store 24 (Go.Operand.tmp 7) (Go.Operand.tmp 29), type := 0, pos := _, after := _, guard := none } : Oper)) rfl (fun KK hK => ?_) AllReadyH.nil)
             obtain ⟨z0, z1, z2, z3⟩ := hG.two
             go_simp
             have hBc := (hBc.setCell (p := ⟨gb, 0, none⟩) hgeG (.int .i64 GN)).setCell (p := ⟨gb, 1, none⟩) hgeG (.slice r1 r2 r3)
             have hG : Blk _ gb 24 [.int .i64 GN, .slice r1 r2 r3] := (hG.set 0 (.int .i64 GN)).set 1 (.slice r1 r2 r3)
             have hF := (hF.other (p := ⟨gb, 0, none⟩) (fun h => hne h.symm) (.int .i64 GN)).other (p := ⟨gb, 1, none⟩) (fun h => hne h.symm) (.slice r1 r2 r3)
             have hR := HRS.out _ _ _ gb 1 (.slice r1 r2 r3) (HRS.out _ _ _ gb 0 (.int .i64 GN) hR hgp) hgp
             refine hK.out _ _ (hS _ hBc) (fun hHeld => ?_)
             clear hK
             try simp only [Act.put, List.setIfInBounds_toArray, List.set_cons_zero, List.set_cons_succ]
             clear z0 z1 z2 z3
             generalize (U4.setCell ⟨gb, 0, none⟩ (.int .i64 GN)).setCell ⟨gb, 1, none⟩ (.slice r1 r2 r3) = WG at *
             refine wpAnyH_ready (rs := [13]) (by kernel_rfl) (by simp) (AllReadyH.cons (o := ({ dst := none, op := Go.Op.store 28 (Go.Operand.tmp 8) (Go.Operand.tmp 30), type := 0, pos := _, after := _, guard := none } : Oper)) rfl (fun KK hK => ?_) AllReadyH.nil)
             obtain ⟨z0, z1, z2, z3⟩ := hF.two
             go_simp
             have hBc := (hBc.setCell (p := ⟨fb, 0, none⟩) hgeF (.int .i64 sc)).setCell (p := ⟨fb, 1, none⟩) hgeF (.int .i64 si)
             have hF : Blk _ fb 28 [.int .i64 sc, .int .i64 si] := (hF.set 0 (.int .i64 sc)).set 1 (.int .i64 si)
             have hG := (hG.other (p := ⟨fb, 0, none⟩) hne (.int .i64 sc)).other (p := ⟨fb, 1, none⟩) hne (.int .i64 si)
             have hR := HRS.out _ _ _ fb 1 (.int .i64 si) (HRS.out _ _ _ fb 0 (.int .i64 sc) hR hfp) hfp
             refine hK.out _ _ (hS _ hBc) (fun hHeld => ?_)
             clear hK
             try simp only [Act.put, List.setIfInBounds_toArray, List.set_cons_zero, List.set_cons_succ]
             clear z0 z1 z2 z3
             refine wpAnyH_done (by kernel_rfl) ?_ _
             go_wp2_with fail
             exact HQ.out gb fb pb r1 r2 r3 a1 a2 a3 b1 b2 b3 k1 k2 k3 _ hG hF hR hBc
           go_simp
           have hgeF : w1.heap.size ≤ U3.heap.size := hBc.size
           have haF := balloc U3 (.cells #[.int .i64 0, .int .i64 0] 28)
           have hBc := bcat2 hBc haF
           have hA := HAU.out _ _ _ hA haF
           have hH := HHU.out _ _ _ hH haF
           have hL := HLU.out _ _ _ hL haF
           have hF := blk0 (w := U3) (T := 28) (.int .i64 0) (.int .i64 0)
           refine hK.out _ _ (hS _ hBc) (fun hHeld => ?_)
           clear hK
           try simp only [Act.put, List.setIfInBounds_toArray, List.set_cons_zero, List.set_cons_succ]
           generalize U3.alloc (.cells #[.int .i64 0, .int .i64 0] 28) = WAf at *
           generalize U3.heap.size = fb at *
           refine wpAnyH_ready (rs := [6, 10]) (by kernel_rfl) (by simp) (AllReadyH.cons (o := ({ dst := some 28, op := Go.Op.call { callee := Go.Callee.value (Go.Operand.func 7), args := #[Go.Operand.tmp 23, Go.Operand.tmp 25, Go.Operand.tmp 27], argTypes := #[24, 24, 25] }, type := 29, pos := _, after := _, guard := none } : Oper)) rfl (fun KK hK => ?_) (AllReadyH.cons (o := ({ dst := some 7, op := Go.Op.alloc 24, type := 0, pos := _, after := _, guard := none } : Oper)) rfl (fun KK hK => ?_) AllReadyH.nil))
           · have hpz := hBc
             have hf9 := hF.lt
             go_simp
             refine (HSE.out _ _ _ _ (bcat2 hB1 hBc) hA hH hL).mono ?_
             rintro x4 U4 ⟨r1, r2, r3, pb, rfl, hR, hpb, hl4⟩
             have hBc := bcat2 hBc hl4
             have hfp : GD = true → pb ≠ fb := fun h => by have := hpb h; omega
             have hF := blk_below hF hl4
             clear hA hH hL hpz
             try go_wp2_with fail
             refine hK.out _ _ (hS _ hBc) (fun hHeld => ?_)
             clear hK
             try simp only [Act.put, List.setIfInBounds_toArray, List.set_cons_zero, List.set_cons_succ]
             refine wpAnyH_take (i := 7) (oi := ({ dst := some 21, op := Go.Op.move (Go.Operand.tmp 28), type := 29, pos := _, after := _, guard := none } : Oper)) (v := ?_) rfl (by kernel_rfl) (by kernel_rfl) (by kernel_rfl) (fun _ _ _ h => HPN.out _ _ _ _ _ h) (Or.inl ⟨by rfl, ?_⟩) (by assumption) ?_
             rotate_left
             · (intro w hSw; (try dsimp only at hSw); go_simp; try with_reducible rfl)
             simp only [Act.put, List.setIfInBounds_toArray, List.set_cons_zero, List.set_cons_succ]
             refine wpAnyH_take (i := 8) (oi := ({ dst := some 29, op := Go.Op.extract (Go.Operand.tmp 21) 0, type := 24, pos := _, after := _, guard := none } : Oper)) (v := ?_) rfl (by kernel_rfl) (by kernel_rfl) (by kernel_rfl) (fun _ _ _ h => HPN.out _ _ _ _ _ h) (Or.inl ⟨by rfl, ?_⟩) (by assumption) ?_
             rotate_left
             · (intro w hSw; (try dsimp only at hSw); go_simp; try with_reducible rfl)
             simp only [Act.put, List.setIfInBounds_toArray, List.set_cons_zero, List.set_cons_succ]
             refine wpAnyH_take (i := 9) (oi := ({ dst := some 30, op := Go.Op.extract (Go.Operand.tmp 21) 1, type := 28, pos := _, after := _, guard := none } : Oper)) (v := ?_) rfl (by kernel_rfl) (by kernel_rfl) (by kernel_rfl) (fun _ _ _ h => HPN.out _ _ _ _ _ h) (Or.inl ⟨by rfl, ?_⟩) (by assumption) ?_
             rotate_left
             · (intro w hSw; (try dsimp only at hSw); go_simp; try with_reducible rfl)
             simp only [Act.put, List.setIfInBounds_toArray, List.set_cons_zero, List.set_cons_succ]
             refine wpAnyH_ready (rs := [10]) (by kernel_rfl) (by simp) (AllReadyH.cons (o := ({ dst := some 7, op := Go.Op.alloc 24, type := 0, pos := _, after := _, guard := none } : Oper)) rfl (fun KK hK => ?_) AllReadyH.nil)
             go_simp
             have hgeG : w1.heap.size ≤ U4.heap.size := hBc.size
             have haG := balloc U4 (.cells #[.int .i64 0, .slice none 0 0] 24)
             have hBc := bcat2 hBc haG
             have hgp : GD = true → pb ≠ U4.heap.size := fun h => by have := HRL.out _ _ _ hR h; omega
             have hlt9 := hF.lt
             have hR := HRB.out _ _ _ _ hR haG
             have hF := blk_below hF haG
             have hG := blk0 (w := U4) (T := 24) (.int .i64 0) (.slice none 0 0)
             refine hK.out _ _ (hS _ hBc) (fun hHeld => ?_)
             clear hK
             try simp only [Act.put, List.setIfInBounds_toArray, List.set_cons_zero, List.set_cons_succ]
             generalize U4.alloc (.cells #[.int .i64 0, .slice none 0 0] 24) = WAg at *
             generalize U4.heap.size = gb at *
             have hne : gb ≠ fb := by omega
             refine wpAnyH_ready (rs := [12]) (by kernel_rfl) (by simp) (AllReadyH.cons (o := ({ dst := none, op := Go.Op.store 24 (Go.Operand.tmp 7) (Go.Operand.tmp 29), type := 0, pos := _, after := _, guard := none } : Oper)) rfl (fun KK hK => ?_) AllReadyH.nil)
             obtain ⟨z0, z1, z2, z3⟩ := hG.two
             go_simp
             have hBc := (hBc.setCell (p := ⟨gb, 0, none⟩) hgeG (.int .i64 GN)).setCell (p := ⟨gb, 1, none⟩) hgeG (.slice r1 r2 r3)
             have hG : Blk _ gb 24 [.int .i64 GN, .slice r1 r2 r3] := (hG.set 0 (.int .i64 GN)).set 1 (.slice r1 r2 r3)
             have hF := (hF.other (p := ⟨gb, 0, none⟩) (fun h => hne h.symm) (.int .i64 GN)).other (p := ⟨gb, 1, none⟩) (fun h => hne h.symm) (.slice r1 r2 r3)
             have hR := HRS.out _ _ _ gb 1 (.slice r1 r2 r3) (HRS.out _ _ _ gb 0 (.int .i64 GN) hR hgp) hgp
             refine hK.out _ _ (hS _ hBc) (fun hHeld => ?_)
             clear hK
             try simp only [Act.put, List.setIfInBounds_toArray, List.set_cons_zero, List.set_cons_succ]
             clear z0 z1 z2 z3
             generalize (WAg.setCell ⟨gb, 0, none⟩ (.int .i64 GN)).setCell ⟨gb, 1, none⟩ (.slice r1 r2 r3) = WG at *
             refine wpAnyH_ready (rs := [13]) (by kernel_rfl) (by simp) (AllReadyH.cons (o := ({ dst := none, op := Go.Op.store 28 (Go.Operand.tmp 8) (Go.Operand.tmp 30), type := 0, pos := _, after := _, guard := none } : Oper)) rfl (fun KK hK => ?_) AllReadyH.nil)
             obtain ⟨z0, z1, z2, z3⟩ := hF.two
             go_simp
             have hBc := (hBc.setCell (p := ⟨fb, 0, none⟩) hgeF (.int .i64 sc)).setCell (p := ⟨fb, 1, none⟩) hgeF (.int .i64 si)
             have hF : Blk _ fb 28 [.int .i64 sc, .int .i64 si] := (hF.set 0 (.int .i64 sc)).set 1 (.int .i64 si)
             have hG := (hG.other (p := ⟨fb, 0, none⟩) hne (.int .i64 sc)).other (p := ⟨fb, 1, none⟩) hne (.int .i64 si)
             have hR := HRS.out _ _ _ fb 1 (.int .i64 si) (HRS.out _ _ _ fb 0 (.int .i64 sc) hR hfp) hfp
             refine hK.out _ _ (hS _ hBc) (fun hHeld => ?_)
             clear hK
             try simp only [Act.put, List.setIfInBounds_toArray, List.set_cons_zero, List.set_cons_succ]
             clear z0 z1 z2 z3
             refine wpAnyH_done (by kernel_rfl) ?_ _
             go_wp2_with fail
             exact HQ.out gb fb pb r1 r2 r3 a1 a2 a3 b1 b2 b3 k1 k2 k3 _ hG hF hR hBc
           go_simp
           have hgeG : w1.heap.size ≤ WAf.heap.size := hBc.size
           have haG := balloc WAf (.cells #[.int .i64 0, .slice none 0 0] 24)
           have hBc := bcat2 hBc haG
           have hlt9 := hF.lt
           have hA := HAU.out _ _ _ hA haG
           have hH := HHU.out _ _ _ hH haG
           have hL := HLU.out _ _ _ hL haG
           have hF := blk_below hF haG
           have hG := blk0 (w := WAf) (T := 24) (.int .i64 0) (.slice none 0 0)
           refine hK.out _ _ (hS _ hBc) (fun hHeld => ?_)
           clear hK
           try simp only [Act.put, List.setIfInBounds_toArray, List.set_cons_zero, List.set_cons_succ]
           generalize WAf.alloc (.cells #[.int .i64 0, .slice none 0 0] 24) = WAg at *
           generalize WAf.heap.size = gb at *
           have hne : gb ≠ fb := by omega
           refine wpAnyH_ready (rs := [6]) (by kernel_rfl) (by simp) (AllReadyH.cons (o := ({ dst := some 28, op := Go.Op.call { callee := Go.Callee.value (Go.Operand.func 7), args := #[Go.Operand.tmp 23, Go.Operand.tmp 25, Go.Operand.tmp 27], argTypes := #[24, 24, 25] }, type := 29, pos := _, after := _, guard := none } : Oper)) rfl (fun KK hK => ?_) AllReadyH.nil)
           have hpz := hBc
           have hg9 := hG.lt
           have hf9 := hF.lt
           go_simp
           refine (HSE.out _ _ _ _ (bcat2 hB1 hBc) hA hH hL).mono ?_
           rintro x4 U4 ⟨r1, r2, r3, pb, rfl, hR, hpb, hl4⟩
           have hBc := bcat2 hBc hl4
           have hgp : GD = true → pb ≠ gb := fun h => by have := hpb h; omega
           have hfp : GD = true → pb ≠ fb := fun h => by have := hpb h; omega
           have hG := blk_below hG hl4
           have hF := blk_below hF hl4
           clear hA hH hL hpz
           try go_wp2_with fail
           refine hK.out _ _ (hS _ hBc) (fun hHeld => ?_)
           clear hK
           try simp only [Act.put, List.setIfInBounds_toArray, List.set_cons_zero, List.set_cons_succ]
           refine wpAnyH_take (i := 7) (oi := ({ dst := some 21, op := Go.Op.move (Go.Operand.tmp 28), type := 29, pos := _, after := _, guard := none } : Oper)) (v := ?_) rfl (by kernel_rfl) (by kernel_rfl) (by kernel_rfl) (fun _ _ _ h => HPN.out _ _ _ _ _ h) (Or.inl ⟨by rfl, ?_⟩) (by assumption) ?_
           rotate_left
           · (intro w hSw; (try dsimp only at hSw); go_simp; try with_reducible rfl)
           simp only [Act.put, List.setIfInBounds_toArray, List.set_cons_zero, List.set_cons_succ]
           refine wpAnyH_take (i := 8) (oi := ({ dst := some 29, op := Go.Op.extract (Go.Operand.tmp 21) 0, type := 24, pos := _, after := _, guard := none } : Oper)) (v := ?_) rfl (by kernel_rfl) (by kernel_rfl) (by kernel_rfl) (fun _ _ _ h => HPN.out _ _ _ _ _ h) (Or.inl ⟨by rfl, ?_⟩) (by assumption) ?_
           rotate_left
           · (intro w hSw; (try dsimp only at hSw); go_simp; try with_reducible rfl)
           simp only [Act.put, List.setIfInBounds_toArray, List.set_cons_zero, List.set_cons_succ]
           refine wpAnyH_take (i := 9) (oi := ({ dst := some 30, op := Go.Op.extract (Go.Operand.tmp 21) 1, type := 28, pos := _, after := _, guard := none } : Oper)) (v := ?_) rfl (by kernel_rfl) (by kernel_rfl) (by kernel_rfl) (fun _ _ _ h => HPN.out _ _ _ _ _ h) (Or.inl ⟨by rfl, ?_⟩) (by assumption) ?_
           rotate_left
           · (intro w hSw; (try dsimp only at hSw); go_simp; try with_reducible rfl)
           simp only [Act.put, List.setIfInBounds_toArray, List.set_cons_zero, List.set_cons_succ]
           refine wpAnyH_ready (rs := [12]) (by kernel_rfl) (by simp) (AllReadyH.cons (o := ({ dst := none, op := Go.Op.store 24 (Go.Operand.tmp 7) (Go.Operand.tmp 29), type := 0, pos := _, after := _, guard := none } : Oper)) rfl (fun KK hK => ?_) AllReadyH.nil)
           obtain ⟨z0, z1, z2, z3⟩ := hG.two
           go_simp
           have hBc := (hBc.setCell (p := ⟨gb, 0, none⟩) hgeG (.int .i64 GN)).setCell (p := ⟨gb, 1, none⟩) hgeG (.slice r1 r2 r3)
           have hG : Blk _ gb 24 [.int .i64 GN, .slice r1 r2 r3] := (hG.set 0 (.int .i64 GN)).set 1 (.slice r1 r2 r3)
           have hF := (hF.other (p := ⟨gb, 0, none⟩) (fun h => hne h.symm) (.int .i64 GN)).other (p := ⟨gb, 1, none⟩) (fun h => hne h.symm) (.slice r1 r2 r3)
           have hR := HRS.out _ _ _ gb 1 (.slice r1 r2 r3) (HRS.out _ _ _ gb 0 (.int .i64 GN) hR hgp) hgp
           refine hK.out _ _ (hS _ hBc) (fun hHeld => ?_)
           clear hK
           try simp only [Act.put, List.setIfInBounds_toArray, List.set_cons_zero, List.set_cons_succ]
           clear z0 z1 z2 z3
           generalize (U4.setCell ⟨gb, 0, none⟩ (.int .i64 GN)).setCell ⟨gb, 1, none⟩ (.slice r1 r2 r3) = WG at *
           refine wpAnyH_ready (rs := [13]) (by kernel_rfl) (by simp) (AllReadyH.cons (o := ({ dst := none, op := Go.Op.store 28 (Go.Operand.tmp 8) (Go.Operand.tmp 30), type := 0, pos := _, after := _, guard := none } : Oper)) rfl (fun KK hK => ?_) AllReadyH.nil)
           obtain ⟨z0, z1, z2, z3⟩ := hF.two
           go_simp
           have hBc := (hBc.setCell (p := ⟨fb, 0, none⟩) hgeF (.int .i64 sc)).setCell (p := ⟨fb, 1, none⟩) hgeF (.int .i64 si)
           have hF : Blk _ fb 28 [.int .i64 sc, .int .i64 si] := (hF.set 0 (.int .i64 sc)).set 1 (.int .i64 si)
           have hG := (hG.other (p := ⟨fb, 0, none⟩) hne (.int .i64 sc)).other (p := ⟨fb, 1, none⟩) hne (.int .i64 si)
           have hR := HRS.out _ _ _ fb 1 (.int .i64 si) (HRS.out _ _ _ fb 0 (.int .i64 sc) hR hfp) hfp
           refine hK.out _ _ (hS _ hBc) (fun hHeld => ?_)
           clear hK
           try simp only [Act.put, List.setIfInBounds_toArray, List.set_cons_zero, List.set_cons_succ]
           clear z0 z1 z2 z3
           refine wpAnyH_done (by kernel_rfl) ?_ _
           go_wp2_with fail
           exact HQ.out gb fb pb r1 r2 r3 a1 a2 a3 b1 b2 b3 k1 k2 k3 _ hG hF hR hBc
        · as_aux_lemma =>
           go_simp
           have hgeG : w1.heap.size ≤ U2.heap.size := hBc.size
           have haG := balloc U2 (.cells #[.int .i64 0, .slice none 0 0] 24)
           have hBc := bcat2 hBc haG
           have hA := HAU.out _ _ _ hA haG
           have hH := HHU.out _ _ _ hH haG
           have hG := blk0 (w := U2) (T := 24) (.int .i64 0) (.slice none 0 0)
           refine hK.out _ _ (hS _ hBc) (fun hHeld => ?_)
           clear hK
           try simp only [Act.put, List.setIfInBounds_toArray, List.set_cons_zero, List.set_cons_succ]
           generalize U2.alloc (.cells #[.int .i64 0, .slice none 0 0] 24) = WAg at *
           generalize U2.heap.size = gb at *
           refine wpAnyH_ready (rs := [5, 11]) (by kernel_rfl) (by simp) (AllReadyH.cons (o := ({ dst := some 27, op := Go.Op.call { callee := Go.Callee.value (Go.Operand.func 9), args := #[Go.Operand.tmp 26], argTypes := #[25] }, type := 25, pos := _, after := _, guard := none } : Oper)) rfl (fun KK hK => ?_) (AllReadyH.cons (o := ({ dst := some 8, op := Go.Op.alloc 28, type := 0, pos := _, after := _, guard := none } : Oper)) rfl (fun KK hK => ?_) AllReadyH.nil))
           · go_simp
             refine (HOL.out _ (bcat2 hB1 hBc)).mono ?_
             rintro x3 U3 ⟨k1, k2, k3, rfl, hL, hl3⟩
             have hBc := bcat2 hBc hl3
             have hA := HAU.out _ _ _ hA hl3
             have hH := HHU.out _ _ _ hH hl3
             have hG := blk_below hG hl3
             try go_wp2_with fail
             refine hK.out _ _ (hS _ hBc) (fun hHeld => ?_)
             clear hK
             try simp only [Act.put, List.setIfInBounds_toArray, List.set_cons_zero, List.set_cons_succ]
             refine wpAnyH_ready (rs := [6, 11]) (by kernel_rfl) (by simp) (AllReadyH.cons (o := ({ dst := some 28, op := Go.Op.call { callee := Go.Callee.value (Go.Operand.func 7), args := #[Go.Operand.tmp 23, Go.Operand.tmp 25, Go.Operand.tmp 27], argTypes := #[24, 24, 25] }, type := 29, pos := _, after := _, guard := none } : Oper)) rfl (fun KK hK => ?_) (AllReadyH.cons (o := ({ dst := some 8, op := Go.Op.alloc 28, type := 0, pos := _, after := _, guard := none } : Oper)) rfl (fun KK hK => ?_) AllReadyH.nil))
             · have hpz := hBc
               have hg9 := hG.lt
               go_simp
               refine (HSE.out _ _ _ _ (bcat2 hB1 hBc) hA hH hL).mono ?_
               rintro x4 U4 ⟨r1, r2, r3, pb, rfl, hR, hpb, hl4⟩
               have hBc := bcat2 hBc hl4
               have hgp : GD = true → pb ≠ gb := fun h => by have := hpb h; omega
               have hG := blk_below hG hl4
               clear hA hH hL hpz
               try go_wp2_with fail
               refine hK.out _ _ (hS _ hBc) (fun hHeld => ?_)
               clear hK
               try simp only [Act.put, List.setIfInBounds_toArray, List.set_cons_zero, List.set_cons_succ]
               refine wpAnyH_take (i := 7) (oi := ({ dst := some 21, op := Go.Op.move (Go.Operand.tmp 28), type := 29, pos := _, after := _, guard := none } : Oper)) (v := ?_) rfl (by kernel_rfl) (by kernel_rfl) (by kernel_rfl) (fun _ _ _ h => HPN.out _ _ _ _ _ h) (Or.inl ⟨by rfl, ?_⟩) (by assumption) ?_
               rotate_left
               · (intro w hSw; (try dsimp only at hSw); go_simp; try with_reducible rfl)
               simp only [Act.put, List.setIfInBounds_toArray, List.set_cons_zero, List.set_cons_succ]
               refine wpAnyH_take (i := 8) (oi := ({ dst := some 29, op := Go.Op.extract (Go.Operand.tmp 21) 0, type := 24, pos := _, after := _, guard := none } : Oper)) (v := ?_) rfl (by kernel_rfl) (by kernel_rfl) (by kernel_rfl) (fun _ _ _ h => HPN.out _ _ _ _ _ h) (Or.inl ⟨by rfl, ?_⟩) (by assumption) ?_
               rotate_left
               · (intro w hSw; (try dsimp only at hSw); go_simp; try with_reducible rfl)
               simp only [Act.put, List.setIfInBounds_toArray, List.set_cons_zero, List.set_cons_succ]
               refine wpAnyH_take (i := 9) (oi := ({ dst := some 30, op := Go.Op.extract (Go.Operand.tmp 21) 1, type := 28, pos := _, after := _, guard := none } : Oper)) (v := ?_) rfl (by kernel_rfl) (by kernel_rfl) (by kernel_rfl) (fun _ _ _ h => HPN.out _ _ _ _ _ h) (Or.inl ⟨by rfl, ?_⟩) (by assumption) ?_
               rotate_left
               · (intro w hSw; (try dsimp only at hSw); go_simp; try with_reducible rfl)
               simp only [Act.put, List.setIfInBounds_toArray, List.set_cons_zero, List.set_cons_succ]
               refine wpAnyH_ready (rs := [11]) (by kernel_rfl) (by simp) (AllReadyH.cons (o := ({ dst := some 8, op := Go.Op.alloc 28, type := 0, pos := _, after := _, guard := none } : Oper)) rfl (fun KK hK => ?_) AllReadyH.nil)
               go_simp
               have hgeF : w1.heap.size ≤ U4.heap.size := hBc.size
               have haF := balloc U4 (.cells #[.int .i64 0, .int .i64 0] 28)
               have hBc := bcat2 hBc haF
               have hfp : GD = true → pb ≠ U4.heap.size := fun h => by have := HRL.out _ _ _ hR h; omega
               have hlt9 := hG.lt
               have hR := HRB.out _ _ _ _ hR haF
               have hG := blk_below hG haF
               have hF := blk0 (w := U4) (T := 28) (.int .i64 0) (.int .i64 0)
               refine hK.out _ _ (hS _ hBc) (fun hHeld => ?_)
               clear hK
               try simp only [Act.put, List.setIfInBounds_toArray, List.set_cons_zero, List.set_cons_succ]
               generalize U4.alloc (.cells #[.int .i64 0, .int .i64 0] 28) = WAf at *
               generalize U4.heap.size = fb at *
               have hne : gb ≠ fb := by omega
               refine wpAnyH_ready (rs := [12]) (by kernel_rfl) (by simp) (AllReadyH.cons (o := ({ dst := none, op := Go.Op.store 24 (Go.Operand.tmp 7) (Go.Operand.tmp 29), type := 0, pos := _, after := _, guard := none } : Oper)) rfl (fun KK hK => ?_) AllReadyH.nil)
               obtain ⟨z0, z1, z2, z3⟩ := hG.two
               go_simp
               have hBc := (hBc.setCell (p := ⟨gb, 0, none⟩) hgeG (.int .i64 GN)).setCell (p := ⟨gb, 1, none⟩) hgeG (.slice r1 r2 r3)
               have hG : Blk _ gb 24 [.int .i64 GN, .slice r1 r2 r3] := (hG.set 0 (.int .i64 GN)).set 1 (.slice r1 r2 r3)
               have hF := (hF.other (p := ⟨gb, 0, none⟩) (fun h => hne h.symm) (.int .i64 GN)).other (p := ⟨gb, 1, none⟩) (fun h => hne h.symm) (.slice r1 r2 r3)
               have hR := HRS.out _ _ _ gb 1 (.slice r1 r2 r3) (HRS.out _ _ _ gb 0 (.int .i64 GN) hR hgp) hgp
               refine hK.out _ _ (hS _ hBc) (fun hHeld => ?_)
               clear hK
               try simp only [Act.put, List.setIfInBounds_toArray, List.set_cons_zero, List.set_cons_succ]
               clear z0 z1 z2 z3
               generalize (WAf.setCell ⟨gb, 0, none⟩ (.int .i64 GN)).setCell ⟨gb, 1, none⟩ (.slice r1 r2 r3) = WG at *
               refine wpAnyH_ready (rs := [13]) (by kernel_rfl) (by simp) (AllReadyH.cons (o := ({ dst := none, op := Go.Op.store 28 (Go.Operand.tmp 8) (Go.Operand.tmp 30), type := 0, pos := _, after := _, guard := none } : Oper)) rfl (fun KK hK => ?_) AllReadyH.nil)
               obtain ⟨z0, z1, z2, z3⟩ := hF.two
               go_simp
               have hBc := (hBc.setCell (p := ⟨fb, 0, none⟩) hgeF (.int .i64 sc)).setCell (p := ⟨fb, 1, none⟩) hgeF (.int .i64 si)
               have hF : Blk _ fb 28 [.int .i64 sc, .int .i64 si] := (hF.set 0 (.int .i64 sc)).set 1 (.int .i64 si)
               have hG := (hG.other (p := ⟨fb, 0, none⟩) hne (.int .i64 sc)).other (p := ⟨fb, 1, none⟩) hne (.int .i64 si)
               have hR := HRS.out _ _ _ fb 1 (.int .i64 si) (HRS.out _ _ _ fb 0 (.int .i64 sc) hR hfp) hfp
               refine hK.out _ _ (hS _ hBc) (fun hHeld => ?_)
               clear hK
               try simp only [Act.put, List.setIfInBounds_toArray, List.set_cons_zero, List.set_cons_succ]
               clear z0 z1 z2 z3
               refine wpAnyH_done (by kernel_rfl) ?_ _
               go_wp2_with fail
               exact HQ.out gb fb pb r1 r2 r3 a1 a2 a3 b1 b2 b3 k1 k2 k3 _ hG hF hR hBc
             go_simp
             have hgeF : w1.heap.size ≤ U3.heap.size := hBc.size
             have haF := balloc U3 (.cells #[.int .i64 0, .int .i64 0] 28)
             have hBc := bcat2 hBc haF
             have hlt9 := hG.lt
             have hA := HAU.out _ _ _ hA haF
             have hH := HHU.out _ _ _ hH haF
             have hL := HLU.out _ _ _ hL haF
             have hG := blk_below hG haF
             have hF := blk0 (w := U3) (T := 28) (.int .i64 0) (.int .i64 0)
             refine hK.out _ _ (hS _ hBc) (fun hHeld => ?_)
             clear hK
             try simp only [Act.put, List.setIfInBounds_toArray, List.set_cons_zero, List.set_cons_succ]
             generalize U3.alloc (.cells #[.int .i64 0, .int .i64 0] 28) = WAf at *
             generalize U3.heap.size = fb at *
             have hne : gb ≠ fb := by omega
             refine wpAnyH_ready (rs := [6]) (by kernel_rfl) (by simp) (AllReadyH.cons (o := ({ dst := some 28, op := Go.Op.call { callee := Go.Callee.value (Go.Operand.func 7), args := #[Go.Operand.tmp 23, Go.Operand.tmp 25, Go.Operand.tmp 27], argTypes := #[24, 24, 25] }, type := 29, pos := _, after := _, guard := none } : Oper)) rfl (fun KK hK => ?_) AllReadyH.nil)
             have hpz := hBc
             have hg9 := hG.lt
             have hf9 := hF.lt
             go_simp
             refine (HSE.out _ _ _ _ (bcat2 hB1 hBc) hA hH hL).mono ?_
             rintro x4 U4 ⟨r1, r2, r3, pb, rfl, hR, hpb, hl4⟩
             have hBc := bcat2 hBc hl4
             have hgp : GD = true → pb ≠ gb := fun h => by have := hpb h; omega
             have hfp : GD = true → pb ≠ fb := fun h => by have := hpb h; omega
             have hG := blk_below hG hl4
             have hF := blk_below hF hl4
             clear hA hH hL hpz
             try go_wp2_with fail
             refine hK.out _ _ (hS _ hBc) (fun hHeld => ?_)
             clear hK
             try simp only [Act.put, List.setIfInBounds_toArray, List.set_cons_zero, List.set_cons_succ]
             refine wpAnyH_take (i := 7) (oi := ({ dst := some 21, op := Go.Op.move (Go.Operand.tmp 28), type := 29, pos := _, after := _, guard := none } : Oper)) (v := ?_) rfl (by kernel_rfl) (by kernel_rfl) (by kernel_rfl) (fun _ _ _ h => HPN.out _ _ _ _ _ h) (Or.inl ⟨by rfl, ?_⟩) (by assumption) ?_
             rotate_left
             · (intro w hSw; (try dsimp only at hSw); go_simp; try with_reducible rfl)
             simp only [Act.put, List.setIfInBounds_toArray, List.set_cons_zero, List.set_cons_succ]
             refine wpAnyH_take (i := 8) (oi := ({ dst := some 29, op := Go.Op.extract (Go.Operand.tmp 21) 0, type := 24, pos := _, after := _, guard := none } : Oper)) (v := ?_) rfl (by kernel_rfl) (by kernel_rfl) (by kernel_rfl) (fun _ _ _ h => HPN.out _ _ _ _ _ h) (Or.inl ⟨by rfl, ?_⟩) (by assumption) ?_
             rotate_left
             · (intro w hSw; (try dsimp only at hSw); go_simp; try with_reducible rfl)
             simp only [Act.put, List.setIfInBounds_toArray, List.set_cons_zero, List.set_cons_succ]
             refine wpAnyH_take (i := 9) (oi := ({ dst := some 30, op := Go.Op.extract (Go.Operand.tmp 21) 1, type := 28, pos := _, after := _, guard := none } : Oper)) (v := ?_) rfl (by kernel_rfl) (by kernel_rfl) (by kernel_rfl) (fun _ _ _ h => HPN.out _ _ _ _ _ h) (Or.inl ⟨by rfl, ?_⟩) (by assumption) ?_
             rotate_left
             · (intro w hSw; (try dsimp only at hSw); go_simp; try with_reducible rfl)
             simp only [Act.put, List.setIfInBounds_toArray, List.set_cons_zero, List.set_cons_succ]
             refine wpAnyH_ready (rs := [12]) (by kernel_rfl) (by simp) (AllReadyH.cons (o := ({ dst := none, op := Go.Op.store 24 (Go.Operand.tmp 7) (Go.Operand.tmp 29), type := 0, pos := _, after := _, guard := none } : Oper)) rfl (fun KK hK => ?_) AllReadyH.nil)
             obtain ⟨z0, z1, z2, z3⟩ := hG.two
             go_simp
             have hBc := (hBc.setCell (p := ⟨gb, 0, none⟩) hgeG (.int .i64 GN)).setCell (p := ⟨gb, 1, none⟩) hgeG (.slice r1 r2 r3)
             have hG : Blk _ gb 24 [.int .i64 GN, .slice r1 r2 r3] := (hG.set 0 (.int .i64 GN)).set 1 (.slice r1 r2 r3)
             have hF := (hF.other (p := ⟨gb, 0, none⟩) (fun h => hne h.symm) (.int .i64 GN)).other (p := ⟨gb, 1, none⟩) (fun h => hne h.symm) (.slice r1 r2 r3)
             have hR := HRS.out _ _ _ gb 1 (.slice r1 r2 r3) (HRS.out _ _ _ gb 0 (.int .i64 GN) hR hgp) hgp
             refine hK.out _ _ (hS _ hBc) (fun hHeld => ?_)
             clear hK
             try simp only [Act.put, List.setIfInBounds_toArray, List.set_cons_zero, List.set_cons_succ]
             clear z0 z1 z2 z3
             generalize (U4.setCell ⟨gb, 0, none⟩ (.int .i64 GN)).setCell ⟨gb, 1, none⟩ (.slice r1 r2 r3) = WG at *
             refine wpAnyH_ready (rs := [13]) (by kernel_rfl) (by simp) (AllReadyH.cons (o := ({ dst := none, op := Go.Op.store 28 (Go.Operand.tmp 8) (Go.Operand.tmp 30), type := 0, pos := _, after := _, guard := none } : Oper)) rfl (fun KK hK => ?_) AllReadyH.nil)
             obtain ⟨z0, z1, z2, z3⟩ := hF.two
             go_simp
             have hBc := (hBc.setCell (p := ⟨fb, 0, none⟩) hgeF (.int .i64 sc)).setCell (p := ⟨fb, 1, none⟩) hgeF (.int .i64 si)
             have hF : Blk _ fb 28 [.int .i64 sc, .int .i64 si] := (hF.set 0 (.int .i64 sc)).set 1 (.int .i64 si)
             have hG := (hG.other (p := ⟨fb, 0, none⟩) hne (.int .i64 sc)).other (p := ⟨fb, 1, none⟩) hne (.int .i64 si)
             have hR := HRS.out _ _ _ fb 1 (.int .i64 si) (HRS.out _ _ _ fb 0 (.int .i64 sc) hR hfp) hfp
             refine hK.out _ _ (hS _ hBc) (fun hHeld => ?_)
             clear hK
             try simp only [Act.put, List.setIfInBounds_toArray, List.set_cons_zero, List.set_cons_succ]
             clear z0 z1 z2 z3
             refine wpAnyH_done (by kernel_rfl) ?_ _
             go_wp2_with fail
             exact HQ.out gb fb pb r1 r2 r3 a1 a2 a3 b1 b2 b3 k1 k2 k3 _ hG hF hR hBc
           go_simp
           have hgeF : w1.heap.size ≤ WAg.heap.size := hBc.size
           have haF := balloc WAg (.cells #[.int .i64 0, .int .i64 0] 28)
           have hBc := bcat2 hBc haF
           have hlt9 := hG.lt
           have hA := HAU.out _ _ _ hA haF
           have hH := HHU.out _ _ _ hH haF
           have hG := blk_below hG haF
           have hF := blk0 (w := WAg) (T := 28) (.int .i64 0) (.int .i64 0)
           refine hK.out _ _ (hS _ hBc) (fun hHeld => ?_)
           clear hK
           try simp only [Act.put, List.setIfInBounds_toArray, List.set_cons_zero, List.set_cons_succ]
           generalize WAg.alloc (.cells #[.int .i64 0, .int .i64 0] 28) = WAf at *
           generalize WAg.heap.size = fb at *
           have hne : gb ≠ fb := by omega
           refine wpAnyH_ready (rs := [5]) (by kernel_rfl) (by simp) (AllReadyH.cons (o := ({ dst := some 27, op := Go.Op.call { callee := Go.Callee.value (Go.Operand.func 9), args := #[Go.Operand.tmp 26], argTypes := #[25] }, type := 25, pos := _, after := _, guard := none } : Oper)) rfl (fun KK hK => ?_) AllReadyH.nil)
           go_simp
           refine (HOL.out _ (bcat2 hB1 hBc)).mono ?_
           rintro x3 U3 ⟨k1, k2, k3, rfl, hL, hl3⟩
           have hBc := bcat2 hBc hl3
           have hA := HAU.out _ _ _ hA hl3
           have hH := HHU.out _ _ _ hH hl3
           have hG := blk_below hG hl3
           have hF := blk_below hF hl3
           try go_wp2_with fail
           refine hK.out _ _ (hS _ hBc) (fun hHeld => ?_)
           clear hK
           try simp only [Act.put, List.setIfInBounds_toArray, List.set_cons_zero, List.set_cons_succ]
           refine wpAnyH_ready (rs := [6]) (by kernel_rfl) (by simp) (AllReadyH.cons (o := ({ dst := some 28, op := Go.Op.call { callee := Go.Callee.value (Go.Operand.func 7), args := #[Go.Operand.tmp 23, Go.Operand.tmp 25, Go.Operand.tmp 27], argTypes := #[24, 24, 25] }, type := 29, pos := _, after := _, guard := none } : Oper)) rfl (fun KK hK => ?_) AllReadyH.nil)
           have hpz := hBc
           have hg9 := hG.lt
           have hf9 := hF.lt
           go_simp
           refine (HSE.out _ _ _ _ (bcat2 hB1 hBc) hA hH hL).mono ?_
           rintro x4 U4 ⟨r1, r2, r3, pb, rfl, hR, hpb, hl4⟩
           have hBc := bcat2 hBc hl4
           have hgp : GD = true → pb ≠ gb := fun h => by have := hpb h; omega
           have hfp : GD = true → pb ≠ fb := fun h => by have := hpb h; omega
           have hG := blk_below hG hl4
           have hF := blk_below hF hl4
           clear hA hH hL hpz
           try go_wp2_with fail
           refine hK.out _ _ (hS _ hBc) (fun hHeld => ?_)
           clear hK
           try simp only [Act.put, List.setIfInBounds_toArray, List.set_cons_zero, List.set_cons_succ]
           refine wpAnyH_take (i := 7) (oi := ({ dst := some 21, op := Go.Op.move (Go.Operand.tmp 28), type := 29, pos := _, after := _, guard := none } : Oper)) (v := ?_) rfl (by kernel_rfl) (by kernel_rfl) (by kernel_rfl) (fun _ _ _ h => HPN.out _ _ _ _ _ h) (Or.inl ⟨by rfl, ?_⟩) (by assumption) ?_
           rotate_left
           · (intro w hSw; (try dsimp only at hSw); go_simp; try with_reducible rfl)
           simp only [Act.put, List.setIfInBounds_toArray, List.set_cons_zero, List.set_cons_succ]
           refine wpAnyH_take (i := 8) (oi := ({ dst := some 29, op := Go.Op.extract (Go.Operand.tmp 21) 0, type := 24, pos := _, after := _, guard := none } : Oper)) (v := ?_) rfl (by kernel_rfl) (by kernel_rfl) (by kernel_rfl) (fun _ _ _ h => HPN.out _ _ _ _ _ h) (Or.inl ⟨by rfl, ?_⟩) (by assumption) ?_
           rotate_left
           · (intro w hSw; (try dsimp only at hSw); go_simp; try with_reducible rfl)
           simp only [Act.put, List.setIfInBounds_toArray, List.set_cons_zero, List.set_cons_succ]
           refine wpAnyH_take (i := 9) (oi := ({ dst := some 30, op := Go.Op.extract (Go.Operand.tmp 21) 1, type := 28, pos := _, after := _, guard := none } : Oper)) (v := ?_) rfl (by kernel_rfl) (by kernel_rfl) (by kernel_rfl) (fun _ _ _ h => HPN.out _ _ _ _ _ h) (Or.inl ⟨by rfl, ?_⟩) (by assumption) ?_
           rotate_left
           · (intro w hSw; (try dsimp only at hSw); go_simp; try with_reducible rfl)
           simp only [Act.put, List.setIfInBounds_toArray, List.set_cons_zero, List.set_cons_succ]
           refine wpAnyH_ready (rs := [12]) (by kernel_rfl) (by simp) (AllReadyH.cons (o := ({ dst := none, op := Go.Op.store 24 (Go.Operand.tmp 7) (Go.Operand.tmp 29), type := 0, pos := _, after := _, guard := none } : Oper)) rfl (fun KK hK => ?_) AllReadyH.nil)
           obtain ⟨z0, z1, z2, z3⟩ := hG.two
           go_simp
           have hBc := (hBc.setCell (p := ⟨gb, 0, none⟩) hgeG (.int .i64 GN)).setCell (p := ⟨gb, 1, none⟩) hgeG (.slice r1 r2 r3)
           have hG : Blk _ gb 24 [.int .i64 GN, .slice r1 r2 r3] := (hG.set 0 (.int .i64 GN)).set 1 (.slice r1 r2 r3)
           have hF := (hF.other (p := ⟨gb, 0, none⟩) (fun h => hne h.symm) (.int .i64 GN)).other (p := ⟨gb, 1, none⟩) (fun h => hne h.symm) (.slice r1 r2 r3)
           have hR := HRS.out _ _ _ gb 1 (.slice r1 r2 r3) (HRS.out _ _ _ gb 0 (.int .i64 GN) hR hgp) hgp
           refine hK.out _ _ (hS _ hBc) (fun hHeld => ?_)
           clear hK
           try simp only [Act.put, List.setIfInBounds_toArray, List.set_cons_zero, List.set_cons_succ]
           clear z0 z1 z2 z3
           generalize (U4.setCell ⟨gb, 0, none⟩ (.int .i64 GN)).setCell ⟨gb, 1, none⟩ (.slice r1 r2 r3) = WG at *
           refine wpAnyH_ready (rs := [13]) (by kernel_rfl) (by simp) (AllReadyH.cons (o := ({ dst := none, op := Go.Op.store 28 (Go.Operand.tmp 8) (Go.Operand.tmp 30), type := 0, pos := _, after := _, guard := none } : Oper)) rfl (fun KK hK => ?_) AllReadyH.nil)
           obtain ⟨z0, z1, z2, z3⟩ := hF.two
           go_simp
           have hBc := (hBc.setCell (p := ⟨fb, 0, none⟩) hgeF (.int .i64 sc)).setCell (p := ⟨fb, 1, none⟩) hgeF (.int .i64 si)
           have hF : Blk _ fb 28 [.int .i64 sc, .int .i64 si] := (hF.set 0 (.int .i64 sc)).set 1 (.int .i64 si)
           have hG := (hG.other (p := ⟨fb, 0, none⟩) hne (.int .i64 sc)).other (p := ⟨fb, 1, none⟩) hne (.int .i64 si)
           have hR := HRS.out _ _ _ fb 1 (.int .i64 si) (HRS.out _ _ _ fb 0 (.int .i64 sc) hR hfp) hfp
           refine hK.out _ _ (hS _ hBc) (fun hHeld => ?_)
           clear hK
           try simp only [Act.put, List.setIfInBounds_toArray, List.set_cons_zero, List.set_cons_succ]
           clear z0 z1 z2 z3
           refine wpAnyH_done (by kernel_rfl) ?_ _
           go_wp2_with fail
           exact HQ.out gb fb pb r1 r2 r3 a1 a2 a3 b1 b2 b3 k1 k2 k3 _ hG hF hR hBc
        · as_aux_lemma =>
           go_simp
           have hgeF : w1.heap.size ≤ U2.heap.size := hBc.size
           have haF := balloc U2 (.cells #[.int .i64 0, .int .i64 0] 28)
           have hBc := bcat2 hBc haF
           have hA := HAU.out _ _ _ hA haF
           have hH := HHU.out _ _ _ hH haF
           have hF := blk0 (w := U2) (T := 28) (.int .i64 0) (.int .i64 0)
           refine hK.out _ _ (hS _ hBc) (fun hHeld => ?_)
           clear hK
           try simp only [Act.put, List.setIfInBounds_toArray, List.set_cons_zero, List.set_cons_succ]
           generalize U2.alloc (.cells #[.int .i64 0, .int .i64 0] 28) = WAf at *
           generalize U2.heap.size = fb at *
           refine wpAnyH_ready (rs := [5, 10]) (by kernel_rfl) (by simp) (AllReadyH.cons (o := ({ dst := some 27, op := Go.Op.call { callee := Go.Callee.value (Go.Operand.func 9), args := #[Go.Operand.tmp 26], argTypes := #[25] }, type := 25, pos := _, after := _, guard := none } : Oper)) rfl (fun KK hK => ?_) (AllReadyH.cons (o := ({ dst := some 7, op := Go.Op.alloc 24, type := 0, pos := _, after := _, guard := none } : Oper)) rfl (fun KK hK => ?_) AllReadyH.nil))
           · go_simp
             refine (HOL.out _ (bcat2 hB1 hBc)).mono ?_
             rintro x3 U3 ⟨k1, k2, k3, rfl, hL, hl3⟩
             have hBc := bcat2 hBc hl3
             have hA := HAU.out _ _ _ hA hl3
             have hH := HHU.out _ _ _ hH hl3
             have hF := blk_below hF hl3
             try go_wp2_with fail
             refine hK.out _ _ (hS _ hBc) (fun hHeld => ?_)
             clear hK
             try simp only [Act.put, List.setIfInBounds_toArray, List.set_cons_zero, List.set_cons_succ]
             refine wpAnyH_ready (rs := [6, 10]) (by kernel_rfl) (by simp) (AllReadyH.cons (o := ({ dst := some 28, op := Go.Op.call { callee := Go.Callee.value (Go.Operand.func 7), args := #[Go.Operand.tmp 23, Go.Operand.tmp 25, Go.Operand.tmp 27], argTypes := #[24, 24, 25] }, type := 29, pos := _, after := _, guard := none } : Oper)) rfl (fun KK hK => ?_) (AllReadyH.cons (o := ({ dst := some 7, op := Go.Op.alloc 24, type := 0, pos := _, after := _, guard := none } : Oper)) rfl (fun KK hK => ?_) AllReadyH.nil))
             · have hpz := hBc
               have hf9 := hF.lt
               go_simp
               refine (HSE.out _ _ _ _ (bcat2 hB1 hBc) hA hH hL).mono ?_
               rintro x4 U4 ⟨r1, r2, r3, pb, rfl, hR, hpb, hl4⟩
               have hBc := bcat2 hBc hl4
               have hfp : GD = true → pb ≠ fb := fun h => by have := hpb h; omega
               have hF := blk_below hF hl4
               clear hA hH hL hpz
               try go_wp2_with fail
               refine hK.out _ _ (hS _ hBc) (fun hHeld => ?_)
               clear hK
               try simp only [Act.put, List.setIfInBounds_toArray, List.set_cons_zero, List.set_cons_succ]
               refine wpAnyH_take (i := 7) (oi := ({ dst := some 21, op := Go.Op.move (Go.Operand.tmp 28), type := 29, pos := _, after := _, guard := none } : Oper)) (v := ?_) rfl (by kernel_rfl) (by kernel_rfl) (by kernel_rfl) (fun _ _ _ h => HPN.out _ _ _ _ _ h) (Or.inl ⟨by rfl, ?_⟩) (by assumption) ?_
               rotate_left
               · (intro w hSw; (try dsimp only at hSw); go_simp; try with_reducible rfl)
               simp only [Act.put, List.setIfInBounds_toArray, List.set_cons_zero, List.set_cons_succ]
               refine wpAnyH_take (i := 8) (oi := ({ dst := some 29, op := Go.Op.extract (Go.Operand.tmp 21) 0, type := 24, pos := _, after := _, guard := none } : Oper)) (v := ?_) rfl (by kernel_rfl) (by kernel_rfl) (by kernel_rfl) (fun _ _ _ h => HPN.out _ _ _ _ _ h) (Or.inl ⟨by rfl, ?_⟩) (by assumption) ?_
               rotate_left
               · (intro w hSw; (try dsimp only at hSw); go_simp; try with_reducible rfl)
               simp only [Act.put, List.setIfInBounds_toArray, List.set_cons_zero, List.set_cons_succ]
               refine wpAnyH_take (i := 9) (oi := ({ dst := some 30, op := Go.Op.extract (Go.Operand.tmp 21) 1, type := 28, pos := _, after := _, guard := none } : Oper)) (v := ?_) rfl (by kernel_rfl) (by kernel_rfl) (by kernel_rfl) (fun _ _ _ h => HPN.out _ _ _ _ _ h) (Or.inl ⟨by rfl, ?_⟩) (by assumption) ?_
               rotate_left
               · (intro w hSw; (try dsimp only at hSw); go_simp; try with_reducible rfl)
               simp only [Act.put, List.setIfInBounds_toArray, List.set_cons_zero, List.set_cons_succ]
               refine wpAnyH_ready (rs := [10]) (by kernel_rfl) (by simp) (AllReadyH.cons (o := ({ dst := some 7, op := Go.Op.alloc 24, type := 0, pos := _, after := _, guard := none } : Oper)) rfl (fun KK hK => ?_) AllReadyH.nil)
               go_simp
               have hgeG : w1.heap.size ≤ U4.heap.size := hBc.size
               have haG := balloc U4 (.cells #[.int .i64 0, .slice none 0 0] 24)
               have hBc := bcat2 hBc haG
               have hgp : GD = true → pb ≠ U4.heap.size := fun h => by have := HRL.out _ _ _ hR h; omega
               have hlt9 := hF.lt
               have hR := HRB.out _ _ _ _ hR haG
               have hF := blk_below hF haG
               have hG := blk0 (w := U4) (T := 24) (.int .i64 0) (.slice none 0 0)
               refine hK.out _ _ (hS _ hBc) (fun hHeld => ?_)
               clear hK
               try simp only [Act.put, List.setIfInBounds_toArray, List.set_cons_zero, List.set_cons_succ]
               generalize U4.alloc (.cells #[.int .i64 0, .slice none 0 0] 24) = WAg at *
               generalize U4.heap.size = gb at *
               have hne : gb ≠ fb := by omega
               refine wpAnyH_ready (rs := [12]) (by kernel_rfl) (by simp) (AllReadyH.cons (o := ({ dst := none, op := Go.Op.store 24 (Go.Operand.tmp 7) (Go.Operand.tmp 29), type := 0, pos := _, after := _, guard := none } : Oper)) rfl (fun KK hK => ?_) AllReadyH.nil)
               obtain ⟨z0, z1, z2, z3⟩ := hG.two
               go_simp
               have hBc := (hBc.setCell (p := ⟨gb, 0, none⟩) hgeG (.int .i64 GN)).setCell (p := ⟨gb, 1, none⟩) hgeG (.slice r1 r2 r3)
               have hG : Blk _ gb 24 [.int .i64 GN, .slice r1 r2 r3] := (hG.set 0 (.int .i64 GN)).set 1 (.slice r1 r2 r3)
               have hF := (hF.other (p := ⟨gb, 0, none⟩) (fun h => hne h.symm) (.int .i64 GN)).other (p := ⟨gb, 1, none⟩) (fun h => hne h.symm) (.slice r1 r2 r3)
               have hR := HRS.out _ _ _ gb 1 (.slice r1 r2 r3) (HRS.out _ _ _ gb 0 (.int .i64 GN) hR hgp) hgp
               refine hK.out _ _ (hS _ hBc) (fun hHeld => ?_)
               clear hK
               try simp only [Act.put, List.setIfInBounds_toArray, List.set_cons_zero, List.set_cons_succ]
               clear z0 z1 z2 z3
               generalize (WAg.setCell ⟨gb, 0, none⟩ (.int .i64 GN)).setCell ⟨gb, 1, none⟩ (.slice r1 r2 r3) = WG at *
               refine wpAnyH_ready (rs := [13]) (by kernel_rfl) (by simp) (AllReadyH.cons (o := ({ dst := none, op := Go.Op.store 28 (Go.Operand.tmp 8) (Go.Operand.tmp 30), type := 0, pos := _, after := _, guard := none } : Oper)) rfl (fun KK hK => ?_) AllReadyH.nil)
               obtain ⟨z0, z1, z2, z3⟩ := hF.two
               go_simp
               have hBc := (hBc.setCell (p := ⟨fb, 0, none⟩) hgeF (.int .i64 sc)).setCell (p := ⟨fb, 1, none⟩) hgeF (.int .i64 si)
               have hF : Blk _ fb 28 [.int .i64 sc, .int .i64 si] := (hF.set 0 (.int .i64 sc)).set 1 (.int .i64 si)
               have hG := (hG.other (p := ⟨fb, 0, none⟩) hne (.int .i64 sc)).other (p := ⟨fb, 1, none⟩) hne (.int .i64 si)
               have hR := HRS.out _ _ _ fb 1 (.int .i64 si) (HRS.out _ _ _ fb 0 (.int .i64 sc) hR hfp) hfp
               refine hK.out _ _ (hS _ hBc) (fun hHeld => ?_)
               clear hK
               try simp only [Act.put, List.setIfInBounds_toArray, List.set_cons_zero, List.set_cons_succ]
               clear z0 z1 z2 z3
               refine wpAnyH_done (by kernel_rfl) ?_ _
               go_wp2_with fail
               exact HQ.out gb fb pb r1 r2 r3 a1 a2 a3 b1 b2 b3 k1 k2 k3 _ hG hF hR hBc
             go_simp
             have hgeG : w1.heap.size ≤ U3.heap.size := hBc.size
             have haG := balloc U3 (.cells #[.int .i64 0, .slice none 0 0] 24)
             have hBc := bcat2 hBc haG
             have hlt9 := hF.lt
             have hA := HAU.out _ _ _ hA haG
             have hH := HHU.out _ _ _ hH haG
             have hL := HLU.out _ _ _ hL haG
             have hF := blk_below hF haG
             have hG := blk0 (w := U3) (T := 24) (.int .i64 0) (.slice none 0 0)
             refine hK.out _ _ (hS _ hBc) (fun hHeld => ?_)
             clear hK
             try simp only [Act.put, List.setIfInBounds_toArray, List.set_cons_zero, List.set_cons_succ]
             generalize U3.alloc (.cells #[.int .i64 0, .slice none 0 0] 24) = WAg at *
             generalize U3.heap.size = gb at *
             have hne : gb ≠ fb := by omega
             refine wpAnyH_ready (rs := [6]) (by kernel_rfl) (by simp) (AllReadyH.cons (o := ({ dst := some 28, op := Go.Op.call { callee := Go.Callee.value (Go.Operand.func 7), args := #[Go.Operand.tmp 23, Go.Operand.tmp 25, Go.Operand.tmp 27], argTypes := #[24, 24, 25] }, type := 29, pos := _, after := _, guard := none } : Oper)) rfl (fun KK hK => ?_) AllReadyH.nil)
             have hpz := hBc
             have hg9 := hG.lt
             have hf9 := hF.lt
             go_simp
             refine (HSE.out _ _ _ _ (bcat2 hB1 hBc) hA hH hL).mono ?_
             rintro x4 U4 ⟨r1, r2, r3, pb, rfl, hR, hpb, hl4⟩
             have hBc := bcat2 hBc hl4
             have hgp : GD = true → pb ≠ gb := fun h => by have := hpb h; omega
             have hfp : GD = true → pb ≠ fb := fun h => by have := hpb h; omega
             have hG := blk_below hG hl4
             have hF := blk_below hF hl4
             clear hA hH hL hpz
             try go_wp2_with fail
             refine hK.out _ _ (hS _ hBc) (fun hHeld => ?_)
             clear hK
             try simp only [Act.put, List.setIfInBounds_toArray, List.set_cons_zero, List.set_cons_succ]
             refine wpAnyH_take (i := 7) (oi := ({ dst := some 21, op := Go.Op.move (Go.Operand.tmp 28), type := 29, pos := _, after := _, guard := none } : Oper)) (v := ?_) rfl (by kernel_rfl) (by kernel_rfl) (by kernel_rfl) (fun _ _ _ h => HPN.out _ _ _ _ _ h) (Or.inl ⟨by rfl, ?_⟩) (by assumption) ?_
             rotate_left
             · (intro w hSw; (try dsimp only at hSw); go_simp; try with_reducible rfl)
             simp only [Act.put, List.setIfInBounds_toArray, List.set_cons_zero, List.set_cons_succ]
             refine wpAnyH_take (i := 8) (oi := ({ dst := some 29, op := Go.Op.extract (Go.Operand.tmp 21) 0, type := 24, pos := _, after := _, guard := none } : Oper)) (v := ?_) rfl (by kernel_rfl) (by kernel_rfl) (by kernel_rfl) (fun _ _ _ h => HPN.out _ _ _ _ _ h) (Or.inl ⟨by rfl, ?_⟩) (by assumption) ?_
             rotate_left
             · (intro w hSw; (try dsimp only at hSw); go_simp; try with_reducible rfl)
             simp only [Act.put, List.setIfInBounds_toArray, List.set_cons_zero, List.set_cons_succ]
             refine wpAnyH_take (i := 9) (oi := ({ dst := some 30, op := Go.Op.extract (Go.Operand.tmp 21) 1, type := 28, pos := _, after := _, guard := none } : Oper)) (v := ?_) rfl (by kernel_rfl) (by kernel_rfl) (by kernel_rfl) (fun _ _ _ h => HPN.out _ _ _ _ _ h) (Or.inl ⟨by rfl, ?_⟩) (by assumption) ?_
             rotate_left
             · (intro w hSw; (try dsimp only at hSw); go_simp; try with_reducible rfl)
             simp only [Act.put, List.setIfInBounds_toArray, List.set_cons_zero, List.set_cons_succ]
             refine wpAnyH_ready (rs := [12]) (by kernel_rfl) (by simp) (AllReadyH.cons (o := ({ dst := none, op := Go.Op.store 24 (Go.Operand.tmp 7) (Go.Operand.tmp 29), type := 0, pos := _, after := _, guard := none } : Oper)) rfl (fun KK hK => ?_) AllReadyH.nil)
             obtain ⟨z0, z1, z2, z3⟩ := hG.two
             go_simp
             have hBc := (hBc.setCell (p := ⟨gb, 0, none⟩) hgeG (.int .i64 GN)).setCell (p := ⟨gb, 1, none⟩) hgeG (.slice r1 r2 r3)
             have hG : Blk _ gb 24 [.int .i64 GN, .slice r1 r2 r3] := (hG.set 0 (.int .i64 GN)).set 1 (.slice r1 r2 r3)
             have hF := (hF.other (p := ⟨gb, 0, none⟩) (fun h => hne h.symm) (.int .i64 GN)).other (p := ⟨gb, 1, none⟩) (fun h => hne h.symm) (.slice r1 r2 r3)
             have hR := HRS.out _ _ _ gb 1 (.slice r1 r2 r3) (HRS.out _ _ _ gb 0 (.int .i64 GN) hR hgp) hgp
             refine hK.out _ _ (hS _ hBc) (fun hHeld => ?_)
             clear hK
             try simp only [Act.put, List.setIfInBounds_toArray, List.set_cons_zero, List.set_cons_succ]
             clear z0 z1 z2 z3
             generalize (U4.setCell ⟨gb, 0, none⟩ (.int .i64 GN)).setCell ⟨gb, 1, none⟩ (.slice r1 r2 r3) = WG at *
             refine wpAnyH_ready (rs := [13]) (by kernel_rfl) (by simp) (AllReadyH.cons (o := ({ dst := none, op := Go.Op.store 28 (Go.Operand.tmp 8) (Go.Operand.tmp 30), type := 0, pos := _, after := _, guard := none } : Oper)) rfl (fun KK hK => ?_) AllReadyH.nil)
             obtain ⟨z0, z1, z2, z3⟩ := hF.two
             go_simp
             have hBc := (hBc.setCell (p := ⟨fb, 0, none⟩) hgeF (.int .i64 sc)).setCell (p := ⟨fb, 1, none⟩) hgeF (.int .i64 si)
             have hF : Blk _ fb 28 [.int .i64 sc, .int .i64 si] := (hF.set 0 (.int .i64 sc)).set 1 (.int .i64 si)
             have hG := (hG.other (p := ⟨fb, 0, none⟩) hne (.int .i64 sc)).other (p := ⟨fb, 1, none⟩) hne (.int .i64 si)
             have hR := HRS.out _ _ _ fb 1 (.int .i64 si) (HRS.out _ _ _ fb 0 (.int .i64 sc) hR hfp) hfp
             refine hK.out _ _ (hS _ hBc) (fun hHeld => ?_)
             clear hK
             try simp only [Act.put, List.setIfInBounds_toArray, List.set_cons_zero, List.set_cons_succ]
             clear z0 z1 z2 z3
             refine wpAnyH_done (by kernel_rfl) ?_ _
             go_wp2_with fail
             exact HQ.out gb fb pb r1 r2 r3 a1 a2 a3 b1 b2 b3 k1 k2 k3 _ hG hF hR hBc
           go_simp
           have hgeG : w1.heap.size ≤ WAf.heap.size := hBc.size
           have haG := balloc WAf (.cells #[.int .i64 0, .slice none 0 0] 24)
           have hBc := bcat2 hBc haG
           have hlt9 := hF.lt
           have hA := HAU.out _ _ _ hA haG
           have hH := HHU.out _ _ _ hH haG
           have hF := blk_below hF haG
           have hG := blk0 (w := WAf) (T := 24) (.int .i64 0) (.slice none 0 0)
           refine hK.out _ _ (hS _ hBc) (fun hHeld => ?_)
           clear hK
           try simp only [Act.put, List.setIfInBounds_toArray, List.set_cons_zero, List.set_cons_succ]
           generalize WAf.alloc (.cells #[.int .i64 0, .slice none 0 0] 24) = WAg at *
           generalize WAf.heap.size = gb at *
           have hne : gb ≠ fb := by omega
           refine wpAnyH_ready (rs := [5]) (by kernel_rfl) (by simp) (AllReadyH.cons (o := ({ dst := some 27, op := Go.Op.call { callee := Go.Callee.value (Go.Operand.func 9), args := #[Go.Operand.tmp 26], argTypes := #[25] }, type := 25, pos := _, after := _, guard := none } : Oper)) rfl (fun KK hK => ?_) AllReadyH.nil)
           go_simp
           refine (HOL.out _ (bcat2 hB1 hBc)).mono ?_
           rintro x3 U3 ⟨k1, k2, k3, rfl, hL, hl3⟩
           have hBc := bcat2 hBc hl3
           have hA := HAU.out _ _ _ hA hl3
           have hH := HHU.out _ _ _ hH hl3
           have hG := blk_below hG hl3
           have hF := blk_below hF hl3
           try go_wp2_with fail
           refine hK.out _ _ (hS _ hBc) (fun hHeld => ?_)
           clear hK
           try simp only [Act.put, List.setIfInBounds_toArray, List.set_cons_zero, List.set_cons_succ]
           refine wpAnyH_ready (rs := [6]) (by kernel_rfl) (by simp) (AllReadyH.cons (o := ({ dst := some 28, op := Go.Op.call { callee := Go.Callee.value (Go.Operand.func 7), args := #[Go.Operand.tmp 23, Go.Operand.tmp 25, Go.Operand.tmp 27], argTypes := #[24, 24, 25] }, type := 29, pos := _, after := _, guard := none } : Oper)) rfl (fun KK hK => ?_) AllReadyH.nil)
           have hpz := hBc
           have hg9 := hG.lt
           have hf9 := hF.lt
           go_simp
           refine (HSE.out _ _ _ _ (bcat2 hB1 hBc) hA hH hL).mono ?_
           rintro x4 U4 ⟨r1, r2, r3, pb, rfl, hR, hpb, hl4⟩
           have hBc := bcat2 hBc hl4
           have hgp : GD = true → pb ≠ gb := fun h => by have := hpb h; omega
           have hfp : GD = true → pb ≠ fb := fun h => by have := hpb h; omega
           have hG := blk_below hG hl4
           have hF := blk_below hF hl4
           clear hA hH hL hpz
           try go_wp2_with fail
           refine hK.out _ _ (hS _ hBc) (fun hHeld => ?_)
           clear hK
           try simp only [Act.put, List.setIfInBounds_toArray, List.set_cons_zero, List.set_cons_succ]
           refine wpAnyH_take (i := 7) (oi := ({ dst := some 21, op := Go.Op.move (Go.Operand.tmp 28), type := 29, pos := _, after := _, guard := none } : Oper)) (v := ?_) rfl (by kernel_rfl) (by kernel_rfl) (by kernel_rfl) (fun _ _ _ h => HPN.out _ _ _ _ _ h) (Or.inl ⟨by rfl, ?_⟩) (by assumption) ?_
           rotate_left
           · (intro w hSw; (try dsimp only at hSw); go_simp; try with_reducible rfl)
           simp only [Act.put, List.setIfInBounds_toArray, List.set_cons_zero, List.set_cons_succ]
           refine wpAnyH_take (i := 8) (oi := ({ dst := some 29, op := Go.Op.extract (Go.Operand.tmp 21) 0, type := 24, pos := _, after := _, guard := none } : Oper)) (v := ?_) rfl (by kernel_rfl) (by kernel_rfl) (by kernel_rfl) (fun _ _ _ h => HPN.out _ _ _ _ _ h) (Or.inl ⟨by rfl, ?_⟩) (by assumption) ?_
           rotate_left
           · (intro w hSw; (try dsimp only at hSw); go_simp; try with_reducible rfl)
           simp only [Act.put, List.setIfInBounds_toArray, List.set_cons_zero, List.set_cons_succ]
           refine wpAnyH_take (i := 9) (oi := ({ dst := some 30, op := Go.Op.extract (Go.Operand.tmp 21) 1, type := 28, pos := _, after := _, guard := none } : Oper)) (v := ?_) rfl (by kernel_rfl) (by kernel_rfl) (by kernel_rfl) (fun _ _ _ h => HPN.out _ _ _ _ _ h) (Or.inl ⟨by rfl, ?_⟩) (by assumption) ?_
           rotate_left
           · (intro w hSw; (try dsimp only at hSw); go_simp; try with_reducible rfl)
           simp only [Act.put, List.setIfInBounds_toArray, List.set_cons_zero, List.set_cons_succ]
           refine wpAnyH_ready (rs := [12]) (by kernel_rfl) (by simp) (AllReadyH.cons (o := ({ dst := none, op := Go.Op.store 24 (Go.Operand.tmp 7) (Go.Operand.tmp 29), type := 0, pos := _, after := _, guard := none } : Oper)) rfl (fun KK hK => ?_) AllReadyH.nil)
           obtain ⟨z0, z1, z2, z3⟩ := hG.two
           go_simp
           have hBc := (hBc.setCell (p := ⟨gb, 0, none⟩) hgeG (.int .i64 GN)).setCell (p := ⟨gb, 1, none⟩) hgeG (.slice r1 r2 r3)
           have hG : Blk _ gb 24 [.int .i64 GN, .slice r1 r2 r3] := (hG.set 0 (.int .i64 GN)).set 1 (.slice r1 r2 r3)
           have hF := (hF.other (p := ⟨gb, 0, none⟩) (fun h => hne h.symm) (.int .i64 GN)).other (p := ⟨gb, 1, none⟩) (fun h => hne h.symm) (.slice r1 r2 r3)
           have hR := HRS.out _ _ _ gb 1 (.slice r1 r2 r3) (HRS.out _ _ _ gb 0 (.int .i64 GN) hR hgp) hgp
           refine hK.out _ _ (hS _ hBc) (fun hHeld => ?_)
           clear hK
           try simp only [Act.put, List.setIfInBounds_toArray, List.set_cons_zero, List.set_cons_succ]
           clear z0 z1 z2 z3
           generalize (U4.setCell ⟨gb, 0, none⟩ (.int .i64 GN)).setCell ⟨gb, 1, none⟩ (.slice r1 r2 r3) = WG at *
           refine wpAnyH_ready (rs := [13]) (by kernel_rfl) (by simp) (AllReadyH.cons (o := ({ dst := none, op := Go.Op.store 28 (Go.Operand.tmp 8) (Go.Operand.tmp 30), type := 0, pos := _, after := _, guard := none } : Oper)) rfl (fun KK hK => ?_) AllReadyH.nil)
           obtain ⟨z0, z1, z2, z3⟩ := hF.two
           go_simp
           have hBc := (hBc.setCell (p := ⟨fb, 0, none⟩) hgeF (.int .i64 sc)).setCell (p := ⟨fb, 1, none⟩) hgeF (.int .i64 si)
           have hF : Blk _ fb 28 [.int .i64 sc, .int .i64 si] := (hF.set 0 (.int .i64 sc)).set 1 (.int .i64 si)
           have hG := (hG.other (p := ⟨fb, 0, none⟩) hne (.int .i64 sc)).other (p := ⟨fb, 1, none⟩) hne (.int .i64 si)
           have hR := HRS.out _ _ _ fb 1 (.int .i64 si) (HRS.out _ _ _ fb 0 (.int .i64 sc) hR hfp) hfp
           refine hK.out _ _ (hS _ hBc) (fun hHeld => ?_)
           clear hK
           try simp only [Act.put, List.setIfInBounds_toArray, List.set_cons_zero, List.set_cons_succ]
           clear z0 z1 z2 z3
           refine wpAnyH_done (by kernel_rfl) ?_ _
           go_wp2_with fail
           exact HQ.out gb fb pb r1 r2 r3 a1 a2 a3 b1 b2 b3 k1 k2 k3 _ hG hF hR hBc
     · as_aux_lemma =>
        go_simp
        have hgeG : w1.heap.size ≤ U1.heap.size := hBc.size
        have haG := balloc U1 (.cells #[.int .i64 0, .slice none 0 0] 24)
        have hBc := bcat2 hBc haG
        have hA := HAU.out _ _ _ hA haG
        have hG := blk0 (w := U1) (T := 24) (.int .i64 0) (.slice none 0 0)
        refine hK.out _ _ (hS _ hBc) (fun hHeld => ?_)
        clear hK
        try simp only [Act.put, List.setIfInBounds_toArray, List.set_cons_zero, List.set_cons_succ]
        generalize U1.alloc (.cells #[.int .i64 0, .slice none 0 0] 24) = WAg at *
        generalize U1.heap.size = gb at *
        refine wpAnyH_ready (rs := [3, 11]) (by kernel_rfl) (by simp) (AllReadyH.cons (o := ({ dst := some 25, op := Go.Op.call { callee := Go.Callee.value (Go.Operand.func 8), args := #[Go.Operand.tmp 24], argTypes := #[24] }, type := 24, pos := _, after := _, guard := none } : Oper)) rfl (fun KK hK => ?_) (AllReadyH.cons (o := ({ dst := some 8, op := Go.Op.alloc 28, type := 0, pos := _, after := _, guard := none } : Oper)) rfl (fun KK hK => ?_) AllReadyH.nil))
        · as_aux_lemma =>
           go_simp
           refine (HO2.out _ (bcat2 hB1 hBc)).mono ?_
           rintro x2 U2 ⟨b1, b2, b3, rfl, hH, hl2⟩
           have hBc := bcat2 hBc hl2
           have hA := HAU.out _ _ _ hA hl2
           have hG := blk_below hG hl2
           try go_wp2_with fail
           refine hK.out _ _ (hS _ hBc) (fun hHeld => ?_)
           clear hK
           try simp only [Act.put, List.setIfInBounds_toArray, List.set_cons_zero, List.set_cons_succ]
           refine wpAnyH_ready (rs := [5, 11]) (by kernel_rfl) (by simp) (AllReadyH.cons (o := ({ dst := some 27, op := Go.Op.call { callee := Go.Callee.value (Go.Operand.func 9), args := #[Go.Operand.tmp 26], argTypes := #[25] }, type := 25, pos := _, after := _, guard := none } : Oper)) rfl (fun KK hK => ?_) (AllReadyH.cons (o := ({ dst := some 8, op := Go.Op.alloc 28, type := 0, pos := _, after := _, guard := none } : Oper)) rfl (fun KK hK => ?_) AllReadyH.nil))
           · go_simp
             refine (HOL.out _ (bcat2 hB1 hBc)).mono ?_
             rintro x3 U3 ⟨k1, k2, k3, rfl, hL, hl3⟩
             have hBc := bcat2 hBc hl3
             have hA := HAU.out _ _ _ hA hl3
             have hH := HHU.out _ _ _ hH hl3
             have hG := blk_below hG hl3
             try go_wp2_with fail
             refine hK.out _ _ (hS _ hBc) (fun hHeld => ?_)
             clear hK
             try simp only [Act.put, List.setIfInBounds_toArray, List.set_cons_zero, List.set_cons_succ]
             refine wpAnyH_ready (rs := [6, 11]) (by kernel_rfl) (by simp) (AllReadyH.cons (o := ({ dst := some 28, op := Go.Op.call { callee := Go.Callee.value (Go.Operand.func 7), args := #[Go.Operand.tmp 23, Go.Operand.tmp 25, Go.Operand.tmp 27], argTypes := #[24, 24, 25] }, type := 29, pos := _, after := _, guard := none } : Oper)) rfl (fun KK hK => ?_) (AllReadyH.cons (o := ({ dst := some 8, op := Go.Op.alloc 28, type := 0, pos := _, after := _, guard := none } : Oper)) rfl (fun KK hK => ?_) AllReadyH.nil))
             · have hpz := hBc
               have hg9 := hG.lt
               go_simp
               refine (HSE.out _ _ _ _ (bcat2 hB1 hBc) hA hH hL).mono ?_
               rintro x4 U4 ⟨r1, r2, r3, pb, rfl, hR, hpb, hl4⟩
               have hBc := bcat2 hBc hl4
               have hgp : GD = true → pb ≠ gb := fun h => by have := hpb h; omega
               have hG := blk_below hG hl4
               clear hA hH hL hpz
               try go_wp2_with fail
               refine hK.out _ _ (hS _ hBc) (fun hHeld => ?_)
               clear hK
               try simp only [Act.put, List.setIfInBounds_toArray, List.set_cons_zero, List.set_cons_succ]
               refine wpAnyH_take (i := 7) (oi := ({ dst := some 21, op := Go.Op.move (Go.Operand.tmp 28), type := 29, pos := _, after := _, guard := none } : Oper)) (v := ?_) rfl (by kernel_rfl) (by kernel_rfl) (by kernel_rfl) (fun _ _ _ h => HPN.out _ _ _ _ _ h) (Or.inl ⟨by rfl, ?_⟩) (by assumption) ?_
               rotate_left
               · (intro w hSw; (try dsimp only at hSw); go_simp; try with_reducible rfl)
               simp only [Act.put, List.setIfInBounds_toArray, List.set_cons_zero, List.set_cons_succ]
               refine wpAnyH_take (i := 8) (oi := ({ dst := some 29, op := Go.Op.extract (Go.Operand.tmp 21) 0, type := 24, pos := _, after := _, guard := none } : Oper)) (v := ?_) rfl (by kernel_rfl) (by kernel_rfl) (by kernel_rfl) (fun _ _ _ h => HPN.out _ _ _ _ _ h) (Or.inl ⟨by rfl, ?_⟩) (by assumption) ?_
               rotate_left
               · (intro w hSw; (try dsimp only at hSw); go_simp; try with_reducible rfl)
               simp only [Act.put, List.setIfInBounds_toArray, List.set_cons_zero, List.set_cons_succ]
               refine wpAnyH_take (i := 9) (oi := ({ dst := some 30, op := Go.Op.extract (Go.Operand.tmp 21) 1, type := 28, pos := _, after := _, guard := none } : Oper)) (v := ?_) rfl (by kernel_rfl) (by kernel_rfl) (by kernel_rfl) (fun _ _ _ h => HPN.out _ _ _ _ _ h) (Or.inl ⟨by rfl, ?_⟩) (by assumption) ?_
               rotate_left
               · (intro w hSw; (try dsimp only at hSw); go_simp; try with_reducible rfl)
               simp only [Act.put, List.setIfInBounds_toArray, List.set_cons_zero, List.set_cons_succ]
               refine wpAnyH_ready (rs := [11]) (by kernel_rfl) (by simp) (AllReadyH.cons (o := ({ dst := some 8, op := Go.Op.alloc 28, type := 0, pos := _, after := _, guard := none } : Oper)) rfl (fun KK hK => ?_) AllReadyH.nil)
               go_simp
               have hgeF : w1.heap.size ≤ U4.heap.size := hBc.size
               have haF := balloc U4 (.cells #[.int .i64 0, .int .i64 0] 28)
               have hBc := bcat2 hBc haF
               have hfp : GD = true → pb ≠ U4.heap.size := fun h => by have := HRL.out _ _ _ hR h; omega
               have hlt9 := hG.lt
               have hR := HRB.out _ _ _ _ hR haF
               have hG := blk_below hG haF
               have hF := blk0 (w := U4) (T := 28) (.int .i64 0) (.int .i64 0)
               refine hK.out _ _ (hS _ hBc) (fun hHeld => ?_)
               clear hK
               try simp only [Act.put, List.setIfInBounds_toArray, List.set_cons_zero, List.set_cons_succ]
               generalize U4.alloc (.cells #[.int .i64 0, .int .i64 0] 28) = WAf at *
               generalize U4.heap.size = fb at *
               have hne : gb ≠ fb := by omega
               refine wpAnyH_ready (rs := [12]) (by kernel_rfl) (by simp) (AllReadyH.cons (o := ({ dst := none, op := Go.Op.store 24 (Go.Operand.tmp 7) (Go.Operand.tmp 29), type := 0, pos := _, after := _, guard := none } : Oper)) rfl (fun KK hK => ?_) AllReadyH.nil)
               obtain ⟨z0, z1, z2, z3⟩ := hG.two
               go_simp
               have hBc := (hBc.setCell (p := ⟨gb, 0, none⟩) hgeG (.int .i64 GN)).setCell (p := ⟨gb, 1, none⟩) hgeG (.slice r1 r2 r3)
               have hG : Blk _ gb 24 [.int .i64 GN, .slice r1 r2 r3] := (hG.set 0 (.int .i64 GN)).set 1 (.slice r1 r2 r3)
               have hF := (hF.other (p := ⟨gb, 0, none⟩) (fun h => hne h.symm) (.int .i64 GN)).other (p := ⟨gb, 1, none⟩) (fun h => hne h.symm) (.slice r1 r2 r3)
               have hR := HRS.out _ _ _ gb 1 (.slice r1 r2 r3) (HRS.out _ _ _ gb 0 (.int .i64 GN) hR hgp) hgp
               refine hK.out _ _ (hS _ hBc) (fun hHeld => ?_)
               clear hK
               try simp only [Act.put, List.setIfInBounds_toArray, List.set_cons_zero, List.set_cons_succ]
               clear z0 z1 z2 z3
               generalize (WAf.setCell ⟨gb, 0, none⟩ (.int .i64 GN)).setCell ⟨gb, 1, none⟩ (.slice r1 r2 r3) = WG at *
               refine wpAnyH_ready (rs := [13]) (by kernel_rfl) (by simp) (AllReadyH.cons (o := ({ dst := none, op := Go.Op.store 28 (Go.Operand.tmp 8) (Go.Operand.tmp 30), type := 0, pos := _, after := _, guard := none } : Oper)) rfl (fun KK hK => ?_) AllReadyH.nil)
               obtain ⟨z0, z1, z2, z3⟩ := hF.two
               go_simp
               have hBc := (hBc.setCell (p := ⟨fb, 0, none⟩) hgeF (.int .i64 sc)).setCell (p := ⟨fb, 1, none⟩) hgeF (.int .i64 si)
               have hF : Blk _ fb 28 [.int .i64 sc, .int .i64 si] := (hF.set 0 (.int .i64 sc)).set 1 (.int .i64 si)
               have hG := (hG.other (p := ⟨fb, 0, none⟩) hne (.int .i64 sc)).other (p := ⟨fb, 1, none⟩) hne (.int .i64 si)
               have hR := HRS.out _ _ _ fb 1 (.int .i64 si) (HRS.out _ _ _ fb 0 (.int .i64 sc) hR hfp) hfp
               refine hK.out _ _ (hS _ hBc) (fun hHeld => ?_)
               clear hK
               try simp only [Act.put, List.setIfInBounds_toArray, List.set_cons_zero, List.set_cons_succ]
               clear z0 z1 z2 z3
               refine wpAnyH_done (by kernel_rfl) ?_ _
               go_wp2_with fail
               exact HQ.out gb fb pb r1 r2 r3 a1 a2 a3 b1 b2 b3 k1 k2 k3 _ hG hF hR hBc
             go_simp
             have hgeF : w1.heap.size ≤ U3.heap.size := hBc.size
             have haF := balloc U3 (.cells #[.int .i64 0, .int .i64 0] 28)
             have hBc := bcat2 hBc haF
             have hlt9 := hG.lt
             have hA := HAU.out _ _ _ hA haF
             have hH := HHU.out _ _ _ hH haF
             have hL := HLU.out _ _ _ hL haF
             have hG := blk_below hG haF
             have hF := blk0 (w := U3) (T := 28) (.int .i64 0) (.int .i64 0)
             refine hK.out _ _ (hS _ hBc) (fun hHeld => ?_)
             clear hK
             try simp only [Act.put, List.setIfInBounds_toArray, List.set_cons_zero, List.set_cons_succ]
             generalize U3.alloc (.cells #[.int .i64 0, .int .i64 0] 28) = WAf at *
             generalize U3.heap.size = fb at *
             have hne : gb ≠ fb := by omega
             refine wpAnyH_ready (rs := [6]) (by kernel_rfl) (by simp) (AllReadyH.cons (o := ({ dst := some 28, op := Go.Op.call { callee := Go.Callee.value (Go.Operand.func 7), args := #[Go.Operand.tmp 23, Go.Operand.tmp 25, Go.Operand.tmp 27], argTypes := #[24, 24, 25] }, type := 29, pos := _, after := _, guard := none } : Oper)) rfl (fun KK hK => ?_) AllReadyH.nil)
             have hpz := hBc
             have hg9 := hG.lt
             have hf9 := hF.lt
             go_simp
             refine (HSE.out _ _ _ _ (bcat2 hB1 hBc) hA hH hL).mono ?_
             rintro x4 U4 ⟨r1, r2, r3, pb, rfl, hR, hpb, hl4⟩
             have hBc := bcat2 hBc hl4
             have hgp : GD = true → pb ≠ gb := fun h => by have := hpb h; omega
             have hfp : GD = true → pb ≠ fb := fun h => by have := hpb h; omega
             have hG := blk_below hG hl4
             have hF := blk_below hF hl4
             clear hA hH hL hpz
             try go_wp2_with fail
             refine hK.out _ _ (hS _ hBc) (fun hHeld => ?_)
             clear hK
             try simp only [Act.put, List.setIfInBounds_toArray, List.set_cons_zero, List.set_cons_succ]
             refine wpAnyH_take (i := 7) (oi := ({ dst := some 21, op := Go.Op.move (Go.Operand.tmp 28), type := 29, pos := _, after := _, guard := none } : Oper)) (v := ?_) rfl (by kernel_rfl) (by kernel_rfl) (by kernel_rfl) (fun _ _ _ h => HPN.out _ _ _ _ _ h) (Or.inl ⟨by rfl, ?_⟩) (by assumption) ?_
             rotate_left
             · (intro w hSw; (try dsimp only at hSw); go_simp; try with_reducible rfl)
             simp only [Act.put, List.setIfInBounds_toArray, List.set_cons_zero, List.set_cons_succ]
             refine wpAnyH_take (i := 8) (oi := ({ dst := some 29, op := Go.Op.extract (Go.Operand.tmp 21) 0, type := 24, pos := _, after := _, guard := none } : Oper)) (v := ?_) rfl (by kernel_rfl) (by kernel_rfl) (by kernel_rfl) (fun _ _ _ h => HPN.out _ _ _ _ _ h) (Or.inl ⟨by rfl, ?_⟩) (by assumption) ?_
             rotate_left
             · (intro w hSw; (try dsimp only at hSw); go_simp; try with_reducible rfl)
             simp only [Act.put, List.setIfInBounds_toArray, List.set_cons_zero, List.set_cons_succ]
             refine wpAnyH_take (i := 9) (oi := ({ dst := some 30, op := Go.Op.extract (Go.Operand.tmp 21) 1, type := 28, pos := _, after := _, guard := none } : Oper)) (v := ?_) rfl (by kernel_rfl) (by kernel_rfl) (by kernel_rfl) (fun _ _ _ h => HPN.out _ _ _ _ _ h) (Or.inl ⟨by rfl, ?_⟩) (by assumption) ?_
             rotate_left
             · (intro w hSw; (try dsimp only at hSw); go_simp; try with_reducible rfl)
             simp only [Act.put, List.setIfInBounds_toArray, List.set_cons_zero, List.set_cons_succ]
             refine wpAnyH_ready (rs := [12]) (by kernel_rfl) (by simp) (AllReadyH.cons (o := ({ dst := none, op := Go.Op.store 24 (Go.Operand.tmp 7) (Go.Operand.tmp 29), type := 0, pos := _, after := _, guard := none } : Oper)) rfl (fun KK hK => ?_) AllReadyH.nil)
             obtain ⟨z0, z1, z2, z3⟩ := hG.two
             go_simp
             have hBc := (hBc.setCell (p := ⟨gb, 0, none⟩) hgeG (.int .i64 GN)).setCell (p := ⟨gb, 1, none⟩) hgeG (.slice r1 r2 r3)
             have hG : Blk _ gb 24 [.int .i64 GN, .slice r1 r2 r3] := (hG.set 0 (.int .i64 GN)).set 1 (.slice r1 r2 r3)
             have hF := (hF.other (p := ⟨gb, 0, none⟩) (fun h => hne h.symm) (.int .i64 GN)).other (p := ⟨gb, 1, none⟩) (fun h => hne h.symm) (.slice r1 r2 r3)
             have hR := HRS.out _ _ _ gb 1 (.slice r1 r2 r3) (HRS.out _ _ _ gb 0 (.int .i64 GN) hR hgp) hgp
             refine hK.out _ _ (hS _ hBc) (fun hHeld => ?_)
             clear hK
             try simp only [Act.put, List.setIfInBounds_toArray, List.set_cons_zero, List.set_cons_succ]
             clear z0 z1 z2 z3
             generalize (U4.setCell ⟨gb, 0, none⟩ (.int .i64 GN)).setCell ⟨gb, 1, none⟩ (.slice r1 r2 r3) = WG at *
             refine wpAnyH_ready (rs := [13]) (by kernel_rfl) (by simp) (AllReadyH.cons (o := ({ dst := none, op := Go.Op.store 28 (Go.Operand.tmp 8) (Go.Operand.tmp 30), type := 0, pos := _, after := _, guard := none } : Oper)) rfl (fun KK hK => ?_) AllReadyH.nil)
             obtain ⟨z0, z1, z2, z3⟩ := hF.two
             go_simp
             have hBc := (hBc.setCell (p := ⟨fb, 0, none⟩) hgeF (.int .i64 sc)).setCell (p := ⟨fb, 1, none⟩) hgeF (.int .i64 si)
             have hF : Blk _ fb 28 [.int .i64 sc, .int .i64 si] := (hF.set 0 (.int .i64 sc)).set 1 (.int .i64 si)
             have hG := (hG.other (p := ⟨fb, 0, none⟩) hne (.int .i64 sc)).other (p := ⟨fb, 1, none⟩) hne (.int .i64 si)
             have hR := HRS.out _ _ _ fb 1 (.int .i64 si) (HRS.out _ _ _ fb 0 (.int .i64 sc) hR hfp) hfp
             refine hK.out _ _ (hS _ hBc) (fun hHeld => ?_)
             clear hK
             try simp only [Act.put, List.setIfInBounds_toArray, List.set_cons_zero, List.set_cons_succ]
             clear z0 z1 z2 z3
             refine wpAnyH_done (by kernel_rfl) ?_ _
             go_wp2_with fail
             exact HQ.out gb fb pb r1 r2 r3 a1 a2 a3 b1 b2 b3 k1 k2 k3 _ hG hF hR hBc
           go_simp
           have hgeF : w1.heap.size ≤ U2.heap.size := hBc.size
           have haF := balloc U2 (.cells #[.int .i64 0, .int .i64 0] 28)
           have hBc := bcat2 hBc haF
           have hlt9 := hG.lt
           have hA := HAU.out _ _ _ hA haF
           have hH := HHU.out _ _ _ hH haF
           have hG := blk_below hG haF
           have hF := blk0 (w := U2) (T := 28) (.int .i64 0) (.int .i64 0)
           refine hK.out _ _ (hS _ hBc) (fun hHeld => ?_)
           clear hK
           try simp only [Act.put, List.setIfInBounds_toArray, List.set_cons_zero, List.set_cons_succ]
           generalize U2.alloc (.cells #[.int .i64 0, .int .i64 0] 28) = WAf at *
           generalize U2.heap.size = fb at *
           have hne : gb ≠ fb := by omega
           refine wpAnyH_ready (rs := [5]) (by kernel_rfl) (by simp) (AllReadyH.cons (o := ({ dst := some 27, op := Go.Op.call { callee := Go.Callee.value (Go.Operand.func 9), args := #[Go.Operand.tmp 26], argTypes := #[25] }, type := 25, pos := _, after := _, guard := none } : Oper)) rfl (fun KK hK => ?_) AllReadyH.nil)
           go_simp
           refine (HOL.out _ (bcat2 hB1 hBc)).mono ?_
           rintro x3 U3 ⟨k1, k2, k3, rfl, hL, hl3⟩
           have hBc := bcat2 hBc hl3
           have hA := HAU.out _ _ _ hA hl3
           have hH := HHU.out _ _ _ hH hl3
           have hG := blk_below hG hl3
           have hF := blk_below hF hl3
           try go_wp2_with fail
           refine hK.out _ _ (hS _ hBc) (fun hHeld => ?_)
           clear hK
           try simp only [Act.put, List.setIfInBounds_toArray, List.set_cons_zero, List.set_cons_succ]
           refine wpAnyH_ready (rs := [6]) (by kernel_rfl) (by simp) (AllReadyH.cons (o := ({ dst := some 28, op := Go.Op.call { callee := Go.Callee.value (Go.Operand.func 7), args := #[Go.Operand.tmp 23, Go.Operand.tmp 25, Go.Operand.tmp 27], argTypes := #[24, 24, 25] }, type := 29, pos := _, after := _, guard := none } : Oper)) rfl (fun KK hK => ?_) AllReadyH.nil)
           have hpz := hBc
           have hg9 := hG.lt
           have hf9 := hF.lt
           go_simp
           refine (HSE.out _ _ _ _ (bcat2 hB1 hBc) hA hH hL).mono ?_
           rintro x4 U4 ⟨r1, r2, r3, pb, rfl, hR, hpb, hl4⟩
           have hBc := bcat2 hBc hl4
           have hgp : GD = true → pb ≠ gb := fun h => by have := hpb h; omega
           have hfp : GD = true → pb ≠ fb := fun h => by have := hpb h; omega
           have hG := blk_below hG hl4
           have hF := blk_below hF hl4
           clear hA hH hL hpz
           try go_wp2_with fail
           refine hK.out _ _ (hS _ hBc) (fun hHeld => ?_)
           clear hK
           try simp only [Act.put, List.setIfInBounds_toArray, List.set_cons_zero, List.set_cons_succ]
           refine wpAnyH_take (i := 7) (oi := ({ dst := some 21, op := Go.Op.move (Go.Operand.tmp 28), type := 29, pos := _, after := _, guard := none } : Oper)) (v := ?_) rfl (by kernel_rfl) (by kernel_rfl) (by kernel_rfl) (fun _ _ _ h => HPN.out _ _ _ _ _ h) (Or.inl ⟨by rfl, ?_⟩) (by assumption) ?_
           rotate_left
           · (intro w hSw; (try dsimp only at hSw); go_simp; try with_reducible rfl)
           simp only [Act.put, List.setIfInBounds_toArray, List.set_cons_zero, List.set_cons_succ]
           refine wpAnyH_take (i := 8) (oi := ({ dst := some 29, op := Go.Op.extract (Go.Operand.tmp 21) 0, type := 24, pos := _, after := _, guard := none } : Oper)) (v := ?_) rfl (by kernel_rfl) (by kernel_rfl) (by kernel_rfl) (fun _ _ _ h => HPN.out _ _ _ _ _ h) (Or.inl ⟨by rfl, ?_⟩) (by assumption) ?_
           rotate_left
           · (intro w hSw; (try dsimp only at hSw); go_simp; try with_reducible rfl)
           simp only [Act.put, List.setIfInBounds_toArray, List.set_cons_zero, List.set_cons_succ]
           refine wpAnyH_take (i := 9) (oi := ({ dst := some 30, op := Go.Op.extract (Go.Operand.tmp 21) 1, type := 28, pos := _, after := _, guard := none } : Oper)) (v := ?_) rfl (by kernel_rfl) (by kernel_rfl) (by kernel_rfl) (fun _ _ _ h => HPN.out _ _ _ _ _ h) (Or.inl ⟨by rfl, ?_⟩) (by assumption) ?_
           rotate_left
           · (intro w hSw; (try dsimp only at hSw); go_simp; try with_reducible rfl)
           simp only [Act.put, List.setIfInBounds_toArray, List.set_cons_zero, List.set_cons_succ]
           refine wpAnyH_ready (rs := [12]) (by kernel_rfl) (by simp) (AllReadyH.cons (o := ({ dst := none, op := Go.Op.store 24 (Go.Operand.tmp 7) (Go.Operand.tmp 29), type := 0, pos := _, after := _, guard := none } : Oper)) rfl (fun KK hK => ?_) AllReadyH.nil)
           obtain ⟨z0, z1, z2, z3⟩ := hG.two
           go_simp
           have hBc := (hBc.setCell (p := ⟨gb, 0, none⟩) hgeG (.int .i64 GN)).setCell (p := ⟨gb, 1, none⟩) hgeG (.slice r1 r2 r3)
           have hG : Blk _ gb 24 [.int .i64 GN, .slice r1 r2 r3] := (hG.set 0 (.int .i64 GN)).set 1 (.slice r1 r2 r3)
           have hF := (hF.other (p := ⟨gb, 0, none⟩) (fun h => hne h.symm) (.int .i64 GN)).other (p := ⟨gb, 1, none⟩) (fun h => hne h.symm) (.slice r1 r2 r3)
           have hR := HRS.out _ _ _ gb 1 (.slice r1 r2 r3) (HRS.out _ _ _ gb 0 (.int .i64 GN) hR hgp) hgp
           refine hK.out _ _ (hS _ hBc) (fun hHeld => ?_)
           clear hK
           try simp only [Act.put, List.setIfInBounds_toArray, List.set_cons_zero, List.set_cons_succ]
           clear z0 z1 z2 z3
           generalize (U4.setCell ⟨gb, 0, none⟩ (.int .i64 GN)).setCell ⟨gb, 1, none⟩ (.slice r1 r2 r3) = WG at *
           refine wpAnyH_ready (rs := [13]) (by kernel_rfl) (by simp) (AllReadyH.cons (o := ({ dst := none, op := Go.Op.store 28 (Go.Operand.tmp 8) (Go.Operand.tmp 30), type := 0, pos := _, after := _, guard := none } : Oper)) rfl (fun KK hK => ?_) AllReadyH.nil)
           obtain ⟨z0, z1, z2, z3⟩ := hF.two
           go_simp
           have hBc := (hBc.setCell (p := ⟨fb, 0, none⟩) hgeF (.int .i64 sc)).setCell (p := ⟨fb, 1, none⟩) hgeF (.int .i64 si)
           have hF : Blk _ fb 28 [.int .i64 sc, .int .i64 si] := (hF.set 0 (.int .i64 sc)).set 1 (.int .i64 si)
           have hG := (hG.other (p := ⟨fb, 0, none⟩) hne (.int .i64 sc)).other (p := ⟨fb, 1, none⟩) hne (.int .i64 si)
           have hR := HRS.out _ _ _ fb 1 (.int .i64 si) (HRS.out _ _ _ fb 0 (.int .i64 sc) hR hfp) hfp
           refine hK.out _ _ (hS _ hBc) (fun hHeld => ?_)
           clear hK
           try simp only [Act.put, List.setIfInBounds_toArray, List.set_cons_zero, List.set_cons_succ]
           clear z0 z1 z2 z3
           refine wpAnyH_done (by kernel_rfl) ?_ _
           go_wp2_with fail
           exact HQ.out gb fb pb r1 r2 r3 a1 a2 a3 b1 b2 b3 k1 k2 k3 _ hG hF hR hBc
        · as_aux_lemma =>
           go_simp
           have hgeF : w1.heap.size ≤ WAg.heap.size := hBc.size
           have haF := balloc WAg (.cells #[.int .i64 0, .int .i64 0] 28)
           have hBc := bcat2 hBc haF
           have hlt9 := hG.lt
           have hA := HAU.out _ _ _ hA haF
           have hG := blk_below hG haF
           have hF := blk0 (w := WAg) (T := 28) (.int .i64 0) (.int .i64 0)
           refine hK.out _ _ (hS _ hBc) (fun hHeld => ?_)
           clear hK
           try simp only [Act.put, List.setIfInBounds_toArray, List.set_cons_zero, List.set_cons_succ]
           generalize WAg.alloc (.cells #[.int .i64 0, .int .i64 0] 28) = WAf at *
           generalize WAg.heap.size = fb at *
           have hne : gb ≠ fb := by omega
           refine wpAnyH_ready (rs := [3]) (by kernel_rfl) (by simp) (AllReadyH.cons (o := ({ dst := some 25, op := Go.Op.call { callee := Go.Callee.value (Go.Operand.func 8), args := #[Go.Operand.tmp 24], argTypes := #[24] }, type := 24, pos := _, after := _, guard := none } : Oper)) rfl (fun KK hK => ?_) AllReadyH.nil)
           go_simp
           refine (HO2.out _ (bcat2 hB1 hBc)).mono ?_
           rintro x2 U2 ⟨b1, b2, b3, rfl, hH, hl2⟩
           have hBc := bcat2 hBc hl2
           have hA := HAU.out _ _ _ hA hl2
           have hG := blk_below hG hl2
           have hF := blk_below hF hl2
           try go_wp2_with fail
           refine hK.out _ _ (hS _ hBc) (fun hHeld => ?_)
           clear hK
           try simp only [Act.put, List.setIfInBounds_toArray, List.set_cons_zero, List.set_cons_succ]
           refine wpAnyH_ready (rs := [5]) (by kernel_rfl) (by simp) (AllReadyH.cons (o := ({ dst := some 27, op := Go.Op.call { callee := Go.Callee.value (Go.Operand.func 9), args := #[Go.Operand.tmp 26], argTypes := #[25] }, type := 25, pos := _, after := _, guard := none } : Oper)) rfl (fun KK hK => ?_) AllReadyH.nil)
           go_simp
           refine (HOL.out _ (bcat2 hB1 hBc)).mono ?_
           rintro x3 U3 ⟨k1, k2, k3, rfl, hL, hl3⟩
           have hBc := bcat2 hBc hl3
           have hA := HAU.out _ _ _ hA hl3
           have hH := HHU.out _ _ _ hH hl3
           have hG := blk_below hG hl3
           have hF := blk_below hF hl3
           try go_wp2_with fail
           refine hK.out _ _ (hS _ hBc) (fun hHeld => ?_)
           clear hK
           try simp only [Act.put, List.setIfInBounds_toArray, List.set_cons_zero, List.set_cons_succ]
           refine wpAnyH_ready (rs := [6]) (by kernel_rfl) (by simp) (AllReadyH.cons (o := ({ dst := some 28, op := Go.Op.call { callee := Go.Callee.value (Go.Operand.func 7), args := #[Go.Operand.tmp 23, Go.Operand.tmp 25, Go.Operand.tmp 27], argTypes := #[24, 24, 25] }, type := 29, pos := _, after := _, guard := none } : Oper)) rfl (fun KK hK => ?_) AllReadyH.nil)
           have hpz := hBc
           have hg9 := hG.lt
           have hf9 := hF.lt
           go_simp
           refine (HSE.out _ _ _ _ (bcat2 hB1 hBc) hA hH hL).mono ?_
           rintro x4 U4 ⟨r1, r2, r3, pb, rfl, hR, hpb, hl4⟩
           have hBc := bcat2 hBc hl4
           have hgp : GD = true → pb ≠ gb := fun h => by have := hpb h; omega
           have hfp : GD = true → pb ≠ fb := fun h => by have := hpb h; omega
           have hG := blk_below hG hl4
           have hF := blk_below hF hl4
           clear hA hH hL hpz
           try go_wp2_with fail
           refine hK.out _ _ (hS _ hBc) (fun hHeld => ?_)
           clear hK
           try simp only [Act.put, List.setIfInBounds_toArray, List.set_cons_zero, List.set_cons_succ]
           refine wpAnyH_take (i := 7) (oi := ({ dst := some 21, op := Go.Op.move (Go.Operand.tmp 28), type := 29, pos := _, after := _, guard := none } : Oper)) (v := ?_) rfl (by kernel_rfl) (by kernel_rfl) (by kernel_rfl) (fun _ _ _ h => HPN.out _ _ _ _ _ h) (Or.inl ⟨by rfl, ?_⟩) (by assumption) ?_
           rotate_left
           · (intro w hSw; (try dsimp only at hSw); go_simp; try with_reducible rfl)
           simp only [Act.put, List.setIfInBounds_toArray, List.set_cons_zero, List.set_cons_succ]
           refine wpAnyH_take (i := 8) (oi := ({ dst := some 29, op := Go.Op.extract (Go.Operand.tmp 21) 0, type := 24, pos := _, after := _, guard := none } : Oper)) (v := ?_) rfl (by kernel_rfl) (by kernel_rfl) (by kernel_rfl) (fun _ _ _ h => HPN.out _ _ _ _ _ h) (Or.inl ⟨by rfl, ?_⟩) (by assumption) ?_
           rotate_left
           · (intro w hSw; (try dsimp only at hSw); go_simp; try with_reducible rfl)
           simp only [Act.put, List.setIfInBounds_toArray, List.set_cons_zero, List.set_cons_succ]
           refine wpAnyH_take (i := 9) (oi := ({ dst := some 30, op := Go.Op.extract (Go.Operand.tmp 21) 1, type := 28, pos := _, after := _, guard := none } : Oper)) (v := ?_) rfl (by kernel_rfl) (by kernel_rfl) (by kernel_rfl) (fun _ _ _ h => HPN.out _ _ _ _ _ h) (Or.inl ⟨by rfl, ?_⟩) (by assumption) ?_
           rotate_left
           · (intro w hSw; (try dsimp only at hSw); go_simp; try with_reducible rfl)
           simp only [Act.put, List.setIfInBounds_toArray, List.set_cons_zero, List.set_cons_succ]
           refine wpAnyH_ready (rs := [12]) (by kernel_rfl) (by simp) (AllReadyH.cons (o := ({ dst := none, op := Go.Op.store 24 (Go.Operand.tmp 7) (Go.Operand.tmp 29), type := 0, pos := _, after := _, guard := none } : Oper)) rfl (fun KK hK => ?_) AllReadyH.nil)
           obtain ⟨z0, z1, z2, z3⟩ := hG.two
           go_simp
           have hBc := (hBc.setCell (p := ⟨gb, 0, none⟩) hgeG (.int .i64 GN)).setCell (p := ⟨gb, 1, none⟩) hgeG (.slice r1 r2 r3)
           have hG : Blk _ gb 24 [.int .i64 GN, .slice r1 r2 r3] := (hG.set 0 (.int .i64 GN)).set 1 (.slice r1 r2 r3)
           have hF := (hF.other (p := ⟨gb, 0, none⟩) (fun h => hne h.symm) (.int .i64 GN)).other (p := ⟨gb, 1, none⟩) (fun h => hne h.symm) (.slice r1 r2 r3)
           have hR := HRS.out _ _ _ gb 1 (.slice r1 r2 r3) (HRS.out _ _ _ gb 0 (.int .i64 GN) hR hgp) hgp
           refine hK.out _ _ (hS _ hBc) (fun hHeld => ?_)
           clear hK
           try simp only [Act.put, List.setIfInBounds_toArray, List.set_cons_zero, List.set_cons_succ]
           clear z0 z1 z2 z3
           generalize (U4.setCell ⟨gb, 0, none⟩ (.int .i64 GN)).setCell ⟨gb, 1, none⟩ (.slice r1 r2 r3) = WG at *
           refine wpAnyH_ready (rs := [13]) (by kernel_rfl) (by simp) (AllReadyH.cons (o := ({ dst := none, op := Go.Op.store 28 (Go.Operand.tmp 8) (Go.Operand.tmp 30), type := 0, pos := _, after := _, guard := none } : Oper)) rfl (fun KK hK => ?_) AllReadyH.nil)
           obtain ⟨z0, z1, z2, z3⟩ := hF.two
           go_simp
           have hBc := (hBc.setCell (p := ⟨fb, 0, none⟩) hgeF (.int .i64 sc)).setCell (p := ⟨fb, 1, none⟩) hgeF (.int .i64 si)
           have hF : Blk _ fb 28 [.int .i64 sc, .int .i64 si] := (hF.set 0 (.int .i64 sc)).set 1 (.int .i64 si)
           have hG := (hG.other (p := ⟨fb, 0, none⟩) hne (.int .i64 sc)).other (p := ⟨fb, 1, none⟩) hne (.int .i64 si)
           have hR := HRS.out _ _ _ fb 1 (.int .i64 si) (HRS.out _ _ _ fb 0 (.int .i64 sc) hR hfp) hfp
           refine hK.out _ _ (hS _ hBc) (fun hHeld => ?_)
           clear hK
           try simp only [Act.put, List.setIfInBounds_toArray, List.set_cons_zero, List.set_cons_succ]
           clear z0 z1 z2 z3
           refine wpAnyH_done (by kernel_rfl) ?_ _
           go_wp2_with fail
           exact HQ.out gb fb pb r1 r2 r3 a1 a2 a3 b1 b2 b3 k1 k2 k3 _ hG hF hR hBc
     · as_aux_lemma =>
        go_simp
        have hgeF : w1.heap.size ≤ U1.heap.size := hBc.size
        have haF := balloc U1 (.cells #[.int .i64 0, .int .i64 0] 28)
        have hBc := bcat2 hBc haF
        have hA := HAU.out _ _ _ hA haF
        have hF := blk0 (w := U1) (T := 28) (.int .i64 0) (.int .i64 0)
        refine hK.out _ _ (hS _ hBc) (fun hHeld => ?_)
        clear hK
        try simp only [Act.put, List.setIfInBounds_toArray, List.set_cons_zero, List.set_cons_succ]
        generalize U1.alloc (.cells #[.int .i64 0, .int .i64 0] 28) = WAf at *
        generalize U1.heap.size = fb at *
        refine wpAnyH_ready (rs := [3, 10]) (by kernel_rfl) (by simp) (AllReadyH.cons (o := ({ dst := some 25, op := Go.Op.call { callee := Go.Callee.value (Go.Operand.func 8), args := #[Go.Operand.tmp 24], argTypes := #[24] }, type := 24, pos := _, after := _, guard := none } : Oper)) rfl (fun KK hK => ?_) (AllReadyH.cons (o := ({ dst := some 7, op := Go.Op.alloc 24, type := 0, pos := _, after := _, guard := none } : Oper)) rfl (fun KK hK => ?_) AllReadyH.nil))
        · as_aux_lemma =>
           go_simp
           refine (HO2.out _ (bcat2 hB1 hBc)).mono ?_
           rintro x2 U2 ⟨b1, b2, b3, rfl, hH, hl2⟩
           have hBc := bcat2 hBc hl2
           have hA := HAU.out _ _ _ hA hl2
           have hF := blk_below hF hl2
           try go_wp2_with fail
           refine hK.out _ _ (hS _ hBc) (fun hHeld => ?_)
           clear hK
           try simp only [Act.put, List.setIfInBounds_toArray, List.set_cons_zero, List.set_cons_succ]
           refine wpAnyH_ready (rs := [5, 10]) (by kernel_rfl) (by simp) (AllReadyH.cons (o := ({ dst := some 27, op := Go.Op.call { callee := Go.Callee.value (Go.Operand.func 9), args := #[Go.Operand.tmp 26], argTypes := #[25] }, type := 25, pos := _, after := _, guard := none } : Oper)) rfl (fun KK hK => ?_) (AllReadyH.cons (o := ({ dst := some 7, op := Go.Op.alloc 24, type := 0, pos := _, after := _, guard := none } : Oper)) rfl (fun KK hK => ?_) AllReadyH.nil))
           · go_simp
             refine (HOL.out _ (bcat2 hB1 hBc)).mono ?_
             rintro x3 U3 ⟨k1, k2, k3, rfl, hL, hl3⟩
             have hBc := bcat2 hBc hl3
             have hA := HAU.out _ _ _ hA hl3
             have hH := HHU.out _ _ _ hH hl3
             have hF := blk_below hF hl3
             try go_wp2_with fail
             refine hK.out _ _ (hS _ hBc) (fun hHeld => ?_)
             clear hK
             try simp only [Act.put, List.setIfInBounds_toArray, List.set_cons_zero, List.set_cons_succ]
             refine wpAnyH_ready (rs := [6, 10]) (by kernel_rfl) (by simp) (AllReadyH.cons (o := ({ dst := some 28, op := Go.Op.call { callee := Go.Callee.value (Go.Operand.func 7), args := #[Go.Operand.tmp 23, Go.Operand.tmp 25, Go.Operand.tmp 27], argTypes := #[24, 24, 25] }, type := 29, pos := _, after := _, guard := none } : Oper)) rfl (fun KK hK => ?_) (AllReadyH.cons (o := ({ dst := some 7, op := Go.Op.alloc 24, type := 0, pos := _, after := _, guard := none } : Oper)) rfl (fun KK hK => ?_) AllReadyH.nil))
             · have hpz := hBc
               have hf9 := hF.lt
               go_simp
               refine (HSE.out _ _ _ _ (bcat2 hB1 hBc) hA hH hL).mono ?_
               rintro x4 U4 ⟨r1, r2, r3, pb, rfl, hR, hpb, hl4⟩
               have hBc := bcat2 hBc hl4
               have hfp : GD = true → pb ≠ fb := fun h => by have := hpb h; omega
               have hF := blk_below hF hl4
               clear hA hH hL hpz
               try go_wp2_with fail
               refine hK.out _ _ (hS _ hBc) (fun hHeld => ?_)
               clear hK
               try simp only [Act.put, List.setIfInBounds_toArray, List.set_cons_zero, List.set_cons_succ]
               refine wpAnyH_take (i := 7) (oi := ({ dst := some 21, op := Go.Op.move (Go.Operand.tmp 28), type := 29, pos := _, after := _, guard := none } : Oper)) (v := ?_) rfl (by kernel_rfl) (by kernel_rfl) (by kernel_rfl) (fun _ _ _ h => HPN.out _ _ _ _ _ h) (Or.inl ⟨by rfl, ?_⟩) (by assumption) ?_
               rotate_left
               · (intro w hSw; (try dsimp only at hSw); go_simp; try with_reducible rfl)
               simp only [Act.put, List.setIfInBounds_toArray, List.set_cons_zero, List.set_cons_succ]
               refine wpAnyH_take (i := 8) (oi := ({ dst := some 29, op := Go.Op.extract (Go.Operand.tmp 21) 0, type := 24, pos := _, after := _, guard := none } : Oper)) (v := ?_) rfl (by kernel_rfl) (by kernel_rfl) (by kernel_rfl) (fun _ _ _ h => HPN.out _ _ _ _ _ h) (Or.inl ⟨by rfl, ?_⟩) (by assumption) ?_
               rotate_left
               · (intro w hSw; (try dsimp only at hSw); go_simp; try with_reducible rfl)
               simp only [Act.put, List.setIfInBounds_toArray, List.set_cons_zero, List.set_cons_succ]
               refine wpAnyH_take (i := 9) (oi := ({ dst := some 30, op := Go.Op.extract (Go.Operand.tmp 21) 1, type := 28, pos := _, after := _, guard := none } : Oper)) (v := ?_) rfl (by kernel_rfl) (by kernel_rfl) (by kernel_rfl) (fun _ _ _ h => HPN.out _ _ _ _ _ h) (Or.inl ⟨by rfl, ?_⟩) (by assumption) ?_
               rotate_left
               · (intro w hSw; (try dsimp only at hSw); go_simp; try with_reducible rfl)
               simp only [Act.put, List.setIfInBounds_toArray, List.set_cons_zero, List.set_cons_succ]
               refine wpAnyH_ready (rs := [10]) (by kernel_rfl) (by simp) (AllReadyH.cons (o := ({ dst := some 7, op := Go.Op.alloc 24, type := 0, pos := _, after := _, guard := none } : Oper)) rfl (fun KK hK => ?_) AllReadyH.nil)
               go_simp
               have hgeG : w1.heap.size ≤ U4.heap.size := hBc.size
               have haG := balloc U4 (.cells #[.int .i64 0, .slice none 0 0] 24)
               have hBc := bcat2 hBc haG
               have hgp : GD = true → pb ≠ U4.heap.size := fun h => by have := HRL.out _ _ _ hR h; omega
               have hlt9 := hF.lt
               have hR := HRB.out _ _ _ _ hR haG
               have hF := blk_below hF haG
               have hG := blk0 (w := U4) (T := 24) (.int .i64 0) (.slice none 0 0)
               refine hK.out _ _ (hS _ hBc) (fun hHeld => ?_)
               clear hK
               try simp only [Act.put, List.setIfInBounds_toArray, List.set_cons_zero, List.set_cons_succ]
               generalize U4.alloc (.cells #[.int .i64 0, .slice none 0 0] 24) = WAg at *
               generalize U4.heap.size = gb at *
               have hne : gb ≠ fb := by omega
               refine wpAnyH_ready (rs := [12]) (by kernel_rfl) (by simp) (AllReadyH.cons (o := ({ dst := none, op := Go.Op.store 24 (Go.Operand.tmp 7) (Go.Operand.tmp 29), type := 0, pos := _, after := _, guard := none } : Oper)) rfl (fun KK hK => ?_) AllReadyH.nil)
               obtain ⟨z0, z1, z2, z3⟩ := hG.two
               go_simp
               have hBc := (hBc.setCell (p := ⟨gb, 0, none⟩) hgeG (.int .i64 GN)).setCell (p := ⟨gb, 1, none⟩) hgeG (.slice r1 r2 r3)
               have hG : Blk _ gb 24 [.int .i64 GN, .slice r1 r2 r3] := (hG.set 0 (.int .i64 GN)).set 1 (.slice r1 r2 r3)
               have hF := (hF.other (p := ⟨gb, 0, none⟩) (fun h => hne h.symm) (.int .i64 GN)).other (p := ⟨gb, 1, none⟩) (fun h => hne h.symm) (.slice r1 r2 r3)
               have hR := HRS.out _ _ _ gb 1 (.slice r1 r2 r3) (HRS.out _ _ _ gb 0 (.int .i64 GN) hR hgp) hgp
               refine hK.out _ _ (hS _ hBc) (fun hHeld => ?_)
               clear hK
               try simp only [Act.put, List.setIfInBounds_toArray, List.set_cons_zero, List.set_cons_succ]
               clear z0 z1 z2 z3
               generalize (WAg.setCell ⟨gb, 0, none⟩ (.int .i64 GN)).setCell ⟨gb, 1, none⟩ (.slice r1 r2 r3) = WG at *
               refine wpAnyH_ready (rs := [13]) (by kernel_rfl) (by simp) (AllReadyH.cons (o := ({ dst := none, op := Go.Op.store 28 (Go.Operand.tmp 8) (Go.Operand.tmp 30), type := 0, pos := _, after := _, guard := none } : Oper)) rfl (fun KK hK => ?_) AllReadyH.nil)
               obtain ⟨z0, z1, z2, z3⟩ := hF.two
               go_simp
               have hBc := (hBc.setCell (p := ⟨fb, 0, none⟩) hgeF (.int .i64 sc)).setCell (p := ⟨fb, 1, none⟩) hgeF (.int .i64 si)
               have hF : Blk _ fb 28 [.int .i64 sc, .int .i64 si] := (hF.set 0 (.int .i64 sc)).set 1 (.int .i64 si)
               have hG := (hG.other (p := ⟨fb, 0, none⟩) hne (.int .i64 sc)).other (p := ⟨fb, 1, none⟩) hne (.int .i64 si)
               have hR := HRS.out _ _ _ fb 1 (.int .i64 si) (HRS.out _ _ _ fb 0 (.int .i64 sc) hR hfp) hfp
               refine hK.out _ _ (hS _ hBc) (fun hHeld => ?_)
               clear hK
               try simp only [Act.put, List.setIfInBounds_toArray, List.set_cons_zero, List.set_cons_succ]
               clear z0 z1 z2 z3
               refine wpAnyH_done (by kernel_rfl) ?_ _
               go_wp2_with fail
               exact HQ.out gb fb pb r1 r2 r3 a1 a2 a3 b1 b2 b3 k1 k2 k3 _ hG hF hR hBc
             go_simp
             have hgeG : w1.heap.size ≤ U3.heap.size := hBc.size
             have haG := balloc U3 (.cells #[.int .i64 0, .slice none 0 0] 24)
             have hBc := bcat2 hBc haG
             have hlt9 := hF.lt
             have hA := HAU.out _ _ _ hA haG
             have hH := HHU.out _ _ _ hH haG
             have hL := HLU.out _ _ _ hL haG
             have hF := blk_below hF haG
             have hG := blk0 (w := U3) (T := 24) (.int .i64 0) (.slice none 0 0)
             refine hK.out _ _ (hS _ hBc) (fun hHeld => ?_)
             clear hK
             try simp only [Act.put, List.setIfInBounds_toArray, List.set_cons_zero, List.set_cons_succ]
             generalize U3.alloc (.cells #[.int .i64 0, .slice none 0 0] 24) = WAg at *
             generalize U3.heap.size = gb at *
             have hne : gb ≠ fb := by omega
             refine wpAnyH_ready (rs := [6]) (by kernel_rfl) (by simp) (AllReadyH.cons (o := ({ dst := some 28, op := Go.Op.call { callee := Go.Callee.value (Go.Operand.func 7), args := #[Go.Operand.tmp 23, Go.Operand.tmp 25, Go.Operand.tmp 27], argTypes := #[24, 24, 25] }, type := 29, pos := _, after := _, guard := none } : Oper)) rfl (fun KK hK => ?_) AllReadyH.nil)
             have hpz := hBc
             have hg9 := hG.lt
             have hf9 := hF.lt
             go_simp
             refine (HSE.out _ _ _ _ (bcat2 hB1 hBc) hA hH hL).mono ?_
             rintro x4 U4 ⟨r1, r2, r3, pb, rfl, hR, hpb, hl4⟩
             have hBc := bcat2 hBc hl4
             have hgp : GD = true → pb ≠ gb := fun h => by have := hpb h; omega
             have hfp : GD = true → pb ≠ fb := fun h => by have := hpb h; omega
             have hG := blk_below hG hl4
             have hF := blk_below hF hl4
             clear hA hH hL hpz
             try go_wp2_with fail
             refine hK.out _ _ (hS _ hBc) (fun hHeld => ?_)
             clear hK
             try simp only [Act.put, List.setIfInBounds_toArray, List.set_cons_zero, List.set_cons_succ]
             refine wpAnyH_take (i := 7) (oi := ({ dst := some 21, op := Go.Op.move (Go.Operand.tmp 28), type := 29, pos := _, after := _, guard := none } : Oper)) (v := ?_) rfl (by kernel_rfl) (by kernel_rfl) (by kernel_rfl) (fun _ _ _ h => HPN.out _ _ _ _ _ h) (Or.inl ⟨by rfl, ?_⟩) (by assumption) ?_
             rotate_left
             · (intro w hSw; (try dsimp only at hSw); go_simp; try with_reducible rfl)
             simp only [Act.put, List.setIfInBounds_toArray, List.set_cons_zero, List.set_cons_succ]
             refine wpAnyH_take (i := 8) (oi := ({ dst := some 29, op := Go.Op.extract (Go.Operand.tmp 21) 0, type := 24, pos := _, after := _, guard := none } : Oper)) (v := ?_) rfl (by kernel_rfl) (by kernel_rfl) (by kernel_rfl) (fun _ _ _ h => HPN.out _ _ _ _ _ h) (Or.inl ⟨by rfl, ?_⟩) (by assumption) ?_
             rotate_left
             · (intro w hSw; (try dsimp only at hSw); go_simp; try with_reducible rfl)
             simp only [Act.put, List.setIfInBounds_toArray, List.set_cons_zero, List.set_cons_succ]
             refine wpAnyH_take (i := 9) (oi := ({ dst := some 30, op := Go.Op.extract (Go.Operand.tmp 21) 1, type := 28, pos := _, after := _, guard := none } : Oper)) (v := ?_) rfl (by kernel_rfl) (by kernel_rfl) (by kernel_rfl) (fun _ _ _ h => HPN.out _ _ _ _ _ h) (Or.inl ⟨by rfl, ?_⟩) (by assumption) ?_
             rotate_left
             · (intro w hSw; (try dsimp only at hSw); go_simp; try with_reducible rfl)
             simp only [Act.put, List.setIfInBounds_toArray, List.set_cons_zero, List.set_cons_succ]
             refine wpAnyH_ready (rs := [12]) (by kernel_rfl) (by simp) (AllReadyH.cons (o := ({ dst := none, op := Go.Op.store 24 (Go.Operand.tmp 7) (Go.Operand.tmp 29), type := 0, pos := _, after := _, guard := none } : Oper)) rfl (fun KK hK => ?_) AllReadyH.nil)
             obtain ⟨z0, z1, z2, z3⟩ := hG.two
             go_simp
             have hBc := (hBc.setCell (p := ⟨gb, 0, none⟩) hgeG (.int .i64 GN)).setCell (p := ⟨gb, 1, none⟩) hgeG (.slice r1 r2 r3)
             have hG : Blk _ gb 24 [.int .i64 GN, .slice r1 r2 r3] := (hG.set 0 (.int .i64 GN)).set 1 (.slice r1 r2 r3)
             have hF := (hF.other (p := ⟨gb, 0, none⟩) (fun h => hne h.symm) (.int .i64 GN)).other (p := ⟨gb, 1, none⟩) (fun h => hne h.symm) (.slice r1 r2 r3)
             have hR := HRS.out _ _ _ gb 1 (.slice r1 r2 r3) (HRS.out _ _ _ gb 0 (.int .i64 GN) hR hgp) hgp
             refine hK.out _ _ (hS _ hBc) (fun hHeld => ?_)
             clear hK
             try simp only [Act.put, List.setIfInBounds_toArray, List.set_cons_zero, List.set_cons_succ]
             clear z0 z1 z2 z3
             generalize (U4.setCell ⟨gb, 0, none⟩ (.int .i64 GN)).setCell ⟨gb, 1, none⟩ (.slice r1 r2 r3) = WG at *
             refine wpAnyH_ready (rs := [13]) (by kernel_rfl) (by simp) (AllReadyH.cons (o := ({ dst := none, op := Go.Op.store 28 (Go.Operand.tmp 8) (Go.Operand.tmp 30), type := 0, pos := _, after := _, guard := none } : Oper)) rfl (fun KK hK => ?_) AllReadyH.nil)
             obtain ⟨z0, z1, z2, z3⟩ := hF.two
             go_simp
             have hBc := (hBc.setCell (p := ⟨fb, 0, none⟩) hgeF (.int .i64 sc)).setCell (p := ⟨fb, 1, none⟩) hgeF (.int .i64 si)
             have hF : Blk _ fb 28 [.int .i64 sc, .int .i64 si] := (hF.set 0 (.int .i64 sc)).set 1 (.int .i64 si)
             have hG := (hG.other (p := ⟨fb, 0, none⟩) hne (.int .i64 sc)).other (p := ⟨fb, 1, none⟩) hne (.int .i64 si)
             have hR := HRS.out _ _ _ fb 1 (.int .i64 si) (HRS.out _ _ _ fb 0 (.int .i64 sc) hR hfp) hfp
             refine hK.out _ _ (hS _ hBc) (fun hHeld => ?_)
             clear hK
             try simp only [Act.put, List.setIfInBounds_toArray, List.set_cons_zero, List.set_cons_succ]
             clear z0 z1 z2 z3
             refine wpAnyH_done (by kernel_rfl) ?_ _
             go_wp2_with fail
             exact HQ.out gb fb pb r1 r2 r3 a1 a2 a3 b1 b2 b3 k1 k2 k3 _ hG hF hR hBc
           go_simp
           have hgeG : w1.heap.size ≤ U2.heap.size := hBc.size
           have haG := balloc U2 (.cells #[.int .i64 0, .slice none 0 0] 24)
           have hBc := bcat2 hBc haG
           have hlt9 := hF.lt
           have hA := HAU.out _ _ _ hA haG
           have hH := HHU.out _ _ _ hH haG
           have hF := blk_below hF haG
           have hG := blk0 (w := U2) (T := 24) (.int .i64 0) (.slice none 0 0)
           refine hK.out _ _ (hS _ hBc) (fun hHeld => ?_)
           clear hK
           try simp only [Act.put, List.setIfInBounds_toArray, List.set_cons_zero, List.set_cons_succ]
           generalize U2.alloc (.cells #[.int .i64 0, .slice none 0 0] 24) = WAg at *
           generalize U2.heap.size = gb at *
           have hne : gb ≠ fb := by omega
           refine wpAnyH_ready (rs := [5]) (by kernel_rfl) (by simp) (AllReadyH.cons (o := ({ dst := some 27, op := Go.Op.call { callee := Go.Callee.value (Go.Operand.func 9), args := #[Go.Operand.tmp 26], argTypes := #[25] }, type := 25, pos := _, after := _, guard := none } : Oper)) rfl (fun KK hK => ?_) AllReadyH.nil)
           go_simp
           refine (HOL.out _ (bcat2 hB1 hBc)).mono ?_
           rintro x3 U3 ⟨k1, k2, k3, rfl, hL, hl3⟩
           have hBc := bcat2 hBc hl3
           have hA := HAU.out _ _ _ hA hl3
           have hH := HHU.out _ _ _ hH hl3
           have hG := blk_below hG hl3
           have hF := blk_below hF hl3
           try go_wp2_with fail
           refine hK.out _ _ (hS _ hBc) (fun hHeld => ?_)
           clear hK
           try simp only [Act.put, List.setIfInBounds_toArray, List.set_cons_zero, List.set_cons_succ]
           refine wpAnyH_ready (rs := [6]) (by kernel_rfl) (by simp) (AllReadyH.cons (o := ({ dst := some 28, op := Go.Op.call { callee := Go.Callee.value (Go.Operand.func 7), args := #[Go.Operand.tmp 23, Go.Operand.tmp 25, Go.Operand.tmp 27], argTypes := #[24, 24, 25] }, type := 29, pos := _, after := _, guard := none } : Oper)) rfl (fun KK hK => ?_) AllReadyH.nil)
           have hpz := hBc
           have hg9 := hG.lt
           have hf9 := hF.lt
           go_simp
           refine (HSE.out _ _ _ _ (bcat2 hB1 hBc) hA hH hL).mono ?_
           rintro x4 U4 ⟨r1, r2, r3, pb, rfl, hR, hpb, hl4⟩
           have hBc := bcat2 hBc hl4
           have hgp : GD = true → pb ≠ gb := fun h => by have := hpb h; omega
           have hfp : GD = true → pb ≠ fb := fun h => by have := hpb h; omega
           have hG := blk_below hG hl4
           have hF := blk_below hF hl4
           clear hA hH hL hpz
           try go_wp2_with fail
           refine hK.out _ _ (hS _ hBc) (fun hHeld => ?_)
           clear hK
           try simp only [Act.put, List.setIfInBounds_toArray, List.set_cons_zero, List.set_cons_succ]
           refine wpAnyH_take (i := 7) (oi := ({ dst := some 21, op := Go.Op.move (Go.Operand.tmp 28), type := 29, pos := _, after := _, guard := none } : Oper)) (v := ?_) rfl (by kernel_rfl) (by kernel_rfl) (by kernel_rfl) (fun _ _ _ h => HPN.out _ _ _ _ _ h) (Or.inl ⟨by rfl, ?_⟩) (by assumption) ?_
           rotate_left
           · (intro w hSw; (try dsimp only at hSw); go_simp; try with_reducible rfl)
           simp only [Act.put, List.setIfInBounds_toArray, List.set_cons_zero, List.set_cons_succ]
           refine wpAnyH_take (i := 8) (oi := ({ dst := some 29, op := Go.Op.extract (Go.Operand.tmp 21) 0, type := 24, pos := _, after := _, guard := none } : Oper)) (v := ?_) rfl (by kernel_rfl) (by kernel_rfl) (by kernel_rfl) (fun _ _ _ h => HPN.out _ _ _ _ _ h) (Or.inl ⟨by rfl, ?_⟩) (by assumption) ?_
           rotate_left
           · (intro w hSw; (try dsimp only at hSw); go_simp; try with_reducible rfl)
           simp only [Act.put, List.setIfInBounds_toArray, List.set_cons_zero, List.set_cons_succ]
           refine wpAnyH_take (i := 9) (oi := ({ dst := some 30, op := Go.Op.extract (Go.Operand.tmp 21) 1, type := 28, pos := _, after := _, guard := none } : Oper)) (v := ?_) rfl (by kernel_rfl) (by kernel_rfl) (by kernel_rfl) (fun _ _ _ h => HPN.out _ _ _ _ _ h) (Or.inl ⟨by rfl, ?_⟩) (by assumption) ?_
           rotate_left
           · (intro w hSw; (try dsimp only at hSw); go_simp; try with_reducible rfl)
           simp only [Act.put, List.setIfInBounds_toArray, List.set_cons_zero, List.set_cons_succ]
           refine wpAnyH_ready (rs := [12]) (by kernel_rfl) (by simp) (AllReadyH.cons (o := ({ dst := none, op := Go.Op.store 24 (Go.Operand.tmp 7) (Go.Operand.tmp 29), type := 0, pos := _, after := _, guard := none } : Oper)) rfl (fun KK hK => ?_) AllReadyH.nil)
           obtain ⟨z0, z1, z2, z3⟩ := hG.two
           go_simp
           have hBc := (hBc.setCell (p := ⟨gb, 0, none⟩) hgeG (.int .i64 GN)).setCell (p := ⟨gb, 1, none⟩) hgeG (.slice r1 r2 r3)
           have hG : Blk _ gb 24 [.int .i64 GN, .slice r1 r2 r3] := (hG.set 0 (.int .i64 GN)).set 1 (.slice r1 r2 r3)
           have hF := (hF.other (p := ⟨gb, 0, none⟩) (fun h => hne h.symm) (.int .i64 GN)).other (p := ⟨gb, 1, none⟩) (fun h => hne h.symm) (.slice r1 r2 r3)
           have hR := HRS.out _ _ _ gb 1 (.slice r1 r2 r3) (HRS.out _ _ _ gb 0 (.int .i64 GN) hR hgp) hgp
           refine hK.out _ _ (hS _ hBc) (fun hHeld => ?_)
           clear hK
           try simp only [Act.put, List.setIfInBounds_toArray, List.set_cons_zero, List.set_cons_succ]
           clear z0 z1 z2 z3
           generalize (U4.setCell ⟨gb, 0, none⟩ (.int .i64 GN)).setCell ⟨gb, 1, none⟩ (.slice r1 r2 r3) = WG at *
           refine wpAnyH_ready (rs := [13]) (by kernel_rfl) (by simp) (AllReadyH.cons (o := ({ dst := none, op := Go.Op.store 28 (Go.Operand.tmp 8) (Go.Operand.tmp 30), type := 0, pos := _, after := _, guard := none } : Oper)) rfl (fun KK hK => ?_) AllReadyH.nil)
           obtain ⟨z0, z1, z2, z3⟩ := hF.two
           go_simp
           have hBc := (hBc.setCell (p := ⟨fb, 0, none⟩) hgeF (.int .i64 sc)).setCell (p := ⟨fb, 1, none⟩) hgeF (.int .i64 si)
           have hF : Blk _ fb 28 [.int .i64 sc, .int .i64 si] := (hF.set 0 (.int .i64 sc)).set 1 (.int .i64 si)
           have hG := (hG.other (p := ⟨fb, 0, none⟩) hne (.int .i64 sc)).other (p := ⟨fb, 1, none⟩) hne (.int .i64 si)
           have hR := HRS.out _ _ _ fb 1 (.int .i64 si) (HRS.out _ _ _ fb 0 (.int .i64 sc) hR hfp) hfp
           refine hK.out _ _ (hS _ hBc) (fun hHeld => ?_)
           clear hK
           try simp only [Act.put, List.setIfInBounds_toArray, List.set_cons_zero, List.set_cons_succ]
           clear z0 z1 z2 z3
           refine wpAnyH_done (by kernel_rfl) ?_ _
           go_wp2_with fail
           exact HQ.out gb fb pb r1 r2 r3 a1 a2 a3 b1 b2 b3 k1 k2 k3 _ hG hF hR hBc
        · as_aux_lemma =>
           go_simp
           have hgeG : w1.heap.size ≤ WAf.heap.size := hBc.size
           have haG := balloc WAf (.cells #[.int .i64 0, .slice none 0 0] 24)
           have hBc := bcat2 hBc haG
           have hlt9 := hF.lt
           have hA := HAU.out _ _ _ hA haG
           have hF := blk_below hF haG
           have hG := blk0 (w := WAf) (T := 24) (.int .i64 0) (.slice none 0 0)
           refine hK.out _ _ (hS _ hBc) (fun hHeld => ?_)
           clear hK
           try simp only [Act.put, List.setIfInBounds_toArray, List.set_cons_zero, List.set_cons_succ]
           generalize WAf.alloc (.cells #[.int .i64 0, .slice none 0 0] 24) = WAg at *
           generalize WAf.heap.size = gb at *
           have hne : gb ≠ fb := by omega
           refine wpAnyH_ready (rs := [3]) (by kernel_rfl) (by simp) (AllReadyH.cons (o := ({ dst := some 25, op := Go.Op.call { callee := Go.Callee.value (Go.Operand.func 8), args := #[Go.Operand.tmp 24], argTypes := #[24] }, type := 24, pos := _, after := _, guard := none } : Oper)) rfl (fun KK hK => ?_) AllReadyH.nil)
           go_simp
           refine (HO2.out _ (bcat2 hB1 hBc)).mono ?_
           rintro x2 U2 ⟨b1, b2, b3, rfl, hH, hl2⟩
           have hBc := bcat2 hBc hl2
           have hA := HAU.out _ _ _ hA hl2
           have hG := blk_below hG hl2
           have hF := blk_below hF hl2
           try go_wp2_with fail
           refine hK.out _ _ (hS _ hBc) (fun hHeld => ?_)
           clear hK
           try simp only [Act.put, List.setIfInBounds_toArray, List.set_cons_zero, List.set_cons_succ]
           refine wpAnyH_ready (rs := [5]) (by kernel_rfl) (by simp) (AllReadyH.cons (o := ({ dst := some 27, op := Go.Op.call { callee := Go.Callee.value (Go.Operand.func 9), args := #[Go.Operand.tmp 26], argTypes := #[25] }, type := 25, pos := _, after := _, guard := none } : Oper)) rfl (fun KK hK => ?_) AllReadyH.nil)
           go_simp
           refine (HOL.out _ (bcat2 hB1 hBc)).mono ?_
           rintro x3 U3 ⟨k1, k2, k3, rfl, hL, hl3⟩
           have hBc := bcat2 hBc hl3
           have hA := HAU.out _ _ _ hA hl3
           have hH := HHU.out _ _ _ hH hl3
           have hG := blk_below hG hl3
           have hF := blk_below hF hl3
           try go_wp2_with fail
           refine hK.out _ _ (hS _ hBc) (fun hHeld => ?_)
           clear hK
           try simp only [Act.put, List.setIfInBounds_toArray, List.set_cons_zero, List.set_cons_succ]
           refine wpAnyH_ready (rs := [6]) (by kernel_rfl) (by simp) (AllReadyH.cons (o := ({ dst := some 28, op := Go.Op.call { callee := Go.Callee.value (Go.Operand.func 7), args := #[Go.Operand.tmp 23, Go.Operand.tmp 25, Go.Operand.tmp 27], argTypes := #[24, 24, 25] }, type := 29, pos := _, after := _, guard := none } : Oper)) rfl (fun KK hK => ?_) AllReadyH.nil)
           have hpz := hBc
           have hg9 := hG.lt
           have hf9 := hF.lt
           go_simp
           refine (HSE.out _ _ _ _ (bcat2 hB1 hBc) hA hH hL).mono ?_
           rintro x4 U4 ⟨r1, r2, r3, pb, rfl, hR, hpb, hl4⟩
           have hBc := bcat2 hBc hl4
           have hgp : GD = true → pb ≠ gb := fun h => by have := hpb h; omega
           have hfp : GD = true → pb ≠ fb := fun h => by have := hpb h; omega
           have hG := blk_below hG hl4
           have hF := blk_below hF hl4
           clear hA hH hL hpz
           try go_wp2_with fail
           refine hK.out _ _ (hS _ hBc) (fun hHeld => ?_)
           clear hK
           try simp only [Act.put, List.setIfInBounds_toArray, List.set_cons_zero, List.set_cons_succ]
           refine wpAnyH_take (i := 7) (oi := ({ dst := some 21, op := Go.Op.move (Go.Operand.tmp 28), type := 29, pos := _, after := _, guard := none } : Oper)) (v := ?_) rfl (by kernel_rfl) (by kernel_rfl) (by kernel_rfl) (fun _ _ _ h => HPN.out _ _ _ _ _ h) (Or.inl ⟨by rfl, ?_⟩) (by assumption) ?_
           rotate_left
           · (intro w hSw; (try dsimp only at hSw); go_simp; try with_reducible rfl)
           simp only [Act.put, List.setIfInBounds_toArray, List.set_cons_zero, List.set_cons_succ]
           refine wpAnyH_take (i := 8) (oi := ({ dst := some 29, op := Go.Op.extract (Go.Operand.tmp 21) 0, type := 24, pos := _, after := _, guard := none } : Oper)) (v := ?_) rfl (by kernel_rfl) (by kernel_rfl) (by kernel_rfl) (fun _ _ _ h => HPN.out _ _ _ _ _ h) (Or.inl ⟨by rfl, ?_⟩) (by assumption) ?_
           rotate_left
           · (intro w hSw; (try dsimp only at hSw); go_simp; try with_reducible rfl)
           simp only [Act.put, List.setIfInBounds_toArray, List.set_cons_zero, List.set_cons_succ]
           refine wpAnyH_take (i := 9) (oi := ({ dst := some 30, op := Go.Op.extract (Go.Operand.tmp 21) 1, type := 28, pos := _, after := _, guard := none } : Oper)) (v := ?_) rfl (by kernel_rfl) (by kernel_rfl) (by kernel_rfl) (fun _ _ _ h => HPN.out _ _ _ _ _ h) (Or.inl ⟨by rfl, ?_⟩) (by assumption) ?_
           rotate_left
           · (intro w hSw; (try dsimp only at hSw); go_simp; try with_reducible rfl)
           simp only [Act.put, List.setIfInBounds_toArray, List.set_cons_zero, List.set_cons_succ]
           refine wpAnyH_ready (rs := [12]) (by kernel_rfl) (by simp) (AllReadyH.cons (o := ({ dst := none, op := Go.Op.store 24 (Go.Operand.tmp 7) (Go.Operand.tmp 29), type := 0, pos := _, after := _, guard := none } : Oper)) rfl (fun KK hK => ?_) AllReadyH.nil)
           obtain ⟨z0, z1, z2, z3⟩ := hG.two
           go_simp
           have hBc := (hBc.setCell (p := ⟨gb, 0, none⟩) hgeG (.int .i64 GN)).setCell (p := ⟨gb, 1, none⟩) hgeG (.slice r1 r2 r3)
           have hG : Blk _ gb 24 [.int .i64 GN, .slice r1 r2 r3] := (hG.set 0 (.int .i64 GN)).set 1 (.slice r1 r2 r3)
           have hF := (hF.other (p := ⟨gb, 0, none⟩) (fun h => hne h.symm) (.int .i64 GN)).other (p := ⟨gb, 1, none⟩) (fun h => hne h.symm) (.slice r1 r2 r3)
           have hR := HRS.out _ _ _ gb 1 (.slice r1 r2 r3) (HRS.out _ _ _ gb 0 (.int .i64 GN) hR hgp) hgp
           refine hK.out _ _ (hS _ hBc) (fun hHeld => ?_)
           clear hK
           try simp only [Act.put, List.setIfInBounds_toArray, List.set_cons_zero, List.set_cons_succ]
           clear z0 z1 z2 z3
           generalize (U4.setCell ⟨gb, 0, none⟩ (.int .i64 GN)).setCell ⟨gb, 1, none⟩ (.slice r1 r2 r3) = WG at *
           refine wpAnyH_ready (rs := [13]) (by kernel_rfl) (by simp) (AllReadyH.cons (o := ({ dst := none, op := Go.Op.store 28 (Go.Operand.tmp 8) (Go.Operand.tmp 30), type := 0, pos := _, after := _, guard := none } : Oper)) rfl (fun KK hK => ?_) AllReadyH.nil)
           obtain ⟨z0, z1, z2, z3⟩ := hF.two
           go_simp
           have hBc := (hBc.setCell (p := ⟨fb, 0, none⟩) hgeF (.int .i64 sc)).setCell (p := ⟨fb, 1, none⟩) hgeF (.int .i64 si)
           have hF : Blk _ fb 28 [.int .i64 sc, .int .i64 si] := (hF.set 0 (.int .i64 sc)).set 1 (.int .i64 si)
           have hG := (hG.other (p := ⟨fb, 0, none⟩) hne (.int .i64 sc)).other (p := ⟨fb, 1, none⟩) hne (.int .i64 si)
           have hR := HRS.out _ _ _ fb 1 (.int .i64 si) (HRS.out _ _ _ fb 0 (.int .i64 sc) hR hfp) hfp
           refine hK.out _ _ (hS _ hBc) (fun hHeld => ?_)
           clear hK
           try simp only [Act.put, List.setIfInBounds_toArray, List.set_cons_zero, List.set_cons_succ]
           clear z0 z1 z2 z3
           refine wpAnyH_done (by kernel_rfl) ?_ _
           go_wp2_with fail
           exact HQ.out gb fb pb r1 r2 r3 a1 a2 a3 b1 b2 b3 k1 k2 k3 _ hG hF hR hBc
  · as_aux_lemma =>
     go_simp
     have hgeG : w1.heap.size ≤ wd.heap.size := hBc.size
     have haG := balloc wd (.cells #[.int .i64 0, .slice none 0 0] 24)
     have hBc := bcat2 hBc haG
     have hG := blk0 (w := wd) (T := 24) (.int .i64 0) (.slice none 0 0)
     refine hK.out _ _ (hS _ hBc) (fun hHeld => ?_)
     clear hK
     try simp only [Act.put, List.setIfInBounds_toArray, List.set_cons_zero, List.set_cons_succ]
     generalize wd.alloc (.cells #[.int .i64 0, .slice none 0 0] 24) = WAg at *
     generalize wd.heap.size = gb at *
     refine wpAnyH_ready (rs := [1, 11]) (by kernel_rfl) (by simp) (AllReadyH.cons (o := ({ dst := some 23, op := Go.Op.call { callee := Go.Callee.value (Go.Operand.func 8), args := #[Go.Operand.tmp 22], argTypes := #[24] }, type := 24, pos := _, after := _, guard := none } : Oper)) rfl (fun KK hK => ?_) (AllReadyH.cons (o := ({ dst := some 8, op := Go.Op.alloc 28, type := 0, pos := _, after := _, guard := none } : Oper)) rfl (fun KK hK => ?_) AllReadyH.nil))
     · as_aux_lemma =>
        go_simp
        refine (HO1.out _ (bcat2 hB1 hBc)).mono ?_
        rintro x1 U1 ⟨a1, a2, a3, rfl, hA, hl1⟩
        have hBc := bcat2 hBc hl1
        have hG := blk_below hG hl1
        try go_wp2_with fail
        refine hK.out _ _ (hS _ hBc) (fun hHeld => ?_)
        clear hK
        try simp only [Act.put, List.setIfInBounds_toArray, List.set_cons_zero, List.set_cons_succ]
        refine wpAnyH_ready (rs := [3, 11]) (by kernel_rfl) (by simp) (AllReadyH.cons (o := ({ dst := some 25, op := Go.Op.call { callee := Go.Callee.value (Go.Operand.func 8), args := #[Go.Operand.tmp 24], argTypes := #[24] }, type := 24, pos := _, after := _, guard := none } : Oper)) rfl (fun KK hK => ?_) (AllReadyH.cons (o := ({ dst := some 8, op := Go.Op.alloc 28, type := 0, pos := _, after := _, guard := none } : Oper)) rfl (fun KK hK => ?_) AllReadyH.nil))
        · as_aux_lemma =>
           go_simp
           refine (HO2.out _ (bcat2 hB1 hBc)).mono ?_
           rintro x2 U2 ⟨b1, b2, b3, rfl, hH, hl2⟩
           have hBc := bcat2 hBc hl2
           have hA := HAU.out _ _ _ hA hl2
           have hG := blk_below hG hl2
           try go_wp2_with fail
           refine hK.out _ _ (hS _ hBc) (fun hHeld => ?_)
           clear hK
           try simp only [Act.put, List.setIfInBounds_toArray, List.set_cons_zero, List.set_cons_succ]
           refine wpAnyH_ready (rs := [5, 11]) (by kernel_rfl) (by simp) (AllReadyH.cons (o := ({ dst := some 27, op := Go.Op.call { callee := Go.Callee.value (Go.Operand.func 9), args := #[Go.Operand.tmp 26], argTypes := #[25] }, type := 25, pos := _, after := _, guard := none } : Oper)) rfl (fun KK hK => ?_) (AllReadyH.cons (o := ({ dst := some 8, op := Go.Op.alloc 28, type := 0, pos := _, after := _, guard := none } : Oper)) rfl (fun KK hK => ?_) AllReadyH.nil))
           · go_simp
             refine (HOL.out _ (bcat2 hB1 hBc)).mono ?_
             rintro x3 U3 ⟨k1, k2, k3, rfl, hL, hl3⟩
             have hBc := bcat2 hBc hl3
             have hA := HAU.out _ _ _ hA hl3
             have hH := HHU.out _ _ _ hH hl3
             have hG := blk_below hG hl3
             try go_wp2_with fail
             refine hK.out _ _ (hS _ hBc) (fun hHeld => ?_)
             clear hK
             try simp only [Act.put, List.setIfInBounds_toArray, List.set_cons_zero, List.set_cons_succ]
             refine wpAnyH_ready (rs := [6, 11]) (by kernel_rfl) (by simp) (AllReadyH.cons (o := ({ dst := some 28, op := Go.Op.call { callee := Go.Callee.value (Go.Operand.func 7), args := #[Go.Operand.tmp 23, Go.Operand.tmp 25, Go.Operand.tmp 27], argTypes := #[24, 24, 25] }, type := 29, pos := _, after := _, guard := none } : Oper)) rfl (fun KK hK => ?_) (AllReadyH.cons (o := ({ dst := some 8, op := Go.Op.alloc 28, type := 0, pos := _, after := _, guard := none } : Oper)) rfl (fun KK hK => ?_) AllReadyH.nil))
             · have hpz := hBc
               have hg9 := hG.lt
               go_simp
               refine (HSE.out _ _ _ _ (bcat2 hB1 hBc) hA hH hL).mono ?_
               rintro x4 U4 ⟨r1, r2, r3, pb, rfl, hR, hpb, hl4⟩
               have hBc := bcat2 hBc hl4
               have hgp : GD = true → pb ≠ gb := fun h => by have := hpb h; omega
               have hG := blk_below hG hl4
               clear hA hH hL hpz
               try go_wp2_with fail
               refine hK.out _ _ (hS _ hBc) (fun hHeld => ?_)
               clear hK
               try simp only [Act.put, List.setIfInBounds_toArray, List.set_cons_zero, List.set_cons_succ]
               refine wpAnyH_take (i := 7) (oi := ({ dst := some 21, op := Go.Op.move (Go.Operand.tmp 28), type := 29, pos := _, after := _, guard := none } : Oper)) (v := ?_) rfl (by kernel_rfl) (by kernel_rfl) (by kernel_rfl) (fun _ _ _ h => HPN.out _ _ _ _ _ h) (Or.inl ⟨by rfl, ?_⟩) (by assumption) ?_
               rotate_left
               · (intro w hSw; (try dsimp only at hSw); go_simp; try with_reducible rfl)
               simp only [Act.put, List.setIfInBounds_toArray, List.set_cons_zero, List.set_cons_succ]
               refine wpAnyH_take (i := 8) (oi := ({ dst := some 29, op := Go.Op.extract (Go.Operand.tmp 21) 0, type := 24, pos := _, after := _, guard := none } : Oper)) (v := ?_) rfl (by kernel_rfl) (by kernel_rfl) (by kernel_rfl) (fun _ _ _ h => HPN.out _ _ _ _ _ h) (Or.inl ⟨by rfl, ?_⟩) (by assumption) ?_
               rotate_left
               · (intro w hSw; (try dsimp only at hSw); go_simp; try with_reducible rfl)
               simp only [Act.put, List.setIfInBounds_toArray, List.set_cons_zero, List.set_cons_succ]
               refine wpAnyH_take (i := 9) (oi := ({ dst := some 30, op := Go.Op.extract (Go.Operand.tmp 21) 1, type := 28, pos := _, after := _, guard := none } : Oper)) (v := ?_) rfl (by kernel_rfl) (by kernel_rfl) (by kernel_rfl) (fun _ _ _ h => HPN.out _ _ _ _ _ h) (Or.inl ⟨by rfl, ?_⟩) (by assumption) ?_
               rotate_left
               · (intro w hSw; (try dsimp only at hSw); go_simp; try with_reducible rfl)
               simp only [Act.put, List.setIfInBounds_toArray, List.set_cons_zero, List.set_cons_succ]
               refine wpAnyH_ready (rs := [11]) (by kernel_rfl) (by simp) (AllReadyH.cons (o := ({ dst := some 8, op := Go.Op.alloc 28, type := 0, pos := _, after := _, guard := none } : Oper)) rfl (fun KK hK => ?_) AllReadyH.nil)
               go_simp
               have hgeF : w1.heap.size ≤ U4.heap.size := hBc.size
               have haF := balloc U4 (.cells #[.int .i64 0, .int .i64 0] 28)
               have hBc := bcat2 hBc haF
               have hfp : GD = true → pb ≠ U4.heap.size := fun h => by have := HRL.out _ _ _ hR h; omega
               have hlt9 := hG.lt
               have hR := HRB.out _ _ _ _ hR haF
               have hG := blk_below hG haF
               have hF := blk0 (w := U4) (T := 28) (.int .i64 0) (.int .i64 0)
               refine hK.out _ _ (hS _ hBc) (fun hHeld => ?_)
               clear hK
               try simp only [Act.put, List.setIfInBounds_toArray, List.set_cons_zero, List.set_cons_succ]
               generalize U4.alloc (.cells #[.int .i64 0, .int .i64 0] 28) = WAf at *
               generalize U4.heap.size = fb at *
               have hne : gb ≠ fb := by omega
               refine wpAnyH_ready (rs := [12]) (by kernel_rfl) (by simp) (AllReadyH.cons (o := ({ dst := none, op := Go.Op.store 24 (Go.Operand.tmp 7) (Go.Operand.tmp 29), type := 0, pos := _, after := _, guard := none } : Oper)) rfl (fun KK hK => ?_) AllReadyH.nil)
               obtain ⟨z0, z1, z2, z3⟩ := hG.two
               go_simp
               have hBc := (hBc.setCell (p := ⟨gb, 0, none⟩) hgeG (.int .i64 GN)).setCell (p := ⟨gb, 1, none⟩) hgeG (.slice r1 r2 r3)
               have hG : Blk _ gb 24 [.int .i64 GN, .slice r1 r2 r3] := (hG.set 0 (.int .i64 GN)).set 1 (.slice r1 r2 r3)
               have hF := (hF.other (p := ⟨gb, 0, none⟩) (fun h => hne h.symm) (.int .i64 GN)).other (p := ⟨gb, 1, none⟩) (fun h => hne h.symm) (.slice r1 r2 r3)
               have hR := HRS.out _ _ _ gb 1 (.slice r1 r2 r3) (HRS.out _ _ _ gb 0 (.int .i64 GN) hR hgp) hgp
               refine hK.out _ _ (hS _ hBc) (fun hHeld => ?_)
               clear hK
               try simp only [Act.put, List.setIfInBounds_toArray, List.set_cons_zero, List.set_cons_succ]
               clear z0 z1 z2 z3
               generalize (WAf.setCell ⟨gb, 0, none⟩ (.int .i64 GN)).setCell ⟨gb, 1, none⟩ (.slice r1 r2 r3) = WG at *
               refine wpAnyH_ready (rs := [13]) (by kernel_rfl) (by simp) (AllReadyH.cons (o := ({ dst := none, op := Go.Op.store 28 (Go.Operand.tmp 8) (Go.Operand.tmp 30), type := 0, pos := _, after := _, guard := none } : Oper)) rfl (fun KK hK => ?_) AllReadyH.nil)
               obtain ⟨z0, z1, z2, z3⟩ := hF.two
               go_simp
               have hBc := (hBc.setCell (p := ⟨fb, 0, none⟩) hgeF (.int .i64 sc)).setCell (p := ⟨fb, 1, none⟩) hgeF (.int .i64 si)
               have hF : Blk _ fb 28 [.int .i64 sc, .int .i64 si] := (hF.set 0 (.int .i64 sc)).set 1 (.int .i64 si)
               have hG := (hG.other (p := ⟨fb, 0, none⟩) hne (.int .i64 sc)).other (p := ⟨fb, 1, none⟩) hne (.int .i64 si)
               have hR := HRS.out _ _ _ fb 1 (.int .i64 si) (HRS.out _ _ _ fb 0 (.int .i64 sc) hR hfp) hfp
               refine hK.out _ _ (hS _ hBc) (fun hHeld => ?_)
               clear hK
               try simp only [Act.put, List.setIfInBounds_toArray, List.set_cons_zero, List.set_cons_succ]
               clear z0 z1 z2 z3
               refine wpAnyH_done (by kernel_rfl) ?_ _
               go_wp2_with fail
               exact HQ.out gb fb pb r1 r2 r3 a1 a2 a3 b1 b2 b3 k1 k2 k3 _ hG hF hR hBc
             go_simp
             have hgeF : w1.heap.size ≤ U3.heap.size := hBc.size
             have haF := balloc U3 (.cells #[.int .i64 0, .int .i64 0] 28)
             have hBc := bcat2 hBc haF
             have hlt9 := hG.lt
             have hA := HAU.out _ _ _ hA haF
             have hH := HHU.out _ _ _ hH haF
             have hL := HLU.out _ _ _ hL haF
             have hG := blk_below hG haF
             have hF := blk0 (w := U3) (T := 28) (.int .i64 0) (.int .i64 0)
             refine hK.out _ _ (hS _ hBc) (fun hHeld => ?_)
             clear hK
             try simp only [Act.put, List.setIfInBounds_toArray, List.set_cons_zero, List.set_cons_succ]
             generalize U3.alloc (.cells #[.int .i64 0, .int .i64 0] 28) = WAf at *
             generalize U3.heap.size = fb at *
             have hne : gb ≠ fb := by omega
             refine wpAnyH_ready (rs := [6]) (by kernel_rfl) (by simp) (AllReadyH.cons (o := ({ dst := some 28, op := Go.Op.call { callee := Go.Callee.value (Go.Operand.func 7), args := #[Go.Operand.tmp 23, Go.Operand.tmp 25, Go.Operand.tmp 27], argTypes := #[24, 24, 25] }, type := 29, pos := _, after := _, guard := none } : Oper)) rfl (fun KK hK => ?_) AllReadyH.nil)
             have hpz := hBc
             have hg9 := hG.lt
             have hf9 := hF.lt
             go_simp
             refine (HSE.out _ _ _ _ (bcat2 hB1 hBc) hA hH hL).mono ?_
             rintro x4 U4 ⟨r1, r2, r3, pb, rfl, hR, hpb, hl4⟩
             have hBc := bcat2 hBc hl4
             have hgp : GD = true → pb ≠ gb := fun h => by have := hpb h; omega
             have hfp : GD = true → pb ≠ fb := fun h => by have := hpb h; omega
             have hG := blk_below hG hl4
             have hF := blk_below hF hl4
             clear hA hH hL hpz
             try go_wp2_with fail
             refine hK.out _ _ (hS _ hBc) (fun hHeld => ?_)
             clear hK
             try simp only [Act.put, List.setIfInBounds_toArray, List.set_cons_zero, List.set_cons_succ]
             refine wpAnyH_take (i := 7) (oi := ({ dst := some 21, op := Go.Op.move (Go.Operand.tmp 28), type := 29, pos := _, after := _, guard := none } : Oper)) (v := ?_) rfl (by kernel_rfl) (by kernel_rfl) (by kernel_rfl) (fun _ _ _ h => HPN.out _ _ _ _ _ h) (Or.inl ⟨by rfl, ?_⟩) (by assumption) ?_
             rotate_left
             · (intro w hSw; (try dsimp only at hSw); go_simp; try with_reducible rfl)
             simp only [Act.put, List.setIfInBounds_toArray, List.set_cons_zero, List.set_cons_succ]
             refine wpAnyH_take (i := 8) (oi := ({ dst := some 29, op := Go.Op.extract (Go.Operand.tmp 21) 0, type := 24, pos := _, after := _, guard := none } : Oper)) (v := ?_) rfl (by kernel_rfl) (by kernel_rfl) (by kernel_rfl) (fun _ _ _ h => HPN.out _ _ _ _ _ h) (Or.inl ⟨by rfl, ?_⟩) (by assumption) ?_
             rotate_left
             · (intro w hSw; (try dsimp only at hSw); go_simp; try with_reducible rfl)
             simp only [Act.put, List.setIfInBounds_toArray, List.set_cons_zero, List.set_cons_succ]
             refine wpAnyH_take (i := 9) (oi := ({ dst := some 30, op := Go.Op.extract (Go.Operand.tmp 21) 1, type := 28, pos := _, after := _, guard := none } : Oper)) (v := ?_) rfl (by kernel_rfl) (by kernel_rfl) (by kernel_rfl) (fun _ _ _ h => HPN.out _ _ _ _ _ h) (Or.inl ⟨by rfl, ?_⟩) (by assumption) ?_
             rotate_left
             · (intro w hSw; (try dsimp only at hSw); go_simp; try with_reducible rfl)
             simp only [Act.put, List.setIfInBounds_toArray, List.set_cons_zero, List.set_cons_succ]
             refine wpAnyH_ready (rs := [12]) (by kernel_rfl) (by simp) (AllReadyH.cons (o := ({ dst := none, op := Go.Op.store 24 (Go.Operand.tmp 7) (Go.Operand.tmp 29), type := 0, pos := _, after := _, guard := none } : Oper)) rfl (fun KK hK => ?_) AllReadyH.nil)
             obtain ⟨z0, z1, z2, z3⟩ := hG.two
             go_simp
             have hBc := (hBc.setCell (p := ⟨gb, 0, none⟩) hgeG (.int .i64 GN)).setCell (p := ⟨gb, 1, none⟩) hgeG (.slice r1 r2 r3)
             have hG : Blk _ gb 24 [.int .i64 GN, .slice r1 r2 r3] := (hG.set 0 (.int .i64 GN)).set 1 (.slice r1 r2 r3)
             have hF := (hF.other (p := ⟨gb, 0, none⟩) (fun h => hne h.symm) (.int .i64 GN)).other (p := ⟨gb, 1, none⟩) (fun h => hne h.symm) (.slice r1 r2 r3)
             have hR := HRS.out _ _ _ gb 1 (.slice r1 r2 r3) (HRS.out _ _ _ gb 0 (.int .i64 GN) hR hgp) hgp
             refine hK.out _ _ (hS _ hBc) (fun hHeld => ?_)
             clear hK
             try simp only [Act.put, List.setIfInBounds_toArray, List.set_cons_zero, List.set_cons_succ]
             clear z0 z1 z2 z3
             generalize (U4.setCell ⟨gb, 0, none⟩ (.int .i64 GN)).setCell ⟨gb, 1, none⟩ (.slice r1 r2 r3) = WG at *
             refine wpAnyH_ready (rs := [13]) (by kernel_rfl) (by simp) (AllReadyH.cons (o := ({ dst := none, op := Go.Op.store 28 (Go.Operand.tmp 8) (Go.Operand.tmp 30), type := 0, pos := _, after := _, guard := none } : Oper)) rfl (fun KK hK => ?_) AllReadyH.nil)
             obtain ⟨z0, z1, z2, z3⟩ := hF.two
             go_simp
             have hBc := (hBc.setCell (p := ⟨fb, 0, none⟩) hgeF (.int .i64 sc)).setCell (p := ⟨fb, 1, none⟩) hgeF (.int .i64 si)
             have hF : Blk _ fb 28 [.int .i64 sc, .int .i64 si] := (hF.set 0 (.int .i64 sc)).set 1 (.int .i64 si)
             have hG := (hG.other (p := ⟨fb, 0, none⟩) hne (.int .i64 sc)).other (p := ⟨fb, 1, none⟩) hne (.int .i64 si)
             have hR := HRS.out _ _ _ fb 1 (.int .i64 si) (HRS.out _ _ _ fb 0 (.int .i64 sc) hR hfp) hfp
             refine hK.out _ _ (hS _ hBc) (fun hHeld => ?_)
             clear hK
             try simp only [Act.put, List.setIfInBounds_toArray, List.set_cons_zero, List.set_cons_succ]
             clear z0 z1 z2 z3
             refine wpAnyH_done (by kernel_rfl) ?_ _
             go_wp2_with fail
             exact HQ.out gb fb pb r1 r2 r3 a1 a2 a3 b1 b2 b3 k1 k2 k3 _ hG hF hR hBc
           go_simp
           have hgeF : w1.heap.size ≤ U2.heap.size := hBc.size
           have haF := balloc U2 (.cells #[.int .i64 0, .int .i64 0] 28)
           have hBc := bcat2 hBc haF
           have hlt9 := hG.lt
           have hA := HAU.out _ _ _ hA haF
           have hH := HHU.out _ _ _ hH haF
           have hG := blk_below hG haF
           have hF := blk0 (w := U2) (T := 28) (.int .i64 0) (.int .i64 0)
           refine hK.out _ _ (hS _ hBc) (fun hHeld => ?_)
           clear hK
           try simp only [Act.put, List.setIfInBounds_toArray, List.set_cons_zero, List.set_cons_succ]
           generalize U2.alloc (.cells #[.int .i64 0, .int .i64 0] 28) = WAf at *
           generalize U2.heap.size = fb at *
           have hne : gb ≠ fb := by omega
           refine wpAnyH_ready (rs := [5]) (by kernel_rfl) (by simp) (AllReadyH.cons (o := ({ dst := some 27, op := Go.Op.call { callee := Go.Callee.value (Go.Operand.func 9), args := #[Go.Operand.tmp 26], argTypes := #[25] }, type := 25, pos := _, after := _, guard := none } : Oper)) rfl (fun KK hK => ?_) AllReadyH.nil)
           go_simp
           refine (HOL.out _ (bcat2 hB1 hBc)).mono ?_
           rintro x3 U3 ⟨k1, k2, k3, rfl, hL, hl3⟩
           have hBc := bcat2 hBc hl3
           have hA := HAU.out _ _ _ hA hl3
           have hH := HHU.out _ _ _ hH hl3
           have hG := blk_below hG hl3
           have hF := blk_below hF hl3
           try go_wp2_with fail
           refine hK.out _ _ (hS _ hBc) (fun hHeld => ?_)
           clear hK
           try simp only [Act.put, List.setIfInBounds_toArray, List.set_cons_zero, List.set_cons_succ]
           refine wpAnyH_ready (rs := [6]) (by kernel_rfl) (by simp) (AllReadyH.cons (o := ({ dst := some 28, op := Go.Op.call { callee := Go.Callee.value (Go.Operand.func 7), args := #[Go.Operand.tmp 23, Go.Operand.tmp 25, Go.Operand.tmp 27], argTypes := #[24, 24, 25] }, type := 29, pos := _, after := _, guard := none } : Oper)) rfl (fun KK hK => ?_) AllReadyH.nil)
           have hpz := hBc
           have hg9 := hG.lt
           have hf9 := hF.lt
           go_simp
           refine (HSE.out _ _ _ _ (bcat2 hB1 hBc) hA hH hL).mono ?_
           rintro x4 U4 ⟨r1, r2, r3, pb, rfl, hR, hpb, hl4⟩
           have hBc := bcat2 hBc hl4
           have hgp : GD = true → pb ≠ gb := fun h => by have := hpb h; omega
           have hfp : GD = true → pb ≠ fb := fun h => by have := hpb h; omega
           have hG := blk_below hG hl4
           have hF := blk_below hF hl4
           clear hA hH hL hpz
           try go_wp2_with fail
           refine hK.out _ _ (hS _ hBc) (fun hHeld => ?_)
           clear hK
           try simp only [Act.put, List.setIfInBounds_toArray, List.set_cons_zero, List.set_cons_succ]
           refine wpAnyH_take (i := 7) (oi := ({ dst := some 21, op := Go.Op.move (Go.Operand.tmp 28), type := 29, pos := _, after := _, guard := none } : Oper)) (v := ?_) rfl (by kernel_rfl) (by kernel_rfl) (by kernel_rfl) (fun _ _ _ h => HPN.out _ _ _ _ _ h) (Or.inl ⟨by rfl, ?_⟩) (by assumption) ?_
           rotate_left
           · (intro w hSw; (try dsimp only at hSw); go_simp; try with_reducible rfl)
           simp only [Act.put, List.setIfInBounds_toArray, List.set_cons_zero, List.set_cons_succ]
           refine wpAnyH_take (i := 8) (oi := ({ dst := some 29, op := Go.Op.extract (Go.Operand.tmp 21) 0, type := 24, pos := _, after := _, guard := none } : Oper)) (v := ?_) rfl (by kernel_rfl) (by kernel_rfl) (by kernel_rfl) (fun _ _ _ h => HPN.out _ _ _ _ _ h) (Or.inl ⟨by rfl, ?_⟩) (by assumption) ?_
           rotate_left
           · (intro w hSw; (try dsimp only at hSw); go_simp; try with_reducible rfl)
           simp only [Act.put, List.setIfInBounds_toArray, List.set_cons_zero, List.set_cons_succ]
           refine wpAnyH_take (i := 9) (oi := ({ dst := some 30, op := Go.Op.extract (Go.Operand.tmp 21) 1, type := 28, pos := _, after := _, guard := none } : Oper)) (v := ?_) rfl (by kernel_rfl) (by kernel_rfl) (by kernel_rfl) (fun _ _ _ h => HPN.out _ _ _ _ _ h) (Or.inl ⟨by rfl, ?_⟩) (by assumption) ?_
           rotate_left
           · (intro w hSw; (try dsimp only at hSw); go_simp; try with_reducible rfl)
           simp only [Act.put, List.setIfInBounds_toArray, List.set_cons_zero, List.set_cons_succ]
           refine wpAnyH_ready (rs := [12]) (by kernel_rfl) (by simp) (AllReadyH.cons (o := ({ dst := none, op := Go.Op.store 24 (Go.Operand.tmp 7) (Go.Operand.tmp 29), type := 0, pos := _, after := _, guard := none } : Oper)) rfl (fun KK hK => ?_) AllReadyH.nil)
           obtain ⟨z0, z1, z2, z3⟩ := hG.two
           go_simp
           have hBc := (hBc.setCell (p := ⟨gb, 0, none⟩) hgeG (.int .i64 GN)).setCell (p := ⟨gb, 1, none⟩) hgeG (.slice r1 r2 r3)
           have hG : Blk _ gb 24 [.int .i64 GN, .slice r1 r2 r3] := (hG.set 0 (.int .i64 GN)).set 1 (.slice r1 r2 r3)
           have hF := (hF.other (p := ⟨gb, 0, none⟩) (fun h => hne h.symm) (.int .i64 GN)).other (p := ⟨gb, 1, none⟩) (fun h => hne h.symm) (.slice r1 r2 r3)
           have hR := HRS.out _ _ _ gb 1 (.slice r1 r2 r3) (HRS.out _ _ _ gb 0 (.int .i64 GN) hR hgp) hgp
           refine hK.out _ _ (hS _ hBc) (fun hHeld => ?_)
           clear hK
           try simp only [Act.put, List.setIfInBounds_toArray, List.set_cons_zero, List.set_cons_succ]
           clear z0 z1 z2 z3
           generalize (U4.setCell ⟨gb, 0, none⟩ (.int .i64 GN)).setCell ⟨gb, 1, none⟩ (.slice r1 r2 r3) = WG at *
           refine wpAnyH_ready (rs := [13]) (by kernel_rfl) (by simp) (AllReadyH.cons (o := ({ dst := none, op := Go.Op.store 28 (Go.Operand.tmp 8) (Go.Operand.tmp 30), type := 0, pos := _, after := _, guard := none } : Oper)) rfl (fun KK hK => ?_) AllReadyH.nil)
           obtain ⟨z0, z1, z2, z3⟩ := hF.two
           go_simp
           have hBc := (hBc.setCell (p := ⟨fb, 0, none⟩) hgeF (.int .i64 sc)).setCell (p := ⟨fb, 1, none⟩) hgeF (.int .i64 si)
           have hF : Blk _ fb 28 [.int .i64 sc, .int .i64 si] := (hF.set 0 (.int .i64 sc)).set 1 (.int .i64 si)
           have hG := (hG.other (p := ⟨fb, 0, none⟩) hne (.int .i64 sc)).other (p := ⟨fb, 1, none⟩) hne (.int .i64 si)
           have hR := HRS.out _ _ _ fb 1 (.int .i64 si) (HRS.out _ _ _ fb 0 (.int .i64 sc) hR hfp) hfp
           refine hK.out _ _ (hS _ hBc) (fun hHeld => ?_)
           clear hK
           try simp only [Act.put, List.setIfInBounds_toArray, List.set_cons_zero, List.set_cons_succ]
           clear z0 z1 z2 z3
           refine wpAnyH_done (by kernel_rfl) ?_ _
           go_wp2_with fail
           exact HQ.out gb fb pb r1 r2 r3 a1 a2 a3 b1 b2 b3 k1 k2 k3 _ hG hF hR hBc
        · as_aux_lemma =>
           go_simp
           have hgeF : w1.heap.size ≤ U1.heap.size := hBc.size
           have haF := balloc U1 (.cells #[.int .i64 0, .int .i64 0] 28)
           have hBc := bcat2 hBc haF
           have hlt9 := hG.lt
           have hA := HAU.out _ _ _ hA haF
           have hG := blk_below hG haF
           have hF := blk0 (w := U1) (T := 28) (.int .i64 0) (.int .i64 0)
           refine hK.out _ _ (hS _ hBc) (fun hHeld => ?_)
           clear hK
           try simp only [Act.put, List.setIfInBounds_toArray, List.set_cons_zero, List.set_cons_succ]
           generalize U1.alloc (.cells #[.int .i64 0, .int .i64 0] 28) = WAf at *
           generalize U1.heap.size = fb at *
           have hne : gb ≠ fb := by omega
           refine wpAnyH_ready (rs := [3]) (by kernel_rfl) (by simp) (AllReadyH.cons (o := ({ dst := some 25, op := Go.Op.call { callee := Go.Callee.value (Go.Operand.func 8), args := #[Go.Operand.tmp 24], argTypes := #[24] }, type := 24, pos := _, after := _, guard := none } : Oper)) rfl (fun KK hK => ?_) AllReadyH.nil)
           go_simp
           refine (HO2.out _ (bcat2 hB1 hBc)).mono ?_
           rintro x2 U2 ⟨b1, b2, b3, rfl, hH, hl2⟩
           have hBc := bcat2 hBc hl2
           have hA := HAU.out _ _ _ hA hl2
           have hG := blk_below hG hl2
           have hF := blk_below hF hl2
           try go_wp2_with fail
           refine hK.out _ _ (hS _ hBc) (fun hHeld => ?_)
           clear hK
           try simp only [Act.put, List.setIfInBounds_toArray, List.set_cons_zero, List.set_cons_succ]
           refine wpAnyH_ready (rs := [5]) (by kernel_rfl) (by simp) (AllReadyH.cons (o := ({ dst := some 27, op := Go.Op.call { callee := Go.Callee.value (Go.Operand.func 9), args := #[Go.Operand.tmp 26], argTypes := #[25] }, type := 25, pos := _, after := _, guard := none } : Oper)) rfl (fun KK hK => ?_) AllReadyH.nil)
           go_simp
           refine (HOL.out _ (bcat2 hB1 hBc)).mono ?_
           rintro x3 U3 ⟨k1, k2, k3, rfl, hL, hl3⟩
           have hBc := bcat2 hBc hl3
           have hA := HAU.out _ _ _ hA hl3
           have hH := HHU.out _ _ _ hH hl3
           have hG := blk_below hG hl3
           have hF := blk_below hF hl3
           try go_wp2_with fail
           refine hK.out _ _ (hS _ hBc) (fun hHeld => ?_)
           clear hK
           try simp only [Act.put, List.setIfInBounds_toArray, List.set_cons_zero, List.set_cons_succ]
           refine wpAnyH_ready (rs := [6]) (by kernel_rfl) (by simp) (AllReadyH.cons (o := ({ dst := some 28, op := Go.Op.call { callee := Go.Callee.value (Go.Operand.func 7), args := #[Go.Operand.tmp 23, Go.Operand.tmp 25, Go.Operand.tmp 27], argTypes := #[24, 24, 25] }, type := 29, pos := _, after := _, guard := none } : Oper)) rfl (fun KK hK => ?_) AllReadyH.nil)
           have hpz := hBc
           have hg9 := hG.lt
           have hf9 := hF.lt
           go_simp
           refine (HSE.out _ _ _ _ (bcat2 hB1 hBc) hA hH hL).mono ?_
           rintro x4 U4 ⟨r1, r2, r3, pb, rfl, hR, hpb, hl4⟩
           have hBc := bcat2 hBc hl4
           have hgp : GD = true → pb ≠ gb := fun h => by have := hpb h; omega
           have hfp : GD = true → pb ≠ fb := fun h => by have := hpb h; omega
           have hG := blk_below hG hl4
           have hF := blk_below hF hl4
           clear hA hH hL hpz
           try go_wp2_with fail
           refine hK.out _ _ (hS _ hBc) (fun hHeld => ?_)
           clear hK
           try simp only [Act.put, List.setIfInBounds_toArray, List.set_cons_zero, List.set_cons_succ]
           refine wpAnyH_take (i := 7) (oi := ({ dst := some 21, op := Go.Op.move (Go.Operand.tmp 28), type := 29, pos := _, after := _, guard := none } : Oper)) (v := ?_) rfl (by kernel_rfl) (by kernel_rfl) (by kernel_rfl) (fun _ _ _ h => HPN.out _ _ _ _ _ h) (Or.inl ⟨by rfl, ?_⟩) (by assumption) ?_
           rotate_left
           · (intro w hSw; (try dsimp only at hSw); go_simp; try with_reducible rfl)
           simp only [Act.put, List.setIfInBounds_toArray, List.set_cons_zero, List.set_cons_succ]
           refine wpAnyH_take (i := 8) (oi := ({ dst := some 29, op := Go.Op.extract (Go.Operand.tmp 21) 0, type := 24, pos := _, after := _, guard := none } : Oper)) (v := ?_) rfl (by kernel_rfl) (by kernel_rfl) (by kernel_rfl) (fun _ _ _ h => HPN.out _ _ _ _ _ h) (Or.inl ⟨by rfl, ?_⟩) (by assumption) ?_
           rotate_left
           · (intro w hSw; (try dsimp only at hSw); go_simp; try with_reducible rfl)
           simp only [Act.put, List.setIfInBounds_toArray, List.set_cons_zero, List.set_cons_succ]
           refine wpAnyH_take (i := 9) (oi := ({ dst := some 30, op := Go.Op.extract (Go.Operand.tmp 21) 1, type := 28, pos := _, after := _, guard := none } : Oper)) (v := ?_) rfl (by kernel_rfl) (by kernel_rfl) (by kernel_rfl) (fun _ _ _ h => HPN.out _ _ _ _ _ h) (Or.inl ⟨by rfl, ?_⟩) (by assumption) ?_
           rotate_left
           · (intro w hSw; (try dsimp only at hSw); go_simp; try with_reducible rfl)
           simp only [Act.put, List.setIfInBounds_toArray, List.set_cons_zero, List.set_cons_succ]
           refine wpAnyH_ready (rs := [12]) (by kernel_rfl) (by simp) (AllReadyH.cons (o := ({ dst := none, op := Go.Op.store 24 (Go.Operand.tmp 7) (Go.Operand.tmp 29), type := 0, pos := _, after := _, guard := none } : Oper)) rfl (fun KK hK => ?_) AllReadyH.nil)
           obtain ⟨z0, z1, z2, z3⟩ := hG.two
           go_simp
           have hBc := (hBc.setCell (p := ⟨gb, 0, none⟩) hgeG (.int .i64 GN)).setCell (p := ⟨gb, 1, none⟩) hgeG (.slice r1 r2 r3)
           have hG : Blk _ gb 24 [.int .i64 GN, .slice r1 r2 r3] := (hG.set 0 (.int .i64 GN)).set 1 (.slice r1 r2 r3)
           have hF := (hF.other (p := ⟨gb, 0, none⟩) (fun h => hne h.symm) (.int .i64 GN)).other (p := ⟨gb, 1, none⟩) (fun h => hne h.symm) (.slice r1 r2 r3)
           have hR := HRS.out _ _ _ gb 1 (.slice r1 r2 r3) (HRS.out _ _ _ gb 0 (.int .i64 GN) hR hgp) hgp
           refine hK.out _ _ (hS _ hBc) (fun hHeld => ?_)
           clear hK
           try simp only [Act.put, List.setIfInBounds_toArray, List.set_cons_zero, List.set_cons_succ]
           clear z0 z1 z2 z3
           generalize (U4.setCell ⟨gb, 0, none⟩ (.int .i64 GN)).setCell ⟨gb, 1, none⟩ (.slice r1 r2 r3) = WG at *
           refine wpAnyH_ready (rs := [13]) (by kernel_rfl) (by simp) (AllReadyH.cons (o := ({ dst := none, op := Go.Op.store 28 (Go.Operand.tmp 8) (Go.Operand.tmp 30), type := 0, pos := _, after := _, guard := none } : Oper)) rfl (fun KK hK => ?_) AllReadyH.nil)
           obtain ⟨z0, z1, z2, z3⟩ := hF.two
           go_simp
           have hBc := (hBc.setCell (p := ⟨fb, 0, none⟩) hgeF (.int .i64 sc)).setCell (p := ⟨fb, 1, none⟩) hgeF (.int .i64 si)
           have hF : Blk _ fb 28 [.int .i64 sc, .int .i64 si] := (hF.set 0 (.int .i64 sc)).set 1 (.int .i64 si)
           have hG := (hG.other (p := ⟨fb, 0, none⟩) hne (.int .i64 sc)).other (p := ⟨fb, 1, none⟩) hne (.int .i64 si)
           have hR := HRS.out _ _ _ fb 1 (.int .i64 si) (HRS.out _ _ _ fb 0 (.int .i64 sc) hR hfp) hfp
           refine hK.out _ _ (hS _ hBc) (fun hHeld => ?_)
           clear hK
           try simp only [Act.put, List.setIfInBounds_toArray, List.set_cons_zero, List.set_cons_succ]
           clear z0 z1 z2 z3
           refine wpAnyH_done (by kernel_rfl) ?_ _
           go_wp2_with fail
           exact HQ.out gb fb pb r1 r2 r3 a1 a2 a3 b1 b2 b3 k1 k2 k3 _ hG hF hR hBc
     · as_aux_lemma =>
        go_simp
        have hgeF : w1.heap.size ≤ WAg.heap.size := hBc.size
        have haF := balloc WAg (.cells #[.int .i64 0, .int .i64 0] 28)
        have hBc := bcat2 hBc haF
        have hlt9 := hG.lt
        have hG := blk_below hG haF
        have hF := blk0 (w := WAg) (T := 28) (.int .i64 0) (.int .i64 0)
        refine hK.out _ _ (hS _ hBc) (fun hHeld => ?_)
        clear hK
        try simp only [Act.put, List.setIfInBounds_toArray, List.set_cons_zero, List.set_cons_succ]
        generalize WAg.alloc (.cells #[.int .i64 0, .int .i64 0] 28) = WAf at *
        generalize WAg.heap.size = fb at *
        have hne : gb ≠ fb := by omega
        refine wpAnyH_ready (rs := [1]) (by kernel_rfl) (by simp) (AllReadyH.cons (o := ({ dst := some 23, op := Go.Op.call { callee := Go.Callee.value (Go.Operand.func 8), args := #[Go.Operand.tmp 22], argTypes := #[24] }, type := 24, pos := _, after := _, guard := none } : Oper)) rfl (fun KK hK => ?_) AllReadyH.nil)
        go_simp
        refine (HO1.out _ (bcat2 hB1 hBc)).mono ?_
        rintro x1 U1 ⟨a1, a2, a3, rfl, hA, hl1⟩
        have hBc := bcat2 hBc hl1
        have hG := blk_below hG hl1
        have hF := blk_below hF hl1
        try go_wp2_with fail
        refine hK.out _ _ (hS _ hBc) (fun hHeld => ?_)
        clear hK
        try simp only [Act.put, List.setIfInBounds_toArray, List.set_cons_zero, List.set_cons_succ]
        refine wpAnyH_ready (rs := [3]) (by kernel_rfl) (by simp) (AllReadyH.cons (o := ({ dst := some 25, op := Go.Op.call { callee := Go.Callee.value (Go.Operand.func 8), args := #[Go.Operand.tmp 24], argTypes := #[24] }, type := 24, pos := _, after := _, guard := none } : Oper)) rfl (fun KK hK => ?_) AllReadyH.nil)
        go_simp
        refine (HO2.out _ (bcat2 hB1 hBc)).mono ?_
        rintro x2 U2 ⟨b1, b2, b3, rfl, hH, hl2⟩
        have hBc := bcat2 hBc hl2
        have hA := HAU.out _ _ _ hA hl2
        have hG := blk_below hG hl2
        have hF := blk_below hF hl2
        try go_wp2_with fail
        refine hK.out _ _ (hS _ hBc) (fun hHeld => ?_)
        clear hK
        try simp only [Act.put, List.setIfInBounds_toArray, List.set_cons_zero, List.set_cons_succ]
        refine wpAnyH_ready (rs := [5]) (by kernel_rfl) (by simp) (AllReadyH.cons (o := ({ dst := some 27, op := Go.Op.call { callee := Go.Callee.value (Go.Operand.func 9), args := #[Go.Operand.tmp 26], argTypes := #[25] }, type := 25, pos := _, after := _, guard := none } : Oper)) rfl (fun KK hK => ?_) AllReadyH.nil)
        go_simp
        refine (HOL.out _ (bcat2 hB1 hBc)).mono ?_
        rintro x3 U3 ⟨k1, k2, k3, rfl, hL, hl3⟩
        have hBc := bcat2 hBc hl3
        have hA := HAU.out _ _ _ hA hl3
        have hH := HHU.out _ _ _ hH hl3
        have hG := blk_below hG hl3
        have hF := blk_below hF hl3
        try go_wp2_with fail
        refine hK.out _ _ (hS _ hBc) (fun hHeld => ?_)
        clear hK
        try simp only [Act.put, List.setIfInBounds_toArray, List.set_cons_zero, List.set_cons_succ]
        refine wpAnyH_ready (rs := [6]) (by kernel_rfl) (by simp) (AllReadyH.cons (o := ({ dst := some 28, op := Go.Op.call { callee := Go.Callee.value (Go.Operand.func 7), args := #[Go.Operand.tmp 23, Go.Operand.tmp 25, Go.Operand.tmp 27], argTypes := #[24, 24, 25] }, type := 29, pos := _, after := _, guard := none } : Oper)) rfl (fun KK hK => ?_) AllReadyH.nil)
        have hpz := hBc
        have hg9 := hG.lt
        have hf9 := hF.lt
        go_simp
        refine (HSE.out _ _ _ _ (bcat2 hB1 hBc) hA hH hL).mono ?_
        rintro x4 U4 ⟨r1, r2, r3, pb, rfl, hR, hpb, hl4⟩
        have hBc := bcat2 hBc hl4
        have hgp : GD = true → pb ≠ gb := fun h => by have := hpb h; omega
        have hfp : GD = true → pb ≠ fb := fun h => by have := hpb h; omega
        have hG := blk_below hG hl4
        have hF := blk_below hF hl4
        clear hA hH hL hpz
        try go_wp2_with fail
        refine hK.out _ _ (hS _ hBc) (fun hHeld => ?_)
        clear hK
        try simp only [Act.put, List.setIfInBounds_toArray, List.set_cons_zero, List.set_cons_succ]
        refine wpAnyH_take (i := 7) (oi := ({ dst := some 21, op := Go.Op.move (Go.Operand.tmp 28), type := 29, pos := _, after := _, guard := none } : Oper)) (v := ?_) rfl (by kernel_rfl) (by kernel_rfl) (by kernel_rfl) (fun _ _ _ h => HPN.out _ _ _ _ _ h) (Or.inl ⟨by rfl, ?_⟩) (by assumption) ?_
        rotate_left
        · (intro w hSw; (try dsimp only at hSw); go_simp; try with_reducible rfl)
        simp only [Act.put, List.setIfInBounds_toArray, List.set_cons_zero, List.set_cons_succ]
        refine wpAnyH_take (i := 8) (oi := ({ dst := some 29, op := Go.Op.extract (Go.Operand.tmp 21) 0, type := 24, pos := _, after := _, guard := none } : Oper)) (v := ?_) rfl (by kernel_rfl) (by kernel_rfl) (by kernel_rfl) (fun _ _ _ h => HPN.out _ _ _ _ _ h) (Or.inl ⟨by rfl, ?_⟩) (by assumption) ?_
        rotate_left
        · (intro w hSw; (try dsimp only at hSw); go_simp; try with_reducible rfl)
        simp only [Act.put, List.setIfInBounds_toArray, List.set_cons_zero, List.set_cons_succ]
        refine wpAnyH_take (i := 9) (oi := ({ dst := some 30, op := Go.Op.extract (Go.Operand.tmp 21) 1, type := 28, pos := _, after := _, guard := none } : Oper)) (v := ?_) rfl (by kernel_rfl) (by kernel_rfl) (by kernel_rfl) (fun _ _ _ h => HPN.out _ _ _ _ _ h) (Or.inl ⟨by rfl, ?_⟩) (by assumption) ?_
        rotate_left
        · (intro w hSw; (try dsimp only at hSw); go_simp; try with_reducible rfl)
        simp only [Act.put, List.setIfInBounds_toArray, List.set_cons_zero, List.set_cons_succ]
        refine wpAnyH_ready (rs := [12]) (by kernel_rfl) (by simp) (AllReadyH.cons (o := ({ dst := none, op := Go.Op.store 24 (Go.Operand.tmp 7) (Go.Operand.tmp 29), type := 0, pos := _, after := _, guard := none } : Oper)) rfl (fun KK hK => ?_) AllReadyH.nil)
        obtain ⟨z0, z1, z2, z3⟩ := hG.two
        go_simp
        have hBc := (hBc.setCell (p := ⟨gb, 0, none⟩) hgeG (.int .i64 GN)).setCell (p := ⟨gb, 1, none⟩) hgeG (.slice r1 r2 r3)
        have hG : Blk _ gb 24 [.int .i64 GN, .slice r1 r2 r3] := (hG.set 0 (.int .i64 GN)).set 1 (.slice r1 r2 r3)
        have hF := (hF.other (p := ⟨gb, 0, none⟩) (fun h => hne h.symm) (.int .i64 GN)).other (p := ⟨gb, 1, none⟩) (fun h => hne h.symm) (.slice r1 r2 r3)
        have hR := HRS.out _ _ _ gb 1 (.slice r1 r2 r3) (HRS.out _ _ _ gb 0 (.int .i64 GN) hR hgp) hgp
        refine hK.out _ _ (hS _ hBc) (fun hHeld => ?_)
        clear hK
        try simp only [Act.put, List.setIfInBounds_toArray, List.set_cons_zero, List.set_cons_succ]
        clear z0 z1 z2 z3
        generalize (U4.setCell ⟨gb, 0, none⟩ (.int .i64 GN)).setCell ⟨gb, 1, none⟩ (.slice r1 r2 r3) = WG at *
        refine wpAnyH_ready (rs := [13]) (by kernel_rfl) (by simp) (AllReadyH.cons (o := ({ dst := none, op := Go.Op.store 28 (Go.Operand.tmp 8) (Go.Operand.tmp 30), type := 0, pos := _, after := _, guard := none } : Oper)) rfl (fun KK hK => ?_) AllReadyH.nil)
        obtain ⟨z0, z1, z2, z3⟩ := hF.two
        go_simp
        have hBc := (hBc.setCell (p := ⟨fb, 0, none⟩) hgeF (.int .i64 sc)).setCell (p := ⟨fb, 1, none⟩) hgeF (.int .i64 si)
        have hF : Blk _ fb 28 [.int .i64 sc, .int .i64 si] := (hF.set 0 (.int .i64 sc)).set 1 (.int .i64 si)
        have hG := (hG.other (p := ⟨fb, 0, none⟩) hne (.int .i64 sc)).other (p := ⟨fb, 1, none⟩) hne (.int .i64 si)
        have hR := HRS.out _ _ _ fb 1 (.int .i64 si) (HRS.out _ _ _ fb 0 (.int .i64 sc) hR hfp) hfp
        refine hK.out _ _ (hS _ hBc) (fun hHeld => ?_)
        clear hK
        try simp only [Act.put, List.setIfInBounds_toArray, List.set_cons_zero, List.set_cons_succ]
        clear z0 z1 z2 z3
        refine wpAnyH_done (by kernel_rfl) ?_ _
        go_wp2_with fail
        exact HQ.out gb fb pb r1 r2 r3 a1 a2 a3 b1 b2 b3 k1 k2 k3 _ hG hF hR hBc
  · as_aux_lemma =>
     go_simp
     have hgeF : w1.heap.size ≤ wd.heap.size := hBc.size
     have haF := balloc wd (.cells #[.int .i64 0, .int .i64 0] 28)
     have hBc := bcat2 hBc haF
     have hF := blk0 (w := wd) (T := 28) (.int .i64 0) (.int .i64 0)
     refine hK.out _ _ (hS _ hBc) (fun hHeld => ?_)
     clear hK
     try simp only [Act.put, List.setIfInBounds_toArray, List.set_cons_zero, List.set_cons_succ]
     generalize wd.alloc (.cells #[.int .i64 0, .int .i64 0] 28) = WAf at *
     generalize wd.heap.size = fb at *
     refine wpAnyH_ready (rs := [1, 10]) (by kernel_rfl) (by simp) (AllReadyH.cons (o := ({ dst := some 23, op := Go.Op.call { callee := Go.Callee.value (Go.Operand.func 8), args := #[Go.Operand.tmp 22], argTypes := #[24] }, type := 24, pos := _, after := _, guard := none } : Oper)) rfl (fun KK hK => ?_) (AllReadyH.cons (o := ({ dst := some 7, op := Go.Op.alloc 24, type := 0, pos := _, after := _, guard := none } : Oper)) rfl (fun KK hK => ?_) AllReadyH.nil))
     · as_aux_lemma =>
        go_simp
        refine (HO1.out _ (bcat2 hB1 hBc)).mono ?_
        rintro x1 U1 ⟨a1, a2, a3, rfl, hA, hl1⟩
        have hBc := bcat2 hBc hl1
        have hF := blk_below hF hl1
        try go_wp2_with fail
        refine hK.out _ _ (hS _ hBc) (fun hHeld => ?_)
        clear hK
        try simp only [Act.put, List.setIfInBounds_toArray, List.set_cons_zero, List.set_cons_succ]
        refine wpAnyH_ready (rs := [3, 10]) (by kernel_rfl) (by simp) (AllReadyH.cons (o := ({ dst := some 25, op := Go.Op.call { callee := Go.Callee.value (Go.Operand.func 8), args := #[Go.Operand.tmp 24], argTypes := #[24] }, type := 24, pos := _, after := _, guard := none } : Oper)) rfl (fun KK hK => ?_) (AllReadyH.cons (o := ({ dst := some 7, op := Go.Op.alloc 24, type := 0, pos := _, after := _, guard := none } : Oper)) rfl (fun KK hK => ?_) AllReadyH.nil))
        · as_aux_lemma =>
           go_simp
           refine (HO2.out _ (bcat2 hB1 hBc)).mono ?_
           rintro x2 U2 ⟨b1, b2, b3, rfl, hH, hl2⟩
           have hBc := bcat2 hBc hl2
           have hA := HAU.out _ _ _ hA hl2
           have hF := blk_below hF hl2
           try go_wp2_with fail
           refine hK.out _ _ (hS _ hBc) (fun hHeld => ?_)
           clear hK
           try simp only [Act.put, List.setIfInBounds_toArray, List.set_cons_zero, List.set_cons_succ]
           refine wpAnyH_ready (rs := [5, 10]) (by kernel_rfl) (by simp) (AllReadyH.cons (o := ({ dst := some 27, op := Go.Op.call { callee := Go.Callee.value (Go.Operand.func 9), args := #[Go.Operand.tmp 26], argTypes := #[25] }, type := 25, pos := _, after := _, guard := none } : Oper)) rfl (fun KK hK => ?_) (AllReadyH.cons (o := ({ dst := some 7, op := Go.Op.alloc 24, type := 0, pos := _, after := _, guard := none } : Oper)) rfl (fun KK hK => ?_) AllReadyH.nil))
           · go_simp
             refine (HOL.out _ (bcat2 hB1 hBc)).mono ?_
             rintro x3 U3 ⟨k1, k2, k3, rfl, hL, hl3⟩
             have hBc := bcat2 hBc hl3
             have hA := HAU.out _ _ _ hA hl3
             have hH := HHU.out _ _ _ hH hl3
             have hF := blk_below hF hl3
             try go_wp2_with fail
             refine hK.out _ _ (hS _ hBc) (fun hHeld => ?_)
             clear hK
             try simp only [Act.put, List.setIfInBounds_toArray, List.set_cons_zero, List.set_cons_succ]
             refine wpAnyH_ready (rs := [6, 10]) (by kernel_rfl) (by simp) (AllReadyH.cons (o := ({ dst := some 28, op := Go.Op.call { callee := Go.Callee.value (Go.Operand.func 7), args := #[Go.Operand.tmp 23, Go.Operand.tmp 25, Go.Operand.tmp 27], argTypes := #[24, 24, 25] }, type := 29, pos := _, after := _, guard := none } : Oper)) rfl (fun KK hK => ?_) (AllReadyH.cons (o := ({ dst := some 7, op := Go.Op.alloc 24, type := 0, pos := _, after := _, guard := none } : Oper)) rfl (fun KK hK => ?_) AllReadyH.nil))
             · have hpz := hBc
               have hf9 := hF.lt
               go_simp
               refine (HSE.out _ _ _ _ (bcat2 hB1 hBc) hA hH hL).mono ?_
               rintro x4 U4 ⟨r1, r2, r3, pb, rfl, hR, hpb, hl4⟩
               have hBc := bcat2 hBc hl4
               have hfp : GD = true → pb ≠ fb := fun h => by have := hpb h; omega
               have hF := blk_below hF hl4
               clear hA hH hL hpz
               try go_wp2_with fail
               refine hK.out _ _ (hS _ hBc) (fun hHeld => ?_)
               clear hK
               try simp only [Act.put, List.setIfInBounds_toArray, List.set_cons_zero, List.set_cons_succ]
               refine wpAnyH_take (i := 7) (oi := ({ dst := some 21, op := Go.Op.move (Go.Operand.tmp 28), type := 29, pos := _, after := _, guard := none } : Oper)) (v := ?_) rfl (by kernel_rfl) (by kernel_rfl) (by kernel_rfl) (fun _ _ _ h => HPN.out _ _ _ _ _ h) (Or.inl ⟨by rfl, ?_⟩) (by assumption) ?_
               rotate_left
               · (intro w hSw; (try dsimp only at hSw); go_simp; try with_reducible rfl)
               simp only [Act.put, List.setIfInBounds_toArray, List.set_cons_zero, List.set_cons_succ]
               refine wpAnyH_take (i := 8) (oi := ({ dst := some 29, op := Go.Op.extract (Go.Operand.tmp 21) 0, type := 24, pos := _, after := _, guard := none } : Oper)) (v := ?_) rfl (by kernel_rfl) (by kernel_rfl) (by kernel_rfl) (fun _ _ _ h => HPN.out _ _ _ _ _ h) (Or.inl ⟨by rfl, ?_⟩) (by assumption) ?_
               rotate_left
               · (intro w hSw; (try dsimp only at hSw); go_simp; try with_reducible rfl)
               simp only [Act.put, List.setIfInBounds_toArray, List.set_cons_zero, List.set_cons_succ]
               refine wpAnyH_take (i := 9) (oi := ({ dst := some 30, op := Go.Op.extract (Go.Operand.tmp 21) 1, type := 28, pos := _, after := _, guard := none } : Oper)) (v := ?_) rfl (by kernel_rfl) (by kernel_rfl) (by kernel_rfl) (fun _ _ _ h => HPN.out _ _ _ _ _ h) (Or.inl ⟨by rfl, ?_⟩) (by assumption) ?_
               rotate_left
               · (intro w hSw; (try dsimp only at hSw); go_simp; try with_reducible rfl)
               simp only [Act.put, List.setIfInBounds_toArray, List.set_cons_zero, List.set_cons_succ]
               refine wpAnyH_ready (rs := [10]) (by kernel_rfl) (by simp) (AllReadyH.cons (o := ({ dst := some 7, op := Go.Op.alloc 24, type := 0, pos := _, after := _, guard := none } : Oper)) rfl (fun KK hK => ?_) AllReadyH.nil)
               go_simp
               have hgeG : w1.heap.size ≤ U4.heap.size := hBc.size
               have haG := balloc U4 (.cells #[.int .i64 0, .slice none 0 0] 24)
               have hBc := bcat2 hBc haG
               have hgp : GD = true → pb ≠ U4.heap.size := fun h => by have := HRL.out _ _ _ hR h; omega
               have hlt9 := hF.lt
               have hR := HRB.out _ _ _ _ hR haG
               have hF := blk_below hF haG
               have hG := blk0 (w := U4) (T := 24) (.int .i64 0) (.slice none 0 0)
               refine hK.out _ _ (hS _ hBc) (fun hHeld => ?_)
               clear hK
               try simp only [Act.put, List.setIfInBounds_toArray, List.set_cons_zero, List.set_cons_succ]
               generalize U4.alloc (.cells #[.int .i64 0, .slice none 0 0] 24) = WAg at *
               generalize U4.heap.size = gb at *
               have hne : gb ≠ fb := by omega
               refine wpAnyH_ready (rs := [12]) (by kernel_rfl) (by simp) (AllReadyH.cons (o := ({ dst := none, op := Go.Op.store 24 (Go.Operand.tmp 7) (Go.Operand.tmp 29), type := 0, pos := _, after := _, guard := none } : Oper)) rfl (fun KK hK => ?_) AllReadyH.nil)
               obtain ⟨z0, z1, z2, z3⟩ := hG.two
               go_simp
               have hBc := (hBc.setCell (p := ⟨gb, 0, none⟩) hgeG (.int .i64 GN)).setCell (p := ⟨gb, 1, none⟩) hgeG (.slice r1 r2 r3)
               have hG : Blk _ gb 24 [.int .i64 GN, .slice r1 r2 r3] := (hG.set 0 (.int .i64 GN)).set 1 (.slice r1 r2 r3)
               have hF := (hF.other (p := ⟨gb, 0, none⟩) (fun h => hne h.symm) (.int .i64 GN)).other (p := ⟨gb, 1, none⟩) (fun h => hne h.symm) (.slice r1 r2 r3)
               have hR := HRS.out _ _ _ gb 1 (.slice r1 r2 r3) (HRS.out _ _ _ gb 0 (.int .i64 GN) hR hgp) hgp
               refine hK.out _ _ (hS _ hBc) (fun hHeld => ?_)
               clear hK
               try simp only [Act.put, List.setIfInBounds_toArray, List.set_cons_zero, List.set_cons_succ]
               clear z0 z1 z2 z3
               generalize (WAg.setCell ⟨gb, 0, none⟩ (.int .i64 GN)).setCell ⟨gb, 1, none⟩ (.slice r1 r2 r3) = WG at *
               refine wpAnyH_ready (rs := [13]) (by kernel_rfl) (by simp) (AllReadyH.cons (o := ({ dst := none, op := Go.Op.store 28 (Go.Operand.tmp 8) (Go.Operand.tmp 30), type := 0, pos := _, after := _, guard := none } : Oper)) rfl (fun KK hK => ?_) AllReadyH.nil)
               obtain ⟨z0, z1, z2, z3⟩ := hF.two
               go_simp
               have hBc := (hBc.setCell (p := ⟨fb, 0, none⟩) hgeF (.int .i64 sc)).setCell (p := ⟨fb, 1, none⟩) hgeF (.int .i64 si)
               have hF : Blk _ fb 28 [.int .i64 sc, .int .i64 si] := (hF.set 0 (.int .i64 sc)).set 1 (.int .i64 si)
               have hG := (hG.other (p := ⟨fb, 0, none⟩) hne (.int .i64 sc)).other (p := ⟨fb, 1, none⟩) hne (.int .i64 si)
               have hR := HRS.out _ _ _ fb 1 (.int .i64 si) (HRS.out _ _ _ fb 0 (.int .i64 sc) hR hfp) hfp
               refine hK.out _ _ (hS _ hBc) (fun hHeld => ?_)
               clear hK
               try simp only [Act.put, List.setIfInBounds_toArray, List.set_cons_zero, List.set_cons_succ]
               clear z0 z1 z2 z3
               refine wpAnyH_done (by kernel_rfl) ?_ _
               go_wp2_with fail
               exact HQ.out gb fb pb r1 r2 r3 a1 a2 a3 b1 b2 b3 k1 k2 k3 _ hG hF hR hBc
             go_simp
             have hgeG : w1.heap.size ≤ U3.heap.size := hBc.size
             have haG := balloc U3 (.cells #[.int .i64 0, .slice none 0 0] 24)
             have hBc := bcat2 hBc haG
             have hlt9 := hF.lt
             have hA := HAU.out _ _ _ hA haG
             have hH := HHU.out _ _ _ hH haG
             have hL := HLU.out _ _ _ hL haG
             have hF := blk_below hF haG
             have hG := blk0 (w := U3) (T := 24) (.int .i64 0) (.slice none 0 0)
             refine hK.out _ _ (hS _ hBc) (fun hHeld => ?_)
             clear hK
             try simp only [Act.put, List.setIfInBounds_toArray, List.set_cons_zero, List.set_cons_succ]
             generalize U3.alloc (.cells #[.int .i64 0, .slice none 0 0] 24) = WAg at *
             generalize U3.heap.size = gb at *
             have hne : gb ≠ fb := by omega
             refine wpAnyH_ready (rs := [6]) (by kernel_rfl) (by simp) (AllReadyH.cons (o := ({ dst := some 28, op := Go.Op.call { callee := Go.Callee.value (Go.Operand.func 7), args := #[Go.Operand.tmp 23, Go.Operand.tmp 25, Go.Operand.tmp 27], argTypes := #[24, 24, 25] }, type := 29, pos := _, after := _, guard := none } : Oper)) rfl (fun KK hK => ?_) AllReadyH.nil)
             have hpz := hBc
             have hg9 := hG.lt
             have hf9 := hF.lt
             go_simp
             refine (HSE.out _ _ _ _ (bcat2 hB1 hBc) hA hH hL).mono ?_
             rintro x4 U4 ⟨r1, r2, r3, pb, rfl, hR, hpb, hl4⟩
             have hBc := bcat2 hBc hl4
             have hgp : GD = true → pb ≠ gb := fun h => by have := hpb h; omega
             have hfp : GD = true → pb ≠ fb := fun h => by have := hpb h; omega
             have hG := blk_below hG hl4
             have hF := blk_below hF hl4
             clear hA hH hL hpz
             try go_wp2_with fail
             refine hK.out _ _ (hS _ hBc) (fun hHeld => ?_)
             clear hK
             try simp only [Act.put, List.setIfInBounds_toArray, List.set_cons_zero, List.set_cons_succ]
             refine wpAnyH_take (i := 7) (oi := ({ dst := some 21, op := Go.Op.move (Go.Operand.tmp 28), type := 29, pos := _, after := _, guard := none } : Oper)) (v := ?_) rfl (by kernel_rfl) (by kernel_rfl) (by kernel_rfl) (fun _ _ _ h => HPN.out _ _ _ _ _ h) (Or.inl ⟨by rfl, ?_⟩) (by assumption) ?_
             rotate_left
             · (intro w hSw; (try dsimp only at hSw); go_simp; try with_reducible rfl)
             simp only [Act.put, List.setIfInBounds_toArray, List.set_cons_zero, List.set_cons_succ]
             refine wpAnyH_take (i := 8) (oi := ({ dst := some 29, op := Go.Op.extract (Go.Operand.tmp 21) 0, type := 24, pos := _, after := _, guard := none } : Oper)) (v := ?_) rfl (by kernel_rfl) (by kernel_rfl) (by kernel_rfl) (fun _ _ _ h => HPN.out _ _ _ _ _ h) (Or.inl ⟨by rfl, ?_⟩) (by assumption) ?_
             rotate_left
             · (intro w hSw; (try dsimp only at hSw); go_simp; try with_reducible rfl)
             simp only [Act.put, List.setIfInBounds_toArray, List.set_cons_zero, List.set_cons_succ]
             refine wpAnyH_take (i := 9) (oi := ({ dst := some 30, op := Go.Op.extract (Go.Operand.tmp 21) 1, type := 28, pos := _, after := _, guard := none } : Oper)) (v := ?_) rfl (by kernel_rfl) (by kernel_rfl) (by kernel_rfl) (fun _ _ _ h => HPN.out _ _ _ _ _ h) (Or.inl ⟨by rfl, ?_⟩) (by assumption) ?_
             rotate_left
             · (intro w hSw; (try dsimp only at hSw); go_simp; try with_reducible rfl)
             simp only [Act.put, List.setIfInBounds_toArray, List.set_cons_zero, List.set_cons_succ]
             refine wpAnyH_ready (rs := [12]) (by kernel_rfl) (by simp) (AllReadyH.cons (o := ({ dst := none, op := Go.Op.store 24 (Go.Operand.tmp 7) (Go.Operand.tmp 29), type := 0, pos := _, after := _, guard := none } : Oper)) rfl (fun KK hK => ?_) AllReadyH.nil)
             obtain ⟨z0, z1, z2, z3⟩ := hG.two
             go_simp
             have hBc := (hBc.setCell (p := ⟨gb, 0, none⟩) hgeG (.int .i64 GN)).setCell (p := ⟨gb, 1, none⟩) hgeG (.slice r1 r2 r3)
             have hG : Blk _ gb 24 [.int .i64 GN, .slice r1 r2 r3] := (hG.set 0 (.int .i64 GN)).set 1 (.slice r1 r2 r3)
             have hF := (hF.other (p := ⟨gb, 0, none⟩) (fun h => hne h.symm) (.int .i64 GN)).other (p := ⟨gb, 1, none⟩) (fun h => hne h.symm) (.slice r1 r2 r3)
             have hR := HRS.out _ _ _ gb 1 (.slice r1 r2 r3) (HRS.out _ _ _ gb 0 (.int .i64 GN) hR hgp) hgp
             refine hK.out _ _ (hS _ hBc) (fun hHeld => ?_)
             clear hK
             try simp only [Act.put, List.setIfInBounds_toArray, List.set_cons_zero, List.set_cons_succ]
             clear z0 z1 z2 z3
             generalize (U4.setCell ⟨gb, 0, none⟩ (.int .i64 GN)).setCell ⟨gb, 1, none⟩ (.slice r1 r2 r3) = WG at *
             refine wpAnyH_ready (rs := [13]) (by kernel_rfl) (by simp) (AllReadyH.cons (o := ({ dst := none, op := Go.Op.store 28 (Go.Operand.tmp 8) (Go.Operand.tmp 30), type := 0, pos := _, after := _, guard := none } : Oper)) rfl (fun KK hK => ?_) AllReadyH.nil)
             obtain ⟨z0, z1, z2, z3⟩ := hF.two
             go_simp
             have hBc := (hBc.setCell (p := ⟨fb, 0, none⟩) hgeF (.int .i64 sc)).setCell (p := ⟨fb, 1, none⟩) hgeF (.int .i64 si)
             have hF : Blk _ fb 28 [.int .i64 sc, .int .i64 si] := (hF.set 0 (.int .i64 sc)).set 1 (.int .i64 si)
             have hG := (hG.other (p := ⟨fb, 0, none⟩) hne (.int .i64 sc)).other (p := ⟨fb, 1, none⟩) hne (.int .i64 si)
             have hR := HRS.out _ _ _ fb 1 (.int .i64 si) (HRS.out _ _ _ fb 0 (.int .i64 sc) hR hfp) hfp
             refine hK.out _ _ (hS _ hBc) (fun hHeld => ?_)
             clear hK
             try simp only [Act.put, List.setIfInBounds_toArray, List.set_cons_zero, List.set_cons_succ]
             clear z0 z1 z2 z3
             refine wpAnyH_done (by kernel_rfl) ?_ _
             go_wp2_with fail
             exact HQ.out gb fb pb r1 r2 r3 a1 a2 a3 b1 b2 b3 k1 k2 k3 _ hG hF hR hBc
           go_simp
           have hgeG : w1.heap.size ≤ U2.heap.size := hBc.size
           have haG := balloc U2 (.cells #[.int .i64 0, .slice none 0 0] 24)
           have hBc := bcat2 hBc haG
           have hlt9 := hF.lt
           have hA := HAU.out _ _ _ hA haG
           have hH := HHU.out _ _ _ hH haG
           have hF := blk_below hF haG
           have hG := blk0 (w := U2) (T := 24) (.int .i64 0) (.slice none 0 0)
           refine hK.out _ _ (hS _ hBc) (fun hHeld => ?_)
           clear hK
           try simp only [Act.put, List.setIfInBounds_toArray, List.set_cons_zero, List.set_cons_succ]
           generalize U2.alloc (.cells #[.int .i64 0, .slice none 0 0] 24) = WAg at *
           generalize U2.heap.size = gb at *
           have hne : gb ≠ fb := by omega
           refine wpAnyH_ready (rs := [5]) (by kernel_rfl) (by simp) (AllReadyH.cons (o := ({ dst := some 27, op := Go.Op.call { callee := Go.Callee.value (Go.Operand.func 9), args := #[Go.Operand.tmp 26], argTypes := #[25] }, type := 25, pos := _, after := _, guard := none } : Oper)) rfl (fun KK hK => ?_) AllReadyH.nil)
           go_simp
           refine (HOL.out _ (bcat2 hB1 hBc)).mono ?_
           rintro x3 U3 ⟨k1, k2, k3, rfl, hL, hl3⟩
           have hBc := bcat2 hBc hl3
           have hA := HAU.out _ _ _ hA hl3
           have hH := HHU.out _ _ _ hH hl3
           have hG := blk_below hG hl3
           have hF := blk_below hF hl3
           try go_wp2_with fail
           refine hK.out _ _ (hS _ hBc) (fun hHeld => ?_)
           clear hK
           try simp only [Act.put, List.setIfInBounds_toArray, List.set_cons_zero, List.set_cons_succ]
           refine wpAnyH_ready (rs := [6]) (by kernel_rfl) (by simp) (AllReadyH.cons (o := ({ dst := some 28, op := Go.Op.call { callee := Go.Callee.value (Go.Operand.func 7), args := #[Go.Operand.tmp 23, Go.Operand.tmp 25, Go.Operand.tmp 27], argTypes := #[24, 24, 25] }, type := 29, pos := _, after := _, guard := none } : Oper)) rfl (fun KK hK => ?_) AllReadyH.nil)
           have hpz := hBc
           have hg9 := hG.lt
           have hf9 := hF.lt
           go_simp
           refine (HSE.out _ _ _ _ (bcat2 hB1 hBc) hA hH hL).mono ?_
           rintro x4 U4 ⟨r1, r2, r3, pb, rfl, hR, hpb, hl4⟩
           have hBc := bcat2 hBc hl4
           have hgp : GD = true → pb ≠ gb := fun h => by have := hpb h; omega
           have hfp : GD = true → pb ≠ fb := fun h => by have := hpb h; omega
           have hG := blk_below hG hl4
           have hF := blk_below hF hl4
           clear hA hH hL hpz
           try go_wp2_with fail
           refine hK.out _ _ (hS _ hBc) (fun hHeld => ?_)
           clear hK
           try simp only [Act.put, List.setIfInBounds_toArray, List.set_cons_zero, List.set_cons_succ]
           refine wpAnyH_take (i := 7) (oi := ({ dst := some 21, op := Go.Op.move (Go.Operand.tmp 28), type := 29, pos := _, after := _, guard := none } : Oper)) (v := ?_) rfl (by kernel_rfl) (by kernel_rfl) (by kernel_rfl) (fun _ _ _ h => HPN.out _ _ _ _ _ h) (Or.inl ⟨by rfl, ?_⟩) (by assumption) ?_
           rotate_left
           · (intro w hSw; (try dsimp only at hSw); go_simp; try with_reducible rfl)
           simp only [Act.put, List.setIfInBounds_toArray, List.set_cons_zero, List.set_cons_succ]
           refine wpAnyH_take (i := 8) (oi := ({ dst := some 29, op := Go.Op.extract (Go.Operand.tmp 21) 0, type := 24, pos := _, after := _, guard := none } : Oper)) (v := ?_) rfl (by kernel_rfl) (by kernel_rfl) (by kernel_rfl) (fun _ _ _ h => HPN.out _ _ _ _ _ h) (Or.inl ⟨by rfl, ?_⟩) (by assumption) ?_
           rotate_left
           · (intro w hSw; (try dsimp only at hSw); go_simp; try with_reducible rfl)
           simp only [Act.put, List.setIfInBounds_toArray, List.set_cons_zero, List.set_cons_succ]
           refine wpAnyH_take (i := 9) (oi := ({ dst := some 30, op := Go.Op.extract (Go.Operand.tmp 21) 1, type := 28, pos := _, after := _, guard := none } : Oper)) (v := ?_) rfl (by kernel_rfl) (by kernel_rfl) (by kernel_rfl) (fun _ _ _ h => HPN.out _ _ _ _ _ h) (Or.inl ⟨by rfl, ?_⟩) (by assumption) ?_
           rotate_left
           · (intro w hSw; (try dsimp only at hSw); go_simp; try with_reducible rfl)
           simp only [Act.put, List.setIfInBounds_toArray, List.set_cons_zero, List.set_cons_succ]
           refine wpAnyH_ready (rs := [12]) (by kernel_rfl) (by simp) (AllReadyH.cons (o := ({ dst := none, op := Go.Op.store 24 (Go.Operand.tmp 7) (Go.Operand.tmp 29), type := 0, pos := _, after := _, guard := none } : Oper)) rfl (fun KK hK => ?_) AllReadyH.nil)
           obtain ⟨z0, z1, z2, z3⟩ := hG.two
           go_simp
           have hBc := (hBc.setCell (p := ⟨gb, 0, none⟩) hgeG (.int .i64 GN)).setCell (p := ⟨gb, 1, none⟩) hgeG (.slice r1 r2 r3)
           have hG : Blk _ gb 24 [.int .i64 GN, .slice r1 r2 r3] := (hG.set 0 (.int .i64 GN)).set 1 (.slice r1 r2 r3)
           have hF := (hF.other (p := ⟨gb, 0, none⟩) (fun h => hne h.symm) (.int .i64 GN)).other (p := ⟨gb, 1, none⟩) (fun h => hne h.symm) (.slice r1 r2 r3)
           have hR := HRS.out _ _ _ gb 1 (.slice r1 r2 r3) (HRS.out _ _ _ gb 0 (.int .i64 GN) hR hgp) hgp
           refine hK.out _ _ (hS _ hBc) (fun hHeld => ?_)
           clear hK
           try simp only [Act.put, List.setIfInBounds_toArray, List.set_cons_zero, List.set_cons_succ]
           clear z0 z1 z2 z3
           generalize (U4.setCell ⟨gb, 0, none⟩ (.int .i64 GN)).setCell ⟨gb, 1, none⟩ (.slice r1 r2 r3) = WG at *
           refine wpAnyH_ready (rs := [13]) (by kernel_rfl) (by simp) (AllReadyH.cons (o := ({ dst := none, op := Go.Op.store 28 (Go.Operand.tmp 8) (Go.Operand.tmp 30), type := 0, pos := _, after := _, guard := none } : Oper)) rfl (fun KK hK => ?_) AllReadyH.nil)
           obtain ⟨z0, z1, z2, z3⟩ := hF.two
           go_simp
           have hBc := (hBc.setCell (p := ⟨fb, 0, none⟩) hgeF (.int .i64 sc)).setCell (p := ⟨fb, 1, none⟩) hgeF (.int .i64 si)
           have hF : Blk _ fb 28 [.int .i64 sc, .int .i64 si] := (hF.set 0 (.int .i64 sc)).set 1 (.int .i64 si)
           have hG := (hG.other (p := ⟨fb, 0, none⟩) hne (.int .i64 sc)).other (p := ⟨fb, 1, none⟩) hne (.int .i64 si)
           have hR := HRS.out _ _ _ fb 1 (.int .i64 si) (HRS.out _ _ _ fb 0 (.int .i64 sc) hR hfp) hfp
           refine hK.out _ _ (hS _ hBc) (fun hHeld => ?_)
           clear hK
           try simp only [Act.put, List.setIfInBounds_toArray, List.set_cons_zero, List.set_cons_succ]
           clear z0 z1 z2 z3
           refine wpAnyH_done (by kernel_rfl) ?_ _
           go_wp2_with fail
           exact HQ.out gb fb pb r1 r2 r3 a1 a2 a3 b1 b2 b3 k1 k2 k3 _ hG hF hR hBc
        · as_aux_lemma =>
           go_simp
           have hgeG : w1.heap.size ≤ U1.heap.size := hBc.size
           have haG := balloc U1 (.cells #[.int .i64 0, .slice none 0 0] 24)
           have hBc := bcat2 hBc haG
           have hlt9 := hF.lt
           have hA := HAU.out _ _ _ hA haG
           have hF := blk_below hF haG
           have hG := blk0 (w := U1) (T := 24) (.int .i64 0) (.slice none 0 0)
           refine hK.out _ _ (hS _ hBc) (fun hHeld => ?_)
           clear hK
           try simp only [Act.put, List.setIfInBounds_toArray, List.set_cons_zero, List.set_cons_succ]
           generalize U1.alloc (.cells #[.int .i64 0, .slice none 0 0] 24) = WAg at *
           generalize U1.heap.size = gb at *
           have hne : gb ≠ fb := by omega
           refine wpAnyH_ready (rs := [3]) (by kernel_rfl) (by simp) (AllReadyH.cons (o := ({ dst := some 25, op := Go.Op.call { callee := Go.Callee.value (Go.Operand.func 8), args := #[Go.Operand.tmp 24], argTypes := #[24] }, type := 24, pos := _, after := _, guard := none } : Oper)) rfl (fun KK hK => ?_) AllReadyH.nil)
           go_simp
           refine (HO2.out _ (bcat2 hB1 hBc)).mono ?_
           rintro x2 U2 ⟨b1, b2, b3, rfl, hH, hl2⟩
           have hBc := bcat2 hBc hl2
           have hA := HAU.out _ _ _ hA hl2
           have hG := blk_below hG hl2
           have hF := blk_below hF hl2
           try go_wp2_with fail
           refine hK.out _ _ (hS _ hBc) (fun hHeld => ?_)
           clear hK
           try simp only [Act.put, List.setIfInBounds_toArray, List.set_cons_zero, List.set_cons_succ]
           refine wpAnyH_ready (rs := [5]) (by kernel_rfl) (by simp) (AllReadyH.cons (o := ({ dst := some 27, op := Go.Op.call { callee := Go.Callee.value (Go.Operand.func 9), args := #[Go.Operand.tmp 26], argTypes := #[25] }, type := 25, pos := _, after := _, guard := none } : Oper)) rfl (fun KK hK => ?_) AllReadyH.nil)
           go_simp
           refine (HOL.out _ (bcat2 hB1 hBc)).mono ?_
           rintro x3 U3 ⟨k1, k2, k3, rfl, hL, hl3⟩
           have hBc := bcat2 hBc hl3
           have hA := HAU.out _ _ _ hA hl3
           have hH := HHU.out _ _ _ hH hl3
           have hG := blk_below hG hl3
           have hF := blk_below hF hl3
           try go_wp2_with fail
           refine hK.out _ _ (hS _ hBc) (fun hHeld => ?_)
           clear hK
           try simp only [Act.put, List.setIfInBounds_toArray, List.set_cons_zero, List.set_cons_succ]
           refine wpAnyH_ready (rs := [6]) (by kernel_rfl) (by simp) (AllReadyH.cons (o := ({ dst := some 28, op := Go.Op.call { callee := Go.Callee.value (Go.Operand.func 7), args := #[Go.Operand.tmp 23, Go.Operand.tmp 25, Go.Operand.tmp 27], argTypes := #[24, 24, 25] }, type := 29, pos := _, after := _, guard := none } : Oper)) rfl (fun KK hK => ?_) AllReadyH.nil)
           have hpz := hBc
           have hg9 := hG.lt
           have hf9 := hF.lt
           go_simp
           refine (HSE.out _ _ _ _ (bcat2 hB1 hBc) hA hH hL).mono ?_
           rintro x4 U4 ⟨r1, r2, r3, pb, rfl, hR, hpb, hl4⟩
           have hBc := bcat2 hBc hl4
           have hgp : GD = true → pb ≠ gb := fun h => by have := hpb h; omega
           have hfp : GD = true → pb ≠ fb := fun h => by have := hpb h; omega
           have hG := blk_below hG hl4
           have hF := blk_below hF hl4
           clear hA hH hL hpz
           try go_wp2_with fail
           refine hK.out _ _ (hS _ hBc) (fun hHeld => ?_)
           clear hK
           try simp only [Act.put, List.setIfInBounds_toArray, List.set_cons_zero, List.set_cons_succ]
           refine wpAnyH_take (i := 7) (oi := ({ dst := some 21, op := Go.Op.move (Go.Operand.tmp 28), type := 29, pos := _, after := _, guard := none } : Oper)) (v := ?_) rfl (by kernel_rfl) (by kernel_rfl) (by kernel_rfl) (fun _ _ _ h => HPN.out _ _ _ _ _ h) (Or.inl ⟨by rfl, ?_⟩) (by assumption) ?_
           rotate_left
           · (intro w hSw; (try dsimp only at hSw); go_simp; try with_reducible rfl)
           simp only [Act.put, List.setIfInBounds_toArray, List.set_cons_zero, List.set_cons_succ]
           refine wpAnyH_take (i := 8) (oi := ({ dst := some 29, op := Go.Op.extract (Go.Operand.tmp 21) 0, type := 24, pos := _, after := _, guard := none } : Oper)) (v := ?_) rfl (by kernel_rfl) (by kernel_rfl) (by kernel_rfl) (fun _ _ _ h => HPN.out _ _ _ _ _ h) (Or.inl ⟨by rfl, ?_⟩) (by assumption) ?_
           rotate_left
           · (intro w hSw; (try dsimp only at hSw); go_simp; try with_reducible rfl)
           simp only [Act.put, List.setIfInBounds_toArray, List.set_cons_zero, List.set_cons_succ]
           refine wpAnyH_take (i := 9) (oi := ({ dst := some 30, op := Go.Op.extract (Go.Operand.tmp 21) 1, type := 28, pos := _, after := _, guard := none } : Oper)) (v := ?_) rfl (by kernel_rfl) (by kernel_rfl) (by kernel_rfl) (fun _ _ _ h => HPN.out _ _ _ _ _ h) (Or.inl ⟨by rfl, ?_⟩) (by assumption) ?_
           rotate_left
           · (intro w hSw; (try dsimp only at hSw); go_simp; try with_reducible rfl)
           simp only [Act.put, List.setIfInBounds_toArray, List.set_cons_zero, List.set_cons_succ]
           refine wpAnyH_ready (rs := [12]) (by kernel_rfl) (by simp) (AllReadyH.cons (o := ({ dst := none, op := Go.Op.store 24 (Go.Operand.tmp 7) (Go.Operand.tmp 29), type := 0, pos := _, after := _, guard := none } : Oper)) rfl (fun KK hK => ?_) AllReadyH.nil)
           obtain ⟨z0, z1, z2, z3⟩ := hG.two
           go_simp
           have hBc := (hBc.setCell (p := ⟨gb, 0, none⟩) hgeG (.int .i64 GN)).setCell (p := ⟨gb, 1, none⟩) hgeG (.slice r1 r2 r3)
           have hG : Blk _ gb 24 [.int .i64 GN, .slice r1 r2 r3] := (hG.set 0 (.int .i64 GN)).set 1 (.slice r1 r2 r3)
           have hF := (hF.other (p := ⟨gb, 0, none⟩) (fun h => hne h.symm) (.int .i64 GN)).other (p := ⟨gb, 1, none⟩) (fun h => hne h.symm) (.slice r1 r2 r3)
           have hR := HRS.out _ _ _ gb 1 (.slice r1 r2 r3) (HRS.out _ _ _ gb 0 (.int .i64 GN) hR hgp) hgp
           refine hK.out _ _ (hS _ hBc) (fun hHeld => ?_)
           clear hK
           try simp only [Act.put, List.setIfInBounds_toArray, List.set_cons_zero, List.set_cons_succ]
           clear z0 z1 z2 z3
           generalize (U4.setCell ⟨gb, 0, none⟩ (.int .i64 GN)).setCell ⟨gb, 1, none⟩ (.slice r1 r2 r3) = WG at *
           refine wpAnyH_ready (rs := [13]) (by kernel_rfl) (by simp) (AllReadyH.cons (o := ({ dst := none, op := Go.Op.store 28 (Go.Operand.tmp 8) (Go.Operand.tmp 30), type := 0, pos := _, after := _, guard := none } : Oper)) rfl (fun KK hK => ?_) AllReadyH.nil)
           obtain ⟨z0, z1, z2, z3⟩ := hF.two
           go_simp
           have hBc := (hBc.setCell (p := ⟨fb, 0, none⟩) hgeF (.int .i64 sc)).setCell (p := ⟨fb, 1, none⟩) hgeF (.int .i64 si)
           have hF : Blk _ fb 28 [.int .i64 sc, .int .i64 si] := (hF.set 0 (.int .i64 sc)).set 1 (.int .i64 si)
           have hG := (hG.other (p := ⟨fb, 0, none⟩) hne (.int .i64 sc)).other (p := ⟨fb, 1, none⟩) hne (.int .i64 si)
           have hR := HRS.out _ _ _ fb 1 (.int .i64 si) (HRS.out _ _ _ fb 0 (.int .i64 sc) hR hfp) hfp
           refine hK.out _ _ (hS _ hBc) (fun hHeld => ?_)
           clear hK
           try simp only [Act.put, List.setIfInBounds_toArray, List.set_cons_zero, List.set_cons_succ]
           clear z0 z1 z2 z3
           refine wpAnyH_done (by kernel_rfl) ?_ _
           go_wp2_with fail
           exact HQ.out gb fb pb r1 r2 r3 a1 a2 a3 b1 b2 b3 k1 k2 k3 _ hG hF hR hBc
     · as_aux_lemma =>
        go_simp
        have hgeG : w1.heap.size ≤ WAf.heap.size := hBc.size
        have haG := balloc WAf (.cells #[.int .i64 0, .slice none 0 0] 24)
        have hBc := bcat2 hBc haG
        have hlt9 := hF.lt
        have hF := blk_below hF haG
        have hG := blk0 (w := WAf) (T := 24) (.int .i64 0) (.slice none 0 0)
        refine hK.out _ _ (hS _ hBc) (fun hHeld => ?_)
        clear hK
        try simp only [Act.put, List.setIfInBounds_toArray, List.set_cons_zero, List.set_cons_succ]
        generalize WAf.alloc (.cells #[.int .i64 0, .slice none 0 0] 24) = WAg at *
        generalize WAf.heap.size = gb at *
        have hne : gb ≠ fb := by omega
        refine wpAnyH_ready (rs := [1]) (by kernel_rfl) (by simp) (AllReadyH.cons (o := ({ dst := some 23, op := Go.Op.call { callee := Go.Callee.value (Go.Operand.func 8), args := #[Go.Operand.tmp 22], argTypes := #[24] }, type := 24, pos := _, after := _, guard := none } : Oper)) rfl (fun KK hK => ?_) AllReadyH.nil)
        go_simp
        refine (HO1.out _ (bcat2 hB1 hBc)).mono ?_
        rintro x1 U1 ⟨a1, a2, a3, rfl, hA, hl1⟩
        have hBc := bcat2 hBc hl1
        have hG := blk_below hG hl1
        have hF := blk_below hF hl1
        try go_wp2_with fail
        refine hK.out _ _ (hS _ hBc) (fun hHeld => ?_)
        clear hK
        try simp only [Act.put, List.setIfInBounds_toArray, List.set_cons_zero, List.set_cons_succ]
        refine wpAnyH_ready (rs := [3]) (by kernel_rfl) (by simp) (AllReadyH.cons (o := ({ dst := some 25, op := Go.Op.call { callee := Go.Callee.value (Go.Operand.func 8), args := #[Go.Operand.tmp 24], argTypes := #[24] }, type := 24, pos := _, after := _, guard := none } : Oper)) rfl (fun KK hK => ?_) AllReadyH.nil)
        go_simp
        refine (HO2.out _ (bcat2 hB1 hBc)).mono ?_
        rintro x2 U2 ⟨b1, b2, b3, rfl, hH, hl2⟩
        have hBc := bcat2 hBc hl2
        have hA := HAU.out _ _ _ hA hl2
        have hG := blk_below hG hl2
        have hF := blk_below hF hl2
        try go_wp2_with fail
        refine hK.out _ _ (hS _ hBc) (fun hHeld => ?_)
        clear hK
        try simp only [Act.put, List.setIfInBounds_toArray, List.set_cons_zero, List.set_cons_succ]
        refine wpAnyH_ready (rs := [5]) (by kernel_rfl) (by simp) (AllReadyH.cons (o := ({ dst := some 27, op := Go.Op.call { callee := Go.Callee.value (Go.Operand.func 9), args := #[Go.Operand.tmp 26], argTypes := #[25] }, type := 25, pos := _, after := _, guard := none } : Oper)) rfl (fun KK hK => ?_) AllReadyH.nil)
        go_simp
        refine (HOL.out _ (bcat2 hB1 hBc)).mono ?_
        rintro x3 U3 ⟨k1, k2, k3, rfl, hL, hl3⟩
        have hBc := bcat2 hBc hl3
        have hA := HAU.out _ _ _ hA hl3
        have hH := HHU.out _ _ _ hH hl3
        have hG := blk_below hG hl3
        have hF := blk_below hF hl3
        try go_wp2_with fail
        refine hK.out _ _ (hS _ hBc) (fun hHeld => ?_)
        clear hK
        try simp only [Act.put, List.setIfInBounds_toArray, List.set_cons_zero, List.set_cons_succ]
        refine wpAnyH_ready (rs := [6]) (by kernel_rfl) (by simp) (AllReadyH.cons (o := ({ dst := some 28, op := Go.Op.call { callee := Go.Callee.value (Go.Operand.func 7), args := #[Go.Operand.tmp 23, Go.Operand.tmp 25, Go.Operand.tmp 27], argTypes := #[24, 24, 25] }, type := 29, pos := _, after := _, guard := none } : Oper)) rfl (fun KK hK => ?_) AllReadyH.nil)
        have hpz := hBc
        have hg9 := hG.lt
        have hf9 := hF.lt
        go_simp
        refine (HSE.out _ _ _ _ (bcat2 hB1 hBc) hA hH hL).mono ?_
        rintro x4 U4 ⟨r1, r2, r3, pb, rfl, hR, hpb, hl4⟩
        have hBc := bcat2 hBc hl4
        have hgp : GD = true → pb ≠ gb := fun h => by have := hpb h; omega
        have hfp : GD = true → pb ≠ fb := fun h => by have := hpb h; omega
        have hG := blk_below hG hl4
        have hF := blk_below hF hl4
        clear hA hH hL hpz
        try go_wp2_with fail
        refine hK.out _ _ (hS _ hBc) (fun hHeld => ?_)
        clear hK
        try simp only [Act.put, List.setIfInBounds_toArray, List.set_cons_zero, List.set_cons_succ]
        refine wpAnyH_take (i := 7) (oi := ({ dst := some 21, op := Go.Op.move (Go.Operand.tmp 28), type := 29, pos := _, after := _, guard := none } : Oper)) (v := ?_) rfl (by kernel_rfl) (by kernel_rfl) (by kernel_rfl) (fun _ _ _ h => HPN.out _ _ _ _ _ h) (Or.inl ⟨by rfl, ?_⟩) (by assumption) ?_
        rotate_left
        · (intro w hSw; (try dsimp only at hSw); go_simp; try with_reducible rfl)
        simp only [Act.put, List.setIfInBounds_toArray, List.set_cons_zero, List.set_cons_succ]
        refine wpAnyH_take (i := 8) (oi := ({ dst := some 29, op := Go.Op.extract (Go.Operand.tmp 21) 0, type := 24, pos := _, after := _, guard := none } : Oper)) (v := ?_) rfl (by kernel_rfl) (by kernel_rfl) (by kernel_rfl) (fun _ _ _ h => HPN.out _ _ _ _ _ h) (Or.inl ⟨by rfl, ?_⟩) (by assumption) ?_
        rotate_left
        · (intro w hSw; (try dsimp only at hSw); go_simp; try with_reducible rfl)
        simp only [Act.put, List.setIfInBounds_toArray, List.set_cons_zero, List.set_cons_succ]
        refine wpAnyH_take (i := 9) (oi := ({ dst := some 30, op := Go.Op.extract (Go.Operand.tmp 21) 1, type := 28, pos := _, after := _, guard := none } : Oper)) (v := ?_) rfl (by kernel_rfl) (by kernel_rfl) (by kernel_rfl) (fun _ _ _ h => HPN.out _ _ _ _ _ h) (Or.inl ⟨by rfl, ?_⟩) (by assumption) ?_
        rotate_left
        · (intro w hSw; (try dsimp only at hSw); go_simp; try with_reducible rfl)
        simp only [Act.put, List.setIfInBounds_toArray, List.set_cons_zero, List.set_cons_succ]
        refine wpAnyH_ready (rs := [12]) (by kernel_rfl) (by simp) (AllReadyH.cons (o := ({ dst := none, op := Go.Op.store 24 (Go.Operand.tmp 7) (Go.Operand.tmp 29), type := 0, pos := _, after := _, guard := none } : Oper)) rfl (fun KK hK => ?_) AllReadyH.nil)
        obtain ⟨z0, z1, z2, z3⟩ := hG.two
        go_simp
        have hBc := (hBc.setCell (p := ⟨gb, 0, none⟩) hgeG (.int .i64 GN)).setCell (p := ⟨gb, 1, none⟩) hgeG (.slice r1 r2 r3)
        have hG : Blk _ gb 24 [.int .i64 GN, .slice r1 r2 r3] := (hG.set 0 (.int .i64 GN)).set 1 (.slice r1 r2 r3)
        have hF := (hF.other (p := ⟨gb, 0, none⟩) (fun h => hne h.symm) (.int .i64 GN)).other (p := ⟨gb, 1, none⟩) (fun h => hne h.symm) (.slice r1 r2 r3)
        have hR := HRS.out _ _ _ gb 1 (.slice r1 r2 r3) (HRS.out _ _ _ gb 0 (.int .i64 GN) hR hgp) hgp
        refine hK.out _ _ (hS _ hBc) (fun hHeld => ?_)
        clear hK
        try simp only [Act.put, List.setIfInBounds_toArray, List.set_cons_zero, List.set_cons_succ]
        clear z0 z1 z2 z3
        generalize (U4.setCell ⟨gb, 0, none⟩ (.int .i64 GN)).setCell ⟨gb, 1, none⟩ (.slice r1 r2 r3) = WG at *
        refine wpAnyH_ready (rs := [13]) (by kernel_rfl) (by simp) (AllReadyH.cons (o := ({ dst := none, op := Go.Op.store 28 (Go.Operand.tmp 8) (Go.Operand.tmp 30), type := 0, pos := _, after := _, guard := none } : Oper)) rfl (fun KK hK => ?_) AllReadyH.nil)
        obtain ⟨z0, z1, z2, z3⟩ := hF.two
        go_simp
        have hBc := (hBc.setCell (p := ⟨fb, 0, none⟩) hgeF (.int .i64 sc)).setCell (p := ⟨fb, 1, none⟩) hgeF (.int .i64 si)
        have hF : Blk _ fb 28 [.int .i64 sc, .int .i64 si] := (hF.set 0 (.int .i64 sc)).set 1 (.int .i64 si)
        have hG := (hG.other (p := ⟨fb, 0, none⟩) hne (.int .i64 sc)).other (p := ⟨fb, 1, none⟩) hne (.int .i64 si)
        have hR := HRS.out _ _ _ fb 1 (.int .i64 si) (HRS.out _ _ _ fb 0 (.int .i64 sc) hR hfp) hfp
        refine hK.out _ _ (hS _ hBc) (fun hHeld => ?_)
        clear hK
        try simp only [Act.put, List.setIfInBounds_toArray, List.set_cons_zero, List.set_cons_succ]
        clear z0 z1 z2 z3
        refine wpAnyH_done (by kernel_rfl) ?_ _
        go_wp2_with fail
        exact HQ.out gb fb pb r1 r2 r3 a1 a2 a3 b1 b2 b3 k1 k2 k3 _ hG hF hR hBc
end Go.Proofs.YtanbpjfdfnmjpaaDoor
