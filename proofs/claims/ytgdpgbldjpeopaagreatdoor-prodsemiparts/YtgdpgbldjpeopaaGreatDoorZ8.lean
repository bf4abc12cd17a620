/- Package prod: completes and direct. Condition: the library's table of places lies as its text lays it. Package prod: Direct; its walk, what it calls as premises. Condition: the library's table of places lies as its text lays it. Direct products of two subgroups as mathematics, and what Direct answers at everything. Condition: the library's table of places lies as its text lays it. Semidirect products as mathematics: their two parts, when they are direct, and the second part as what is left of the first. -/
import Derived.Test.YtgdpgbldjpeopaaGreatDoorZ7
import Derived.Test.YtgdpgbldjpeopaaGreatDoorZ4
import Derived.Test.YtgdpgbldjpeopaaGreatDoorZ3
namespace Go.Proofs.YtgdpgbldjpeopaaGreatDoor
open Go Go.RowKit

theorem blk1 (w : World) (x : Value) : Blk (w.alloc (.cells #[x] 3)) w.heap.size 3 [x] := World.alloc_heap_new w _
/-- Have two sets the one alone, and do they make all? -/
def cmpB (n e : Nat) (q r p : Nat → Bool) : Bool := decide (bs (fun a => q a && r a) n = bs (fun a => decide (a = e)) n) && decide (bs p n = bs (fun _ => true) n)
set_option maxRecDepth 100000 in
set_option maxHeartbeats 4000000 in
theorem completes_ok (n : Nat) (v1 : Option Addr) (v2 v3 : Nat) (u1 : Option Addr) (u2 u3 : Nat) (zs : List Int) (e : Nat) (q r p : Nat → Bool) (w : World) (hG : GA w n (.slice v1 v2 v3) e (.slice u1 u2 u3) zs) (hT : Tab w) (hp : ∀ a, a < n → (p a = true ↔ Mkd n zs e (fun a => q a || r a) a)) :
    Calls Tryz.prog 61 #[.agg #[.int .i64 n, .slice v1 v2 v3, .int .i64 e, .slice u1 u2 u3], .int .u64 (bs q n), .int .u64 (bs r n), .int .u64 (bs (fun _ => true) n)] w fun x w' => x = .returned (.bool (cmpB n e q r p)) ∧ Below w.heap.size w w' := by
  have hn := hG.le
  have he := hG.grp.elt
  have hand := and_bs q r hn
  have hor := or_bs q r hn
  obtain ⟨w0, hw0⟩ : ∃ w0, w0 = w.alloc (.cells #[.int .i64 n, .slice v1 v2 v3, .int .i64 e, .slice u1 u2 u3] 54) := ⟨_, rfl⟩
  have hB0 : Below w.heap.size w w0 := by rw [hw0]; exact balloc w _
  have hX0 : Box4 w0 w.heap.size n e (.slice v1 v2 v3) (.slice u1 u2 u3) := by rw [hw0]; exact Box4.new w n e _ _
  obtain ⟨c0, c1, c2, c3⟩ := hX0.cells
  have HMD := hide (fun W (h : Below w.heap.size w W) => made_ok n (.slice v1 v2 v3) (.slice u1 u2 u3) zs e (fun a => q a || r a) p W (hG.below h) (hT.below h) hp)
  obtain ⟨w1, hw1⟩ : ∃ w1, w1 = w0.alloc (.cells #[.int .i64 e] 3) := ⟨_, rfl⟩
  have hb1 : Below w0.heap.size w0 w1 := by rw [hw1]; exact balloc w0 _
  have hcq : w1.cell? ⟨w0.heap.size, 0, none⟩ = some (.int .i64 e) := by rw [hw1]; exact (blk1 w0 (.int .i64 e)).cell 0
  have HOF := hide (of_one n w0.heap.size e w1 hn he hcq)
  have hX1 := hX0.below hb1
  have hB1 := bcat2 hB0 hb1
  obtain ⟨d0, d1, d2, d3⟩ := hX1.cells
  obtain ⟨R, hR⟩ : ∃ R, cmpB n e q r p = R := ⟨_, rfl⟩
  have HR := hide (show (decide (bs (fun a => q a && r a) n = bs (fun a => decide (a = e)) n) && decide (bs p n = bs (fun _ => true) n)) = R from hR)
  rw [hR]
  clear hR hp hG
  generalize hs1 : bs (fun a => q a && r a) n = s1 at *
  generalize hs2 : bs (fun a => q a || r a) n = s2 at *
  generalize hs3 : bs (fun a => decide (a = e)) n = s3 at *
  generalize hs4 : bs p n = s4 at *
  generalize hs5 : bs (fun _ => true) n = s5 at *
  clear hs1 hs2 hs3 hs4 hs5
  rw [hw0] at c0 c1 c2 c3
  go_enter Tryz.func61, Tryz.ntmps61
  go_wp2_with fail
  rw [← hw0]
  have hsz0 : w.heap.size + 1 = w0.heap.size := by rw [hw0]; simp
  rw [hsz0, ← hw1]
  clear c0 c1 c2 c3 hw0 hw1
  refine HOF.out.mono ?_
  rintro x w2 ⟨rfl, hw2⟩
  subst hw2
  have HSZ := hide hsz0
  clear hsz0
  by_cases h1 : s1 = s3
  · have h1b : (((s1 : Nat) : Int) == ((s3 : Nat) : Int)) = true := by simp [h1]
    have HM1 := hide (HMD.out _ hB1)
    rw [h1] at HR
    go_wp2_with fail
    refine HM1.out.mono ?_
    rintro x w3 ⟨rfl, hb3⟩
    by_cases h2 : s4 = s5
    · have h2b : (((s4 : Nat) : Int) == ((s5 : Nat) : Int)) = true := by simp [h2]
      have HR2 := hide (show R = true by have := HR.out; simp [h2] at this; exact this)
      go_wp2
      go_ret
      exact ⟨by simp [HR2.out], bcat2 hB1 hb3⟩
    · have h2b : (((s4 : Nat) : Int) == ((s5 : Nat) : Int)) = false := by
        have : ¬ ((s4 : Nat) : Int) = ((s5 : Nat) : Int) := by omega
        simpa using this
      have HR2 := hide (show R = false by have := HR.out; simp [h2] at this; exact this)
      clear h2
      go_wp2
      go_ret
      exact ⟨by simp [HR2.out], bcat2 hB1 hb3⟩
  · have h1b : (((s1 : Nat) : Int) == ((s3 : Nat) : Int)) = false := by
      have : ¬ ((s1 : Nat) : Int) = ((s3 : Nat) : Int) := by omega
      simpa using this
    have HR2 := hide (show R = false by have := HR.out; simp [h1] at this; exact this)
    clear h1
    go_wp2
    go_ret
    exact ⟨by simp [HR2.out], hB1⟩
/-- Is it the direct product? -/
def dirB (n e : Nat) (q r p c : Nat → Bool) : Bool := cmpB n e q r p && decide (bs c n = bs (fun a => decide (a = e)) n)
set_option maxRecDepth 100000 in
set_option maxHeartbeats 8000000 in
theorem direct_ok (n : Nat) (v1 : Option Addr) (v2 v3 : Nat) (u1 : Option Addr) (u2 u3 : Nat) (zs : List Int) (e : Nat) (q r p c : Nat → Bool) (w : World) (hG : GA w n (.slice v1 v2 v3) e (.slice u1 u2 u3) zs) (hT : Tab w) (hp : ∀ a, a < n → (p a = true ↔ Mkd n zs e (fun a => q a || r a) a)) (hc : ∀ a, a < n → (c a = true ↔ Mkd n zs e (cmq n zs e (lst n q) (lst n r)) a)) :
    Calls Tryz.prog 32 #[.agg #[.int .i64 n, .slice v1 v2 v3, .int .i64 e, .slice u1 u2 u3], .int .u64 (bs q n), .int .u64 (bs r n), .int .u64 (bs (fun _ => true) n)] w fun x w' => x = .returned (.bool (dirB n e q r p c)) ∧ Below w.heap.size w w' := by
  have hn := hG.le
  have he := hG.grp.elt
  obtain ⟨w0, hw0⟩ : ∃ w0, w0 = w.alloc (.cells #[.int .i64 n, .slice v1 v2 v3, .int .i64 e, .slice u1 u2 u3] 54) := ⟨_, rfl⟩
  have hB0 : Below w.heap.size w w0 := by rw [hw0]; exact balloc w _
  have hX0 : Box4 w0 w.heap.size n e (.slice v1 v2 v3) (.slice u1 u2 u3) := by rw [hw0]; exact Box4.new w n e _ _
  have HCM := hide (fun W (h : Below w0.heap.size w0 W) => completes_ok n v1 v2 v3 u1 u2 u3 zs e q r p W (hG.below (bcat2 hB0 h)) (hT.below (bcat2 hB0 h)) hp)
  have HCS := hide (fun W (h : Below w0.heap.size w0 W) => cmms_ok n (.slice v1 v2 v3) (.slice u1 u2 u3) zs e q r c W (hG.below (bcat2 hB0 h)) (hT.below (bcat2 hB0 h)) hc)
  have hS : ∀ W, Below w0.heap.size w0 W → (Below w0.heap.size w0 W ∧ W.cell? ⟨w.heap.size, 0, none⟩ = some (.int .i64 n) ∧ W.cell? ⟨w.heap.size, 1, none⟩ = some (.slice v1 v2 v3) ∧ W.cell? ⟨w.heap.size, 2, none⟩ = some (.int .i64 e) ∧ W.cell? ⟨w.heap.size, 3, none⟩ = some (.slice u1 u2 u3)) := fun W h => ⟨h, (hX0.below h).cells.1, (hX0.below h).cells.2.1, (hX0.below h).cells.2.2.1, (hX0.below h).cells.2.2.2⟩
  have hBc : Below w0.heap.size w0 w0.drew := bdrew (Below.refl _ _)
  have hS0 := hS _ hBc
  obtain ⟨R, hR⟩ : ∃ R, dirB n e q r p c = R := ⟨_, rfl⟩
  have HR := hide (show (cmpB n e q r p && decide (bs c n = bs (fun a => decide (a = e)) n)) = R from hR)
  rw [hR]
  clear hR hp hc hG
  cases hB1 : cmpB n e q r p with
  | true =>
    rw [hB1] at HCM HR
    clear hB1
    obtain ⟨B2, hBe⟩ : ∃ B2, B2 = decide (bs c n = bs (fun a => decide (a = e)) n) := ⟨_, rfl⟩
    have HRES := hide (show R = B2 by rw [hBe]; have := HR.out; simpa using this.symm)
    have hB2 : (((bs c n : Nat) : Int) == ((bs (fun a => decide (a = e)) n : Nat) : Int)) = B2 := by
      rw [hBe]
      by_cases h : bs c n = bs (fun a => decide (a = e)) n
      · rw [decide_eq_true h]; simp [h]
      · rw [decide_eq_false h]
        have : ¬ ((bs c n : Nat) : Int) = ((bs (fun a => decide (a = e)) n : Nat) : Int) := by omega
        simpa using this
    clear HR hBe
    go_enter Tryz.func32, Tryz.ntmps32
    go_wp2_with fail
    rw [← hw0]
    clear hw0
    refine wp_region_held_drew (S := fun W => Below w0.heap.size w0 W ∧ W.cell? ⟨w.heap.size, 0, none⟩ = some (.int .i64 n) ∧ W.cell? ⟨w.heap.size, 1, none⟩ = some (.slice v1 v2 v3) ∧ W.cell? ⟨w.heap.size, 2, none⟩ = some (.int .i64 e) ∧ W.cell? ⟨w.heap.size, 3, none⟩ = some (.slice u1 u2 u3)) (by kernel_rfl) hS0 (fun hHeld => ?_)
    refine wpAnyH_take (i := 0) (oi := ({ dst := some 9, op := Go.Op.load 54 (Go.Operand.tmp 4), type := 54, pos := _, after := #[], guard := none } : Oper)) (v := ?_) rfl (by kernel_rfl) (by kernel_rfl) (by kernel_rfl) (fun _ _ _ h => h) (Or.inl ⟨by rfl, ?_⟩) (by assumption) ?_
    rotate_left
    · (intro w hSw; (try dsimp only at hSw); go_simp; try with_reducible rfl)
    simp only [Act.put, List.setIfInBounds_toArray, List.set_cons_zero, List.set_cons_succ]
    refine wpAnyH_take (i := 1) (oi := ({ dst := some 10, op := Go.Op.move (Go.Operand.tmp 1), type := 56, pos := _, after := #[], guard := none } : Oper)) (v := ?_) rfl (by kernel_rfl) (by kernel_rfl) (by kernel_rfl) (fun _ _ _ h => h) (Or.inl ⟨by rfl, ?_⟩) (by assumption) ?_
    rotate_left
    · (intro w hSw; (try dsimp only at hSw); go_simp; try with_reducible rfl)
    simp only [Act.put, List.setIfInBounds_toArray, List.set_cons_zero, List.set_cons_succ]
    refine wpAnyH_take (i := 2) (oi := ({ dst := some 11, op := Go.Op.move (Go.Operand.tmp 2), type := 56, pos := _, after := #[], guard := none } : Oper)) (v := ?_) rfl (by kernel_rfl) (by kernel_rfl) (by kernel_rfl) (fun _ _ _ h => h) (Or.inl ⟨by rfl, ?_⟩) (by assumption) ?_
    rotate_left
    · (intro w hSw; (try dsimp only at hSw); go_simp; try with_reducible rfl)
    simp only [Act.put, List.setIfInBounds_toArray, List.set_cons_zero, List.set_cons_succ]
    refine wpAnyH_take (i := 3) (oi := ({ dst := some 12, op := Go.Op.move (Go.Operand.tmp 3), type := 56, pos := _, after := #[], guard := none } : Oper)) (v := ?_) rfl (by kernel_rfl) (by kernel_rfl) (by kernel_rfl) (fun _ _ _ h => h) (Or.inl ⟨by rfl, ?_⟩) (by assumption) ?_
    rotate_left
    · (intro w hSw; (try dsimp only at hSw); go_simp; try with_reducible rfl)
    simp only [Act.put, List.setIfInBounds_toArray, List.set_cons_zero, List.set_cons_succ]
    refine wpAnyH_ready (rs := [4]) (by kernel_rfl) (by simp) (AllReadyH.cons (o := ({ dst := some 13, op := Go.Op.call { callee := Go.Callee.value (Go.Operand.func 61), args := #[Go.Operand.tmp 9, Go.Operand.tmp 10, Go.Operand.tmp 11, Go.Operand.tmp 12], argTypes := #[54, 56, 56, 56] }, type := 4, pos := _, after := #[{ on := 0, ground := Go.Ground.data }, { on := 1, ground := Go.Ground.data }, { on := 2, ground := Go.Ground.data }, { on := 3, ground := Go.Ground.data }], guard := none } : Oper)) rfl (fun KK hK => ?_) AllReadyH.nil)
    go_simp
    refine (HCM.out _ hBc).mono ?_
    rintro e1 U1 ⟨rfl, hl1⟩
    have hBc := bcat2 hBc hl1
    try go_wp2_with fail
    refine hK.out _ _ (hS _ hBc) (fun hHeld => ?_)
    clear hK
    try simp only [Act.put, List.setIfInBounds_toArray, List.set_cons_zero, List.set_cons_succ]
    refine wpAnyH_take (i := 5) (oi := ({ dst := some 14, op := Go.Op.move (Go.Operand.tmp 13), type := 4, pos := _, after := #[{ on := 4, ground := Go.Ground.data }, { on := 4, ground := Go.Ground.chain }], guard := none } : Oper)) (v := ?_) rfl (by kernel_rfl) (by kernel_rfl) (by kernel_rfl) (fun _ _ _ h => h) (Or.inl ⟨by rfl, ?_⟩) (by assumption) ?_
    rotate_left
    · (intro w hSw; (try dsimp only at hSw); go_simp; try with_reducible rfl)
    simp only [Act.put, List.setIfInBounds_toArray, List.set_cons_zero, List.set_cons_succ]
    refine wpAnyH_take (i := 6) (oi := ({ dst := some 15, op := Go.Op.load 54 (Go.Operand.tmp 4), type := 54, pos := _, after := #[{ on := 5, ground := Go.Ground.guard }], guard := some (5, true) } : Oper)) (v := ?_) rfl (by kernel_rfl) (by kernel_rfl) (by kernel_rfl) (fun _ _ _ h => h) (Or.inl ⟨by rfl, ?_⟩) (by assumption) ?_
    rotate_left
    · (intro w hSw; (try dsimp only at hSw); go_simp; try with_reducible rfl)
    simp only [Act.put, List.setIfInBounds_toArray, List.set_cons_zero, List.set_cons_succ]
    refine wpAnyH_take (i := 7) (oi := ({ dst := some 16, op := Go.Op.move (Go.Operand.tmp 1), type := 56, pos := _, after := #[{ on := 5, ground := Go.Ground.guard }], guard := some (5, true) } : Oper)) (v := ?_) rfl (by kernel_rfl) (by kernel_rfl) (by kernel_rfl) (fun _ _ _ h => h) (Or.inl ⟨by rfl, ?_⟩) (by assumption) ?_
    rotate_left
    · (intro w hSw; (try dsimp only at hSw); go_simp; try with_reducible rfl)
    simp only [Act.put, List.setIfInBounds_toArray, List.set_cons_zero, List.set_cons_succ]
    refine wpAnyH_take (i := 8) (oi := ({ dst := some 17, op := Go.Op.move (Go.Operand.tmp 2), type := 56, pos := _, after := #[{ on := 5, ground := Go.Ground.guard }], guard := some (5, true) } : Oper)) (v := ?_) rfl (by kernel_rfl) (by kernel_rfl) (by kernel_rfl) (fun _ _ _ h => h) (Or.inl ⟨by rfl, ?_⟩) (by assumption) ?_
    rotate_left
    · (intro w hSw; (try dsimp only at hSw); go_simp; try with_reducible rfl)
    simp only [Act.put, List.setIfInBounds_toArray, List.set_cons_zero, List.set_cons_succ]
    refine wpAnyH_take (i := 10) (oi := ({ dst := some 19, op := Go.Op.fieldAddr 54 (Go.Operand.tmp 4) 1, type := 0, pos := _, after := #[{ on := 5, ground := Go.Ground.guard }], guard := some (5, true) } : Oper)) (v := ?_) rfl (by kernel_rfl) (by kernel_rfl) (by kernel_rfl) (fun _ _ _ h => h) (Or.inl ⟨by rfl, ?_⟩) (by assumption) ?_
    rotate_left
    · (intro w hSw; (try dsimp only at hSw); go_simp; try with_reducible rfl)
    simp only [Act.put, List.setIfInBounds_toArray, List.set_cons_zero, List.set_cons_succ]
    refine wpAnyH_take (i := 11) (oi := ({ dst := some 20, op := Go.Op.load 3 (Go.Operand.tmp 19), type := 3, pos := _, after := #[{ on := 10, ground := Go.Ground.data }, { on := 5, ground := Go.Ground.guard }], guard := some (5, true) } : Oper)) (v := ?_) rfl (by kernel_rfl) (by kernel_rfl) (by kernel_rfl) (fun _ _ _ h => h) (Or.inl ⟨by rfl, ?_⟩) (by assumption) ?_
    rotate_left
    · (intro w hSw; (try dsimp only at hSw); go_simp; try with_reducible rfl)
    simp only [Act.put, List.setIfInBounds_toArray, List.set_cons_zero, List.set_cons_succ]
    refine wpAnyH_ready (rs := [9, 12]) (by kernel_rfl) (by simp) (AllReadyH.cons (o := ({ dst := some 18, op := Go.Op.call { callee := Go.Callee.value (Go.Operand.func 62), args := #[Go.Operand.tmp 15, Go.Operand.tmp 16, Go.Operand.tmp 17], argTypes := #[54, 56, 56] }, type := 56, pos := _, after := #[{ on := 6, ground := Go.Ground.data }, { on := 7, ground := Go.Ground.data }, { on := 8, ground := Go.Ground.data }, { on := 5, ground := Go.Ground.chain }, { on := 5, ground := Go.Ground.guard }], guard := some (5, true) } : Oper)) rfl (fun KK hK => ?_) (AllReadyH.cons (o := ({ dst := some 21, op := Go.Op.buildSlice 22 1 #[(0, Go.Operand.tmp 20)], type := 22, pos := _, after := #[{ on := 11, ground := Go.Ground.data }, { on := 5, ground := Go.Ground.guard }], guard := some (5, true) } : Oper)) rfl (fun KK hK => ?_) AllReadyH.nil))
    · go_simp
      refine (HCS.out _ hBc).mono ?_
      rintro e2 U2 ⟨rfl, hl2⟩
      have hBc := bcat2 hBc hl2
      try go_wp2_with fail
      refine hK.out _ _ (hS _ hBc) (fun hHeld => ?_)
      clear hK
      try simp only [Act.put, List.setIfInBounds_toArray, List.set_cons_zero, List.set_cons_succ]
      refine wpAnyH_ready (rs := [12]) (by kernel_rfl) (by simp) (AllReadyH.cons (o := ({ dst := some 21, op := Go.Op.buildSlice 22 1 #[(0, Go.Operand.tmp 20)], type := 22, pos := _, after := #[{ on := 11, ground := Go.Ground.data }, { on := 5, ground := Go.Ground.guard }], guard := some (5, true) } : Oper)) rfl (fun KK hK => ?_) AllReadyH.nil)
      go_simp
      have hcq : (U2.alloc (.cells #[.int .i64 e] 3)).cell? ⟨U2.heap.size, 0, none⟩ = some (.int .i64 e) := (blk1 U2 (.int .i64 e)).cell 0
      have hBc := bcat2 hBc (balloc U2 (.cells #[.int .i64 e] 3))
      refine hK.out _ _ (hS _ hBc) (fun hHeld => ?_)
      clear hK
      try simp only [Act.put, List.setIfInBounds_toArray, List.set_cons_zero, List.set_cons_succ]
      generalize U2.alloc (.cells #[.int .i64 e] 3) = WA at *
      generalize U2.heap.size = ab at *
      refine wpAnyH_ready (rs := [13]) (by kernel_rfl) (by simp) (AllReadyH.cons (o := ({ dst := some 22, op := Go.Op.call { callee := Go.Callee.value (Go.Operand.func 33), args := #[Go.Operand.tmp 21], argTypes := #[22] }, type := 56, pos := _, after := #[{ on := 12, ground := Go.Ground.data }, { on := 9, ground := Go.Ground.chain }, { on := 5, ground := Go.Ground.guard }], guard := some (5, true) } : Oper)) rfl (fun KK hK => ?_) AllReadyH.nil)
      go_simp
      refine (of_one n ab e _ hn he hcq).mono ?_
      rintro e3 U3 ⟨rfl, hw3⟩
      subst hw3
      try go_wp2_with fail
      refine hK.out _ _ (hS _ hBc) (fun hHeld => ?_)
      clear hK
      try simp only [Act.put, List.setIfInBounds_toArray, List.set_cons_zero, List.set_cons_succ]
      refine wpAnyH_take (i := 14) (oi := ({ dst := some 23, op := Go.Op.binOp Go.BinOp.eql 56 (Go.Operand.tmp 18) (Go.Operand.tmp 22) 56, type := 4, pos := _, after := #[{ on := 9, ground := Go.Ground.data }, { on := 13, ground := Go.Ground.data }, { on := 5, ground := Go.Ground.guard }], guard := some (5, true) } : Oper)) (v := .bool B2) rfl (by kernel_rfl) (by kernel_rfl) (by kernel_rfl) (fun _ _ _ h => h) (Or.inl ⟨by rfl, ?_⟩) (by assumption) ?_
      · (intro w hSw; (try dsimp only at hSw); go_simp; try (first | with_reducible rfl | (simp [hB2]; done) | exact hB2v _ | (simp; done) | omega | (simp; omega)))
      simp only [Act.put, List.setIfInBounds_toArray, List.set_cons_zero, List.set_cons_succ]
      refine wpAnyH_take (i := 15) (oi := ({ dst := some 24, op := Go.Op.pick (Go.Operand.tmp 14) (Go.Operand.tmp 23) (Go.Operand.const (Go.Value.bool false)), type := 4, pos := _, after := #[{ on := 5, ground := Go.Ground.data }, { on := 14, ground := Go.Ground.data }], guard := none } : Oper)) (v := .bool B2) rfl (by kernel_rfl) (by kernel_rfl) (by kernel_rfl) (fun _ _ _ h => h) (Or.inl ⟨by rfl, ?_⟩) (by assumption) ?_
      · (intro w hSw; (try dsimp only at hSw); go_simp; try (first | with_reducible rfl | (simp; done) | omega | (simp; omega)))
      simp only [Act.put, List.setIfInBounds_toArray, List.set_cons_zero, List.set_cons_succ]
      refine wpAnyH_take (i := 16) (oi := ({ dst := some 8, op := Go.Op.assign (Go.Operand.tmp 24), type := 4, pos := _, after := #[{ on := 15, ground := Go.Ground.data }, { on := 13, ground := Go.Ground.chain }, { on := 0, ground := Go.Ground.phase }, { on := 1, ground := Go.Ground.phase }, { on := 2, ground := Go.Ground.phase }, { on := 3, ground := Go.Ground.phase }, { on := 4, ground := Go.Ground.phase }, { on := 5, ground := Go.Ground.phase }, { on := 6, ground := Go.Ground.phase }, { on := 7, ground := Go.Ground.phase }, { on := 8, ground := Go.Ground.phase }, { on := 9, ground := Go.Ground.phase }, { on := 10, ground := Go.Ground.phase }, { on := 11, ground := Go.Ground.phase }, { on := 12, ground := Go.Ground.phase }, { on := 13, ground := Go.Ground.phase }, { on := 14, ground := Go.Ground.phase }, { on := 15, ground := Go.Ground.phase }], guard := none } : Oper)) (v := ?_) rfl (by kernel_rfl) (by kernel_rfl) (by kernel_rfl) (fun _ _ _ h => h) (Or.inl ⟨by rfl, ?_⟩) (by assumption) ?_
      rotate_left
      · (intro w hSw; (try dsimp only at hSw); go_simp; try with_reducible rfl)
      simp only [Act.put, List.setIfInBounds_toArray, List.set_cons_zero, List.set_cons_succ]
      refine wpAnyH_done (by kernel_rfl) ?_ _
      have hBz := bcat2 hB0 hBc
      go_wp2
      go_ret
      exact ⟨by simp [HRES.out], hBz⟩
    · go_simp
      have hcq : (U1.alloc (.cells #[.int .i64 e] 3)).cell? ⟨U1.heap.size, 0, none⟩ = some (.int .i64 e) := (blk1 U1 (.int .i64 e)).cell 0
      have hBc := bcat2 hBc (balloc U1 (.cells #[.int .i64 e] 3))
      refine hK.out _ _ (hS _ hBc) (fun hHeld => ?_)
      clear hK
      try simp only [Act.put, List.setIfInBounds_toArray, List.set_cons_zero, List.set_cons_succ]
      generalize U1.alloc (.cells #[.int .i64 e] 3) = WA at *
      generalize U1.heap.size = ab at *
      refine wpAnyH_ready (rs := [9]) (by kernel_rfl) (by simp) (AllReadyH.cons (o := ({ dst := some 18, op := Go.Op.call { callee := Go.Callee.value (Go.Operand.func 62), args := #[Go.Operand.tmp 15, Go.Operand.tmp 16, Go.Operand.tmp 17], argTypes := #[54, 56, 56] }, type := 56, pos := _, after := #[{ on := 6, ground := Go.Ground.data }, { on := 7, ground := Go.Ground.data }, { on := 8, ground := Go.Ground.data }, { on := 5, ground := Go.Ground.chain }, { on := 5, ground := Go.Ground.guard }], guard := some (5, true) } : Oper)) rfl (fun KK hK => ?_) AllReadyH.nil)
      go_simp
      refine (HCS.out _ hBc).mono ?_
      rintro e2 U2 ⟨rfl, hl2⟩
      have hBc := bcat2 hBc hl2
      have hcq := below_cell hl2 hcq
      try go_wp2_with fail
      refine hK.out _ _ (hS _ hBc) (fun hHeld => ?_)
      clear hK
      try simp only [Act.put, List.setIfInBounds_toArray, List.set_cons_zero, List.set_cons_succ]
      refine wpAnyH_ready (rs := [13]) (by kernel_rfl) (by simp) (AllReadyH.cons (o := ({ dst := some 22, op := Go.Op.call { callee := Go.Callee.value (Go.Operand.func 33), args := #[Go.Operand.tmp 21], argTypes := #[22] }, type := 56, pos := _, after := #[{ on := 12, ground := Go.Ground.data }, { on := 9, ground := Go.Ground.chain }, { on := 5, ground := Go.Ground.guard }], guard := some (5, true) } : Oper)) rfl (fun KK hK => ?_) AllReadyH.nil)
      go_simp
      refine (of_one n ab e _ hn he hcq).mono ?_
      rintro e3 U3 ⟨rfl, hw3⟩
      subst hw3
      try go_wp2_with fail
      refine hK.out _ _ (hS _ hBc) (fun hHeld => ?_)
      clear hK
      try simp only [Act.put, List.setIfInBounds_toArray, List.set_cons_zero, List.set_cons_succ]
      refine wpAnyH_take (i := 14) (oi := ({ dst := some 23, op := Go.Op.binOp Go.BinOp.eql 56 (Go.Operand.tmp 18) (Go.Operand.tmp 22) 56, type := 4, pos := _, after := #[{ on := 9, ground := Go.Ground.data }, { on := 13, ground := Go.Ground.data }, { on := 5, ground := Go.Ground.guard }], guard := some (5, true) } : Oper)) (v := .bool B2) rfl (by kernel_rfl) (by kernel_rfl) (by kernel_rfl) (fun _ _ _ h => h) (Or.inl ⟨by rfl, ?_⟩) (by assumption) ?_
      · (intro w hSw; (try dsimp only at hSw); go_simp; try (first | with_reducible rfl | (simp [hB2]; done) | exact hB2v _ | (simp; done) | omega | (simp; omega)))
      simp only [Act.put, List.setIfInBounds_toArray, List.set_cons_zero, List.set_cons_succ]
      refine wpAnyH_take (i := 15) (oi := ({ dst := some 24, op := Go.Op.pick (Go.Operand.tmp 14) (Go.Operand.tmp 23) (Go.Operand.const (Go.Value.bool false)), type := 4, pos := _, after := #[{ on := 5, ground := Go.Ground.data }, { on := 14, ground := Go.Ground.data }], guard := none } : Oper)) (v := .bool B2) rfl (by kernel_rfl) (by kernel_rfl) (by kernel_rfl) (fun _ _ _ h => h) (Or.inl ⟨by rfl, ?_⟩) (by assumption) ?_
      · (intro w hSw; (try dsimp only at hSw); go_simp; try (first | with_reducible rfl | (simp; done) | omega | (simp; omega)))
      simp only [Act.put, List.setIfInBounds_toArray, List.set_cons_zero, List.set_cons_succ]
      refine wpAnyH_take (i := 16) (oi := ({ dst := some 8, op := Go.Op.assign (Go.Operand.tmp 24), type := 4, pos := _, after := #[{ on := 15, ground := Go.Ground.data }, { on := 13, ground := Go.Ground.chain }, { on := 0, ground := Go.Ground.phase }, { on := 1, ground := Go.Ground.phase }, { on := 2, ground := Go.Ground.phase }, { on := 3, ground := Go.Ground.phase }, { on := 4, ground := Go.Ground.phase }, { on := 5, ground := Go.Ground.phase }, { on := 6, ground := Go.Ground.phase }, { on := 7, ground := Go.Ground.phase }, { on := 8, ground := Go.Ground.phase }, { on := 9, ground := Go.Ground.phase }, { on := 10, ground := Go.Ground.phase }, { on := 11, ground := Go.Ground.phase }, { on := 12, ground := Go.Ground.phase }, { on := 13, ground := Go.Ground.phase }, { on := 14, ground := Go.Ground.phase }, { on := 15, ground := Go.Ground.phase }], guard := none } : Oper)) (v := ?_) rfl (by kernel_rfl) (by kernel_rfl) (by kernel_rfl) (fun _ _ _ h => h) (Or.inl ⟨by rfl, ?_⟩) (by assumption) ?_
      rotate_left
      · (intro w hSw; (try dsimp only at hSw); go_simp; try with_reducible rfl)
      simp only [Act.put, List.setIfInBounds_toArray, List.set_cons_zero, List.set_cons_succ]
      refine wpAnyH_done (by kernel_rfl) ?_ _
      have hBz := bcat2 hB0 hBc
      go_wp2
      go_ret
      exact ⟨by simp [HRES.out], hBz⟩
  | false =>
    rw [hB1] at HCM HR
    clear hB1
    have HRES := hide (show R = false by have := HR.out; simpa using this)
    clear HR HCS
    go_enter Tryz.func32, Tryz.ntmps32
    go_wp2_with fail
    rw [← hw0]
    clear hw0
    refine wp_region_held_drew (S := fun W => Below w0.heap.size w0 W ∧ W.cell? ⟨w.heap.size, 0, none⟩ = some (.int .i64 n) ∧ W.cell? ⟨w.heap.size, 1, none⟩ = some (.slice v1 v2 v3) ∧ W.cell? ⟨w.heap.size, 2, none⟩ = some (.int .i64 e) ∧ W.cell? ⟨w.heap.size, 3, none⟩ = some (.slice u1 u2 u3)) (by kernel_rfl) hS0 (fun hHeld => ?_)
    refine wpAnyH_take (i := 0) (oi := ({ dst := some 9, op := Go.Op.load 54 (Go.Operand.tmp 4), type := 54, pos := _, after := #[], guard := none } : Oper)) (v := ?_) rfl (by kernel_rfl) (by kernel_rfl) (by kernel_rfl) (fun _ _ _ h => h) (Or.inl ⟨by rfl, ?_⟩) (by assumption) ?_
    rotate_left
    · (intro w hSw; (try dsimp only at hSw); go_simp; try with_reducible rfl)
    simp only [Act.put, List.setIfInBounds_toArray, List.set_cons_zero, List.set_cons_succ]
    refine wpAnyH_take (i := 1) (oi := ({ dst := some 10, op := Go.Op.move (Go.Operand.tmp 1), type := 56, pos := _, after := #[], guard := none } : Oper)) (v := ?_) rfl (by kernel_rfl) (by kernel_rfl) (by kernel_rfl) (fun _ _ _ h => h) (Or.inl ⟨by rfl, ?_⟩) (by assumption) ?_
    rotate_left
    · (intro w hSw; (try dsimp only at hSw); go_simp; try with_reducible rfl)
    simp only [Act.put, List.setIfInBounds_toArray, List.set_cons_zero, List.set_cons_succ]
    refine wpAnyH_take (i := 2) (oi := ({ dst := some 11, op := Go.Op.move (Go.Operand.tmp 2), type := 56, pos := _, after := #[], guard := none } : Oper)) (v := ?_) rfl (by kernel_rfl) (by kernel_rfl) (by kernel_rfl) (fun _ _ _ h => h) (Or.inl ⟨by rfl, ?_⟩) (by assumption) ?_
    rotate_left
    · (intro w hSw; (try dsimp only at hSw); go_simp; try with_reducible rfl)
    simp only [Act.put, List.setIfInBounds_toArray, List.set_cons_zero, List.set_cons_succ]
    refine wpAnyH_take (i := 3) (oi := ({ dst := some 12, op := Go.Op.move (Go.Operand.tmp 3), type := 56, pos := _, after := #[], guard := none } : Oper)) (v := ?_) rfl (by kernel_rfl) (by kernel_rfl) (by kernel_rfl) (fun _ _ _ h => h) (Or.inl ⟨by rfl, ?_⟩) (by assumption) ?_
    rotate_left
    · (intro w hSw; (try dsimp only at hSw); go_simp; try with_reducible rfl)
    simp only [Act.put, List.setIfInBounds_toArray, List.set_cons_zero, List.set_cons_succ]
    refine wpAnyH_ready (rs := [4]) (by kernel_rfl) (by simp) (AllReadyH.cons (o := ({ dst := some 13, op := Go.Op.call { callee := Go.Callee.value (Go.Operand.func 61), args := #[Go.Operand.tmp 9, Go.Operand.tmp 10, Go.Operand.tmp 11, Go.Operand.tmp 12], argTypes := #[54, 56, 56, 56] }, type := 4, pos := _, after := #[{ on := 0, ground := Go.Ground.data }, { on := 1, ground := Go.Ground.data }, { on := 2, ground := Go.Ground.data }, { on := 3, ground := Go.Ground.data }], guard := none } : Oper)) rfl (fun KK hK => ?_) AllReadyH.nil)
    go_simp
    refine (HCM.out _ hBc).mono ?_
    rintro e1 U1 ⟨rfl, hl1⟩
    have hBc := bcat2 hBc hl1
    try go_wp2_with fail
    refine hK.out _ _ (hS _ hBc) (fun hHeld => ?_)
    clear hK
    try simp only [Act.put, List.setIfInBounds_toArray, List.set_cons_zero, List.set_cons_succ]
    refine wpAnyH_take (i := 5) (oi := ({ dst := some 14, op := Go.Op.move (Go.Operand.tmp 13), type := 4, pos := _, after := #[{ on := 4, ground := Go.Ground.data }, { on := 4, ground := Go.Ground.chain }], guard := none } : Oper)) (v := ?_) rfl (by kernel_rfl) (by kernel_rfl) (by kernel_rfl) (fun _ _ _ h => h) (Or.inl ⟨by rfl, ?_⟩) (by assumption) ?_
    rotate_left
    · (intro w hSw; (try dsimp only at hSw); go_simp; try with_reducible rfl)
    simp only [Act.put, List.setIfInBounds_toArray, List.set_cons_zero, List.set_cons_succ]
    refine wpAnyH_take (i := 6) (oi := ({ dst := some 15, op := Go.Op.load 54 (Go.Operand.tmp 4), type := 54, pos := _, after := #[{ on := 5, ground := Go.Ground.guard }], guard := some (5, true) } : Oper)) (v := undef) rfl (by kernel_rfl) (by kernel_rfl) (by kernel_rfl) (fun _ _ _ h => h) (Or.inr ⟨by rfl, rfl⟩) (by assumption) ?_
    simp only [Act.put, List.setIfInBounds_toArray, List.set_cons_zero, List.set_cons_succ]
    refine wpAnyH_take (i := 7) (oi := ({ dst := some 16, op := Go.Op.move (Go.Operand.tmp 1), type := 56, pos := _, after := #[{ on := 5, ground := Go.Ground.guard }], guard := some (5, true) } : Oper)) (v := undef) rfl (by kernel_rfl) (by kernel_rfl) (by kernel_rfl) (fun _ _ _ h => h) (Or.inr ⟨by rfl, rfl⟩) (by assumption) ?_
    simp only [Act.put, List.setIfInBounds_toArray, List.set_cons_zero, List.set_cons_succ]
    refine wpAnyH_take (i := 8) (oi := ({ dst := some 17, op := Go.Op.move (Go.Operand.tmp 2), type := 56, pos := _, after := #[{ on := 5, ground := Go.Ground.guard }], guard := some (5, true) } : Oper)) (v := undef) rfl (by kernel_rfl) (by kernel_rfl) (by kernel_rfl) (fun _ _ _ h => h) (Or.inr ⟨by rfl, rfl⟩) (by assumption) ?_
    simp only [Act.put, List.setIfInBounds_toArray, List.set_cons_zero, List.set_cons_succ]
    refine wpAnyH_take (i := 9) (oi := ({ dst := some 18, op := Go.Op.call { callee := Go.Callee.value (Go.Operand.func 62), args := #[Go.Operand.tmp 15, Go.Operand.tmp 16, Go.Operand.tmp 17], argTypes := #[54, 56, 56] }, type := 56, pos := _, after := #[{ on := 6, ground := Go.Ground.data }, { on := 7, ground := Go.Ground.data }, { on := 8, ground := Go.Ground.data }, { on := 5, ground := Go.Ground.chain }, { on := 5, ground := Go.Ground.guard }], guard := some (5, true) } : Oper)) (v := undef) rfl (by kernel_rfl) (by kernel_rfl) (by kernel_rfl) (fun _ _ _ h => h) (Or.inr ⟨by rfl, rfl⟩) (by assumption) ?_
    simp only [Act.put, List.setIfInBounds_toArray, List.set_cons_zero, List.set_cons_succ]
    refine wpAnyH_take (i := 10) (oi := ({ dst := some 19, op := Go.Op.fieldAddr 54 (Go.Operand.tmp 4) 1, type := 0, pos := _, after := #[{ on := 5, ground := Go.Ground.guard }], guard := some (5, true) } : Oper)) (v := undef) rfl (by kernel_rfl) (by kernel_rfl) (by kernel_rfl) (fun _ _ _ h => h) (Or.inr ⟨by rfl, rfl⟩) (by assumption) ?_
    simp only [Act.put, List.setIfInBounds_toArray, List.set_cons_zero, List.set_cons_succ]
    refine wpAnyH_take (i := 11) (oi := ({ dst := some 20, op := Go.Op.load 3 (Go.Operand.tmp 19), type := 3, pos := _, after := #[{ on := 10, ground := Go.Ground.data }, { on := 5, ground := Go.Ground.guard }], guard := some (5, true) } : Oper)) (v := undef) rfl (by kernel_rfl) (by kernel_rfl) (by kernel_rfl) (fun _ _ _ h => h) (Or.inr ⟨by rfl, rfl⟩) (by assumption) ?_
    simp only [Act.put, List.setIfInBounds_toArray, List.set_cons_zero, List.set_cons_succ]
    refine wpAnyH_take (i := 12) (oi := ({ dst := some 21, op := Go.Op.buildSlice 22 1 #[(0, Go.Operand.tmp 20)], type := 22, pos := _, after := #[{ on := 11, ground := Go.Ground.data }, { on := 5, ground := Go.Ground.guard }], guard := some (5, true) } : Oper)) (v := undef) rfl (by kernel_rfl) (by kernel_rfl) (by kernel_rfl) (fun _ _ _ h => h) (Or.inr ⟨by rfl, rfl⟩) (by assumption) ?_
    simp only [Act.put, List.setIfInBounds_toArray, List.set_cons_zero, List.set_cons_succ]
    refine wpAnyH_take (i := 13) (oi := ({ dst := some 22, op := Go.Op.call { callee := Go.Callee.value (Go.Operand.func 33), args := #[Go.Operand.tmp 21], argTypes := #[22] }, type := 56, pos := _, after := #[{ on := 12, ground := Go.Ground.data }, { on := 9, ground := Go.Ground.chain }, { on := 5, ground := Go.Ground.guard }], guard := some (5, true) } : Oper)) (v := undef) rfl (by kernel_rfl) (by kernel_rfl) (by kernel_rfl) (fun _ _ _ h => h) (Or.inr ⟨by rfl, rfl⟩) (by assumption) ?_
    simp only [Act.put, List.setIfInBounds_toArray, List.set_cons_zero, List.set_cons_succ]
    refine wpAnyH_take (i := 14) (oi := ({ dst := some 23, op := Go.Op.binOp Go.BinOp.eql 56 (Go.Operand.tmp 18) (Go.Operand.tmp 22) 56, type := 4, pos := _, after := #[{ on := 9, ground := Go.Ground.data }, { on := 13, ground := Go.Ground.data }, { on := 5, ground := Go.Ground.guard }], guard := some (5, true) } : Oper)) (v := undef) rfl (by kernel_rfl) (by kernel_rfl) (by kernel_rfl) (fun _ _ _ h => h) (Or.inr ⟨by rfl, rfl⟩) (by assumption) ?_
    simp only [Act.put, List.setIfInBounds_toArray, List.set_cons_zero, List.set_cons_succ]
    refine wpAnyH_take (i := 15) (oi := ({ dst := some 24, op := Go.Op.pick (Go.Operand.tmp 14) (Go.Operand.tmp 23) (Go.Operand.const (Go.Value.bool false)), type := 4, pos := _, after := #[{ on := 5, ground := Go.Ground.data }, { on := 14, ground := Go.Ground.data }], guard := none } : Oper)) (v := ?_) rfl (by kernel_rfl) (by kernel_rfl) (by kernel_rfl) (fun _ _ _ h => h) (Or.inl ⟨by rfl, ?_⟩) (by assumption) ?_
    rotate_left
    · (intro w hSw; (try dsimp only at hSw); go_simp; try with_reducible rfl)
    simp only [Act.put, List.setIfInBounds_toArray, List.set_cons_zero, List.set_cons_succ]
    refine wpAnyH_take (i := 16) (oi := ({ dst := some 8, op := Go.Op.assign (Go.Operand.tmp 24), type := 4, pos := _, after := #[{ on := 15, ground := Go.Ground.data }, { on := 13, ground := Go.Ground.chain }, { on := 0, ground := Go.Ground.phase }, { on := 1, ground := Go.Ground.phase }, { on := 2, ground := Go.Ground.phase }, { on := 3, ground := Go.Ground.phase }, { on := 4, ground := Go.Ground.phase }, { on := 5, ground := Go.Ground.phase }, { on := 6, ground := Go.Ground.phase }, { on := 7, ground := Go.Ground.phase }, { on := 8, ground := Go.Ground.phase }, { on := 9, ground := Go.Ground.phase }, { on := 10, ground := Go.Ground.phase }, { on := 11, ground := Go.Ground.phase }, { on := 12, ground := Go.Ground.phase }, { on := 13, ground := Go.Ground.phase }, { on := 14, ground := Go.Ground.phase }, { on := 15, ground := Go.Ground.phase }], guard := none } : Oper)) (v := ?_) rfl (by kernel_rfl) (by kernel_rfl) (by kernel_rfl) (fun _ _ _ h => h) (Or.inl ⟨by rfl, ?_⟩) (by assumption) ?_
    rotate_left
    · (intro w hSw; (try dsimp only at hSw); go_simp; try with_reducible rfl)
    simp only [Act.put, List.setIfInBounds_toArray, List.set_cons_zero, List.set_cons_succ]
    refine wpAnyH_done (by kernel_rfl) ?_ _
    have hBz := bcat2 hB0 hBc
    go_wp2
    go_ret
    exact ⟨by simp [HRES.out], hBz⟩
end Go.Proofs.YtgdpgbldjpeopaaGreatDoor

namespace Go.Proofs.YtgdpgbldjpeopaaGreatDoor
open Go Go.RowKit

/-- What Direct answers. -/
def DirR (c1 i1 c2 i2 : Int) (D b : Bool) (c i : Int) : Prop := (c1 ≠ 0 ∧ b = false ∧ c = c1 ∧ i = i1) ∨ (c1 = 0 ∧ c2 ≠ 0 ∧ b = false ∧ c = c2 ∧ i = i2) ∨ (c1 = 0 ∧ c2 = 0 ∧ b = D ∧ c = 0 ∧ i = 0)
theorem dir1 {c1 i1 c2 i2 : Int} {D : Bool} (h : c1 ≠ 0) : DirR c1 i1 c2 i2 D false c1 i1 := .inl ⟨h, rfl, rfl, rfl⟩
theorem dir2 {c1 i1 c2 i2 : Int} {D : Bool} (h0 : c1 = 0) (h : c2 ≠ 0) : DirR c1 i1 c2 i2 D false c2 i2 := .inr (.inl ⟨h0, h, rfl, rfl, rfl⟩)
theorem dir3 {c1 i1 c2 i2 : Int} {D : Bool} (h0 : c1 = 0) (h : c2 = 0) : DirR c1 i1 c2 i2 D D 0 0 := .inr (.inr ⟨h0, h, rfl, rfl, rfl⟩)
set_option maxRecDepth 100000 in
set_option maxHeartbeats 8000000 in
theorem dir_walk (N e : Int) (v1 : Option Addr) (v2 v3 : Nat) (l1 : Option Addr) (l2 l3 : Nat) (m1 : Option Addr) (m2 m3 : Nat) (b1 b2 D : Bool) (c1 i1 c2 i2 s1 s2 s3 : Int) (w : World)
    (HN1 : Hid (∀ W, Below w.heap.size w W → Calls Tryz.prog 11 #[.agg #[.int .i64 N, .slice v1 v2 v3], .slice l1 l2 l3] W fun x W' => x = .returned (.tuple #[.bool b1, .agg #[.int .i64 c1, .int .i64 i1]]) ∧ Below W.heap.size W W'))
    (HN2 : Hid (∀ W, Below w.heap.size w W → Calls Tryz.prog 11 #[.agg #[.int .i64 N, .slice v1 v2 v3], .slice m1 m2 m3] W fun x W' => x = .returned (.tuple #[.bool b2, .agg #[.int .i64 c2, .int .i64 i2]]) ∧ Below W.heap.size W W'))
    (GP : World → Value → Prop) (HGP : Hid (∀ W W' u, GP W u → Below W.heap.size W W' → GP W' u))
    (HOP : Hid (c1 = 0 → c2 = 0 → ∀ W, Below w.heap.size w W → Calls Tryz.prog 31 #[.agg #[.int .i64 N, .slice v1 v2 v3]] W fun x W' => ∃ u1 u2 u3, x = .returned (.tuple #[.agg #[.int .i64 N, .slice v1 v2 v3, .int .i64 e, .slice u1 u2 u3], .agg #[.int .i64 0, .int .i64 0]]) ∧ GP W' (.slice u1 u2 u3) ∧ Below W.heap.size W W'))
    (HO1 : Hid (c1 = 0 → c2 = 0 → ∀ W, Below w.heap.size w W → Calls Tryz.prog 33 #[.slice l1 l2 l3] W fun x W' => x = .returned (.int .u64 s1) ∧ Below W.heap.size W W'))
    (HO2 : Hid (c1 = 0 → c2 = 0 → ∀ W, Below w.heap.size w W → Calls Tryz.prog 33 #[.slice m1 m2 m3] W fun x W' => x = .returned (.int .u64 s2) ∧ Below W.heap.size W W'))
    (HAL : Hid (c1 = 0 → c2 = 0 → ∀ W u, Below w.heap.size w W → Calls Tryz.prog 28 #[.agg #[.int .i64 N, .slice v1 v2 v3, .int .i64 e, u]] W fun x W' => x = .returned (.int .u64 s3) ∧ Below W.heap.size W W'))
    (HDI : Hid (c1 = 0 → c2 = 0 → ∀ W u, Below w.heap.size w W → GP W u → Calls Tryz.prog 32 #[.agg #[.int .i64 N, .slice v1 v2 v3, .int .i64 e, u], .int .u64 s1, .int .u64 s2, .int .u64 s3] W fun x W' => x = .returned (.bool D) ∧ Below W.heap.size W W')) :
    Calls Tryz.prog 13 #[.agg #[.int .i64 N, .slice v1 v2 v3], .slice l1 l2 l3, .slice m1 m2 m3] w fun x w' => ∃ b c i, x = .returned (.tuple #[.bool b, .agg #[.int .i64 c, .int .i64 i]]) ∧ DirR c1 i1 c2 i2 D b c i ∧ Below w.heap.size w w' := by
  have HD1 := hide (fun h => dir1 (c1 := c1) (i1 := i1) (c2 := c2) (i2 := i2) (D := D) h)
  have HD2 := hide (fun h0 h => dir2 (c1 := c1) (i1 := i1) (c2 := c2) (i2 := i2) (D := D) h0 h)
  have HD3 := hide (fun h0 h => dir3 (c1 := c1) (i1 := i1) (c2 := c2) (i2 := i2) (D := D) h0 h)
  obtain ⟨w0, BG⟩ := Beg.new w N (.slice v1 v2 v3)
  go_enter Tryz.func13, Tryz.ntmps13
  go_wp2_with fail
  rw [← BG.eq]
  have hsz0 : w.heap.size + 1 + 1 = w0.heap.size := by rw [BG.eq]; simp
  rw [hsz0]
  have HSZ := hide hsz0
  clear hsz0
  obtain ⟨wa, hwa⟩ : ∃ wa, wa = w0.alloc (.cells #[.slice l1 l2 l3, .slice m1 m2 m3] 22) := ⟨_, rfl⟩
  have hba : Below w0.heap.size w0 wa := by rw [hwa]; exact balloc w0 _
  have hQa : Blk wa w0.heap.size 22 [.slice l1 l2 l3, .slice m1 m2 m3] := by rw [hwa]; exact World.alloc_heap_new w0 _
  rw [← hwa]
  clear hwa
  have hBa := bcat2 BG.bel hba
  have hXa := blk_below BG.box hba
  have hRa := blk_below BG.res hba
  clear BG hba
  generalize w0.heap.size = qb at *
  go_loopw [18] (fun iv wr => (iv = .int .i64 0 ∨ (iv = .int .i64 1 ∧ c1 = 0) ∨ (iv = .int .i64 2 ∧ c1 = 0 ∧ c2 = 0)) ∧ Below wa.heap.size wa wr) (fun iv _ => 2 - (intOf iv).toNat)
  case atStart => exact ⟨.inl rfl, Below.refl _ _⟩
  case round =>
    obtain ⟨hcase, hb⟩ := hrel
    have hBr := bcat2 hBa hb
    have hXr := blk_below hXa hb
    have hRr := blk_below hRa hb
    have hQr := blk_below hQa hb
    have q0 := hQr.cell 0
    have q1 := hQr.cell 1
    simp at q0 q1
    clear hQr
    rcases hcase with rfl | ⟨rfl, hc1⟩ | ⟨rfl, hc1, hc2⟩
    · obtain ⟨x0, x1, _, _⟩ := hXr.two
      go_wp2_with fail
      clear q0 q1 x0 x1
      refine (HN1.out _ hBr).mono ?_
      rintro x w2 ⟨rfl, hb2⟩
      have hbx := bcat2 hb2 (balloc w2 (.cells #[.int .i64 c1, .int .i64 i1] 28))
      have hF2 := blk0 (w := w2) (T := 28) (.int .i64 c1) (.int .i64 i1)
      have hb02 := bcat2 hb hbx
      have hBw2 := bcat2 hBr hbx
      have hR2 := blk_below hRr hbx
      obtain ⟨t0, t1, _, _⟩ := hF2.two
      by_cases hz : c1 = 0
      · have HZ := hide hz
        rw [hz] at t0 hb02 ⊢
        clear hz
        go_wp2
        go_roundw
        case rel => exact ⟨.inr (.inl ⟨rfl, HZ.out⟩), hb02⟩
        case measure => simp [intOf]
      · have hzb : (c1 != 0) = true := by simpa using hz
        have HZ := hide hz
        clear hz
        obtain ⟨y0, y1, fy0, fy1⟩ := hR2.two
        obtain ⟨hR6, hB6⟩ := put2 hR2 hBw2 (by omega) c1 i1
        obtain ⟨z0, z1, _, _⟩ := hR6.two
        go_wp2_with fail
        go_region
        all_goals (
          go_wp2
          exact bodyPost_ret (v := .tuple #[.bool false, .agg #[.int .i64 c1, .int .i64 i1]]) (by simp [results, Tryz.results13, go_sem, z0, z1]) rfl ⟨_, _, _, rfl, HD1.out HZ.out, bdrew hB6⟩)
    · have HC1 := hide hc1
      clear hc1
      obtain ⟨x0, x1, _, _⟩ := hXr.two
      go_wp2_with fail
      clear q0 q1 x0 x1
      refine (HN2.out _ hBr).mono ?_
      rintro x w2 ⟨rfl, hb2⟩
      have hbx := bcat2 hb2 (balloc w2 (.cells #[.int .i64 c2, .int .i64 i2] 28))
      have hF2 := blk0 (w := w2) (T := 28) (.int .i64 c2) (.int .i64 i2)
      have hb02 := bcat2 hb hbx
      have hBw2 := bcat2 hBr hbx
      have hR2 := blk_below hRr hbx
      obtain ⟨t0, t1, _, _⟩ := hF2.two
      by_cases hz : c2 = 0
      · have HZ := hide hz
        rw [hz] at t0 hb02 ⊢
        clear hz
        go_wp2
        go_roundw
        case rel => exact ⟨.inr (.inr ⟨rfl, HC1.out, HZ.out⟩), hb02⟩
        case measure => simp [intOf]
      · have hzb : (c2 != 0) = true := by simpa using hz
        have HZ := hide hz
        clear hz
        obtain ⟨y0, y1, fy0, fy1⟩ := hR2.two
        obtain ⟨hR6, hB6⟩ := put2 hR2 hBw2 (by omega) c2 i2
        obtain ⟨z0, z1, _, _⟩ := hR6.two
        go_wp2_with fail
        go_region
        all_goals (
          go_wp2
          exact bodyPost_ret (v := .tuple #[.bool false, .agg #[.int .i64 c2, .int .i64 i2]]) (by simp [results, Tryz.results13, go_sem, z0, z1]) rfl ⟨_, _, _, rfl, HD2.out HC1.out HZ.out, bdrew hB6⟩)
    · have HC1 := hide hc1
      have HC2 := hide hc2
      have HOP := hide (HOP.out hc1 hc2)
      have HO1 := hide (HO1.out hc1 hc2)
      have HO2 := hide (HO2.out hc1 hc2)
      have HAL := hide (HAL.out hc1 hc2)
      have HDI := hide (HDI.out hc1 hc2)
      clear hc1 hc2 q0 q1
      obtain ⟨x0, x1, _, _⟩ := hXr.two
      go_wp2_with fail
      clear x0 x1
      refine (HOP.out _ hBr).mono ?_
      rintro x w2 ⟨u1, u2, u3, rfl, hG2, hb2⟩
      obtain ⟨w3, hw3⟩ : ∃ w3, w3 = (w2.alloc (.cells #[.int .i64 N, .slice v1 v2 v3, .int .i64 e, .slice u1 u2 u3] 54)).alloc (.cells #[.int .i64 0, .int .i64 0] 28) := ⟨_, rfl⟩
      have hb3 : Below w2.heap.size w2 w3 := by rw [hw3]; exact (balloc w2 _).alloc (by simp) _
      have hF3 : Blk w3 (w2.heap.size + 1) 28 [.int .i64 0, .int .i64 0] := by
        rw [hw3]
        have := blk0 (w := w2.alloc (.cells #[.int .i64 N, .slice v1 v2 v3, .int .i64 e, .slice u1 u2 u3] 54)) (T := 28) (.int .i64 0) (.int .i64 0)
        rwa [World.size_alloc] at this
      have hH3 : Blk w3 w2.heap.size 54 [.int .i64 N, .slice v1 v2 v3, .int .i64 e, .slice u1 u2 u3] := by rw [hw3]; exact (blk4 _ _ _ _).alloc _
      have hG3 := HGP.out _ _ _ hG2 hb3
      have hB3 := bcat2 hBr (bcat2 hb2 hb3)
      have hR3 := blk_below hRr (bcat2 hb2 hb3)
      have HG3 := hide hG3
      clear hG2 hG3
      obtain ⟨f0, f1, _, _⟩ := hF3.two
      rw [hw3] at f0 f1
      go_wp2_with fail
      rw [← hw3]
      clear f0 f1 hw3
      generalize w2.heap.size = hb9 at *
      have hS : ∀ W, Below w3.heap.size w3 W → (Below w3.heap.size w3 W ∧ W.cell? ⟨hb9, 0, none⟩ = some (.int .i64 N) ∧ W.cell? ⟨hb9, 1, none⟩ = some (.slice v1 v2 v3) ∧ W.cell? ⟨hb9, 2, none⟩ = some (.int .i64 e) ∧ W.cell? ⟨hb9, 3, none⟩ = some (.slice u1 u2 u3) ∧ W.cell? ⟨w.heap.size + 1, 0, none⟩ = some (.int .i64 0) ∧ W.cell? ⟨w.heap.size + 1, 1, none⟩ = some (.int .i64 0)) := fun W h => ⟨h, (blk_below hH3 h).cell 0, (blk_below hH3 h).cell 1, (blk_below hH3 h).cell 2, (blk_below hH3 h).cell 3, (blk_below hR3 h).two.1, (blk_below hR3 h).two.2.1⟩
      have hS0 := hS _ (bdrew (Below.refl _ w3))
      go_region_held3 (fun W => Below w3.heap.size w3 W ∧ W.cell? ⟨hb9, 0, none⟩ = some (.int .i64 N) ∧ W.cell? ⟨hb9, 1, none⟩ = some (.slice v1 v2 v3) ∧ W.cell? ⟨hb9, 2, none⟩ = some (.int .i64 e) ∧ W.cell? ⟨hb9, 3, none⟩ = some (.slice u1 u2 u3) ∧ W.cell? ⟨w.heap.size + 1, 0, none⟩ = some (.int .i64 0) ∧ W.cell? ⟨w.heap.size + 1, 1, none⟩ = some (.int .i64 0))
        (first | exact hS0 | assumption | exact hS _ (bcat2 (And.left ‹_›) hl4) | exact hS _ (bcat2 (And.left ‹_›) hl3) | exact hS _ (bcat2 (And.left ‹_›) hl2) | exact hS _ (bcat2 (And.left ‹_›) hl1))
        (first
          | (go_at_call_of 33 (Value.slice l1 l2 l3); refine (HO1.out _ (bcat2 hB3 (And.left ‹_›))).mono ?_; rintro e1 U1 ⟨rfl, hl1⟩)
          | (go_at_call_of 33 (Value.slice m1 m2 m3); refine (HO2.out _ (bcat2 hB3 (And.left ‹_›))).mono ?_; rintro e2 U2 ⟨rfl, hl2⟩)
          | (go_at_call 28; refine (HAL.out _ _ (bcat2 hB3 (And.left ‹_›))).mono ?_; rintro e3 U3 ⟨rfl, hl3⟩)
          | (go_at_call 32; refine (HDI.out _ _ (bcat2 hB3 (And.left ‹_›)) (HGP.out _ _ _ HG3.out (And.left ‹_›))).mono ?_; rintro e4 U4 ⟨rfl, hl4⟩; have hU4 := bcat2 (And.left ‹_›) hl4; have hR4 := blk_below hR3 hU4; have hB4 := bcat2 hB3 hU4; obtain ⟨y0, y1, fy0, fy1⟩ := hR4.two; obtain ⟨s8, s9⟩ := hR4.self))
      all_goals (
        go_wp2
        exact bodyPost_ret (v := .tuple #[.bool D, .agg #[.int .i64 0, .int .i64 0]]) (by simp [results, Tryz.results13, go_sem, y0, y1]) rfl ⟨_, _, _, rfl, HD3.out HC1.out HC2.out, hB4⟩)
end Go.Proofs.YtgdpgbldjpeopaaGreatDoor

namespace Go.Proofs.YtgdpgbldjpeopaaGreatDoor
open Go Go.RowKit

/-- Two sets have the one alone, make all, and commute. -/
structure TogP (n : Nat) (zs : List Int) (e : Nat) (q r : Nat → Bool) : Prop where
  meet : ∀ a, a < n → q a = true → r a = true → a = e
  all : ∀ a, a < n → Mkd n zs e (fun a => q a || r a) a
  com : ∀ a b, a < n → b < n → q a = true → r b = true → tm n zs a b = tm n zs b a
theorem cmq_iff {n e : Nat} {zs : List Int} {xs ys : List Nat} {y : Nat} : cmq n zs e xs ys y = true ↔ ∃ a, a ∈ xs ∧ ∃ b, b ∈ ys ∧ Fin.cm (tm n zs) (iv n zs e) a b = y := by
  unfold cmq
  simp
theorem dirB_iff {n e : Nat} {zs : List Int} {q r p c : Nat → Bool} (g : IsGrp n zs e) (hq : q e = true) (hr : r e = true) (hp : ∀ a, a < n → (p a = true ↔ Mkd n zs e (fun a => q a || r a) a)) (hc : ∀ a, a < n → (c a = true ↔ Mkd n zs e (cmq n zs e (lst n q) (lst n r)) a)) : dirB n e q r p c = true ↔ TogP n zs e q r := by
  unfold dirB cmpB
  rw [Bool.and_eq_true, Bool.and_eq_true, decide_eq_true_eq, decide_eq_true_eq, decide_eq_true_eq]
  constructor
  · rintro ⟨⟨h1, h2⟩, h3⟩
    refine ⟨fun a ha hqa hra => ?_, fun a ha => (hp a ha).1 (bs_inj h2 a ha), fun a b ha hb hqa hrb => ?_⟩
    · have := bs_inj h1 a ha
      rw [hqa, hra] at this
      exact of_decide_eq_true this.symm
    · have ha' := List.mem_range.2 ha
      have hb' := List.mem_range.2 hb
      have hcm := Fin.cm_mem (grp_fg g) (grp_iv g) ha' hb'
      have hlt := List.mem_range.1 hcm
      have hM : Mkd n zs e (cmq n zs e (lst n q) (lst n r)) (Fin.cm (tm n zs) (iv n zs e) a b) := Fin.Gen.base hcm (cmq_iff.2 ⟨a, mem_lst.2 ⟨ha, hqa⟩, b, mem_lst.2 ⟨hb, hrb⟩, rfl⟩)
      have := bs_inj h3 _ hlt
      rw [(hc _ hlt).2 hM] at this
      exact (Fin.cm_one (grp_fg g) (grp_iv g) ha' hb').1 (of_decide_eq_true this.symm)
  · intro T
    refine ⟨⟨bs_ext fun a ha => ?_, bs_ext fun a ha => (hp a ha).2 (T.all a ha)⟩, bs_ext fun a ha => ?_⟩
    · rw [Bool.eq_iff_iff, Bool.and_eq_true, decide_eq_true_eq]
      exact ⟨fun h => T.meet a ha h.1 h.2, fun h => by rw [h]; exact ⟨hq, hr⟩⟩
    · rw [Bool.eq_iff_iff, decide_eq_true_eq, hc a ha]
      constructor
      · intro h
        refine Fin.Gen.least (P := fun x => x = e) ⟨rfl, fun x y _ _ h1 h2 => by rw [h1, h2]; exact g.left e g.elt⟩ (fun x _ hx => ?_) h
        obtain ⟨y, hy, z, hz, rfl⟩ := cmq_iff.1 hx
        obtain ⟨hy1, hy2⟩ := mem_lst.1 hy
        obtain ⟨hz1, hz2⟩ := mem_lst.1 hz
        exact (Fin.cm_one (grp_fg g) (grp_iv g) (List.mem_range.2 hy1) (List.mem_range.2 hz1)).2 (T.com y z hy1 hz1 hy2 hz2)
      · intro h
        rw [h]
        exact (Fin.Gen.sg _).one
/-- What the document asks of them. -/
theorem tog_iff {n e : Nat} {zs : List Int} {q r p : Nat → Bool} (g : IsGrp n zs e) (hq : q e = true) (hr : r e = true) (hp : ∀ a, a < n → (p a = true ↔ Mkd n zs e (fun a => decide (a ∈ lst n q ++ lst n r)) a)) :
    ((lst n fun a => q a && r a).length = 1 ∧ (lst n p).length = n ∧ ∀ a b, a ∈ lst n q → b ∈ lst n r → tm n zs a b = tm n zs b a) ↔ TogP n zs e q r := by
  have hM : ∀ a, Mkd n zs e (fun a => q a || r a) a ↔ Mkd n zs e (fun a => decide (a ∈ lst n q ++ lst n r)) a := by
    intro a
    constructor
    · refine Fin.Gen.mono fun x hx h => ?_
      have hx' := List.mem_range.1 hx
      rw [decide_eq_true_eq, List.mem_append, mem_lst, mem_lst]
      rcases (Bool.or_eq_true _ _).mp h with h | h
      · exact .inl ⟨hx', h⟩
      · exact .inr ⟨hx', h⟩
    · refine Fin.Gen.mono fun x hx h => ?_
      rw [decide_eq_true_eq, List.mem_append, mem_lst, mem_lst] at h
      rcases h with h | h
      · simp [h.2]
      · simp [h.2]
  have he : e ∈ lst n fun a => q a && r a := mem_lst.2 ⟨g.elt, by simp [hq, hr]⟩
  constructor
  · rintro ⟨h1, h2, h3⟩
    refine ⟨fun a ha hqa hra => ?_, fun a ha => (hM a).2 ((hp a ha).1 (lst_full'.1 h2 a ha)), fun a b ha hb hqa hrb => h3 a b (mem_lst.2 ⟨ha, hqa⟩) (mem_lst.2 ⟨hb, hrb⟩)⟩
    obtain ⟨x, hx⟩ := List.length_eq_one_iff.1 h1
    have h4 : a ∈ lst n fun a => q a && r a := mem_lst.2 ⟨ha, by simp [hqa, hra]⟩
    rw [hx, List.mem_singleton] at he h4
    rw [he, h4]
  · intro T
    refine ⟨?_, lst_full'.2 fun a ha => (hp a ha).2 ((hM a).1 (T.all a ha)), fun a b ha hb => T.com a b (mem_lst.1 ha).1 (mem_lst.1 hb).1 (mem_lst.1 ha).2 (mem_lst.1 hb).2⟩
    have : (lst n fun a => q a && r a) = lst n fun a => decide (a = e) := lst_congr fun a ha => by
      rw [Bool.eq_iff_iff, Bool.and_eq_true, decide_eq_true_eq]
      exact ⟨fun h => T.meet a ha h.1 h.2, fun h => by rw [h]; exact ⟨hq, hr⟩⟩
    rw [this, one_lsx n e g.elt]
    rfl
theorem subT_one {n e : Nat} {zs : List Int} {q : Nat → Bool} (h : subT n zs e q = true) : q e = true := (subT_iff.1 h).one
theorem sl_slice {w : World} {v : Value} {zs : List Int} (h : Sl w v zs) : ∃ a l c, v = .slice a l c := by
  obtain ⟨a, cap, pb, po, rfl, _⟩ := h
  exact ⟨a, _, cap, rfl⟩
theorem bs_pset {n : Nat} {ls : List Int} : bs (fun a => decide (a ∈ lst n (pset ls))) n = bs (pset ls) n := bs_ext fun a ha => by
  rw [Bool.eq_iff_iff, decide_eq_true_eq, mem_lst]
  exact ⟨fun h => h.2, fun h => ⟨ha, h⟩⟩
theorem of_set (n : Nat) (v : Value) (ls : List Int) (w : World) (hn : n ≤ 60) (hv : Sl w v ls) (h : lfault n ls = (0, 0)) :
    Calls Tryz.prog 33 #[v] w fun e w' => e = .returned (.int .u64 (bs (pset ls) n)) ∧ Below w.heap.size w w' := by
  have hl := set_lst (show (lfault n ls).1 = 0 by rw [h])
  have := of_ok n v (lst n (pset ls)) w hn (Nat.le_trans (lst_len _ _) hn) (by rw [← hl]; exact hv) (fun x hx => (mem_lst.1 hx).1)
  rw [bs_pset] at this
  refine this.mono ?_
  rintro x w' ⟨rfl, rfl⟩
  exact ⟨rfl, Below.refl _ _⟩
/-- What is wrong with two subgroups. -/
def dfault (N : Int) (zs ls ms : List Int) : Int × Int := if (ufault N zs ls).1 ≠ 0 then ufault N zs ls else ufault N zs ms
theorem grp_same {n e d : Nat} {zs : List Int} (g : IsGrp n zs e) (h : IsGrp n zs d) : e = d := by
  have := g.one
  rw [h.one] at this
  omega
theorem nrm_any (N : Int) (v u : Value) (zs l : List Int) (w : World) (hv : Sl w v zs) (hu : Sl w u l) (hT : Tab w) :
    ∃ b, ∀ W, Below w.heap.size w W → Calls Tryz.prog 11 #[.agg #[.int .i64 N, v], u] W fun x W' => x = .returned (.tuple #[.bool b, .agg #[.int .i64 (ufault N zs l).1, .int .i64 (ufault N zs l).2]]) ∧ Below W.heap.size W W' := by
  by_cases h : (ufault N zs l).1 = 0
  · obtain ⟨n, e, rfl, hg, h1, h2, h3⟩ := ufault_zero h
    refine ⟨nrmq n zs e (pset l), fun W hW => ?_⟩
    rw [h3]
    exact nrm_good n e v u zs l W (hv.below hW) hg (hu.below hW) (hT.below hW) h1 h2
  · exact ⟨false, fun W hW => nrm_bad N v u zs l W (hv.below hW) (hu.below hW) (hT.below hW) h⟩
theorem dir_any (N : Int) (v l m : Value) (zs ls ms : List Int) (w : World) (hv : Sl w v zs) (hl : Sl w l ls) (hm : Sl w m ms) (hT : Tab w) :
    ∃ D, ((dfault N zs ls ms).1 ≠ 0 → D = false) ∧ ((dfault N zs ls ms).1 = 0 → ∃ n e : Nat, N = n ∧ IsGrp n zs e ∧ lfault n ls = (0, 0) ∧ lfault n ms = (0, 0) ∧ subT n zs e (pset ls) = true ∧ subT n zs e (pset ms) = true ∧ dfault N zs ls ms = (0, 0) ∧ (D = true ↔ TogP n zs e (pset ls) (pset ms))) ∧
      Calls Tryz.prog 13 #[.agg #[.int .i64 N, v], l, m] w fun x w' => x = .returned (.tuple #[.bool D, .agg #[.int .i64 (dfault N zs ls ms).1, .int .i64 (dfault N zs ls ms).2]]) ∧ Below w.heap.size w w' := by
  obtain ⟨b1, HN1⟩ := nrm_any N v l zs ls w hv hl hT
  obtain ⟨b2, HN2⟩ := nrm_any N v m zs ms w hv hm hT
  obtain ⟨v1, v2, v3, rfl⟩ := sl_slice hv
  obtain ⟨l1, l2, l3, rfl⟩ := sl_slice hl
  obtain ⟨m1, m2, m3, rfl⟩ := sl_slice hm
  by_cases h1 : (ufault N zs ls).1 = 0
  · by_cases h2 : (ufault N zs ms).1 = 0
    · obtain ⟨n, e, rfl, hg, f1, s1, z1⟩ := ufault_zero h1
      obtain ⟨n', d, hn', hg', f2, s2, z2⟩ := ufault_zero h2
      obtain rfl : n = n' := by omega
      obtain rfl := grp_same hg hg'
      have hn := hg.tab.le
      obtain ⟨p, hp⟩ := mkd_test n zs e (fun a => pset ls a || pset ms a)
      obtain ⟨c, hc⟩ := mkd_test n zs e (cmq n zs e (lst n (pset ls)) (lst n (pset ms)))
      have hz : dfault n zs ls ms = (0, 0) := by unfold dfault; rw [z1, if_neg (by simp), z2]
      have W1 := dir_walk n e v1 v2 v3 l1 l2 l3 m1 m2 m3 b1 b2 (dirB n e (pset ls) (pset ms) p c) (ufault n zs ls).1 (ufault n zs ls).2 (ufault n zs ms).1 (ufault n zs ms).2 (bs (pset ls) n) (bs (pset ms) n) (bs (fun _ => true) n) w (hide HN1) (hide HN2)
        (fun W u => GA W n (.slice v1 v2 v3) e u zs) (hide fun W W' u h hb => h.below hb)
        (hide fun _ _ W hW => (opened_good n e (.slice v1 v2 v3) zs W (hv.below hW) hg).mono (by
          rintro x W' ⟨u, rfl, hu, hb⟩
          obtain ⟨u1, u2, u3, rfl⟩ := sl_slice hu.sl
          exact ⟨u1, u2, u3, rfl, ⟨hg, (hv.below hW).below hb, hu.sl⟩, hb⟩))
        (hide fun _ _ W hW => of_set n (.slice l1 l2 l3) ls W hn (hl.below hW) f1)
        (hide fun _ _ W hW => of_set n (.slice m1 m2 m3) ms W hn (hm.below hW) f2)
        (hide fun _ _ W u hW => all_ok n (.slice v1 v2 v3) u e W hn)
        (hide fun _ _ W u hW hG => by
          obtain ⟨u1, u2, u3, rfl⟩ := sl_slice hG.inv
          exact direct_ok n v1 v2 v3 u1 u2 u3 zs e (pset ls) (pset ms) p c W hG (hT.below hW) hp hc)
      refine ⟨dirB n e (pset ls) (pset ms) p c, fun h => absurd (by rw [hz]) h, fun _ => ⟨n, e, rfl, hg, f1, f2, s1, s2, hz, dirB_iff hg (subT_one s1) (subT_one s2) hp hc⟩, W1.mono ?_⟩
      rintro x w' ⟨b, c', i, rfl, hR, hb⟩
      rcases hR with ⟨h, _⟩ | ⟨_, h, _⟩ | ⟨_, _, rfl, rfl, rfl⟩
      · exact absurd h1 h
      · exact absurd h2 h
      · rw [hz]; exact ⟨rfl, hb⟩
    · have hz : dfault N zs ls ms = ufault N zs ms := by unfold dfault; rw [if_neg (by simpa using h1)]
      have W1 := dir_walk N 0 v1 v2 v3 l1 l2 l3 m1 m2 m3 b1 b2 false (ufault N zs ls).1 (ufault N zs ls).2 (ufault N zs ms).1 (ufault N zs ms).2 0 0 0 w (hide HN1) (hide HN2) (fun _ _ => True) (hide fun _ _ _ h _ => h)
        (hide fun _ h => absurd h h2) (hide fun _ h => absurd h h2) (hide fun _ h => absurd h h2) (hide fun _ h => absurd h h2) (hide fun _ h => absurd h h2)
      refine ⟨false, fun _ => rfl, fun h => absurd (by rw [← hz]; exact h) h2, W1.mono ?_⟩
      rintro x w' ⟨b, c', i, rfl, hR, hb⟩
      rcases hR with ⟨h, _⟩ | ⟨_, _, rfl, rfl, rfl⟩ | ⟨_, h, _⟩
      · exact absurd h1 h
      · rw [hz]; exact ⟨rfl, hb⟩
      · exact absurd h h2
  · have hz : dfault N zs ls ms = ufault N zs ls := by unfold dfault; rw [if_pos h1]
    have W1 := dir_walk N 0 v1 v2 v3 l1 l2 l3 m1 m2 m3 b1 b2 false (ufault N zs ls).1 (ufault N zs ls).2 (ufault N zs ms).1 (ufault N zs ms).2 0 0 0 w (hide HN1) (hide HN2) (fun _ _ => True) (hide fun _ _ _ h _ => h)
      (hide fun h => absurd h h1) (hide fun h => absurd h h1) (hide fun h => absurd h h1) (hide fun h => absurd h h1) (hide fun h => absurd h h1)
    refine ⟨false, fun _ => rfl, fun h => absurd (by rw [← hz]; exact h) h1, W1.mono ?_⟩
    rintro x w' ⟨b, c', i, rfl, hR, hb⟩
    rcases hR with ⟨_, rfl, rfl, rfl⟩ | ⟨h, _⟩ | ⟨h, _⟩
    · rw [hz]; exact ⟨rfl, hb⟩
    · exact absurd h h1
    · exact absurd h h1
end Go.Proofs.YtgdpgbldjpeopaaGreatDoor

namespace Go.Proofs.YtgdpgbldjpeopaaGreatDoor
open Go Go.RowKit

/-- The two parts. -/
def sA (m d : Nat) (x : Nat) : Bool := decide (x % m = d)
def sB (m e : Nat) (x : Nat) : Bool := decide (x / m = e)
section
variable {n m e d : Nat} {zs ys : List Int} {φ : Nat → Nat → Nat}
theorem sem_tm {i k : Nat} (hi : i < n * m) (hk : k < n * m) : tm (n * m) (semT n zs m ys φ) i k = semF n zs m ys φ i k := tm_mk hi hk
theorem act_one (g1 : IsGrp n zs e) (h : IsAct n zs m ys φ) {a : Nat} (ha : a < m) : φ a e = e := (h.hom a ha).one g1 g1
theorem sem_parts {i k : Nat} (g1 : IsGrp n zs e) (g2 : IsGrp m ys d) (h : IsAct n zs m ys φ) (hi : i < n * m) (hk : k < n * m) : tm (n * m) (semT n zs m ys φ) i k / m = tm n zs (i / m) (φ (i % m) (k / m)) ∧ tm (n * m) (semT n zs m ys φ) i k % m = tm m ys (i % m) (k % m) := by
  rw [sem_tm hi hk]
  exact ⟨(sem_div g1 g2 h hi hk).1, (sem_div g1 g2 h hi hk).2.1⟩
theorem psi_hom (g1 : IsGrp n zs e) (g2 : IsGrp m ys d) (h : IsAct n zs m ys φ) : IsHom (n * m) (semT n zs m ys φ) m ys (fun x => x % m) where
  lt := fun _ _ => Nat.mod_lt _ (Nat.lt_of_le_of_lt (Nat.zero_le _) g2.elt)
  mul := fun _ _ ha hb => (sem_parts g1 g2 h ha hb).2
theorem one_pair (g2 : IsGrp m ys d) : (e * m + d) / m = e ∧ (e * m + d) % m = d := dm' g2.elt
theorem semA_sub (g1 : IsGrp n zs e) (g2 : IsGrp m ys d) (h : IsAct n zs m ys φ) : subT (n * m) (semT n zs m ys φ) (e * m + d) (sA m d) = true := by
  refine subT_iff.2 ⟨decide_eq_true (one_pair g2).2, fun a b ha hb h1 h2 => ?_⟩
  have ha' := List.mem_range.1 ha
  have hb' := List.mem_range.1 hb
  have h1' : a % m = d := of_decide_eq_true h1
  have h2' : b % m = d := of_decide_eq_true h2
  refine decide_eq_true ?_
  rw [(sem_parts g1 g2 h ha' hb').2, h1', h2']
  exact g2.left d g2.elt
theorem semB_sub (g1 : IsGrp n zs e) (g2 : IsGrp m ys d) (h : IsAct n zs m ys φ) : subT (n * m) (semT n zs m ys φ) (e * m + d) (sB m e) = true := by
  have hm1 : 1 ≤ m := Nat.lt_of_le_of_lt (Nat.zero_le _) g2.elt
  refine subT_iff.2 ⟨decide_eq_true (one_pair g2).1, fun a b ha hb h1 h2 => ?_⟩
  have ha' := List.mem_range.1 ha
  have hb' := List.mem_range.1 hb
  have h1' : a / m = e := of_decide_eq_true h1
  have h2' : b / m = e := of_decide_eq_true h2
  refine decide_eq_true ?_
  rw [(sem_parts g1 g2 h ha' hb').1, h1', h2', act_one g1 h (semi_parts hm1 ha').2]
  exact g1.left e g1.elt
theorem semA_nm (g1 : IsGrp n zs e) (g2 : IsGrp m ys d) (h : IsAct n zs m ys φ) (hnm : n * m ≤ 60) : Fin.Nm (List.range (n * m)) (tm (n * m) (semT n zs m ys φ)) (iv (n * m) (semT n zs m ys φ) (e * m + d)) (fun x => sA m d x = true) := by
  have G := semi_grp g1 g2 h hnm
  have H := psi_hom g1 g2 h
  intro x a hx ha hp
  have hx' := List.mem_range.1 hx
  have ha' := List.mem_range.1 ha
  obtain ⟨i1, _, i3, _⟩ := iv_spec G ha'
  have hp' : x % m = d := of_decide_eq_true hp
  have hm1 : 1 ≤ m := Nat.lt_of_le_of_lt (Nat.zero_le _) g2.elt
  refine decide_eq_true ?_
  have k1 := H.mul (iv (n * m) (semT n zs m ys φ) (e * m + d) a) (tm (n * m) (semT n zs m ys φ) x a) i1 (tm_lt G.tab hx' ha')
  have k2 := H.mul x a hx' ha'
  have k3 := H.mul (iv (n * m) (semT n zs m ys φ) (e * m + d) a) a i1 ha'
  show tm (n * m) (semT n zs m ys φ) (iv (n * m) (semT n zs m ys φ) (e * m + d) a) (tm (n * m) (semT n zs m ys φ) x a) % m = d
  rw [k1, k2, hp', g2.left _ (Nat.mod_lt _ hm1), ← k3, i3]
  exact (one_pair g2).2
/-- It is direct just where nothing is moved. -/
theorem semi_tog (g1 : IsGrp n zs e) (g2 : IsGrp m ys d) (h : IsAct n zs m ys φ) : TogP (n * m) (semT n zs m ys φ) (e * m + d) (sA m d) (sB m e) ↔ ∀ b x, b < m → x < n → φ b x = x := by
  have hm1 : 1 ≤ m := Nat.lt_of_le_of_lt (Nat.zero_le _) g2.elt
  have pl : ∀ x a, x < n → a < m → x * m + a < n * m := fun x a hx ha => by
    calc x * m + a < x * m + m := by omega
      _ = (x + 1) * m := by rw [Nat.add_mul, Nat.one_mul]
      _ ≤ n * m := Nat.mul_le_mul_right _ hx
  constructor
  · intro T b x hb hx
    have h1 := pl x d hx g2.elt
    have h2 := pl e b g1.elt hb
    have h3 := T.com _ _ h1 h2 (decide_eq_true (dm' g2.elt).2) (decide_eq_true (dm' hb).1)
    have k1 := (sem_parts g1 g2 h h1 h2).1
    have k2 := (sem_parts g1 g2 h h2 h1).1
    rw [(dm' g2.elt).1, (dm' g2.elt).2, (dm' hb).1, act_one g1 h g2.elt, g1.right x hx] at k1
    rw [(dm' hb).1, (dm' hb).2, (dm' g2.elt).1, g1.left _ ((h.hom b hb).lt x hx)] at k2
    rw [← k2, ← h3, k1]
  · intro hs
    refine ⟨fun a ha h1 h2 => ?_, fun a ha => ?_, fun a b ha hb h1 h2 => ?_⟩
    · have h1' : a % m = d := of_decide_eq_true h1
      have h2' : a / m = e := of_decide_eq_true h2
      rw [← h1', ← h2', Nat.mul_comm]
      exact (Nat.div_add_mod a m).symm
    · obtain ⟨a1, a2⟩ := semi_parts hm1 ha
      have hx := pl _ _ a1 g2.elt
      have hy := pl _ _ g1.elt a2
      have key : tm (n * m) (semT n zs m ys φ) (a / m * m + d) (e * m + a % m) = a := by
        have k1 := sem_parts g1 g2 h hx hy
        rw [(dm' g2.elt).1, (dm' g2.elt).2, (dm' a2).1, (dm' a2).2, act_one g1 h g2.elt, g1.right _ a1, g2.left _ a2] at k1
        rw [← Nat.div_add_mod (tm (n * m) (semT n zs m ys φ) (a / m * m + d) (e * m + a % m)) m, k1.1, k1.2]
        exact Nat.div_add_mod a m
      rw [← key]
      refine (Fin.Gen.sg _).mul _ _ (List.mem_range.2 hx) (List.mem_range.2 hy) (Fin.Gen.base (List.mem_range.2 hx) ?_) (Fin.Gen.base (List.mem_range.2 hy) ?_)
      · simp [sA, (dm' g2.elt).2]
      · simp [sB, (dm' a2).1]
    · have h1' : a % m = d := of_decide_eq_true h1
      have h2' : b / m = e := of_decide_eq_true h2
      obtain ⟨a1, a2⟩ := semi_parts hm1 ha
      obtain ⟨b1, b2⟩ := semi_parts hm1 hb
      have k1 := sem_parts g1 g2 h ha hb
      have k2 := sem_parts g1 g2 h hb ha
      rw [h1', h2', act_one g1 h g2.elt, g1.right _ a1, g2.left _ b2] at k1
      rw [h1', h2', hs _ _ b2 a1, g1.left _ a1, g2.right _ b2] at k2
      rw [← Nat.div_add_mod (tm (n * m) (semT n zs m ys φ) a b) m, ← Nat.div_add_mod (tm (n * m) (semT n zs m ys φ) b a) m, k1.1, k1.2, k2.1, k2.2]
end
end Go.Proofs.YtgdpgbldjpeopaaGreatDoor
