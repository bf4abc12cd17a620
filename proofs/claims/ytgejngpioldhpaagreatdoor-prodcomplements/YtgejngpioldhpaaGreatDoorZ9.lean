/- Package prod: completes and direct. Condition: the library's table of places lies as its text lays it. Package prod: Direct; its walk, what it calls as premises. Condition: the library's table of places lies as its text lays it. Direct products of two subgroups as mathematics, and what Direct answers at everything. Condition: the library's table of places lies as its text lays it. What cmp.Compare, slices.Compare and cmp.Or answer at ints. What cmp.Or answers at ints. What the closure of package sub's All answers. Lists in order: mathematics. Slices of slices of ints; what slices.SortFunc answers with All's closure. What slices.SortFunc answers with All's closure. What package sub's subgroups takes: a set that is not there yet is put to the map and to the list. The sets that package sub's subgroups finds: mathematics. What package sub's subgroups answers: each subgroup once. What package slices' IndexFunc, ContainsFunc answer of sets. What package sub's openedSmall answers. -/
import Derived.Test.YtgejngpioldhpaaGreatDoorZ7
import Derived.Test.YtgejngpioldhpaaGreatDoorZ8
import Derived.Test.YtgejngpioldhpaaGreatDoorZ4
import Derived.Test.YtgejngpioldhpaaGreatDoorZ3
import Derived.Shelf.SlSortCmp.Whole1
import Derived.Shelf.Lay
import Derived.Ground.SlsfProg
import Derived.Test.YtgejngpioldhpaaGreatDoorZ5
import Derived.Maps.OwnSet
import Derived.Maps.AppendAt
namespace Go.Proofs.YtgejngpioldhpaaGreatDoor
open Go Go.RowKit

theorem blk1 (w : World) (x : Value) : Blk (w.alloc (.cells #[x] 3)) w.heap.size 3 [x] := World.alloc_heap_new w _
/-- Have two sets the one alone, and do they make all? -/
def cmpB (n e : Nat) (q r p : Nat → Bool) : Bool := decide (bs (fun a => q a && r a) n = bs (fun a => decide (a = e)) n) && decide (bs p n = bs (fun _ => true) n)
set_option maxRecDepth 100000 in
set_option maxHeartbeats 4000000 in
theorem completes_ok (n : Nat) (v1 : Option Addr) (v2 v3 : Nat) (u1 : Option Addr) (u2 u3 : Nat) (zs : List Int) (e : Nat) (q r p : Nat → Bool) (w : World) (hG : GA w n (.slice v1 v2 v3) e (.slice u1 u2 u3) zs) (hT : Tab w) (hp : ∀ a, a < n → (p a = true ↔ Mkd n zs e (fun a => q a || r a) a)) :
    Calls Tryz.prog 29 #[.agg #[.int .i64 n, .slice v1 v2 v3, .int .i64 e, .slice u1 u2 u3], .int .u64 (bs q n), .int .u64 (bs r n), .int .u64 (bs (fun _ => true) n)] w fun x w' => x = .returned (.bool (cmpB n e q r p)) ∧ Below w.heap.size w w' := by
  have hn := hG.le
  have he := hG.grp.elt
  have hand := and_bs q r hn
  have hor := or_bs q r hn
  obtain ⟨w0, hw0⟩ : ∃ w0, w0 = w.alloc (.cells #[.int .i64 n, .slice v1 v2 v3, .int .i64 e, .slice u1 u2 u3] 51) := ⟨_, rfl⟩
  have hB0 : Below w.heap.size w w0 := by rw [hw0]; exact balloc w _
  have hX0 : Box4 w0 w.heap.size n e (.slice v1 v2 v3) (.slice u1 u2 u3) := by rw [hw0]; exact Box4.new w n e _ _
  obtain ⟨c0, c1, c2, c3⟩ := hX0.cells
  have HMD := hide (fun W (h : Below w.heap.size w W) => made_ok n (.slice v1 v2 v3) (.slice u1 u2 u3) zs e (fun a => q a || r a) p W (hG.below h) (hT.below h) hp)
  obtain ⟨w1, hw1⟩ : ∃ w1, w1 = w0.alloc (.cells #[.int .i64 e] 3) := ⟨_, rfl⟩
  have hb1 : Below w0.heap.size w0 w1 := by rw [hw1]; exact balloc w0 _
  have hcq : w1.cell? ⟨w0.heap.size, 0, none⟩ = some (.int .i64 e) := by rw [hw1]; exact (blk1 w0 (.int .i64 e)).cell 0
  have HOF := hide (of_one n w0.heap.size e w1 hn he hcq)
  have hX1 := hX0.below hb1
  have hB1 := bcat2 hB0 hb1
  obtain ⟨d0, d1, d2, d3⟩ := hX1.cells
  obtain ⟨R, hR⟩ : ∃ R, cmpB n e q r p = R := ⟨_, rfl⟩
  have HR := hide (show (decide (bs (fun a => q a && r a) n = bs (fun a => decide (a = e)) n) && decide (bs p n = bs (fun _ => true) n)) = R from hR)
  rw [hR]
  clear hR hp hG
  generalize hs1 : bs (fun a => q a && r a) n = s1 at *
  generalize hs2 : bs (fun a => q a || r a) n = s2 at *
  generalize hs3 : bs (fun a => decide (a = e)) n = s3 at *
  generalize hs4 : bs p n = s4 at *
  generalize hs5 : bs (fun _ => true) n = s5 at *
  clear hs1 hs2 hs3 hs4 hs5
  rw [hw0] at c0 c1 c2 c3
  go_enter Tryz.func29, Tryz.ntmps29
  go_wp2_with fail
  rw [← hw0]
  have hsz0 : w.heap.size + 1 = w0.heap.size := by rw [hw0]; simp
  rw [hsz0, ← hw1]
  clear c0 c1 c2 c3 hw0 hw1
  refine HOF.out.mono ?_
  rintro x w2 ⟨rfl, hw2⟩
  subst hw2
  have HSZ := hide hsz0
  clear hsz0
  by_cases h1 : s1 = s3
  · have h1b : (((s1 : Nat) : Int) == ((s3 : Nat) : Int)) = true := by simp [h1]
    have HM1 := hide (HMD.out _ hB1)
    rw [h1] at HR
    go_wp2_with fail
    refine HM1.out.mono ?_
    rintro x w3 ⟨rfl, hb3⟩
    by_cases h2 : s4 = s5
    · have h2b : (((s4 : Nat) : Int) == ((s5 : Nat) : Int)) = true := by simp [h2]
      have HR2 := hide (show R = true by have := HR.out; simp [h2] at this; exact this)
      go_wp2
      go_ret
      exact ⟨by simp [HR2.out], bcat2 hB1 hb3⟩
    · have h2b : (((s4 : Nat) : Int) == ((s5 : Nat) : Int)) = false := by
        have : ¬ ((s4 : Nat) : Int) = ((s5 : Nat) : Int) := by omega
        simpa using this
      have HR2 := hide (show R = false by have := HR.out; simp [h2] at this; exact this)
      clear h2
      go_wp2
      go_ret
      exact ⟨by simp [HR2.out], bcat2 hB1 hb3⟩
  · have h1b : (((s1 : Nat) : Int) == ((s3 : Nat) : Int)) = false := by
      have : ¬ ((s1 : Nat) : Int) = ((s3 : Nat) : Int) := by omega
      simpa using this
    have HR2 := hide (show R = false by have := HR.out; simp [h1] at this; exact this)
    clear h1
    go_wp2
    go_ret
    exact ⟨by simp [HR2.out], hB1⟩
/-- Is it the direct product? -/
def dirB (n e : Nat) (q r p c : Nat → Bool) : Bool := cmpB n e q r p && decide (bs c n = bs (fun a => decide (a = e)) n)
set_option maxRecDepth 100000 in
set_option maxHeartbeats 8000000 in
theorem direct_ok (n : Nat) (v1 : Option Addr) (v2 v3 : Nat) (u1 : Option Addr) (u2 u3 : Nat) (zs : List Int) (e : Nat) (q r p c : Nat → Bool) (w : World) (hG : GA w n (.slice v1 v2 v3) e (.slice u1 u2 u3) zs) (hT : Tab w) (hp : ∀ a, a < n → (p a = true ↔ Mkd n zs e (fun a => q a || r a) a)) (hc : ∀ a, a < n → (c a = true ↔ Mkd n zs e (cmq n zs e (lst n q) (lst n r)) a)) :
    Calls Tryz.prog 63 #[.agg #[.int .i64 n, .slice v1 v2 v3, .int .i64 e, .slice u1 u2 u3], .int .u64 (bs q n), .int .u64 (bs r n), .int .u64 (bs (fun _ => true) n)] w fun x w' => x = .returned (.bool (dirB n e q r p c)) ∧ Below w.heap.size w w' := by
  have hn := hG.le
  have he := hG.grp.elt
  obtain ⟨w0, hw0⟩ : ∃ w0, w0 = w.alloc (.cells #[.int .i64 n, .slice v1 v2 v3, .int .i64 e, .slice u1 u2 u3] 51) := ⟨_, rfl⟩
  have hB0 : Below w.heap.size w w0 := by rw [hw0]; exact balloc w _
  have hX0 : Box4 w0 w.heap.size n e (.slice v1 v2 v3) (.slice u1 u2 u3) := by rw [hw0]; exact Box4.new w n e _ _
  have HCM := hide (fun W (h : Below w0.heap.size w0 W) => completes_ok n v1 v2 v3 u1 u2 u3 zs e q r p W (hG.below (bcat2 hB0 h)) (hT.below (bcat2 hB0 h)) hp)
  have HCS := hide (fun W (h : Below w0.heap.size w0 W) => cmms_ok n (.slice v1 v2 v3) (.slice u1 u2 u3) zs e q r c W (hG.below (bcat2 hB0 h)) (hT.below (bcat2 hB0 h)) hc)
  have hS : ∀ W, Below w0.heap.size w0 W → (Below w0.heap.size w0 W ∧ W.cell? ⟨w.heap.size, 0, none⟩ = some (.int .i64 n) ∧ W.cell? ⟨w.heap.size, 1, none⟩ = some (.slice v1 v2 v3) ∧ W.cell? ⟨w.heap.size, 2, none⟩ = some (.int .i64 e) ∧ W.cell? ⟨w.heap.size, 3, none⟩ = some (.slice u1 u2 u3)) := fun W h => ⟨h, (hX0.below h).cells.1, (hX0.below h).cells.2.1, (hX0.below h).cells.2.2.1, (hX0.below h).cells.2.2.2⟩
  have hBc : Below w0.heap.size w0 w0.drew := bdrew (Below.refl _ _)
  have hS0 := hS _ hBc
  obtain ⟨R, hR⟩ : ∃ R, dirB n e q r p c = R := ⟨_, rfl⟩
  have HR := hide (show (cmpB n e q r p && decide (bs c n = bs (fun a => decide (a = e)) n)) = R from hR)
  rw [hR]
  clear hR hp hc hG
  cases hB1 : cmpB n e q r p with
  | true =>
    rw [hB1] at HCM HR
    clear hB1
    obtain ⟨B2, hBe⟩ : ∃ B2, B2 = decide (bs c n = bs (fun a => decide (a = e)) n) := ⟨_, rfl⟩
    have HRES := hide (show R = B2 by rw [hBe]; have := HR.out; simpa using this.symm)
    have hB2 : (((bs c n : Nat) : Int) == ((bs (fun a => decide (a = e)) n : Nat) : Int)) = B2 := by
      rw [hBe]
      by_cases h : bs c n = bs (fun a => decide (a = e)) n
      · rw [decide_eq_true h]; simp [h]
      · rw [decide_eq_false h]
        have : ¬ ((bs c n : Nat) : Int) = ((bs (fun a => decide (a = e)) n : Nat) : Int) := by omega
        simpa using this
    clear HR hBe
    go_enter Tryz.func63, Tryz.ntmps63
    go_wp2_with fail
    rw [← hw0]
    clear hw0
    refine wp_region_held_drew (S := fun W => Below w0.heap.size w0 W ∧ W.cell? ⟨w.heap.size, 0, none⟩ = some (.int .i64 n) ∧ W.cell? ⟨w.heap.size, 1, none⟩ = some (.slice v1 v2 v3) ∧ W.cell? ⟨w.heap.size, 2, none⟩ = some (.int .i64 e) ∧ W.cell? ⟨w.heap.size, 3, none⟩ = some (.slice u1 u2 u3)) (by kernel_rfl) hS0 (fun hHeld => ?_)
    refine wpAnyH_take (i := 0) (oi := ({ dst := some 9, op := Go.Op.load 51 (Go.Operand.tmp 4), type := 51, pos := _, after := #[], guard := none } : Oper)) (v := ?_) rfl (by kernel_rfl) (by kernel_rfl) (by kernel_rfl) (fun _ _ _ h => h) (Or.inl ⟨by rfl, ?_⟩) (by assumption) ?_
    rotate_left
    · (intro w hSw; (try dsimp only at hSw); go_simp; try with_reducible rfl)
    simp only [Act.put, List.setIfInBounds_toArray, List.set_cons_zero, List.set_cons_succ]
    refine wpAnyH_take (i := 1) (oi := ({ dst := some 10, op := Go.Op.move (Go.Operand.tmp 1), type := 55, pos := _, after := #[], guard := none } : Oper)) (v := ?_) rfl (by kernel_rfl) (by kernel_rfl) (by kernel_rfl) (fun _ _ _ h => h) (Or.inl ⟨by rfl, ?_⟩) (by assumption) ?_
    rotate_left
    · (intro w hSw; (try dsimp only at hSw); go_simp; try with_reducible rfl)
    simp only [Act.put, List.setIfInBounds_toArray, List.set_cons_zero, List.set_cons_succ]
    refine wpAnyH_take (i := 2) (oi := ({ dst := some 11, op := Go.Op.move (Go.Operand.tmp 2), type := 55, pos := _, after := #[], guard := none } : Oper)) (v := ?_) rfl (by kernel_rfl) (by kernel_rfl) (by kernel_rfl) (fun _ _ _ h => h) (Or.inl ⟨by rfl, ?_⟩) (by assumption) ?_
    rotate_left
    · (intro w hSw; (try dsimp only at hSw); go_simp; try with_reducible rfl)
    simp only [Act.put, List.setIfInBounds_toArray, List.set_cons_zero, List.set_cons_succ]
    refine wpAnyH_take (i := 3) (oi := ({ dst := some 12, op := Go.Op.move (Go.Operand.tmp 3), type := 55, pos := _, after := #[], guard := none } : Oper)) (v := ?_) rfl (by kernel_rfl) (by kernel_rfl) (by kernel_rfl) (fun _ _ _ h => h) (Or.inl ⟨by rfl, ?_⟩) (by assumption) ?_
    rotate_left
    · (intro w hSw; (try dsimp only at hSw); go_simp; try with_reducible rfl)
    simp only [Act.put, List.setIfInBounds_toArray, List.set_cons_zero, List.set_cons_succ]
    refine wpAnyH_ready (rs := [4]) (by kernel_rfl) (by simp) (AllReadyH.cons (o := ({ dst := some 13, op := Go.Op.call { callee := Go.Callee.value (Go.Operand.func 29), args := #[Go.Operand.tmp 9, Go.Operand.tmp 10, Go.Operand.tmp 11, Go.Operand.tmp 12], argTypes := #[51, 55, 55, 55] }, type := 4, pos := _, after := #[{ on := 0, ground := Go.Ground.data }, { on := 1, ground := Go.Ground.data }, { on := 2, ground := Go.Ground.data }, { on := 3, ground := Go.Ground.data }], guard := none } : Oper)) rfl (fun KK hK => ?_) AllReadyH.nil)
    go_simp
    refine (HCM.out _ hBc).mono ?_
    rintro e1 U1 ⟨rfl, hl1⟩
    have hBc := bcat2 hBc hl1
    try go_wp2_with fail
    refine hK.out _ _ (hS _ hBc) (fun hHeld => ?_)
    clear hK
    try simp only [Act.put, List.setIfInBounds_toArray, List.set_cons_zero, List.set_cons_succ]
    refine wpAnyH_take (i := 5) (oi := ({ dst := some 14, op := Go.Op.move (Go.Operand.tmp 13), type := 4, pos := _, after := #[{ on := 4, ground := Go.Ground.data }, { on := 4, ground := Go.Ground.chain }], guard := none } : Oper)) (v := ?_) rfl (by kernel_rfl) (by kernel_rfl) (by kernel_rfl) (fun _ _ _ h => h) (Or.inl ⟨by rfl, ?_⟩) (by assumption) ?_
    rotate_left
    · (intro w hSw; (try dsimp only at hSw); go_simp; try with_reducible rfl)
    simp only [Act.put, List.setIfInBounds_toArray, List.set_cons_zero, List.set_cons_succ]
    refine wpAnyH_take (i := 6) (oi := ({ dst := some 15, op := Go.Op.load 51 (Go.Operand.tmp 4), type := 51, pos := _, after := #[{ on := 5, ground := Go.Ground.guard }], guard := some (5, true) } : Oper)) (v := ?_) rfl (by kernel_rfl) (by kernel_rfl) (by kernel_rfl) (fun _ _ _ h => h) (Or.inl ⟨by rfl, ?_⟩) (by assumption) ?_
    rotate_left
    · (intro w hSw; (try dsimp only at hSw); go_simp; try with_reducible rfl)
    simp only [Act.put, List.setIfInBounds_toArray, List.set_cons_zero, List.set_cons_succ]
    refine wpAnyH_take (i := 7) (oi := ({ dst := some 16, op := Go.Op.move (Go.Operand.tmp 1), type := 55, pos := _, after := #[{ on := 5, ground := Go.Ground.guard }], guard := some (5, true) } : Oper)) (v := ?_) rfl (by kernel_rfl) (by kernel_rfl) (by kernel_rfl) (fun _ _ _ h => h) (Or.inl ⟨by rfl, ?_⟩) (by assumption) ?_
    rotate_left
    · (intro w hSw; (try dsimp only at hSw); go_simp; try with_reducible rfl)
    simp only [Act.put, List.setIfInBounds_toArray, List.set_cons_zero, List.set_cons_succ]
    refine wpAnyH_take (i := 8) (oi := ({ dst := some 17, op := Go.Op.move (Go.Operand.tmp 2), type := 55, pos := _, after := #[{ on := 5, ground := Go.Ground.guard }], guard := some (5, true) } : Oper)) (v := ?_) rfl (by kernel_rfl) (by kernel_rfl) (by kernel_rfl) (fun _ _ _ h => h) (Or.inl ⟨by rfl, ?_⟩) (by assumption) ?_
    rotate_left
    · (intro w hSw; (try dsimp only at hSw); go_simp; try with_reducible rfl)
    simp only [Act.put, List.setIfInBounds_toArray, List.set_cons_zero, List.set_cons_succ]
    refine wpAnyH_take (i := 10) (oi := ({ dst := some 19, op := Go.Op.fieldAddr 51 (Go.Operand.tmp 4) 1, type := 0, pos := _, after := #[{ on := 5, ground := Go.Ground.guard }], guard := some (5, true) } : Oper)) (v := ?_) rfl (by kernel_rfl) (by kernel_rfl) (by kernel_rfl) (fun _ _ _ h => h) (Or.inl ⟨by rfl, ?_⟩) (by assumption) ?_
    rotate_left
    · (intro w hSw; (try dsimp only at hSw); go_simp; try with_reducible rfl)
    simp only [Act.put, List.setIfInBounds_toArray, List.set_cons_zero, List.set_cons_succ]
    refine wpAnyH_take (i := 11) (oi := ({ dst := some 20, op := Go.Op.load 3 (Go.Operand.tmp 19), type := 3, pos := _, after := #[{ on := 10, ground := Go.Ground.data }, { on := 5, ground := Go.Ground.guard }], guard := some (5, true) } : Oper)) (v := ?_) rfl (by kernel_rfl) (by kernel_rfl) (by kernel_rfl) (fun _ _ _ h => h) (Or.inl ⟨by rfl, ?_⟩) (by assumption) ?_
    rotate_left
    · (intro w hSw; (try dsimp only at hSw); go_simp; try with_reducible rfl)
    simp only [Act.put, List.setIfInBounds_toArray, List.set_cons_zero, List.set_cons_succ]
    refine wpAnyH_ready (rs := [9, 12]) (by kernel_rfl) (by simp) (AllReadyH.cons (o := ({ dst := some 18, op := Go.Op.call { callee := Go.Callee.value (Go.Operand.func 90), args := #[Go.Operand.tmp 15, Go.Operand.tmp 16, Go.Operand.tmp 17], argTypes := #[51, 55, 55] }, type := 55, pos := _, after := #[{ on := 6, ground := Go.Ground.data }, { on := 7, ground := Go.Ground.data }, { on := 8, ground := Go.Ground.data }, { on := 5, ground := Go.Ground.chain }, { on := 5, ground := Go.Ground.guard }], guard := some (5, true) } : Oper)) rfl (fun KK hK => ?_) (AllReadyH.cons (o := ({ dst := some 21, op := Go.Op.buildSlice 22 1 #[(0, Go.Operand.tmp 20)], type := 22, pos := _, after := #[{ on := 11, ground := Go.Ground.data }, { on := 5, ground := Go.Ground.guard }], guard := some (5, true) } : Oper)) rfl (fun KK hK => ?_) AllReadyH.nil))
    · go_simp
      refine (HCS.out _ hBc).mono ?_
      rintro e2 U2 ⟨rfl, hl2⟩
      have hBc := bcat2 hBc hl2
      try go_wp2_with fail
      refine hK.out _ _ (hS _ hBc) (fun hHeld => ?_)
      clear hK
      try simp only [Act.put, List.setIfInBounds_toArray, List.set_cons_zero, List.set_cons_succ]
      refine wpAnyH_ready (rs := [12]) (by kernel_rfl) (by simp) (AllReadyH.cons (o := ({ dst := some 21, op := Go.Op.buildSlice 22 1 #[(0, Go.Operand.tmp 20)], type := 22, pos := _, after := #[{ on := 11, ground := Go.Ground.data }, { on := 5, ground := Go.Ground.guard }], guard := some (5, true) } : Oper)) rfl (fun KK hK => ?_) AllReadyH.nil)
      go_simp
      have hcq : (U2.alloc (.cells #[.int .i64 e] 3)).cell? ⟨U2.heap.size, 0, none⟩ = some (.int .i64 e) := (blk1 U2 (.int .i64 e)).cell 0
      have hBc := bcat2 hBc (balloc U2 (.cells #[.int .i64 e] 3))
      refine hK.out _ _ (hS _ hBc) (fun hHeld => ?_)
      clear hK
      try simp only [Act.put, List.setIfInBounds_toArray, List.set_cons_zero, List.set_cons_succ]
      generalize U2.alloc (.cells #[.int .i64 e] 3) = WA at *
      generalize U2.heap.size = ab at *
      refine wpAnyH_ready (rs := [13]) (by kernel_rfl) (by simp) (AllReadyH.cons (o := ({ dst := some 22, op := Go.Op.call { callee := Go.Callee.value (Go.Operand.func 26), args := #[Go.Operand.tmp 21], argTypes := #[22] }, type := 55, pos := _, after := #[{ on := 12, ground := Go.Ground.data }, { on := 9, ground := Go.Ground.chain }, { on := 5, ground := Go.Ground.guard }], guard := some (5, true) } : Oper)) rfl (fun KK hK => ?_) AllReadyH.nil)
      go_simp
      refine (of_one n ab e _ hn he hcq).mono ?_
      rintro e3 U3 ⟨rfl, hw3⟩
      subst hw3
      try go_wp2_with fail
      refine hK.out _ _ (hS _ hBc) (fun hHeld => ?_)
      clear hK
      try simp only [Act.put, List.setIfInBounds_toArray, List.set_cons_zero, List.set_cons_succ]
      refine wpAnyH_take (i := 14) (oi := ({ dst := some 23, op := Go.Op.binOp Go.BinOp.eql 55 (Go.Operand.tmp 18) (Go.Operand.tmp 22) 55, type := 4, pos := _, after := #[{ on := 9, ground := Go.Ground.data }, { on := 13, ground := Go.Ground.data }, { on := 5, ground := Go.Ground.guard }], guard := some (5, true) } : Oper)) (v := .bool B2) rfl (by kernel_rfl) (by kernel_rfl) (by kernel_rfl) (fun _ _ _ h => h) (Or.inl ⟨by rfl, ?_⟩) (by assumption) ?_
      · (intro w hSw; (try dsimp only at hSw); go_simp; try (first | with_reducible rfl | (simp [hB2]; done) | exact hB2v _ | (simp; done) | omega | (simp; omega)))
      simp only [Act.put, List.setIfInBounds_toArray, List.set_cons_zero, List.set_cons_succ]
      refine wpAnyH_take (i := 15) (oi := ({ dst := some 24, op := Go.Op.pick (Go.Operand.tmp 14) (Go.Operand.tmp 23) (Go.Operand.const (Go.Value.bool false)), type := 4, pos := _, after := #[{ on := 5, ground := Go.Ground.data }, { on := 14, ground := Go.Ground.data }], guard := none } : Oper)) (v := .bool B2) rfl (by kernel_rfl) (by kernel_rfl) (by kernel_rfl) (fun _ _ _ h => h) (Or.inl ⟨by rfl, ?_⟩) (by assumption) ?_
      · (intro w hSw; (try dsimp only at hSw); go_simp; try (first | with_reducible rfl | (simp; done) | omega | (simp; omega)))
      simp only [Act.put, List.setIfInBounds_toArray, List.set_cons_zero, List.set_cons_succ]
      refine wpAnyH_take (i := 16) (oi := ({ dst := some 8, op := Go.Op.assign (Go.Operand.tmp 24), type := 4, pos := _, after := #[{ on := 15, ground := Go.Ground.data }, { on := 13, ground := Go.Ground.chain }, { on := 0, ground := Go.Ground.phase }, { on := 1, ground := Go.Ground.phase }, { on := 2, ground := Go.Ground.phase }, { on := 3, ground := Go.Ground.phase }, { on := 4, ground := Go.Ground.phase }, { on := 5, ground := Go.Ground.phase }, { on := 6, ground := Go.Ground.phase }, { on := 7, ground := Go.Ground.phase }, { on := 8, ground := Go.Ground.phase }, { on := 9, ground := Go.Ground.phase }, { on := 10, ground := Go.Ground.phase }, { on := 11, ground := Go.Ground.phase }, { on := 12, ground := Go.Ground.phase }, { on := 13, ground := Go.Ground.phase }, { on := 14, ground := Go.Ground.phase }, { on := 15, ground := Go.Ground.phase }], guard := none } : Oper)) (v := ?_) rfl (by kernel_rfl) (by kernel_rfl) (by kernel_rfl) (fun _ _ _ h => h) (Or.inl ⟨by rfl, ?_⟩) (by assumption) ?_
      rotate_left
      · (intro w hSw; (try dsimp only at hSw); go_simp; try with_reducible rfl)
      simp only [Act.put, List.setIfInBounds_toArray, List.set_cons_zero, List.set_cons_succ]
      refine wpAnyH_done (by kernel_rfl) ?_ _
      have hBz := bcat2 hB0 hBc
      go_wp2
      go_ret
      exact ⟨by simp [HRES.out], hBz⟩
    · go_simp
      have hcq : (U1.alloc (.cells #[.int .i64 e] 3)).cell? ⟨U1.heap.size, 0, none⟩ = some (.int .i64 e) := (blk1 U1 (.int .i64 e)).cell 0
      have hBc := bcat2 hBc (balloc U1 (.cells #[.int .i64 e] 3))
      refine hK.out _ _ (hS _ hBc) (fun hHeld => ?_)
      clear hK
      try simp only [Act.put, List.setIfInBounds_toArray, List.set_cons_zero, List.set_cons_succ]
      generalize U1.alloc (.cells #[.int .i64 e] 3) = WA at *
      generalize U1.heap.size = ab at *
      refine wpAnyH_ready (rs := [9]) (by kernel_rfl) (by simp) (AllReadyH.cons (o := ({ dst := some 18, op := Go.Op.call { callee := Go.Callee.value (Go.Operand.func 90), args := #[Go.Operand.tmp 15, Go.Operand.tmp 16, Go.Operand.tmp 17], argTypes := #[51, 55, 55] }, type := 55, pos := _, after := #[{ on := 6, ground := Go.Ground.data }, { on := 7, ground := Go.Ground.data }, { on := 8, ground := Go.Ground.data }, { on := 5, ground := Go.Ground.chain }, { on := 5, ground := Go.Ground.guard }], guard := some (5, true) } : Oper)) rfl (fun KK hK => ?_) AllReadyH.nil)
      go_simp
      refine (HCS.out _ hBc).mono ?_
      rintro e2 U2 ⟨rfl, hl2⟩
      have hBc := bcat2 hBc hl2
      have hcq := below_cell hl2 hcq
      try go_wp2_with fail
      refine hK.out _ _ (hS _ hBc) (fun hHeld => ?_)
      clear hK
      try simp only [Act.put, List.setIfInBounds_toArray, List.set_cons_zero, List.set_cons_succ]
      refine wpAnyH_ready (rs := [13]) (by kernel_rfl) (by simp) (AllReadyH.cons (o := ({ dst := some 22, op := Go.Op.call { callee := Go.Callee.value (Go.Operand.func 26), args := #[Go.Operand.tmp 21], argTypes := #[22] }, type := 55, pos := _, after := #[{ on := 12, ground := Go.Ground.data }, { on := 9, ground := Go.Ground.chain }, { on := 5, ground := Go.Ground.guard }], guard := some (5, true) } : Oper)) rfl (fun KK hK => ?_) AllReadyH.nil)
      go_simp
      refine (of_one n ab e _ hn he hcq).mono ?_
      rintro e3 U3 ⟨rfl, hw3⟩
      subst hw3
      try go_wp2_with fail
      refine hK.out _ _ (hS _ hBc) (fun hHeld => ?_)
      clear hK
      try simp only [Act.put, List.setIfInBounds_toArray, List.set_cons_zero, List.set_cons_succ]
      refine wpAnyH_take (i := 14) (oi := ({ dst := some 23, op := Go.Op.binOp Go.BinOp.eql 55 (Go.Operand.tmp 18) (Go.Operand.tmp 22) 55, type := 4, pos := _, after := #[{ on := 9, ground := Go.Ground.data }, { on := 13, ground := Go.Ground.data }, { on := 5, ground := Go.Ground.guard }], guard := some (5, true) } : Oper)) (v := .bool B2) rfl (by kernel_rfl) (by kernel_rfl) (by kernel_rfl) (fun _ _ _ h => h) (Or.inl ⟨by rfl, ?_⟩) (by assumption) ?_
      · (intro w hSw; (try dsimp only at hSw); go_simp; try (first | with_reducible rfl | (simp [hB2]; done) | exact hB2v _ | (simp; done) | omega | (simp; omega)))
      simp only [Act.put, List.setIfInBounds_toArray, List.set_cons_zero, List.set_cons_succ]
      refine wpAnyH_take (i := 15) (oi := ({ dst := some 24, op := Go.Op.pick (Go.Operand.tmp 14) (Go.Operand.tmp 23) (Go.Operand.const (Go.Value.bool false)), type := 4, pos := _, after := #[{ on := 5, ground := Go.Ground.data }, { on := 14, ground := Go.Ground.data }], guard := none } : Oper)) (v := .bool B2) rfl (by kernel_rfl) (by kernel_rfl) (by kernel_rfl) (fun _ _ _ h => h) (Or.inl ⟨by rfl, ?_⟩) (by assumption) ?_
      · (intro w hSw; (try dsimp only at hSw); go_simp; try (first | with_reducible rfl | (simp; done) | omega | (simp; omega)))
      simp only [Act.put, List.setIfInBounds_toArray, List.set_cons_zero, List.set_cons_succ]
      refine wpAnyH_take (i := 16) (oi := ({ dst := some 8, op := Go.Op.assign (Go.Operand.tmp 24), type := 4, pos := _, after := #[{ on := 15, ground := Go.Ground.data }, { on := 13, ground := Go.Ground.chain }, { on := 0, ground := Go.Ground.phase }, { on := 1, ground := Go.Ground.phase }, { on := 2, ground := Go.Ground.phase }, { on := 3, ground := Go.Ground.phase }, { on := 4, ground := Go.Ground.phase }, { on := 5, ground := Go.Ground.phase }, { on := 6, ground := Go.Ground.phase }, { on := 7, ground := Go.Ground.phase }, { on := 8, ground := Go.Ground.phase }, { on := 9, ground := Go.Ground.phase }, { on := 10, ground := Go.Ground.phase }, { on := 11, ground := Go.Ground.phase }, { on := 12, ground := Go.Ground.phase }, { on := 13, ground := Go.Ground.phase }, { on := 14, ground := Go.Ground.phase }, { on := 15, ground := Go.Ground.phase }], guard := none } : Oper)) (v := ?_) rfl (by kernel_rfl) (by kernel_rfl) (by kernel_rfl) (fun _ _ _ h => h) (Or.inl ⟨by rfl, ?_⟩) (by assumption) ?_
      rotate_left
      · (intro w hSw; (try dsimp only at hSw); go_simp; try with_reducible rfl)
      simp only [Act.put, List.setIfInBounds_toArray, List.set_cons_zero, List.set_cons_succ]
      refine wpAnyH_done (by kernel_rfl) ?_ _
      have hBz := bcat2 hB0 hBc
      go_wp2
      go_ret
      exact ⟨by simp [HRES.out], hBz⟩
  | false =>
    rw [hB1] at HCM HR
    clear hB1
    have HRES := hide (show R = false by have := HR.out; simpa using this)
    clear HR HCS
    go_enter Tryz.func63, Tryz.ntmps63
    go_wp2_with fail
    rw [← hw0]
    clear hw0
    refine wp_region_held_drew (S := fun W => Below w0.heap.size w0 W ∧ W.cell? ⟨w.heap.size, 0, none⟩ = some (.int .i64 n) ∧ W.cell? ⟨w.heap.size, 1, none⟩ = some (.slice v1 v2 v3) ∧ W.cell? ⟨w.heap.size, 2, none⟩ = some (.int .i64 e) ∧ W.cell? ⟨w.heap.size, 3, none⟩ = some (.slice u1 u2 u3)) (by kernel_rfl) hS0 (fun hHeld => ?_)
    refine wpAnyH_take (i := 0) (oi := ({ dst := some 9, op := Go.Op.load 51 (Go.Operand.tmp 4), type := 51, pos := _, after := #[], guard := none } : Oper)) (v := ?_) rfl (by kernel_rfl) (by kernel_rfl) (by kernel_rfl) (fun _ _ _ h => h) (Or.inl ⟨by rfl, ?_⟩) (by assumption) ?_
    rotate_left
    · (intro w hSw; (try dsimp only at hSw); go_simp; try with_reducible rfl)
    simp only [Act.put, List.setIfInBounds_toArray, List.set_cons_zero, List.set_cons_succ]
    refine wpAnyH_take (i := 1) (oi := ({ dst := some 10, op := Go.Op.move (Go.Operand.tmp 1), type := 55, pos := _, after := #[], guard := none } : Oper)) (v := ?_) rfl (by kernel_rfl) (by kernel_rfl) (by kernel_rfl) (fun _ _ _ h => h) (Or.inl ⟨by rfl, ?_⟩) (by assumption) ?_
    rotate_left
    · (intro w hSw; (try dsimp only at hSw); go_simp; try with_reducible rfl)
    simp only [Act.put, List.setIfInBounds_toArray, List.set_cons_zero, List.set_cons_succ]
    refine wpAnyH_take (i := 2) (oi := ({ dst := some 11, op := Go.Op.move (Go.Operand.tmp 2), type := 55, pos := _, after := #[], guard := none } : Oper)) (v := ?_) rfl (by kernel_rfl) (by kernel_rfl) (by kernel_rfl) (fun _ _ _ h => h) (Or.inl ⟨by rfl, ?_⟩) (by assumption) ?_
    rotate_left
    · (intro w hSw; (try dsimp only at hSw); go_simp; try with_reducible rfl)
    simp only [Act.put, List.setIfInBounds_toArray, List.set_cons_zero, List.set_cons_succ]
    refine wpAnyH_take (i := 3) (oi := ({ dst := some 12, op := Go.Op.move (Go.Operand.tmp 3), type := 55, pos := _, after := #[], guard := none } : Oper)) (v := ?_) rfl (by kernel_rfl) (by kernel_rfl) (by kernel_rfl) (fun _ _ _ h => h) (Or.inl ⟨by rfl, ?_⟩) (by assumption) ?_
    rotate_left
    · (intro w hSw; (try dsimp only at hSw); go_simp; try with_reducible rfl)
    simp only [Act.put, List.setIfInBounds_toArray, List.set_cons_zero, List.set_cons_succ]
    refine wpAnyH_ready (rs := [4]) (by kernel_rfl) (by simp) (AllReadyH.cons (o := ({ dst := some 13, op := Go.Op.call { callee := Go.Callee.value (Go.Operand.func 29), args := #[Go.Operand.tmp 9, Go.Operand.tmp 10, Go.Operand.tmp 11, Go.Operand.tmp 12], argTypes := #[51, 55, 55, 55] }, type := 4, pos := _, after := #[{ on := 0, ground := Go.Ground.data }, { on := 1, ground := Go.Ground.data }, { on := 2, ground := Go.Ground.data }, { on := 3, ground := Go.Ground.data }], guard := none } : Oper)) rfl (fun KK hK => ?_) AllReadyH.nil)
    go_simp
    refine (HCM.out _ hBc).mono ?_
    rintro e1 U1 ⟨rfl, hl1⟩
    have hBc := bcat2 hBc hl1
    try go_wp2_with fail
    refine hK.out _ _ (hS _ hBc) (fun hHeld => ?_)
    clear hK
    try simp only [Act.put, List.setIfInBounds_toArray, List.set_cons_zero, List.set_cons_succ]
    refine wpAnyH_take (i := 5) (oi := ({ dst := some 14, op := Go.Op.move (Go.Operand.tmp 13), type := 4, pos := _, after := #[{ on := 4, ground := Go.Ground.data }, { on := 4, ground := Go.Ground.chain }], guard := none } : Oper)) (v := ?_) rfl (by kernel_rfl) (by kernel_rfl) (by kernel_rfl) (fun _ _ _ h => h) (Or.inl ⟨by rfl, ?_⟩) (by assumption) ?_
    rotate_left
    · (intro w hSw; (try dsimp only at hSw); go_simp; try with_reducible rfl)
    simp only [Act.put, List.setIfInBounds_toArray, List.set_cons_zero, List.set_cons_succ]
    refine wpAnyH_take (i := 6) (oi := ({ dst := some 15, op := Go.Op.load 51 (Go.Operand.tmp 4), type := 51, pos := _, after := #[{ on := 5, ground := Go.Ground.guard }], guard := some (5, true) } : Oper)) (v := undef) rfl (by kernel_rfl) (by kernel_rfl) (by kernel_rfl) (fun _ _ _ h => h) (Or.inr ⟨by rfl, rfl⟩) (by assumption) ?_
    simp only [Act.put, List.setIfInBounds_toArray, List.set_cons_zero, List.set_cons_succ]
    refine wpAnyH_take (i := 7) (oi := ({ dst := some 16, op := Go.Op.move (Go.Operand.tmp 1), type := 55, pos := _, after := #[{ on := 5, ground := Go.Ground.guard }], guard := some (5, true) } : Oper)) (v := undef) rfl (by kernel_rfl) (by kernel_rfl) (by kernel_rfl) (fun _ _ _ h => h) (Or.inr ⟨by rfl, rfl⟩) (by assumption) ?_
    simp only [Act.put, List.setIfInBounds_toArray, List.set_cons_zero, List.set_cons_succ]
    refine wpAnyH_take (i := 8) (oi := ({ dst := some 17, op := Go.Op.move (Go.Operand.tmp 2), type := 55, pos := _, after := #[{ on := 5, ground := Go.Ground.guard }], guard := some (5, true) } : Oper)) (v := undef) rfl (by kernel_rfl) (by kernel_rfl) (by kernel_rfl) (fun _ _ _ h => h) (Or.inr ⟨by rfl, rfl⟩) (by assumption) ?_
    simp only [Act.put, List.setIfInBounds_toArray, List.set_cons_zero, List.set_cons_succ]
    refine wpAnyH_take (i := 9) (oi := ({ dst := some 18, op := Go.Op.call { callee := Go.Callee.value (Go.Operand.func 90), args := #[Go.Operand.tmp 15, Go.Operand.tmp 16, Go.Operand.tmp 17], argTypes := #[51, 55, 55] }, type := 55, pos := _, after := #[{ on := 6, ground := Go.Ground.data }, { on := 7, ground := Go.Ground.data }, { on := 8, ground := Go.Ground.data }, { on := 5, ground := Go.Ground.chain }, { on := 5, ground := Go.Ground.guard }], guard := some (5, true) } : Oper)) (v := undef) rfl (by kernel_rfl) (by kernel_rfl) (by kernel_rfl) (fun _ _ _ h => h) (Or.inr ⟨by rfl, rfl⟩) (by assumption) ?_
    simp only [Act.put, List.setIfInBounds_toArray, List.set_cons_zero, List.set_cons_succ]
    refine wpAnyH_take (i := 10) (oi := ({ dst := some 19, op := Go.Op.fieldAddr 51 (Go.Operand.tmp 4) 1, type := 0, pos := _, after := #[{ on := 5, ground := Go.Ground.guard }], guard := some (5, true) } : Oper)) (v := undef) rfl (by kernel_rfl) (by kernel_rfl) (by kernel_rfl) (fun _ _ _ h => h) (Or.inr ⟨by rfl, rfl⟩) (by assumption) ?_
    simp only [Act.put, List.setIfInBounds_toArray, List.set_cons_zero, List.set_cons_succ]
    refine wpAnyH_take (i := 11) (oi := ({ dst := some 20, op := Go.Op.load 3 (Go.Operand.tmp 19), type := 3, pos := _, after := #[{ on := 10, ground := Go.Ground.data }, { on := 5, ground := Go.Ground.guard }], guard := some (5, true) } : Oper)) (v := undef) rfl (by kernel_rfl) (by kernel_rfl) (by kernel_rfl) (fun _ _ _ h => h) (Or.inr ⟨by rfl, rfl⟩) (by assumption) ?_
    simp only [Act.put, List.setIfInBounds_toArray, List.set_cons_zero, List.set_cons_succ]
    refine wpAnyH_take (i := 12) (oi := ({ dst := some 21, op := Go.Op.buildSlice 22 1 #[(0, Go.Operand.tmp 20)], type := 22, pos := _, after := #[{ on := 11, ground := Go.Ground.data }, { on := 5, ground := Go.Ground.guard }], guard := some (5, true) } : Oper)) (v := undef) rfl (by kernel_rfl) (by kernel_rfl) (by kernel_rfl) (fun _ _ _ h => h) (Or.inr ⟨by rfl, rfl⟩) (by assumption) ?_
    simp only [Act.put, List.setIfInBounds_toArray, List.set_cons_zero, List.set_cons_succ]
    refine wpAnyH_take (i := 13) (oi := ({ dst := some 22, op := Go.Op.call { callee := Go.Callee.value (Go.Operand.func 26), args := #[Go.Operand.tmp 21], argTypes := #[22] }, type := 55, pos := _, after := #[{ on := 12, ground := Go.Ground.data }, { on := 9, ground := Go.Ground.chain }, { on := 5, ground := Go.Ground.guard }], guard := some (5, true) } : Oper)) (v := undef) rfl (by kernel_rfl) (by kernel_rfl) (by kernel_rfl) (fun _ _ _ h => h) (Or.inr ⟨by rfl, rfl⟩) (by assumption) ?_
    simp only [Act.put, List.setIfInBounds_toArray, List.set_cons_zero, List.set_cons_succ]
    refine wpAnyH_take (i := 14) (oi := ({ dst := some 23, op := Go.Op.binOp Go.BinOp.eql 55 (Go.Operand.tmp 18) (Go.Operand.tmp 22) 55, type := 4, pos := _, after := #[{ on := 9, ground := Go.Ground.data }, { on := 13, ground := Go.Ground.data }, { on := 5, ground := Go.Ground.guard }], guard := some (5, true) } : Oper)) (v := undef) rfl (by kernel_rfl) (by kernel_rfl) (by kernel_rfl) (fun _ _ _ h => h) (Or.inr ⟨by rfl, rfl⟩) (by assumption) ?_
    simp only [Act.put, List.setIfInBounds_toArray, List.set_cons_zero, List.set_cons_succ]
    refine wpAnyH_take (i := 15) (oi := ({ dst := some 24, op := Go.Op.pick (Go.Operand.tmp 14) (Go.Operand.tmp 23) (Go.Operand.const (Go.Value.bool false)), type := 4, pos := _, after := #[{ on := 5, ground := Go.Ground.data }, { on := 14, ground := Go.Ground.data }], guard := none } : Oper)) (v := ?_) rfl (by kernel_rfl) (by kernel_rfl) (by kernel_rfl) (fun _ _ _ h => h) (Or.inl ⟨by rfl, ?_⟩) (by assumption) ?_
    rotate_left
    · (intro w hSw; (try dsimp only at hSw); go_simp; try with_reducible rfl)
    simp only [Act.put, List.setIfInBounds_toArray, List.set_cons_zero, List.set_cons_succ]
    refine wpAnyH_take (i := 16) (oi := ({ dst := some 8, op := Go.Op.assign (Go.Operand.tmp 24), type := 4, pos := _, after := #[{ on := 15, ground := Go.Ground.data }, { on := 13, ground := Go.Ground.chain }, { on := 0, ground := Go.Ground.phase }, { on := 1, ground := Go.Ground.phase }, { on := 2, ground := Go.Ground.phase }, { on := 3, ground := Go.Ground.phase }, { on := 4, ground := Go.Ground.phase }, { on := 5, ground := Go.Ground.phase }, { on := 6, ground := Go.Ground.phase }, { on := 7, ground := Go.Ground.phase }, { on := 8, ground := Go.Ground.phase }, { on := 9, ground := Go.Ground.phase }, { on := 10, ground := Go.Ground.phase }, { on := 11, ground := Go.Ground.phase }, { on := 12, ground := Go.Ground.phase }, { on := 13, ground := Go.Ground.phase }, { on := 14, ground := Go.Ground.phase }, { on := 15, ground := Go.Ground.phase }], guard := none } : Oper)) (v := ?_) rfl (by kernel_rfl) (by kernel_rfl) (by kernel_rfl) (fun _ _ _ h => h) (Or.inl ⟨by rfl, ?_⟩) (by assumption) ?_
    rotate_left
    · (intro w hSw; (try dsimp only at hSw); go_simp; try with_reducible rfl)
    simp only [Act.put, List.setIfInBounds_toArray, List.set_cons_zero, List.set_cons_succ]
    refine wpAnyH_done (by kernel_rfl) ?_ _
    have hBz := bcat2 hB0 hBc
    go_wp2
    go_ret
    exact ⟨by simp [HRES.out], hBz⟩
end Go.Proofs.YtgejngpioldhpaaGreatDoor

namespace Go.Proofs.YtgejngpioldhpaaGreatDoor
open Go Go.RowKit

/-- What Direct answers. -/
def DirR (c1 i1 c2 i2 : Int) (D b : Bool) (c i : Int) : Prop := (c1 ≠ 0 ∧ b = false ∧ c = c1 ∧ i = i1) ∨ (c1 = 0 ∧ c2 ≠ 0 ∧ b = false ∧ c = c2 ∧ i = i2) ∨ (c1 = 0 ∧ c2 = 0 ∧ b = D ∧ c = 0 ∧ i = 0)
theorem dir1 {c1 i1 c2 i2 : Int} {D : Bool} (h : c1 ≠ 0) : DirR c1 i1 c2 i2 D false c1 i1 := .inl ⟨h, rfl, rfl, rfl⟩
theorem dir2 {c1 i1 c2 i2 : Int} {D : Bool} (h0 : c1 = 0) (h : c2 ≠ 0) : DirR c1 i1 c2 i2 D false c2 i2 := .inr (.inl ⟨h0, h, rfl, rfl, rfl⟩)
theorem dir3 {c1 i1 c2 i2 : Int} {D : Bool} (h0 : c1 = 0) (h : c2 = 0) : DirR c1 i1 c2 i2 D D 0 0 := .inr (.inr ⟨h0, h, rfl, rfl, rfl⟩)
end Go.Proofs.YtgejngpioldhpaaGreatDoor

namespace Go.Proofs.YtgejngpioldhpaaGreatDoor
open Go Go.RowKit

/-- Two sets have the one alone, make all, and commute. -/
structure TogP (n : Nat) (zs : List Int) (e : Nat) (q r : Nat → Bool) : Prop where
  meet : ∀ a, a < n → q a = true → r a = true → a = e
  all : ∀ a, a < n → Mkd n zs e (fun a => q a || r a) a
  com : ∀ a b, a < n → b < n → q a = true → r b = true → tm n zs a b = tm n zs b a
theorem cmq_iff {n e : Nat} {zs : List Int} {xs ys : List Nat} {y : Nat} : cmq n zs e xs ys y = true ↔ ∃ a, a ∈ xs ∧ ∃ b, b ∈ ys ∧ Fin.cm (tm n zs) (iv n zs e) a b = y := by
  unfold cmq
  simp
theorem dirB_iff {n e : Nat} {zs : List Int} {q r p c : Nat → Bool} (g : IsGrp n zs e) (hq : q e = true) (hr : r e = true) (hp : ∀ a, a < n → (p a = true ↔ Mkd n zs e (fun a => q a || r a) a)) (hc : ∀ a, a < n → (c a = true ↔ Mkd n zs e (cmq n zs e (lst n q) (lst n r)) a)) : dirB n e q r p c = true ↔ TogP n zs e q r := by
  unfold dirB cmpB
  rw [Bool.and_eq_true, Bool.and_eq_true, decide_eq_true_eq, decide_eq_true_eq, decide_eq_true_eq]
  constructor
  · rintro ⟨⟨h1, h2⟩, h3⟩
    refine ⟨fun a ha hqa hra => ?_, fun a ha => (hp a ha).1 (bs_inj h2 a ha), fun a b ha hb hqa hrb => ?_⟩
    · have := bs_inj h1 a ha
      rw [hqa, hra] at this
      exact of_decide_eq_true this.symm
    · have ha' := List.mem_range.2 ha
      have hb' := List.mem_range.2 hb
      have hcm := Fin.cm_mem (grp_fg g) (grp_iv g) ha' hb'
      have hlt := List.mem_range.1 hcm
      have hM : Mkd n zs e (cmq n zs e (lst n q) (lst n r)) (Fin.cm (tm n zs) (iv n zs e) a b) := Fin.Gen.base hcm (cmq_iff.2 ⟨a, mem_lst.2 ⟨ha, hqa⟩, b, mem_lst.2 ⟨hb, hrb⟩, rfl⟩)
      have := bs_inj h3 _ hlt
      rw [(hc _ hlt).2 hM] at this
      exact (Fin.cm_one (grp_fg g) (grp_iv g) ha' hb').1 (of_decide_eq_true this.symm)
  · intro T
    refine ⟨⟨bs_ext fun a ha => ?_, bs_ext fun a ha => (hp a ha).2 (T.all a ha)⟩, bs_ext fun a ha => ?_⟩
    · rw [Bool.eq_iff_iff, Bool.and_eq_true, decide_eq_true_eq]
      exact ⟨fun h => T.meet a ha h.1 h.2, fun h => by rw [h]; exact ⟨hq, hr⟩⟩
    · rw [Bool.eq_iff_iff, decide_eq_true_eq, hc a ha]
      constructor
      · intro h
        refine Fin.Gen.least (P := fun x => x = e) ⟨rfl, fun x y _ _ h1 h2 => by rw [h1, h2]; exact g.left e g.elt⟩ (fun x _ hx => ?_) h
        obtain ⟨y, hy, z, hz, rfl⟩ := cmq_iff.1 hx
        obtain ⟨hy1, hy2⟩ := mem_lst.1 hy
        obtain ⟨hz1, hz2⟩ := mem_lst.1 hz
        exact (Fin.cm_one (grp_fg g) (grp_iv g) (List.mem_range.2 hy1) (List.mem_range.2 hz1)).2 (T.com y z hy1 hz1 hy2 hz2)
      · intro h
        rw [h]
        exact (Fin.Gen.sg _).one
/-- What the document asks of them. -/
theorem tog_iff {n e : Nat} {zs : List Int} {q r p : Nat → Bool} (g : IsGrp n zs e) (hq : q e = true) (hr : r e = true) (hp : ∀ a, a < n → (p a = true ↔ Mkd n zs e (fun a => decide (a ∈ lst n q ++ lst n r)) a)) :
    ((lst n fun a => q a && r a).length = 1 ∧ (lst n p).length = n ∧ ∀ a b, a ∈ lst n q → b ∈ lst n r → tm n zs a b = tm n zs b a) ↔ TogP n zs e q r := by
  have hM : ∀ a, Mkd n zs e (fun a => q a || r a) a ↔ Mkd n zs e (fun a => decide (a ∈ lst n q ++ lst n r)) a := by
    intro a
    constructor
    · refine Fin.Gen.mono fun x hx h => ?_
      have hx' := List.mem_range.1 hx
      rw [decide_eq_true_eq, List.mem_append, mem_lst, mem_lst]
      rcases (Bool.or_eq_true _ _).mp h with h | h
      · exact .inl ⟨hx', h⟩
      · exact .inr ⟨hx', h⟩
    · refine Fin.Gen.mono fun x hx h => ?_
      rw [decide_eq_true_eq, List.mem_append, mem_lst, mem_lst] at h
      rcases h with h | h
      · simp [h.2]
      · simp [h.2]
  have he : e ∈ lst n fun a => q a && r a := mem_lst.2 ⟨g.elt, by simp [hq, hr]⟩
  constructor
  · rintro ⟨h1, h2, h3⟩
    refine ⟨fun a ha hqa hra => ?_, fun a ha => (hM a).2 ((hp a ha).1 (lst_full'.1 h2 a ha)), fun a b ha hb hqa hrb => h3 a b (mem_lst.2 ⟨ha, hqa⟩) (mem_lst.2 ⟨hb, hrb⟩)⟩
    obtain ⟨x, hx⟩ := List.length_eq_one_iff.1 h1
    have h4 : a ∈ lst n fun a => q a && r a := mem_lst.2 ⟨ha, by simp [hqa, hra]⟩
    rw [hx, List.mem_singleton] at he h4
    rw [he, h4]
  · intro T
    refine ⟨?_, lst_full'.2 fun a ha => (hp a ha).2 ((hM a).1 (T.all a ha)), fun a b ha hb => T.com a b (mem_lst.1 ha).1 (mem_lst.1 hb).1 (mem_lst.1 ha).2 (mem_lst.1 hb).2⟩
    have : (lst n fun a => q a && r a) = lst n fun a => decide (a = e) := lst_congr fun a ha => by
      rw [Bool.eq_iff_iff, Bool.and_eq_true, decide_eq_true_eq]
      exact ⟨fun h => T.meet a ha h.1 h.2, fun h => by rw [h]; exact ⟨hq, hr⟩⟩
    rw [this, one_lsx n e g.elt]
    rfl
theorem subT_one {n e : Nat} {zs : List Int} {q : Nat → Bool} (h : subT n zs e q = true) : q e = true := (subT_iff.1 h).one
theorem sl_slice {w : World} {v : Value} {zs : List Int} (h : Sl w v zs) : ∃ a l c, v = .slice a l c := by
  obtain ⟨a, cap, pb, po, rfl, _⟩ := h
  exact ⟨a, _, cap, rfl⟩
theorem bs_pset {n : Nat} {ls : List Int} : bs (fun a => decide (a ∈ lst n (pset ls))) n = bs (pset ls) n := bs_ext fun a ha => by
  rw [Bool.eq_iff_iff, decide_eq_true_eq, mem_lst]
  exact ⟨fun h => h.2, fun h => ⟨ha, h⟩⟩
theorem of_set (n : Nat) (v : Value) (ls : List Int) (w : World) (hn : n ≤ 60) (hv : Sl w v ls) (h : lfault n ls = (0, 0)) :
    Calls Tryz.prog 26 #[v] w fun e w' => e = .returned (.int .u64 (bs (pset ls) n)) ∧ Below w.heap.size w w' := by
  have hl := set_lst (show (lfault n ls).1 = 0 by rw [h])
  have := of_ok n v (lst n (pset ls)) w hn (Nat.le_trans (lst_len _ _) hn) (by rw [← hl]; exact hv) (fun x hx => (mem_lst.1 hx).1)
  rw [bs_pset] at this
  refine this.mono ?_
  rintro x w' ⟨rfl, rfl⟩
  exact ⟨rfl, Below.refl _ _⟩
/-- What is wrong with two subgroups. -/
def dfault (N : Int) (zs ls ms : List Int) : Int × Int := if (ufault N zs ls).1 ≠ 0 then ufault N zs ls else ufault N zs ms
theorem grp_same {n e d : Nat} {zs : List Int} (g : IsGrp n zs e) (h : IsGrp n zs d) : e = d := by
  have := g.one
  rw [h.one] at this
  omega
theorem nrm_any (N : Int) (v u : Value) (zs l : List Int) (w : World) (hv : Sl w v zs) (hu : Sl w u l) (hT : Tab w) :
    ∃ b, ∀ W, Below w.heap.size w W → Calls Tryz.prog 24 #[.agg #[.int .i64 N, v], u] W fun x W' => x = .returned (.tuple #[.bool b, .agg #[.int .i64 (ufault N zs l).1, .int .i64 (ufault N zs l).2]]) ∧ Below W.heap.size W W' := by
  by_cases h : (ufault N zs l).1 = 0
  · obtain ⟨n, e, rfl, hg, h1, h2, h3⟩ := ufault_zero h
    refine ⟨nrmq n zs e (pset l), fun W hW => ?_⟩
    rw [h3]
    exact nrm_good n e v u zs l W (hv.below hW) hg (hu.below hW) (hT.below hW) h1 h2
  · exact ⟨false, fun W hW => nrm_bad N v u zs l W (hv.below hW) (hu.below hW) (hT.below hW) h⟩
end Go.Proofs.YtgejngpioldhpaaGreatDoor

namespace Go.Proofs.YtgejngpioldhpaaGreatDoor
open Go Go.RowKit

def cmpI (x y : Int) : Int := if x < y then -1 else if y < x then 1 else 0
theorem isNaN_ok (x : Int) (w : World) : Calls Tryz.prog 98 #[.int .i64 x] w fun e w' => e = .returned (.bool false) ∧ w' = w := by
  have h : (x != x) = false := by simp
  go_enter Tryz.func98, Tryz.ntmps98
  go_wp2
  go_ret
  exact ⟨rfl, rfl⟩
set_option maxRecDepth 100000 in
theorem cmpI_ok (x y : Int) (w : World) : Calls Tryz.prog 74 #[.int .i64 x, .int .i64 y] w fun e w' => e = .returned (.int .i64 (cmpI x y)) ∧ w' = w := by
  unfold cmpI
  by_cases h1 : x < y
  · rw [if_pos h1]
    go_enter Tryz.func74, Tryz.ntmps74
    go_wp2_with fail
    refine (isNaN_ok x w).mono ?_
    rintro e w1 ⟨rfl, rfl⟩
    go_wp2_with fail
    refine (isNaN_ok y w1).mono ?_
    rintro e w2 ⟨rfl, rfl⟩
    go_wp2
    go_ret
    exact ⟨rfl, rfl⟩
  · rw [if_neg h1]
    by_cases h2 : y < x
    · rw [if_pos h2]
      go_enter Tryz.func74, Tryz.ntmps74
      go_wp2_with fail
      refine (isNaN_ok x w).mono ?_
      rintro e w1 ⟨rfl, rfl⟩
      go_wp2_with fail
      refine (isNaN_ok y w1).mono ?_
      rintro e w2 ⟨rfl, rfl⟩
      go_wp2
      go_ret
      exact ⟨rfl, rfl⟩
    · rw [if_neg h2]
      go_enter Tryz.func74, Tryz.ntmps74
      go_wp2_with fail
      refine (isNaN_ok x w).mono ?_
      rintro e w1 ⟨rfl, rfl⟩
      go_wp2_with fail
      refine (isNaN_ok y w1).mono ?_
      rintro e w2 ⟨rfl, rfl⟩
      go_wp2
      go_ret
      exact ⟨rfl, rfl⟩
/-- How two lists compare. -/
def cmpL : List Int → List Int → Int
  | [], [] => 0
  | [], _ :: _ => -1
  | _ :: _, [] => 1
  | x :: xs, y :: ys => if cmpI x y ≠ 0 then cmpI x y else cmpL xs ys
theorem cmpL_step {xs ys : List Int} {k : Nat} (h1 : k < xs.length) (h2 : k < ys.length) : cmpL (xs.drop k) (ys.drop k) = if cmpI xs[k] ys[k] ≠ 0 then cmpI xs[k] ys[k] else cmpL (xs.drop (k + 1)) (ys.drop (k + 1)) := by
  rw [List.drop_eq_getElem_cons h1, List.drop_eq_getElem_cons h2, cmpL]
theorem cmpL_more {xs ys : List Int} {k : Nat} (h1 : k < xs.length) (h2 : ys.length ≤ k) : cmpL (xs.drop k) (ys.drop k) = 1 := by
  rw [List.drop_eq_getElem_cons h1, List.drop_eq_nil_of_le h2, cmpL]
theorem cmpL_less {xs ys : List Int} {k : Nat} (h1 : xs.length ≤ k) (h2 : k < ys.length) : cmpL (xs.drop k) (ys.drop k) = -1 := by
  rw [List.drop_eq_getElem_cons h2, List.drop_eq_nil_of_le h1, cmpL]
theorem cmpL_end {xs ys : List Int} {k : Nat} (h1 : xs.length ≤ k) (h2 : ys.length ≤ k) : cmpL (xs.drop k) (ys.drop k) = 0 := by
  rw [List.drop_eq_nil_of_le h1, List.drop_eq_nil_of_le h2, cmpL]
set_option maxRecDepth 100000 in
set_option maxHeartbeats 2000000 in
theorem scmp_ok (v u : Value) (xs ys : List Int) (w : World) (hv : Sl w v xs) (hu : Sl w u ys) (hx : xs.length ≤ 60) (hy : ys.length ≤ 60) :
    Calls Tryz.prog 75 #[v, u] w fun e w' => e = .returned (.int .i64 (cmpL xs ys)) ∧ w' = w := by
  obtain ⟨xa, xcap, xb, xo, rfl, ⟨x1, x2⟩, _, _, x5⟩ := hv
  obtain ⟨ya, ycap, yb, yo, rfl, ⟨y1, y2⟩, _, _, y5⟩ := hu
  have HX1 := hide x1
  have HX2 := hide x2
  have HY1 := hide y1
  have HY2 := hide y2
  clear x1 x2 y1 y2 x5 y5
  go_enter Tryz.func75, Tryz.ntmps75
  go_wp2
  go_loopw [11] (fun i wr => ∃ k : Nat, k ≤ xs.length ∧ k ≤ ys.length ∧ i = .int .i64 k ∧ cmpL xs ys = cmpL (xs.drop k) (ys.drop k) ∧ wr = w) (fun i _ => xs.length - (intOf i).toNat)
  case atStart => exact ⟨0, Nat.zero_le _, Nat.zero_le _, rfl, by simp, rfl⟩
  case round =>
    obtain ⟨k, hk, hk2, rfl, hc, hwr⟩ := hrel
    rw [hwr]
    clear hwr
    have HC := hide hc
    clear hc
    by_cases hlt : k < xs.length
    · have hki : (k : Int) < (xs.length : Int) := by omega
      obtain rfl := HX1.out (by omega)
      have cx := HX2.out k hlt
      rw [List.getElem?_eq_getElem hlt, Option.getD_some] at cx
      by_cases hlu : k < ys.length
      · have hku : ¬ (k : Int) ≥ (ys.length : Int) := by omega
        have hku' : ¬ (ys.length : Int) ≤ (k : Int) := by omega
        have hki2 : (k : Int) < (ys.length : Int) := by omega
        obtain rfl := HY1.out (by omega)
        have cy := HY2.out k hlu
        rw [List.getElem?_eq_getElem hlu, Option.getD_some] at cy
        have HE := hide (cmpL_step hlt hlu)
        generalize xs[k] = x at *
        generalize ys[k] = y at *
        have HI := hide (cmpI_ok x y w)
        obtain ⟨z, hz⟩ : ∃ z, cmpI x y = z := ⟨_, rfl⟩
        rw [hz] at HI HE
        clear hz
        by_cases hz0 : z = 0
        · subst hz0
          go_wp2_with fail
          refine HI.out.mono ?_
          rintro e w1 ⟨rfl, rfl⟩
          go_wp2
          go_roundw
          case rel => exact ⟨k + 1, by omega, by omega, by go_num, by rw [HC.out, HE.out]; rfl, trivial⟩
          case measure => simp [intOf]; omega
        · have hzb : (z != 0) = true := by simpa using hz0
          have HZ := hide (show cmpL xs ys = z by rw [HC.out, HE.out, if_pos hz0])
          go_wp2_with fail
          refine HI.out.mono ?_
          rintro e w1 ⟨rfl, rfl⟩
          go_wp2
          go_ret
          exact ⟨by rw [HZ.out]; rfl, rfl⟩
      · have hku : (k : Int) ≥ (ys.length : Int) := by omega
        have hku' : (ys.length : Int) ≤ (k : Int) := by omega
        have HZ := hide (show cmpL xs ys = 1 by rw [HC.out, cmpL_more hlt (by omega)])
        go_wp2
        go_ret
        exact ⟨by rw [HZ.out]; rfl, rfl⟩
    · have hki : ¬ (k : Int) < (xs.length : Int) := by omega
      by_cases hlu : xs.length < ys.length
      · have hlu' : (xs.length : Int) < (ys.length : Int) := by omega
        have HZ := hide (show cmpL xs ys = -1 by rw [HC.out, cmpL_less (by omega) (by omega)])
        go_wp2
        go_ret
        exact ⟨by rw [HZ.out]; rfl, rfl⟩
      · have hlu' : ¬ (xs.length : Int) < (ys.length : Int) := by omega
        have HZ := hide (show cmpL xs ys = 0 by rw [HC.out, cmpL_end (by omega) (by omega)])
        go_wp2
        go_ret
        exact ⟨by rw [HZ.out]; rfl, rfl⟩
end Go.Proofs.YtgejngpioldhpaaGreatDoor

namespace Go.Proofs.YtgejngpioldhpaaGreatDoor
open Go Go.RowKit

/-- The first that is not 0. -/
def orL : List Int → Int
  | [] => 0
  | x :: xs => if x ≠ 0 then x else orL xs
theorem orL_step {xs : List Int} {k : Nat} (h1 : k < xs.length) : orL (xs.drop k) = if xs[k] ≠ 0 then xs[k] else orL (xs.drop (k + 1)) := by
  rw [List.drop_eq_getElem_cons h1, orL]
theorem orL_end {xs : List Int} {k : Nat} (h1 : xs.length ≤ k) : orL (xs.drop k) = 0 := by
  rw [List.drop_eq_nil_of_le h1, orL]
set_option maxRecDepth 100000 in
set_option maxHeartbeats 2000000 in
theorem or_ok (v : Value) (xs : List Int) (w : World) (hv : Sl w v xs) (hx : xs.length ≤ 60) :
    Calls Tryz.prog 73 #[v] w fun e w' => e = .returned (.int .i64 (orL xs)) ∧ w' = w := by
  obtain ⟨xa, xcap, xb, xo, rfl, ⟨x1, x2⟩, _, _, x5⟩ := hv
  have HX1 := hide x1
  have HX2 := hide x2
  clear x1 x2 x5
  go_enter Tryz.func73, Tryz.ntmps73
  go_wp2
  go_loopw [8] (fun i wr => ∃ k : Nat, k ≤ xs.length ∧ i = .int .i64 k ∧ orL xs = orL (xs.drop k) ∧ wr = w) (fun i _ => xs.length - (intOf i).toNat)
  case atStart => exact ⟨0, Nat.zero_le _, rfl, by simp, rfl⟩
  case round =>
    obtain ⟨k, hk, rfl, hc, hwr⟩ := hrel
    rw [hwr]
    clear hwr
    have HC := hide hc
    clear hc
    by_cases hlt : k < xs.length
    · have hki : (k : Int) < (xs.length : Int) := by omega
      obtain rfl := HX1.out (by omega)
      have cx := HX2.out k hlt
      rw [List.getElem?_eq_getElem hlt, Option.getD_some] at cx
      have HE := hide (orL_step hlt)
      generalize xs[k] = z at *
      by_cases hz0 : z = 0
      · subst hz0
        go_wp2
        go_roundw
        case rel => exact ⟨k + 1, by omega, by go_num, by rw [HC.out, HE.out]; rfl, trivial⟩
        case measure => simp [intOf]; omega
      · have hzb : (z != 0) = true := by simpa using hz0
        have HZ := hide (show orL xs = z by rw [HC.out, HE.out, if_pos hz0])
        go_wp2
        go_ret
        exact ⟨by rw [HZ.out]; rfl, rfl⟩
    · have hki : ¬ (k : Int) < (xs.length : Int) := by omega
      have HZ := hide (show orL xs = 0 by rw [HC.out, orL_end (by omega)])
      go_wp2
      go_ret
      exact ⟨by rw [HZ.out]; rfl, rfl⟩
end Go.Proofs.YtgejngpioldhpaaGreatDoor

namespace Go.Proofs.YtgejngpioldhpaaGreatDoor
open Go Go.RowKit

/-- How two lists compare by their lengths first. -/
def cmpN (xs ys : List Int) : Int := orL [cmpI xs.length ys.length, cmpL xs ys]
theorem two_sl (w : World) (c d : Int) : Sl (w.alloc (.cells #[.int .i64 c, .int .i64 d] 3)) (.slice (some ⟨w.heap.size, 0, none⟩) 2 2) [c, d] := by
  refine ⟨_, _, w.heap.size, 0, rfl, ⟨fun _ => rfl, fun j hj => ?_⟩, by simp, by simp, by unfold maxLen; omega⟩
  have h := blk0 (w := w) (T := 3) (.int .i64 c) (.int .i64 d)
  match j, hj with
  | 0, _ => exact h.cell 0
  | 1, _ => exact h.cell 1
set_option maxRecDepth 100000 in
set_option maxHeartbeats 2000000 in
theorem lcmp_ok (v u : Value) (xs ys : List Int) (w : World) (hv : Sl w v xs) (hu : Sl w u ys) (hx : xs.length ≤ 60) (hy : ys.length ≤ 60) :
    Calls Tryz.prog 72 #[v, u] w fun e w' => e = .returned (.int .i64 (cmpN xs ys)) ∧ ∃ o q, w' = (w.alloc o).drewN q := by
  have HS := hide (scmp_ok v u xs ys w hv hu hx hy)
  have HI := hide (cmpI_ok xs.length ys.length w)
  obtain ⟨xa, xcap, xb, xo, rfl, _⟩ := hv
  obtain ⟨ya, ycap, yb, yo, rfl, _⟩ := hu
  obtain ⟨c, hc⟩ : ∃ c, cmpI xs.length ys.length = c := ⟨_, rfl⟩
  obtain ⟨d, hd⟩ : ∃ d, cmpL xs ys = d := ⟨_, rfl⟩
  unfold cmpN
  rw [hc] at HI ⊢
  rw [hd] at HS ⊢
  clear hc hd
  go_enter Tryz.func72, Tryz.ntmps72
  go_wp2_with fail
  refine HI.out.mono ?_
  rintro e w1 ⟨rfl, rfl⟩
  go_wp2_with fail
  refine HS.out.mono ?_
  rintro e w2 ⟨rfl, rfl⟩
  go_wp2_with fail
  refine (or_ok _ [c, d] (w2.alloc (.cells #[.int .i64 c, .int .i64 d] 3)) (two_sl w2 c d) (by simp)).mono ?_
  rintro e w3 ⟨rfl, rfl⟩
  go_wp2
  go_ret
  exact ⟨rfl, _, 0, rfl⟩
end Go.Proofs.YtgejngpioldhpaaGreatDoor

namespace Go.Proofs.YtgejngpioldhpaaGreatDoor
open Go Go.RowKit

theorem cmpI_neg (x y : Int) : cmpI y x = - cmpI x y := by unfold cmpI; split <;> split <;> (try split) <;> omega
theorem cmpI_lt {x y : Int} : cmpI x y < 0 ↔ x < y := by unfold cmpI; split <;> (try split) <;> omega
theorem cmpI_zero {x y : Int} : cmpI x y = 0 ↔ x = y := by unfold cmpI; split <;> (try split) <;> omega
theorem cmpL_neg : ∀ xs ys : List Int, cmpL ys xs = - cmpL xs ys
  | [], [] => rfl
  | [], _ :: _ => rfl
  | _ :: _, [] => rfl
  | x :: xs, y :: ys => by
    unfold cmpL
    rw [cmpI_neg x y, cmpL_neg xs ys]
    split <;> split <;> omega
theorem cmpL_zero : ∀ xs ys : List Int, cmpL xs ys = 0 ↔ xs = ys
  | [], [] => by simp [cmpL]
  | [], _ :: _ => by simp [cmpL]
  | _ :: _, [] => by simp [cmpL]
  | x :: xs, y :: ys => by
    unfold cmpL
    have h1 := @cmpI_zero x y
    have h2 := cmpL_zero xs ys
    rw [List.cons.injEq]
    split
    · exact ⟨fun h => absurd h (by assumption), fun h => absurd (h1.2 h.1) (by assumption)⟩
    · rename_i h
      rw [Decidable.not_not] at h
      exact ⟨fun k => ⟨h1.1 h, h2.1 k⟩, fun k => h2.2 k.2⟩
theorem cmpL_trans : ∀ xs ys zs : List Int, cmpL xs ys < 0 → cmpL ys zs < 0 → cmpL xs zs < 0
  | [], [], _, h, _ => absurd h (by simp [cmpL])
  | _ :: _, [], _, h, _ => absurd h (by simp [cmpL])
  | _, _ :: _, [], _, h => absurd h (by simp [cmpL])
  | [], _ :: _, _ :: _, _, _ => by simp [cmpL]
  | x :: xs, y :: ys, z :: zs, h1, h2 => by
    unfold cmpL at *
    have a1 := @cmpI_lt x y
    have a2 := @cmpI_lt y z
    have a3 := @cmpI_lt x z
    have b1 := @cmpI_zero x y
    have b2 := @cmpI_zero y z
    have b3 := @cmpI_zero x z
    have ih := cmpL_trans xs ys zs
    split at h1
    · have hxy := a1.1 h1
      split at h2
      · have hyz := a2.1 h2
        have := a3.2 (by omega)
        rw [if_pos (by omega)]; exact this
      · rename_i h
        have := b2.1 (by omega)
        have := a3.2 (by omega)
        rw [if_pos (by omega)]; exact this
    · rename_i h
      have hxy := b1.1 (by omega)
      split at h2
      · have hyz := a2.1 h2
        have := a3.2 (by omega)
        rw [if_pos (by omega)]; exact this
      · rename_i h'
        have := b2.1 (by omega)
        have := b3.2 (by omega)
        rw [if_neg (by omega)]; exact ih h1 h2
theorem cmpN_eq (xs ys : List Int) : cmpN xs ys = if cmpI xs.length ys.length ≠ 0 then cmpI xs.length ys.length else cmpL xs ys := by
  unfold cmpN orL orL orL
  split
  · rfl
  · split
    · rfl
    · omega
theorem cmpN_neg (xs ys : List Int) : cmpN ys xs = - cmpN xs ys := by
  rw [cmpN_eq, cmpN_eq, cmpI_neg xs.length ys.length, cmpL_neg xs ys]
  split <;> split <;> omega
theorem cmpN_zero {xs ys : List Int} : cmpN xs ys = 0 ↔ xs = ys := by
  rw [cmpN_eq]
  split
  · rename_i h
    exact ⟨fun k => absurd k h, fun k => absurd (cmpI_zero.2 (by rw [k])) h⟩
  · exact cmpL_zero xs ys
theorem cmpN_trans {xs ys zs : List Int} (h1 : cmpN xs ys < 0) (h2 : cmpN ys zs < 0) : cmpN xs zs < 0 := by
  rw [cmpN_eq] at *
  have a1 := @cmpI_lt xs.length ys.length
  have a2 := @cmpI_lt ys.length zs.length
  have a3 := @cmpI_lt xs.length zs.length
  have b1 := @cmpI_zero xs.length ys.length
  have b2 := @cmpI_zero ys.length zs.length
  have b3 := @cmpI_zero xs.length zs.length
  split at h1
  · have hxy := a1.1 h1
    split at h2
    · have hyz := a2.1 h2
      have := a3.2 (by omega)
      rw [if_pos (by omega)]; exact this
    · have := b2.1 (by omega)
      have := a3.2 (by omega)
      rw [if_pos (by omega)]; exact this
  · have hxy := b1.1 (by omega)
    split at h2
    · have hyz := a2.1 h2
      have := a3.2 (by omega)
      rw [if_pos (by omega)]; exact this
    · have := b2.1 (by omega)
      have := b3.2 (by omega)
      rw [if_neg (by omega)]; exact cmpL_trans _ _ _ h1 h2
/-- Not less and not less is not less. -/
theorem cmpN_ge {xs ys zs : List Int} (h1 : ¬ cmpN xs ys < 0) (h2 : ¬ cmpN ys zs < 0) : ¬ cmpN xs zs < 0 := by
  intro h
  rcases Int.lt_or_eq_of_le (show 0 ≤ cmpN xs ys by omega) with k | k
  · have hyx : cmpN ys xs < 0 := by rw [cmpN_neg xs ys]; omega
    exact h2 (cmpN_trans hyx h)
  · rw [cmpN_zero.1 k.symm] at h
    exact h2 h
end Go.Proofs.YtgejngpioldhpaaGreatDoor

namespace Go.Proofs.YtgejngpioldhpaaGreatDoor
open Go Go.RowKit



theorem sw_heap {α : Type} [Inhabited α] (enc : α → Value) (w : World) (g m : Nat) (dk : Array α) (os : Array Obj) {b : Nat} (hb : b < w.heap.size) (hne : b ≠ g) : (sortWorld enc w g 0 m dk os).heap[b]? = w.heap[b]? := by
  show ((w.heap.modify g _) ++ os)[b]? = _
  rw [Array.getElem?_append_left (by rw [Array.size_modify]; exact hb), Array.getElem?_modify, if_neg (fun h => hne h.symm)]
theorem sw_size {α : Type} [Inhabited α] (enc : α → Value) (w : World) (g m : Nat) (dk : Array α) (os : Array Obj) : w.heap.size ≤ (sortWorld enc w g 0 m dk os).heap.size := by
  show _ ≤ ((w.heap.modify g _) ++ os).size
  rw [Array.size_append, Array.size_modify]; omega
theorem sw_below {α : Type} [Inhabited α] (enc : α → Value) (w : World) (g m : Nat) (dk : Array α) (os : Array Obj) {B : Nat} (hB : B ≤ g) (hg : g < w.heap.size) : Below B w (sortWorld enc w g 0 m dk os) :=
  ⟨rfl, rfl, rfl, sw_size enc w g m dk os, fun b hb => sw_heap enc w g m dk os (by omega) (by omega)⟩
theorem swo_cmpN {α : Type} (f : α → List Int) : Go.Sort.SWO (ltOf fun i j => cmpN (f i) (f j)) where
  irrefl x := by
    have : cmpN (f x) (f x) = 0 := cmpN_zero.2 rfl
    unfold ltOf; simp [this]
  trans x y z h1 h2 := by
    unfold ltOf at *
    rw [decide_eq_true_eq] at *
    exact cmpN_trans h1 h2
  ntrans x y z h1 h2 := by
    unfold ltOf at *
    rw [decide_eq_false_iff_not] at *
    exact cmpN_ge h1 h2
shelf_lay_g SlLaysF.n6 Slsf 6 at Tryz 71 as sortLists
end Go.Proofs.YtgejngpioldhpaaGreatDoor

namespace Go.Proofs.YtgejngpioldhpaaGreatDoor
open Go Go.RowKit

theorem ent77 (args : Array Value) (w : World) : (callFunc 72 args).run Tryz.prog w = .ok (.enter 72 args) w := enters_of Tryz.func72 (by kernel_rfl) rfl args w
theorem own_sw {α : Type} [Inhabited α] (enc : α → Value) {w : World} {base g cap m len : Nat} {e : TypeId} {os : Array Obj} {cur : Array Value} (d : Array α) (hl : d.size = len) (hb : base ≤ g) (hh : w.heap[g]? = some (.cells cur e (0, 0))) (h1 : len ≤ cap) (h2 : cap ≤ maxLen) (h3 : cur.size = cap * 1) :
    (sortWorld enc w g 0 m d os).ownsRow base e 1 (.slice (some ⟨g, 0, none⟩) len cap) len (d.toList.map enc) := by
  have hg : g < w.heap.size := (Array.getElem?_eq_some_iff.1 hh).1
  refine ⟨by simp [hl], .inr ⟨g, cap, Go.Sort.putCells enc 0 d cur, rfl, hb, ?_, h1, h2, by simp [Go.Sort.putCells, h3], ?_⟩⟩
  · show ((w.heap.modify g _) ++ os)[g]? = _
    rw [Array.getElem?_append_left (by rw [Array.size_modify]; exact hg), Array.getElem?_modify, if_pos rfl, hh]
    rfl
  · apply List.ext_getElem?
    intro j
    by_cases hj : j < len
    · rw [List.getElem?_take_of_lt (by omega), Array.getElem?_toList]
      simp [Go.Sort.putCells, show j < cur.size by omega, show j < d.size by omega]
    · rw [List.getElem?_take_eq_none (by omega), List.getElem?_eq_none (by simp; omega)]
/-- The lists, as they are sorted. -/
def srt (ms : List (List Int)) : Prop := ∀ i j, i < j → j < ms.length → ¬ cmpN (ms[j]?.getD []) (ms[i]?.getD []) < 0
theorem sort_ok (B g cap : Nat) (vs : List Value) (ls : List (List Int)) (w : World) (hrow : w.ownsRow B 22 1 (.slice (some ⟨g, 0, none⟩) vs.length cap) vs.length vs) (hls : Lsts w B (.slice (some ⟨g, 0, none⟩) vs.length cap) vs ls) (h60 : ∀ l, l ∈ ls → l.length ≤ 60) (hlen : vs.length < 4611686018427387904) (hpos : 0 < vs.length) :
    Calls Tryz.prog 71 #[.slice (some ⟨g, 0, none⟩) vs.length cap, .func (.func 72) #[] #[]] w fun e w' => e = .returned (.tuple #[]) ∧ Below B w w' ∧ ∃ ms : List (List Int), ms.Perm ls ∧ srt ms ∧ ∃ us : List Value, us.length = vs.length ∧ w'.ownsRow B 22 1 (.slice (some ⟨g, 0, none⟩) vs.length cap) vs.length us ∧ Lsts w' B (.slice (some ⟨g, 0, none⟩) vs.length cap) us ms := by
  have hvl := hls.1
  have hown : B ≤ g ∧ g < w.heap.size ∧ vs.length ≤ cap ∧ cap ≤ maxLen ∧ ∃ cur, w.heap[g]? = some (.cells cur 22 (0, 0)) ∧ cur.size = cap * 1 := by
    rcases hrow.2 with ⟨h, _⟩ | ⟨g', cap', cur, h, h1, h2, h3, h4, h9, _⟩
    · cases h
    · injection h with h5 _ h6
      injection h5 with h5
      injection h5 with h5
      subst h5 h6
      exact ⟨h1, (Array.getElem?_eq_some_iff.1 h2).1, h3, h4, cur, h2, h9⟩
  obtain ⟨hBg, hgw, hcap, hcap2, cur, hHP, hcur⟩ := hown
  haveI : Inhabited (Fin ls.length) := ⟨⟨0, by omega⟩⟩
  obtain ⟨enc, henc⟩ : ∃ enc : Fin ls.length → Value, ∀ i : Fin ls.length, vs[i.1]? = some (enc i) := ⟨fun i => vs[i.1]'(by omega), fun i => List.getElem?_eq_getElem (by omega)⟩
  have hval : ∀ i : Fin ls.length, ∃ a c pb po, enc i = .slice a (ls.get i).length c ∧ Reads w a pb po (ls.get i) ∧ pb < w.heap.size ∧ (ls.get i).length ≤ c ∧ c ≤ maxLen ∧ B ≤ pb ∧ pb ≠ g := fun i => by
    obtain ⟨a, c, pb, po, h1, h2, h3, h4, h5, h6, h7⟩ := hls.2 i.1 (enc i) (ls.get i) (henc i) (List.getElem?_eq_getElem i.2)
    exact ⟨a, c, pb, po, h1, h2, h3, h4, h5, h6, h7 g rfl⟩
  have hOne : OneCell enc := fun i => by
    obtain ⟨a, c, pb, po, h1, _⟩ := hval i
    rw [h1]; rfl
  obtain ⟨d, hd⟩ : ∃ d : Array (Fin ls.length), d = Array.ofFn (fun i => i) := ⟨_, rfl⟩
  have hds : d.size = vs.length := by rw [hd, Array.size_ofFn, hvl]
  have hH : Go.Sort.Holds enc w g 0 d := fun j hj => by
    have hj' : j < ls.length := by omega
    have h1 : d[j]! = ⟨j, hj'⟩ := by
      rw [getElem!_pos d j hj]
      simp [hd]
    have h3 := hrow.cells (g := g) rfl j (enc ⟨j, hj'⟩) (henc ⟨j, hj'⟩)
    rw [show (⟨g, 0, none⟩ : Addr).add j = ⟨g, j, none⟩ by unfold Addr.add; split <;> simp_all] at h3
    rw [Nat.zero_add, h1]
    exact ⟨h3, hrow.frozenAt j⟩
  have hSl : ∀ (W : World) (i : Fin ls.length), (∀ b, B ≤ b → b < w.heap.size → b ≠ g → W.heap[b]? = w.heap[b]?) → w.heap.size ≤ W.heap.size → Sl W (enc i) (ls.get i) := fun W i hW hs => by
    obtain ⟨a, c, pb, po, h1, h2, h3, h4, h5, h6, h7⟩ := hval i
    exact ⟨a, c, pb, po, h1, h2.of_eq (hW pb h6 h3 h7), Nat.lt_of_lt_of_le h3 hs, h4, h5⟩
  have hcmp : CmpLays1 Tryz.prog 72 #[] enc (fun i j : Fin ls.length => cmpN (ls.get i) (ls.get j)) g 0 d.size w := by
    intro m os dk _ x y
    have hw := fun b (_ : B ≤ b) (h1 : b < w.heap.size) (h2 : b ≠ g) => sw_heap enc w g m dk os h1 h2
    refine (lcmp_ok (enc x) (enc y) (ls.get x) (ls.get y) (sortWorld enc w g 0 m dk os) (hSl _ x hw (sw_size ..)) (hSl _ y hw (sw_size ..)) (h60 _ (List.get_mem ls _)) (h60 _ (List.get_mem ls _))).mono ?_
    rintro e w' ⟨rfl, o, q, rfl⟩
    refine ⟨rfl, q, #[o], ?_⟩
    rw [Go.Sort.alloc_eq_grow]
    rfl
  have hcon := Any.slices_SortFunc sortLists enc hOne (fun i j : Fin ls.length => cmpN (ls.get i) (ls.get j)) (swo_cmpN fun i : Fin ls.length => ls.get i) 72 #[] g 0 cap d w ent77 hcmp hH hgw (by omega)
  change Calls Tryz.prog 71 _ _ _ at hcon
  rw [hds] at hcon
  refine hcon.mono ?_
  rintro e w' ⟨rfl, d', n, os, hp, hs, rfl⟩
  refine ⟨rfl, sw_below enc w g n d' os hBg hgw, d'.toList.map (fun i => ls.get i), ?_, ?_, ?_⟩
  · obtain ⟨hp1, _, hp3⟩ := hp
    rw [← hds, show d.extract 0 d.size = d by simp, show d'.extract 0 d.size = d' by rw [← hp1]; simp] at hp3
    have h1 := hp3.map (fun i : Fin ls.length => ls.get i)
    have h2 : d.toList.map (fun i : Fin ls.length => ls.get i) = ls := by
      rw [hd]
      apply List.ext_getElem
      · simp
      · intro k h1 h2
        simp
    rw [h2] at h1
    exact h1
  · intro i j hij hj
    have hsz : d'.size = vs.length := by rw [hp.1, hds]
    have hj' : j < d'.size := by simpa using hj
    have h := hs i j (Nat.zero_le _) hij (by omega)
    unfold ltOf at h
    rw [decide_eq_false_iff_not, getElem!_pos d' i (by omega), getElem!_pos d' j hj'] at h
    rw [List.getElem?_map, List.getElem?_map, Array.getElem?_toList, Array.getElem?_toList, Array.getElem?_eq_getElem hj', Array.getElem?_eq_getElem (by omega)]
    exact h
  · have hsz : d'.size = vs.length := by rw [hp.1, hds]
    refine ⟨d'.toList.map enc, by simp [hsz], own_sw enc d' hsz hBg hHP hcap hcap2 hcur, by simp, fun t x l h1 h2 => ?_⟩
    rw [List.getElem?_map] at h1 h2
    obtain ⟨i, hi1, rfl⟩ := Option.map_eq_some_iff.1 h1
    rw [hi1] at h2
    obtain rfl := Option.some.inj h2
    obtain ⟨a, c, pb, po, k1, k2, k3, k4, k5, k6, k7⟩ := hval i
    exact ⟨a, c, pb, po, k1, k2.of_eq (sw_heap enc w g n d' os k3 k7), Nat.lt_of_lt_of_le k3 (sw_size ..), k4, k5, k6, fun g9 h9 h8 => k7 (h8.trans (Option.some.inj h9).symm)⟩
end Go.Proofs.YtgejngpioldhpaaGreatDoor

namespace Go.Proofs.YtgejngpioldhpaaGreatDoor
open Go Go.RowKit Go.Maps

theorem und82 : Tryz.prog.underlying 55 = some (.int .u64) := by kernel_rfl
theorem und118 : Tryz.prog.underlying 104 = some (.map 55 105) := by kernel_rfl
theorem und79 : Tryz.prog.underlying 71 = some (.slice 55) := by kernel_rfl
theorem key82 : Keyed Tryz.prog 55 := int_keyed und82
theorem zero119 (w : World) : (zeroValue 105).run Tryz.prog w = .ok (.agg #[]) w := by kernel_rfl
theorem info82 : (Tryz.prog.info? 55).map (fun i => (i.zero, i.size, i.bytes)) = some (some (.int .u64 0), 1, 8) := by kernel_rfl
/-- The sets that are found so far, as their bits. -/
def bits (n : Nat) (P : List (Nat → Bool)) : List Nat := P.map fun p => bs p n
theorem bits_len (n : Nat) (P : List (Nat → Bool)) : (bits n P).length = P.length := by simp [bits]
theorem bits_snoc (n : Nat) (P : List (Nat → Bool)) (p : Nat → Bool) : bits n (P ++ [p]) = bits n P ++ [bs p n] := by simp [bits]
/-- What is found so far: a map in a box, that knows the sets, and a list of them in another one, whose memory lies from B on. -/
structure SFnd (W : World) (B sb fb M n : Nat) (P : List (Nat → Bool)) : Prop where
  box : Boxed W sb 104 (.map (some M))
  map : ∃ D : DataW Unit, W.ownsMap Tryz.prog 55 unitElem M P.length D ∧ ∀ s : Nat, Maps.has D (.int .u64 s) = true ↔ s ∈ bits n P
  fnd : ∃ fv, Boxed W fb 71 fv ∧ W.ownsRow B 55 1 fv P.length ((bits n P).map fun (s : Nat) => Value.int .u64 (s : Int))
  sf : sb ≠ fb
  sm : sb ≠ M
  fm : fb ≠ M
  slt : sb < B
  flt : fb < B
  mlt : M < B
theorem SFnd.below {W W' : World} {B sb fb M n : Nat} {P : List (Nat → Bool)} (h : SFnd W B sb fb M n P) (hb : Below W.heap.size W W') : SFnd W' B sb fb M n P := by
  obtain ⟨h1, ⟨D, h2, h3⟩, ⟨fv, h4, h5⟩, h6, h7, h8, h9, h10, h11⟩ := h
  exact ⟨Boxed.below h1 hb, ⟨D, h2.kept (below_grown' hb none) (by simp), h3⟩, ⟨fv, Boxed.below h4 hb, own_keep2 h5 (fun g _ h2 => hb.block g h2)⟩, h6, h7, h8, h9, h10, h11⟩
theorem set_grown (w : World) (b : Nat) (v : Value) : w.grownBy (w.setCell ⟨b, 0, none⟩ v) (some b) := ⟨rfl, rfl, rfl, by rw [size_set]; exact Nat.le_refl _, fun g _ hne => Below.heap_setCell _ _ _ g (fun e => hne (by rw [e]))⟩
theorem own_val {w : World} {base n : Nat} {e : TypeId} {v : Value} {xs : List Value} (h : w.ownsRow base e 1 v n xs) : ∃ a cap, v = .slice a n cap := by
  rcases h.2 with ⟨rfl, rfl⟩ | ⟨g, cap, cur, rfl, _⟩
  · exact ⟨none, 0, rfl⟩
  · exact ⟨_, cap, rfl⟩
set_option maxRecDepth 100000 in
set_option maxHeartbeats 4000000 in
theorem stake_old (B sb fb M n : Nat) (p : Nat → Bool) (P : List (Nat → Bool)) (w : World) (hF : SFnd w B sb fb M n P) (hn : n ≤ 60) (hin : bs p n ∈ bits n P) :
    Calls Tryz.prog 93 #[.int .u64 (bs p n : Nat), .pointer (some ⟨sb, 0, none⟩), .pointer (some ⟨fb, 0, none⟩)] w fun e w' => e = .returned (.tuple #[]) ∧ SFnd w' B sb fb M n P ∧ Below w.heap.size w w' := by
  obtain ⟨D, hmap, hD⟩ := hF.map
  have c0 := hF.box.cell
  have hkw : (Lit.int .u64 (bs p n : Nat)).wf = true := WalkArith.wf_u64 (by have := bs_64 (p := p) hn; omega)
  have hkey := keyOf_int_mk und82 hkw
  have hh := (hD (bs p n)).2 hin
  have HF := hide hF
  clear hF hD hin
  generalize bs p n = X at *
  go_enter Tryz.func93, Tryz.ntmps93
  go_wp2_with (first
    | (at_lookup; refine wpList_lookup_own_unit _ rfl _ _ 104 rfl 55 105 key82 und118 (zero119 _) M _ D rfl hmap _ _ rfl hkey ?_; rw [hh]))
  go_end0
  exact ⟨rfl, HF.out.below (balloc w _), balloc w _⟩
set_option maxRecDepth 100000 in
set_option maxHeartbeats 4000000 in
theorem stake_new (B sb fb M n : Nat) (p : Nat → Bool) (P : List (Nat → Bool)) (w : World) (hF : SFnd w B sb fb M n P) (hB : B ≤ w.heap.size) (hn : n ≤ 60) (hin : ¬ bs p n ∈ bits n P) (hl : P.length ≤ 16777216) :
    Calls Tryz.prog 93 #[.int .u64 (bs p n : Nat), .pointer (some ⟨sb, 0, none⟩), .pointer (some ⟨fb, 0, none⟩)] w fun e w' => e = .returned (.tuple #[]) ∧ SFnd w' B sb fb M n (P ++ [p]) ∧ Chg B M fb w w' := by
  obtain ⟨i0, hi, hz0, hz1, hz2⟩ := info_parts info82
  obtain ⟨D, hmap, hD⟩ := hF.map
  obtain ⟨fv, hfb, hrow⟩ := hF.fnd
  obtain ⟨fa, fcap, rfl⟩ := own_val hrow
  have hsb := hF.box
  have c0 := hsb.cell
  have hkw : (Lit.int .u64 (bs p n : Nat)).wf = true := WalkArith.wf_u64 (by have := bs_64 (p := p) hn; omega)
  have hkey := keyOf_int_mk und82 hkw
  have hh : Maps.has D (.int .u64 (bs p n : Nat)) = false := by
    rw [← Bool.not_eq_true, hD]; exact hin
  have hIs : IsMap D := by
    obtain ⟨es, clock, hb, F, hs, hD⟩ := hmap
    exact ⟨_, hD⟩
  have HD2 := hide (show ∀ s : Nat, Maps.has (D.put (.int .u64 (bs p n : Nat)) (.agg [])) (.int .u64 s) = true ↔ s ∈ bits n (P ++ [p]) from fun s => by
    rw [bits_snoc, List.mem_append, List.mem_singleton]
    by_cases e : s = bs p n
    · subst e
      rw [has_put_same hIs (by trivial)]
      simp
    · rw [has_put_other (fun h9 => e (by injection h9 with _ h9; omega)), hD s]
      simp [e])
  obtain ⟨hsf, hsm, hfm, hslt, hflt, hmlt⟩ : sb ≠ fb ∧ sb ≠ M ∧ fb ≠ M ∧ sb < B ∧ fb < B ∧ M < B := ⟨hF.sf, hF.sm, hF.fm, hF.slt, hF.flt, hF.mlt⟩
  have HBS := hide (bits_snoc n P p)
  have HBL := hide (bits_len n P)
  clear hF hD hin
  have hmapA := hmap.kept (World.grownBy_alloc w (.cells #[] 105) none) (by simp)
  have c0A := (hsb.alloc (.cells #[] 105)).cell
  generalize bits n P = L9 at *
  generalize bs p n = X at *
  go_enter Tryz.func93, Tryz.ntmps93
  go_wp2_with (first
    | (at_lookup; refine wpList_lookup_own_unit _ rfl _ _ 104 rfl 55 105 key82 und118 (zero119 _) M _ D rfl hmap _ _ rfl hkey ?_; rw [hh])
    | (at_mapUpdate; refine wpList_mapUpdate_own _ rfl _ _ _ 104 rfl 55 105 key82 und118 _ M _ D rfl hmapA (by unfold maxLen; omega) _ _ _ rfl rfl hkey _ [] unitElem_mk ?_; intro w2 hmap2 hgrow2; have hf2 : Boxed w2 fb 71 (.slice fa P.length fcap) := Boxed.kept (hfb.alloc (.cells #[] 105)) hgrow2 (by simp; exact hfm); have hs2 : Boxed w2 sb 104 (.map (some M)) := Boxed.kept (hsb.alloc (.cells #[] 105)) hgrow2 (by simp; exact hsm); have hr2 : w2.ownsRow B 55 1 (.slice fa P.length fcap) P.length (L9.map fun (s : Nat) => Value.int .u64 (s : Int)) := own_keep2 hrow (fun g h1 h2 => (hgrow2.block g (by simp; omega) (by simp; omega)).trans (Below.heap_alloc _ _ g h2)); have hz9 : w.heap.size < w2.heap.size := (by have := hgrow2.size; simp at this; omega); have cf2 := hf2.cell)
    | (at_builtin; refine wpList_append_own _ rfl _ _ 71 rfl B 55 i0 (.int .u64 0) 1 8 und79 hi hz0 hz1 hz2 rfl (by decide) _ _ _ rfl (World.ownsRow.alloc hr2 _) ⟨w2.heap.size, 0, none⟩ 1 1 [.int .u64 X] rfl rfl ?c1 ?c2 ?c3 ?c4 ?c5 ?_))
  case c1 => exact cell_one_new _ _ _
  case c2 => simp [Value.oneCell']
  case c3 => unfold maxLen; omega
  case c4 => omega
  case c5 => simp; omega
  intro v9 w6 hown' hgrow _
  obtain ⟨g', cap', rfl⟩ := ownsRow_succ hown'
  have h6f : Boxed w6 fb 71 (.slice fa P.length fcap) := Boxed.kept (Boxed.alloc hf2 _) hgrow (hf2.not_row (by decide) hr2)
  have h6s : Boxed w6 sb 104 (.map (some M)) := Boxed.kept (Boxed.alloc hs2 _) hgrow (hs2.not_row (by decide) hr2)
  have hmr : ∀ g, (Value.slice fa P.length fcap).ownBlock = some g → B ≤ g := fun g e => owns_ge hr2 g e
  have hmap6 := (hmap2.kept (World.grownBy_alloc w2 _ none) (by simp)).kept hgrow (fun e => by have := hmr _ e.symm; omega)
  have h6z : w2.heap.size ≤ w6.heap.size := by have := hgrow.size; simp at this; omega
  have h6k : ∀ g, g < B → w6.heap[g]? = w2.heap[g]? := fun g h1 => (hgrow.block g (by simp; omega) (fun e => by have := hmr g e.symm; omega)).trans (Below.heap_alloc _ _ g (by omega))
  have h2k : ∀ g, g < B → g ≠ M → w2.heap[g]? = w.heap[g]? := fun g h1 h2 => (hgrow2.block g (by simp; omega) (by simp; exact h2)).trans (Below.heap_alloc _ _ g (by omega))
  have hC : Chg B M fb w (w6.setCell ⟨fb, 0, none⟩ (.slice (some ⟨g', 0, none⟩) (P.length + 1) cap')) := ⟨hgrow.os.trans hgrow2.os, hgrow.tape.trans hgrow2.tape, hgrow.output.trans hgrow2.output, by rw [size_set]; omega, fun g h1 h2 h3 => (Below.heap_setCell _ _ _ g h3).trans ((h6k g h1).trans (h2k g h1 h2))⟩
  have h7s : Boxed (w6.setCell ⟨fb, 0, none⟩ (.slice (some ⟨g', 0, none⟩) (P.length + 1) cap')) sb 104 (.map (some M)) := (Below.heap_setCell _ _ _ sb hsf).trans h6s
  have h7f := h6f.set (.slice (some ⟨g', 0, none⟩) (P.length + 1) cap')
  have h7r : (w6.setCell ⟨fb, 0, none⟩ (.slice (some ⟨g', 0, none⟩) (P.length + 1) cap')).ownsRow B 55 1 (.slice (some ⟨g', 0, none⟩) (P.length + 1) cap') (P ++ [p]).length ((bits n (P ++ [p])).map fun (s : Nat) => Value.int .u64 (s : Int)) := by
    have := own_keep2 hown' (fun g h1 h2 => Below.heap_setCell w6 ⟨fb, 0, none⟩ (.slice (some ⟨g', 0, none⟩) (P.length + 1) cap') g (by simp; omega))
    rw [HBS.out]
    simpa using this
  have h7m : (w6.setCell ⟨fb, 0, none⟩ (.slice (some ⟨g', 0, none⟩) (P.length + 1) cap')).ownsMap Tryz.prog 55 unitElem M (P ++ [p]).length (D.put (.int .u64 (X : Nat)) (.agg [])) := by
    rw [List.length_append]
    exact hmap6.kept (set_grown w6 fb _) (by simp; exact fun e => hfm e.symm)
  have h7n : SFnd (w6.setCell ⟨fb, 0, none⟩ (.slice (some ⟨g', 0, none⟩) (P.length + 1) cap')) B sb fb M n (P ++ [p]) := ⟨h7s, ⟨_, h7m, HD2.out⟩, ⟨_, h7f, h7r⟩, hsf, hsm, hfm, hslt, hflt, hmlt⟩
  have hfc6 := h6f.cell
  have hff6 := h6f.frozen
  clear hown' hgrow hf2 hs2 hr2 h7s h7f h7r h7m h6s h6k h2k hmap6 hmap2 hgrow2 hmapA hmap
  go_wp2
  go_end0
  exact ⟨rfl, h7n, hC⟩
end Go.Proofs.YtgejngpioldhpaaGreatDoor

namespace Go.Proofs.YtgejngpioldhpaaGreatDoor
open Go Go.RowKit

/-- A set that is made of another one and one thing more. -/
def Mks (n : Nat) (zs : List Int) (e : Nat) (q : Nat → Bool) (b : Nat) (p : Nat → Bool) : Prop := ∀ x, x < n → (p x = true ↔ Mkd n zs e (fun y => q y || decide (y = b)) x)
/-- What is so of the sets that are found, when k of them were made more, and the next with a things. -/
structure SInv (n : Nat) (zs : List Int) (e : Nat) (P : List (Nat → Bool)) (k a : Nat) : Prop where
  sub : ∀ p, p ∈ P → subT n zs e p = true
  nd : (bits n P).Nodup
  one : bs (fun x => decide (x = e)) n ∈ bits n P
  cl : ∀ i q, P[i]? = some q → ∀ b, b < n → (i < k ∨ i = k ∧ b < a) → ∃ p, p ∈ P ∧ Mks n zs e q b p
theorem mks_sub {n e b : Nat} {zs : List Int} {q p : Nat → Bool} (h : Mks n zs e q b p) (he : e < n) (hm : ∀ a b, a < n → b < n → tm n zs a b < n) : subT n zs e p = true := by
  rw [subT_iff]
  refine ⟨(h e he).2 (Fin.Gen.sg _).one, fun x y hx hy h1 h2 => ?_⟩
  have hxn := List.mem_range.1 hx
  have hyn := List.mem_range.1 hy
  exact (h _ (hm x y hxn hyn)).2 ((Fin.Gen.sg _).mul x y hx hy ((h x hxn).1 h1) ((h y hyn).1 h2))
/-- The list, with a set that is put to it, where it is not there yet. -/
def put (n : Nat) (P : List (Nat → Bool)) (p : Nat → Bool) : List (Nat → Bool) := if bs p n ∈ bits n P then P else P ++ [p]
theorem put_get {n i : Nat} {P : List (Nat → Bool)} {q : Nat → Bool} (p : Nat → Bool) (h : P[i]? = some q) : (put n P p)[i]? = some q := by
  unfold put
  split
  · exact h
  · rw [List.getElem?_append_left (List.getElem?_eq_some_iff.1 h).1]; exact h
theorem put_mem {n : Nat} {P : List (Nat → Bool)} {p : Nat → Bool} : ∃ p', p' ∈ put n P p ∧ bs p' n = bs p n := by
  unfold put
  by_cases h : bs p n ∈ bits n P
  · rw [if_pos h]
    unfold bits at h
    obtain ⟨p', h1, h2⟩ := List.mem_map.1 h
    exact ⟨p', h1, h2⟩
  · rw [if_neg h]
    exact ⟨p, by simp, rfl⟩
theorem put_sub {n : Nat} {P : List (Nat → Bool)} {p q : Nat → Bool} (h : q ∈ P) : q ∈ put n P p := by
  unfold put; split
  · exact h
  · simp [h]
theorem SInv.start {n e : Nat} {zs : List Int} (g : IsGrp n zs e) : SInv n zs e [fun x => decide (x = e)] 0 0 where
  sub := fun p hp => by
    rw [List.mem_singleton] at hp
    subst hp
    rw [subT_iff]
    refine ⟨by simp, fun x y _ _ h1 h2 => ?_⟩
    have h1 : x = e := by simpa using h1
    have h2 : y = e := by simpa using h2
    subst h1
    rw [h2]
    simpa using g.left x g.elt
  nd := by simp [bits]
  one := by simp [bits]
  cl := fun i q _ b _ h => by omega
theorem SInv.step {n e k a : Nat} {zs : List Int} {P : List (Nat → Bool)} {q p : Nat → Bool} (g : IsGrp n zs e) (h : SInv n zs e P k a) (hq : P[k]? = some q) (hp : Mks n zs e q a p) : SInv n zs e (put n P p) k (a + 1) := by
  have hps := mks_sub hp g.elt (fun a b ha hb => tm_lt g.tab ha hb)
  refine ⟨fun r hr => ?_, ?_, ?_, fun i r hi b hb hc => ?_⟩
  · unfold put at hr
    by_cases h9 : bs p n ∈ bits n P
    · rw [if_pos h9] at hr; exact h.sub r hr
    · rw [if_neg h9] at hr
      rcases List.mem_append.1 hr with hr | hr
      · exact h.sub r hr
      · rw [List.mem_singleton] at hr; subst hr; exact hps
  · unfold put
    by_cases h9 : bs p n ∈ bits n P
    · rw [if_pos h9]; exact h.nd
    · rw [if_neg h9, bits_snoc, List.nodup_append]
      refine ⟨h.nd, by simp, fun x hx y hy => ?_⟩
      rw [List.mem_singleton] at hy
      subst hy
      intro e9
      subst e9
      exact h9 hx
  · unfold put
    by_cases h9 : bs p n ∈ bits n P
    · rw [if_pos h9]; exact h.one
    · rw [if_neg h9, bits_snoc, List.mem_append]; exact .inl h.one
  · by_cases hiP : i < P.length
    · have hri : P[i]? = some r := by
        have := put_get (n := n) p (List.getElem?_eq_getElem hiP)
        rw [this] at hi
        rw [← hi]
        exact List.getElem?_eq_getElem hiP
      by_cases hn9 : i = k ∧ b = a
      · obtain ⟨rfl, rfl⟩ := hn9
        rw [hq] at hri
        injection hri with hri
        subst hri
        obtain ⟨p', h1, h2⟩ := put_mem (n := n) (P := P) (p := p)
        exact ⟨p', h1, fun x hx => by rw [bs_inj h2 x hx]; exact hp x hx⟩
      · obtain ⟨p', h1, h2⟩ := h.cl i r hri b hb (by omega)
        exact ⟨p', put_sub h1, h2⟩
    · have := (List.getElem?_eq_some_iff.1 hq).1
      omega
theorem SInv.next {n e k : Nat} {zs : List Int} {P : List (Nat → Bool)} (h : SInv n zs e P k n) : SInv n zs e P (k + 1) 0 :=
  ⟨h.sub, h.nd, h.one, fun i q hi b hb hc => h.cl i q hi b hb (by omega)⟩
theorem SInv.len {n e k a : Nat} {zs : List Int} {P : List (Nat → Bool)} (h : SInv n zs e P k a) (hn : n ≤ 24) : P.length ≤ 16777216 := by
  rw [← bits_len n P]
  refine nodup_fits h.nd fun x hx => ?_
  unfold bits at hx
  obtain ⟨p, _, rfl⟩ := List.mem_map.1 hx
  exact Nat.lt_of_lt_of_le (bs_lt p n) (Nat.le_trans (Nat.pow_le_pow_right (by omega) hn) (by decide))
/-- Each subgroup is found. -/
theorem SInv.all {n e k : Nat} {zs : List Int} {P : List (Nat → Bool)} (g : IsGrp n zs e) (h : SInv n zs e P k 0) (hk : P.length ≤ k) {t : Nat → Bool} (ht : subT n zs e t = true) : bs t n ∈ bits n P := by
  have hS := subT_iff.1 ht
  have key : ∀ j, j ≤ n → ∃ p, p ∈ P ∧ ∀ x, x < n → (p x = true ↔ Mkd n zs e (fun y => t y && decide (y < j)) x) := by
    intro j
    induction j with
    | zero =>
      intro _
      have h1 := h.one
      unfold bits at h1
      obtain ⟨p, hp, he⟩ := List.mem_map.1 h1
      refine ⟨p, hp, fun x hx => ?_⟩
      rw [bs_inj he x hx, decide_eq_true_eq]
      constructor
      · rintro rfl; exact (Fin.Gen.sg _).one
      · intro hg
        refine Fin.Gen.least (P := fun x => x = e) ⟨rfl, fun a b _ _ h1 h2 => ?_⟩ (fun x _ hx => ?_) hg
        · show tm n zs a b = e
          rw [show a = e from h1, show b = e from h2]
          exact g.left e g.elt
        · simp at hx
    | succ j ih =>
      intro hj
      obtain ⟨p, hp, he⟩ := ih (by omega)
      cases htj : t j with
      | false =>
        refine ⟨p, hp, fun x hx => ?_⟩
        rw [he x hx]
        have : (fun y => t y && decide (y < j)) = fun y => t y && decide (y < j + 1) := by
          funext y
          by_cases e9 : y = j
          · subst e9; simp [htj]
          · have : decide (y < j) = decide (y < j + 1) := by rw [Bool.eq_iff_iff, decide_eq_true_eq, decide_eq_true_eq]; omega
            rw [this]
        rw [this]
      | true =>
        obtain ⟨i, hi, hpi⟩ := List.mem_iff_getElem.1 hp
        obtain ⟨p', hp', he'⟩ := h.cl i p (by rw [List.getElem?_eq_getElem hi, hpi]) j (by omega) (by omega)
        refine ⟨p', hp', fun x hx => ?_⟩
        rw [he' x hx]
        constructor
        · intro hg
          refine Fin.Gen.least (Fin.Gen.sg _) (fun y hy hy2 => ?_) hg
          have hyn := List.mem_range.1 hy
          rcases Bool.or_eq_true_iff.1 hy2 with h1 | h1
          · refine Fin.Gen.mono (fun z _ hz => ?_) ((he y hyn).1 h1)
            simp only [Bool.and_eq_true, decide_eq_true_eq] at hz ⊢
            exact ⟨hz.1, by omega⟩
          · have : y = j := by simpa using h1
            subst this
            exact Fin.Gen.base hy (by simp [htj])
        · intro hg
          refine Fin.Gen.mono (fun z hz hz2 => ?_) hg
          have hzn := List.mem_range.1 hz
          simp only [Bool.and_eq_true, decide_eq_true_eq] at hz2
          by_cases e9 : z = j
          · simp [e9]
          · have : p z = true := (he z hzn).2 (Fin.Gen.base hz (by simp [hz2.1]; omega))
            simp [this]
  obtain ⟨p, hp, he⟩ := key n (Nat.le_refl _)
  unfold bits
  refine List.mem_map.2 ⟨p, hp, bs_ext fun x hx => ?_⟩
  rw [Bool.eq_iff_iff, he x hx]
  constructor
  · intro hg
    refine Fin.Gen.least hS (fun y _ hy => ?_) hg
    simp only [Bool.and_eq_true] at hy
    exact hy.1
  · intro htx
    exact Fin.Gen.base (List.mem_range.2 hx) (by simp [htx, hx])
end Go.Proofs.YtgejngpioldhpaaGreatDoor

namespace Go.Proofs.YtgejngpioldhpaaGreatDoor
open Go Go.RowKit Go.Maps

theorem stake (B sb fb M n : Nat) (p : Nat → Bool) (P : List (Nat → Bool)) (w : World) (hF : SFnd w B sb fb M n P) (hB : B ≤ w.heap.size) (hn : n ≤ 60) (hl : P.length ≤ 16777216) :
    Calls Tryz.prog 93 #[.int .u64 (bs p n : Nat), .pointer (some ⟨sb, 0, none⟩), .pointer (some ⟨fb, 0, none⟩)] w fun e w' => e = .returned (.tuple #[]) ∧ SFnd w' B sb fb M n (put n P p) ∧ Chg B M fb w w' := by
  unfold put
  by_cases h : bs p n ∈ bits n P
  · rw [if_pos h]
    refine (stake_old B sb fb M n p P w hF hn h).mono ?_
    rintro e w' ⟨rfl, h1, h2⟩
    exact ⟨rfl, h1, Chg.of_below h2 hB⟩
  · rw [if_neg h]
    exact stake_new B sb fb M n p P w hF hB hn h hl
theorem bAl {a W : World} {o : Obj} (h : Below a.heap.size a W) : Below a.heap.size a (W.alloc o) := h.alloc h.size o
set_option maxRecDepth 100000 in
set_option maxHeartbeats 8000000 in
theorem subgroups_ok (n e : Nat) (v u : Value) (zs : List Int) (w : World) (hG : GA w n v e u zs) (hT : Tab w) (hn24 : n ≤ 24) :
    Calls Tryz.prog 69 #[.agg #[.int .i64 n, v, .int .i64 e, u]] w fun x w' => ∃ (r : Value) (P : List (Nat → Bool)), x = .returned r ∧ w'.ownsRow w.heap.size 55 1 r P.length ((bits n P).map fun (s : Nat) => Value.int .u64 (s : Int)) ∧ (∃ k, P.length ≤ k ∧ SInv n zs e P k 0) ∧ Below w.heap.size w w' := by
  have hn := hG.le
  have hgrp := hG.grp
  have helt := hgrp.elt
  obtain ⟨w1, hw1⟩ : ∃ w1, w1 = ((((w.alloc (.cells #[.int .i64 n, v, .int .i64 e, u] 51)).alloc (.cells #[.slice none 0 0] 71)).alloc (.map #[] 0)).alloc (.cells #[.map (some (w.heap.size + 1 + 1))] 104)).alloc (.cells #[.int .i64 e] 3) := ⟨_, rfl⟩
  have hB1 : Below w.heap.size w w1 := by
    rw [hw1]
    exact (((((balloc w _).alloc (by simp) _).alloc (by simp; omega) _).alloc (by simp; omega) _).alloc (by simp; omega) _)
  have hz1 : w1.heap.size = w.heap.size + 5 := by rw [hw1]; simp
  have hX4 : Box4 w1 w.heap.size n e v u := by rw [hw1]; exact ⟨((((blk4 _ _ _ _).alloc _).alloc _).alloc _).alloc _⟩
  have hXf : Boxed w1 (w.heap.size + 1) 71 (.slice none 0 0) := by
    rw [hw1]
    have := (((Boxed.new (w.alloc (.cells #[.int .i64 n, v, .int .i64 e, u] 51)) 71 (.slice none 0 0)).alloc (.map #[] 0)).alloc (.cells #[.map (some (w.heap.size + 1 + 1))] 104)).alloc (.cells #[.int .i64 e] 3)
    simpa using this
  have hXm : w1.ownsMap Tryz.prog 55 unitElem (w.heap.size + 1 + 1) 0 (.map [] : DataW Unit) := by
    have h0 := World.ownsMap_made (H := Unit) ((w.alloc (.cells #[.int .i64 n, v, .int .i64 e, u] 51)).alloc (.cells #[.slice none 0 0] 71)) Tryz.prog 55 unitElem
    have h1 := h0.kept (World.grownBy_alloc _ (.cells #[.map (some (w.heap.size + 1 + 1))] 104) none) (by simp)
    have h2 := h1.kept (World.grownBy_alloc _ (.cells #[.int .i64 e] 3) none) (by simp)
    rw [← hw1] at h2
    simpa using h2
  have hXs : Boxed w1 (w.heap.size + 1 + 1 + 1) 104 (.map (some (w.heap.size + 1 + 1))) := by
    rw [hw1]
    have := (Boxed.new (((w.alloc (.cells #[.int .i64 n, v, .int .i64 e, u] 51)).alloc (.cells #[.slice none 0 0] 71)).alloc (.map #[] 0)) 104 (.map (some (w.heap.size + 1 + 1)))).alloc (.cells #[.int .i64 e] 3)
    simpa using this
  have hce : w1.cell? ⟨w.heap.size + 1 + 1 + 1 + 1, 0, none⟩ = some (.int .i64 e) := by
    rw [hw1]
    have := cell1 ((((w.alloc (.cells #[.int .i64 n, v, .int .i64 e, u] 51)).alloc (.cells #[.slice none 0 0] 71)).alloc (.map #[] 0)).alloc (.cells #[.map (some (w.heap.size + 1 + 1))] 104)) (.int .i64 e) 3
    simpa using this
  have hF0 : SFnd w1 w1.heap.size (w.heap.size + 1 + 1 + 1) (w.heap.size + 1) (w.heap.size + 1 + 1) n [] := ⟨hXs, ⟨_, hXm, fun s => by simp [Maps.has, bits]⟩, ⟨_, hXf, World.ownsRow_nil _ _ _ _⟩, by omega, by omega, by omega, by omega, by omega, by omega⟩
  have HT0 := hide (stake w1.heap.size (w.heap.size + 1 + 1 + 1) (w.heap.size + 1) (w.heap.size + 1 + 1) n (fun x => decide (x = e)) [] w1 hF0 (Nat.le_refl _) hn (by simp))
  have HOF := hide (of_one n (w.heap.size + 1 + 1 + 1 + 1) e w1 hn helt hce)
  have HZ := hide hz1
  have hmm := @run_makeMap Tryz.prog
  clear hz1 hXf hXm hXs hce hF0
  go_enter Tryz.func69, Tryz.ntmps69
  go_wp2_with fail
  rw [← hw1]
  clear hw1 hmm
  refine HOF.out.mono ?_
  rintro x9 w2 ⟨rfl, hw2⟩
  rw [hw2]
  clear hw2
  go_wp2_with fail
  refine HT0.out.mono ?_
  rintro x9 w4 ⟨rfl, hF4, hC4⟩
  have hF4 : SFnd w4 w1.heap.size (w.heap.size + 1 + 1 + 1) (w.heap.size + 1) (w.heap.size + 1 + 1) n [fun x => decide (x = e)] := by simpa [put, bits] using hF4
  have hI4 : SInv n zs e [fun x => decide (x = e)] 0 0 := SInv.start hgrp
  clear HT0 HOF
  go_wp2
  go_loopw [6] (fun i wr => ∃ (k : Nat) (P : List (Nat → Bool)), i = .int .i64 k ∧ k ≤ P.length ∧ SFnd wr w1.heap.size (w.heap.size + 1 + 1 + 1) (w.heap.size + 1) (w.heap.size + 1 + 1) n P ∧ SInv n zs e P k 0 ∧ Chg w1.heap.size (w.heap.size + 1 + 1) (w.heap.size + 1) w1 wr) (fun i _ => 16777216 - (intOf i).toNat)
  case atStart => exact ⟨0, _, rfl, by simp, hF4, hI4, hC4⟩
  case round =>
    clear hF4 hI4 hC4
    obtain ⟨k, P, rfl, hk, hF, hI, hC⟩ := hrel
    have hPl := hI.len hn24
    obtain ⟨fv, hfb, hrow⟩ := hF.fnd
    obtain ⟨fa, fcap, rfl⟩ := own_val hrow
    have hfc := hfb.cell
    have hX4r : Box4 wr w.heap.size n e v u := ⟨(hX4.blk).of_eq (hC.block _ (by have := HZ.out; omega) (by omega) (by omega))⟩
    obtain ⟨c0, c1, c2, c3⟩ := hX4r.cells
    clear hfb
    by_cases hlt : k < P.length
    · have hki : (k : Int) < (P.length : Int) := by omega
      obtain ⟨q, hq⟩ : ∃ q, P[k]? = some q := ⟨P[k], List.getElem?_eq_getElem hlt⟩
      have HQ := hide hq
      clear hq hrow
      go_wp2
      clear hfc c0 c1 c2 c3 hX4r
      go_loopw [25] (fun i wr => ∃ (a : Nat) (P' : List (Nat → Bool)), i = .int .i64 a ∧ a ≤ n ∧ P'[k]? = some q ∧ SFnd wr w1.heap.size (w.heap.size + 1 + 1 + 1) (w.heap.size + 1) (w.heap.size + 1 + 1) n P' ∧ SInv n zs e P' k a ∧ Chg w1.heap.size (w.heap.size + 1 + 1) (w.heap.size + 1) w1 wr) (fun i _ => n - (intOf i).toNat)
      case atStart => exact ⟨0, P, rfl, Nat.zero_le _, HQ.out, hF, hI, hC⟩
      case round =>
        obtain ⟨a, P', rfl, ha, hq', hF', hI', hC'⟩ := hrel
        clear hF hI hC
        have hPl' := hI'.len hn24
        have hkl := (List.getElem?_eq_some_iff.1 hq').1
        by_cases hal : a < n
        · have hai : (a : Int) < (n : Int) := by omega
          obtain ⟨p, hp⟩ := mkd_test n zs e (fun y => q y || decide (y = a))
          have hBw : Below w.heap.size w wr := hB1.trans (hC'.below (g := w.heap.size) (by omega) (by omega) (by have := HZ.out; omega))
          have hX4r : Box4 wr w.heap.size n e v u := ⟨(hX4.blk).of_eq (hC'.block _ (by have := HZ.out; omega) (by omega) (by omega))⟩
          obtain ⟨c0, c1, c2, c3⟩ := hX4r.cells
          obtain ⟨fv, hfb, hrow⟩ := hF'.fnd
          obtain ⟨fa, fcap, rfl⟩ := own_val hrow
          have hfc := hfb.cell
          have hqb : (bits n P')[k]? = some (bs q n) := by unfold bits; rw [List.getElem?_map, hq']; rfl
          obtain ⟨fg, rfl, hfk⟩ : ∃ fg, fa = some ⟨fg, 0, none⟩ ∧ wr.cell? ⟨fg, k, none⟩ = some (.int .u64 (bs q n : Nat)) := by
            rcases hrow.2 with ⟨h1, h2⟩ | ⟨g, cap, cur, h1, _, _⟩
            · omega
            · injection h1 with h1
              subst h1
              have h3 := hrow.cells (g := g) rfl k (.int .u64 (bs q n : Nat)) (by simp [hqb])
              rw [show (⟨g, 0, none⟩ : Addr).add k = ⟨g, k, none⟩ by unfold Addr.add; split <;> simp_all] at h3
              exact ⟨g, rfl, h3⟩
          have hkF : (k : Int) < (P'.length : Int) := by omega
          have hor := or_bs q (fun y => decide (y = a)) hn
          have hbA : Below wr.heap.size wr (wr.drew.alloc (.cells #[.int .i64 a] 3)) := bAl (bdrew (Below.refl _ wr))
          have hfg1 : fg < wr.heap.size := World.block_lt_of_cell? wr ⟨fg, k, none⟩ hfk
          have hfg2 : ¬ fg = wr.heap.size := by omega
          have hwg0 : w.heap.size + 1 < wr.heap.size := hfb.lt
          have hwg3 : w.heap.size < wr.heap.size := by omega
          have hwg1 : ¬ w.heap.size = wr.heap.size := by omega
          have hwg2 : ¬ w.heap.size + 1 = wr.heap.size := by omega
          have c0A := below_cell hbA c0
          have c1A := below_cell hbA c1
          have c2A := below_cell hbA c2
          have c3A := below_cell hbA c3
          have hfcA := below_cell hbA hfc
          have hfkA := below_cell hbA hfk
          have HOF := hide (fun W b (h : W.cell? ⟨b, 0, none⟩ = some (.int .i64 a)) => of_one n b a W hn hal h)
          have HMK := hide (fun W (h : Below wr.heap.size wr W) => made_ok n v u zs e (fun y => q y || decide (y = a)) p W (hG.below (bcat2 hBw h)) (hT.below (bcat2 hBw h)) hp)
          have HTK := hide (fun W (h : Below wr.heap.size wr W) => stake w1.heap.size (w.heap.size + 1 + 1 + 1) (w.heap.size + 1) (w.heap.size + 1 + 1) n p P' W (hF'.below h) (Nat.le_trans hC'.size h.size) hn hPl')
          have HST := hide (SInv.step hgrp hI' hq' hp)
          have HGT := hide (put_get (n := n) p hq')
          have HC' := hide hC'
          clear hfb hrow hF' hI' hX4r hq' hBw hC' hqb hp
          generalize bs q n = X9 at *
          generalize bs (fun y => q y || decide (y = a)) n = Y9 at *
          generalize bs (fun y => decide (y = a)) n = Z9 at *
          generalize bs p n = T9 at *
          go_wp2_with fail
          go_region_with (first
            | (go_at_call 26; refine (HOF.out _ _ (by first | exact cell1 _ _ _ | exact cell1d _ _ _)).mono ?_; rintro e7 w7 ⟨rfl, rfl⟩)
            | (go_at_call 54; refine (HMK.out _ hbA).mono ?_; rintro e8 w8 ⟨rfl, hb8⟩; have hb9 := bcat2 hbA hb8)
            | (go_at_call 93; refine (HTK.out _ hb9).mono ?_; rintro e9 w9 ⟨rfl, hF9, hC9⟩))
          all_goals (
            have hC10 := (HC'.out.trans (Chg.of_below hb9 HC'.out.size)).trans hC9
            go_wp2
            go_roundw
            case rel => exact ⟨a + 1, _, by go_num, by omega, HGT.out, hF9, HST.out, hC10⟩
            case measure => simp [intOf]; omega)
        · have han : a = n := by omega
          rw [han] at hI'
          have HN := hide hI'.next
          have hai : ¬ (a : Int) < (n : Int) := by omega
          clear han
          go_wp2
          go_roundw
          case rel => exact ⟨k + 1, P', by go_num, hkl, hF', HN.out, hC'⟩
          case measure => simp [intOf]; omega
    · have hki : ¬ (k : Int) < (P.length : Int) := by omega
      have HB := hide (hB1.trans (hC.below (g := w.heap.size) (by omega) (by omega) (by have := HZ.out; omega)))
      have hrow9 := owns_mono hrow (show w.heap.size ≤ w1.heap.size by have := HZ.out; omega)
      go_wp2
      go_ret
      exact ⟨_, rfl, P, hrow9, ⟨k, by omega, hI⟩, HB.out⟩
end Go.Proofs.YtgejngpioldhpaaGreatDoor

namespace Go.Proofs.YtgejngpioldhpaaGreatDoor
open Go Go.RowKit

/-- A slice of sets reads as these bits. -/
def SlU (w : World) (v : Value) (xs : List Nat) : Prop := ∃ a cap pb po, v = .slice a xs.length cap ∧ (0 < xs.length → a = some ⟨pb, po, none⟩) ∧ (∀ j, j < xs.length → w.cell? ⟨pb, po + j, none⟩ = some (.int .u64 (xs[j]?.getD 0 : Nat))) ∧ pb < w.heap.size ∧ xs.length ≤ cap ∧ cap ≤ maxLen
theorem SlU.below {w w' : World} {v : Value} {xs : List Nat} (h : SlU w v xs) (hb : Below w.heap.size w w') : SlU w' v xs := by
  obtain ⟨a, cap, pb, po, rfl, h1, h2, h3, h4, h5⟩ := h
  exact ⟨a, cap, pb, po, rfl, h1, fun j hj => below_cell hb (h2 j hj), Nat.lt_of_lt_of_le h3 hb.size, h4, h5⟩
theorem SlU.of_own {w : World} {base k : Nat} {v : Value} {xs : List Nat} (hk : k = xs.length) (h : w.ownsRow base 55 1 v k (xs.map fun (s : Nat) => Value.int .u64 (s : Int))) (h0 : 0 < w.heap.size) : SlU w v xs := by
  subst hk
  rcases h.2 with ⟨rfl, hz⟩ | ⟨g, cap, cur, rfl, _, hh, h1, h2, _⟩
  · exact ⟨none, 0, 0, 0, by rw [hz], fun h => by omega, fun j hj => by omega, h0, by omega, by unfold maxLen; omega⟩
  · refine ⟨some ⟨g, 0, none⟩, cap, g, 0, rfl, fun _ => rfl, fun j hj => ?_, (Array.getElem?_eq_some_iff.1 hh).1, h1, h2⟩
    have h3 := h.cells (g := g) rfl j (.int .u64 (xs[j]?.getD 0 : Nat)) (by simp [hj])
    rw [show (⟨g, 0, none⟩ : Addr).add j = ⟨g, j, none⟩ by unfold Addr.add; split <;> simp_all] at h3
    rw [Nat.zero_add]; exact h3
/-- The place of the first set of which it is so. -/
def idxI (xs : List Nat) (t : Nat → Bool) : Int := if xs.findIdx t < xs.length then (xs.findIdx t : Int) else -1
theorem idxI_at {xs : List Nat} {t : Nat → Bool} {k : Nat} (hk : k < xs.length) (h : t (xs[k]?.getD 0) = true) (hno : ∀ j, j < k → t (xs[j]?.getD 0) = false) : idxI xs t = k := by
  have h1 : xs.findIdx t = k := by
    rw [List.findIdx_eq hk]
    rw [List.getElem?_eq_getElem hk] at h
    refine ⟨h, fun j hj => ?_⟩
    have := hno j hj
    rw [List.getElem?_eq_getElem (by omega)] at this
    exact this
  unfold idxI
  rw [h1, if_pos hk]
theorem idxI_no {xs : List Nat} {t : Nat → Bool} (hno : ∀ j, j < xs.length → t (xs[j]?.getD 0) = false) : idxI xs t = -1 := by
  unfold idxI
  rw [if_neg]
  intro h
  have h2 := List.findIdx_getElem (w := h)
  have := hno _ h
  rw [List.getElem?_eq_getElem h] at this
  simp at this h2
  rw [this] at h2
  exact absurd h2 (by decide)
theorem idxI_any {xs : List Nat} {t : Nat → Bool} : decide (0 ≤ idxI xs t) = xs.any t := by
  unfold idxI
  rw [Bool.eq_iff_iff, decide_eq_true_eq, List.any_eq_true]
  by_cases h : xs.findIdx t < xs.length
  · rw [if_pos h]
    exact ⟨fun _ => ⟨xs[xs.findIdx t], List.getElem_mem h, List.findIdx_getElem (w := h)⟩, fun _ => by omega⟩
  · rw [if_neg h]
    constructor
    · intro h9; omega
    · rintro ⟨x, hx, ht⟩
      exact absurd (List.findIdx_lt_length_of_exists ⟨x, hx, ht⟩) h
end Go.Proofs.YtgejngpioldhpaaGreatDoor

namespace Go.Proofs.YtgejngpioldhpaaGreatDoor
open Go Go.RowKit

set_option maxRecDepth 100000 in
set_option maxHeartbeats 4000000 in
theorem osml_bad (N : Int) (v : Value) (zs : List Int) (w : World) (hv : Sl w v zs) (hc : (gfault N zs).1 ≠ 0) :
    Calls Tryz.prog 68 #[.agg #[.int .i64 N, v]] w fun x w' => x = .returned (.tuple #[.agg #[.int .i64 0, .slice none 0 0, .int .i64 0, .slice none 0 0], .agg #[.int .i64 (gfault N zs).1, .int .i64 (gfault N zs).2]]) ∧ Below w.heap.size w w' := by
  obtain ⟨w0, BG⟩ := Beg4.new w N v
  have hv0 := hv.below BG.bel
  obtain ⟨c0, c1, _, _⟩ := BG.box.two
  have hck := opened_bad N v zs w0 hv0 hc
  obtain ⟨c, i, hci⟩ : ∃ c i, gfault N zs = (c, i) := ⟨_, _, rfl⟩
  rw [hci] at hck hc ⊢
  simp only at hc hck
  have HCK := hide hck
  clear hck hci
  have hcb : (c != 0) = true := by simpa using hc
  rw [BG.eq] at c0 c1
  go_enter Tryz.func68, Tryz.ntmps68
  go_wp2_with fail
  rw [← BG.eq]
  refine HCK.out.mono ?_
  rintro x w1 ⟨rfl, hb1⟩
  clear c0 c1
  obtain ⟨w2, hw2⟩ : ∃ w2, w2 = (w1.alloc (.cells #[.int .i64 0, .slice none 0 0, .int .i64 0, .slice none 0 0] 51)).alloc (.cells #[.int .i64 c, .int .i64 i] 27) := ⟨_, rfl⟩
  have hB1 : Below w0.heap.size w0 w2 := by rw [hw2]; exact bcat2 hb1 ((balloc w1 _).alloc (by simp) _)
  have hF1 : Blk w2 (w1.heap.size + 1) 27 [.int .i64 c, .int .i64 i] := by
    rw [hw2]
    have := blk0 (w := w1.alloc (.cells #[.int .i64 0, .slice none 0 0, .int .i64 0, .slice none 0 0] 51)) (T := 27) (.int .i64 c) (.int .i64 i)
    rwa [World.size_alloc] at this
  obtain ⟨hG1, g0, g1, g2, g3, gf0, gf1, gf2, gf3, gs0, gs1, gs2, gs3⟩ := Four.mk' (blk_below BG.grp hB1)
  have hR1 := blk_below BG.res hB1
  have hBw := bcat BG.bel hB1 BG.bel.size
  obtain ⟨y0, y1, fy0, fy1⟩ := hR1.two
  obtain ⟨t0, t1, _, _⟩ := hF1.two
  rw [hw2] at t0 t1
  go_wp2_with fail
  rw [← hw2]
  rw [← hw2] at t0 t1
  clear hw2
  go_region
  all_goals (
    go_wp2
    obtain ⟨hR6, hB6⟩ := put2 hR1 hBw (by omega) c i
    have hB7 := bdrew hB6
    have hR7 : Blk ((w2.setCell ⟨w.heap.size + 1 + 1, 0, none⟩ (.int .i64 c)).setCell ⟨w.heap.size + 1 + 1, 1, none⟩ (.int .i64 i)).drew (w.heap.size + 1 + 1) 27 [.int .i64 c, .int .i64 i] := hR6
    have hG7 : Blk ((w2.setCell ⟨w.heap.size + 1 + 1, 0, none⟩ (.int .i64 c)).setCell ⟨w.heap.size + 1 + 1, 1, none⟩ (.int .i64 i)).drew (w.heap.size + 1) 51 [.int .i64 0, .slice none 0 0, .int .i64 0, .slice none 0 0] :=
      (hG1.other (p := ⟨w.heap.size + 1 + 1, 0, none⟩) (by simp) (.int .i64 c)).other (p := ⟨w.heap.size + 1 + 1, 1, none⟩) (by simp) (.int .i64 i)
    generalize ((w2.setCell ⟨w.heap.size + 1 + 1, 0, none⟩ (.int .i64 c)).setCell ⟨w.heap.size + 1 + 1, 1, none⟩ (.int .i64 i)).drew = W at hR7 hB7 hG7 ⊢
    obtain ⟨z0, z1, _, _⟩ := hR7.two
    obtain ⟨_, q0, q1, q2, q3, _⟩ := Four.mk' hG7
    exact bodyPost_ret (v := .tuple #[.agg #[.int .i64 0, .slice none 0 0, .int .i64 0, .slice none 0 0], .agg #[.int .i64 c, .int .i64 i]]) (by simp [results, Tryz.results68, go_sem, z0, z1, q0, q1, q2, q3]) rfl ⟨rfl, hB7⟩)

set_option maxRecDepth 100000 in
set_option maxHeartbeats 4000000 in
theorem osml_good (n e : Nat) (v : Value) (zs : List Int) (w : World) (hv : Sl w v zs) (hg : IsGrp n zs e) (h24 : n ≤ 24) :
    Calls Tryz.prog 68 #[.agg #[.int .i64 n, v]] w fun x w' => ∃ iv9, x = .returned (.tuple #[.agg #[.int .i64 n, v, .int .i64 e, iv9], .agg #[.int .i64 0, .int .i64 0]]) ∧ SlF w.heap.size w' iv9 (li ((List.range n).map (iv n zs e))) ∧ Below w.heap.size w w' := by
  obtain ⟨va, vl, vc, rfl⟩ := hv.isSlice
  obtain ⟨w0, BG⟩ := Beg4.new w n (.slice va vl vc)
  have hv0 := hv.below BG.bel
  obtain ⟨c0, c1, _, _⟩ := BG.box.two
  have HCK := hide (opened_good n e (.slice va vl vc) zs w0 hv0 hg)
  rw [BG.eq] at c0 c1
  go_enter Tryz.func68, Tryz.ntmps68
  go_wp2_with fail
  rw [← BG.eq]
  refine HCK.out.mono ?_
  rintro x w1 ⟨iv9, rfl, hGA, hb1⟩
  obtain ⟨ia, il, ic, rfl⟩ := hGA.sl.isSlice
  clear c0 c1 HCK
  obtain ⟨w2, hw2⟩ : ∃ w2, w2 = (w1.alloc (.cells #[.int .i64 n, (.slice va vl vc), .int .i64 e, (.slice ia il ic)] 51)).alloc (.cells #[.int .i64 0, .int .i64 0] 27) := ⟨_, rfl⟩
  have hb2 : Below w1.heap.size w1 w2 := by rw [hw2]; exact (balloc w1 _).alloc (by simp) _
  have hB1 : Below w0.heap.size w0 w2 := bcat2 hb1 hb2
  have hF1 : Blk w2 (w1.heap.size + 1) 27 [.int .i64 0, .int .i64 0] := by
    rw [hw2]
    have := blk0 (w := w1.alloc (.cells #[.int .i64 n, (.slice va vl vc), .int .i64 e, (.slice ia il ic)] 51)) (T := 27) (.int .i64 0) (.int .i64 0)
    rwa [World.size_alloc] at this
  have hH1 : Blk w2 w1.heap.size 51 [.int .i64 n, (.slice va vl vc), .int .i64 e, (.slice ia il ic)] := by
    rw [hw2]; exact (blk4 _ _ _ _).alloc _
  obtain ⟨t0, t1, _, _⟩ := hF1.two
  obtain ⟨k0, k1, _, _⟩ := (blk_below BG.box hB1).two
  rw [hw2] at t0 t1 k0 k1
  have hz9 : w.heap.size + 3 ≤ w1.heap.size := by rw [← BG.size]; exact hb1.size
  obtain ⟨_, f0, f1, ff0, ff1, fs0, fs1⟩ := Two.mk' hF1
  have hBw3 := bcat BG.bel hB1 BG.bel.size
  have hG3 := blk_below BG.grp hB1
  obtain ⟨_, h0, h1, h2, h3, _⟩ := Four.mk' hH1
  obtain ⟨_, g0, g1, g2, g3, gf0, gf1, gf2, gf3, _⟩ := Four.mk' hG3
  obtain ⟨hR3, y0, y1, fy0, fy1, s0, s1⟩ := Two.mk' (blk_below BG.res hB1)
  have hGA3 := (hGA.below hb2).mono (show w.heap.size + 3 ≤ w0.heap.size by rw [BG.size]; exact Nat.le_refl _)
  have HW2 := hide hw2
  rw [hw2] at f0 f1 ff0 ff1 fs0 fs1 h0 h1 h2 h3 g0 g1 g2 g3 gf0 gf1 gf2 gf3 y0 y1 fy0 fy1 s0 s1
  clear hw2
  have hni : ¬ (24 : Int) < (n : Int) := by omega
  go_wp2
  rw [← HW2.out]
  obtain ⟨W, hW, hG8, hR8, hB8, hS8, hK8⟩ := put6 hG3 hR3 hBw3 (.int .i64 n) (.slice va vl vc) (.int .i64 e) (.slice ia il ic) (.int .i64 0) (.int .i64 0)
  rw [← hW]
  clear hW
  obtain ⟨z0, z1, _, _⟩ := hR8.two
  obtain ⟨_, q0, q1, q2, q3, _⟩ := Four.mk' hG8
  have hGA9 := (hGA3.keep (fun b h1 _ => hK8 b h1) (by omega)).mono (show w.heap.size ≤ w.heap.size + 3 by omega)
  exact bodyPost_ret (v := .tuple #[.agg #[.int .i64 n, .slice va vl vc, .int .i64 e, .slice ia il ic], .agg #[.int .i64 0, .int .i64 0]]) (by simp [results, Tryz.results68, go_sem, z0, z1, q0, q1, q2, q3]) rfl ⟨_, rfl, hGA9, hB8⟩
set_option maxRecDepth 100000 in
set_option maxHeartbeats 4000000 in
theorem osml_many (n e : Nat) (v : Value) (zs : List Int) (w : World) (hv : Sl w v zs) (hg : IsGrp n zs e) (h24 : 24 < n) :
    Calls Tryz.prog 68 #[.agg #[.int .i64 n, v]] w fun x w' => x = .returned (.tuple #[.agg #[.int .i64 0, .slice none 0 0, .int .i64 0, .slice none 0 0], .agg #[.int .i64 2, .int .i64 0]]) ∧ Below w.heap.size w w' := by
  obtain ⟨va, vl, vc, rfl⟩ := hv.isSlice
  obtain ⟨w0, BG⟩ := Beg4.new w n (.slice va vl vc)
  have hv0 := hv.below BG.bel
  obtain ⟨c0, c1, _, _⟩ := BG.box.two
  have HCK := hide (opened_good n e (.slice va vl vc) zs w0 hv0 hg)
  rw [BG.eq] at c0 c1
  go_enter Tryz.func68, Tryz.ntmps68
  go_wp2_with fail
  rw [← BG.eq]
  refine HCK.out.mono ?_
  rintro x w1 ⟨iv9, rfl, hGA, hb1⟩
  obtain ⟨ia, il, ic, rfl⟩ := hGA.sl.isSlice
  clear c0 c1 HCK
  obtain ⟨w2, hw2⟩ : ∃ w2, w2 = (w1.alloc (.cells #[.int .i64 n, (.slice va vl vc), .int .i64 e, (.slice ia il ic)] 51)).alloc (.cells #[.int .i64 0, .int .i64 0] 27) := ⟨_, rfl⟩
  have hb2 : Below w1.heap.size w1 w2 := by rw [hw2]; exact (balloc w1 _).alloc (by simp) _
  have hB1 : Below w0.heap.size w0 w2 := bcat2 hb1 hb2
  have hF1 : Blk w2 (w1.heap.size + 1) 27 [.int .i64 0, .int .i64 0] := by
    rw [hw2]
    have := blk0 (w := w1.alloc (.cells #[.int .i64 n, (.slice va vl vc), .int .i64 e, (.slice ia il ic)] 51)) (T := 27) (.int .i64 0) (.int .i64 0)
    rwa [World.size_alloc] at this
  have hH1 : Blk w2 w1.heap.size 51 [.int .i64 n, (.slice va vl vc), .int .i64 e, (.slice ia il ic)] := by
    rw [hw2]; exact (blk4 _ _ _ _).alloc _
  obtain ⟨t0, t1, _, _⟩ := hF1.two
  obtain ⟨k0, k1, _, _⟩ := (blk_below BG.box hB1).two
  rw [hw2] at t0 t1 k0 k1
  have hz9 : w.heap.size + 3 ≤ w1.heap.size := by rw [← BG.size]; exact hb1.size
  obtain ⟨_, f0, f1, ff0, ff1, fs0, fs1⟩ := Two.mk' hF1
  have hBw3 := bcat BG.bel hB1 BG.bel.size
  have hG3 := blk_below BG.grp hB1
  obtain ⟨_, h0, h1, h2, h3, _⟩ := Four.mk' hH1
  obtain ⟨_, g0, g1, g2, g3, gf0, gf1, gf2, gf3, _⟩ := Four.mk' hG3
  obtain ⟨hR3, y0, y1, fy0, fy1, s0, s1⟩ := Two.mk' (blk_below BG.res hB1)
  have hGA3 := (hGA.below hb2).mono (show w.heap.size + 3 ≤ w0.heap.size by rw [BG.size]; exact Nat.le_refl _)
  have HW2 := hide hw2
  rw [hw2] at f0 f1 ff0 ff1 fs0 fs1 h0 h1 h2 h3 g0 g1 g2 g3 gf0 gf1 gf2 gf3 y0 y1 fy0 fy1 s0 s1
  clear hw2
  have hni : (24 : Int) < (n : Int) := by omega
  go_wp2
  rw [← HW2.out]
  obtain ⟨W, hW, hG8, hR8, hB8, hS8, hK8⟩ := put6 hG3 hR3 hBw3 (.int .i64 0) (.slice none 0 0) (.int .i64 0) (.slice none 0 0) (.int .i64 2) (.int .i64 0)
  rw [← hW]
  clear hW
  obtain ⟨z0, z1, _, _⟩ := hR8.two
  obtain ⟨_, q0, q1, q2, q3, _⟩ := Four.mk' hG8
  exact bodyPost_ret (v := .tuple #[.agg #[.int .i64 0, .slice none 0 0, .int .i64 0, .slice none 0 0], .agg #[.int .i64 2, .int .i64 0]]) (by simp [results, Tryz.results68, go_sem, z0, z1, q0, q1, q2, q3]) rfl ⟨rfl, hB8⟩
end Go.Proofs.YtgejngpioldhpaaGreatDoor
