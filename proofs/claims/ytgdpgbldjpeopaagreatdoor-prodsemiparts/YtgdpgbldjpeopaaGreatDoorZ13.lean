/- What hom's fewMakers answers: makers of the whole group. What package hom's Iso answers: what is wrong with two tables; an isomorphism; or that there is none. Condition: the library's table of places lies as its text lays it. What package hom's Iso answers at two groups. Condition: the library's table of places lies as its text lays it. The law ProdSemiParts at everything. Condition: the library's table of places lies as its text lays it. -/
import Derived.Test.YtgdpgbldjpeopaaGreatDoorZ7
import Derived.Test.YtgdpgbldjpeopaaGreatDoorZ12
import Derived.Test.YtgdpgbldjpeopaaGreatDoorZ4
import Derived.Test.YtgdpgbldjpeopaaGreatDoorZ11
namespace Go.Proofs.YtgdpgbldjpeopaaGreatDoor
open Go Go.RowKit

set_option maxRecDepth 100000 in
set_option maxHeartbeats 8000000 in
theorem few_ok (n e : Nat) (v u : Value) (zs : List Int) (w : World) (hG : GA w n v e u zs) (hT : Tab w) :
    Calls Tryz.prog 40 #[.agg #[.int .i64 n, v, .int .i64 e, u]] w fun x w' => ∃ (ks : List Nat) (r1 : Option Addr) (r2 r3 : Nat), x = .returned (.slice r1 r2 r3) ∧ SlF w.heap.size w' (.slice r1 r2 r3) (li ks) ∧ (∀ k, k ∈ ks → k < n) ∧ ks.length ≤ n ∧ (∀ a, a < n → Mkd n zs e (fun x => decide (x ∈ ks)) a) ∧ Below w.heap.size w w' := by
  obtain ⟨i0, hi3, hz0, hz1, hz2⟩ := info_parts info3b
  have hn := hG.le
  have hen := hG.grp.elt
  have hB0 : Below w.heap.size w (w.alloc (.cells #[.int .i64 n, v, .int .i64 e, u] 54)) := balloc w _
  have hX0 : Blk (w.alloc (.cells #[.int .i64 n, v, .int .i64 e, u] 54)) w.heap.size 54 [.int .i64 n, v, .int .i64 e, u] := blk4 _ _ _ _
  have hs0 : (w.alloc (.cells #[.int .i64 n, v, .int .i64 e, u] 54)).heap.size = w.heap.size + 1 := by simp
  obtain ⟨p0, hp0⟩ := mkd_ex n zs e (fun x => decide (x ∈ ([] : List Nat)))
  have HMA := hide (fun W (q p : Nat → Bool) (h : Below w.heap.size w W) (hp : ∀ a, a < n → (p a = true ↔ Mkd n zs e q a)) => made_ok n v u zs e q p W (hG.below h) (hT.below h) hp)
  have HM0 := hide (fun W (h : Below w.heap.size w W) => show Calls Tryz.prog 30 #[.agg #[.int .i64 n, v, .int .i64 e, u], .int .u64 0] W fun x w' => x = .returned (.int .u64 (bs p0 n)) ∧ Below W.heap.size W w' by
    have h9 := HMA.out W (fun x => decide (x ∈ ([] : List Nat))) p0 h hp0
    rw [show bs (fun x => decide (x ∈ ([] : List Nat))) n = 0 by rw [← bs_none n]; exact bs_ext fun a _ => by simp] at h9
    exact h9)
  have HAL := hide (fun W => all_ok n v u e W hn)
  have hl0 : 0 < (lst n p0).length := List.length_pos_of_mem (mem_lst.2 ⟨hen, (hp0 e hen).2 (mkd_one _)⟩)
  have HP0 := hide hp0
  clear hp0
  obtain ⟨_, c0, c1, c2, c3, _⟩ := Four.mk' hX0
  go_enter Tryz.func40, Tryz.ntmps40
  go_wp2_with fail
  generalize w.alloc (.cells #[.int .i64 n, v, .int .i64 e, u] 54) = w0 at *
  refine (HM0.out _ hB0).mono ?_
  rintro e1 w1 ⟨rfl, hb1⟩
  have hB1 := bcat2 hB0 hb1
  have hX1 := blk_below hX0 hb1
  have hs1 : w.heap.size + 1 ≤ w1.heap.size := by rw [← hs0]; exact hb1.size
  clear hX0 hB0 hb1 HM0 hs0 c0 c1 c2 c3
  go_wp2_with fail
  go_loopw [3, 4] (fun s md wr => ∃ (ks : List Nat) (p : Nat → Bool), (∀ k, k ∈ ks → k < n) ∧ ks.length + 1 ≤ (lst n p).length ∧ (∀ a, a < n → (p a = true ↔ Mkd n zs e (fun x => decide (x ∈ ks)) a)) ∧ md = .int .u64 (bs p n) ∧ wr.ownsRow (w.heap.size + 1) 3 1 s ks.length ((li ks).map (Value.int .i64)) ∧ Blk wr w.heap.size 54 [.int .i64 n, v, .int .i64 e, u] ∧ Below w.heap.size w wr) (fun s _ _ => n - lenV s)
  case atStart => exact ⟨[], p0, by simp, hl0, HP0.out, rfl, World.ownsRow_nil _ _ _ _, hX1, hB1⟩
  case round =>
    clear hX1 hB1 hs1 HP0 hl0
    obtain ⟨ks, p, hL, hfit, hp, rfl, hown, hX, hB⟩ := hrel
    have hpn := lst_len n p
    obtain ⟨ka, kcap, rfl⟩ := own_slice hown
    have HOW := hide hown
    have HL := hide hL
    have HPP := hide hp
    clear hown hL hp
    obtain ⟨_, c0, c1, c2, c3, _⟩ := Four.mk' hX
    go_wp2_with fail
    refine (HAL.out wr).mono ?_
    rintro e2 w2 ⟨rfl, hb2⟩
    have hX2 := blk_below hX hb2
    have hB2 := bcat2 hB hb2
    have HO2 := hide (own_below HOW.out hb2)
    clear hX hb2 HOW hB c0 c1 c2 c3
    obtain ⟨_, c0, c1, c2, c3, _⟩ := Four.mk' hX2
    by_cases heq : bs p n = bs (fun _ => true) n
    · have HALL := hide (fun a (ha : a < n) => (HPP.out a ha).1 (by have := bs_inj heq a ha; simpa using this))
      rw [heq]
      go_wp2
      go_ret
      refine ⟨ks, _, _, _, rfl, ?_, HL.out, by omega, HALL.out, hB2⟩
      refine slF_own (zs := li ks) (by rw [li_len]; exact HO2.out) hX2.lt
    · have HC := hide (show ∃ c, c < n ∧ ¬ p c = true from Classical.byContradiction fun h9 => heq (mkd_full.1 fun x hx => Classical.byContradiction fun h8 => h9 ⟨x, hx, h8⟩))
      have hne : ((bs p n : Int) != (bs (fun _ => true) n : Int)) = true := by
        have : ¬ (bs p n : Int) = (bs (fun _ => true) n : Int) := by omega
        simpa using this
      clear heq
      generalize bs (fun _ => true) n = A9 at *
      go_wp2
      go_loopw [5, 6, 19] (fun bv mo iv wr => ∃ (k b : Nat) (q : Nat → Bool), k ≤ n ∧ iv = .int .i64 k ∧ bv = .int .i64 b ∧ mo = .int .u64 (bs q n) ∧ (lst n p).length ≤ (lst n q).length ∧ ((lst n p).length < (lst n q).length → b < n ∧ ∀ x, x < n → (q x = true ↔ Mkd n zs e (fun y => decide (y ∈ ks ++ [b])) x)) ∧ (∀ j (r : Nat → Bool), j < k → (∀ x, x < n → (r x = true ↔ Mkd n zs e (fun y => decide (y ∈ ks ++ [j])) x)) → (lst n r).length ≤ (lst n q).length) ∧ wr.ownsRow (w.heap.size + 1) 3 1 (.slice ka ks.length kcap) ks.length ((li ks).map (Value.int .i64)) ∧ Blk wr w.heap.size 54 [.int .i64 n, v, .int .i64 e, u] ∧ Below w.heap.size w wr) (fun _ _ iv _ => n - (intOf iv).toNat)
      case atStart => exact ⟨0, 0, p, Nat.zero_le _, rfl, rfl, rfl, Nat.le_refl _, fun h => absurd h (Nat.lt_irrefl _), fun j r h => by omega, HO2.out, hX2, hB2⟩
      case round =>
        clear hX2 hB2 HO2 c0 c1 c2 c3
        obtain ⟨k, b, q, hk, rfl, rfl, rfl, hle, hq, hmax, hown, hX, hB⟩ := hrel
        have HO := hide hown
        have HQ := hide hq
        have HM := hide hmax
        clear hown hq hmax
        obtain ⟨_, c0, c1, c2, c3, _⟩ := Four.mk' hX
        have hqn := lst_len n q
        by_cases hlt : k < n
        · have hki : (k : Int) < (n : Int) := by omega
          obtain ⟨r, hr⟩ := mkd_ex n zs e (fun x => decide (x ∈ ks ++ [k]))
          have HR := hide hr
          clear hr
          have hks : ks.length ≤ 60 := by omega
          have HOF := hide (fun W (h : Below wr.heap.size wr W) => of_ok n (.slice ka ks.length kcap) ks W hn hks ((Sl.of_own (by rw [li_len]; exact HO.out) (by have := hX.lt; omega)).below h) HL.out)
          have HO1 := hide (fun (W : World) (g : Nat) (hc : W.cell? ⟨g, 0, none⟩ = some (.int .i64 k)) => of_one n g k W hn hlt hc)
          have HMX := hide (fun W (h : Below w.heap.size w W) => HMA.out W _ r h HR.out)
          have hor : Go.bits BinOp.or IntKind.u64 (bs (fun a => decide (a ∈ ks)) n : Int) (bs (fun a => decide (a = k)) n : Int) = (bs (fun x => decide (x ∈ ks ++ [k])) n : Int) := by
            rw [or_bs _ _ hn]
            exact congrArg (fun b : Nat => (b : Int)) (bs_ext fun a _ => by simp)
          generalize bs (fun x => decide (x ∈ ks ++ [k])) n = Q9 at *
          generalize bs (fun a => decide (a ∈ ks)) n = Q1 at *
          generalize bs (fun a => decide (a = k)) n = Q2 at *
          have hS' : ∀ W, Below wr.heap.size wr W → (Below wr.heap.size wr W ∧ W.cell? ⟨w.heap.size, 0, none⟩ = some (.int .i64 n) ∧ W.cell? ⟨w.heap.size, 1, none⟩ = some v ∧ W.cell? ⟨w.heap.size, 2, none⟩ = some (.int .i64 e) ∧ W.cell? ⟨w.heap.size, 3, none⟩ = some u) := fun W h => ⟨h, below_cell h c0, below_cell h c1, below_cell h c2, below_cell h c3⟩
          have hS1 := hS' _ (bdrew (Below.refl _ wr))
          go_wp2_with fail
          clear c0 c1 c2 c3
          have HLN := hide (fun (p' : Nat → Bool) W => len_cnt n p' hn W)
          refine wp_region_held_drew (S := (fun W => Below wr.heap.size wr W ∧ W.cell? ⟨w.heap.size, 0, none⟩ = some (.int .i64 n) ∧ W.cell? ⟨w.heap.size, 1, none⟩ = some v ∧ W.cell? ⟨w.heap.size, 2, none⟩ = some (.int .i64 e) ∧ W.cell? ⟨w.heap.size, 3, none⟩ = some u)) (by kernel_rfl) hS1 (fun hHeld => ?_)
          have hBc : Below wr.heap.size wr wr.drew := bdrew (Below.refl _ wr)
          refine wpAnyH_take (i := 0) (oi := ({ dst := some 22, op := Go.Op.load 54 (Go.Operand.tmp 1), type := 54, pos := _, after := #[], guard := none } : Oper)) (v := ?_) rfl (by kernel_rfl) (by kernel_rfl) (by kernel_rfl) (fun _ _ _ h => h) (Or.inl ⟨by rfl, ?_⟩) (by assumption) ?_
          rotate_left
          · (intro w hSw; (try dsimp only at hSw); go_simp; try with_reducible rfl)
          simp only [Act.put, List.setIfInBounds_toArray, List.set_cons_zero, List.set_cons_succ]
          refine wpAnyH_take (i := 1) (oi := ({ dst := some 23, op := Go.Op.move (Go.Operand.tmp 3), type := 22, pos := _, after := #[], guard := none } : Oper)) (v := ?_) rfl (by kernel_rfl) (by kernel_rfl) (by kernel_rfl) (fun _ _ _ h => h) (Or.inl ⟨by rfl, ?_⟩) (by assumption) ?_
          rotate_left
          · (intro w hSw; (try dsimp only at hSw); go_simp; try with_reducible rfl)
          simp only [Act.put, List.setIfInBounds_toArray, List.set_cons_zero, List.set_cons_succ]
          refine wpAnyH_take (i := 3) (oi := ({ dst := some 25, op := Go.Op.move (Go.Operand.tmp 7), type := 3, pos := _, after := #[], guard := none } : Oper)) (v := ?_) rfl (by kernel_rfl) (by kernel_rfl) (by kernel_rfl) (fun _ _ _ h => h) (Or.inl ⟨by rfl, ?_⟩) (by assumption) ?_
          rotate_left
          · (intro w hSw; (try dsimp only at hSw); go_simp; try with_reducible rfl)
          simp only [Act.put, List.setIfInBounds_toArray, List.set_cons_zero, List.set_cons_succ]
          refine wpAnyH_ready (rs := [2, 4]) (by kernel_rfl) (by simp) (AllReadyH.cons (o := ({ dst := some 24, op := Go.Op.call { callee := Go.Callee.value (Go.Operand.func 33), args := #[Go.Operand.tmp 23], argTypes := #[22] }, type := 56, pos := _, after := #[{ on := 1, ground := Go.Ground.data }], guard := none } : Oper)) rfl (fun KK hK => ?_) (AllReadyH.cons (o := ({ dst := some 26, op := Go.Op.buildSlice 22 1 #[(0, Go.Operand.tmp 25)], type := 22, pos := _, after := #[{ on := 3, ground := Go.Ground.data }], guard := none } : Oper)) rfl (fun KK hK => ?_) AllReadyH.nil))
          · go_simp
            refine (HOF.out _ hBc).mono ?_
            rintro e5 U1 ⟨rfl, rfl⟩
            try go_wp2_with fail
            refine hK.out _ _ (hS' _ hBc) (fun hHeld => ?_)
            clear hK
            try simp only [Act.put, List.setIfInBounds_toArray, List.set_cons_zero, List.set_cons_succ]
            refine wpAnyH_ready (rs := [4]) (by kernel_rfl) (by simp) (AllReadyH.cons (o := ({ dst := some 26, op := Go.Op.buildSlice 22 1 #[(0, Go.Operand.tmp 25)], type := 22, pos := _, after := #[{ on := 3, ground := Go.Ground.data }], guard := none } : Oper)) rfl (fun KK hK => ?_) AllReadyH.nil)
            go_simp
            have hBd := bcat2 hBc (balloc _ (.cells #[.int .i64 (k : Int)] 3))
            refine hK.out _ _ (hS' _ hBd) (fun hHeld => ?_)
            clear hK
            try simp only [Act.put, List.setIfInBounds_toArray, List.set_cons_zero, List.set_cons_succ]
            refine wpAnyH_ready (rs := [5]) (by kernel_rfl) (by simp) (AllReadyH.cons (o := ({ dst := some 27, op := Go.Op.call { callee := Go.Callee.value (Go.Operand.func 33), args := #[Go.Operand.tmp 26], argTypes := #[22] }, type := 56, pos := _, after := #[{ on := 4, ground := Go.Ground.data }, { on := 2, ground := Go.Ground.chain }], guard := none } : Oper)) rfl (fun KK hK => ?_) AllReadyH.nil)
            go_simp
            refine (HO1.out _ _ (by simp)).mono ?_
            rintro e6 U2 ⟨rfl, rfl⟩
            try go_wp2_with fail
            refine hK.out _ _ (hS' _ hBd) (fun hHeld => ?_)
            clear hK
            try simp only [Act.put, List.setIfInBounds_toArray, List.set_cons_zero, List.set_cons_succ]
            refine wpAnyH_take (i := 6) (oi := ({ dst := some 28, op := Go.Op.binOp Go.BinOp.or 56 (Go.Operand.tmp 24) (Go.Operand.tmp 27) 56, type := 56, pos := _, after := #[{ on := 2, ground := Go.Ground.data }, { on := 5, ground := Go.Ground.data }], guard := none } : Oper)) (v := ?_) rfl (by kernel_rfl) (by kernel_rfl) (by kernel_rfl) (fun _ _ _ h => h) (Or.inl ⟨by rfl, ?_⟩) (by assumption) ?_
            rotate_left
            · (intro w hSw; (try dsimp only at hSw); go_simp; try with_reducible rfl)
            simp only [Act.put, List.setIfInBounds_toArray, List.set_cons_zero, List.set_cons_succ]
            refine wpAnyH_ready (rs := [7]) (by kernel_rfl) (by simp) (AllReadyH.cons (o := ({ dst := some 29, op := Go.Op.call { callee := Go.Callee.value (Go.Operand.func 30), args := #[Go.Operand.tmp 22, Go.Operand.tmp 28], argTypes := #[54, 56] }, type := 56, pos := _, after := #[{ on := 0, ground := Go.Ground.data }, { on := 6, ground := Go.Ground.data }, { on := 5, ground := Go.Ground.chain }], guard := none } : Oper)) rfl (fun KK hK => ?_) AllReadyH.nil)
            go_simp
            refine (HMX.out _ (bcat2 hB hBd)).mono ?_
            rintro e7 U3 ⟨rfl, hl3⟩
            try go_wp2_with fail
            have hBe := bcat2 hBd hl3
            refine hK.out _ _ (hS' _ hBe) (fun hHeld => ?_)
            clear hK
            try simp only [Act.put, List.setIfInBounds_toArray, List.set_cons_zero, List.set_cons_succ]
            refine wpAnyH_take (i := 8) (oi := ({ dst := some 8, op := Go.Op.assign (Go.Operand.tmp 29), type := 56, pos := _, after := #[{ on := 7, ground := Go.Ground.data }, { on := 7, ground := Go.Ground.chain }, { on := 0, ground := Go.Ground.phase }, { on := 1, ground := Go.Ground.phase }, { on := 2, ground := Go.Ground.phase }, { on := 3, ground := Go.Ground.phase }, { on := 4, ground := Go.Ground.phase }, { on := 5, ground := Go.Ground.phase }, { on := 6, ground := Go.Ground.phase }, { on := 7, ground := Go.Ground.phase }], guard := none } : Oper)) (v := ?_) rfl (by kernel_rfl) (by kernel_rfl) (by kernel_rfl) (fun _ _ _ h => h) (Or.inl ⟨by rfl, ?_⟩) (by assumption) ?_
            rotate_left
            · (intro w hSw; (try dsimp only at hSw); go_simp; try with_reducible rfl)
            simp only [Act.put, List.setIfInBounds_toArray, List.set_cons_zero, List.set_cons_succ]
            refine wpAnyH_done (by kernel_rfl) ?_ _
            go_wp2_with fail
            refine (HLN.out r _).mono ?_
            rintro e8 U4 ⟨rfl, rfl⟩
            go_wp2_with fail
            refine (HLN.out q _).mono ?_
            rintro e9 U5 ⟨rfl, rfl⟩
            have HOe := hide (own_below HO.out hBe)
            have hXe := blk_below hX hBe
            have hBf := bcat2 hB hBe
            by_cases hgt : (lst n q).length < (lst n r).length
            · have hgi : ((lst n q).length : Int) < ((lst n r).length : Int) := by omega
              go_wp2
              go_roundw
              case rel => exact ⟨k + 1, k, r, by omega, by go_num, rfl, rfl, by omega, fun _ => ⟨hlt, HR.out⟩, fun j r' hj hr' => by
                by_cases hjk : j < k
                · have := HM.out j r' hjk hr'; omega
                · have hjk : j = k := by omega
                  subst hjk
                  exact Nat.le_of_eq (congrArg List.length (lst_same (fun x hx => (hr' x hx).trans (HR.out x hx).symm))), HOe.out, hXe, hBf⟩
              case measure => simp [intOf]; omega
            · have hgi : ¬ ((lst n q).length : Int) < ((lst n r).length : Int) := by omega
              go_wp2
              go_roundw
              case rel => exact ⟨k + 1, b, q, by omega, by go_num, rfl, rfl, hle, HQ.out, fun j r' hj hr' => by
                by_cases hjk : j < k
                · exact HM.out j r' hjk hr'
                · have hjk : j = k := by omega
                  subst hjk
                  have := congrArg List.length (lst_same (fun x hx => (hr' x hx).trans (HR.out x hx).symm))
                  omega, HOe.out, hXe, hBf⟩
              case measure => simp [intOf]; omega
          · go_simp
            have hBd := bcat2 hBc (balloc _ (.cells #[.int .i64 (k : Int)] 3))
            refine hK.out _ _ (hS' _ hBd) (fun hHeld => ?_)
            clear hK
            try simp only [Act.put, List.setIfInBounds_toArray, List.set_cons_zero, List.set_cons_succ]
            refine wpAnyH_ready (rs := [2]) (by kernel_rfl) (by simp) (AllReadyH.cons (o := ({ dst := some 24, op := Go.Op.call { callee := Go.Callee.value (Go.Operand.func 33), args := #[Go.Operand.tmp 23], argTypes := #[22] }, type := 56, pos := _, after := #[{ on := 1, ground := Go.Ground.data }], guard := none } : Oper)) rfl (fun KK hK => ?_) AllReadyH.nil)
            go_simp
            refine (HOF.out _ hBd).mono ?_
            rintro e5 U1 ⟨rfl, rfl⟩
            try go_wp2_with fail
            refine hK.out _ _ (hS' _ hBd) (fun hHeld => ?_)
            clear hK
            try simp only [Act.put, List.setIfInBounds_toArray, List.set_cons_zero, List.set_cons_succ]
            refine wpAnyH_ready (rs := [5]) (by kernel_rfl) (by simp) (AllReadyH.cons (o := ({ dst := some 27, op := Go.Op.call { callee := Go.Callee.value (Go.Operand.func 33), args := #[Go.Operand.tmp 26], argTypes := #[22] }, type := 56, pos := _, after := #[{ on := 4, ground := Go.Ground.data }, { on := 2, ground := Go.Ground.chain }], guard := none } : Oper)) rfl (fun KK hK => ?_) AllReadyH.nil)
            go_simp
            refine (HO1.out _ _ (by simp)).mono ?_
            rintro e6 U2 ⟨rfl, rfl⟩
            try go_wp2_with fail
            refine hK.out _ _ (hS' _ hBd) (fun hHeld => ?_)
            clear hK
            try simp only [Act.put, List.setIfInBounds_toArray, List.set_cons_zero, List.set_cons_succ]
            refine wpAnyH_take (i := 6) (oi := ({ dst := some 28, op := Go.Op.binOp Go.BinOp.or 56 (Go.Operand.tmp 24) (Go.Operand.tmp 27) 56, type := 56, pos := _, after := #[{ on := 2, ground := Go.Ground.data }, { on := 5, ground := Go.Ground.data }], guard := none } : Oper)) (v := ?_) rfl (by kernel_rfl) (by kernel_rfl) (by kernel_rfl) (fun _ _ _ h => h) (Or.inl ⟨by rfl, ?_⟩) (by assumption) ?_
            rotate_left
            · (intro w hSw; (try dsimp only at hSw); go_simp; try with_reducible rfl)
            simp only [Act.put, List.setIfInBounds_toArray, List.set_cons_zero, List.set_cons_succ]
            refine wpAnyH_ready (rs := [7]) (by kernel_rfl) (by simp) (AllReadyH.cons (o := ({ dst := some 29, op := Go.Op.call { callee := Go.Callee.value (Go.Operand.func 30), args := #[Go.Operand.tmp 22, Go.Operand.tmp 28], argTypes := #[54, 56] }, type := 56, pos := _, after := #[{ on := 0, ground := Go.Ground.data }, { on := 6, ground := Go.Ground.data }, { on := 5, ground := Go.Ground.chain }], guard := none } : Oper)) rfl (fun KK hK => ?_) AllReadyH.nil)
            go_simp
            refine (HMX.out _ (bcat2 hB hBd)).mono ?_
            rintro e7 U3 ⟨rfl, hl3⟩
            try go_wp2_with fail
            have hBe := bcat2 hBd hl3
            refine hK.out _ _ (hS' _ hBe) (fun hHeld => ?_)
            clear hK
            try simp only [Act.put, List.setIfInBounds_toArray, List.set_cons_zero, List.set_cons_succ]
            refine wpAnyH_take (i := 8) (oi := ({ dst := some 8, op := Go.Op.assign (Go.Operand.tmp 29), type := 56, pos := _, after := #[{ on := 7, ground := Go.Ground.data }, { on := 7, ground := Go.Ground.chain }, { on := 0, ground := Go.Ground.phase }, { on := 1, ground := Go.Ground.phase }, { on := 2, ground := Go.Ground.phase }, { on := 3, ground := Go.Ground.phase }, { on := 4, ground := Go.Ground.phase }, { on := 5, ground := Go.Ground.phase }, { on := 6, ground := Go.Ground.phase }, { on := 7, ground := Go.Ground.phase }], guard := none } : Oper)) (v := ?_) rfl (by kernel_rfl) (by kernel_rfl) (by kernel_rfl) (fun _ _ _ h => h) (Or.inl ⟨by rfl, ?_⟩) (by assumption) ?_
            rotate_left
            · (intro w hSw; (try dsimp only at hSw); go_simp; try with_reducible rfl)
            simp only [Act.put, List.setIfInBounds_toArray, List.set_cons_zero, List.set_cons_succ]
            refine wpAnyH_done (by kernel_rfl) ?_ _
            go_wp2_with fail
            refine (HLN.out r _).mono ?_
            rintro e8 U4 ⟨rfl, rfl⟩
            go_wp2_with fail
            refine (HLN.out q _).mono ?_
            rintro e9 U5 ⟨rfl, rfl⟩
            have HOe := hide (own_below HO.out hBe)
            have hXe := blk_below hX hBe
            have hBf := bcat2 hB hBe
            by_cases hgt : (lst n q).length < (lst n r).length
            · have hgi : ((lst n q).length : Int) < ((lst n r).length : Int) := by omega
              go_wp2
              go_roundw
              case rel => exact ⟨k + 1, k, r, by omega, by go_num, rfl, rfl, by omega, fun _ => ⟨hlt, HR.out⟩, fun j r' hj hr' => by
                by_cases hjk : j < k
                · have := HM.out j r' hjk hr'; omega
                · have hjk : j = k := by omega
                  subst hjk
                  exact Nat.le_of_eq (congrArg List.length (lst_same (fun x hx => (hr' x hx).trans (HR.out x hx).symm))), HOe.out, hXe, hBf⟩
              case measure => simp [intOf]; omega
            · have hgi : ¬ ((lst n q).length : Int) < ((lst n r).length : Int) := by omega
              go_wp2
              go_roundw
              case rel => exact ⟨k + 1, b, q, by omega, by go_num, rfl, rfl, hle, HQ.out, fun j r' hj hr' => by
                by_cases hjk : j < k
                · exact HM.out j r' hjk hr'
                · have hjk : j = k := by omega
                  subst hjk
                  have := congrArg List.length (lst_same (fun x hx => (hr' x hx).trans (HR.out x hx).symm))
                  omega, HOe.out, hXe, hBf⟩
              case measure => simp [intOf]; omega
        · have hki : ¬ (k : Int) < (n : Int) := by omega
          obtain ⟨hbn, hqm⟩ : b < n ∧ ∀ x, x < n → (q x = true ↔ Mkd n zs e (fun y => decide (y ∈ ks ++ [b])) x) := HQ.out (by
            obtain ⟨c, hc, hpc⟩ := HC.out
            obtain ⟨rc, hrc⟩ := mkd_ex n zs e (fun x => decide (x ∈ ks ++ [c]))
            have h1 := mkd_more HPP.out hrc hc hpc
            have h2 := HM.out c rc (by omega) hrc
            omega)
          have hlq : ks.length + 1 + 1 ≤ (lst n q).length := by
            obtain ⟨c, hc, hpc⟩ := HC.out
            obtain ⟨rc, hrc⟩ := mkd_ex n zs e (fun x => decide (x ∈ ks ++ [c]))
            have h1 := mkd_more HPP.out hrc hc hpc
            have h2 := HM.out c rc (by omega) hrc
            omega
          have HQM := hide hqm
          clear hqm
          go_wp2_with (first
            | (at_builtin; refine wpList_append_own _ rfl _ _ 22 rfl (w.heap.size + 1) 3 i0 (.int .i64 0) 1 8 under22b hi3 hz0 hz1 hz2 rfl (by decide) _ _ _ rfl (World.ownsRow.alloc HO.out _) ⟨wr.heap.size, 0, none⟩ 1 1 [.int .i64 b] rfl rfl (cell_one_new _ _ _) ?c2 ?c3 ?c4 ?c5 ?_))
          case c2 => simp [Value.oneCell']
          case c3 => unfold maxLen; omega
          case c4 => omega
          case c5 => have := hX.lt; simp; omega
          intro v9 w6 hown' hgrow _
          obtain ⟨g9, cap9, rfl⟩ := ownsRow_succ hown'
          have hge := owns_ge HO.out
          have hX6 : Blk w6 w.heap.size 54 [.int .i64 n, v, .int .i64 e, u] := (hX.alloc _).grown hgrow (fun h => by have := hge _ h.symm; omega)
          have hB6 : Below w.heap.size w w6 := (bcat2 hB (balloc wr _)).grown hgrow (bcat2 hB (balloc wr _)).size (fun k hk => by have := hge _ hk; omega)
          have HO6 := hide (show w6.ownsRow (w.heap.size + 1) 3 1 (.slice (some ⟨g9, 0, none⟩) (ks.length + 1) cap9) (ks ++ [b]).length ((li (ks ++ [b])).map (Value.int .i64)) by simpa [li] using hown')
          clear hown' hgrow hge c0 c1 c2 c3
          go_wp2
          go_roundw
          case rel => exact ⟨ks ++ [b], q, fun x hx => by
            rcases List.mem_append.1 hx with h9 | h9
            · exact HL.out x h9
            · simp at h9; omega, by simpa using hlq, HQM.out, rfl, HO6.out, hX6, hB6⟩
          case measure => simp [lenV]; omega
end Go.Proofs.YtgdpgbldjpeopaaGreatDoor

namespace Go.Proofs.YtgdpgbldjpeopaaGreatDoor
open Go Go.RowKit

/-- What Iso begins with: both tables in boxes, and two boxes for what it answers. -/
structure BegI (w w0 : World) (N M : Int) (v y : Value) : Prop where
  eq : w0 = (((w.alloc (.cells #[.int .i64 N, v] 24)).alloc (.cells #[.int .i64 M, y] 24)).alloc (.cells #[.slice none 0 0] 22)).alloc (.cells #[.int .i64 0, .int .i64 0] 28)
  bel : Below w.heap.size w w0
  box : BoxG w0 w.heap.size N v
  boy : BoxG w0 (w.heap.size + 1) M y
  lis : Boxed w0 (w.heap.size + 1 + 1) 22 (.slice none 0 0)
  res : Blk w0 (w.heap.size + 1 + 1 + 1) 28 [.int .i64 0, .int .i64 0]
  siz : w0.heap.size = w.heap.size + 1 + 1 + 1 + 1
theorem BegI.new (w : World) (N M : Int) (v y : Value) : ∃ w0, BegI w w0 N M v y := by
  refine ⟨_, rfl, (((balloc w _).alloc (by simp) _).alloc (by simp; omega) _).alloc (by simp; omega) _, (((blk0 (w := w) (T := 24) _ _).alloc _).alloc _).alloc _, ?_, ?_, ?_, by simp⟩
  · have h := ((blk0 (w := w.alloc (.cells #[.int .i64 N, v] 24)) (T := 24) (.int .i64 M) y).alloc (.cells #[.slice none 0 0] 22)).alloc (.cells #[.int .i64 0, .int .i64 0] 28)
    rw [World.size_alloc] at h
    exact h
  · have h := (Boxed.new ((w.alloc (.cells #[.int .i64 N, v] 24)).alloc (.cells #[.int .i64 M, y] 24)) 22 (.slice none 0 0)).alloc (.cells #[.int .i64 0, .int .i64 0] 28)
    rw [World.size_alloc, World.size_alloc] at h
    exact h
  · have h := blk0 (w := ((w.alloc (.cells #[.int .i64 N, v] 24)).alloc (.cells #[.int .i64 M, y] 24)).alloc (.cells #[.slice none 0 0] 22)) (T := 28) (.int .i64 0) (.int .i64 0)
    rw [World.size_alloc, World.size_alloc, World.size_alloc] at h
    exact h
theorem boxed_self {W : World} {b : Nat} {T : TypeId} {x : Value} (h : Boxed W b T x) : W.setCell ⟨b, 0, none⟩ x = W := by
  exact setCell_self (c := #[x]) h (by simp)
set_option maxRecDepth 100000 in
set_option maxHeartbeats 4000000 in
theorem hiso_bad (N M : Int) (v y : Value) (zs ys : List Int) (w : World) (hv : Sl w v zs) (hy : Sl w y ys) (hc : (twofault N zs M ys).1 ≠ 0) :
    Calls Tryz.prog 17 #[.agg #[.int .i64 N, v], .agg #[.int .i64 M, y]] w fun x w' => x = .returned (.tuple #[.slice none 0 0, .agg #[.int .i64 (twofault N zs M ys).1, .int .i64 (twofault N zs M ys).2]]) ∧ Below w.heap.size w w' := by
  obtain ⟨w0, BG⟩ := BegI.new w N M v y
  have HCK : Hid (Calls Tryz.prog 37 #[.agg #[.int .i64 N, v], .agg #[.int .i64 M, y]] w0 fun x w' => x = .returned (.tuple #[.agg #[.int .i64 0, .slice none 0 0, .int .i64 0, .slice none 0 0, .int .i64 0, .slice none 0 0, .int .i64 0, .slice none 0 0], .agg #[.int .i64 (twofault N zs M ys).1, .int .i64 (twofault N zs M ys).2]]) ∧ Below w0.heap.size w0 w') := by
    by_cases h : (gfault N zs).1 = 0
    · obtain ⟨n, e, rfl, hg, _⟩ := gfault_grp h
      have ht : twofault n zs M ys = gfault M ys := by unfold twofault; rw [if_neg (by simpa using h)]
      rw [ht] at hc ⊢
      exact pair_bad2 n e M v y zs ys w0 (hv.below BG.bel) hg (hy.below BG.bel) hc
    · have ht : twofault N zs M ys = gfault N zs := by unfold twofault; rw [if_pos h]
      rw [ht] at hc ⊢
      exact pair_bad1 N M v y zs w0 (hv.below BG.bel) hc
  obtain ⟨c, i, hci⟩ : ∃ c i, twofault N zs M ys = (c, i) := ⟨_, _, rfl⟩
  rw [hci] at HCK hc ⊢
  simp only at HCK hc ⊢
  clear hci
  have hcb : (c != 0) = true := by simpa using hc
  obtain ⟨e0, e1, _, _⟩ := BG.box.two
  obtain ⟨k0, k1, _, _⟩ := BG.boy.two
  rw [BG.eq] at e0 e1 k0 k1
  go_enter Tryz.func17, Tryz.ntmps17
  go_wp2_with fail
  rw [← BG.eq]
  clear e0 e1 k0 k1
  refine HCK.out.mono ?_
  rintro x w1 ⟨rfl, hb1⟩
  obtain ⟨w2, hw2⟩ : ∃ w2, w2 = (w1.alloc (.cells #[.int .i64 0, .slice none 0 0, .int .i64 0, .slice none 0 0, .int .i64 0, .slice none 0 0, .int .i64 0, .slice none 0 0] 72)).alloc (.cells #[.int .i64 c, .int .i64 i] 28) := ⟨_, rfl⟩
  have hB1 : Below w0.heap.size w0 w2 := by rw [hw2]; exact bcat2 hb1 ((balloc w1 _).alloc (by simp) _)
  have hF1 : Blk w2 (w1.heap.size + 1) 28 [.int .i64 c, .int .i64 i] := by
    rw [hw2]
    have := blk0 (w := w1.alloc (.cells #[.int .i64 0, .slice none 0 0, .int .i64 0, .slice none 0 0, .int .i64 0, .slice none 0 0, .int .i64 0, .slice none 0 0] 72)) (T := 28) (.int .i64 c) (.int .i64 i)
    rwa [World.size_alloc] at this
  have hR1 := blk_below BG.res hB1
  have hL1 := Boxed.below BG.lis hB1
  have hBw := bcat BG.bel hB1 BG.bel.size
  subst hw2
  have l0 := hL1.cell
  have fl0 := hL1.frozen
  have ls := boxed_self hL1
  obtain ⟨y0, y1, fy0, fy1⟩ := hR1.two
  obtain ⟨t0, t1, _, _⟩ := hF1.two
  obtain ⟨hR6, hB6⟩ := put2 hR1 hBw (by omega) c i
  obtain ⟨z0, z1, _, _⟩ := hR6.two
  have hL6 : Boxed ((((w1.alloc (.cells #[.int .i64 0, .slice none 0 0, .int .i64 0, .slice none 0 0, .int .i64 0, .slice none 0 0, .int .i64 0, .slice none 0 0] 72)).alloc (.cells #[.int .i64 c, .int .i64 i] 28)).setCell ⟨w.heap.size + 1 + 1 + 1, 0, none⟩ (.int .i64 c)).setCell ⟨w.heap.size + 1 + 1 + 1, 1, none⟩ (.int .i64 i)) (w.heap.size + 1 + 1) 22 (.slice none 0 0) := (Below.heap_setCell _ _ _ _ (by simp)).trans ((Below.heap_setCell _ _ _ _ (by simp)).trans hL1)
  have l6 := hL6.cell
  go_wp2
  go_region
  go_wp2
  exact bodyPost_ret (v := .tuple #[.slice none 0 0, .agg #[.int .i64 c, .int .i64 i]]) (by simp [results, Tryz.results17, go_sem, z0, z1, l6]) rfl ⟨rfl, bdrew hB6⟩
theorem results_iso {fn : Func} {p q : Tmp} (h : fn.results = #[.cell p 22, .cell q 28]) (tmps : Array Value) (w : World) (g k : Nat) (r x y : Value) (hp : tmps.getD p undef = .pointer (some ⟨g, 0, none⟩)) (hq : tmps.getD q undef = .pointer (some ⟨k, 0, none⟩)) (h1 : Boxed w g 22 r) (h2 : Blk w k 28 [x, y]) :
    (results fn tmps).run Tryz.prog w = .ok (.tuple #[r, .agg #[x, y]]) w := by
  have hp' : tmps[p]?.getD undef = .pointer (some ⟨g, 0, none⟩) := by simpa using hp
  have hq' : tmps[q]?.getD undef = .pointer (some ⟨k, 0, none⟩) := by simpa using hq
  have hc := h1.cell
  obtain ⟨d0, d1, _, _⟩ := h2.two
  simp only [results, h]
  go_simp
/-- What a body that only returns leaves. -/
def retM (R : Ending → World → Prop) : Exit → Act → World → Prop
  | .ret, a, w => bodyPostM Fence.wide 9 Tryz.prog Tryz.f17 R .ret a w
  | _, _, _ => False
theorem retM_body {R : Ending → World → Prop} (e : Exit) (a : Act) (w : World) (h : retM R e a w) : bodyPostM Fence.wide 9 Tryz.prog Tryz.f17 R e a w := by
  cases e <;> first | exact h | exact h.elim
/-- What Iso answers at two groups. -/
def IsoP (n : Nat) (zs : List Int) (m : Nat) (ys : List Int) (w : World) (x : Ending) (w' : World) : Prop :=
  Below w.heap.size w w' ∧ ((∃ φ g, n = m ∧ IsIso n zs m ys φ ∧ x = .returned (.tuple #[.slice (some ⟨g, 0, none⟩) n n, .agg #[.int .i64 0, .int .i64 0]]) ∧ w.heap.size ≤ g ∧ Blk w' g 3 ((li ((List.range n).map φ)).map (Value.int .i64))) ∨
    (x = .returned (.tuple #[.slice none 0 0, .agg #[.int .i64 6, .int .i64 0]]) ∧ (n = m → ¬ ∃ φ, IsIso n zs m ys φ)))
theorem few_ok' (n e : Nat) (v u : Value) (zs : List Int) (w : World) (hG : GA w n v e u zs) (hT : Tab w) :
    Calls Tryz.prog 40 #[.agg #[.int .i64 n, v, .int .i64 e, u]] w fun x w' => ∃ (ks : List Nat) (r1 : Option Addr) (r3 : Nat), x = .returned (.slice r1 ks.length r3) ∧ Sl w' (.slice r1 ks.length r3) (li ks) ∧ (∀ k, k ∈ ks → k < n) ∧ ks.length ≤ n ∧ (∀ a, a < n → Mkd n zs e (fun x => decide (x ∈ ks)) a) ∧ Below w.heap.size w w' := by
  refine (few_ok n e v u zs w hG hT).mono ?_
  rintro x w' ⟨ks, r1, r2, r3, rfl, hs, h1, h2, h3⟩
  have hs' := hs.sl
  obtain ⟨a, cap, pb, po, hv, _⟩ := hs.sl
  have : r2 = ks.length := by injection hv with _ h4; rw [li_len] at h4; exact h4
  subst this
  exact ⟨ks, r1, r3, rfl, hs', h1, h2, h3⟩
/-- Between two rounds: there is no round yet. -/
structure IJ (wx : World) (lr D : Nat) (ob : Obj) (pre : List (List Int)) (W : World) : Prop where
  no : pre = []
  bel : Below wx.heap.size wx W
  l_ : W.heap[lr]? = some ob
  d_ : W.heap[D]? = some (.deferred (some []))
/-- Where the loop was left: at the first. -/
structure IX (n : Nat) (zs : List Int) (m : Nat) (ys : List Int) (w : World) (B lr D : Nat) (ob : Obj) (W : World) : Prop where
  ex : ∃ φ g, IsIso n zs m ys φ ∧ B ≤ g ∧ Boxed W (w.heap.size + 1 + 1) 22 (.slice (some ⟨g, 0, none⟩) n n) ∧ Blk W g 3 ((li ((List.range n).map φ)).map (Value.int .i64))
  bel : Below w.heap.size w W
  l_ : W.heap[lr]? = some ob
  d_ : W.heap[D]? = some (.deferred (some []))
  f_ : Blk W (w.heap.size + 1 + 1 + 1) 28 [.int .i64 0, .int .i64 0]
end Go.Proofs.YtgdpgbldjpeopaaGreatDoor

namespace Go.Proofs.YtgdpgbldjpeopaaGreatDoor
open Go Go.RowKit

attribute [local go_sem] Oper.semAt_some
set_option maxRecDepth 100000 in
set_option maxHeartbeats 1600000 in
theorem hiso_any (n e m d : Nat) (v y : Value) (zs ys : List Int) (w : World) (hv : Sl w v zs) (hg : IsGrp n zs e) (hy : Sl w y ys) (hh : IsGrp m ys d) (hT : Tab w) :
    Calls Tryz.prog 17 #[.agg #[.int .i64 n, v], .agg #[.int .i64 m, y]] w (IsoP n zs m ys w) := by
  obtain ⟨va, vl, vc, rfl⟩ := hv.isSlice
  obtain ⟨ya, yl, yc, rfl⟩ := hy.isSlice
  have hn := hg.tab.le
  have hen := hg.elt
  obtain ⟨w0, BG⟩ := BegI.new w n m (.slice va vl vc) (.slice ya yl yc)
  have HCK := hide (pair_good n e m d (.slice va vl vc) (.slice ya yl yc) zs ys w0 (hv.below BG.bel) hg (hy.below BG.bel) hh)
  obtain ⟨c0, c1, _, _⟩ := BG.box.two
  obtain ⟨d0, d1, _, _⟩ := BG.boy.two
  rw [BG.eq] at c0 c1 d0 d1
  refine (callsIn_wide (n := 9)).1 ?_
  refine callsIn_of_wp_marks Tryz.func17 rfl trivial ?_ rfl
  simp only [Tryz.ntmps17, List.size_toArray, List.length_cons, List.length_nil, Nat.reduceAdd, Nat.reduceSub, Array.replicate_succ, Array.replicate_zero, List.push_toArray, List.append_toArray, List.nil_append, List.cons_append]
  refine wpIn_mono (Q := retM (IsoP n zs m ys w)) ?_ retM_body
  gi_wp2_with fail
  rw [← BG.eq]
  clear c0 c1 d0 d1
  refine ⟨trivial, callsIn_wide.2 ?_⟩
  refine HCK.out.mono ?_
  rintro x w1 ⟨iv9, jv9, rfl, hSI, hSJ, hb1⟩
  obtain ⟨ia, il, ic, rfl⟩ := hSI.sl.isSlice
  obtain ⟨ja, jl, jc, rfl⟩ := hSJ.sl.isSlice
  obtain ⟨w2, hw2⟩ : ∃ w2, w2 = (w1.alloc (.cells #[.int .i64 n, .slice va vl vc, .int .i64 e, .slice ia il ic, .int .i64 m, .slice ya yl yc, .int .i64 d, .slice ja jl jc] 72)).alloc (.cells #[.int .i64 0, .int .i64 0] 28) := ⟨_, rfl⟩
  have hb2 : Below w1.heap.size w1 w2 := by rw [hw2]; exact (balloc w1 _).alloc (by simp) _
  have hB1 : Below w0.heap.size w0 w2 := bcat2 hb1 hb2
  have hF1 : Blk w2 (w1.heap.size + 1) 28 [.int .i64 0, .int .i64 0] := by
    rw [hw2]
    have := blk0 (w := w1.alloc (.cells #[.int .i64 n, .slice va vl vc, .int .i64 e, .slice ia il ic, .int .i64 m, .slice ya yl yc, .int .i64 d, .slice ja jl jc] 72)) (T := 28) (.int .i64 0) (.int .i64 0)
    rwa [World.size_alloc] at this
  have hH2 : Blk w2 w1.heap.size 72 [.int .i64 n, .slice va vl vc, .int .i64 e, .slice ia il ic, .int .i64 m, .slice ya yl yc, .int .i64 d, .slice ja jl jc] := by
    rw [hw2]; exact Blk.alloc (World.alloc_heap_new _ _) _
  have hBw2 := bcat BG.bel hB1 BG.bel.size
  have hR2 := blk_below BG.res hB1
  have hL2 := Boxed.below BG.lis hB1
  have hX2 := blk_below BG.box hB1
  have hY2 := blk_below BG.boy hB1
  have hGA : GA w2 n (.slice va vl vc) e (.slice ia il ic) zs := ⟨hg, hv.below hBw2, hSI.sl.below hb2⟩
  have hyw : Sl w2 (.slice ya yl yc) ys := hy.below hBw2
  have HSO := hide (same_orders n e m d (.slice va vl vc) (.slice ya yl yc) zs ys w2 (hv.below hBw2) hg hyw hh)
  have HFE := hide (fun W (h : Below w2.heap.size w2 W) => few_ok' n e (.slice va vl vc) (.slice ia il ic) zs W (hGA.below h) ((hT.below hBw2).below h))
  have HSG := hide (fun W k1 k2 k3 => single_ok n e m d (.slice va vl vc) (.slice ia il ic) (.slice ya yl yc) (.slice ja jl jc) k1 k2 k3 W hn hen)
  obtain ⟨t0, t1, _, _⟩ := hF1.two
  obtain ⟨g0, g1, _, _⟩ := hX2.two
  obtain ⟨k0, k1, _, _⟩ := hY2.two
  rw [hw2] at t0 t1 g0 g1 k0 k1
  gi_wp2_with fail
  rw [← hw2]
  clear hw2 t0 t1 g0 g1 k0 k1
  refine ⟨trivial, callsIn_wide.2 ?_⟩
  refine HSO.out.mono ?_
  rintro x w3 ⟨b, rfl, hso1, hso2, hb3⟩
  have hR3 := blk_below hR2 hb3
  have hL3 := Boxed.below hL2 hb3
  have hBw3 := bcat2 hBw2 hb3
  cases b with
  | false =>
    have l0 := hL3.cell
    have fl0 := hL3.frozen
    have ls := boxed_self hL3
    obtain ⟨y0, y1, fy0, fy1⟩ := hR3.two
    obtain ⟨hR6, hB6⟩ := put2 hR3 hBw3 (by omega) 6 0
    have hL6 : Boxed ((w3.setCell ⟨w.heap.size + 1 + 1 + 1, 0, none⟩ (.int .i64 6)).setCell ⟨w.heap.size + 1 + 1 + 1, 1, none⟩ (.int .i64 0)) (w.heap.size + 1 + 1) 22 (.slice none 0 0) := (Below.heap_setCell _ _ _ _ (by simp)).trans ((Below.heap_setCell _ _ _ _ (by simp)).trans hL3)
    gi_wp2
    refine ⟨_, results_iso rfl _ _ (w.heap.size + 1 + 1) (w.heap.size + 1 + 1 + 1) (.slice none 0 0) (.int .i64 6) (.int .i64 0) rfl rfl hL6 hR6, ?_⟩
    exact ⟨hB6, .inr ⟨rfl, fun h1 h2 => by have h3 := hso1 h1 h2; cases h3⟩⟩
  | true =>
    have HNM := hide (hso2 rfl)
    clear hso1 hso2
    have hH3 := blk_below hH2 hb3
    have hS : ∀ W9, Below w3.heap.size w3 W9 → ((fun W9 => Below w3.heap.size w3 W9 ∧ W9.cell? ⟨w1.heap.size, 0, none⟩ = some (.int .i64 n) ∧ W9.cell? ⟨w1.heap.size, 1, none⟩ = some (.slice va vl vc) ∧ W9.cell? ⟨w1.heap.size, 2, none⟩ = some (.int .i64 e) ∧ W9.cell? ⟨w1.heap.size, 3, none⟩ = some (.slice ia il ic) ∧ W9.cell? ⟨w1.heap.size, 4, none⟩ = some (.int .i64 m) ∧ W9.cell? ⟨w1.heap.size, 5, none⟩ = some (.slice ya yl yc) ∧ W9.cell? ⟨w1.heap.size, 6, none⟩ = some (.int .i64 d) ∧ W9.cell? ⟨w1.heap.size, 7, none⟩ = some (.slice ja jl jc)) W9) := fun W9 h => by
      obtain ⟨_, q0, q1, q2, q3, q4, q5, q6, q7⟩ := Eight.mk' hH3
      exact ⟨h, below_cell h q0, below_cell h q1, below_cell h q2, below_cell h q3, below_cell h q4, below_cell h q5, below_cell h q6, below_cell h q7⟩
    have hS0 := hS _ (bdrew (Below.refl _ w3))
    gi_wp2_with fail
    refine wpIn_wide.2 ?_
    refine wp_region_held_drew (S := (fun W9 => Below w3.heap.size w3 W9 ∧ W9.cell? ⟨w1.heap.size, 0, none⟩ = some (.int .i64 n) ∧ W9.cell? ⟨w1.heap.size, 1, none⟩ = some (.slice va vl vc) ∧ W9.cell? ⟨w1.heap.size, 2, none⟩ = some (.int .i64 e) ∧ W9.cell? ⟨w1.heap.size, 3, none⟩ = some (.slice ia il ic) ∧ W9.cell? ⟨w1.heap.size, 4, none⟩ = some (.int .i64 m) ∧ W9.cell? ⟨w1.heap.size, 5, none⟩ = some (.slice ya yl yc) ∧ W9.cell? ⟨w1.heap.size, 6, none⟩ = some (.int .i64 d) ∧ W9.cell? ⟨w1.heap.size, 7, none⟩ = some (.slice ja jl jc))) (by kernel_rfl) hS0 (fun hHeld => ?_)
    refine wpAnyH_take (i := 0) (oi := ({ dst := some 22, op := Go.Op.load 72 (Go.Operand.tmp 6), type := 72, pos := _, after := #[], guard := none } : Oper)) (v := ?_) rfl (by kernel_rfl) (by kernel_rfl) (by kernel_rfl) (fun _ _ _ h => h) (Or.inl ⟨by rfl, ?_⟩) (by assumption) ?_
    rotate_left
    · (intro w hSw; (try dsimp only at hSw); go_simp; try with_reducible rfl)
    simp only [Act.put, List.setIfInBounds_toArray, List.set_cons_zero, List.set_cons_succ]
    refine wpAnyH_take (i := 1) (oi := ({ dst := some 23, op := Go.Op.fieldAddr 72 (Go.Operand.tmp 6) 0, type := 0, pos := _, after := #[], guard := none } : Oper)) (v := ?_) rfl (by kernel_rfl) (by kernel_rfl) (by kernel_rfl) (fun _ _ _ h => h) (Or.inl ⟨by rfl, ?_⟩) (by assumption) ?_
    rotate_left
    · (intro w hSw; (try dsimp only at hSw); go_simp; try with_reducible rfl)
    simp only [Act.put, List.setIfInBounds_toArray, List.set_cons_zero, List.set_cons_succ]
    refine wpAnyH_take (i := 2) (oi := ({ dst := some 24, op := Go.Op.load 54 (Go.Operand.tmp 23), type := 54, pos := _, after := #[{ on := 1, ground := Go.Ground.data }], guard := none } : Oper)) (v := ?_) rfl (by kernel_rfl) (by kernel_rfl) (by kernel_rfl) (fun _ _ _ h => h) (Or.inl ⟨by rfl, ?_⟩) (by assumption) ?_
    rotate_left
    · (intro w hSw; (try dsimp only at hSw); go_simp; try with_reducible rfl)
    simp only [Act.put, List.setIfInBounds_toArray, List.set_cons_zero, List.set_cons_succ]
    refine wpAnyH_ready (rs := [3]) (by kernel_rfl) (by simp) (AllReadyH.cons (o := ({ dst := some 25, op := Go.Op.call { callee := Go.Callee.value (Go.Operand.func 40), args := #[Go.Operand.tmp 24], argTypes := #[54] }, type := 22, pos := _, after := #[{ on := 2, ground := Go.Ground.data }], guard := none } : Oper)) rfl (fun KK hK => ?_) AllReadyH.nil)
    go_simp
    refine (HFE.out _ (bcat2 hb3 (And.left hHeld))).mono ?_
    rintro e3 w4 ⟨ks, k1, k3, rfl, hK4, hkn, hkl, hgen, hl4⟩
    try go_wp2_with fail
    refine hK.out _ _ (hS _ (bcat2 (And.left hHeld) hl4)) (fun hHeld => ?_)
    clear hK
    try simp only [Act.put, List.setIfInBounds_toArray, List.set_cons_zero, List.set_cons_succ]
    refine wpAnyH_ready (rs := [4]) (by kernel_rfl) (by simp) (AllReadyH.cons (o := ({ dst := some 26, op := Go.Op.call { callee := Go.Callee.value (Go.Operand.func 39), args := #[Go.Operand.tmp 22, Go.Operand.tmp 25], argTypes := #[72, 22] }, type := 77, pos := _, after := #[{ on := 0, ground := Go.Ground.data }, { on := 3, ground := Go.Ground.data }, { on := 3, ground := Go.Ground.chain }], guard := none } : Oper)) rfl (fun KK hK => ?_) AllReadyH.nil)
    go_simp
    refine (HSG.out _ _ _ _).mono ?_
    rintro e4 w5 ⟨kb, pb, fb, pc, ab, rfl, hA5, hpc5, hab5, _, _, _, hl5⟩
    try go_wp2_with fail
    have hB5 := bcat2 (And.left hHeld) hl5
    refine hK.out _ _ (hS _ hB5) (fun hHeld => ?_)
    clear hK
    try simp only [Act.put, List.setIfInBounds_toArray, List.set_cons_zero, List.set_cons_succ]
    refine wpAnyH_done (by kernel_rfl) ?_ _
    clear hHeld
    have hK5 := hK4.below hl5
    have hB25 := bcat2 hb3 hB5
    have hv5 := (hGA.below hB25).mul
    have hy5 := hyw.below hB25
    have hL5 := Boxed.below hL3 hB5
    have hR5 := blk_below hR3 hB5
    have hBw5 := bcat2 hBw3 hB5
    have hs5 : w.heap.size + 1 + 1 + 1 < w5.heap.size := hR5.lt
    have HFI := hide (fun W g ms (h : Below w5.heap.size w5 W) (hb : Blk W g 3 (ms.map (Value.int .i64))) (hl : ms.length = n) => sng1_ok n e m d pc ab (.slice va vl vc) (.slice ia il ic) (.slice ya yl yc) (.slice ja jl jc) (.slice (some ⟨g, 0, none⟩) n n) ms W hn (Sl.of_blk hb hl.symm (by omega)) hl (blk_below hpc5 h) (Boxed.below hab5 h))
    clear hS hS0 hK4 hL3 hR3 hBw3 hL2 hR2 hX2 hY2 hH2 hH3 hF1 HSO HFE HSG hSI hSJ hb1 hb2 hB1 hBw2 hGA hyw hl4 hl5
    gi_wp2_with fail
    refine range_out (gf := 88) (lb := #[.pointer (some ⟨kb, 0, none⟩), .pointer (some ⟨pb, 0, none⟩), .pointer (some ⟨fb, 0, none⟩)]) (hg := ?hg) (eg := enters_of Tryz.func88 (by kernel_rfl) rfl) (h1 := ?hn) (h := ?_)
    case hg => rfl
    case hn => decide
    intro lr D L W1 hD hlr hround hW1
    have hs1 : W1.heap.size = w5.heap.size + 2 := by rw [hW1]; simp
    have hL1 : W1.heap[lr]? = some (.loop (L .ready none)) := by
      rw [hW1, hlr]; have := World.alloc_heap_new (w5.alloc (.deferred (some []))) (.loop (L .ready none)); rw [World.size_alloc] at this; exact this
    have hD1 : W1.heap[D]? = some (.deferred (some [])) := by
      rw [hW1, hD]; exact (Below.heap_alloc _ _ _ (by simp)).trans (World.alloc_heap_new w5 (.deferred (some [])))
    have hg1 : w5.grownBy W1 none := by rw [hW1]; exact (World.grownBy_alloc w5 _ none).trans (World.grownBy_alloc _ _ none)
    have hBW : Below w5.heap.size w5 W1 := (Below.refl _ w5).grown hg1 (Nat.le_refl _) (by simp)
    obtain ⟨rfl, rfl⟩ : D = w5.heap.size ∧ lr = w5.heap.size + 1 := by omega
    clear hW1 hg1 hD hlr
    generalize hfull : homF n zs e m ys d ks (fun ms => sngq n e ms d) (ks.length + 1) [] = full
    refine (allit_ok (l := w5.heap.size + 1) (w0 := w5) (W := W1) (fit := fun ms => sngq n e ms d) (J := IJ w5 (w5.heap.size + 1) w5.heap.size (.loop (L .ready none))) (Jx := IX n zs m ys w (W1.heap.size + 4) (w5.heap.size + 1) w5.heap.size (.loop (L .done (some .ret)))) hg hh hv5 hy5 hK5 hkn hkl hA5 (fun a W => call113 a _ _ W) HFI.out (fun _ _ h => h.bel) ⟨rfl, hBW, hL1, hD1⟩ ?round).mono ?_
    case round =>
      rintro pre c post W0 W2 g hpc hJ0 hAp hg1 hg2 hM hcl
      obtain rfl := hJ0.no
      obtain ⟨φ, A, rfl⟩ := (iso_mem hg hh hkn hgen).1 (show c ∈ homF n zs e m ys d ks (fun ms => sngq n e ms d) (ks.length + 1) [] by rw [← hpc]; simp)
      have hlt0 := (Array.getElem?_eq_some_iff.1 hJ0.l_).1
      have hk0 : ∀ b, b < w5.heap.size + 2 → W2.heap[b]? = W0.heap[b]? := fun b h1 => hAp.block b (by omega) (by omega)
      have hL2 := (hk0 _ (by omega)).trans hJ0.l_
      have hB2 : Below w5.heap.size w5 W2 := hJ0.bel.trans (hAp.below (by omega) hJ0.bel.size)
      have hg4 := hM.lt
      have hD2 := (hk0 w5.heap.size (by omega)).trans hJ0.d_
      obtain ⟨Wb, hWb⟩ : ∃ Wb, Wb = W2.putObj (w5.heap.size + 1) (.loop (L .busy none)) := ⟨_, rfl⟩
      have hLb : Wb.heap[w5.heap.size + 1]? = some (.loop (L .busy none)) := by rw [hWb]; exact World.putObj_heap_same (Array.getElem?_eq_some_iff.1 hL2).1
      have hkb : ∀ b, b ≠ w5.heap.size + 1 → Wb.heap[b]? = W2.heap[b]? := fun b hb => by rw [hWb]; exact World.putObj_heap_other hb
      have hszb : Wb.heap.size = W2.heap.size := by rw [hWb]; simp
      have hDb := (hkb w5.heap.size (by omega)).trans hD2
      have hRb : Boxed Wb (w.heap.size + 1 + 1) 22 (.slice none 0 0) := (hkb (w.heap.size + 1 + 1) (by omega)).trans (Boxed.below hL5 hB2)
      have hFb : Blk Wb (w.heap.size + 1 + 1 + 1) 28 [.int .i64 0, .int .i64 0] := (hkb (w.heap.size + 1 + 1 + 1) (by omega)).trans (blk_below hR5 hB2)
      have hBb : Below w.heap.size w Wb := (bcat2 hBw5 hB2).trans ⟨by rw [hWb]; rfl, by rw [hWb]; rfl, by rw [hWb]; rfl, by omega, fun k hk => hkb k (by omega)⟩
      have hMb : Blk Wb g 3 ((li ((List.range n).map φ)).map (Value.int .i64)) := (hkb g (by omega)).trans hM
      refine hround _ _ W2 _ hL2 rfl ?_
      have HL2 := hide hL2
      clear hL2 hkb hk0
      have HA := hide A
      have hs_1 : w5.heap.size + 2 ≤ W1.heap.size := by omega
      have hsb1 : W2.heap.size ≤ Wb.heap.size := by omega
      clear hs1 hszb A hpc
      gi_wp2
      refine ⟨HL2.out, ?_⟩
      rw [← hWb]
      clear hWb
      have hcR := hRb.cell
      have hfR := hRb.frozen
      obtain ⟨d0, d1, d2, d3⟩ := hFb.two
      gi_wp2
      have hkz : ∀ b, b ≠ w.heap.size + 1 + 1 → b ≠ w.heap.size + 1 + 1 + 1 → (((Wb.setCell ⟨w.heap.size + 1 + 1, 0, none⟩ (.slice (some ⟨g, 0, none⟩) n n)).setCell ⟨w.heap.size + 1 + 1 + 1, 0, none⟩ (.int .i64 0)).setCell ⟨w.heap.size + 1 + 1 + 1, 1, none⟩ (.int .i64 0)).heap[b]? = Wb.heap[b]? := fun b h1 h2 => (Below.heap_setCell _ _ _ _ h2).trans ((Below.heap_setCell _ _ _ _ h2).trans (Below.heap_setCell _ _ _ _ h1))
      have hRz : Boxed (((Wb.setCell ⟨w.heap.size + 1 + 1, 0, none⟩ (.slice (some ⟨g, 0, none⟩) n n)).setCell ⟨w.heap.size + 1 + 1 + 1, 0, none⟩ (.int .i64 0)).setCell ⟨w.heap.size + 1 + 1 + 1, 1, none⟩ (.int .i64 0)) (w.heap.size + 1 + 1) 22 (.slice (some ⟨g, 0, none⟩) n n) := (Below.heap_setCell _ _ _ _ (by simp)).trans ((Below.heap_setCell _ _ _ _ (by simp)).trans (hRb.set _))
      have hFz : Blk (((Wb.setCell ⟨w.heap.size + 1 + 1, 0, none⟩ (.slice (some ⟨g, 0, none⟩) n n)).setCell ⟨w.heap.size + 1 + 1 + 1, 0, none⟩ (.int .i64 0)).setCell ⟨w.heap.size + 1 + 1 + 1, 1, none⟩ (.int .i64 0)) (w.heap.size + 1 + 1 + 1) 28 [.int .i64 0, .int .i64 0] := (((hFb.other (p := ⟨w.heap.size + 1 + 1, 0, none⟩) (by simp) (.slice (some ⟨g, 0, none⟩) n n)).set 0 (.int .i64 0)).set 1 (.int .i64 0))
      have hszz : (((Wb.setCell ⟨w.heap.size + 1 + 1, 0, none⟩ (.slice (some ⟨g, 0, none⟩) n n)).setCell ⟨w.heap.size + 1 + 1 + 1, 0, none⟩ (.int .i64 0)).setCell ⟨w.heap.size + 1 + 1 + 1, 1, none⟩ (.int .i64 0)).heap.size = Wb.heap.size := by simp
      have hBz : Below w.heap.size w (((Wb.setCell ⟨w.heap.size + 1 + 1, 0, none⟩ (.slice (some ⟨g, 0, none⟩) n n)).setCell ⟨w.heap.size + 1 + 1 + 1, 0, none⟩ (.int .i64 0)).setCell ⟨w.heap.size + 1 + 1 + 1, 1, none⟩ (.int .i64 0)) := ((hBb.setCell (p := ⟨w.heap.size + 1 + 1, 0, none⟩) (by simp; omega) _).setCell (p := ⟨w.heap.size + 1 + 1 + 1, 0, none⟩) (by simp; omega) _).setCell (p := ⟨w.heap.size + 1 + 1 + 1, 1, none⟩) (by simp; omega) _
      generalize (((Wb.setCell ⟨w.heap.size + 1 + 1, 0, none⟩ (.slice (some ⟨g, 0, none⟩) n n)).setCell ⟨w.heap.size + 1 + 1 + 1, 0, none⟩ (.int .i64 0)).setCell ⟨w.heap.size + 1 + 1 + 1, 1, none⟩ (.int .i64 0)) = Wz at *
      have hLz := (hkz (w5.heap.size + 1) (by omega) (by omega)).trans hLb
      have hput : ∀ b, b ≠ w5.heap.size + 1 → (Wz.putObj (w5.heap.size + 1) (.loop (L .done (some .ret)))).heap[b]? = Wz.heap[b]? := fun b hb => World.putObj_heap_other hb
      refine ⟨hLz, fun h => by simp at h, .inr ⟨rfl, ⟨⟨φ, g, HA.out, by omega, (hput _ (by omega)).trans hRz, (hput _ (by omega)).trans ((hkz _ (by omega) (by omega)).trans hMb)⟩, ?_, World.putObj_heap_same (Array.getElem?_eq_some_iff.1 hLz).1, (hput _ (by omega)).trans ((hkz _ (by omega) (by omega)).trans hDb), (hput _ (by omega)).trans hFz⟩⟩⟩
      exact hBz.trans ⟨rfl, rfl, rfl, by simp, fun k hk => hput k (by omega)⟩
    · rw [hfull]
      rintro x W2 ⟨hv9, W0, hJ0 | hX0, hAp⟩
      · have hno := (iso_none hg hh hkn hgen).1 (by rw [hfull]; exact hJ0.no)
        have hlt0 := (Array.getElem?_eq_some_iff.1 hJ0.l_).1
        have hk0 : ∀ b, b < w5.heap.size + 2 → W2.heap[b]? = W0.heap[b]? := fun b h1 => hAp.block b (by omega) (by omega)
        have hL2 := (hk0 _ (by omega)).trans hJ0.l_
        have hB2 : Below w5.heap.size w5 W2 := hJ0.bel.trans (hAp.below (by omega) hJ0.bel.size)
        have hD2 := (hk0 w5.heap.size (by omega)).trans hJ0.d_
        obtain ⟨Wb, hWb⟩ : ∃ Wb, Wb = W2.putObj (w5.heap.size + 1) (.loop (L .exhausted none)) := ⟨_, rfl⟩
        have hkb : ∀ b, b ≠ w5.heap.size + 1 → Wb.heap[b]? = W2.heap[b]? := fun b hb => by rw [hWb]; exact World.putObj_heap_other hb
        have hszb : Wb.heap.size = W2.heap.size := by rw [hWb]; simp
        have hDb := (hkb w5.heap.size (by omega)).trans hD2
        have hRb : Boxed Wb (w.heap.size + 1 + 1) 22 (.slice none 0 0) := (hkb (w.heap.size + 1 + 1) (by omega)).trans (Boxed.below hL5 hB2)
        have hFb : Blk Wb (w.heap.size + 1 + 1 + 1) 28 [.int .i64 0, .int .i64 0] := (hkb (w.heap.size + 1 + 1 + 1) (by omega)).trans (blk_below hR5 hB2)
        have hBb : Below w.heap.size w Wb := (bcat2 hBw5 hB2).trans ⟨by rw [hWb]; rfl, by rw [hWb]; rfl, by rw [hWb]; rfl, by omega, fun k hk => hkb k (by omega)⟩
        refine ⟨hv9, .ready, none, by simp, hL2, ?_⟩
        rw [← hWb]
        have hcR := hRb.cell
        have hfR := hRb.frozen
        obtain ⟨d0, d1, d2, d3⟩ := hFb.two
        have HNO := hide hno
        clear hWb hkb hszb hk0 hL2 hs1 hno
        unfold after
        gi_wp2
        have hkz : ∀ b, b ≠ w.heap.size + 1 + 1 → b ≠ w.heap.size + 1 + 1 + 1 → (((Wb.setCell ⟨w.heap.size + 1 + 1, 0, none⟩ (.slice none 0 0)).setCell ⟨w.heap.size + 1 + 1 + 1, 0, none⟩ (.int .i64 6)).setCell ⟨w.heap.size + 1 + 1 + 1, 1, none⟩ (.int .i64 0)).heap[b]? = Wb.heap[b]? := fun b h1 h2 => (Below.heap_setCell _ _ _ _ h2).trans ((Below.heap_setCell _ _ _ _ h2).trans (Below.heap_setCell _ _ _ _ h1))
        have hRz : Boxed (((Wb.setCell ⟨w.heap.size + 1 + 1, 0, none⟩ (.slice none 0 0)).setCell ⟨w.heap.size + 1 + 1 + 1, 0, none⟩ (.int .i64 6)).setCell ⟨w.heap.size + 1 + 1 + 1, 1, none⟩ (.int .i64 0)) (w.heap.size + 1 + 1) 22 (.slice none 0 0) := (Below.heap_setCell _ _ _ _ (by simp)).trans ((Below.heap_setCell _ _ _ _ (by simp)).trans (hRb.set _))
        have hFz : Blk (((Wb.setCell ⟨w.heap.size + 1 + 1, 0, none⟩ (.slice none 0 0)).setCell ⟨w.heap.size + 1 + 1 + 1, 0, none⟩ (.int .i64 6)).setCell ⟨w.heap.size + 1 + 1 + 1, 1, none⟩ (.int .i64 0)) (w.heap.size + 1 + 1 + 1) 28 [.int .i64 6, .int .i64 0] := (((hFb.other (p := ⟨w.heap.size + 1 + 1, 0, none⟩) (by simp) (.slice none 0 0)).set 0 (.int .i64 6)).set 1 (.int .i64 0))
        have hszz : (((Wb.setCell ⟨w.heap.size + 1 + 1, 0, none⟩ (.slice none 0 0)).setCell ⟨w.heap.size + 1 + 1 + 1, 0, none⟩ (.int .i64 6)).setCell ⟨w.heap.size + 1 + 1 + 1, 1, none⟩ (.int .i64 0)).heap.size = Wb.heap.size := by simp
        have hBz : Below w.heap.size w (((Wb.setCell ⟨w.heap.size + 1 + 1, 0, none⟩ (.slice none 0 0)).setCell ⟨w.heap.size + 1 + 1 + 1, 0, none⟩ (.int .i64 6)).setCell ⟨w.heap.size + 1 + 1 + 1, 1, none⟩ (.int .i64 0)) := ((hBb.setCell (p := ⟨w.heap.size + 1 + 1, 0, none⟩) (by simp; omega) _).setCell (p := ⟨w.heap.size + 1 + 1 + 1, 0, none⟩) (by simp; omega) _).setCell (p := ⟨w.heap.size + 1 + 1 + 1, 1, none⟩) (by simp; omega) _
        generalize (((Wb.setCell ⟨w.heap.size + 1 + 1, 0, none⟩ (.slice none 0 0)).setCell ⟨w.heap.size + 1 + 1 + 1, 0, none⟩ (.int .i64 6)).setCell ⟨w.heap.size + 1 + 1 + 1, 1, none⟩ (.int .i64 0)) = Wz at *
        have hDz := (hkz w5.heap.size (by omega) (by omega)).trans hDb
        refine ⟨by simp, .inl ⟨_, _, rfl, run_takeDeferred hDz, ?_⟩⟩
        have hput : ∀ (o : Obj) b, b ≠ w5.heap.size → (Wz.putObj w5.heap.size o).heap[b]? = Wz.heap[b]? := fun o b hb => World.putObj_heap_other hb
        refine ⟨_, results_iso rfl _ _ (w.heap.size + 1 + 1) (w.heap.size + 1 + 1 + 1) (.slice none 0 0) (.int .i64 6) (.int .i64 0) rfl rfl ((hput _ _ (by omega)).trans hRz) ((hput _ _ (by omega)).trans hFz), ?_⟩
        exact ⟨hBz.trans ⟨rfl, rfl, rfl, by simp, fun k hk => hput _ k (by omega)⟩, .inr ⟨rfl, fun _ => HNO.out⟩⟩
      · obtain ⟨φ, g, A, hgB, hRx, hMx⟩ := hX0.ex
        have hlt0 := (Array.getElem?_eq_some_iff.1 hX0.l_).1
        have hk0 : ∀ b, b < w5.heap.size + 2 → W2.heap[b]? = W0.heap[b]? := fun b h1 => hAp.block b (by omega) (by omega)
        have hL2 := (hk0 _ (by omega)).trans hX0.l_
        have hws := hBw5.size
        have hB2 : Below w.heap.size w W2 := hX0.bel.trans (hAp.below (by omega) hX0.bel.size)
        have hD2 := (hk0 w5.heap.size (by omega)).trans hX0.d_
        have hR2 : Boxed W2 (w.heap.size + 1 + 1) 22 (.slice (some ⟨g, 0, none⟩) n n) := (hk0 (w.heap.size + 1 + 1) (by omega)).trans hRx
        have hF2 : Blk W2 (w.heap.size + 1 + 1 + 1) 28 [.int .i64 0, .int .i64 0] := (hk0 (w.heap.size + 1 + 1 + 1) (by omega)).trans hX0.f_
        have hM2 : Blk W2 g 3 ((li ((List.range n).map φ)).map (Value.int .i64)) := (hAp.block g hMx.lt (by omega)).trans hMx
        obtain ⟨Wb, hWb⟩ : ∃ Wb, Wb = W2.putObj (w5.heap.size + 1) (.loop (L .exhausted (some .ret))) := ⟨_, rfl⟩
        have hkb : ∀ b, b ≠ w5.heap.size + 1 → Wb.heap[b]? = W2.heap[b]? := fun b hb => by rw [hWb]; exact World.putObj_heap_other hb
        have hszb : Wb.heap.size = W2.heap.size := by rw [hWb]; simp
        have hDb := (hkb w5.heap.size (by omega)).trans hD2
        have hRb : Boxed Wb (w.heap.size + 1 + 1) 22 (.slice (some ⟨g, 0, none⟩) n n) := (hkb (w.heap.size + 1 + 1) (by omega)).trans hR2
        have hFb : Blk Wb (w.heap.size + 1 + 1 + 1) 28 [.int .i64 0, .int .i64 0] := (hkb (w.heap.size + 1 + 1 + 1) (by omega)).trans hF2
        have hMb : Blk Wb g 3 ((li ((List.range n).map φ)).map (Value.int .i64)) := (hkb g (by omega)).trans hM2
        have hBb : Below w.heap.size w Wb := hB2.trans ⟨by rw [hWb]; rfl, by rw [hWb]; rfl, by rw [hWb]; rfl, by omega, fun k hk => hkb k (by omega)⟩
        refine ⟨hv9, .done, some .ret, by simp, hL2, ?_⟩
        rw [← hWb]
        have HA := hide A
        have hgw : w5.heap.size < g := by omega
        clear hWb hkb hszb hk0 hL2 hs1 A
        unfold after
        gi_wp2
        refine ⟨by simp, .inl ⟨_, _, rfl, run_takeDeferred hDb, ?_⟩⟩
        have hput : ∀ (o : Obj) b, b ≠ w5.heap.size → (Wb.putObj w5.heap.size o).heap[b]? = Wb.heap[b]? := fun o b hb => World.putObj_heap_other hb
        refine ⟨_, results_iso rfl _ _ (w.heap.size + 1 + 1) (w.heap.size + 1 + 1 + 1) (.slice (some ⟨g, 0, none⟩) n n) (.int .i64 0) (.int .i64 0) rfl rfl ((hput _ _ (by omega)).trans hRb) ((hput _ _ (by omega)).trans hFb), ?_⟩
        exact ⟨hBb.trans ⟨rfl, rfl, rfl, by simp, fun k hk => hput _ k (by omega)⟩, .inl ⟨φ, g, HNM.out, HA.out, rfl, by omega, (hput _ _ (by omega)).trans hMb⟩⟩
end Go.Proofs.YtgdpgbldjpeopaaGreatDoor

namespace Go.Proofs.YtgdpgbldjpeopaaGreatDoor
open Go Go.RowKit

theorem psp_law (N M : Int) (v y lv : Value) (zs ys : List Int) (ls : List (List Int)) (w : World) (hv : Sl w v zs) (hy : Sl w y ys) (hL : SlL w lv ls) (hT : Tab w) :
    Calls Tryz.prog 3 #[.agg #[.int .i64 N, v], .agg #[.int .i64 M, y], lv] w fun x w' => x = .returned (.bool true) ∧ Below w.heap.size w w' := by
  obtain ⟨v1, v2, v3, rfl⟩ := hv.isSlice
  obtain ⟨y1, y2, y3, rfl⟩ := hy.isSlice
  obtain ⟨l1, l2, l3, rfl⟩ := hL.isSlice
  obtain rfl : l2 = ls.length := by
    obtain ⟨a, cap, pb, po, he, _⟩ := id hL
    injection he with _ h _
  have HBE : ∀ W, Below w.heap.size w W → Calls Tryz.prog 4 #[] W fun x W' => x = .returned (.bool true) ∧ Below W.heap.size W W' := fun W hW => prodBegun_any W (hT.below hW)
  by_cases h100 : 100 < ls.length
  · exact psp_short N M v1 v2 v3 y1 y2 y3 l1 ls.length l3 w h100 (hide HBE)
  by_cases hc : ¬ (semc N zs M ys ls).1 = 0
  · refine psp_bad N M (semc N zs M ys ls).1 (semc N zs M ys ls).2 v1 v2 v3 y1 y2 y3 l1 ls.length l3 w hc (by omega) (hide HBE) (hide fun W hW => ?_)
    refine (semi_any N M _ _ _ zs ys ls W (hv.below hW) (hy.below hW) (hL.below hW) (hT.below hW)).mono ?_
    rintro x W' ⟨g, rfl, h1, _, hb'⟩
    rw [h1 hc]
    exact ⟨rfl, hb'⟩
  obtain ⟨n, e, m, d, rfl, rfl, g1, g2, hlm, h60, hact, hrow, hs0⟩ := semc_zero (Classical.not_not.1 hc)
  have G := semi_grp g1 g2 hact h60
  have hn := g1.tab.le
  have hm := g2.tab.le
  have hm1 := g2.tab.pos
  have s1 := semA_sub g1 g2 hact
  have s2 := semB_sub g1 g2 hact
  have hN : nrmq (n * m) (semT n zs m ys (actf ls)) (e * m + d) (sA m d) = true := (nrmq_nm G).2 fun x a hx ha h => semA_nm g1 g2 hact h60 x a (List.mem_range.2 hx) (List.mem_range.2 ha) h
  have Q := quo_grp G s1 hN
  have O := quo_onto G s1 hN
  have hpsi : IsOnto (n * m) (semT n zs m ys (actf ls)) m ys (fun x => x % m) := ⟨psi_hom g1 g2 hact, fun y hy => ⟨e * m + y, by
    have h1 : (e + 1) * m ≤ n * m := Nat.mul_le_mul_right _ g1.elt
    rw [Nat.add_mul, Nat.one_mul] at h1
    omega, (dm' hy).2⟩⟩
  obtain ⟨hk, f, hf⟩ := iso_glue G Q g2 O hpsi (fun a ha => by
    rw [quo_ker G s1 ha]
    unfold sA
    rw [decide_eq_true_eq])
  obtain ⟨lb, lo, lc, ea, el, ec, he, hlb, hcell⟩ := lists_at hL (by omega)
  injection he with he1 _ he3
  subst he1 he3
  have hw0 : 0 < w.heap.size := hT.lt
  have h0 : ∀ W, Below w.heap.size w W → 0 < W.heap.size := fun W h => Nat.lt_of_lt_of_le hw0 h.size
  have fA := lst_fault (n * m) (sA m d)
  have fB := lst_fault (n * m) (sB m e)
  have tA : subT (n * m) (semT n zs m ys (actf ls)) (e * m + d) (pset (li (lst (n * m) (sA m d)))) = true := by rw [subT_congr G (q := sA m d) (fun a ha => pset_lst ha)]; exact s1
  have tB : subT (n * m) (semT n zs m ys (actf ls)) (e * m + d) (pset (li (lst (n * m) (sB m e)))) = true := by rw [subT_congr G (q := sB m e) (fun a ha => pset_lst ha)]; exact s2
  have nA : nrmq (n * m) (semT n zs m ys (actf ls)) (e * m + d) (pset (li (lst (n * m) (sA m d)))) = true := by rw [nrmq_pset]; exact hN
  refine psp_good n m e d (n * m) (fsts (n * m) (rgtq (n * m) (semT n zs m ys (actf ls)) (lst (n * m) (sA m d))) (n * m)).length v1 v2 v3 y1 y2 y3 lb lo ls.length l3 ea el ec (fun t => decide (ls[t]?.getD [] = li (List.range n))) ((List.range ls.length).all fun t => decide (ls[t]?.getD [] = li (List.range n))) w (by rw [Int.natCast_mul]) h60 (by omega) rfl
    (fun W u => Sl W u (semT n zs m ys (actf ls))) (fun W u => Sl W u (li (lst (n * m) (sA m d)))) (fun W u => Sl W u (li (lst (n * m) (sB m e)))) (fun W u => Sl W u (mkT (fsts (n * m) (rgtq (n * m) (semT n zs m ys (actf ls)) (lst (n * m) (sA m d))) (n * m)).length (quoF (n * m) (semT n zs m ys (actf ls)) (rgtq (n * m) (semT n zs m ys (actf ls)) (lst (n * m) (sA m d)))))) (fun W u => Sl W u (li (List.range n)))
    (hide fun _ _ _ h hb => h.below hb) (hide fun _ _ _ h hb => h.below hb) (hide fun _ _ _ h hb => h.below hb) (hide fun _ _ _ h hb => h.below hb)
    (hide HBE) (hide fun W hW => ?_) (hide fun W u hW hu => ?_) (hide fun W hW => ?_) (hide fun W hW => ?_)
    (hide fun W u hb db hW hB hD => those_sl2 (h0 W hW) (rthose_ok (n * m) 9 u _ (sA m d) W h60 (fun a W => cal9 a _ _ W) (fun W2 a h2 ha => pc1_ok hb db m d a (.slice y1 y2 y3) W2 hm1 hm (blk_below hB h2) (Boxed.below hD h2))))
    (hide fun W u hb eb hW hB hE => those_sl2 (h0 W hW) (rthose_ok (n * m) 10 u _ (sB m e) W h60 (fun a W => cal10 a _ _ W) (fun W2 a h2 ha => pc2_ok hb eb m e a (.slice y1 y2 y3) W2 hm1 hm (blk_below hB h2) (Boxed.below hE h2) (by omega))))
    (hide fun W u a hW hu ha => ?_) (hide fun W u b hW hu hb => ?_) (hide fun W u a b hW hu ha hb => ?_) (hide fun W u a hW hu ha => ?_)
    (hide fun W hW i hi => below_cell hW (hcell i hi).1) (hide fun W hW => ?_) (hide fun W i s hi hW hs => ints_any _ s _ _ W ((hcell i hi).2.below hW) hs) (hide fun W u hW hu => ?_)
  · refine (semi_any n m _ _ _ zs ys ls W (hv.below hW) (hy.below hW) (hL.below hW) (hT.below hW)).mono ?_
    rintro x W' ⟨gv, rfl, _, h2, hb'⟩
    obtain ⟨r1, r2, r3, rfl, hr⟩ := h2 (by rw [hs0])
    rw [hs0]
    refine ⟨r1, r2, r3, by rw [Int.natCast_mul], ?_, hb'⟩
    have := row_sl hr (Nat.lt_of_lt_of_le (h0 W hW) hb'.size)
    simpa only [Int.toNat_natCast] using this
  · have := groupFault_any (n * m : Nat) u _ W hu
    rw [grp_fault G] at this
    exact this
  · have := E_ok n (.slice v1 v2 v3) zs W g1.tab (hv.below hW)
    rw [g1.one] at this
    exact this
  · have := E_ok m (.slice y1 y2 y3) ys W g2.tab (hy.below hW)
    rw [g2.one] at this
    exact this
  · have := nrm_good (n * m) (e * m + d) u a _ _ W hu G ha (hT.below hW) fA tA
    rw [nA] at this
    exact this
  · have := is_good (n * m) (e * m + d) u b _ _ W hu G hb (hT.below hW) fB
    rw [tB] at this
    exact this
  · have z1 : ufault (n * m : Nat) (semT n zs m ys (actf ls)) (li (lst (n * m) (sA m d))) = (0, 0) := by rw [ufault_u G fA, tA]; rfl
    have z2 : ufault (n * m : Nat) (semT n zs m ys (actf ls)) (li (lst (n * m) (sB m e))) = (0, 0) := by rw [ufault_u G fB, tB]; rfl
    have hz : dfault (n * m : Nat) (semT n zs m ys (actf ls)) (li (lst (n * m) (sA m d))) (li (lst (n * m) (sB m e))) = (0, 0) := by unfold dfault; rw [z1, if_neg (by simp), z2]
    have := dir_at (n * m : Nat) (semT n zs m ys (actf ls)) (li (lst (n * m) (sA m d))) (li (lst (n * m) (sB m e))) ((List.range ls.length).all fun t => decide (ls[t]?.getD [] = li (List.range n))) (fun h => absurd (by rw [hz]) h) (fun _ => ⟨n * m, e * m + d, rfl, G, by
      rw [hlm, still_iff hrow, ← semi_tog g1 g2 hact]
      exact ⟨fun T => tog_congr T (fun a ha => pset_lst ha) (fun a ha => pset_lst ha), fun T => tog_congr T (fun a ha => (pset_lst ha).symm) (fun a ha => (pset_lst ha).symm)⟩⟩) u a b W hu ha hb (hT.below hW)
    rw [hz] at this
    exact this
  · have := quo_good (n * m) (e * m + d) u a _ _ W hu G ha (hT.below hW) fA tA nA
    rw [lst_pset] at this
    refine this.mono ?_
    rintro x W' ⟨r1, r2, r3, t1, t2, t3, rfl, hr, _, hb⟩
    exact ⟨r1, r2, r3, t1, t2, t3, rfl, hr, hb⟩
  · refine (stays_ok n W hn).mono ?_
    rintro x W' ⟨r, rfl, hr, hb⟩
    have hs := row_sl hr (Nat.lt_of_lt_of_le (h0 W hW) hb.size)
    obtain ⟨t1, t2, t3, rfl⟩ := hs.isSlice
    exact ⟨t1, t2, t3, rfl, hs, hb⟩
  · refine (hiso_any _ _ m d u (.slice y1 y2 y3) _ ys W hu Q (hy.below hW) g2 (hT.below hW)).mono ?_
    rintro x W' ⟨hb, ⟨_, t, _, _, rfl, _, _⟩ | ⟨_, hno⟩⟩
    · exact ⟨some ⟨t, 0, none⟩, _, _, rfl, hb⟩
    · exact absurd ⟨f, hf⟩ (hno hk)
end Go.Proofs.YtgdpgbldjpeopaaGreatDoor
