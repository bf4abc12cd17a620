/- The law's together: its walk, what it calls as premises. What the document's Span, Stays, Commutator, Lists and SameGroup, and listsAs of the laws, answer. The law ProdDirect at everything. Condition: the library's table of places lies as its text lays it. The law ProdPairs at every two tables. Condition: the library's table of places lies as its text lays it. -/
import Derived.Test.YtanbpjfdfnmjpaaDoorZ9
import Derived.Test.YtanbpjfdfnmjpaaDoorZ3
import Derived.Test.YtanbpjfdfnmjpaaDoorZ8
import Derived.Test.YtanbpjfdfnmjpaaDoorZ11
namespace Go.Proofs.YtanbpjfdfnmjpaaDoor
open Go Go.RowKit

set_option maxRecDepth 100000 in
set_option maxHeartbeats 8000000 in
theorem tog_walk (n : Nat) (v1 : Option Addr) (v2 v3 : Nat) (lb lo lc mb mo mc : Nat) (zs xs ys : List Int) (X Y K L : Nat) (f g : Nat → Nat) (T : Bool) (w : World) (hX : X ≤ 60) (hY : Y ≤ 60) (hY0 : 0 < Y)
    (HXL : Hid (xs.length = X)) (HYL : Hid (ys.length = Y)) (HF : Hid (∀ a, a < X → f a < n)) (HG : Hid (∀ b, b < Y → g b < n))
    (HLC : Hid (∀ W, Below w.heap.size w W → ∀ a, a < X → W.cell? ⟨lb, lo + a, none⟩ = some (.int .i64 ((f a : Nat) : Int))))
    (HMC : Hid (∀ W, Below w.heap.size w W → ∀ b, b < Y → W.cell? ⟨mb, mo + b, none⟩ = some (.int .i64 ((g b : Nat) : Int))))
    (HNW : Hid (∀ W, Below w.heap.size w W → ∀ j u, (ys.map (Value.int .i64))[j]? = some u → W.cell? ((⟨mb, mo, none⟩ : Addr).add j) = some u))
    (HBO : Hid (∀ W, Below w.heap.size w W → Calls Tryd.prog 43 #[.slice (some ⟨lb, lo, none⟩) X lc, .slice (some ⟨mb, mo, none⟩) Y mc] W fun x W' => ∃ a c, x = .returned (.slice a K c) ∧ Below W.heap.size W W'))
    (HOW : Hid (∀ W, Below w.heap.size w W → Calls Tryd.prog 20 #[.slice (some ⟨lb, lo, none⟩) X lc] W fun x W' => ∃ r, x = .returned r ∧ W'.ownsRow W.heap.size 3 1 r X (xs.map (Value.int .i64)) ∧ Below W.heap.size W W'))
    (HSP : Hid (∀ W u, Below w.heap.size w W → Sl W u (xs ++ ys) → Calls Tryd.prog 44 #[.agg #[.int .i64 n, .slice v1 v2 v3], u] W fun x W' => ∃ a c, x = .returned (.slice a L c) ∧ Below W.heap.size W W'))
    (HM : Hid (∀ W a b, Below w.heap.size w W → a < n → b < n → Calls Tryd.prog 15 #[.agg #[.int .i64 n, .slice v1 v2 v3], .int .i64 ((a : Nat) : Int), .int .i64 ((b : Nat) : Int)] W fun x W' => x = .returned (.int .i64 (tm n zs a b)) ∧ Below W.heap.size W W'))
    (HT : Hid (T = true ↔ K = 1 ∧ L = n ∧ ∀ a b, a < X → b < Y → tm n zs (f a) (g b) = tm n zs (g b) (f a))) :
    Calls Tryd.prog 24 #[.agg #[.int .i64 n, .slice v1 v2 v3], .slice (some ⟨lb, lo, none⟩) X lc, .slice (some ⟨mb, mo, none⟩) Y mc] w fun x w' => x = .returned (.bool T) ∧ Below w.heap.size w w' := by
  obtain ⟨i0, hi, hz0, hz1, hz2⟩ := info_parts info3b
  obtain ⟨w0, hw0⟩ : ∃ w0, w0 = w.alloc (.cells #[.int .i64 n, .slice v1 v2 v3] 24) := ⟨_, rfl⟩
  have hB0 : Below w.heap.size w w0 := by rw [hw0]; exact balloc w _
  have hw0p : 0 < w0.heap.size := by rw [hw0]; simp
  have hX0 : BoxG w0 w.heap.size n (.slice v1 v2 v3) := by rw [hw0]; exact blk0 _ _
  obtain ⟨g0, g1, _, _⟩ := hX0.two
  have hS : ∀ W, Below w0.heap.size w0 W → (Below w0.heap.size w0 W ∧ W.cell? ⟨w.heap.size, 0, none⟩ = some (.int .i64 n) ∧ W.cell? ⟨w.heap.size, 1, none⟩ = some (.slice v1 v2 v3)) := fun W h => ⟨h, below_cell h g0, below_cell h g1⟩
  have hBc : Below w0.heap.size w0 w0.drew := bdrew (Below.refl _ _)
  have hS0 := hS _ hBc
  by_cases hK : K = 1
  · subst hK
    by_cases hL : L = n
    · have hLb : (((L : Nat) : Int) != ((n : Nat) : Int)) = false := by simp [hL]
      have HLN := hide hL
      clear hL
      go_enter Tryd.func24, Tryd.ntmps24
      go_wp2_with fail
      rw [← hw0]
      clear hw0
      refine wp_region_held_drew (S := fun W => Below w0.heap.size w0 W ∧ W.cell? ⟨w.heap.size, 0, none⟩ = some (.int .i64 n) ∧ W.cell? ⟨w.heap.size, 1, none⟩ = some (.slice v1 v2 v3)) (by kernel_rfl) hS0 (fun hHeld => ?_)
      refine wpAnyH_take (i := 0) (oi := ({ dst := some 9, op := Go.Op.move (Go.Operand.tmp 1), type := 22, pos := _, after := #[], guard := none } : Oper)) (v := ?_) rfl (by kernel_rfl) (by kernel_rfl) (by kernel_rfl) (fun _ _ _ h => h) (Or.inl ⟨by rfl, ?_⟩) (by assumption) ?_
      rotate_left
      · (intro w hSw; (try dsimp only at hSw); go_simp; try with_reducible rfl)
      simp only [Act.put, List.setIfInBounds_toArray, List.set_cons_zero, List.set_cons_succ]
      refine wpAnyH_take (i := 1) (oi := ({ dst := some 10, op := Go.Op.move (Go.Operand.tmp 2), type := 22, pos := _, after := #[], guard := none } : Oper)) (v := ?_) rfl (by kernel_rfl) (by kernel_rfl) (by kernel_rfl) (fun _ _ _ h => h) (Or.inl ⟨by rfl, ?_⟩) (by assumption) ?_
      rotate_left
      · (intro w hSw; (try dsimp only at hSw); go_simp; try with_reducible rfl)
      simp only [Act.put, List.setIfInBounds_toArray, List.set_cons_zero, List.set_cons_succ]
      refine wpAnyH_ready (rs := [2]) (by kernel_rfl) (by simp) (AllReadyH.cons (o := ({ dst := some 11, op := Go.Op.call { callee := Go.Callee.value (Go.Operand.func 43), args := #[Go.Operand.tmp 9, Go.Operand.tmp 10], argTypes := #[22, 22] }, type := 22, pos := _, after := #[{ on := 0, ground := Go.Ground.data }, { on := 1, ground := Go.Ground.data }], guard := none } : Oper)) rfl (fun KK hK => ?_) AllReadyH.nil)
      go_simp
      refine (HBO.out _ (bcat2 hB0 hBc)).mono ?_
      rintro x1 U1 ⟨ra, rc, rfl, hl1⟩
      have hBc := bcat2 hBc hl1
      try go_wp2_with fail
      refine hK.out _ _ (hS _ hBc) (fun hHeld => ?_)
      clear hK
      try simp only [Act.put, List.setIfInBounds_toArray, List.set_cons_zero, List.set_cons_succ]
      refine wpAnyH_take (i := 3) (oi := ({ dst := some 12, op := Go.Op.call { callee := Go.Callee.builtin Go.Builtin.len, args := #[Go.Operand.tmp 11], argTypes := #[22] }, type := 3, pos := _, after := #[{ on := 2, ground := Go.Ground.data }], guard := none } : Oper)) (v := ?_) rfl (by kernel_rfl) (by kernel_rfl) (by kernel_rfl) (fun _ _ _ h => h) (Or.inl ⟨by rfl, ?_⟩) (by assumption) ?_
      rotate_left
      · (intro w hSw; (try dsimp only at hSw); go_simp; try with_reducible rfl)
      simp only [Act.put, List.setIfInBounds_toArray, List.set_cons_zero, List.set_cons_succ]
      refine wpAnyH_take (i := 4) (oi := ({ dst := some 13, op := Go.Op.binOp Go.BinOp.neq 3 (Go.Operand.tmp 12) (Go.Operand.const (Go.Value.int Go.IntKind.i64 1)) 3, type := 4, pos := _, after := #[{ on := 3, ground := Go.Ground.data }], guard := none } : Oper)) (v := .bool false) rfl (by kernel_rfl) (by kernel_rfl) (by kernel_rfl) (fun _ _ _ h => h) (Or.inl ⟨by rfl, ?_⟩) (by assumption) ?_
      · (intro w hSw; (try dsimp only at hSw); go_simp; try (first | with_reducible rfl | (simp; done) | omega | (simp; omega)))
      simp only [Act.put, List.setIfInBounds_toArray, List.set_cons_zero, List.set_cons_succ]
      refine wpAnyH_take (i := 5) (oi := ({ dst := some 14, op := Go.Op.move (Go.Operand.tmp 13), type := 4, pos := _, after := #[{ on := 4, ground := Go.Ground.data }, { on := 2, ground := Go.Ground.chain }], guard := none } : Oper)) (v := .bool false) rfl (by kernel_rfl) (by kernel_rfl) (by kernel_rfl) (fun _ _ _ h => h) (Or.inl ⟨by rfl, ?_⟩) (by assumption) ?_
      · (intro w hSw; (try dsimp only at hSw); go_simp; try (first | with_reducible rfl | (simp; done) | omega | (simp; omega)))
      simp only [Act.put, List.setIfInBounds_toArray, List.set_cons_zero, List.set_cons_succ]
      refine wpAnyH_take (i := 6) (oi := ({ dst := some 15, op := Go.Op.load 24 (Go.Operand.tmp 3), type := 24, pos := _, after := #[{ on := 5, ground := Go.Ground.guard }], guard := some (5, false) } : Oper)) (v := ?_) rfl (by kernel_rfl) (by kernel_rfl) (by kernel_rfl) (fun _ _ _ h => h) (Or.inl ⟨by rfl, ?_⟩) (by assumption) ?_
      rotate_left
      · (intro w hSw; (try dsimp only at hSw); go_simp; try with_reducible rfl)
      simp only [Act.put, List.setIfInBounds_toArray, List.set_cons_zero, List.set_cons_succ]
      refine wpAnyH_take (i := 7) (oi := ({ dst := some 16, op := Go.Op.move (Go.Operand.tmp 1), type := 22, pos := _, after := #[{ on := 5, ground := Go.Ground.guard }], guard := some (5, false) } : Oper)) (v := ?_) rfl (by kernel_rfl) (by kernel_rfl) (by kernel_rfl) (fun _ _ _ h => h) (Or.inl ⟨by rfl, ?_⟩) (by assumption) ?_
      rotate_left
      · (intro w hSw; (try dsimp only at hSw); go_simp; try with_reducible rfl)
      simp only [Act.put, List.setIfInBounds_toArray, List.set_cons_zero, List.set_cons_succ]
      refine wpAnyH_take (i := 9) (oi := ({ dst := some 18, op := Go.Op.move (Go.Operand.tmp 2), type := 22, pos := _, after := #[{ on := 5, ground := Go.Ground.guard }], guard := some (5, false) } : Oper)) (v := ?_) rfl (by kernel_rfl) (by kernel_rfl) (by kernel_rfl) (fun _ _ _ h => h) (Or.inl ⟨by rfl, ?_⟩) (by assumption) ?_
      rotate_left
      · (intro w hSw; (try dsimp only at hSw); go_simp; try with_reducible rfl)
      simp only [Act.put, List.setIfInBounds_toArray, List.set_cons_zero, List.set_cons_succ]
      refine wpAnyH_take (i := 13) (oi := ({ dst := some 22, op := Go.Op.fieldAddr 24 (Go.Operand.tmp 3) 0, type := 0, pos := _, after := #[{ on := 5, ground := Go.Ground.guard }], guard := some (5, false) } : Oper)) (v := ?_) rfl (by kernel_rfl) (by kernel_rfl) (by kernel_rfl) (fun _ _ _ h => h) (Or.inl ⟨by rfl, ?_⟩) (by assumption) ?_
      rotate_left
      · (intro w hSw; (try dsimp only at hSw); go_simp; try with_reducible rfl)
      simp only [Act.put, List.setIfInBounds_toArray, List.set_cons_zero, List.set_cons_succ]
      refine wpAnyH_take (i := 14) (oi := ({ dst := some 23, op := Go.Op.load 3 (Go.Operand.tmp 22), type := 3, pos := _, after := #[{ on := 13, ground := Go.Ground.data }, { on := 5, ground := Go.Ground.guard }], guard := some (5, false) } : Oper)) (v := ?_) rfl (by kernel_rfl) (by kernel_rfl) (by kernel_rfl) (fun _ _ _ h => h) (Or.inl ⟨by rfl, ?_⟩) (by assumption) ?_
      rotate_left
      · (intro w hSw; (try dsimp only at hSw); go_simp; try with_reducible rfl)
      simp only [Act.put, List.setIfInBounds_toArray, List.set_cons_zero, List.set_cons_succ]
      refine wpAnyH_ready (rs := [8]) (by kernel_rfl) (by simp) (AllReadyH.cons (o := ({ dst := some 17, op := Go.Op.call { callee := Go.Callee.value (Go.Operand.func 20), args := #[Go.Operand.tmp 16], argTypes := #[22] }, type := 22, pos := _, after := #[{ on := 7, ground := Go.Ground.data }, { on := 5, ground := Go.Ground.chain }, { on := 5, ground := Go.Ground.guard }], guard := some (5, false) } : Oper)) rfl (fun KK hK => ?_) AllReadyH.nil)
      go_simp
      refine (HOW.out _ (bcat2 hB0 hBc)).mono ?_
      rintro x2 U2 ⟨r, rfl, hown, hl2⟩
      have hBo := hBc
      have hBc := bcat2 hBc hl2
      try go_wp2_with fail
      refine hK.out _ _ (hS _ hBc) (fun hHeld => ?_)
      clear hK
      try simp only [Act.put, List.setIfInBounds_toArray, List.set_cons_zero, List.set_cons_succ]
      refine wpAnyH_ready (rs := [10]) (by kernel_rfl) (by simp) (AllReadyH.cons (o := ({ dst := some 19, op := Go.Op.call { callee := Go.Callee.builtin Go.Builtin.append, args := #[Go.Operand.tmp 17, Go.Operand.tmp 18], argTypes := #[22, 22] }, type := 22, pos := _, after := #[{ on := 8, ground := Go.Ground.data }, { on := 9, ground := Go.Ground.data }, { on := 8, ground := Go.Ground.chain }, { on := 5, ground := Go.Ground.guard }], guard := some (5, false) } : Oper)) rfl (fun KK hK => ?_) AllReadyH.nil)
      rw [if_pos (by rfl)]
      refine wp_append_lies _ _ _ 22 rfl U1.heap.size 3 i0 (.int .i64 0) 1 8 under22b hi hz0 hz1 hz2 rfl (by decide) r X (xs.map (Value.int .i64)) rfl hown ⟨mb, mo, none⟩ Y mc (ys.map (Value.int .i64)) rfl (by rw [List.length_map, HYL.out, Nat.mul_one]) (HNW.out _ (bcat2 hB0 hBc)) (by intro v hv; obtain ⟨z, _, rfl⟩ := List.mem_map.1 hv; rfl) hY0 (by unfold maxLen; omega) (by omega) hl2.size _ rfl ?_
      intro g9 cap9 U3 hown3 hgr _ _
      have hB3 : Below w0.heap.size w0 U3 := hBc.grown hgr hBc.size (fun t e9 => by have := owns_ge hown t e9; have := hBo.size; omega)
      have hsu : Sl U3 (.slice (some ⟨g9, 0, none⟩) (X + Y) cap9) (xs ++ ys) := by
        refine Sl.of_own (base := U1.heap.size) ?_ (Nat.lt_of_lt_of_le hw0p hB3.size)
        rw [List.length_append, HXL.out, HYL.out, List.map_append]
        exact hown3
      have hBc := hB3
      refine hK.out _ _ (hS _ hBc) (fun hHeld => ?_)
      clear hK
      try simp only [Act.put, List.setIfInBounds_toArray, List.set_cons_zero, List.set_cons_succ]
      refine wpAnyH_ready (rs := [11]) (by kernel_rfl) (by simp) (AllReadyH.cons (o := ({ dst := some 20, op := Go.Op.call { callee := Go.Callee.value (Go.Operand.func 44), args := #[Go.Operand.tmp 15, Go.Operand.tmp 19], argTypes := #[24, 22] }, type := 22, pos := _, after := #[{ on := 6, ground := Go.Ground.data }, { on := 10, ground := Go.Ground.data }, { on := 10, ground := Go.Ground.chain }, { on := 5, ground := Go.Ground.guard }], guard := some (5, false) } : Oper)) rfl (fun KK hK => ?_) AllReadyH.nil)
      go_simp
      refine (HSP.out _ _ (bcat2 hB0 hBc) hsu).mono ?_
      rintro x4 U4 ⟨sa, sc, rfl, hl4⟩
      have hBc := bcat2 hBc hl4
      try go_wp2_with fail
      refine hK.out _ _ (hS _ hBc) (fun hHeld => ?_)
      clear hK
      try simp only [Act.put, List.setIfInBounds_toArray, List.set_cons_zero, List.set_cons_succ]
      refine wpAnyH_take (i := 12) (oi := ({ dst := some 21, op := Go.Op.call { callee := Go.Callee.builtin Go.Builtin.len, args := #[Go.Operand.tmp 20], argTypes := #[22] }, type := 3, pos := _, after := #[{ on := 11, ground := Go.Ground.data }, { on := 5, ground := Go.Ground.guard }], guard := some (5, false) } : Oper)) (v := ?_) rfl (by kernel_rfl) (by kernel_rfl) (by kernel_rfl) (fun _ _ _ h => h) (Or.inl ⟨by rfl, ?_⟩) (by assumption) ?_
      rotate_left
      · (intro w hSw; (try dsimp only at hSw); go_simp; try with_reducible rfl)
      simp only [Act.put, List.setIfInBounds_toArray, List.set_cons_zero, List.set_cons_succ]
      refine wpAnyH_take (i := 15) (oi := ({ dst := some 24, op := Go.Op.binOp Go.BinOp.neq 3 (Go.Operand.tmp 21) (Go.Operand.tmp 23) 3, type := 4, pos := _, after := #[{ on := 12, ground := Go.Ground.data }, { on := 14, ground := Go.Ground.data }, { on := 5, ground := Go.Ground.guard }], guard := some (5, false) } : Oper)) (v := .bool false) rfl (by kernel_rfl) (by kernel_rfl) (by kernel_rfl) (fun _ _ _ h => h) (Or.inl ⟨by rfl, ?_⟩) (by assumption) ?_
      · (intro w hSw; (try dsimp only at hSw); go_simp; try (first | with_reducible rfl | (simp [hLb]; done) | (simp; done) | omega | (simp; omega)))
      simp only [Act.put, List.setIfInBounds_toArray, List.set_cons_zero, List.set_cons_succ]
      refine wpAnyH_take (i := 16) (oi := ({ dst := some 25, op := Go.Op.pick (Go.Operand.tmp 14) (Go.Operand.const (Go.Value.bool true)) (Go.Operand.tmp 24), type := 4, pos := _, after := #[{ on := 5, ground := Go.Ground.data }, { on := 15, ground := Go.Ground.data }], guard := none } : Oper)) (v := .bool false) rfl (by kernel_rfl) (by kernel_rfl) (by kernel_rfl) (fun _ _ _ h => h) (Or.inl ⟨by rfl, ?_⟩) (by assumption) ?_
      · (intro w hSw; (try dsimp only at hSw); go_simp; try (first | with_reducible rfl | (simp; done) | omega | (simp; omega)))
      simp only [Act.put, List.setIfInBounds_toArray, List.set_cons_zero, List.set_cons_succ]
      refine wpAnyH_done (by kernel_rfl) ?_ _
      have hBu := hBc
      clear hBc hHeld hS0 hown hown3 hgr hsu hB3 hBo hl1 hl2 hl4
      generalize hU9 : U4 = wz at *
      clear hU9
      go_wp2
      go_loopw [7] (fun i wr => ∃ k : Nat, k ≤ X ∧ i = .int .i64 k ∧ (∀ a b, a < k → b < Y → tm n zs (f a) (g b) = tm n zs (g b) (f a)) ∧ Below w0.heap.size w0 wr) (fun i _ => X - (intOf i).toNat)
      case atStart => exact ⟨0, Nat.zero_le _, rfl, fun a b ha => by omega, hBu⟩
      case round =>
        obtain ⟨a, hk, rfl, hno, hB⟩ := hrel
        have HN := hide hno
        clear hno
        by_cases hlt : a < X
        · go_wp2
          go_loopw [8] (fun i wr => ∃ k : Nat, k ≤ Y ∧ i = .int .i64 k ∧ (∀ b, b < k → tm n zs (f a) (g b) = tm n zs (g b) (f a)) ∧ Below w0.heap.size w0 wr) (fun i _ => Y - (intOf i).toNat)
          case atStart => exact ⟨0, Nat.zero_le _, rfl, fun b hb => by omega, hB⟩
          case round =>
            obtain ⟨b, hk2, rfl, hno2, hB2⟩ := hrel
            have HN2 := hide hno2
            clear hno2
            by_cases hlt2 : b < Y
            · have hfa := HF.out a hlt
              have hgb := HG.out b hlt2
              have hS2 : ∀ W, Below w0.heap.size w0 W → (Below w0.heap.size w0 W ∧ W.cell? ⟨w.heap.size, 0, none⟩ = some (.int .i64 n) ∧ W.cell? ⟨w.heap.size, 1, none⟩ = some (.slice v1 v2 v3) ∧ W.cell? ⟨lb, lo + a, none⟩ = some (.int .i64 ((f a : Nat) : Int)) ∧ W.cell? ⟨mb, mo + b, none⟩ = some (.int .i64 ((g b : Nat) : Int))) := fun W h => ⟨h, below_cell h g0, below_cell h g1, HLC.out W (bcat2 hB0 h) a hlt, HMC.out W (bcat2 hB0 h) b hlt2⟩
              have hS20 := hS2 _ (bdrew hB2)
              go_wp2_with fail
              go_region_held3 (fun W => Below w0.heap.size w0 W ∧ W.cell? ⟨w.heap.size, 0, none⟩ = some (.int .i64 n) ∧ W.cell? ⟨w.heap.size, 1, none⟩ = some (.slice v1 v2 v3) ∧ W.cell? ⟨lb, lo + a, none⟩ = some (.int .i64 ((f a : Nat) : Int)) ∧ W.cell? ⟨mb, mo + b, none⟩ = some (.int .i64 ((g b : Nat) : Int)))
                (first | exact hS20 | assumption | exact hS2 _ (bcat2 (And.left ‹_›) hl5))
                (first | (go_at_call 15; refine (HM.out _ _ _ (bcat2 hB0 (And.left ‹_›)) (by assumption) (by assumption)).mono ?_; rintro e5 W1 ⟨rfl, hl5⟩))
              obtain ⟨hB3, _⟩ := ‹Below w0.heap.size w0 W1 ∧ _›
              clear hS2 hS20 hl5
              by_cases hxy : tm n zs (f a) (g b) = tm n zs (g b) (f a)
              · have hbe : ((tm n zs (f a) (g b) : Int) != (tm n zs (g b) (f a) : Int)) = false := by simp [hxy]
                have HXY := hide hxy
                clear hxy
                go_wp2
                go_roundw
                case rel => exact ⟨b + 1, by omega, by go_num, fun d hd => by
                  by_cases e : d = b
                  · rw [e]; exact HXY.out
                  · exact HN2.out d (by omega), hB3⟩
                case measure => simp [intOf]; omega
              · have hbe : ((tm n zs (f a) (g b) : Int) != (tm n zs (g b) (f a) : Int)) = true := by simp; omega
                have HXY := hide hxy
                clear hxy
                go_wp2
                go_ret
                refine ⟨retB ?_, bcat2 hB0 hB3⟩
                cases hq : T with
                | false => rfl
                | true => exact absurd ((HT.out.1 hq).2.2 a b hlt hlt2) HXY.out
            · have hcn : b = Y := by omega
              have hcn2 : ¬ (b : Int) < (Y : Int) := by omega
              have HCN := hide hcn
              clear hcn
              go_wp2
              go_roundw
              case rel => exact ⟨a + 1, by omega, by go_num, fun d c hd hc => by
                by_cases e : d = a
                · rw [e]; exact HN2.out c (by have := HCN.out; omega)
                · exact HN.out d c (by omega) hc, hB2⟩
              case measure => simp [intOf]; omega
        · have hcn : a = X := by omega
          have hcn2 : ¬ (a : Int) < (X : Int) := by omega
          have HCN := hide hcn
          clear hcn
          go_wp2
          go_ret
          exact ⟨retB (HT.out.2 ⟨by simp, HLN.out, fun d c hd hc => HN.out d c (by have := HCN.out; omega) hc⟩).symm, bcat2 hB0 hB⟩
    · have hLb : (((L : Nat) : Int) != ((n : Nat) : Int)) = true := by simp; omega
      have HTF := hide (show T = false by
        cases hq : T with
        | false => rfl
        | true => exact absurd (HT.out.1 hq).2.1 hL)
      clear hL
      go_enter Tryd.func24, Tryd.ntmps24
      go_wp2_with fail
      rw [← hw0]
      clear hw0
      refine wp_region_held_drew (S := fun W => Below w0.heap.size w0 W ∧ W.cell? ⟨w.heap.size, 0, none⟩ = some (.int .i64 n) ∧ W.cell? ⟨w.heap.size, 1, none⟩ = some (.slice v1 v2 v3)) (by kernel_rfl) hS0 (fun hHeld => ?_)
      refine wpAnyH_take (i := 0) (oi := ({ dst := some 9, op := Go.Op.move (Go.Operand.tmp 1), type := 22, pos := _, after := #[], guard := none } : Oper)) (v := ?_) rfl (by kernel_rfl) (by kernel_rfl) (by kernel_rfl) (fun _ _ _ h => h) (Or.inl ⟨by rfl, ?_⟩) (by assumption) ?_
      rotate_left
      · (intro w hSw; (try dsimp only at hSw); go_simp; try with_reducible rfl)
      simp only [Act.put, List.setIfInBounds_toArray, List.set_cons_zero, List.set_cons_succ]
      refine wpAnyH_take (i := 1) (oi := ({ dst := some 10, op := Go.Op.move (Go.Operand.tmp 2), type := 22, pos := _, after := #[], guard := none } : Oper)) (v := ?_) rfl (by kernel_rfl) (by kernel_rfl) (by kernel_rfl) (fun _ _ _ h => h) (Or.inl ⟨by rfl, ?_⟩) (by assumption) ?_
      rotate_left
      · (intro w hSw; (try dsimp only at hSw); go_simp; try with_reducible rfl)
      simp only [Act.put, List.setIfInBounds_toArray, List.set_cons_zero, List.set_cons_succ]
      refine wpAnyH_ready (rs := [2]) (by kernel_rfl) (by simp) (AllReadyH.cons (o := ({ dst := some 11, op := Go.Op.call { callee := Go.Callee.value (Go.Operand.func 43), args := #[Go.Operand.tmp 9, Go.Operand.tmp 10], argTypes := #[22, 22] }, type := 22, pos := _, after := #[{ on := 0, ground := Go.Ground.data }, { on := 1, ground := Go.Ground.data }], guard := none } : Oper)) rfl (fun KK hK => ?_) AllReadyH.nil)
      go_simp
      refine (HBO.out _ (bcat2 hB0 hBc)).mono ?_
      rintro x1 U1 ⟨ra, rc, rfl, hl1⟩
      have hBc := bcat2 hBc hl1
      try go_wp2_with fail
      refine hK.out _ _ (hS _ hBc) (fun hHeld => ?_)
      clear hK
      try simp only [Act.put, List.setIfInBounds_toArray, List.set_cons_zero, List.set_cons_succ]
      refine wpAnyH_take (i := 3) (oi := ({ dst := some 12, op := Go.Op.call { callee := Go.Callee.builtin Go.Builtin.len, args := #[Go.Operand.tmp 11], argTypes := #[22] }, type := 3, pos := _, after := #[{ on := 2, ground := Go.Ground.data }], guard := none } : Oper)) (v := ?_) rfl (by kernel_rfl) (by kernel_rfl) (by kernel_rfl) (fun _ _ _ h => h) (Or.inl ⟨by rfl, ?_⟩) (by assumption) ?_
      rotate_left
      · (intro w hSw; (try dsimp only at hSw); go_simp; try with_reducible rfl)
      simp only [Act.put, List.setIfInBounds_toArray, List.set_cons_zero, List.set_cons_succ]
      refine wpAnyH_take (i := 4) (oi := ({ dst := some 13, op := Go.Op.binOp Go.BinOp.neq 3 (Go.Operand.tmp 12) (Go.Operand.const (Go.Value.int Go.IntKind.i64 1)) 3, type := 4, pos := _, after := #[{ on := 3, ground := Go.Ground.data }], guard := none } : Oper)) (v := .bool false) rfl (by kernel_rfl) (by kernel_rfl) (by kernel_rfl) (fun _ _ _ h => h) (Or.inl ⟨by rfl, ?_⟩) (by assumption) ?_
      · (intro w hSw; (try dsimp only at hSw); go_simp; try (first | with_reducible rfl | (simp; done) | omega | (simp; omega)))
      simp only [Act.put, List.setIfInBounds_toArray, List.set_cons_zero, List.set_cons_succ]
      refine wpAnyH_take (i := 5) (oi := ({ dst := some 14, op := Go.Op.move (Go.Operand.tmp 13), type := 4, pos := _, after := #[{ on := 4, ground := Go.Ground.data }, { on := 2, ground := Go.Ground.chain }], guard := none } : Oper)) (v := .bool false) rfl (by kernel_rfl) (by kernel_rfl) (by kernel_rfl) (fun _ _ _ h => h) (Or.inl ⟨by rfl, ?_⟩) (by assumption) ?_
      · (intro w hSw; (try dsimp only at hSw); go_simp; try (first | with_reducible rfl | (simp; done) | omega | (simp; omega)))
      simp only [Act.put, List.setIfInBounds_toArray, List.set_cons_zero, List.set_cons_succ]
      refine wpAnyH_take (i := 6) (oi := ({ dst := some 15, op := Go.Op.load 24 (Go.Operand.tmp 3), type := 24, pos := _, after := #[{ on := 5, ground := Go.Ground.guard }], guard := some (5, false) } : Oper)) (v := ?_) rfl (by kernel_rfl) (by kernel_rfl) (by kernel_rfl) (fun _ _ _ h => h) (Or.inl ⟨by rfl, ?_⟩) (by assumption) ?_
      rotate_left
      · (intro w hSw; (try dsimp only at hSw); go_simp; try with_reducible rfl)
      simp only [Act.put, List.setIfInBounds_toArray, List.set_cons_zero, List.set_cons_succ]
      refine wpAnyH_take (i := 7) (oi := ({ dst := some 16, op := Go.Op.move (Go.Operand.tmp 1), type := 22, pos := _, after := #[{ on := 5, ground := Go.Ground.guard }], guard := some (5, false) } : Oper)) (v := ?_) rfl (by kernel_rfl) (by kernel_rfl) (by kernel_rfl) (fun _ _ _ h => h) (Or.inl ⟨by rfl, ?_⟩) (by assumption) ?_
      rotate_left
      · (intro w hSw; (try dsimp only at hSw); go_simp; try with_reducible rfl)
      simp only [Act.put, List.setIfInBounds_toArray, List.set_cons_zero, List.set_cons_succ]
      refine wpAnyH_take (i := 9) (oi := ({ dst := some 18, op := Go.Op.move (Go.Operand.tmp 2), type := 22, pos := _, after := #[{ on := 5, ground := Go.Ground.guard }], guard := some (5, false) } : Oper)) (v := ?_) rfl (by kernel_rfl) (by kernel_rfl) (by kernel_rfl) (fun _ _ _ h => h) (Or.inl ⟨by rfl, ?_⟩) (by assumption) ?_
      rotate_left
      · (intro w hSw; (try dsimp only at hSw); go_simp; try with_reducible rfl)
      simp only [Act.put, List.setIfInBounds_toArray, List.set_cons_zero, List.set_cons_succ]
      refine wpAnyH_take (i := 13) (oi := ({ dst := some 22, op := Go.Op.fieldAddr 24 (Go.Operand.tmp 3) 0, type := 0, pos := _, after := #[{ on := 5, ground := Go.Ground.guard }], guard := some (5, false) } : Oper)) (v := ?_) rfl (by kernel_rfl) (by kernel_rfl) (by kernel_rfl) (fun _ _ _ h => h) (Or.inl ⟨by rfl, ?_⟩) (by assumption) ?_
      rotate_left
      · (intro w hSw; (try dsimp only at hSw); go_simp; try with_reducible rfl)
      simp only [Act.put, List.setIfInBounds_toArray, List.set_cons_zero, List.set_cons_succ]
      refine wpAnyH_take (i := 14) (oi := ({ dst := some 23, op := Go.Op.load 3 (Go.Operand.tmp 22), type := 3, pos := _, after := #[{ on := 13, ground := Go.Ground.data }, { on := 5, ground := Go.Ground.guard }], guard := some (5, false) } : Oper)) (v := ?_) rfl (by kernel_rfl) (by kernel_rfl) (by kernel_rfl) (fun _ _ _ h => h) (Or.inl ⟨by rfl, ?_⟩) (by assumption) ?_
      rotate_left
      · (intro w hSw; (try dsimp only at hSw); go_simp; try with_reducible rfl)
      simp only [Act.put, List.setIfInBounds_toArray, List.set_cons_zero, List.set_cons_succ]
      refine wpAnyH_ready (rs := [8]) (by kernel_rfl) (by simp) (AllReadyH.cons (o := ({ dst := some 17, op := Go.Op.call { callee := Go.Callee.value (Go.Operand.func 20), args := #[Go.Operand.tmp 16], argTypes := #[22] }, type := 22, pos := _, after := #[{ on := 7, ground := Go.Ground.data }, { on := 5, ground := Go.Ground.chain }, { on := 5, ground := Go.Ground.guard }], guard := some (5, false) } : Oper)) rfl (fun KK hK => ?_) AllReadyH.nil)
      go_simp
      refine (HOW.out _ (bcat2 hB0 hBc)).mono ?_
      rintro x2 U2 ⟨r, rfl, hown, hl2⟩
      have hBo := hBc
      have hBc := bcat2 hBc hl2
      try go_wp2_with fail
      refine hK.out _ _ (hS _ hBc) (fun hHeld => ?_)
      clear hK
      try simp only [Act.put, List.setIfInBounds_toArray, List.set_cons_zero, List.set_cons_succ]
      refine wpAnyH_ready (rs := [10]) (by kernel_rfl) (by simp) (AllReadyH.cons (o := ({ dst := some 19, op := Go.Op.call { callee := Go.Callee.builtin Go.Builtin.append, args := #[Go.Operand.tmp 17, Go.Operand.tmp 18], argTypes := #[22, 22] }, type := 22, pos := _, after := #[{ on := 8, ground := Go.Ground.data }, { on := 9, ground := Go.Ground.data }, { on := 8, ground := Go.Ground.chain }, { on := 5, ground := Go.Ground.guard }], guard := some (5, false) } : Oper)) rfl (fun KK hK => ?_) AllReadyH.nil)
      rw [if_pos (by rfl)]
      refine wp_append_lies _ _ _ 22 rfl U1.heap.size 3 i0 (.int .i64 0) 1 8 under22b hi hz0 hz1 hz2 rfl (by decide) r X (xs.map (Value.int .i64)) rfl hown ⟨mb, mo, none⟩ Y mc (ys.map (Value.int .i64)) rfl (by rw [List.length_map, HYL.out, Nat.mul_one]) (HNW.out _ (bcat2 hB0 hBc)) (by intro v hv; obtain ⟨z, _, rfl⟩ := List.mem_map.1 hv; rfl) hY0 (by unfold maxLen; omega) (by omega) hl2.size _ rfl ?_
      intro g9 cap9 U3 hown3 hgr _ _
      have hB3 : Below w0.heap.size w0 U3 := hBc.grown hgr hBc.size (fun t e9 => by have := owns_ge hown t e9; have := hBo.size; omega)
      have hsu : Sl U3 (.slice (some ⟨g9, 0, none⟩) (X + Y) cap9) (xs ++ ys) := by
        refine Sl.of_own (base := U1.heap.size) ?_ (Nat.lt_of_lt_of_le hw0p hB3.size)
        rw [List.length_append, HXL.out, HYL.out, List.map_append]
        exact hown3
      have hBc := hB3
      refine hK.out _ _ (hS _ hBc) (fun hHeld => ?_)
      clear hK
      try simp only [Act.put, List.setIfInBounds_toArray, List.set_cons_zero, List.set_cons_succ]
      refine wpAnyH_ready (rs := [11]) (by kernel_rfl) (by simp) (AllReadyH.cons (o := ({ dst := some 20, op := Go.Op.call { callee := Go.Callee.value (Go.Operand.func 44), args := #[Go.Operand.tmp 15, Go.Operand.tmp 19], argTypes := #[24, 22] }, type := 22, pos := _, after := #[{ on := 6, ground := Go.Ground.data }, { on := 10, ground := Go.Ground.data }, { on := 10, ground := Go.Ground.chain }, { on := 5, ground := Go.Ground.guard }], guard := some (5, false) } : Oper)) rfl (fun KK hK => ?_) AllReadyH.nil)
      go_simp
      refine (HSP.out _ _ (bcat2 hB0 hBc) hsu).mono ?_
      rintro x4 U4 ⟨sa, sc, rfl, hl4⟩
      have hBc := bcat2 hBc hl4
      try go_wp2_with fail
      refine hK.out _ _ (hS _ hBc) (fun hHeld => ?_)
      clear hK
      try simp only [Act.put, List.setIfInBounds_toArray, List.set_cons_zero, List.set_cons_succ]
      refine wpAnyH_take (i := 12) (oi := ({ dst := some 21, op := Go.Op.call { callee := Go.Callee.builtin Go.Builtin.len, args := #[Go.Operand.tmp 20], argTypes := #[22] }, type := 3, pos := _, after := #[{ on := 11, ground := Go.Ground.data }, { on := 5, ground := Go.Ground.guard }], guard := some (5, false) } : Oper)) (v := ?_) rfl (by kernel_rfl) (by kernel_rfl) (by kernel_rfl) (fun _ _ _ h => h) (Or.inl ⟨by rfl, ?_⟩) (by assumption) ?_
      rotate_left
      · (intro w hSw; (try dsimp only at hSw); go_simp; try with_reducible rfl)
      simp only [Act.put, List.setIfInBounds_toArray, List.set_cons_zero, List.set_cons_succ]
      refine wpAnyH_take (i := 15) (oi := ({ dst := some 24, op := Go.Op.binOp Go.BinOp.neq 3 (Go.Operand.tmp 21) (Go.Operand.tmp 23) 3, type := 4, pos := _, after := #[{ on := 12, ground := Go.Ground.data }, { on := 14, ground := Go.Ground.data }, { on := 5, ground := Go.Ground.guard }], guard := some (5, false) } : Oper)) (v := .bool true) rfl (by kernel_rfl) (by kernel_rfl) (by kernel_rfl) (fun _ _ _ h => h) (Or.inl ⟨by rfl, ?_⟩) (by assumption) ?_
      · (intro w hSw; (try dsimp only at hSw); go_simp; try (first | with_reducible rfl | (simp [hLb]; done) | (simp; done) | omega | (simp; omega)))
      simp only [Act.put, List.setIfInBounds_toArray, List.set_cons_zero, List.set_cons_succ]
      refine wpAnyH_take (i := 16) (oi := ({ dst := some 25, op := Go.Op.pick (Go.Operand.tmp 14) (Go.Operand.const (Go.Value.bool true)) (Go.Operand.tmp 24), type := 4, pos := _, after := #[{ on := 5, ground := Go.Ground.data }, { on := 15, ground := Go.Ground.data }], guard := none } : Oper)) (v := .bool true) rfl (by kernel_rfl) (by kernel_rfl) (by kernel_rfl) (fun _ _ _ h => h) (Or.inl ⟨by rfl, ?_⟩) (by assumption) ?_
      · (intro w hSw; (try dsimp only at hSw); go_simp; try (first | with_reducible rfl | (simp; done) | omega | (simp; omega)))
      simp only [Act.put, List.setIfInBounds_toArray, List.set_cons_zero, List.set_cons_succ]
      refine wpAnyH_done (by kernel_rfl) ?_ _
      have hBz := bcat2 hB0 hBc
      go_wp2
      go_ret
      exact ⟨by rw [HTF.out]; rfl, hBz⟩
  · have hKb : (((K : Nat) : Int) != 1) = true := by simp; omega
    have HTF := hide (show T = false by
      cases hq : T with
      | false => rfl
      | true => exact absurd (HT.out.1 hq).1 hK)
    clear hK
    go_enter Tryd.func24, Tryd.ntmps24
    go_wp2_with fail
    rw [← hw0]
    clear hw0
    refine wp_region_held_drew (S := fun W => Below w0.heap.size w0 W ∧ W.cell? ⟨w.heap.size, 0, none⟩ = some (.int .i64 n) ∧ W.cell? ⟨w.heap.size, 1, none⟩ = some (.slice v1 v2 v3)) (by kernel_rfl) hS0 (fun hHeld => ?_)
    refine wpAnyH_take (i := 0) (oi := ({ dst := some 9, op := Go.Op.move (Go.Operand.tmp 1), type := 22, pos := _, after := #[], guard := none } : Oper)) (v := ?_) rfl (by kernel_rfl) (by kernel_rfl) (by kernel_rfl) (fun _ _ _ h => h) (Or.inl ⟨by rfl, ?_⟩) (by assumption) ?_
    rotate_left
    · (intro w hSw; (try dsimp only at hSw); go_simp; try with_reducible rfl)
    simp only [Act.put, List.setIfInBounds_toArray, List.set_cons_zero, List.set_cons_succ]
    refine wpAnyH_take (i := 1) (oi := ({ dst := some 10, op := Go.Op.move (Go.Operand.tmp 2), type := 22, pos := _, after := #[], guard := none } : Oper)) (v := ?_) rfl (by kernel_rfl) (by kernel_rfl) (by kernel_rfl) (fun _ _ _ h => h) (Or.inl ⟨by rfl, ?_⟩) (by assumption) ?_
    rotate_left
    · (intro w hSw; (try dsimp only at hSw); go_simp; try with_reducible rfl)
    simp only [Act.put, List.setIfInBounds_toArray, List.set_cons_zero, List.set_cons_succ]
    refine wpAnyH_ready (rs := [2]) (by kernel_rfl) (by simp) (AllReadyH.cons (o := ({ dst := some 11, op := Go.Op.call { callee := Go.Callee.value (Go.Operand.func 43), args := #[Go.Operand.tmp 9, Go.Operand.tmp 10], argTypes := #[22, 22] }, type := 22, pos := _, after := #[{ on := 0, ground := Go.Ground.data }, { on := 1, ground := Go.Ground.data }], guard := none } : Oper)) rfl (fun KK hK => ?_) AllReadyH.nil)
    go_simp
    refine (HBO.out _ (bcat2 hB0 hBc)).mono ?_
    rintro x1 U1 ⟨ra, rc, rfl, hl1⟩
    have hBc := bcat2 hBc hl1
    try go_wp2_with fail
    refine hK.out _ _ (hS _ hBc) (fun hHeld => ?_)
    clear hK
    try simp only [Act.put, List.setIfInBounds_toArray, List.set_cons_zero, List.set_cons_succ]
    refine wpAnyH_take (i := 3) (oi := ({ dst := some 12, op := Go.Op.call { callee := Go.Callee.builtin Go.Builtin.len, args := #[Go.Operand.tmp 11], argTypes := #[22] }, type := 3, pos := _, after := #[{ on := 2, ground := Go.Ground.data }], guard := none } : Oper)) (v := ?_) rfl (by kernel_rfl) (by kernel_rfl) (by kernel_rfl) (fun _ _ _ h => h) (Or.inl ⟨by rfl, ?_⟩) (by assumption) ?_
    rotate_left
    · (intro w hSw; (try dsimp only at hSw); go_simp; try with_reducible rfl)
    simp only [Act.put, List.setIfInBounds_toArray, List.set_cons_zero, List.set_cons_succ]
    refine wpAnyH_take (i := 4) (oi := ({ dst := some 13, op := Go.Op.binOp Go.BinOp.neq 3 (Go.Operand.tmp 12) (Go.Operand.const (Go.Value.int Go.IntKind.i64 1)) 3, type := 4, pos := _, after := #[{ on := 3, ground := Go.Ground.data }], guard := none } : Oper)) (v := .bool true) rfl (by kernel_rfl) (by kernel_rfl) (by kernel_rfl) (fun _ _ _ h => h) (Or.inl ⟨by rfl, ?_⟩) (by assumption) ?_
    · (intro w hSw; (try dsimp only at hSw); go_simp; try (first | with_reducible rfl | (simp [hKb]; done) | (simp; done) | omega | (simp; omega)))
    simp only [Act.put, List.setIfInBounds_toArray, List.set_cons_zero, List.set_cons_succ]
    refine wpAnyH_take (i := 5) (oi := ({ dst := some 14, op := Go.Op.move (Go.Operand.tmp 13), type := 4, pos := _, after := #[{ on := 4, ground := Go.Ground.data }, { on := 2, ground := Go.Ground.chain }], guard := none } : Oper)) (v := .bool true) rfl (by kernel_rfl) (by kernel_rfl) (by kernel_rfl) (fun _ _ _ h => h) (Or.inl ⟨by rfl, ?_⟩) (by assumption) ?_
    · (intro w hSw; (try dsimp only at hSw); go_simp; try (first | with_reducible rfl | (simp; done) | omega | (simp; omega)))
    simp only [Act.put, List.setIfInBounds_toArray, List.set_cons_zero, List.set_cons_succ]
    refine wpAnyH_take (i := 6) (oi := ({ dst := some 15, op := Go.Op.load 24 (Go.Operand.tmp 3), type := 24, pos := _, after := #[{ on := 5, ground := Go.Ground.guard }], guard := some (5, false) } : Oper)) (v := undef) rfl (by kernel_rfl) (by kernel_rfl) (by kernel_rfl) (fun _ _ _ h => h) (Or.inr ⟨by rfl, rfl⟩) (by assumption) ?_
    simp only [Act.put, List.setIfInBounds_toArray, List.set_cons_zero, List.set_cons_succ]
    refine wpAnyH_take (i := 7) (oi := ({ dst := some 16, op := Go.Op.move (Go.Operand.tmp 1), type := 22, pos := _, after := #[{ on := 5, ground := Go.Ground.guard }], guard := some (5, false) } : Oper)) (v := undef) rfl (by kernel_rfl) (by kernel_rfl) (by kernel_rfl) (fun _ _ _ h => h) (Or.inr ⟨by rfl, rfl⟩) (by assumption) ?_
    simp only [Act.put, List.setIfInBounds_toArray, List.set_cons_zero, List.set_cons_succ]
    refine wpAnyH_take (i := 8) (oi := ({ dst := some 17, op := Go.Op.call { callee := Go.Callee.value (Go.Operand.func 20), args := #[Go.Operand.tmp 16], argTypes := #[22] }, type := 22, pos := _, after := #[{ on := 7, ground := Go.Ground.data }, { on := 5, ground := Go.Ground.chain }, { on := 5, ground := Go.Ground.guard }], guard := some (5, false) } : Oper)) (v := undef) rfl (by kernel_rfl) (by kernel_rfl) (by kernel_rfl) (fun _ _ _ h => h) (Or.inr ⟨by rfl, rfl⟩) (by assumption) ?_
    simp only [Act.put, List.setIfInBounds_toArray, List.set_cons_zero, List.set_cons_succ]
    refine wpAnyH_take (i := 9) (oi := ({ dst := some 18, op := Go.Op.move (Go.Operand.tmp 2), type := 22, pos := _, after := #[{ on := 5, ground := Go.Ground.guard }], guard := some (5, false) } : Oper)) (v := undef) rfl (by kernel_rfl) (by kernel_rfl) (by kernel_rfl) (fun _ _ _ h => h) (Or.inr ⟨by rfl, rfl⟩) (by assumption) ?_
    simp only [Act.put, List.setIfInBounds_toArray, List.set_cons_zero, List.set_cons_succ]
    refine wpAnyH_take (i := 10) (oi := ({ dst := some 19, op := Go.Op.call { callee := Go.Callee.builtin Go.Builtin.append, args := #[Go.Operand.tmp 17, Go.Operand.tmp 18], argTypes := #[22, 22] }, type := 22, pos := _, after := #[{ on := 8, ground := Go.Ground.data }, { on := 9, ground := Go.Ground.data }, { on := 8, ground := Go.Ground.chain }, { on := 5, ground := Go.Ground.guard }], guard := some (5, false) } : Oper)) (v := undef) rfl (by kernel_rfl) (by kernel_rfl) (by kernel_rfl) (fun _ _ _ h => h) (Or.inr ⟨by rfl, rfl⟩) (by assumption) ?_
    simp only [Act.put, List.setIfInBounds_toArray, List.set_cons_zero, List.set_cons_succ]
    refine wpAnyH_take (i := 11) (oi := ({ dst := some 20, op := Go.Op.call { callee := Go.Callee.value (Go.Operand.func 44), args := #[Go.Operand.tmp 15, Go.Operand.tmp 19], argTypes := #[24, 22] }, type := 22, pos := _, after := #[{ on := 6, ground := Go.Ground.data }, { on := 10, ground := Go.Ground.data }, { on := 10, ground := Go.Ground.chain }, { on := 5, ground := Go.Ground.guard }], guard := some (5, false) } : Oper)) (v := undef) rfl (by kernel_rfl) (by kernel_rfl) (by kernel_rfl) (fun _ _ _ h => h) (Or.inr ⟨by rfl, rfl⟩) (by assumption) ?_
    simp only [Act.put, List.setIfInBounds_toArray, List.set_cons_zero, List.set_cons_succ]
    refine wpAnyH_take (i := 12) (oi := ({ dst := some 21, op := Go.Op.call { callee := Go.Callee.builtin Go.Builtin.len, args := #[Go.Operand.tmp 20], argTypes := #[22] }, type := 3, pos := _, after := #[{ on := 11, ground := Go.Ground.data }, { on := 5, ground := Go.Ground.guard }], guard := some (5, false) } : Oper)) (v := undef) rfl (by kernel_rfl) (by kernel_rfl) (by kernel_rfl) (fun _ _ _ h => h) (Or.inr ⟨by rfl, rfl⟩) (by assumption) ?_
    simp only [Act.put, List.setIfInBounds_toArray, List.set_cons_zero, List.set_cons_succ]
    refine wpAnyH_take (i := 13) (oi := ({ dst := some 22, op := Go.Op.fieldAddr 24 (Go.Operand.tmp 3) 0, type := 0, pos := _, after := #[{ on := 5, ground := Go.Ground.guard }], guard := some (5, false) } : Oper)) (v := undef) rfl (by kernel_rfl) (by kernel_rfl) (by kernel_rfl) (fun _ _ _ h => h) (Or.inr ⟨by rfl, rfl⟩) (by assumption) ?_
    simp only [Act.put, List.setIfInBounds_toArray, List.set_cons_zero, List.set_cons_succ]
    refine wpAnyH_take (i := 14) (oi := ({ dst := some 23, op := Go.Op.load 3 (Go.Operand.tmp 22), type := 3, pos := _, after := #[{ on := 13, ground := Go.Ground.data }, { on := 5, ground := Go.Ground.guard }], guard := some (5, false) } : Oper)) (v := undef) rfl (by kernel_rfl) (by kernel_rfl) (by kernel_rfl) (fun _ _ _ h => h) (Or.inr ⟨by rfl, rfl⟩) (by assumption) ?_
    simp only [Act.put, List.setIfInBounds_toArray, List.set_cons_zero, List.set_cons_succ]
    refine wpAnyH_take (i := 15) (oi := ({ dst := some 24, op := Go.Op.binOp Go.BinOp.neq 3 (Go.Operand.tmp 21) (Go.Operand.tmp 23) 3, type := 4, pos := _, after := #[{ on := 12, ground := Go.Ground.data }, { on := 14, ground := Go.Ground.data }, { on := 5, ground := Go.Ground.guard }], guard := some (5, false) } : Oper)) (v := undef) rfl (by kernel_rfl) (by kernel_rfl) (by kernel_rfl) (fun _ _ _ h => h) (Or.inr ⟨by rfl, rfl⟩) (by assumption) ?_
    simp only [Act.put, List.setIfInBounds_toArray, List.set_cons_zero, List.set_cons_succ]
    refine wpAnyH_take (i := 16) (oi := ({ dst := some 25, op := Go.Op.pick (Go.Operand.tmp 14) (Go.Operand.const (Go.Value.bool true)) (Go.Operand.tmp 24), type := 4, pos := _, after := #[{ on := 5, ground := Go.Ground.data }, { on := 15, ground := Go.Ground.data }], guard := none } : Oper)) (v := .bool true) rfl (by kernel_rfl) (by kernel_rfl) (by kernel_rfl) (fun _ _ _ h => h) (Or.inl ⟨by rfl, ?_⟩) (by assumption) ?_
    · (intro w hSw; (try dsimp only at hSw); go_simp; try (first | with_reducible rfl | (simp; done) | omega | (simp; omega)))
    simp only [Act.put, List.setIfInBounds_toArray, List.set_cons_zero, List.set_cons_succ]
    refine wpAnyH_done (by kernel_rfl) ?_ _
    have hBz := bcat2 hB0 hBc
    go_wp2
    go_ret
    exact ⟨by rw [HTF.out]; rfl, hBz⟩
end Go.Proofs.YtanbpjfdfnmjpaaDoor

namespace Go.Proofs.YtanbpjfdfnmjpaaDoor
open Go Go.RowKit

theorem under72b : Tryd.prog.underlying 83 = some (.slice 4) := by kernel_rfl
theorem callSp (a : Int) (x : Value) (W : World) : Sem.run Tryd.prog (callFunc 65 (#[.int .i64 a] ++ #[x])) W = .ok (.enter 65 (#[.int .i64 a] ++ #[x])) W := by kernel_rfl
set_option maxRecDepth 100000 in
theorem spn1_ok (n a xb ib : Nat) (p : Nat → Bool) (w : World) (ha : a < n) (hx : Boxed w xb 83 (.slice (some ⟨ib, 0, none⟩) n n)) (hb : Blk w ib 4 ((bm n p).map Value.bool)) :
    Calls Tryd.prog 65 (#[.int .i64 a] ++ #[.pointer (some ⟨xb, 0, none⟩)]) w fun y w' => y = .returned (.bool (p a)) ∧ Below w.heap.size w w' := by
  show Calls Tryd.prog 65 #[.int .i64 a, .pointer (some ⟨xb, 0, none⟩)] w _
  have c0 := hx.cell
  have c1 := hb.bool (y := a) (by rw [bm_len]; exact ha)
  rw [bm_get ha] at c1
  have hai : (a : Int) < (n : Int) := by omega
  go_enter Tryd.func65, Tryd.ntmps65
  go_wp2
  go_ret
  exact ⟨rfl, Below.refl _ _⟩
/-- How the search's memory stands. -/
structure SpS (w wr : World) (n : Nat) (v : Value) (xb : Nat) (p : Nat → Bool) : Prop where
  box : BoxG wr w.heap.size n v
  blk : Blk wr (w.heap.size + 1) 4 ((bm n p).map Value.bool)
  ind : Boxed wr xb 83 (.slice (some ⟨w.heap.size + 1, 0, none⟩) n n)
  bel : Below w.heap.size w wr
  xlt : w.heap.size + 1 < xb
theorem SpS.below {w wr W : World} {n xb : Nat} {v : Value} {p : Nat → Bool} (h : SpS w wr n v xb p) (hb : Below wr.heap.size wr W) : SpS w W n v xb p :=
  ⟨blk_below h.box hb, blk_below h.blk hb, Boxed.below h.ind hb, bcat h.bel hb h.bel.size, h.xlt⟩
theorem SpS.put {w wr : World} {n xb y : Nat} {v : Value} {p : Nat → Bool} (h : SpS w wr n v xb p) : SpS w (wr.setCell ⟨w.heap.size + 1, y, none⟩ (.bool true)) n v xb (fun a => p a || decide (a = y)) :=
  ⟨h.box.other (p := ⟨w.heap.size + 1, y, none⟩) (by simp) _, by rw [← bm_set]; exact h.blk.setBool y true, (Below.heap_setCell _ _ _ xb (by have := h.xlt; simp; omega)).trans h.ind, h.bel.setCell (p := ⟨w.heap.size + 1, y, none⟩) (by simp) _, h.xlt⟩
theorem SpS.drew {w wr : World} {n xb : Nat} {v : Value} {p : Nat → Bool} (h : SpS w wr n v xb p) : SpS w wr.drew n v xb p := ⟨h.box, h.blk, h.ind, bdrew h.bel, h.xlt⟩
theorem SpS.drewN {w wr : World} {n xb : Nat} {v : Value} {p : Nat → Bool} (h : SpS w wr n v xb p) (k : Nat) : SpS w (wr.drewN k) n v xb p := ⟨h.box, h.blk, h.ind, bdrewN h.bel k, h.xlt⟩
theorem SpS.cells {w wr : World} {n xb : Nat} {v : Value} {p : Nat → Bool} (h : SpS w wr n v xb p) : wr.cell? ⟨w.heap.size, 0, none⟩ = some (.int .i64 n) ∧ wr.cell? ⟨w.heap.size, 1, none⟩ = some v ∧ wr.cell? ⟨xb, 0, none⟩ = some (.slice (some ⟨w.heap.size + 1, 0, none⟩) n n) := ⟨h.box.two.1, h.box.two.2.1, h.ind.cell⟩
theorem SpS.bit {w wr : World} {n xb y : Nat} {v : Value} {p : Nat → Bool} (h : SpS w wr n v xb p) (hy : y < n) : wr.cell? ⟨w.heap.size + 1, y, none⟩ = some (.bool (p y)) ∧ wr.frozen? ⟨w.heap.size + 1, y, none⟩ = false := by
  refine ⟨?_, h.blk.frozen y⟩
  have := h.blk.bool (y := y) (by rw [bm_len]; exact hy)
  rwa [bm_get hy] at this
set_option maxRecDepth 100000 in
set_option maxHeartbeats 40000000 in
theorem span_ok (n e : Nat) (v u : Value) (zs : List Int) (xs : List Nat) (p : Nat → Bool) (w : World) (hv : Sl w v zs) (hg : IsGrp n zs e) (hu : Sl w u (li xs)) (hx : ∀ x, x ∈ xs → x < n) (hxl : xs.length ≤ 100000) (hp : ∀ a, a < n → (p a = true ↔ Mkd n zs e (fun a => decide (a ∈ xs)) a)) :
    Calls Tryd.prog 44 #[.agg #[.int .i64 n, v], u] w fun x w' => ∃ r, x = .returned r ∧ Row w' w.heap.size r (li (lst n p)) ∧ Below w.heap.size w w' := by
  obtain ⟨i0, hi, hz0, hz1, hz2⟩ := info_parts info4b
  have hn := hg.tab.le
  have hpos := hg.tab.pos
  have hB0 : Below w.heap.size w (w.alloc (.cells #[.int .i64 n, v] 24)) := balloc w _
  have hX0 : BoxG (w.alloc (.cells #[.int .i64 n, v] 24)) w.heap.size n v := blk0 _ _
  obtain ⟨c0, c1, _, _⟩ := hX0.two
  obtain ⟨ua, ucap, upb, upo, rfl, hur, hup, huq, hum⟩ := id hu
  rw [li_len] at huq ⊢
  have HUR := hide hur
  have HUL := hide (li_len xs)
  have HX := hide hx
  have HP := hide hp
  clear hur hx hp hum
  go_enter Tryd.func44, Tryd.ntmps44
  go_wp2_with (first
    | (at_make; refine wpList_make_full _ rfl _ _ 83 rfl (w.heap.size + 1) 4 i0 (.bool false) 1 under72b hi hz0 hz1 _ _ _ _ n rfl rfl rfl rfl (by rw [hz2]; omega) (by unfold maxLen; omega) (by simp) ?_))
  intro w2 hown hgr
  have hM2 : Blk w2 (w.heap.size + 1) 4 ((bm n fun _ => false).map Value.bool) := by
    have := Blk.of_owns hown
    rw [made_rep] at this
    rw [bm_none, List.map_replicate]; exact this
  have hB2 : Below w.heap.size w w2 := hB0.grown hgr hB0.size (by simp)
  have hX2 := hX0.grown hgr (by simp)
  clear hown hgr c0 c1 hX0 hB0
  have hB3 := hB2.alloc hB2.size (.cells #[.slice (some ⟨w.heap.size + 1, 0, none⟩) n n] 83)
  have hX3 := hX2.alloc (.cells #[.slice (some ⟨w.heap.size + 1, 0, none⟩) n n] 83)
  have hM3 := hM2.alloc (.cells #[.slice (some ⟨w.heap.size + 1, 0, none⟩) n n] 83)
  have hI3 := Boxed.new w2 83 (.slice (some ⟨w.heap.size + 1, 0, none⟩) n n)
  have hs2 := hM2.lt
  have hQ3 : SpS w (w2.alloc (.cells #[.slice (some ⟨w.heap.size + 1, 0, none⟩) n n] 83)) n v w2.heap.size (fun _ => false) := ⟨hX3, hM3, hI3, hB3, hs2⟩
  obtain ⟨c0, c1, c2⟩ := hQ3.cells
  have HE := hide (fun W (h : Below w.heap.size w W) => E_ok n v zs W hg.tab (hv.below h))
  rw [hg.one] at HE
  have HM := hide (fun W a b (h : Below w.heap.size w W) (ha : a < n) (hb : b < n) => M_ok n v zs a b W hg.tab (hv.below h) ha hb)
  have helt := hg.elt
  have hei : (e : Int) < (n : Int) := by omega
  go_wp2_with fail
  clear hB3 hX3 hM3 hI3 hM2 hX2 hB2 c0 c1 c2
  generalize w2.alloc (.cells #[.slice (some ⟨w.heap.size + 1, 0, none⟩) n n] 83) = w3 at *
  generalize w2.heap.size = xb at *
  have hS : ∀ U, Below w3.heap.size w3 U → (Below w.heap.size w U ∧ U.cell? ⟨w.heap.size, 0, none⟩ = some (.int .i64 n) ∧ U.cell? ⟨w.heap.size, 1, none⟩ = some v ∧ U.cell? ⟨xb, 0, none⟩ = some (.slice (some ⟨w.heap.size + 1, 0, none⟩) n n)) := fun U hU => ⟨(hQ3.below hU).bel, (hQ3.below hU).cells⟩
  have hS3 : ∀ U, Below w3.heap.size w3 U → (Below w.heap.size w (U.setCell ⟨w.heap.size + 1, e, none⟩ (.bool true)) ∧ (U.setCell ⟨w.heap.size + 1, e, none⟩ (.bool true)).cell? ⟨w.heap.size, 0, none⟩ = some (.int .i64 n) ∧ (U.setCell ⟨w.heap.size + 1, e, none⟩ (.bool true)).cell? ⟨w.heap.size, 1, none⟩ = some v ∧ (U.setCell ⟨w.heap.size + 1, e, none⟩ (.bool true)).cell? ⟨xb, 0, none⟩ = some (.slice (some ⟨w.heap.size + 1, 0, none⟩) n n)) := fun U hU => ⟨((hQ3.below hU).put (y := e)).bel, ((hQ3.below hU).put (y := e)).cells⟩
  have hS0 := hS _ (bdrew (Below.refl _ w3))
  go_region_held3 (fun U => Below w.heap.size w U ∧ U.cell? ⟨w.heap.size, 0, none⟩ = some (.int .i64 n) ∧ U.cell? ⟨w.heap.size, 1, none⟩ = some v ∧ U.cell? ⟨xb, 0, none⟩ = some (.slice (some ⟨w.heap.size + 1, 0, none⟩) n n))
    (first | exact hS0 | assumption | exact hS _ hl2 | exact hS3 _ hl2)
    (first | (go_at_call 26; refine (HE.out _ (And.left ‹_›)).mono ?_; rintro e9 V1 ⟨rfl, hl1⟩; have hl2 := undrew' hl1; have hc1 := ((hQ3.below hl2).bit (y := e) helt).1; have hf1 := ((hQ3.below hl2).bit (y := e) helt).2))
  have hP9 := ((hQ3.below hl2).put (y := e))
  clear hS hS3 hS0 hc1 hf1
  generalize V1.setCell ⟨w.heap.size + 1, e, none⟩ (.bool true) = w4 at *
  go_wp2
  go_loopw [6] (fun i wr => ∃ k : Nat, k ≤ xs.length ∧ i = .int .i64 k ∧ SpS w wr n v xb (fun a => decide (a = e) || decide (a ∈ xs.take k))) (fun i _ => xs.length - (intOf i).toNat)
  case atStart => exact ⟨0, Nat.zero_le _, rfl, by simpa using hP9⟩
  case round =>
    obtain ⟨k, hk, rfl, hSk⟩ := hrel
    clear hP9 hl1 hl2
    obtain ⟨c0, c1, c2⟩ := hSk.cells
    by_cases hlt : k < xs.length
    · have hck := (HUR.out.below hSk.bel hup).cell k (by rw [HUL.out]; exact hlt)
      rw [li_get hlt] at hck
      obtain rfl := HUR.out.at_ (by rw [HUL.out]; omega)
      obtain ⟨x, hxe⟩ : ∃ x, xs[k] = x := ⟨_, rfl⟩
      have hxn : x < n := by rw [← hxe]; exact HX.out _ (List.getElem_mem hlt)
      have HSN := hide (show (fun a => (decide (a = e) || decide (a ∈ xs.take k)) || decide (a = x)) = fun a => decide (a = e) || decide (a ∈ xs.take (k + 1)) by
        funext a
        rw [← hxe]
        simp only [List.take_succ_eq_append_getElem hlt, List.mem_append, List.mem_singleton, Bool.decide_or, Bool.or_assoc])
      rw [hxe] at hck
      clear hxe
      have hxi : (x : Int) < (n : Int) := by omega
      obtain ⟨b0, b1⟩ := hSk.bit hxn
      have hP := (hSk.put (y := x)).drew
      rw [HSN.out] at hP
      go_wp2_with fail
      go_region
      all_goals (
        clear c0 c1 c2 hck b0 b1
        go_wp2
        go_roundw
        case rel => exact ⟨k + 1, by omega, by go_num, hP⟩
        case measure => simp [intOf]; omega)
    · have hkn : k = xs.length := by omega
      subst hkn
      rw [List.take_length] at hSk
      have hst : ∀ q' : Nat → Bool, (∀ a, q' a = (decide (a = e) || decide (a ∈ xs))) → Spn n zs e (fun a => decide (a ∈ xs)) q' q' false 0 0 := fun q' hq => Spn.start (by rw [hq]; simp) (fun a _ h => by rw [hq]; simp at h; simp [h]) (fun a ha h => by
        rw [hq] at h
        simp only [Bool.or_eq_true, decide_eq_true_eq] at h
        rcases h with rfl | h
        · exact (Fin.Gen.sg _).one
        · exact Fin.Gen.base (List.mem_range.2 ha) (by simpa using h))
      have hst0 := hst _ (fun a => rfl)
      clear hst
      generalize (fun a => decide (a = e) || decide (a ∈ xs)) = q0 at hSk hst0
      go_wp2
      go_loopw [7] (fun s7 wr => ∃ (ag : Bool) (q : Nat → Bool), s7 = .bool ag ∧ SpS w wr n v xb q ∧ Spn n zs e (fun a => decide (a ∈ xs)) q q false 0 0 ∧ (ag = false → ∀ a, a < n → (q a = true ↔ Mkd n zs e (fun a => decide (a ∈ xs)) a))) (fun s7 wr => if boolOf s7 then cntB (w.heap.size + 1) wr + 1 else 0)
      case atStart => exact ⟨true, q0, rfl, hSk, hst0, fun h => by cases h⟩
      case round =>
        obtain ⟨ag, q, rfl, hZ0, hN0, hfin⟩ := hrel
        have HCN := hide (cntB_blk hZ0.blk)
        clear c0 c1 c2
        cases ag with
        | false =>
          have HFI := hide (hfin rfl)
          have hlq : lst n q = lst n p := lst_congr fun a ha => by rw [Bool.eq_iff_iff, HFI.out a ha, HP.out a ha]
          obtain ⟨c0, c1, c2⟩ := hZ0.cells
          go_wp2_with fail
          have HTH := hide (rthose_ok n 65 v #[.pointer (some ⟨xb, 0, none⟩)] q wr hn (fun a W => callSp a _ W) (fun W a hW ha => spn1_ok n a xb (w.heap.size + 1) q W ha (hZ0.below hW).ind (hZ0.below hW).blk))
          rw [hlq] at HTH
          refine HTH.out.mono ?_
          rintro x w9 ⟨r, rfl, hr, hb9⟩
          go_wp2
          go_ret
          exact ⟨_, rfl, owns_mono hr hZ0.bel.size, bcat hZ0.bel hb9 hZ0.bel.size⟩
        | true =>
          clear hfin
          go_wp2
          go_loopw [7, 8] (fun s7 s8 wx => ∃ (ag' : Bool) (q' : Nat → Bool) (a : Nat), a ≤ n ∧ s7 = .bool ag' ∧ s8 = .int .i64 a ∧ SpS w wx n v xb q' ∧ Spn n zs e (fun a => decide (a ∈ xs)) q q' ag' a 0) (fun _ s8 _ => n - (intOf s8).toNat)
          case atStart => exact ⟨false, q, 0, by omega, rfl, rfl, hZ0, hN0⟩
          case round =>
            obtain ⟨ag', q', a, ha, rfl, rfl, hZ, hN⟩ := hrel
            obtain ⟨c0, c1, c2⟩ := hZ.cells
            by_cases hla : a < n
            · have hai : (a : Int) < (n : Int) := by omega
              go_wp2
              clear c0 c1 c2
              go_loopw [7, 9] (fun s7 s9 wx => ∃ (ag' : Bool) (q' : Nat → Bool) (b : Nat), b ≤ n ∧ s7 = .bool ag' ∧ s9 = .int .i64 b ∧ SpS w wx n v xb q' ∧ Spn n zs e (fun a => decide (a ∈ xs)) q q' ag' a b) (fun _ s9 _ => n - (intOf s9).toNat)
              case atStart => exact ⟨ag', q', 0, by omega, rfl, rfl, hZ, hN⟩
              case round =>
                clear hZ hN
                obtain ⟨ag', q', b, hb, rfl, rfl, hZ, hN⟩ := hrel
                obtain ⟨c0, c1, c2⟩ := hZ.cells
                by_cases hlb : b < n
                · have hbi : (b : Int) < (n : Int) := by omega
                  obtain ⟨ba, bf1⟩ := hZ.bit hla
                  obtain ⟨bb, bf2⟩ := hZ.bit hlb
                  cases hqa : q' a with
                  | false =>
                    rw [hqa] at ba
                    go_wp2_with fail
                    go_quiet (fail)
                    have hZq := hZ.drewN nq
                    have hNq := hN.skip (fun h1 h2 => by rw [hqa] at h1; cases h1)
                    clear c0 c1 c2 ba bb bf1 bf2
                    generalize wr.drewN nq = wq at *
                    go_wp2
                    go_roundw
                    case rel => exact ⟨ag', q', b + 1, by omega, rfl, by go_num, hZq, hNq⟩
                    case measure => simp [intOf]; omega
                  | true =>
                    rw [hqa] at ba
                    cases hqb : q' b with
                    | false =>
                      rw [hqb] at bb
                      go_wp2_with fail
                      go_quiet (fail)
                      have hZq := hZ.drewN nq
                      have hNq := hN.skip (fun h1 h2 => by rw [hqb] at h2; cases h2)
                      clear c0 c1 c2 ba bb bf1 bf2
                      generalize wr.drewN nq = wq at *
                      go_wp2
                      go_roundw
                      case rel => exact ⟨ag', q', b + 1, by omega, rfl, by go_num, hZq, hNq⟩
                      case measure => simp [intOf]; omega
                    | true =>
                      rw [hqb] at bb
                      have htn := tm_lt hg.tab hla hlb
                      have HMt := hide (fun W (h : Below w.heap.size w W) => HM.out W a b h hla hlb)
                      cases hqt : q' (tm n zs a b) with
                      | true =>
                        have hNs := hN.skip (fun _ _ => hqt)
                        generalize tm n zs a b = t at *
                        have hti : (t : Int) < (n : Int) := by omega
                        obtain ⟨t0, _⟩ := hZ.bit htn
                        rw [hqt] at t0
                        have hS : ∀ W, Below wr.heap.size wr W → (Below wr.heap.size wr W ∧ W.cell? ⟨w.heap.size, 0, none⟩ = some (.int .i64 n) ∧ W.cell? ⟨w.heap.size, 1, none⟩ = some v ∧ W.cell? ⟨xb, 0, none⟩ = some (.slice (some ⟨w.heap.size + 1, 0, none⟩) n n) ∧ W.cell? ⟨w.heap.size + 1, a, none⟩ = some (.bool true) ∧ W.cell? ⟨w.heap.size + 1, b, none⟩ = some (.bool true) ∧ W.cell? ⟨w.heap.size + 1, t, none⟩ = some (.bool true)) := fun W h => by
                          obtain ⟨x0, x1, x2⟩ := (hZ.below h).cells
                          exact ⟨h, x0, x1, x2, below_cell h ba, below_cell h bb, below_cell h t0⟩
                        have hS0 := hS _ (bdrew (Below.refl _ wr))
                        go_wp2_with fail
                        go_region_held3 (fun W => Below wr.heap.size wr W ∧ W.cell? ⟨w.heap.size, 0, none⟩ = some (.int .i64 n) ∧ W.cell? ⟨w.heap.size, 1, none⟩ = some v ∧ W.cell? ⟨xb, 0, none⟩ = some (.slice (some ⟨w.heap.size + 1, 0, none⟩) n n) ∧ W.cell? ⟨w.heap.size + 1, a, none⟩ = some (.bool true) ∧ W.cell? ⟨w.heap.size + 1, b, none⟩ = some (.bool true) ∧ W.cell? ⟨w.heap.size + 1, t, none⟩ = some (.bool true))
                          (first | exact hS0 | assumption | exact hS _ (bcat2 (And.left ‹_›) hl1))
                          (first | (go_at_call 15; refine (HMt.out _ (bcat hZ.bel (And.left ‹_›) hZ.bel.size)).mono ?_; rintro e1 U1 ⟨rfl, hl1⟩))
                        have hBU := And.left ‹Below wr.heap.size wr U1 ∧ _›
                        have hZU := hZ.below hBU
                        clear hS hS0 hl1 c0 c1 c2 ba bb bf1 bf2 t0
                        all_goals (
                          go_wp2
                          go_roundw
                          case rel => exact ⟨ag', q', b + 1, by omega, rfl, by go_num, hZU, hNs⟩
                          case measure => simp [intOf]; omega)
                      | false =>
                        have hNh := hN.hit hg hla hlb hqa hqb hqt
                        generalize tm n zs a b = t at *
                        have hti : (t : Int) < (n : Int) := by omega
                        obtain ⟨t0, _⟩ := hZ.bit htn
                        rw [hqt] at t0
                        have hS : ∀ W, Below wr.heap.size wr W → (Below wr.heap.size wr W ∧ W.cell? ⟨w.heap.size, 0, none⟩ = some (.int .i64 n) ∧ W.cell? ⟨w.heap.size, 1, none⟩ = some v ∧ W.cell? ⟨xb, 0, none⟩ = some (.slice (some ⟨w.heap.size + 1, 0, none⟩) n n) ∧ W.cell? ⟨w.heap.size + 1, a, none⟩ = some (.bool true) ∧ W.cell? ⟨w.heap.size + 1, b, none⟩ = some (.bool true) ∧ W.cell? ⟨w.heap.size + 1, t, none⟩ = some (.bool false)) := fun W h => by
                          obtain ⟨x0, x1, x2⟩ := (hZ.below h).cells
                          exact ⟨h, x0, x1, x2, below_cell h ba, below_cell h bb, below_cell h t0⟩
                        have hS0 := hS _ (bdrew (Below.refl _ wr))
                        go_wp2_with fail
                        go_region_held3 (fun W => Below wr.heap.size wr W ∧ W.cell? ⟨w.heap.size, 0, none⟩ = some (.int .i64 n) ∧ W.cell? ⟨w.heap.size, 1, none⟩ = some v ∧ W.cell? ⟨xb, 0, none⟩ = some (.slice (some ⟨w.heap.size + 1, 0, none⟩) n n) ∧ W.cell? ⟨w.heap.size + 1, a, none⟩ = some (.bool true) ∧ W.cell? ⟨w.heap.size + 1, b, none⟩ = some (.bool true) ∧ W.cell? ⟨w.heap.size + 1, t, none⟩ = some (.bool false))
                          (first | exact hS0 | assumption | exact hS _ (bcat2 (And.left ‹_›) hl1))
                          (first | (go_at_call 15; refine (HMt.out _ (bcat hZ.bel (And.left ‹_›) hZ.bel.size)).mono ?_; rintro e1 U1 ⟨rfl, hl1⟩))
                        have hBU := And.left ‹Below wr.heap.size wr U1 ∧ _›
                        have hZU := hZ.below hBU
                        clear hS hS0 hl1 c0 c1 c2 ba bb bf1 bf2 t0
                        obtain ⟨c0, c1, c2⟩ := hZU.cells
                        go_wp2_with fail
                        clear c0 c1 c2
                        have hS : ∀ U, Below U1.heap.size U1 U → (Below w.heap.size w U ∧ U.cell? ⟨w.heap.size, 0, none⟩ = some (.int .i64 n) ∧ U.cell? ⟨w.heap.size, 1, none⟩ = some v ∧ U.cell? ⟨xb, 0, none⟩ = some (.slice (some ⟨w.heap.size + 1, 0, none⟩) n n)) := fun U hU => ⟨(hZU.below hU).bel, (hZU.below hU).cells⟩
                        have hS3 : ∀ U, Below U1.heap.size U1 U → (Below w.heap.size w (U.setCell ⟨w.heap.size + 1, t, none⟩ (.bool true)) ∧ (U.setCell ⟨w.heap.size + 1, t, none⟩ (.bool true)).cell? ⟨w.heap.size, 0, none⟩ = some (.int .i64 n) ∧ (U.setCell ⟨w.heap.size + 1, t, none⟩ (.bool true)).cell? ⟨w.heap.size, 1, none⟩ = some v ∧ (U.setCell ⟨w.heap.size + 1, t, none⟩ (.bool true)).cell? ⟨xb, 0, none⟩ = some (.slice (some ⟨w.heap.size + 1, 0, none⟩) n n)) := fun U hU => ⟨((hZU.below hU).put (y := t)).bel, ((hZU.below hU).put (y := t)).cells⟩
                        have hS0 := hS _ (bdrew (Below.refl _ U1))
                        go_region_held3 (fun U => Below w.heap.size w U ∧ U.cell? ⟨w.heap.size, 0, none⟩ = some (.int .i64 n) ∧ U.cell? ⟨w.heap.size, 1, none⟩ = some v ∧ U.cell? ⟨xb, 0, none⟩ = some (.slice (some ⟨w.heap.size + 1, 0, none⟩) n n))
                          (first | exact hS0 | assumption | exact hS _ hl2 | exact hS3 _ hl2)
                          (first | (go_at_call 15; refine (HMt.out _ (And.left ‹_›)).mono ?_; rintro e9 V1 ⟨rfl, hl1⟩; have hl2 := undrew' hl1; have hc1 := ((hZU.below hl2).bit (y := t) htn).1; have hf1 := ((hZU.below hl2).bit (y := t) htn).2))
                        have hP9 := ((hZU.below hl2).put (y := t))
                        clear hS hS3 hS0 hc1 hf1
                        generalize V1.setCell ⟨w.heap.size + 1, t, none⟩ (.bool true) = wv at *
                        go_wp2
                        go_roundw
                        case rel => exact ⟨true, _, b + 1, by omega, rfl, by go_num, hP9, hNh⟩
                        case measure => simp [intOf]; omega
                · have hNr := hN.row (by omega)
                  have hbn : b = n := by omega
                  subst hbn
                  clear hN
                  go_wp2
                  go_roundw
                  case rel => exact ⟨ag', q', a + 1, by omega, rfl, by go_num, hZ, hNr⟩
                  case measure => simp [intOf]; omega
            · have hst9 := Spn.start hN.one hN.base hN.made
              have HMO := hide hN.more
              have HFN : Hid (ag' = false → ∀ x, x < n → (q' x = true ↔ Mkd n zs e (fun a => decide (a ∈ xs)) x)) := fun hag => by subst hag; exact hN.fin (by omega)
              have HC9 := hide (cntB_blk hZ.blk)
              go_wp2
              go_roundw
              case rel => exact ⟨ag', q', rfl, hZ, hst9, HFN.out⟩
              case measure =>
                simp only [boolOf, HC9.out, HCN.out]
                cases hag : ag' with
                | false => simp
                | true => have := HMO.out hag; simp; omega
end Go.Proofs.YtanbpjfdfnmjpaaDoor

namespace Go.Proofs.YtanbpjfdfnmjpaaDoor
open Go Go.RowKit

theorem news_of {W : World} {pb po : Nat} {zs : List Int} (h : ∀ j, j < zs.length → W.cell? ⟨pb, po + j, none⟩ = some (.int .i64 (zs[j]?.getD 0))) : ∀ j u, (zs.map (Value.int .i64))[j]? = some u → W.cell? ((⟨pb, po, none⟩ : Addr).add j) = some u := by
  intro j v hj
  rw [List.getElem?_map] at hj
  obtain ⟨z, hz, rfl⟩ := Option.map_eq_some_iff.1 hj
  have hjl := (List.getElem?_eq_some_iff.1 hz).1
  have := h j hjl
  rw [hz] at this
  rw [show (⟨pb, po, none⟩ : Addr).add j = ⟨pb, po + j, none⟩ by unfold Addr.add; split <;> simp_all]
  exact this
theorem li_app (xs ys : List Nat) : li xs ++ li ys = li (xs ++ ys) := by simp [li]
theorem li_at {xs : List Nat} {a : Nat} (h : a < xs.length) : (li xs)[a]?.getD 0 = ((xs[a]?.getD 0 : Nat) : Int) := by simp [li, h]
/-- The law's together, of two subgroups. -/
theorem tog_ok (n e : Nat) (v l m : Value) (zs : List Int) (q r : Nat → Bool) (T : Bool) (w : World) (hv : Sl w v zs) (hg : IsGrp n zs e) (hl : Sl w l (li (lst n q))) (hm : Sl w m (li (lst n r))) (hq : q e = true) (hr : r e = true) (hT : T = true ↔ TogP n zs e q r) :
    Calls Tryd.prog 24 #[.agg #[.int .i64 n, v], l, m] w fun x w' => x = .returned (.bool T) ∧ Below w.heap.size w w' := by
  have hn := hg.tab.le
  have hlq : 0 < (lst n q).length := List.length_pos_of_mem (mem_lst.2 ⟨hg.elt, hq⟩)
  have hlr : 0 < (lst n r).length := List.length_pos_of_mem (mem_lst.2 ⟨hg.elt, hr⟩)
  obtain ⟨p, hp⟩ := mkd_test n zs e (fun a => decide (a ∈ lst n q ++ lst n r))
  have hi := tog_iff hg hq hr hp
  obtain ⟨v1, v2, v3, rfl⟩ := sl_slice hv
  have hl0 := hl
  have hm0 := hm
  obtain ⟨la, lc, lb, lo, rfl, hlR, hlp, hlc, hlm⟩ := hl0
  obtain ⟨ma, mc, mb, mo, rfl, hmR, hmp, hmc, hmm⟩ := hm0
  obtain rfl := hlR.at_ (by rw [li_len]; exact hlq)
  obtain rfl := hmR.at_ (by rw [li_len]; exact hlr)
  rw [li_len] at hl hm hlc hmc ⊢
  rw [li_len]
  have hf : ∀ a, a < (lst n q).length → (lst n q)[a]?.getD 0 ∈ lst n q := fun a ha => by rw [List.getElem?_eq_getElem ha]; exact List.getElem_mem _
  have hf' : ∀ a, a < (lst n r).length → (lst n r)[a]?.getD 0 ∈ lst n r := fun a ha => by rw [List.getElem?_eq_getElem ha]; exact List.getElem_mem _
  have hlw : ∀ W, Below w.heap.size w W → ∀ a, a < (lst n q).length → W.cell? ⟨lb, lo + a, none⟩ = some (.int .i64 (((lst n q)[a]?.getD 0 : Nat) : Int)) := fun W hW a ha => by
    rw [← li_at ha]
    exact (hlR.below hW hlp).cell a (by rw [li_len]; exact ha)
  have hmw : ∀ W, Below w.heap.size w W → ∀ a, a < (lst n r).length → W.cell? ⟨mb, mo + a, none⟩ = some (.int .i64 (((lst n r)[a]?.getD 0 : Nat) : Int)) := fun W hW a ha => by
    rw [← li_at ha]
    exact (hmR.below hW hmp).cell a (by rw [li_len]; exact ha)
  refine tog_walk n v1 v2 v3 lb lo lc mb mo mc zs (li (lst n q)) (li (lst n r)) (lst n q).length (lst n r).length (lst n fun a => q a && r a).length (lst n p).length (fun a => (lst n q)[a]?.getD 0) (fun a => (lst n r)[a]?.getD 0) T w (Nat.le_trans (lst_len _ _) hn) (Nat.le_trans (lst_len _ _) hn) hlr
    (hide (li_len _)) (hide (li_len _)) (hide fun a ha => (mem_lst.1 (hf a ha)).1) (hide fun a ha => (mem_lst.1 (hf' a ha)).1) (hide hlw) (hide hmw)
    (hide fun W hW => news_of fun j hj => (hmR.below hW hmp).cell j hj) (hide fun W hW => ?_) (hide fun W hW => ?_) (hide fun W u hW hu => ?_) (hide fun W a b hW ha hb => M_ok n (.slice v1 v2 v3) zs a b W hg.tab (hv.below hW) ha hb) (hide ?_)
  · refine (both_ok _ _ (li (lst n q)) (li (lst n r)) W (hl.below hW) (hm.below hW) (by rw [li_len]; exact Nat.le_trans (lst_len _ _) hn)).mono ?_
    rintro x W' ⟨rv, rfl, hrow, hb⟩
    obtain ⟨a, c, rfl⟩ := row_len hrow
    rw [both_li, li_len]
    exact ⟨a, c, rfl, hb⟩
  · have := own_any _ (li (lst n q)) W (hl.below hW) (by rw [li_len]; have := lst_len n q; omega)
    rw [li_len] at this
    exact this
  · rw [li_app] at hu
    refine (span_ok n e (.slice v1 v2 v3) u zs (lst n q ++ lst n r) p W (hv.below hW) hg hu (fun x hx => ?_) (by rw [List.length_append]; have := lst_len n q; have := lst_len n r; omega) hp).mono ?_
    · rcases List.mem_append.1 hx with h | h
      · exact (mem_lst.1 h).1
      · exact (mem_lst.1 h).1
    · rintro x W' ⟨rv, rfl, hrow, hb⟩
      obtain ⟨a, c, rfl⟩ := row_len hrow
      rw [li_len]
      exact ⟨a, c, rfl, hb⟩
  · rw [hT, ← hi]
    refine and_congr_right fun _ => and_congr_right fun _ => ⟨fun h a b ha hb => h _ _ (hf a ha) (hf' b hb), fun h a b ha hb => ?_⟩
    obtain ⟨i, hi1, rfl⟩ := List.mem_iff_getElem.1 ha
    obtain ⟨k, hk1, rfl⟩ := List.mem_iff_getElem.1 hb
    have := h i k hi1 hk1
    simpa [List.getElem?_eq_getElem hi1, List.getElem?_eq_getElem hk1] using this
theorem dir_at (N : Int) (zs ls ms : List Int) (D : Bool) (hD1 : (dfault N zs ls ms).1 ≠ 0 → D = false) (hD2 : (dfault N zs ls ms).1 = 0 → ∃ n e : Nat, N = n ∧ IsGrp n zs e ∧ (D = true ↔ TogP n zs e (pset ls) (pset ms))) (u a b : Value) (W : World) (hu : Sl W u zs) (ha : Sl W a ls) (hb : Sl W b ms) (hT : Tab W) :
    Calls Tryd.prog 19 #[.agg #[.int .i64 N, u], a, b] W fun x W' => x = .returned (.tuple #[.bool D, .agg #[.int .i64 (dfault N zs ls ms).1, .int .i64 (dfault N zs ls ms).2]]) ∧ Below W.heap.size W W' := by
  obtain ⟨D', h1, h2, hc⟩ := dir_any N u a b zs ls ms W hu ha hb hT
  have : D' = D := by
    by_cases h : (dfault N zs ls ms).1 = 0
    · obtain ⟨n, e, rfl, hg, hi⟩ := hD2 h
      obtain ⟨n', e', hn', hg', _, _, _, _, _, hi'⟩ := h2 h
      obtain rfl : n = n' := by omega
      obtain rfl := grp_same hg hg'
      rw [Bool.eq_iff_iff]
      exact hi'.trans hi.symm
    · rw [hD1 h, h1 h]
  rw [this] at hc
  exact hc
theorem pdir_law (N : Int) (v l m : Value) (zs ls ms : List Int) (w : World) (hv : Sl w v zs) (hl : Sl w l ls) (hm : Sl w m ms) (hT : Tab w) (cv : zs.length * 8 ≤ 140737488355328) (cl : ls.length * 8 ≤ 140737488355328) (cm : ms.length * 8 ≤ 140737488355328) :
    Calls Tryd.prog 4 #[.agg #[.int .i64 N, v], l, m] w fun x w' => x = .returned (.bool true) ∧ Below w.heap.size w w' := by
  obtain ⟨D, hD1, hD2, _⟩ := dir_any N v l m zs ls ms w hv hl hm hT
  have hDA := dir_at N zs ls ms D hD1 (fun h => by obtain ⟨n, e, h1, h2, _, _, _, _, _, h3⟩ := hD2 h; exact ⟨n, e, h1, h2, h3⟩)
  obtain ⟨v1, v2, v3, rfl⟩ := sl_slice hv
  obtain ⟨l1, l2, l3, rfl⟩ := sl_slice hl
  obtain ⟨m1, m2, m3, rfl⟩ := sl_slice hm
  have hw0 : 0 < w.heap.size := hT.lt
  have HOG : ∀ W, Below w.heap.size w W → Calls Tryd.prog 8 #[.agg #[.int .i64 N, .slice v1 v2 v3]] W fun x W' => ∃ u1 u2 u3, x = .returned (.agg #[.int .i64 N, .slice u1 u2 u3]) ∧ Sl W' (.slice u1 u2 u3) zs ∧ Below W.heap.size W W' := fun W hW => by
    refine (ownGroup_any N (.slice v1 v2 v3) zs W (hv.below hW) cv).mono ?_
    rintro x W' ⟨u, rfl, hu, hb⟩
    obtain ⟨u1, u2, u3, rfl⟩ := sl_slice hu
    exact ⟨u1, u2, u3, rfl, hu, hb⟩
  have HOO : ∀ (x : Value) (xs : List Int), Sl w x xs → xs.length * 8 ≤ 140737488355328 → ∀ W, Below w.heap.size w W → Calls Tryd.prog 20 #[x] W fun y W' => ∃ u1 u2 u3, y = .returned (.slice u1 u2 u3) ∧ Sl W' (.slice u1 u2 u3) xs ∧ Below W.heap.size W W' := fun x xs hx cx W hW => by
    refine (own_any x xs W (hx.below hW) cx).mono ?_
    rintro y W' ⟨u, rfl, hu, hb⟩
    have hs : Sl W' u xs := Sl.of_own hu (Nat.lt_of_lt_of_le hw0 (Nat.le_trans hW.size hb.size))
    obtain ⟨u1, u2, u3, rfl⟩ := sl_slice hs
    exact ⟨u1, u2, u3, rfl, hs, hb⟩
  have HBE : ∀ W, Below w.heap.size w W → Calls Tryd.prog 6 #[] W fun x W' => x = .returned (.bool true) ∧ Below W.heap.size W W' := fun W hW => prodBegun_any W (hT.below hW)
  by_cases h1 : (ufault N zs ls).1 = 0
  · obtain ⟨n, e, rfl, hg, f1, s1, z1⟩ := ufault_zero h1
    have hn := hg.tab.le
    have hdf : dfault n zs ls ms = ufault n zs ms := by unfold dfault; rw [z1, if_neg (by simp)]
    have W1 := fun (T CL : Bool) => pdir_walk n v1 v2 v3 l1 l2 l3 m1 m2 m3 (dfault n zs ls ms).1 (dfault n zs ls ms).2 (ufault n zs ls).1 (ufault n zs ls).2 (lfault n ms).1 (lfault n ms).2 D CL T w (fun W u => Sl W u zs) (fun W u => Sl W u ls) (fun W u => Sl W u ms) (hide fun _ _ _ h hb => h.below hb) (hide fun _ _ _ h hb => h.below hb)
      (hide HOG) (hide (HOO _ ls hl cl)) (hide (HOO _ ms hm cm)) (hide fun W u a b hW hu ha hb => hDA u a b W hu ha hb (hT.below hW))
      (hide fun W hW => rsub_any n (.slice v1 v2 v3) (.slice l1 l2 l3) zs ls W (hv.below hW) (hl.below hW))
      (hide fun _ W hW => rlist_any n (.slice v1 v2 v3) (.slice m1 m2 m3) ms W hn (hm.below hW))
    by_cases h2 : (lfault n ms).1 = 0
    · have lf0 := (lfault_zero h2).1
      have hu2 := ufault_u hg lf0
      have HCL : ∀ W, Below w.heap.size w W → Calls Tryd.prog 23 #[.agg #[.int .i64 n, .slice v1 v2 v3], .slice m1 m2 m3] W fun x W' => x = .returned (.bool (subT n zs e (pset ms))) ∧ Below W.heap.size W W' := fun W hW => closed_set n e (.slice v1 v2 v3) (.slice m1 m2 m3) zs ms W (hv.below hW) hg (hm.below hW) lf0
      cases hcl : subT n zs e (pset ms) with
      | false =>
        rw [hcl] at HCL
        have hz : dfault n zs ls ms = (7, 0) := by rw [hdf, hu2, hcl]; rfl
        exact W1 false false (hide fun _ _ => HCL) (hide fun W _ => f_any 7 0 W) (hide HBE) (hide fun _ _ h => absurd h (by simp)) (.inr (.inr (.inl ⟨h1, h2, rfl, by rw [hz], by rw [hz], hD1 (by rw [hz]; simp)⟩)))
      | true =>
        rw [hcl] at HCL
        have hz : dfault n zs ls ms = (0, 0) := by rw [hdf, hu2, hcl]; rfl
        obtain ⟨n', e', hn', hg', _, _, _, _, _, hi⟩ := hD2 (by rw [hz])
        obtain rfl : n = n' := by omega
        obtain rfl := grp_same hg hg'
        have hls := set_lst (show (lfault n ls).1 = 0 by rw [f1])
        have hms := set_lst h2
        exact W1 D true (hide fun _ _ => HCL) (hide fun W _ => f_any 7 0 W) (hide HBE) (hide fun _ _ _ W hW => tog_ok n e (.slice v1 v2 v3) (.slice l1 l2 l3) (.slice m1 m2 m3) zs (pset ls) (pset ms) D W (hv.below hW) hg (by rw [← hls]; exact hl.below hW) (by rw [← hms]; exact hm.below hW) (subT_one s1) (subT_one hcl) hi)
          (.inr (.inr (.inr ⟨h1, h2, rfl, by rw [hz], by rw [hz, lf0], rfl⟩)))
    · have hz : dfault n zs ls ms = lfault n ms := by rw [hdf, ufault_s (by rw [sfault_l hg]; exact h2), sfault_l hg]
      exact W1 false false (hide fun _ h => absurd h h2) (hide fun W _ => f_any 7 0 W) (hide HBE) (hide fun _ h => absurd h h2) (.inr (.inl ⟨h1, h2, by rw [hz], by rw [hz], hD1 (by rw [hz]; exact h2)⟩))
  · have hz : dfault N zs ls ms = ufault N zs ls := by unfold dfault; rw [if_pos h1]
    exact pdir_walk N v1 v2 v3 l1 l2 l3 m1 m2 m3 (dfault N zs ls ms).1 (dfault N zs ls ms).2 (ufault N zs ls).1 (ufault N zs ls).2 0 0 D false false w (fun W u => Sl W u zs) (fun W u => Sl W u ls) (fun W u => Sl W u ms) (hide fun _ _ _ h hb => h.below hb) (hide fun _ _ _ h hb => h.below hb)
      (hide HOG) (hide (HOO _ ls hl cl)) (hide (HOO _ ms hm cm)) (hide fun W u a b hW hu ha hb => hDA u a b W hu ha hb (hT.below hW))
      (hide fun W hW => rsub_any N (.slice v1 v2 v3) (.slice l1 l2 l3) zs ls W (hv.below hW) (hl.below hW))
      (hide fun h => absurd h h1) (hide fun h => absurd h h1) (hide fun W _ => f_any 7 0 W) (hide HBE) (hide fun h => absurd h h1) (.inl ⟨h1, by rw [hz], by rw [hz], hD1 (by rw [hz]; exact h1)⟩)
end Go.Proofs.YtanbpjfdfnmjpaaDoor

namespace Go.Proofs.YtanbpjfdfnmjpaaDoor
open Go Go.RowKit

theorem those_sl2 {n k : Nat} {v : Value} {caps : Array Value} {p : Nat → Bool} {w : World} (h0 : 0 < w.heap.size) (h : Calls Tryd.prog 27 #[.agg #[.int .i64 n, v], .func (.func k) #[] caps] w fun x w' => ∃ r, x = .returned r ∧ Row w' w.heap.size r (li (lst n p)) ∧ Below w.heap.size w w') :
    Calls Tryd.prog 27 #[.agg #[.int .i64 n, v], .func (.func k) #[] caps] w fun x w' => ∃ a1 a2 a3, x = .returned (.slice a1 a2 a3) ∧ Sl w' (.slice a1 a2 a3) (li (lst n p)) ∧ Below w.heap.size w w' := by
  refine h.mono ?_
  rintro x w' ⟨r, rfl, hr, hb⟩
  have hs := row_sl hr (Nat.lt_of_lt_of_le h0 hb.size)
  obtain ⟨a1, a2, a3, rfl⟩ := sl_slice hs
  exact ⟨a1, a2, a3, rfl, hs, hb⟩
/-- Direct of two subgroups that are parts of a direct product. -/
theorem dir_yes (n e : Nat) (zs : List Int) (q r : Nat → Bool) (g : IsGrp n zs e) (s1 : subT n zs e q = true) (s2 : subT n zs e r = true) (T : TogP n zs e q r) (u a b : Value) (W : World) (hu : Sl W u zs) (ha : Sl W a (li (lst n q))) (hb : Sl W b (li (lst n r))) (hT : Tab W) :
    Calls Tryd.prog 19 #[.agg #[.int .i64 n, u], a, b] W fun x W' => x = .returned (.tuple #[.bool true, .agg #[.int .i64 0, .int .i64 0]]) ∧ Below W.heap.size W W' := by
  have f1 := lst_fault n q
  have f2 := lst_fault n r
  have t1 : subT n zs e (pset (li (lst n q))) = true := by rw [subT_congr g (q := q) (fun a ha => pset_lst ha)]; exact s1
  have t2 : subT n zs e (pset (li (lst n r))) = true := by rw [subT_congr g (q := r) (fun a ha => pset_lst ha)]; exact s2
  have z1 : ufault n zs (li (lst n q)) = (0, 0) := by rw [ufault_u g f1, t1]; rfl
  have z2 : ufault n zs (li (lst n r)) = (0, 0) := by rw [ufault_u g f2, t2]; rfl
  have hz : dfault n zs (li (lst n q)) (li (lst n r)) = (0, 0) := by unfold dfault; rw [z1, if_neg (by simp), z2]
  have := dir_at n zs (li (lst n q)) (li (lst n r)) true (fun h => absurd (by rw [hz]) h) (fun _ => ⟨n, e, rfl, g, ⟨fun _ => tog_congr T (fun a ha => pset_lst ha) (fun a ha => pset_lst ha), fun _ => rfl⟩⟩) u a b W hu ha hb hT
  rw [hz] at this
  exact this
theorem ppair_law (N M : Int) (v y : Value) (zs ys : List Int) (w : World) (hv : Sl w v zs) (hy : Sl w y ys) (hT : Tab w) :
    Calls Tryd.prog 5 #[.agg #[.int .i64 N, v], .agg #[.int .i64 M, y]] w fun x w' => x = .returned (.bool true) ∧ Below w.heap.size w w' := by
  have hp := prod_any N M zs ys v y
  have hw0 : 0 < w.heap.size := hT.lt
  have h0 : ∀ W, Below w.heap.size w W → 0 < W.heap.size := fun W h => Nat.lt_of_lt_of_le hw0 h.size
  obtain ⟨v1, v2, v3, rfl⟩ := sl_slice hv
  obtain ⟨y1, y2, y3, rfl⟩ := sl_slice hy
  have HBE : ∀ W, Below w.heap.size w W → Calls Tryd.prog 6 #[] W fun x W' => x = .returned (.bool true) ∧ Below W.heap.size W W' := fun W hW => prodBegun_any W (hT.below hW)
  rcases hp with ⟨n, m, e, d, rfl, rfl, g, h, h60⟩ | ⟨c, i, hc, hP⟩
  · have G := prod_grp g h h60
    refine ppair_good n m e d (n * m) v1 v2 v3 y1 y2 y3 w (by rw [Int.natCast_mul]) h60 (fun W u => Sl W u (mkT (n * m) (prodF n m zs ys))) (fun W u => Sl W u (li (lst (n * m) (pA m d)))) (hide fun _ _ _ h hb => h.below hb) (hide fun _ _ _ h hb => h.below hb) (fun W u => Sl W u (li (lst (n * m) (pB m e))))
      (hide HBE) (hide fun W hW => ?_) (hide fun W hW => rtwo_good n e m d (.slice v1 v2 v3) (.slice y1 y2 y3) zs ys W (hv.below hW) g (hy.below hW) h) (hide fun W hW => ?_) (hide fun W hW => ?_)
      (hide fun W u hb db hW hB hD => those_sl2 (h0 W hW) (rthose_ok (n * m) 28 u _ (pA m d) W h60 (fun a W => call28 a _ _ W) (fun W2 a h2 ha => pp1_ok hb db m d a (.slice y1 y2 y3) W2 h.tab.pos h.tab.le (blk_below hB h2) (Boxed.below hD h2))))
      (hide fun W u hb db hW hB hD => those_sl2 (h0 W hW) (rthose_ok (n * m) 29 u _ (pB m e) W h60 (fun a W => call29 a _ _ W) (fun W2 a h2 ha => pp2_ok hb db m e a (.slice y1 y2 y3) W2 h.tab.pos h.tab.le (blk_below hB h2) (Boxed.below hD h2) (by omega))))
      (hide fun W u a b hW hu ha hb => dir_yes (n * m) (e * m + d) _ (pA m d) (pB m e) G (pA_sub g h h60) (pB_sub g h h60) (pair_tog g h h60) u a b W hu ha hb (hT.below hW))
    · refine (prod_ok g h h60 (.slice v1 v2 v3) (.slice y1 y2 y3) W (hv.below hW) (hy.below hW)).mono ?_
      rintro x W' ⟨u, rfl, hu, hb⟩
      obtain ⟨p1, p2, p3, rfl⟩ := sl_slice hu
      exact ⟨p1, p2, p3, rfl, hu, hb⟩
    · have := E_ok n (.slice v1 v2 v3) zs W g.tab (hv.below hW)
      rw [g.one] at this
      exact this
    · have := E_ok m (.slice y1 y2 y3) ys W h.tab (hy.below hW)
      rw [h.one] at this
      exact this
  · exact ppair_bad N M c i v1 v2 v3 y1 y2 y3 w hc (hide HBE) (hide fun W hW => hP W (hv.below hW) (hy.below hW))
end Go.Proofs.YtanbpjfdfnmjpaaDoor
