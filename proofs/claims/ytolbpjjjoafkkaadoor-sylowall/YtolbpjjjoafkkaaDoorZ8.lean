/- What the document's Less answers. The law SylowAll at a group and a prime; the law. Condition: the library's table of places lies as its text lays it. The frame that all rows of this family share: how a table that came in reads. The frame that all rows of this family share: what the listed table gives a walk; how a list of ints that came in reads. -/
import Derived.Test.YtolbpjjjoafkkaaDoorZ7
import Derived.Deep.DeepCutAuto
import Derived.Test.YtolbpjjjoafkkaaDoorRows
import Derived.Test.YtolbpjjjoafkkaaDoorZ1
import Derived.ProofKit
import Derived.OpenShut
import Derived.ChangeOld
import Derived.Below
import Derived.SizedLaws
import Derived.LaidMore
import Derived.Stop.Joined
import Derived.Stop.LaidErr
import Derived.Lib.LaidTab
namespace Go.Proofs.YtolbpjjjoafkkaaDoor
open Go Go.RowKit

set_option maxRecDepth 100000 in
set_option maxHeartbeats 2000000 in
theorem less_ok (u v : Value) (xs ys : List Int) (w : World) (hu : Sl w u xs) (hv : Sl w v ys) (hl : xs.length = ys.length) :
    Calls Tryd.prog 21 #[u, v] w fun e w' => e = .returned (.bool (decide (cmpL xs ys < 0))) ∧ Below w.heap.size w w' := by
  obtain ⟨a, cap, pb, po, rfl, hr, hp, hc1, hm1⟩ := hu
  obtain ⟨b, cap', qb, qo, rfl, hs, hq, hc2, hm2⟩ := hv
  unfold maxLen at hm1 hm2
  have HL := hide hl
  have hle1 : xs.length ≤ ys.length := by omega
  have hle2 : ys.length ≤ xs.length := by omega
  clear hl
  go_enter Tryd.func21, Tryd.ntmps21
  go_wp2
  go_loopw [5] (fun i wr => ∃ k j : Nat, k ≤ xs.length ∧ i = .int .i64 k ∧ wr = w.drewN j ∧ cmpL xs ys = cmpL (xs.drop k) (ys.drop k)) (fun i _ => xs.length - (intOf i).toNat)
  case atStart => exact ⟨0, 0, Nat.zero_le _, rfl, rfl, by simp⟩
  case round =>
    obtain ⟨k, j, hk, rfl, rfl, hsame⟩ := hrel
    have HS := hide hsame
    clear hsame
    by_cases hlt : k < xs.length
    · have hlu : k < ys.length := by omega
      have hx := hr.cell k hlt
      have hy := hs.cell k hlu
      have HE := hide (cmpL_step hlt hlu)
      rw [List.getElem?_eq_getElem hlt, Option.getD_some] at hx
      rw [List.getElem?_eq_getElem hlu, Option.getD_some] at hy
      obtain rfl := hr.at_ (by omega)
      obtain rfl := hs.at_ (by omega)
      generalize xs[k] = x at *
      generalize ys[k] = y at *
      have hki : (k : Int) < (xs.length : Int) := by omega
      have hkj : (k : Int) < (ys.length : Int) := by omega
      by_cases hxy : x = y
      · have hb : (x != y) = false := by simp [hxy]
        have HN := hide (show cmpL xs ys = cmpL (xs.drop (k + 1)) (ys.drop (k + 1)) by
          rw [HS.out, HE.out, if_neg (by rw [Decidable.not_not]; exact cmpI_zero.2 hxy)])
        clear hxy
        go_wp2
        go_quiet (fail)
        go_wp2
        go_roundw
        case rel => exact ⟨k + 1, _, by omega, by go_num, rfl, HN.out⟩
        case measure => simp [intOf]; omega
      · have hb : (x != y) = true := by simp [hxy]
        have HD := hide (show decide (cmpL xs ys < 0) = decide (x < y) by
          rw [HS.out, HE.out, if_pos (fun h => hxy (cmpI_zero.1 h))]
          rw [Bool.eq_iff_iff, decide_eq_true_eq, decide_eq_true_eq]
          exact cmpI_lt)
        clear hxy
        go_wp2
        go_quiet (fail)
        go_wp2
        go_quiet (fail)
        go_wp2
        go_ret
        exact ⟨by rw [HD.out]; rfl, bdrewN (bdrewN (bdrewN (Below.refl _ w) _) _) _⟩
    · have HD := hide (show decide (cmpL xs ys < 0) = false by
        rw [HS.out, cmpL_end (by omega) (by omega)]; rfl)
      go_wp2
      go_ret
      exact ⟨by rw [HD.out]; rfl, bdrewN (Below.refl _ w) _⟩

end Go.Proofs.YtolbpjjjoafkkaaDoor

namespace Go.Proofs.YtolbpjjjoafkkaaDoor
open Go Go.RowKit

set_option maxRecDepth 100000 in
set_option maxHeartbeats 16000000 in
theorem sal_good (n e p : Nat) (v1 : Option Addr) (v2 v3 : Nat) (zs : List Int) (w : World) (hv : Sl w (.slice v1 v2 v3) zs) (hg : IsGrp n zs e) (hT : Tab w) (hz : zs.length * 8 ≤ 140737488355328) (hpr : primeB p = true) (hpf : pfault n zs p = (0, 0)) :
    Calls Tryd.prog 3 #[.agg #[.int .i64 n, .slice v1 v2 v3], .int .i64 p] w fun e w' => e = .returned (.bool true) ∧ Below w.heap.size w w' := by
  have hp2 : 2 ≤ p ∧ p ≤ 100 := by
    have := of_decide_eq_true hpr
    omega
  have hn := hg.tab.le
  have hn1 : 1 ≤ n := by have := hg.elt; omega
  have HOW := hide (fun W (h : Below w.heap.size w W) => ownGroup_any n (.slice v1 v2 v3) zs W (hv.below h) hz)
  have HAL := hide (fun W u (h : Below w.heap.size w W) (hu : Sl W u zs) => sall_nice n e p u zs W hu hg (hT.below h) hpr)
  have HCO := hide (fun W u (h : Below w.heap.size w W) (hu : Sl W u zs) => score_good n e p u zs W hu hg (hT.below h) hpr)
  have HPF := hide (fun W (h : Below w.heap.size w W) => pf_ok n p (.slice v1 v2 v3) zs W (hv.below h))
  rw [hpf] at HPF
  simp only at HPF
  have hB0 : Below w.heap.size w (w.alloc (.cells #[.int .i64 n, .slice v1 v2 v3] 24)) := balloc w _
  have hX0 : BoxG (w.alloc (.cells #[.int .i64 n, .slice v1 v2 v3] 24)) w.heap.size n (.slice v1 v2 v3) := blk0 (w := w) (T := 24) _ _
  obtain ⟨c0, c1, _, _⟩ := hX0.two
  go_enter Tryd.func3, Tryd.ntmps3
  go_wp2_with fail
  clear c0 c1
  generalize w.alloc (.cells #[.int .i64 n, .slice v1 v2 v3] 24) = w0 at *
  refine (HOW.out _ hB0).mono ?_
  rintro x w1 ⟨u, rfl, hu, hb1⟩
  obtain ⟨u1, u2, u3, rfl⟩ := hu.isSlice
  have hB1 := bcat2 hB0 hb1
  have hX1 := blk_below hX0 hb1
  go_wp2_with fail
  refine (HAL.out _ _ hB1 hu).mono ?_
  rintro x w2 ⟨lg, lc, s, A, ms, rfl, HA, hR2, hb2⟩
  obtain ⟨w3, hw3⟩ : ∃ W, W = (w2.alloc (.cells #[.slice (some ⟨lg, 0, none⟩) ms.length lc] 25)).alloc (.cells #[.int .i64 0, .int .i64 0] 27) := ⟨_, rfl⟩
  have hb3 : Below w2.heap.size w2 w3 := by rw [hw3]; exact (balloc w2 _).alloc (by simp) _
  have hL3 : Boxed w3 w2.heap.size 25 (.slice (some ⟨lg, 0, none⟩) ms.length lc) := by rw [hw3]; exact (Boxed.new w2 25 (.slice (some ⟨lg, 0, none⟩) ms.length lc)).alloc _
  have hF3 : Blk w3 (w2.heap.size + 1) 27 [.int .i64 0, .int .i64 0] := by
    have h := blk0 (w := w2.alloc (.cells #[.slice (some ⟨lg, 0, none⟩) ms.length lc] 25)) (T := 27) (.int .i64 0) (.int .i64 0)
    rw [World.size_alloc] at h
    rw [hw3]; exact h
  have hB3 := bcat2 hB1 (bcat2 hb2 hb3)
  have hX3 := blk_below hX1 (bcat2 hb2 hb3)
  have hR3 := hR2.below hb3
  obtain ⟨c0, c1, _, _⟩ := hX3.two
  rw [hw3] at c0 c1
  go_wp2_with fail
  rw [← hw3]
  clear hw3 c0 c1 hu
  refine (HOW.out _ hB3).mono ?_
  rintro x w4 ⟨u, rfl, hu, hb4⟩
  obtain ⟨u1, u2, u3, rfl⟩ := hu.isSlice
  go_wp2_with fail
  refine (HCO.out _ _ (bcat2 hB3 hb4) hu).mono ?_
  rintro x w5 ⟨cv, s', A', rfl, hgr', hA', hall', hcs, hb5⟩
  have hcs := hcs.sl
  have hcore : lst n (cin n zs e s' A') = lst n (inall ms) := lst_congr fun x hx => by
    rw [Bool.eq_iff_iff, HA.core hg hpr hgr' hA' hall' hx, inall_iff]
  rw [hcore] at hcs
  clear hcore hall' hA' hgr'
  obtain ⟨Lk, hLk⟩ : ∃ Lk, Lk = li (lst n (inall ms)) := ⟨_, rfl⟩
  rw [← hLk] at hcs
  have HLK := hide hLk
  clear hLk
  obtain ⟨cv1, cv3, _, _, rfl, _⟩ := id hcs
  obtain ⟨w6, hw6⟩ : ∃ W, W = w5.alloc (.cells #[.int .i64 0, .int .i64 0] 27) := ⟨_, rfl⟩
  have hb6 : Below w5.heap.size w5 w6 := by rw [hw6]; exact balloc w5 _
  have hG6 : Blk w6 w5.heap.size 27 [.int .i64 0, .int .i64 0] := by rw [hw6]; exact blk0 _ _
  have hb36 := bcat2 hb4 (bcat2 hb5 hb6)
  have hB6 := bcat2 hB3 hb36
  have hX6 := blk_below hX3 hb36
  have hF6 := blk_below hF3 hb36
  have hL6 := Boxed.below hL3 hb36
  obtain ⟨c0, c1, _, _⟩ := hX6.two
  rw [hw6] at c0 c1
  go_wp2_with fail
  rw [← hw6]
  clear hw6 c0 c1 hu
  refine (HPF.out _ hB6).mono ?_
  rintro x w7 ⟨rfl, hb7⟩
  obtain ⟨w8, hw8⟩ : ∃ W, W = w7.alloc (.cells #[.int .i64 0, .int .i64 0] 27) := ⟨_, rfl⟩
  have hb8 : Below w7.heap.size w7 w8 := by rw [hw8]; exact balloc w7 _
  have hP8 : Blk w8 w7.heap.size 27 [.int .i64 0, .int .i64 0] := by rw [hw8]; exact blk0 _ _
  have hb68 := bcat2 hb7 hb8
  have hB8 := bcat2 hB6 hb68
  go_wp2_with fail
  rw [← hw8]
  clear hw8
  refine (sylowBegun_any _ (hT.below hB8)).mono ?_
  rintro x w9 ⟨rfl, hb9⟩
  have hb69 := bcat2 hb68 hb9
  have hB9 := bcat2 hB6 hb69
  have hX9 := blk_below hX6 hb69
  obtain ⟨f0, f1, _, _⟩ := (blk_below hF6 hb69).two
  obtain ⟨g0, g1, _, _⟩ := (blk_below hG6 hb69).two
  obtain ⟨p0, p1, _, _⟩ := (blk_below hP8 hb9).two
  obtain ⟨c0, c1, _, _⟩ := hX9.two
  have hL9 := Boxed.below hL6 hb69
  have l0 := hL9.cell
  have hR9 := hR3.below (bcat2 hb36 hb69)
  have hcs9 := hcs.below (bcat2 hb6 hb69)
  go_wp2_with fail
  clear f0 f1 g0 g1 p0 p1 c0 c1 l0
  refine (powerIn_ok n p w9 hn1 hn hp2.1 hp2.2).mono ?_
  rintro x w10 ⟨v, j, rfl, hvj, hnd, hb10⟩
  have hpj := grown_len hg hpr HA.gr hvj hnd
  have hpos := HA.pos hg.elt
  have hfit := HA.fits
  have hmod := HA.modp hg hpr
  have hdiv := HA.divs hg hpr
  have HSZ := hide (fun j (hj : j < ms.length) => HA.size hg hj)
  have HONE := hide (fun j (hj : j < ms.length) => HA.one hj)
  have HSUB := hide (fun a (ha : a ∈ A) => cj_sg hg HA.gr.sub (HA.lt a ha))
  have HLS := hide (HA.less)
  obtain ⟨c00, hc00, hms0⟩ := HA.one hpos
  obtain ⟨xs0, hxs0⟩ : ∃ xs, xs = lst n (cjq n zs e s c00) := ⟨_, rfl⟩
  rw [← hxs0] at hms0
  have HX0 := hide (show ∀ x, x ∈ xs0 → x < n from fun x hx => (mem_lst.1 (hxs0 ▸ hx)).1)
  have HMV := hide (fun a (ha : a < n) => HA.moved hg hms0 ha)
  have HRC := hide (fun j (hj : j < ms.length) => HA.reach hg hms0 hj)
  rw [← hpj] at hvj ⊢
  have hL1 : 1 ≤ (lst n s).length := (Fin.sg_fg (grp_fg hg) (subT_iff.1 HA.gr.sub)).pos
  have hLn : (lst n s).length ≤ 60 := Nat.le_trans (lst_len _ _) hn
  clear hxs0 HA hpj hvj hnd
  have hme : ms ≠ [] := fun h => by rw [h] at hpos; simp at hpos
  generalize hLq : (lst n s).length = Lq at *
  have hB10 := bcat2 hB9 hb10
  have hX10 := blk_below hX9 hb10
  have hL10 := Boxed.below hL9 hb10
  have hR10 := hR9.below hb10
  have hcs10 := hcs9.below hb10
  obtain ⟨c0, c1, _, _⟩ := hX10.two
  have l0 := hL10.cell
  have hlt : ¬ ((ms.length : Int) < 1) := by omega
  have hpz : ¬ ((p : Int) = 0) := by omega
  have hlz : ¬ ((Lq : Int) = 0) := by omega
  have hmz : ¬ ((ms.length : Int) = 0) := by omega
  have hmp : Int.tmod (ms.length : Int) (p : Int) = 1 := by
    rw [Int.tmod_eq_emod_of_nonneg (by omega), ← Int.natCast_emod, hmod]; rfl
  obtain ⟨Q9, hQ9⟩ : ∃ Q : Nat, Q = n / Lq := ⟨_, rfl⟩
  have hQ6 : Q9 ≤ 60 := by rw [hQ9]; exact Nat.le_trans (Nat.div_le_self _ _) hn
  have hdq : Int.tdiv (n : Int) (Lq : Int) = (Q9 : Int) := by
    rw [Int.tdiv_eq_ediv_of_nonneg (by omega), ← Int.natCast_ediv, hQ9]
  have hmq : Int.tmod (Q9 : Int) (ms.length : Int) = 0 := by
    rw [Int.tmod_eq_emod_of_nonneg (by omega), ← Int.natCast_emod, hQ9, hdiv]; rfl
  have hwq : IntKind.i64.wrap (Q9 : Int) = (Q9 : Int) := by rw [IntKind.wrap_i64]; omega
  clear hQ9 hdiv hmod
  have hS : ∀ W, Below w10.heap.size w10 W → (Below w10.heap.size w10 W ∧ W.cell? ⟨w.heap.size, 0, none⟩ = some (.int .i64 n) ∧ W.cell? ⟨w.heap.size, 1, none⟩ = some (.slice v1 v2 v3) ∧ W.cell? ⟨w2.heap.size, 0, none⟩ = some (.slice (some ⟨lg, 0, none⟩) ms.length lc)) := fun W h => ⟨h, below_cell h c0, below_cell h c1, below_cell h l0⟩
  have hS0 := hS _ (bdrew (Below.refl _ w10))
  go_wp2_with fail
  clear c0 c1 l0
  refine wp_region_held_drew (S := fun W => (Below w10.heap.size w10 W ∧ W.cell? ⟨w.heap.size, 0, none⟩ = some (.int .i64 n) ∧ W.cell? ⟨w.heap.size, 1, none⟩ = some (.slice v1 v2 v3) ∧ W.cell? ⟨w2.heap.size, 0, none⟩ = some (.slice (some ⟨lg, 0, none⟩) ms.length lc))) (by kernel_rfl) hS0 (fun hHeld => ?_)
  refine wpAnyH_take (i := 0) (oi := ({ dst := some 64, op := Go.Op.load 25 (Go.Operand.tmp 5), type := 25, pos := _, after := #[], guard := none } : Oper)) (v := ?_) rfl (by kernel_rfl) (by kernel_rfl) (by kernel_rfl) (fun _ _ _ h => h) (Or.inl ⟨by rfl, ?_⟩) (by assumption) ?_
  rotate_left
  · (intro w hSw; (try dsimp only at hSw); go_simp; try with_reducible rfl)
  simp only [Act.put, List.setIfInBounds_toArray, List.set_cons_zero, List.set_cons_succ]
  refine wpAnyH_take (i := 1) (oi := ({ dst := some 65, op := Go.Op.call { callee := Go.Callee.builtin Go.Builtin.len, args := #[Go.Operand.tmp 64], argTypes := #[25] }, type := 3, pos := _, after := #[{ on := 0, ground := Go.Ground.data }], guard := none } : Oper)) (v := ?_) rfl (by kernel_rfl) (by kernel_rfl) (by kernel_rfl) (fun _ _ _ h => h) (Or.inl ⟨by rfl, ?_⟩) (by assumption) ?_
  rotate_left
  · (intro w hSw; (try dsimp only at hSw); go_simp; try with_reducible rfl)
  simp only [Act.put, List.setIfInBounds_toArray, List.set_cons_zero, List.set_cons_succ]
  refine wpAnyH_take (i := 2) (oi := ({ dst := some 66, op := Go.Op.binOp Go.BinOp.lss 3 (Go.Operand.tmp 65) (Go.Operand.const (Go.Value.int Go.IntKind.i64 1)) 3, type := 4, pos := _, after := #[{ on := 1, ground := Go.Ground.data }], guard := none } : Oper)) (v := .bool false) rfl (by kernel_rfl) (by kernel_rfl) (by kernel_rfl) (fun _ _ _ h => h) (Or.inl ⟨by rfl, ?_⟩) (by assumption) ?_
  · (intro w hSw; (try dsimp only at hSw); go_simp; try (first | with_reducible rfl | (simp; done) | omega | (simp; omega)))
  simp only [Act.put, List.setIfInBounds_toArray, List.set_cons_zero, List.set_cons_succ]
  refine wpAnyH_take (i := 3) (oi := ({ dst := some 67, op := Go.Op.move (Go.Operand.tmp 66), type := 4, pos := _, after := #[{ on := 2, ground := Go.Ground.data }], guard := none } : Oper)) (v := ?_) rfl (by kernel_rfl) (by kernel_rfl) (by kernel_rfl) (fun _ _ _ h => h) (Or.inl ⟨by rfl, ?_⟩) (by assumption) ?_
  rotate_left
  · (intro w hSw; (try dsimp only at hSw); go_simp; try with_reducible rfl)
  simp only [Act.put, List.setIfInBounds_toArray, List.set_cons_zero, List.set_cons_succ]
  refine wpAnyH_take (i := 4) (oi := ({ dst := some 68, op := Go.Op.load 25 (Go.Operand.tmp 5), type := 25, pos := _, after := #[{ on := 3, ground := Go.Ground.guard }], guard := some (3, false) } : Oper)) (v := ?_) rfl (by kernel_rfl) (by kernel_rfl) (by kernel_rfl) (fun _ _ _ h => h) (Or.inl ⟨by rfl, ?_⟩) (by assumption) ?_
  rotate_left
  · (intro w hSw; (try dsimp only at hSw); go_simp; try with_reducible rfl)
  simp only [Act.put, List.setIfInBounds_toArray, List.set_cons_zero, List.set_cons_succ]
  refine wpAnyH_take (i := 5) (oi := ({ dst := some 69, op := Go.Op.call { callee := Go.Callee.builtin Go.Builtin.len, args := #[Go.Operand.tmp 68], argTypes := #[25] }, type := 3, pos := _, after := #[{ on := 4, ground := Go.Ground.data }, { on := 3, ground := Go.Ground.guard }], guard := some (3, false) } : Oper)) (v := ?_) rfl (by kernel_rfl) (by kernel_rfl) (by kernel_rfl) (fun _ _ _ h => h) (Or.inl ⟨by rfl, ?_⟩) (by assumption) ?_
  rotate_left
  · (intro w hSw; (try dsimp only at hSw); go_simp; try with_reducible rfl)
  simp only [Act.put, List.setIfInBounds_toArray, List.set_cons_zero, List.set_cons_succ]
  refine wpAnyH_take (i := 6) (oi := ({ dst := some 70, op := Go.Op.move (Go.Operand.tmp 1), type := 3, pos := _, after := #[{ on := 3, ground := Go.Ground.guard }], guard := some (3, false) } : Oper)) (v := ?_) rfl (by kernel_rfl) (by kernel_rfl) (by kernel_rfl) (fun _ _ _ h => h) (Or.inl ⟨by rfl, ?_⟩) (by assumption) ?_
  rotate_left
  · (intro w hSw; (try dsimp only at hSw); go_simp; try with_reducible rfl)
  simp only [Act.put, List.setIfInBounds_toArray, List.set_cons_zero, List.set_cons_succ]
  refine wpAnyH_take (i := 7) (oi := ({ dst := some 71, op := Go.Op.binOp Go.BinOp.rem 3 (Go.Operand.tmp 69) (Go.Operand.tmp 70) 3, type := 3, pos := _, after := #[{ on := 5, ground := Go.Ground.data }, { on := 6, ground := Go.Ground.data }, { on := 3, ground := Go.Ground.guard }], guard := some (3, false) } : Oper)) (v := .int .i64 1) rfl (by kernel_rfl) (by kernel_rfl) (by kernel_rfl) (fun _ _ _ h => h) (Or.inl ⟨by rfl, ?_⟩) (by assumption) ?_
  · (intro w hSw; (try dsimp only at hSw); go_simp; try (first | with_reducible rfl | (simp; done) | (simp [hmp]; omega) | omega | (simp; omega)))
  simp only [Act.put, List.setIfInBounds_toArray, List.set_cons_zero, List.set_cons_succ]
  refine wpAnyH_take (i := 8) (oi := ({ dst := some 72, op := Go.Op.binOp Go.BinOp.neq 3 (Go.Operand.tmp 71) (Go.Operand.const (Go.Value.int Go.IntKind.i64 1)) 3, type := 4, pos := _, after := #[{ on := 7, ground := Go.Ground.data }, { on := 3, ground := Go.Ground.guard }], guard := some (3, false) } : Oper)) (v := .bool false) rfl (by kernel_rfl) (by kernel_rfl) (by kernel_rfl) (fun _ _ _ h => h) (Or.inl ⟨by rfl, ?_⟩) (by assumption) ?_
  · (intro w hSw; (try dsimp only at hSw); go_simp; try (first | with_reducible rfl | (simp; done) | omega | (simp; omega)))
  simp only [Act.put, List.setIfInBounds_toArray, List.set_cons_zero, List.set_cons_succ]
  refine wpAnyH_take (i := 9) (oi := ({ dst := some 73, op := Go.Op.pick (Go.Operand.tmp 67) (Go.Operand.const (Go.Value.bool true)) (Go.Operand.tmp 72), type := 4, pos := _, after := #[{ on := 3, ground := Go.Ground.data }, { on := 8, ground := Go.Ground.data }], guard := none } : Oper)) (v := .bool false) rfl (by kernel_rfl) (by kernel_rfl) (by kernel_rfl) (fun _ _ _ h => h) (Or.inl ⟨by rfl, ?_⟩) (by assumption) ?_
  · (intro w hSw; (try dsimp only at hSw); go_simp; try (first | with_reducible rfl | (simp; done) | omega | (simp; omega)))
  simp only [Act.put, List.setIfInBounds_toArray, List.set_cons_zero, List.set_cons_succ]
  refine wpAnyH_take (i := 10) (oi := ({ dst := some 74, op := Go.Op.move (Go.Operand.tmp 73), type := 4, pos := _, after := #[{ on := 9, ground := Go.Ground.data }, { on := 3, ground := Go.Ground.chain }], guard := none } : Oper)) (v := ?_) rfl (by kernel_rfl) (by kernel_rfl) (by kernel_rfl) (fun _ _ _ h => h) (Or.inl ⟨by rfl, ?_⟩) (by assumption) ?_
  rotate_left
  · (intro w hSw; (try dsimp only at hSw); go_simp; try with_reducible rfl)
  simp only [Act.put, List.setIfInBounds_toArray, List.set_cons_zero, List.set_cons_succ]
  refine wpAnyH_take (i := 11) (oi := ({ dst := some 75, op := Go.Op.fieldAddr 24 (Go.Operand.tmp 2) 0, type := 0, pos := _, after := #[{ on := 10, ground := Go.Ground.guard }], guard := some (10, false) } : Oper)) (v := ?_) rfl (by kernel_rfl) (by kernel_rfl) (by kernel_rfl) (fun _ _ _ h => h) (Or.inl ⟨by rfl, ?_⟩) (by assumption) ?_
  rotate_left
  · (intro w hSw; (try dsimp only at hSw); go_simp; try with_reducible rfl)
  simp only [Act.put, List.setIfInBounds_toArray, List.set_cons_zero, List.set_cons_succ]
  refine wpAnyH_take (i := 12) (oi := ({ dst := some 76, op := Go.Op.load 3 (Go.Operand.tmp 75), type := 3, pos := _, after := #[{ on := 11, ground := Go.Ground.data }, { on := 10, ground := Go.Ground.guard }], guard := some (10, false) } : Oper)) (v := ?_) rfl (by kernel_rfl) (by kernel_rfl) (by kernel_rfl) (fun _ _ _ h => h) (Or.inl ⟨by rfl, ?_⟩) (by assumption) ?_
  rotate_left
  · (intro w hSw; (try dsimp only at hSw); go_simp; try with_reducible rfl)
  simp only [Act.put, List.setIfInBounds_toArray, List.set_cons_zero, List.set_cons_succ]
  refine wpAnyH_take (i := 13) (oi := ({ dst := some 77, op := Go.Op.move (Go.Operand.tmp 10), type := 3, pos := _, after := #[{ on := 10, ground := Go.Ground.guard }], guard := some (10, false) } : Oper)) (v := ?_) rfl (by kernel_rfl) (by kernel_rfl) (by kernel_rfl) (fun _ _ _ h => h) (Or.inl ⟨by rfl, ?_⟩) (by assumption) ?_
  rotate_left
  · (intro w hSw; (try dsimp only at hSw); go_simp; try with_reducible rfl)
  simp only [Act.put, List.setIfInBounds_toArray, List.set_cons_zero, List.set_cons_succ]
  refine wpAnyH_take (i := 14) (oi := ({ dst := some 78, op := Go.Op.binOp Go.BinOp.quo 3 (Go.Operand.tmp 76) (Go.Operand.tmp 77) 3, type := 3, pos := _, after := #[{ on := 12, ground := Go.Ground.data }, { on := 13, ground := Go.Ground.data }, { on := 10, ground := Go.Ground.guard }], guard := some (10, false) } : Oper)) (v := .int .i64 Q9) rfl (by kernel_rfl) (by kernel_rfl) (by kernel_rfl) (fun _ _ _ h => h) (Or.inl ⟨by rfl, ?_⟩) (by assumption) ?_
  · (intro w hSw; (try dsimp only at hSw); go_simp; try (first | with_reducible rfl | (simp; done) | (simp [hdq, hwq, hlz]; done) | (simp [hdq, hwq, hlz]; omega) | omega | (simp; omega)))
  simp only [Act.put, List.setIfInBounds_toArray, List.set_cons_zero, List.set_cons_succ]
  refine wpAnyH_take (i := 15) (oi := ({ dst := some 79, op := Go.Op.load 25 (Go.Operand.tmp 5), type := 25, pos := _, after := #[{ on := 10, ground := Go.Ground.guard }], guard := some (10, false) } : Oper)) (v := ?_) rfl (by kernel_rfl) (by kernel_rfl) (by kernel_rfl) (fun _ _ _ h => h) (Or.inl ⟨by rfl, ?_⟩) (by assumption) ?_
  rotate_left
  · (intro w hSw; (try dsimp only at hSw); go_simp; try with_reducible rfl)
  simp only [Act.put, List.setIfInBounds_toArray, List.set_cons_zero, List.set_cons_succ]
  refine wpAnyH_take (i := 16) (oi := ({ dst := some 80, op := Go.Op.call { callee := Go.Callee.builtin Go.Builtin.len, args := #[Go.Operand.tmp 79], argTypes := #[25] }, type := 3, pos := _, after := #[{ on := 15, ground := Go.Ground.data }, { on := 10, ground := Go.Ground.guard }], guard := some (10, false) } : Oper)) (v := ?_) rfl (by kernel_rfl) (by kernel_rfl) (by kernel_rfl) (fun _ _ _ h => h) (Or.inl ⟨by rfl, ?_⟩) (by assumption) ?_
  rotate_left
  · (intro w hSw; (try dsimp only at hSw); go_simp; try with_reducible rfl)
  simp only [Act.put, List.setIfInBounds_toArray, List.set_cons_zero, List.set_cons_succ]
  refine wpAnyH_take (i := 17) (oi := ({ dst := some 81, op := Go.Op.binOp Go.BinOp.rem 3 (Go.Operand.tmp 78) (Go.Operand.tmp 80) 3, type := 3, pos := _, after := #[{ on := 14, ground := Go.Ground.data }, { on := 16, ground := Go.Ground.data }, { on := 10, ground := Go.Ground.guard }], guard := some (10, false) } : Oper)) (v := .int .i64 0) rfl (by kernel_rfl) (by kernel_rfl) (by kernel_rfl) (fun _ _ _ h => h) (Or.inl ⟨by rfl, ?_⟩) (by assumption) ?_
  · (intro w hSw; (try dsimp only at hSw); go_simp; try (first | with_reducible rfl | (simp; done) | (simp [hmq, hme]; done) | omega | (simp; omega)))
  simp only [Act.put, List.setIfInBounds_toArray, List.set_cons_zero, List.set_cons_succ]
  refine wpAnyH_take (i := 18) (oi := ({ dst := some 82, op := Go.Op.binOp Go.BinOp.neq 3 (Go.Operand.tmp 81) (Go.Operand.const (Go.Value.int Go.IntKind.i64 0)) 3, type := 4, pos := _, after := #[{ on := 17, ground := Go.Ground.data }, { on := 10, ground := Go.Ground.guard }], guard := some (10, false) } : Oper)) (v := .bool false) rfl (by kernel_rfl) (by kernel_rfl) (by kernel_rfl) (fun _ _ _ h => h) (Or.inl ⟨by rfl, ?_⟩) (by assumption) ?_
  · (intro w hSw; (try dsimp only at hSw); go_simp; try (first | with_reducible rfl | (simp; done) | omega | (simp; omega)))
  simp only [Act.put, List.setIfInBounds_toArray, List.set_cons_zero, List.set_cons_succ]
  refine wpAnyH_take (i := 19) (oi := ({ dst := some 83, op := Go.Op.pick (Go.Operand.tmp 74) (Go.Operand.const (Go.Value.bool true)) (Go.Operand.tmp 82), type := 4, pos := _, after := #[{ on := 10, ground := Go.Ground.data }, { on := 18, ground := Go.Ground.data }], guard := none } : Oper)) (v := .bool false) rfl (by kernel_rfl) (by kernel_rfl) (by kernel_rfl) (fun _ _ _ h => h) (Or.inl ⟨by rfl, ?_⟩) (by assumption) ?_
  · (intro w hSw; (try dsimp only at hSw); go_simp; try (first | with_reducible rfl | (simp; done) | omega | (simp; omega)))
  simp only [Act.put, List.setIfInBounds_toArray, List.set_cons_zero, List.set_cons_succ]
  refine wpAnyH_done (by kernel_rfl) ?_ _
  clear hHeld hS hS0
  have hB11 : Below w10.heap.size w10 w10.drew := bdrew (Below.refl _ w10)
  have hfld : ∀ W, Sem.run Tryd.prog (Instr.field 27 (.agg #[.int .i64 0, .int .i64 0]) 0) W = .ok (.int .i64 0) W := fun W => by kernel_rfl
  have HLI := hide (fun W u xs (hu : Sl W u (li (lst n xs))) => rlist_any n (.slice v1 v2 v3) u _ W hn hu)
  have HCLO := hide (fun W u (q : Nat → Bool) (h : Below w.heap.size w W) (hu : Sl W u (li (lst n q))) => closed_ok n e (.slice v1 v2 v3) u zs (lst n q) W (hv.below h) hg hu (fun x hx => (mem_lst.1 hx).1) (Nat.le_trans (lst_len _ _) (by omega)))
  clear hmp hdq hmq hwq hlz hpz hlt hmz
  go_wp2_with fail
  go_loopw [11] (fun i wr => ∃ k : Nat, k ≤ ms.length ∧ i = .int .i64 k ∧ Below w10.heap.size w10 wr) (fun i _ => ms.length - (intOf i).toNat)
  case atStart => exact ⟨0, Nat.zero_le _, rfl, hB11⟩
  case round =>
    obtain ⟨k, hk, rfl, hbr⟩ := hrel
    have l0 := (Boxed.below hL10 hbr).cell
    by_cases hlt : k < ms.length
    · have hki : (k : Int) < (ms.length : Int) := by omega
      obtain ⟨c0, c1, _, _⟩ := (blk_below hX10 hbr).two
      have hBr := bcat2 hB10 hbr
      obtain ⟨a1, a3, ha0, haS⟩ := (hR10.below hbr) k hlt
      rw [HSZ.out k hlt] at ha0 haS
      obtain ⟨ca, hca, hck⟩ := HONE.out k hlt
      have haQ := haS
      rw [hck] at haQ
      have hsb := HSUB.out ca hca
      have hcl : (subT n zs e fun a => decide (a ∈ lst n (cjq n zs e s ca))) = true := by
        rw [subT_congr hg (q := cjq n zs e s ca) (fun a ha => by
          rw [Bool.eq_iff_iff, decide_eq_true_eq, mem_lst]
          exact ⟨fun h => h.2, fun h => ⟨ha, h⟩⟩)]
        exact hsb
      have HLF := hide (fun W (h : Below wr.heap.size wr W) => HLI.out W _ _ (haQ.below h))
      have HCL := hide (fun W (h : Below wr.heap.size wr W) => HCLO.out W _ _ (bcat2 hBr h) (haQ.below h))
      rw [lst_fault] at HLF
      rw [hcl] at HCL
      simp only at HLF
      clear hcl hsb haQ
      by_cases hkz : k = 0
      · subst hkz
        have hS : ∀ W, Below wr.heap.size wr W → (Below wr.heap.size wr W ∧ W.cell? ⟨w.heap.size, 0, none⟩ = some (.int .i64 n) ∧ W.cell? ⟨w.heap.size, 1, none⟩ = some (.slice v1 v2 v3) ∧ W.cell? ⟨w2.heap.size, 0, none⟩ = some (.slice (some ⟨lg, 0, none⟩) ms.length lc) ∧ W.cell? ⟨lg, 0, none⟩ = some (.slice a1 Lq a3)) := fun W h => ⟨h, below_cell h c0, below_cell h c1, below_cell h l0, below_cell h ha0⟩
        have hBc : Below wr.heap.size wr wr.drew := bdrew (Below.refl _ wr)
        have hS0 := hS _ hBc
        go_wp2_with fail
        clear c0 c1 l0 ha0
        refine wp_region_held_drew (S := fun W => (Below wr.heap.size wr W ∧ W.cell? ⟨w.heap.size, 0, none⟩ = some (.int .i64 n) ∧ W.cell? ⟨w.heap.size, 1, none⟩ = some (.slice v1 v2 v3) ∧ W.cell? ⟨w2.heap.size, 0, none⟩ = some (.slice (some ⟨lg, 0, none⟩) ms.length lc) ∧ W.cell? ⟨lg, 0, none⟩ = some (.slice a1 Lq a3))) (by kernel_rfl) hS0 (fun hHeld => ?_)
        refine wpAnyH_take (i := 0) (oi := ({ dst := some 90, op := Go.Op.load 25 (Go.Operand.tmp 5), type := 25, pos := _, after := #[], guard := none } : Oper)) (v := ?_) rfl (by kernel_rfl) (by kernel_rfl) (by kernel_rfl) (fun _ _ _ h => h) (Or.inl ⟨by rfl, ?_⟩) (by assumption) ?_
        rotate_left
        · (intro w hSw; (try dsimp only at hSw); go_simp; try with_reducible rfl)
        simp only [Act.put, List.setIfInBounds_toArray, List.set_cons_zero, List.set_cons_succ]
        refine wpAnyH_take (i := 1) (oi := ({ dst := some 91, op := Go.Op.move (Go.Operand.tmp 11), type := 3, pos := _, after := #[], guard := none } : Oper)) (v := ?_) rfl (by kernel_rfl) (by kernel_rfl) (by kernel_rfl) (fun _ _ _ h => h) (Or.inl ⟨by rfl, ?_⟩) (by assumption) ?_
        rotate_left
        · (intro w hSw; (try dsimp only at hSw); go_simp; try with_reducible rfl)
        simp only [Act.put, List.setIfInBounds_toArray, List.set_cons_zero, List.set_cons_succ]
        refine wpAnyH_take (i := 2) (oi := ({ dst := some 92, op := Go.Op.indexAddr 25 (Go.Operand.tmp 90) (Go.Operand.tmp 91), type := 0, pos := _, after := #[{ on := 0, ground := Go.Ground.data }, { on := 1, ground := Go.Ground.data }], guard := none } : Oper)) (v := ?_) rfl (by kernel_rfl) (by kernel_rfl) (by kernel_rfl) (fun _ _ _ h => h) (Or.inl ⟨by rfl, ?_⟩) (by assumption) ?_
        rotate_left
        · (intro w hSw; (try dsimp only at hSw); go_simp; try with_reducible rfl)
        simp only [Act.put, List.setIfInBounds_toArray, List.set_cons_zero, List.set_cons_succ]
        refine wpAnyH_take (i := 3) (oi := ({ dst := some 93, op := Go.Op.load 22 (Go.Operand.tmp 92), type := 22, pos := _, after := #[{ on := 2, ground := Go.Ground.data }], guard := none } : Oper)) (v := ?_) rfl (by kernel_rfl) (by kernel_rfl) (by kernel_rfl) (fun _ _ _ h => h) (Or.inl ⟨by rfl, ?_⟩) (by assumption) ?_
        rotate_left
        · (intro w hSw; (try dsimp only at hSw); go_simp; try with_reducible rfl)
        simp only [Act.put, List.setIfInBounds_toArray, List.set_cons_zero, List.set_cons_succ]
        refine wpAnyH_take (i := 4) (oi := ({ dst := some 94, op := Go.Op.call { callee := Go.Callee.builtin Go.Builtin.len, args := #[Go.Operand.tmp 93], argTypes := #[22] }, type := 3, pos := _, after := #[{ on := 3, ground := Go.Ground.data }], guard := none } : Oper)) (v := ?_) rfl (by kernel_rfl) (by kernel_rfl) (by kernel_rfl) (fun _ _ _ h => h) (Or.inl ⟨by rfl, ?_⟩) (by assumption) ?_
        rotate_left
        · (intro w hSw; (try dsimp only at hSw); go_simp; try with_reducible rfl)
        simp only [Act.put, List.setIfInBounds_toArray, List.set_cons_zero, List.set_cons_succ]
        refine wpAnyH_take (i := 5) (oi := ({ dst := some 95, op := Go.Op.move (Go.Operand.tmp 10), type := 3, pos := _, after := #[], guard := none } : Oper)) (v := ?_) rfl (by kernel_rfl) (by kernel_rfl) (by kernel_rfl) (fun _ _ _ h => h) (Or.inl ⟨by rfl, ?_⟩) (by assumption) ?_
        rotate_left
        · (intro w hSw; (try dsimp only at hSw); go_simp; try with_reducible rfl)
        simp only [Act.put, List.setIfInBounds_toArray, List.set_cons_zero, List.set_cons_succ]
        refine wpAnyH_take (i := 6) (oi := ({ dst := some 96, op := Go.Op.binOp Go.BinOp.neq 3 (Go.Operand.tmp 94) (Go.Operand.tmp 95) 3, type := 4, pos := _, after := #[{ on := 4, ground := Go.Ground.data }, { on := 5, ground := Go.Ground.data }], guard := none } : Oper)) (v := .bool false) rfl (by kernel_rfl) (by kernel_rfl) (by kernel_rfl) (fun _ _ _ h => h) (Or.inl ⟨by rfl, ?_⟩) (by assumption) ?_
        · (intro w hSw; (try dsimp only at hSw); go_simp; try (first | with_reducible rfl | (simp; done) | omega | (simp; omega)))
        simp only [Act.put, List.setIfInBounds_toArray, List.set_cons_zero, List.set_cons_succ]
        refine wpAnyH_take (i := 7) (oi := ({ dst := some 97, op := Go.Op.move (Go.Operand.tmp 96), type := 4, pos := _, after := #[{ on := 6, ground := Go.Ground.data }], guard := none } : Oper)) (v := ?_) rfl (by kernel_rfl) (by kernel_rfl) (by kernel_rfl) (fun _ _ _ h => h) (Or.inl ⟨by rfl, ?_⟩) (by assumption) ?_
        rotate_left
        · (intro w hSw; (try dsimp only at hSw); go_simp; try with_reducible rfl)
        simp only [Act.put, List.setIfInBounds_toArray, List.set_cons_zero, List.set_cons_succ]
        refine wpAnyH_take (i := 8) (oi := ({ dst := some 98, op := Go.Op.load 24 (Go.Operand.tmp 2), type := 24, pos := _, after := #[{ on := 7, ground := Go.Ground.guard }], guard := some (7, false) } : Oper)) (v := ?_) rfl (by kernel_rfl) (by kernel_rfl) (by kernel_rfl) (fun _ _ _ h => h) (Or.inl ⟨by rfl, ?_⟩) (by assumption) ?_
        rotate_left
        · (intro w hSw; (try dsimp only at hSw); go_simp; try with_reducible rfl)
        simp only [Act.put, List.setIfInBounds_toArray, List.set_cons_zero, List.set_cons_succ]
        refine wpAnyH_take (i := 9) (oi := ({ dst := some 99, op := Go.Op.load 25 (Go.Operand.tmp 5), type := 25, pos := _, after := #[{ on := 7, ground := Go.Ground.guard }], guard := some (7, false) } : Oper)) (v := ?_) rfl (by kernel_rfl) (by kernel_rfl) (by kernel_rfl) (fun _ _ _ h => h) (Or.inl ⟨by rfl, ?_⟩) (by assumption) ?_
        rotate_left
        · (intro w hSw; (try dsimp only at hSw); go_simp; try with_reducible rfl)
        simp only [Act.put, List.setIfInBounds_toArray, List.set_cons_zero, List.set_cons_succ]
        refine wpAnyH_take (i := 10) (oi := ({ dst := some 100, op := Go.Op.move (Go.Operand.tmp 11), type := 3, pos := _, after := #[{ on := 7, ground := Go.Ground.guard }], guard := some (7, false) } : Oper)) (v := ?_) rfl (by kernel_rfl) (by kernel_rfl) (by kernel_rfl) (fun _ _ _ h => h) (Or.inl ⟨by rfl, ?_⟩) (by assumption) ?_
        rotate_left
        · (intro w hSw; (try dsimp only at hSw); go_simp; try with_reducible rfl)
        simp only [Act.put, List.setIfInBounds_toArray, List.set_cons_zero, List.set_cons_succ]
        refine wpAnyH_take (i := 11) (oi := ({ dst := some 101, op := Go.Op.indexAddr 25 (Go.Operand.tmp 99) (Go.Operand.tmp 100), type := 0, pos := _, after := #[{ on := 9, ground := Go.Ground.data }, { on := 10, ground := Go.Ground.data }, { on := 7, ground := Go.Ground.guard }], guard := some (7, false) } : Oper)) (v := ?_) rfl (by kernel_rfl) (by kernel_rfl) (by kernel_rfl) (fun _ _ _ h => h) (Or.inl ⟨by rfl, ?_⟩) (by assumption) ?_
        rotate_left
        · (intro w hSw; (try dsimp only at hSw); go_simp; try with_reducible rfl)
        simp only [Act.put, List.setIfInBounds_toArray, List.set_cons_zero, List.set_cons_succ]
        refine wpAnyH_take (i := 12) (oi := ({ dst := some 102, op := Go.Op.load 22 (Go.Operand.tmp 101), type := 22, pos := _, after := #[{ on := 11, ground := Go.Ground.data }, { on := 7, ground := Go.Ground.guard }], guard := some (7, false) } : Oper)) (v := ?_) rfl (by kernel_rfl) (by kernel_rfl) (by kernel_rfl) (fun _ _ _ h => h) (Or.inl ⟨by rfl, ?_⟩) (by assumption) ?_
        rotate_left
        · (intro w hSw; (try dsimp only at hSw); go_simp; try with_reducible rfl)
        simp only [Act.put, List.setIfInBounds_toArray, List.set_cons_zero, List.set_cons_succ]
        refine wpAnyH_ready (rs := [13]) (by kernel_rfl) (by simp) (AllReadyH.cons (o := ({ dst := some 103, op := Go.Op.call { callee := Go.Callee.value (Go.Operand.func 19), args := #[Go.Operand.tmp 98, Go.Operand.tmp 102], argTypes := #[24, 22] }, type := 27, pos := _, after := #[{ on := 8, ground := Go.Ground.data }, { on := 12, ground := Go.Ground.data }, { on := 7, ground := Go.Ground.chain }, { on := 7, ground := Go.Ground.guard }], guard := some (7, false) } : Oper)) rfl (fun KK hK => ?_) AllReadyH.nil)
        go_simp
        refine (HLF.out _ hBc).mono ?_
        rintro e1 U1 ⟨rfl, hl1⟩
        have hBc := bcat2 hBc hl1
        try go_wp2_with fail
        refine hK.out _ _ (hS _ hBc) (fun hHeld => ?_)
        clear hK
        try simp only [Act.put, List.setIfInBounds_toArray, List.set_cons_zero, List.set_cons_succ]
        refine wpAnyH_take (i := 14) (oi := ({ dst := some 104, op := Go.Op.field 27 (Go.Operand.tmp 103) 0, type := 3, pos := _, after := #[{ on := 13, ground := Go.Ground.data }, { on := 7, ground := Go.Ground.guard }], guard := some (7, false) } : Oper)) (v := .int .i64 0) rfl (by kernel_rfl) (by kernel_rfl) (by kernel_rfl) (fun _ _ _ h => h) (Or.inl ⟨by rfl, ?_⟩) (by assumption) ?_
        · (intro w hSw; (try dsimp only at hSw); go_simp; try (first | with_reducible rfl | (simp; done) | exact hfld _ | omega | (simp; omega)))
        simp only [Act.put, List.setIfInBounds_toArray, List.set_cons_zero, List.set_cons_succ]
        refine wpAnyH_take (i := 15) (oi := ({ dst := some 105, op := Go.Op.binOp Go.BinOp.neq 3 (Go.Operand.tmp 104) (Go.Operand.const (Go.Value.int Go.IntKind.i64 0)) 3, type := 4, pos := _, after := #[{ on := 14, ground := Go.Ground.data }, { on := 7, ground := Go.Ground.guard }], guard := some (7, false) } : Oper)) (v := .bool false) rfl (by kernel_rfl) (by kernel_rfl) (by kernel_rfl) (fun _ _ _ h => h) (Or.inl ⟨by rfl, ?_⟩) (by assumption) ?_
        · (intro w hSw; (try dsimp only at hSw); go_simp; try (first | with_reducible rfl | (simp; done) | omega | (simp; omega)))
        simp only [Act.put, List.setIfInBounds_toArray, List.set_cons_zero, List.set_cons_succ]
        refine wpAnyH_take (i := 16) (oi := ({ dst := some 106, op := Go.Op.pick (Go.Operand.tmp 97) (Go.Operand.const (Go.Value.bool true)) (Go.Operand.tmp 105), type := 4, pos := _, after := #[{ on := 7, ground := Go.Ground.data }, { on := 15, ground := Go.Ground.data }], guard := none } : Oper)) (v := .bool false) rfl (by kernel_rfl) (by kernel_rfl) (by kernel_rfl) (fun _ _ _ h => h) (Or.inl ⟨by rfl, ?_⟩) (by assumption) ?_
        · (intro w hSw; (try dsimp only at hSw); go_simp; try (first | with_reducible rfl | (simp; done) | omega | (simp; omega)))
        simp only [Act.put, List.setIfInBounds_toArray, List.set_cons_zero, List.set_cons_succ]
        refine wpAnyH_take (i := 17) (oi := ({ dst := some 107, op := Go.Op.move (Go.Operand.tmp 106), type := 4, pos := _, after := #[{ on := 16, ground := Go.Ground.data }, { on := 13, ground := Go.Ground.chain }], guard := none } : Oper)) (v := ?_) rfl (by kernel_rfl) (by kernel_rfl) (by kernel_rfl) (fun _ _ _ h => h) (Or.inl ⟨by rfl, ?_⟩) (by assumption) ?_
        rotate_left
        · (intro w hSw; (try dsimp only at hSw); go_simp; try with_reducible rfl)
        simp only [Act.put, List.setIfInBounds_toArray, List.set_cons_zero, List.set_cons_succ]
        refine wpAnyH_take (i := 18) (oi := ({ dst := some 108, op := Go.Op.load 24 (Go.Operand.tmp 2), type := 24, pos := _, after := #[{ on := 17, ground := Go.Ground.guard }], guard := some (17, false) } : Oper)) (v := ?_) rfl (by kernel_rfl) (by kernel_rfl) (by kernel_rfl) (fun _ _ _ h => h) (Or.inl ⟨by rfl, ?_⟩) (by assumption) ?_
        rotate_left
        · (intro w hSw; (try dsimp only at hSw); go_simp; try with_reducible rfl)
        simp only [Act.put, List.setIfInBounds_toArray, List.set_cons_zero, List.set_cons_succ]
        refine wpAnyH_take (i := 19) (oi := ({ dst := some 109, op := Go.Op.load 25 (Go.Operand.tmp 5), type := 25, pos := _, after := #[{ on := 17, ground := Go.Ground.guard }], guard := some (17, false) } : Oper)) (v := ?_) rfl (by kernel_rfl) (by kernel_rfl) (by kernel_rfl) (fun _ _ _ h => h) (Or.inl ⟨by rfl, ?_⟩) (by assumption) ?_
        rotate_left
        · (intro w hSw; (try dsimp only at hSw); go_simp; try with_reducible rfl)
        simp only [Act.put, List.setIfInBounds_toArray, List.set_cons_zero, List.set_cons_succ]
        refine wpAnyH_take (i := 20) (oi := ({ dst := some 110, op := Go.Op.move (Go.Operand.tmp 11), type := 3, pos := _, after := #[{ on := 17, ground := Go.Ground.guard }], guard := some (17, false) } : Oper)) (v := ?_) rfl (by kernel_rfl) (by kernel_rfl) (by kernel_rfl) (fun _ _ _ h => h) (Or.inl ⟨by rfl, ?_⟩) (by assumption) ?_
        rotate_left
        · (intro w hSw; (try dsimp only at hSw); go_simp; try with_reducible rfl)
        simp only [Act.put, List.setIfInBounds_toArray, List.set_cons_zero, List.set_cons_succ]
        refine wpAnyH_take (i := 21) (oi := ({ dst := some 111, op := Go.Op.indexAddr 25 (Go.Operand.tmp 109) (Go.Operand.tmp 110), type := 0, pos := _, after := #[{ on := 19, ground := Go.Ground.data }, { on := 20, ground := Go.Ground.data }, { on := 17, ground := Go.Ground.guard }], guard := some (17, false) } : Oper)) (v := ?_) rfl (by kernel_rfl) (by kernel_rfl) (by kernel_rfl) (fun _ _ _ h => h) (Or.inl ⟨by rfl, ?_⟩) (by assumption) ?_
        rotate_left
        · (intro w hSw; (try dsimp only at hSw); go_simp; try with_reducible rfl)
        simp only [Act.put, List.setIfInBounds_toArray, List.set_cons_zero, List.set_cons_succ]
        refine wpAnyH_take (i := 22) (oi := ({ dst := some 112, op := Go.Op.load 22 (Go.Operand.tmp 111), type := 22, pos := _, after := #[{ on := 21, ground := Go.Ground.data }, { on := 17, ground := Go.Ground.guard }], guard := some (17, false) } : Oper)) (v := ?_) rfl (by kernel_rfl) (by kernel_rfl) (by kernel_rfl) (fun _ _ _ h => h) (Or.inl ⟨by rfl, ?_⟩) (by assumption) ?_
        rotate_left
        · (intro w hSw; (try dsimp only at hSw); go_simp; try with_reducible rfl)
        simp only [Act.put, List.setIfInBounds_toArray, List.set_cons_zero, List.set_cons_succ]
        refine wpAnyH_ready (rs := [23]) (by kernel_rfl) (by simp) (AllReadyH.cons (o := ({ dst := some 113, op := Go.Op.call { callee := Go.Callee.value (Go.Operand.func 20), args := #[Go.Operand.tmp 108, Go.Operand.tmp 112], argTypes := #[24, 22] }, type := 4, pos := _, after := #[{ on := 18, ground := Go.Ground.data }, { on := 22, ground := Go.Ground.data }, { on := 17, ground := Go.Ground.chain }, { on := 17, ground := Go.Ground.guard }], guard := some (17, false) } : Oper)) rfl (fun KK hK => ?_) AllReadyH.nil)
        go_simp
        refine (HCL.out _ hBc).mono ?_
        rintro e2 U2 ⟨rfl, hl2⟩
        have hBc := bcat2 hBc hl2
        try go_wp2_with fail
        refine hK.out _ _ (hS _ hBc) (fun hHeld => ?_)
        clear hK
        try simp only [Act.put, List.setIfInBounds_toArray, List.set_cons_zero, List.set_cons_succ]
        refine wpAnyH_take (i := 24) (oi := ({ dst := some 114, op := Go.Op.unOp Go.UnOp.not 4 (Go.Operand.tmp 113), type := 4, pos := _, after := #[{ on := 23, ground := Go.Ground.data }, { on := 17, ground := Go.Ground.guard }], guard := some (17, false) } : Oper)) (v := .bool false) rfl (by kernel_rfl) (by kernel_rfl) (by kernel_rfl) (fun _ _ _ h => h) (Or.inl ⟨by rfl, ?_⟩) (by assumption) ?_
        · (intro w hSw; (try dsimp only at hSw); go_simp; try (first | with_reducible rfl | (simp; done) | omega | (simp; omega)))
        simp only [Act.put, List.setIfInBounds_toArray, List.set_cons_zero, List.set_cons_succ]
        refine wpAnyH_take (i := 25) (oi := ({ dst := some 115, op := Go.Op.pick (Go.Operand.tmp 107) (Go.Operand.const (Go.Value.bool true)) (Go.Operand.tmp 114), type := 4, pos := _, after := #[{ on := 17, ground := Go.Ground.data }, { on := 24, ground := Go.Ground.data }], guard := none } : Oper)) (v := .bool false) rfl (by kernel_rfl) (by kernel_rfl) (by kernel_rfl) (fun _ _ _ h => h) (Or.inl ⟨by rfl, ?_⟩) (by assumption) ?_
        · (intro w hSw; (try dsimp only at hSw); go_simp; try (first | with_reducible rfl | (simp; done) | omega | (simp; omega)))
        simp only [Act.put, List.setIfInBounds_toArray, List.set_cons_zero, List.set_cons_succ]
        refine wpAnyH_take (i := 26) (oi := ({ dst := some 116, op := Go.Op.move (Go.Operand.tmp 115), type := 4, pos := _, after := #[{ on := 25, ground := Go.Ground.data }, { on := 23, ground := Go.Ground.chain }], guard := none } : Oper)) (v := ?_) rfl (by kernel_rfl) (by kernel_rfl) (by kernel_rfl) (fun _ _ _ h => h) (Or.inl ⟨by rfl, ?_⟩) (by assumption) ?_
        rotate_left
        · (intro w hSw; (try dsimp only at hSw); go_simp; try with_reducible rfl)
        simp only [Act.put, List.setIfInBounds_toArray, List.set_cons_zero, List.set_cons_succ]
        refine wpAnyH_take (i := 27) (oi := ({ dst := some 117, op := Go.Op.move (Go.Operand.tmp 11), type := 3, pos := _, after := #[{ on := 26, ground := Go.Ground.guard }], guard := some (26, false) } : Oper)) (v := ?_) rfl (by kernel_rfl) (by kernel_rfl) (by kernel_rfl) (fun _ _ _ h => h) (Or.inl ⟨by rfl, ?_⟩) (by assumption) ?_
        rotate_left
        · (intro w hSw; (try dsimp only at hSw); go_simp; try with_reducible rfl)
        simp only [Act.put, List.setIfInBounds_toArray, List.set_cons_zero, List.set_cons_succ]
        refine wpAnyH_take (i := 28) (oi := ({ dst := some 118, op := Go.Op.binOp Go.BinOp.gtr 3 (Go.Operand.tmp 117) (Go.Operand.const (Go.Value.int Go.IntKind.i64 0)) 3, type := 4, pos := _, after := #[{ on := 27, ground := Go.Ground.data }, { on := 26, ground := Go.Ground.guard }], guard := some (26, false) } : Oper)) (v := .bool false) rfl (by kernel_rfl) (by kernel_rfl) (by kernel_rfl) (fun _ _ _ h => h) (Or.inl ⟨by rfl, ?_⟩) (by assumption) ?_
        · (intro w hSw; (try dsimp only at hSw); go_simp; try (first | with_reducible rfl | (simp; done) | omega | (simp; omega)))
        simp only [Act.put, List.setIfInBounds_toArray, List.set_cons_zero, List.set_cons_succ]
        refine wpAnyH_take (i := 29) (oi := ({ dst := some 119, op := Go.Op.move (Go.Operand.tmp 118), type := 4, pos := _, after := #[{ on := 28, ground := Go.Ground.data }, { on := 26, ground := Go.Ground.chain }, { on := 26, ground := Go.Ground.guard }], guard := some (26, false) } : Oper)) (v := ?_) rfl (by kernel_rfl) (by kernel_rfl) (by kernel_rfl) (fun _ _ _ h => h) (Or.inl ⟨by rfl, ?_⟩) (by assumption) ?_
        rotate_left
        · (intro w hSw; (try dsimp only at hSw); go_simp; try with_reducible rfl)
        simp only [Act.put, List.setIfInBounds_toArray, List.set_cons_zero, List.set_cons_succ]
        refine wpAnyH_take (i := 30) (oi := ({ dst := some 120, op := Go.Op.load 25 (Go.Operand.tmp 5), type := 25, pos := _, after := #[{ on := 29, ground := Go.Ground.guard }], guard := some (29, true) } : Oper)) (v := undef) rfl (by kernel_rfl) (by kernel_rfl) (by kernel_rfl) (fun _ _ _ h => h) (Or.inr ⟨by rfl, rfl⟩) (by assumption) ?_
        simp only [Act.put, List.setIfInBounds_toArray, List.set_cons_zero, List.set_cons_succ]
        refine wpAnyH_take (i := 31) (oi := ({ dst := some 121, op := Go.Op.move (Go.Operand.tmp 11), type := 3, pos := _, after := #[{ on := 29, ground := Go.Ground.guard }], guard := some (29, true) } : Oper)) (v := undef) rfl (by kernel_rfl) (by kernel_rfl) (by kernel_rfl) (fun _ _ _ h => h) (Or.inr ⟨by rfl, rfl⟩) (by assumption) ?_
        simp only [Act.put, List.setIfInBounds_toArray, List.set_cons_zero, List.set_cons_succ]
        refine wpAnyH_take (i := 32) (oi := ({ dst := some 122, op := Go.Op.binOp Go.BinOp.sub 3 (Go.Operand.tmp 121) (Go.Operand.const (Go.Value.int Go.IntKind.i64 1)) 3, type := 3, pos := _, after := #[{ on := 31, ground := Go.Ground.data }, { on := 29, ground := Go.Ground.guard }], guard := some (29, true) } : Oper)) (v := undef) rfl (by kernel_rfl) (by kernel_rfl) (by kernel_rfl) (fun _ _ _ h => h) (Or.inr ⟨by rfl, rfl⟩) (by assumption) ?_
        simp only [Act.put, List.setIfInBounds_toArray, List.set_cons_zero, List.set_cons_succ]
        refine wpAnyH_take (i := 33) (oi := ({ dst := some 123, op := Go.Op.indexAddr 25 (Go.Operand.tmp 120) (Go.Operand.tmp 122), type := 0, pos := _, after := #[{ on := 30, ground := Go.Ground.data }, { on := 32, ground := Go.Ground.data }, { on := 29, ground := Go.Ground.guard }], guard := some (29, true) } : Oper)) (v := undef) rfl (by kernel_rfl) (by kernel_rfl) (by kernel_rfl) (fun _ _ _ h => h) (Or.inr ⟨by rfl, rfl⟩) (by assumption) ?_
        simp only [Act.put, List.setIfInBounds_toArray, List.set_cons_zero, List.set_cons_succ]
        refine wpAnyH_take (i := 34) (oi := ({ dst := some 124, op := Go.Op.load 22 (Go.Operand.tmp 123), type := 22, pos := _, after := #[{ on := 33, ground := Go.Ground.data }, { on := 29, ground := Go.Ground.guard }], guard := some (29, true) } : Oper)) (v := undef) rfl (by kernel_rfl) (by kernel_rfl) (by kernel_rfl) (fun _ _ _ h => h) (Or.inr ⟨by rfl, rfl⟩) (by assumption) ?_
        simp only [Act.put, List.setIfInBounds_toArray, List.set_cons_zero, List.set_cons_succ]
        refine wpAnyH_take (i := 35) (oi := ({ dst := some 125, op := Go.Op.load 25 (Go.Operand.tmp 5), type := 25, pos := _, after := #[{ on := 29, ground := Go.Ground.guard }], guard := some (29, true) } : Oper)) (v := undef) rfl (by kernel_rfl) (by kernel_rfl) (by kernel_rfl) (fun _ _ _ h => h) (Or.inr ⟨by rfl, rfl⟩) (by assumption) ?_
        simp only [Act.put, List.setIfInBounds_toArray, List.set_cons_zero, List.set_cons_succ]
        refine wpAnyH_take (i := 36) (oi := ({ dst := some 126, op := Go.Op.move (Go.Operand.tmp 11), type := 3, pos := _, after := #[{ on := 29, ground := Go.Ground.guard }], guard := some (29, true) } : Oper)) (v := undef) rfl (by kernel_rfl) (by kernel_rfl) (by kernel_rfl) (fun _ _ _ h => h) (Or.inr ⟨by rfl, rfl⟩) (by assumption) ?_
        simp only [Act.put, List.setIfInBounds_toArray, List.set_cons_zero, List.set_cons_succ]
        refine wpAnyH_take (i := 37) (oi := ({ dst := some 127, op := Go.Op.indexAddr 25 (Go.Operand.tmp 125) (Go.Operand.tmp 126), type := 0, pos := _, after := #[{ on := 35, ground := Go.Ground.data }, { on := 36, ground := Go.Ground.data }, { on := 29, ground := Go.Ground.guard }], guard := some (29, true) } : Oper)) (v := undef) rfl (by kernel_rfl) (by kernel_rfl) (by kernel_rfl) (fun _ _ _ h => h) (Or.inr ⟨by rfl, rfl⟩) (by assumption) ?_
        simp only [Act.put, List.setIfInBounds_toArray, List.set_cons_zero, List.set_cons_succ]
        refine wpAnyH_take (i := 38) (oi := ({ dst := some 128, op := Go.Op.load 22 (Go.Operand.tmp 127), type := 22, pos := _, after := #[{ on := 37, ground := Go.Ground.data }, { on := 29, ground := Go.Ground.guard }], guard := some (29, true) } : Oper)) (v := undef) rfl (by kernel_rfl) (by kernel_rfl) (by kernel_rfl) (fun _ _ _ h => h) (Or.inr ⟨by rfl, rfl⟩) (by assumption) ?_
        simp only [Act.put, List.setIfInBounds_toArray, List.set_cons_zero, List.set_cons_succ]
        refine wpAnyH_take (i := 39) (oi := ({ dst := some 129, op := Go.Op.call { callee := Go.Callee.value (Go.Operand.func 21), args := #[Go.Operand.tmp 124, Go.Operand.tmp 128], argTypes := #[22, 22] }, type := 4, pos := _, after := #[{ on := 34, ground := Go.Ground.data }, { on := 38, ground := Go.Ground.data }, { on := 29, ground := Go.Ground.chain }, { on := 29, ground := Go.Ground.guard }], guard := some (29, true) } : Oper)) (v := undef) rfl (by kernel_rfl) (by kernel_rfl) (by kernel_rfl) (fun _ _ _ h => h) (Or.inr ⟨by rfl, rfl⟩) (by assumption) ?_
        simp only [Act.put, List.setIfInBounds_toArray, List.set_cons_zero, List.set_cons_succ]
        refine wpAnyH_take (i := 40) (oi := ({ dst := some 130, op := Go.Op.unOp Go.UnOp.not 4 (Go.Operand.tmp 129), type := 4, pos := _, after := #[{ on := 39, ground := Go.Ground.data }, { on := 29, ground := Go.Ground.guard }], guard := some (29, true) } : Oper)) (v := undef) rfl (by kernel_rfl) (by kernel_rfl) (by kernel_rfl) (fun _ _ _ h => h) (Or.inr ⟨by rfl, rfl⟩) (by assumption) ?_
        simp only [Act.put, List.setIfInBounds_toArray, List.set_cons_zero, List.set_cons_succ]
        refine wpAnyH_take (i := 41) (oi := ({ dst := some 131, op := Go.Op.pick (Go.Operand.tmp 119) (Go.Operand.tmp 130) (Go.Operand.const (Go.Value.bool false)), type := 4, pos := _, after := #[{ on := 29, ground := Go.Ground.data }, { on := 40, ground := Go.Ground.data }, { on := 26, ground := Go.Ground.guard }], guard := some (26, false) } : Oper)) (v := .bool false) rfl (by kernel_rfl) (by kernel_rfl) (by kernel_rfl) (fun _ _ _ h => h) (Or.inl ⟨by rfl, ?_⟩) (by assumption) ?_
        · (intro w hSw; (try dsimp only at hSw); go_simp; try (first | with_reducible rfl | (simp; done) | omega | (simp; omega)))
        simp only [Act.put, List.setIfInBounds_toArray, List.set_cons_zero, List.set_cons_succ]
        refine wpAnyH_take (i := 42) (oi := ({ dst := some 132, op := Go.Op.pick (Go.Operand.tmp 116) (Go.Operand.const (Go.Value.bool true)) (Go.Operand.tmp 131), type := 4, pos := _, after := #[{ on := 26, ground := Go.Ground.data }, { on := 41, ground := Go.Ground.data }], guard := none } : Oper)) (v := .bool false) rfl (by kernel_rfl) (by kernel_rfl) (by kernel_rfl) (fun _ _ _ h => h) (Or.inl ⟨by rfl, ?_⟩) (by assumption) ?_
        · (intro w hSw; (try dsimp only at hSw); go_simp; try (first | with_reducible rfl | (simp; done) | omega | (simp; omega)))
        simp only [Act.put, List.setIfInBounds_toArray, List.set_cons_zero, List.set_cons_succ]
        refine wpAnyH_done (by kernel_rfl) ?_ _
        clear hHeld hS hS0
        go_wp2
        go_roundw
        case rel => exact ⟨1, by omega, by go_num, bcat2 hbr hBc⟩
        case measure => simp [intOf]; omega
      · obtain ⟨kk, hkk⟩ : ∃ kk, k = kk + 1 := ⟨k - 1, by omega⟩
        have HKK := hide hkk
        have hkl : kk < ms.length := by omega
        obtain ⟨b1, b3, hb0, hbS⟩ := (hR10.below hbr) kk hkl
        rw [HSZ.out kk hkl] at hb0 hbS
        have HLE := hide (fun W (h : Below wr.heap.size wr W) => less_ok _ _ _ _ W (hbS.below h) (haS.below h) (by rw [HSZ.out kk hkl, HSZ.out k hlt]))
        rw [decide_eq_true (HLS.out kk k (by omega) hlt)] at HLE
        have hk1 : IntKind.i64.wrap ((k : Int) - 1) = (kk : Int) := by rw [IntKind.wrap_i64]; omega
        have hk2 : (kk : Int) < (ms.length : Int) := by omega
        have hk3 : (0 : Int) < (k : Int) := by omega
        clear hkk hkz
        have hS : ∀ W, Below wr.heap.size wr W → (Below wr.heap.size wr W ∧ W.cell? ⟨w.heap.size, 0, none⟩ = some (.int .i64 n) ∧ W.cell? ⟨w.heap.size, 1, none⟩ = some (.slice v1 v2 v3) ∧ W.cell? ⟨w2.heap.size, 0, none⟩ = some (.slice (some ⟨lg, 0, none⟩) ms.length lc) ∧ W.cell? ⟨lg, k, none⟩ = some (.slice a1 Lq a3) ∧ W.cell? ⟨lg, kk, none⟩ = some (.slice b1 Lq b3)) := fun W h => ⟨h, below_cell h c0, below_cell h c1, below_cell h l0, below_cell h ha0, below_cell h hb0⟩
        have hBc : Below wr.heap.size wr wr.drew := bdrew (Below.refl _ wr)
        have hS0 := hS _ hBc
        go_wp2_with fail
        clear c0 c1 l0 ha0 hb0
        refine wp_region_held_drew (S := fun W => (Below wr.heap.size wr W ∧ W.cell? ⟨w.heap.size, 0, none⟩ = some (.int .i64 n) ∧ W.cell? ⟨w.heap.size, 1, none⟩ = some (.slice v1 v2 v3) ∧ W.cell? ⟨w2.heap.size, 0, none⟩ = some (.slice (some ⟨lg, 0, none⟩) ms.length lc) ∧ W.cell? ⟨lg, k, none⟩ = some (.slice a1 Lq a3) ∧ W.cell? ⟨lg, kk, none⟩ = some (.slice b1 Lq b3))) (by kernel_rfl) hS0 (fun hHeld => ?_)
        refine wpAnyH_take (i := 0) (oi := ({ dst := some 90, op := Go.Op.load 25 (Go.Operand.tmp 5), type := 25, pos := _, after := #[], guard := none } : Oper)) (v := ?_) rfl (by kernel_rfl) (by kernel_rfl) (by kernel_rfl) (fun _ _ _ h => h) (Or.inl ⟨by rfl, ?_⟩) (by assumption) ?_
        rotate_left
        · (intro w hSw; (try dsimp only at hSw); go_simp; try with_reducible rfl)
        simp only [Act.put, List.setIfInBounds_toArray, List.set_cons_zero, List.set_cons_succ]
        refine wpAnyH_take (i := 1) (oi := ({ dst := some 91, op := Go.Op.move (Go.Operand.tmp 11), type := 3, pos := _, after := #[], guard := none } : Oper)) (v := ?_) rfl (by kernel_rfl) (by kernel_rfl) (by kernel_rfl) (fun _ _ _ h => h) (Or.inl ⟨by rfl, ?_⟩) (by assumption) ?_
        rotate_left
        · (intro w hSw; (try dsimp only at hSw); go_simp; try with_reducible rfl)
        simp only [Act.put, List.setIfInBounds_toArray, List.set_cons_zero, List.set_cons_succ]
        refine wpAnyH_take (i := 2) (oi := ({ dst := some 92, op := Go.Op.indexAddr 25 (Go.Operand.tmp 90) (Go.Operand.tmp 91), type := 0, pos := _, after := #[{ on := 0, ground := Go.Ground.data }, { on := 1, ground := Go.Ground.data }], guard := none } : Oper)) (v := ?_) rfl (by kernel_rfl) (by kernel_rfl) (by kernel_rfl) (fun _ _ _ h => h) (Or.inl ⟨by rfl, ?_⟩) (by assumption) ?_
        rotate_left
        · (intro w hSw; (try dsimp only at hSw); go_simp; try with_reducible rfl)
        simp only [Act.put, List.setIfInBounds_toArray, List.set_cons_zero, List.set_cons_succ]
        refine wpAnyH_take (i := 3) (oi := ({ dst := some 93, op := Go.Op.load 22 (Go.Operand.tmp 92), type := 22, pos := _, after := #[{ on := 2, ground := Go.Ground.data }], guard := none } : Oper)) (v := ?_) rfl (by kernel_rfl) (by kernel_rfl) (by kernel_rfl) (fun _ _ _ h => h) (Or.inl ⟨by rfl, ?_⟩) (by assumption) ?_
        rotate_left
        · (intro w hSw; (try dsimp only at hSw); go_simp; try with_reducible rfl)
        simp only [Act.put, List.setIfInBounds_toArray, List.set_cons_zero, List.set_cons_succ]
        refine wpAnyH_take (i := 4) (oi := ({ dst := some 94, op := Go.Op.call { callee := Go.Callee.builtin Go.Builtin.len, args := #[Go.Operand.tmp 93], argTypes := #[22] }, type := 3, pos := _, after := #[{ on := 3, ground := Go.Ground.data }], guard := none } : Oper)) (v := ?_) rfl (by kernel_rfl) (by kernel_rfl) (by kernel_rfl) (fun _ _ _ h => h) (Or.inl ⟨by rfl, ?_⟩) (by assumption) ?_
        rotate_left
        · (intro w hSw; (try dsimp only at hSw); go_simp; try with_reducible rfl)
        simp only [Act.put, List.setIfInBounds_toArray, List.set_cons_zero, List.set_cons_succ]
        refine wpAnyH_take (i := 5) (oi := ({ dst := some 95, op := Go.Op.move (Go.Operand.tmp 10), type := 3, pos := _, after := #[], guard := none } : Oper)) (v := ?_) rfl (by kernel_rfl) (by kernel_rfl) (by kernel_rfl) (fun _ _ _ h => h) (Or.inl ⟨by rfl, ?_⟩) (by assumption) ?_
        rotate_left
        · (intro w hSw; (try dsimp only at hSw); go_simp; try with_reducible rfl)
        simp only [Act.put, List.setIfInBounds_toArray, List.set_cons_zero, List.set_cons_succ]
        refine wpAnyH_take (i := 6) (oi := ({ dst := some 96, op := Go.Op.binOp Go.BinOp.neq 3 (Go.Operand.tmp 94) (Go.Operand.tmp 95) 3, type := 4, pos := _, after := #[{ on := 4, ground := Go.Ground.data }, { on := 5, ground := Go.Ground.data }], guard := none } : Oper)) (v := .bool false) rfl (by kernel_rfl) (by kernel_rfl) (by kernel_rfl) (fun _ _ _ h => h) (Or.inl ⟨by rfl, ?_⟩) (by assumption) ?_
        · (intro w hSw; (try dsimp only at hSw); go_simp; try (first | with_reducible rfl | (simp; done) | omega | (simp; omega)))
        simp only [Act.put, List.setIfInBounds_toArray, List.set_cons_zero, List.set_cons_succ]
        refine wpAnyH_take (i := 7) (oi := ({ dst := some 97, op := Go.Op.move (Go.Operand.tmp 96), type := 4, pos := _, after := #[{ on := 6, ground := Go.Ground.data }], guard := none } : Oper)) (v := ?_) rfl (by kernel_rfl) (by kernel_rfl) (by kernel_rfl) (fun _ _ _ h => h) (Or.inl ⟨by rfl, ?_⟩) (by assumption) ?_
        rotate_left
        · (intro w hSw; (try dsimp only at hSw); go_simp; try with_reducible rfl)
        simp only [Act.put, List.setIfInBounds_toArray, List.set_cons_zero, List.set_cons_succ]
        refine wpAnyH_take (i := 8) (oi := ({ dst := some 98, op := Go.Op.load 24 (Go.Operand.tmp 2), type := 24, pos := _, after := #[{ on := 7, ground := Go.Ground.guard }], guard := some (7, false) } : Oper)) (v := ?_) rfl (by kernel_rfl) (by kernel_rfl) (by kernel_rfl) (fun _ _ _ h => h) (Or.inl ⟨by rfl, ?_⟩) (by assumption) ?_
        rotate_left
        · (intro w hSw; (try dsimp only at hSw); go_simp; try with_reducible rfl)
        simp only [Act.put, List.setIfInBounds_toArray, List.set_cons_zero, List.set_cons_succ]
        refine wpAnyH_take (i := 9) (oi := ({ dst := some 99, op := Go.Op.load 25 (Go.Operand.tmp 5), type := 25, pos := _, after := #[{ on := 7, ground := Go.Ground.guard }], guard := some (7, false) } : Oper)) (v := ?_) rfl (by kernel_rfl) (by kernel_rfl) (by kernel_rfl) (fun _ _ _ h => h) (Or.inl ⟨by rfl, ?_⟩) (by assumption) ?_
        rotate_left
        · (intro w hSw; (try dsimp only at hSw); go_simp; try with_reducible rfl)
        simp only [Act.put, List.setIfInBounds_toArray, List.set_cons_zero, List.set_cons_succ]
        refine wpAnyH_take (i := 10) (oi := ({ dst := some 100, op := Go.Op.move (Go.Operand.tmp 11), type := 3, pos := _, after := #[{ on := 7, ground := Go.Ground.guard }], guard := some (7, false) } : Oper)) (v := ?_) rfl (by kernel_rfl) (by kernel_rfl) (by kernel_rfl) (fun _ _ _ h => h) (Or.inl ⟨by rfl, ?_⟩) (by assumption) ?_
        rotate_left
        · (intro w hSw; (try dsimp only at hSw); go_simp; try with_reducible rfl)
        simp only [Act.put, List.setIfInBounds_toArray, List.set_cons_zero, List.set_cons_succ]
        refine wpAnyH_take (i := 11) (oi := ({ dst := some 101, op := Go.Op.indexAddr 25 (Go.Operand.tmp 99) (Go.Operand.tmp 100), type := 0, pos := _, after := #[{ on := 9, ground := Go.Ground.data }, { on := 10, ground := Go.Ground.data }, { on := 7, ground := Go.Ground.guard }], guard := some (7, false) } : Oper)) (v := ?_) rfl (by kernel_rfl) (by kernel_rfl) (by kernel_rfl) (fun _ _ _ h => h) (Or.inl ⟨by rfl, ?_⟩) (by assumption) ?_
        rotate_left
        · (intro w hSw; (try dsimp only at hSw); go_simp; try with_reducible rfl)
        simp only [Act.put, List.setIfInBounds_toArray, List.set_cons_zero, List.set_cons_succ]
        refine wpAnyH_take (i := 12) (oi := ({ dst := some 102, op := Go.Op.load 22 (Go.Operand.tmp 101), type := 22, pos := _, after := #[{ on := 11, ground := Go.Ground.data }, { on := 7, ground := Go.Ground.guard }], guard := some (7, false) } : Oper)) (v := ?_) rfl (by kernel_rfl) (by kernel_rfl) (by kernel_rfl) (fun _ _ _ h => h) (Or.inl ⟨by rfl, ?_⟩) (by assumption) ?_
        rotate_left
        · (intro w hSw; (try dsimp only at hSw); go_simp; try with_reducible rfl)
        simp only [Act.put, List.setIfInBounds_toArray, List.set_cons_zero, List.set_cons_succ]
        refine wpAnyH_ready (rs := [13]) (by kernel_rfl) (by simp) (AllReadyH.cons (o := ({ dst := some 103, op := Go.Op.call { callee := Go.Callee.value (Go.Operand.func 19), args := #[Go.Operand.tmp 98, Go.Operand.tmp 102], argTypes := #[24, 22] }, type := 27, pos := _, after := #[{ on := 8, ground := Go.Ground.data }, { on := 12, ground := Go.Ground.data }, { on := 7, ground := Go.Ground.chain }, { on := 7, ground := Go.Ground.guard }], guard := some (7, false) } : Oper)) rfl (fun KK hK => ?_) AllReadyH.nil)
        go_simp
        refine (HLF.out _ hBc).mono ?_
        rintro e1 U1 ⟨rfl, hl1⟩
        have hBc := bcat2 hBc hl1
        try go_wp2_with fail
        refine hK.out _ _ (hS _ hBc) (fun hHeld => ?_)
        clear hK
        try simp only [Act.put, List.setIfInBounds_toArray, List.set_cons_zero, List.set_cons_succ]
        refine wpAnyH_take (i := 14) (oi := ({ dst := some 104, op := Go.Op.field 27 (Go.Operand.tmp 103) 0, type := 3, pos := _, after := #[{ on := 13, ground := Go.Ground.data }, { on := 7, ground := Go.Ground.guard }], guard := some (7, false) } : Oper)) (v := .int .i64 0) rfl (by kernel_rfl) (by kernel_rfl) (by kernel_rfl) (fun _ _ _ h => h) (Or.inl ⟨by rfl, ?_⟩) (by assumption) ?_
        · (intro w hSw; (try dsimp only at hSw); go_simp; try (first | with_reducible rfl | (simp; done) | exact hfld _ | omega | (simp; omega)))
        simp only [Act.put, List.setIfInBounds_toArray, List.set_cons_zero, List.set_cons_succ]
        refine wpAnyH_take (i := 15) (oi := ({ dst := some 105, op := Go.Op.binOp Go.BinOp.neq 3 (Go.Operand.tmp 104) (Go.Operand.const (Go.Value.int Go.IntKind.i64 0)) 3, type := 4, pos := _, after := #[{ on := 14, ground := Go.Ground.data }, { on := 7, ground := Go.Ground.guard }], guard := some (7, false) } : Oper)) (v := .bool false) rfl (by kernel_rfl) (by kernel_rfl) (by kernel_rfl) (fun _ _ _ h => h) (Or.inl ⟨by rfl, ?_⟩) (by assumption) ?_
        · (intro w hSw; (try dsimp only at hSw); go_simp; try (first | with_reducible rfl | (simp; done) | omega | (simp; omega)))
        simp only [Act.put, List.setIfInBounds_toArray, List.set_cons_zero, List.set_cons_succ]
        refine wpAnyH_take (i := 16) (oi := ({ dst := some 106, op := Go.Op.pick (Go.Operand.tmp 97) (Go.Operand.const (Go.Value.bool true)) (Go.Operand.tmp 105), type := 4, pos := _, after := #[{ on := 7, ground := Go.Ground.data }, { on := 15, ground := Go.Ground.data }], guard := none } : Oper)) (v := .bool false) rfl (by kernel_rfl) (by kernel_rfl) (by kernel_rfl) (fun _ _ _ h => h) (Or.inl ⟨by rfl, ?_⟩) (by assumption) ?_
        · (intro w hSw; (try dsimp only at hSw); go_simp; try (first | with_reducible rfl | (simp; done) | omega | (simp; omega)))
        simp only [Act.put, List.setIfInBounds_toArray, List.set_cons_zero, List.set_cons_succ]
        refine wpAnyH_take (i := 17) (oi := ({ dst := some 107, op := Go.Op.move (Go.Operand.tmp 106), type := 4, pos := _, after := #[{ on := 16, ground := Go.Ground.data }, { on := 13, ground := Go.Ground.chain }], guard := none } : Oper)) (v := ?_) rfl (by kernel_rfl) (by kernel_rfl) (by kernel_rfl) (fun _ _ _ h => h) (Or.inl ⟨by rfl, ?_⟩) (by assumption) ?_
        rotate_left
        · (intro w hSw; (try dsimp only at hSw); go_simp; try with_reducible rfl)
        simp only [Act.put, List.setIfInBounds_toArray, List.set_cons_zero, List.set_cons_succ]
        refine wpAnyH_take (i := 18) (oi := ({ dst := some 108, op := Go.Op.load 24 (Go.Operand.tmp 2), type := 24, pos := _, after := #[{ on := 17, ground := Go.Ground.guard }], guard := some (17, false) } : Oper)) (v := ?_) rfl (by kernel_rfl) (by kernel_rfl) (by kernel_rfl) (fun _ _ _ h => h) (Or.inl ⟨by rfl, ?_⟩) (by assumption) ?_
        rotate_left
        · (intro w hSw; (try dsimp only at hSw); go_simp; try with_reducible rfl)
        simp only [Act.put, List.setIfInBounds_toArray, List.set_cons_zero, List.set_cons_succ]
        refine wpAnyH_take (i := 19) (oi := ({ dst := some 109, op := Go.Op.load 25 (Go.Operand.tmp 5), type := 25, pos := _, after := #[{ on := 17, ground := Go.Ground.guard }], guard := some (17, false) } : Oper)) (v := ?_) rfl (by kernel_rfl) (by kernel_rfl) (by kernel_rfl) (fun _ _ _ h => h) (Or.inl ⟨by rfl, ?_⟩) (by assumption) ?_
        rotate_left
        · (intro w hSw; (try dsimp only at hSw); go_simp; try with_reducible rfl)
        simp only [Act.put, List.setIfInBounds_toArray, List.set_cons_zero, List.set_cons_succ]
        refine wpAnyH_take (i := 20) (oi := ({ dst := some 110, op := Go.Op.move (Go.Operand.tmp 11), type := 3, pos := _, after := #[{ on := 17, ground := Go.Ground.guard }], guard := some (17, false) } : Oper)) (v := ?_) rfl (by kernel_rfl) (by kernel_rfl) (by kernel_rfl) (fun _ _ _ h => h) (Or.inl ⟨by rfl, ?_⟩) (by assumption) ?_
        rotate_left
        · (intro w hSw; (try dsimp only at hSw); go_simp; try with_reducible rfl)
        simp only [Act.put, List.setIfInBounds_toArray, List.set_cons_zero, List.set_cons_succ]
        refine wpAnyH_take (i := 21) (oi := ({ dst := some 111, op := Go.Op.indexAddr 25 (Go.Operand.tmp 109) (Go.Operand.tmp 110), type := 0, pos := _, after := #[{ on := 19, ground := Go.Ground.data }, { on := 20, ground := Go.Ground.data }, { on := 17, ground := Go.Ground.guard }], guard := some (17, false) } : Oper)) (v := ?_) rfl (by kernel_rfl) (by kernel_rfl) (by kernel_rfl) (fun _ _ _ h => h) (Or.inl ⟨by rfl, ?_⟩) (by assumption) ?_
        rotate_left
        · (intro w hSw; (try dsimp only at hSw); go_simp; try with_reducible rfl)
        simp only [Act.put, List.setIfInBounds_toArray, List.set_cons_zero, List.set_cons_succ]
        refine wpAnyH_take (i := 22) (oi := ({ dst := some 112, op := Go.Op.load 22 (Go.Operand.tmp 111), type := 22, pos := _, after := #[{ on := 21, ground := Go.Ground.data }, { on := 17, ground := Go.Ground.guard }], guard := some (17, false) } : Oper)) (v := ?_) rfl (by kernel_rfl) (by kernel_rfl) (by kernel_rfl) (fun _ _ _ h => h) (Or.inl ⟨by rfl, ?_⟩) (by assumption) ?_
        rotate_left
        · (intro w hSw; (try dsimp only at hSw); go_simp; try with_reducible rfl)
        simp only [Act.put, List.setIfInBounds_toArray, List.set_cons_zero, List.set_cons_succ]
        refine wpAnyH_ready (rs := [23]) (by kernel_rfl) (by simp) (AllReadyH.cons (o := ({ dst := some 113, op := Go.Op.call { callee := Go.Callee.value (Go.Operand.func 20), args := #[Go.Operand.tmp 108, Go.Operand.tmp 112], argTypes := #[24, 22] }, type := 4, pos := _, after := #[{ on := 18, ground := Go.Ground.data }, { on := 22, ground := Go.Ground.data }, { on := 17, ground := Go.Ground.chain }, { on := 17, ground := Go.Ground.guard }], guard := some (17, false) } : Oper)) rfl (fun KK hK => ?_) AllReadyH.nil)
        go_simp
        refine (HCL.out _ hBc).mono ?_
        rintro e2 U2 ⟨rfl, hl2⟩
        have hBc := bcat2 hBc hl2
        try go_wp2_with fail
        refine hK.out _ _ (hS _ hBc) (fun hHeld => ?_)
        clear hK
        try simp only [Act.put, List.setIfInBounds_toArray, List.set_cons_zero, List.set_cons_succ]
        refine wpAnyH_take (i := 24) (oi := ({ dst := some 114, op := Go.Op.unOp Go.UnOp.not 4 (Go.Operand.tmp 113), type := 4, pos := _, after := #[{ on := 23, ground := Go.Ground.data }, { on := 17, ground := Go.Ground.guard }], guard := some (17, false) } : Oper)) (v := .bool false) rfl (by kernel_rfl) (by kernel_rfl) (by kernel_rfl) (fun _ _ _ h => h) (Or.inl ⟨by rfl, ?_⟩) (by assumption) ?_
        · (intro w hSw; (try dsimp only at hSw); go_simp; try (first | with_reducible rfl | (simp; done) | omega | (simp; omega)))
        simp only [Act.put, List.setIfInBounds_toArray, List.set_cons_zero, List.set_cons_succ]
        refine wpAnyH_take (i := 25) (oi := ({ dst := some 115, op := Go.Op.pick (Go.Operand.tmp 107) (Go.Operand.const (Go.Value.bool true)) (Go.Operand.tmp 114), type := 4, pos := _, after := #[{ on := 17, ground := Go.Ground.data }, { on := 24, ground := Go.Ground.data }], guard := none } : Oper)) (v := .bool false) rfl (by kernel_rfl) (by kernel_rfl) (by kernel_rfl) (fun _ _ _ h => h) (Or.inl ⟨by rfl, ?_⟩) (by assumption) ?_
        · (intro w hSw; (try dsimp only at hSw); go_simp; try (first | with_reducible rfl | (simp; done) | omega | (simp; omega)))
        simp only [Act.put, List.setIfInBounds_toArray, List.set_cons_zero, List.set_cons_succ]
        refine wpAnyH_take (i := 26) (oi := ({ dst := some 116, op := Go.Op.move (Go.Operand.tmp 115), type := 4, pos := _, after := #[{ on := 25, ground := Go.Ground.data }, { on := 23, ground := Go.Ground.chain }], guard := none } : Oper)) (v := ?_) rfl (by kernel_rfl) (by kernel_rfl) (by kernel_rfl) (fun _ _ _ h => h) (Or.inl ⟨by rfl, ?_⟩) (by assumption) ?_
        rotate_left
        · (intro w hSw; (try dsimp only at hSw); go_simp; try with_reducible rfl)
        simp only [Act.put, List.setIfInBounds_toArray, List.set_cons_zero, List.set_cons_succ]
        refine wpAnyH_take (i := 27) (oi := ({ dst := some 117, op := Go.Op.move (Go.Operand.tmp 11), type := 3, pos := _, after := #[{ on := 26, ground := Go.Ground.guard }], guard := some (26, false) } : Oper)) (v := ?_) rfl (by kernel_rfl) (by kernel_rfl) (by kernel_rfl) (fun _ _ _ h => h) (Or.inl ⟨by rfl, ?_⟩) (by assumption) ?_
        rotate_left
        · (intro w hSw; (try dsimp only at hSw); go_simp; try with_reducible rfl)
        simp only [Act.put, List.setIfInBounds_toArray, List.set_cons_zero, List.set_cons_succ]
        refine wpAnyH_take (i := 28) (oi := ({ dst := some 118, op := Go.Op.binOp Go.BinOp.gtr 3 (Go.Operand.tmp 117) (Go.Operand.const (Go.Value.int Go.IntKind.i64 0)) 3, type := 4, pos := _, after := #[{ on := 27, ground := Go.Ground.data }, { on := 26, ground := Go.Ground.guard }], guard := some (26, false) } : Oper)) (v := .bool true) rfl (by kernel_rfl) (by kernel_rfl) (by kernel_rfl) (fun _ _ _ h => h) (Or.inl ⟨by rfl, ?_⟩) (by assumption) ?_
        · (intro w hSw; (try dsimp only at hSw); go_simp; try (first | with_reducible rfl | (simp; done) | omega | (simp; omega)))
        simp only [Act.put, List.setIfInBounds_toArray, List.set_cons_zero, List.set_cons_succ]
        refine wpAnyH_take (i := 29) (oi := ({ dst := some 119, op := Go.Op.move (Go.Operand.tmp 118), type := 4, pos := _, after := #[{ on := 28, ground := Go.Ground.data }, { on := 26, ground := Go.Ground.chain }, { on := 26, ground := Go.Ground.guard }], guard := some (26, false) } : Oper)) (v := ?_) rfl (by kernel_rfl) (by kernel_rfl) (by kernel_rfl) (fun _ _ _ h => h) (Or.inl ⟨by rfl, ?_⟩) (by assumption) ?_
        rotate_left
        · (intro w hSw; (try dsimp only at hSw); go_simp; try with_reducible rfl)
        simp only [Act.put, List.setIfInBounds_toArray, List.set_cons_zero, List.set_cons_succ]
        refine wpAnyH_take (i := 30) (oi := ({ dst := some 120, op := Go.Op.load 25 (Go.Operand.tmp 5), type := 25, pos := _, after := #[{ on := 29, ground := Go.Ground.guard }], guard := some (29, true) } : Oper)) (v := ?_) rfl (by kernel_rfl) (by kernel_rfl) (by kernel_rfl) (fun _ _ _ h => h) (Or.inl ⟨by rfl, ?_⟩) (by assumption) ?_
        rotate_left
        · (intro w hSw; (try dsimp only at hSw); go_simp; try with_reducible rfl)
        simp only [Act.put, List.setIfInBounds_toArray, List.set_cons_zero, List.set_cons_succ]
        refine wpAnyH_take (i := 31) (oi := ({ dst := some 121, op := Go.Op.move (Go.Operand.tmp 11), type := 3, pos := _, after := #[{ on := 29, ground := Go.Ground.guard }], guard := some (29, true) } : Oper)) (v := ?_) rfl (by kernel_rfl) (by kernel_rfl) (by kernel_rfl) (fun _ _ _ h => h) (Or.inl ⟨by rfl, ?_⟩) (by assumption) ?_
        rotate_left
        · (intro w hSw; (try dsimp only at hSw); go_simp; try with_reducible rfl)
        simp only [Act.put, List.setIfInBounds_toArray, List.set_cons_zero, List.set_cons_succ]
        refine wpAnyH_take (i := 32) (oi := ({ dst := some 122, op := Go.Op.binOp Go.BinOp.sub 3 (Go.Operand.tmp 121) (Go.Operand.const (Go.Value.int Go.IntKind.i64 1)) 3, type := 3, pos := _, after := #[{ on := 31, ground := Go.Ground.data }, { on := 29, ground := Go.Ground.guard }], guard := some (29, true) } : Oper)) (v := .int .i64 kk) rfl (by kernel_rfl) (by kernel_rfl) (by kernel_rfl) (fun _ _ _ h => h) (Or.inl ⟨by rfl, ?_⟩) (by assumption) ?_
        · (intro w hSw; (try dsimp only at hSw); go_simp; try (first | with_reducible rfl | (simp; done) | exact hk1 | (simp [hk1]; done) | omega | (simp; omega)))
        simp only [Act.put, List.setIfInBounds_toArray, List.set_cons_zero, List.set_cons_succ]
        refine wpAnyH_take (i := 33) (oi := ({ dst := some 123, op := Go.Op.indexAddr 25 (Go.Operand.tmp 120) (Go.Operand.tmp 122), type := 0, pos := _, after := #[{ on := 30, ground := Go.Ground.data }, { on := 32, ground := Go.Ground.data }, { on := 29, ground := Go.Ground.guard }], guard := some (29, true) } : Oper)) (v := ?_) rfl (by kernel_rfl) (by kernel_rfl) (by kernel_rfl) (fun _ _ _ h => h) (Or.inl ⟨by rfl, ?_⟩) (by assumption) ?_
        rotate_left
        · (intro w hSw; (try dsimp only at hSw); go_simp; try with_reducible rfl)
        simp only [Act.put, List.setIfInBounds_toArray, List.set_cons_zero, List.set_cons_succ]
        refine wpAnyH_take (i := 34) (oi := ({ dst := some 124, op := Go.Op.load 22 (Go.Operand.tmp 123), type := 22, pos := _, after := #[{ on := 33, ground := Go.Ground.data }, { on := 29, ground := Go.Ground.guard }], guard := some (29, true) } : Oper)) (v := ?_) rfl (by kernel_rfl) (by kernel_rfl) (by kernel_rfl) (fun _ _ _ h => h) (Or.inl ⟨by rfl, ?_⟩) (by assumption) ?_
        rotate_left
        · (intro w hSw; (try dsimp only at hSw); go_simp; try with_reducible rfl)
        simp only [Act.put, List.setIfInBounds_toArray, List.set_cons_zero, List.set_cons_succ]
        refine wpAnyH_take (i := 35) (oi := ({ dst := some 125, op := Go.Op.load 25 (Go.Operand.tmp 5), type := 25, pos := _, after := #[{ on := 29, ground := Go.Ground.guard }], guard := some (29, true) } : Oper)) (v := ?_) rfl (by kernel_rfl) (by kernel_rfl) (by kernel_rfl) (fun _ _ _ h => h) (Or.inl ⟨by rfl, ?_⟩) (by assumption) ?_
        rotate_left
        · (intro w hSw; (try dsimp only at hSw); go_simp; try with_reducible rfl)
        simp only [Act.put, List.setIfInBounds_toArray, List.set_cons_zero, List.set_cons_succ]
        refine wpAnyH_take (i := 36) (oi := ({ dst := some 126, op := Go.Op.move (Go.Operand.tmp 11), type := 3, pos := _, after := #[{ on := 29, ground := Go.Ground.guard }], guard := some (29, true) } : Oper)) (v := ?_) rfl (by kernel_rfl) (by kernel_rfl) (by kernel_rfl) (fun _ _ _ h => h) (Or.inl ⟨by rfl, ?_⟩) (by assumption) ?_
        rotate_left
        · (intro w hSw; (try dsimp only at hSw); go_simp; try with_reducible rfl)
        simp only [Act.put, List.setIfInBounds_toArray, List.set_cons_zero, List.set_cons_succ]
        refine wpAnyH_take (i := 37) (oi := ({ dst := some 127, op := Go.Op.indexAddr 25 (Go.Operand.tmp 125) (Go.Operand.tmp 126), type := 0, pos := _, after := #[{ on := 35, ground := Go.Ground.data }, { on := 36, ground := Go.Ground.data }, { on := 29, ground := Go.Ground.guard }], guard := some (29, true) } : Oper)) (v := ?_) rfl (by kernel_rfl) (by kernel_rfl) (by kernel_rfl) (fun _ _ _ h => h) (Or.inl ⟨by rfl, ?_⟩) (by assumption) ?_
        rotate_left
        · (intro w hSw; (try dsimp only at hSw); go_simp; try with_reducible rfl)
        simp only [Act.put, List.setIfInBounds_toArray, List.set_cons_zero, List.set_cons_succ]
        refine wpAnyH_take (i := 38) (oi := ({ dst := some 128, op := Go.Op.load 22 (Go.Operand.tmp 127), type := 22, pos := _, after := #[{ on := 37, ground := Go.Ground.data }, { on := 29, ground := Go.Ground.guard }], guard := some (29, true) } : Oper)) (v := ?_) rfl (by kernel_rfl) (by kernel_rfl) (by kernel_rfl) (fun _ _ _ h => h) (Or.inl ⟨by rfl, ?_⟩) (by assumption) ?_
        rotate_left
        · (intro w hSw; (try dsimp only at hSw); go_simp; try with_reducible rfl)
        simp only [Act.put, List.setIfInBounds_toArray, List.set_cons_zero, List.set_cons_succ]
        refine wpAnyH_ready (rs := [39]) (by kernel_rfl) (by simp) (AllReadyH.cons (o := ({ dst := some 129, op := Go.Op.call { callee := Go.Callee.value (Go.Operand.func 21), args := #[Go.Operand.tmp 124, Go.Operand.tmp 128], argTypes := #[22, 22] }, type := 4, pos := _, after := #[{ on := 34, ground := Go.Ground.data }, { on := 38, ground := Go.Ground.data }, { on := 29, ground := Go.Ground.chain }, { on := 29, ground := Go.Ground.guard }], guard := some (29, true) } : Oper)) rfl (fun KK hK => ?_) AllReadyH.nil)
        go_simp
        refine (HLE.out _ hBc).mono ?_
        rintro e3 U3 ⟨rfl, hl3⟩
        have hBc := bcat2 hBc hl3
        try go_wp2_with fail
        refine hK.out _ _ (hS _ hBc) (fun hHeld => ?_)
        clear hK
        try simp only [Act.put, List.setIfInBounds_toArray, List.set_cons_zero, List.set_cons_succ]
        refine wpAnyH_take (i := 40) (oi := ({ dst := some 130, op := Go.Op.unOp Go.UnOp.not 4 (Go.Operand.tmp 129), type := 4, pos := _, after := #[{ on := 39, ground := Go.Ground.data }, { on := 29, ground := Go.Ground.guard }], guard := some (29, true) } : Oper)) (v := .bool false) rfl (by kernel_rfl) (by kernel_rfl) (by kernel_rfl) (fun _ _ _ h => h) (Or.inl ⟨by rfl, ?_⟩) (by assumption) ?_
        · (intro w hSw; (try dsimp only at hSw); go_simp; try (first | with_reducible rfl | (simp; done) | omega | (simp; omega)))
        simp only [Act.put, List.setIfInBounds_toArray, List.set_cons_zero, List.set_cons_succ]
        refine wpAnyH_take (i := 41) (oi := ({ dst := some 131, op := Go.Op.pick (Go.Operand.tmp 119) (Go.Operand.tmp 130) (Go.Operand.const (Go.Value.bool false)), type := 4, pos := _, after := #[{ on := 29, ground := Go.Ground.data }, { on := 40, ground := Go.Ground.data }, { on := 26, ground := Go.Ground.guard }], guard := some (26, false) } : Oper)) (v := .bool false) rfl (by kernel_rfl) (by kernel_rfl) (by kernel_rfl) (fun _ _ _ h => h) (Or.inl ⟨by rfl, ?_⟩) (by assumption) ?_
        · (intro w hSw; (try dsimp only at hSw); go_simp; try (first | with_reducible rfl | (simp; done) | omega | (simp; omega)))
        simp only [Act.put, List.setIfInBounds_toArray, List.set_cons_zero, List.set_cons_succ]
        refine wpAnyH_take (i := 42) (oi := ({ dst := some 132, op := Go.Op.pick (Go.Operand.tmp 116) (Go.Operand.const (Go.Value.bool true)) (Go.Operand.tmp 131), type := 4, pos := _, after := #[{ on := 26, ground := Go.Ground.data }, { on := 41, ground := Go.Ground.data }], guard := none } : Oper)) (v := .bool false) rfl (by kernel_rfl) (by kernel_rfl) (by kernel_rfl) (fun _ _ _ h => h) (Or.inl ⟨by rfl, ?_⟩) (by assumption) ?_
        · (intro w hSw; (try dsimp only at hSw); go_simp; try (first | with_reducible rfl | (simp; done) | omega | (simp; omega)))
        simp only [Act.put, List.setIfInBounds_toArray, List.set_cons_zero, List.set_cons_succ]
        refine wpAnyH_done (by kernel_rfl) ?_ _
        clear hHeld hS hS0
        go_wp2
        go_roundw
        case rel => exact ⟨k + 1, by omega, by go_num, bcat2 hbr hBc⟩
        case measure => simp [intOf]; omega
    · go_wp2_with fail
      clear l0
      have HSH := hide (fun W u (a : Nat) (ha : a < n) (h : Below w.heap.size w W) (hu : Sl W u (li xs0)) => shf_ok n e a (.slice v1 v2 v3) u zs xs0 W hg (hv.below h) ha hu HX0.out)
      obtain ⟨m1, m3, hm0, hmS⟩ := hR10 0 hpos
      rw [hms0, li_len] at hm0 hmS
      clear hms0 HLI HCLO HSUB HONE HLS hfld
      generalize hwA : wr = wA at *
      clear hwA
      go_loopw [12] (fun i wr => ∃ a : Nat, a ≤ n ∧ i = .int .i64 a ∧ Below w10.heap.size w10 wr) (fun i _ => n - (intOf i).toNat)
      case atStart => exact ⟨0, Nat.zero_le _, rfl, hbr⟩
      case round =>
        clear hbr
        obtain ⟨a, ha, rfl, hbr⟩ := hrel
        obtain ⟨c0, c1, _, _⟩ := (blk_below hX10 hbr).two
        by_cases han : a < n
        · have hai : (a : Int) < (n : Int) := by omega
          have l0 := (Boxed.below hL10 hbr).cell
          have h00 := below_cell hbr hm0
          have hBr := bcat2 hB10 hbr
          have hpi : (0 : Int) < (ms.length : Int) := by omega
          have HS1 := hide (fun W (h : Below wr.heap.size wr W) => HSH.out W _ a han (bcat2 hBr h) ((hmS.below hbr).below h))
          have hS : ∀ W, Below wr.heap.size wr W → (Below wr.heap.size wr W ∧ W.cell? ⟨w.heap.size, 0, none⟩ = some (.int .i64 n) ∧ W.cell? ⟨w.heap.size, 1, none⟩ = some (.slice v1 v2 v3) ∧ W.cell? ⟨w2.heap.size, 0, none⟩ = some (.slice (some ⟨lg, 0, none⟩) ms.length lc) ∧ W.cell? ⟨lg, 0, none⟩ = some (.slice m1 xs0.length m3)) := fun W h => ⟨h, below_cell h c0, below_cell h c1, below_cell h l0, below_cell h h00⟩
          have hS0 := hS _ (bdrew (Below.refl _ wr))
          go_wp2_with fail
          clear c0 c1 l0 h00
          go_region_held3 (fun W => (Below wr.heap.size wr W ∧ W.cell? ⟨w.heap.size, 0, none⟩ = some (.int .i64 n) ∧ W.cell? ⟨w.heap.size, 1, none⟩ = some (.slice v1 v2 v3) ∧ W.cell? ⟨w2.heap.size, 0, none⟩ = some (.slice (some ⟨lg, 0, none⟩) ms.length lc) ∧ W.cell? ⟨lg, 0, none⟩ = some (.slice m1 xs0.length m3)))
            (first | exact hS0 | assumption | exact hS _ (bcat2 (And.left ‹_›) hl5))
            (first | (go_at_call 22; refine (HS1.out _ (And.left ‹_›)).mono ?_; rintro e5 U5 ⟨r, rfl, hr5, hl5⟩; have hU5 := bcat2 (And.left ‹_›) hl5; have hrS := row_sl hr5 (by have := hU5.size; have := hBr.size; have := hT.lt; omega); obtain ⟨r1, r2, r3, rfl⟩ := hrS.isSlice))
          all_goals (
            clear hS hS0 HS1 hr5
            have hb5 := bcat2 hbr hU5
            generalize hwo : wr = wrO at *
            clear hwo
            go_wp2_with fail
            go_loopw [13, 15] (fun bv iv wr => ∃ (b : Bool) (i : Nat), i ≤ ms.length ∧ bv = .bool b ∧ iv = .int .i64 i ∧ (b = true ↔ ∃ t, t < i ∧ shd n zs e xs0 a = ms[t]?.getD []) ∧ Below U5.heap.size U5 wr) (fun _ iv _ => ms.length - (intOf iv).toNat)
            case atStart => exact ⟨false, 0, Nat.zero_le _, rfl, rfl, by simp, Below.refl _ _⟩
            case round =>
              obtain ⟨b, i, hi, rfl, rfl, hbi, hbj⟩ := hrel
              have HBI := hide hbi
              clear hbi
              have hb6 := bcat2 hb5 hbj
              have l0 := (Boxed.below hL10 hb6).cell
              by_cases hil : i < ms.length
              · have hii : (i : Int) < (ms.length : Int) := by omega
                obtain ⟨a1, a3, ha0, haS⟩ := (hR10.below hb6) i hil
                cases b with
                | true =>
                  go_wp2
                  go_roundw
                  case rel => exact ⟨true, i + 1, by omega, rfl, by go_num, ⟨fun _ => by obtain ⟨t, ht, h9⟩ := HBI.out.1 rfl; exact ⟨t, by omega, h9⟩, fun _ => rfl⟩, hbj⟩
                  case measure => simp [intOf]; omega
                | false =>
                  have HNO := hide (show ¬ ∃ t, t < i ∧ shd n zs e xs0 a = ms[t]?.getD [] from fun h9 => by have := HBI.out.2 h9; cases this)
                  have HIN := hide (ints_any _ _ _ _ wr (hrS.below hbj) haS)
                  generalize hmt : ms[i]?.getD [] = mt at *
                  go_wp2_with fail
                  refine HIN.out.mono ?_
                  rintro x w6 ⟨rfl, hb7⟩
                  go_wp2
                  go_roundw
                  case rel => exact ⟨decide (shd n zs e xs0 a = mt), i + 1, by omega, rfl, by go_num, ⟨fun h9 => ⟨i, by omega, by rw [hmt]; exact of_decide_eq_true h9⟩, fun ⟨t, ht, h9⟩ => by
                    by_cases e9 : t = i
                    · subst e9; rw [hmt] at h9; exact decide_eq_true h9
                    · exact absurd ⟨t, by omega, h9⟩ HNO.out⟩, bcat2 hbj hb7⟩
                  case measure => simp [intOf]; omega
              · have hbt : b = true := by
                  obtain ⟨t, ht, h9⟩ := HMV.out a han
                  exact HBI.out.2 ⟨t, by omega, h9⟩
                subst hbt
                go_wp2
                go_roundw
                case rel => exact ⟨a + 1, by omega, by go_num, hb6⟩
                case measure => simp [intOf]; omega)
        · go_wp2_with fail
          clear c0 c1
          generalize hwA : wr = wA at *
          clear hwA
          go_loopw [16, 17] (fun cv iv wr => ∃ k : Nat, k ≤ ms.length ∧ cv = .int .i64 k ∧ iv = .int .i64 k ∧ Below w10.heap.size w10 wr) (fun _ iv _ => ms.length - (intOf iv).toNat)
          case atStart => exact ⟨0, Nat.zero_le _, rfl, rfl, hbr⟩
          case round =>
            clear hbr
            obtain ⟨k, hk, rfl, rfl, hbr⟩ := hrel
            have l0 := (Boxed.below hL10 hbr).cell
            by_cases hlt : k < ms.length
            · have hki : (k : Int) < (ms.length : Int) := by omega
              generalize hwo : wr = wrO at *
              clear hwo
              go_wp2_with fail
              clear l0
              go_loopw [18, 19] (fun bv iv wr => ∃ (b : Bool) (i : Nat), i ≤ n ∧ bv = .bool b ∧ iv = .int .i64 i ∧ (b = false → ∀ t, t < i → ¬ shd n zs e xs0 t = ms[k]?.getD []) ∧ Below w10.heap.size w10 wr) (fun _ iv _ => n - (intOf iv).toNat)
              case atStart => exact ⟨false, 0, Nat.zero_le _, rfl, rfl, fun _ t ht => by omega, hbr⟩
              case round =>
                clear hbr
                obtain ⟨b, i, hi, rfl, rfl, hbi, hbr⟩ := hrel
                have HBI := hide hbi
                clear hbi
                obtain ⟨c0, c1, _, _⟩ := (blk_below hX10 hbr).two
                cases b with
                | true =>
                  by_cases hin : i < n
                  · have hii : (i : Int) < (n : Int) := by omega
                    go_wp2
                    go_roundw
                    case rel => exact ⟨k + 1, by omega, by go_num, by go_num, hbr⟩
                    case measure => simp [intOf]; omega
                  · go_wp2
                    go_roundw
                    case rel => exact ⟨k + 1, by omega, by go_num, by go_num, hbr⟩
                    case measure => simp [intOf]; omega
                | false =>
                  by_cases hin : i < n
                  · have hii : (i : Int) < (n : Int) := by omega
                    have HNB := hide (HBI.out rfl)
                    clear HBI
                    have l0 := (Boxed.below hL10 hbr).cell
                    have h00 := below_cell hbr hm0
                    have hBr := bcat2 hB10 hbr
                    have hpi : (0 : Int) < (ms.length : Int) := by omega
                    obtain ⟨a1, a3, ha0, haS⟩ := (hR10.below hbr) k hlt
                    have HS1 := hide (fun W (h : Below wr.heap.size wr W) => HSH.out W _ i hin (bcat2 hBr h) ((hmS.below hbr).below h))
                    have HI1 := hide (fun W u (hu : Sl W u (shd n zs e xs0 i)) (h : Below wr.heap.size wr W) => ints_any u _ _ _ W hu (haS.below h))
                    have HPZ := hide (show ∀ W, Below wr.heap.size wr W → 0 < W.heap.size from fun W h => by have := h.size; have := hBr.size; have := hT.lt; omega)
                    clear haS
                    generalize hmt : ms[k]?.getD [] = mt at *
                    have hS : ∀ W, Below wr.heap.size wr W → (Below wr.heap.size wr W ∧ W.cell? ⟨w.heap.size, 0, none⟩ = some (.int .i64 n) ∧ W.cell? ⟨w.heap.size, 1, none⟩ = some (.slice v1 v2 v3) ∧ W.cell? ⟨w2.heap.size, 0, none⟩ = some (.slice (some ⟨lg, 0, none⟩) ms.length lc) ∧ W.cell? ⟨lg, 0, none⟩ = some (.slice m1 xs0.length m3) ∧ W.cell? ⟨lg, k, none⟩ = some (.slice a1 mt.length a3)) := fun W h => ⟨h, below_cell h c0, below_cell h c1, below_cell h l0, below_cell h h00, below_cell h ha0⟩
                    have hS0 := hS _ (bdrew (Below.refl _ wr))
                    go_wp2_with fail
                    clear c0 c1 l0 h00 ha0
                    go_region_held3 (fun W => (Below wr.heap.size wr W ∧ W.cell? ⟨w.heap.size, 0, none⟩ = some (.int .i64 n) ∧ W.cell? ⟨w.heap.size, 1, none⟩ = some (.slice v1 v2 v3) ∧ W.cell? ⟨w2.heap.size, 0, none⟩ = some (.slice (some ⟨lg, 0, none⟩) ms.length lc) ∧ W.cell? ⟨lg, 0, none⟩ = some (.slice m1 xs0.length m3) ∧ W.cell? ⟨lg, k, none⟩ = some (.slice a1 mt.length a3)))
                      (first | exact hS0 | assumption | exact hS _ (bcat2 (And.left ‹_›) hl6) | exact hS _ (bcat2 (And.left ‹_›) hl5))
                      (first
                        | (go_at_call 22; refine (HS1.out _ (And.left ‹_›)).mono ?_; rintro e5 U5 ⟨r, rfl, hr5, hl5⟩; have hU5 := bcat2 (And.left ‹_›) hl5; have hrS := row_sl hr5 (HPZ.out _ hU5); obtain ⟨r1, r2, r3, rfl⟩ := hrS.isSlice)
                        | (go_at_call 23; refine (HI1.out _ _ hrS hU5).mono ?_; rintro e6 U6 ⟨rfl, hl6⟩; have hU6 := bcat2 hU5 hl6))
                    all_goals (
                      clear hS hS0 HS1 HI1
                      go_wp2
                      go_roundw
                      case rel => exact ⟨decide (shd n zs e xs0 i = mt), i + 1, by omega, rfl, by go_num, fun h9 t ht => by
                        by_cases e9 : t = i
                        · subst e9; exact of_decide_eq_false h9
                        · exact HNB.out t (by omega), bcat2 hbr hU6⟩
                      case measure => simp [intOf]; omega)
                  · obtain ⟨t, ht, h9⟩ := HRC.out k hlt
                    exact absurd h9 (HBI.out rfl t (by omega))
            · have hkl : k = ms.length := by omega
              subst hkl
              obtain ⟨c0, c1, _, _⟩ := (blk_below hX10 hbr).two
              go_wp2_with fail
              clear c0 c1 l0
              refine (rthose_ok n 25 (.slice v1 v2 v3) _ (inall ms) wr hn (fun a W => call25 a _ W) (fun W x hW _ => sal1_ok x w2.heap.size lg lc ms W (Boxed.below (Boxed.below hL10 hbr) hW) ((hR10.below hbr).below hW) (by omega))).mono ?_
              rintro x w11 ⟨r, rfl, hr, hb11⟩
              have hrS := row_sl hr (by have := hb11.size; have := hbr.size; have := hB10.size; have := hT.lt; omega)
              obtain ⟨r1, r2, r3, rfl⟩ := hrS.isSlice
              have HIN := hide (ints_any _ _ _ _ w11 ((hcs10.below hbr).below hb11) hrS)
              rw [decide_eq_true HLK.out] at HIN
              go_wp2_with fail
              refine HIN.out.mono ?_
              rintro x w12 ⟨rfl, hb12⟩
              go_wp2
              go_ret
              exact ⟨rfl, bcat2 hB10 (bcat2 hbr (bcat2 hb11 hb12))⟩
theorem sal_law (N p : Int) (v : Value) (zs : List Int) (w : World) (hv : Sl w v zs) (hT : Tab w) (hz : zs.length * 8 ≤ 140737488355328) :
    Calls Tryd.prog 3 #[.agg #[.int .i64 N, v], .int .i64 p] w fun e w' => e = .returned (.bool true) ∧ Below w.heap.size w w' := by
  obtain ⟨v1, v2, v3, rfl⟩ := hv.isSlice
  by_cases hc : (pfault N zs p).1 = 0
  · obtain ⟨h1, hpr⟩ := pfault_good hc
    obtain ⟨n, e, rfl, hg, h0⟩ := gfault_grp h1
    have hb := of_decide_eq_true hpr
    obtain ⟨q, rfl⟩ : ∃ q : Nat, p = q := ⟨p.toNat, by omega⟩
    exact sal_good n e q v1 v2 v3 zs w hv hg hT hz hpr (by
      unfold pfault
      rw [if_neg (fun h9 => by rw [hpr] at h9; exact absurd h9.2 (by simp)), h0])
  · exact sal_bad N p v1 v2 v3 zs w hv hT hz hc
end Go.Proofs.YtolbpjjjoafkkaaDoor

namespace Go.Proofs.YtolbpjjjoafkkaaDoor
open Go.ChangeShapes Go.WideShapes Go.ChangeAt Go.RowKit

theorem own : ownKnob Tryd.prog.godebug = none := by kernel_rfl
theorem laidOut : laidOutB Tryd.prog = true := by kernel_rfl

/-- A slice of ints that reads as zs; where nothing is in it, nothing is told of the memory. -/
def SlA (w : World) (v : Value) (zs : List Int) : Prop := ∃ a cap pb po, v = .slice a zs.length cap ∧ Reads w a pb po zs ∧ (0 < zs.length → pb < w.heap.size) ∧ zs.length ≤ cap ∧ cap ≤ maxLen
theorem SlA.up {w w' : World} {v : Value} {zs : List Int} (h : SlA w v zs) (hb : Below w.heap.size w w') (h0 : 0 < w'.heap.size) : Sl w' v zs := by
  obtain ⟨a, cap, pb, po, hv, hr, hp, h1, h2⟩ := h
  rcases Nat.eq_zero_or_pos zs.length with hz | hz
  · exact ⟨a, cap, 0, 0, hv, ⟨fun h => by omega, fun j hj => by omega⟩, h0, h1, h2⟩
  · exact ⟨a, cap, pb, po, hv, hr.below hb (hp hz), Nat.lt_of_lt_of_le (hp hz) hb.size, h1, h2⟩
theorem SlA.of {w : World} {v : Value} {zs : List Int} (h : Sl w v zs) : SlA w v zs := by
  obtain ⟨a, cap, pb, po, hv, hr, hp, h1, h2⟩ := h
  exact ⟨a, cap, pb, po, hv, hr, fun _ => hp, h1, h2⟩

theorem und24 : ∃ f0 f1 : Field, Tryd.prog.underlying 24 = some (.struct #[f0, f1]) ∧ f0.type = 3 ∧ f1.type = 22 ∧ f0.offset = 0 ∧ f1.offset = 1 := ⟨_, _, Tryd.underlying24, rfl, rfl, rfl, rfl⟩
theorem und3 : Tryd.prog.underlying 3 = some (.int .i64) := by kernel_rfl
theorem und22 : Tryd.prog.underlying 22 = some (.slice 3) := by kernel_rfl
theorem und4 : Tryd.prog.underlying 4 = some .bool := by kernel_rfl

set_option maxRecDepth 100000 in
/-- What is told of a table that came in. -/
theorem open_group {H : Type} {enc : TypeId × Value → H} {W : World} {b0 : Nat} {v : Value} {d : DataW H} {ps : List MemPlace} (hval : Value.okWide Tryd.prog W .any b0 24 v)
    (hd : DataW.Trod enc Tryd.prog W 0 (fun _ => true) true 24 v d ps) :
    ∃ N u zs, v = .agg #[.int .i64 N, u] ∧ SlA W u zs ∧ (Lit.int .i64 N).wf = true ∧ ((d.weights Tryd.prog 24).all (· ≤ reachBytes) = true → zs.length * 8 ≤ 140737488355328) := by
  obtain ⟨f0, f1, hu, ht0, ht1, ho0, ho1⟩ := und24
  obtain ⟨cs, rfl, hsz⟩ := okWide_struct hu hval
  rw [show Tryd.prog.cellsOf 24 = 2 by kernel_rfl] at hsz
  obtain ⟨l⟩ := cs
  match l, hsz with
  | [c0, c1], _ =>
  obtain ⟨fuel, hf⟩ := hd
  obtain ⟨y0, y1, m, hx, _, hy0, hy1⟩ := trod_struct2 hu hf
  rw [ht0, ho0, show Tryd.prog.cellsOf 3 = 1 by kernel_rfl] at hy0
  rw [ht1, ho1, show Tryd.prog.cellsOf 22 = 1 by kernel_rfl] at hy1
  obtain ⟨N, e0, rfl, wN⟩ := DataW.trod_int und3 hy0
  simp [Value.cells] at e0
  subst e0
  simp [Value.cells] at hy1
  rcases open_ints und22 und3 (by kernel_rfl) hy1 with ⟨hcs, _⟩ | ⟨x, l, c, zs, hcs, _, hl, hm, hz, heq, hcell, hwz⟩
  · simp at hcs
    subst hcs
    exact ⟨N, _, [], rfl, ⟨none, 0, 0, 0, rfl, ⟨by simp, by simp⟩, by simp, by simp, by unfold maxLen; omega⟩, wN, fun _ => by simp⟩
  · simp at hcs
    subst hcs
    have hzc : zs.length = c := by simpa using hz
    have hlen : (zs.take l).length = l := by rw [List.length_take]; omega
    refine ⟨N, _, zs.take l, rfl, ?_, wN, fun hw => ?_⟩
    · by_cases hpos : 0 < c
      · obtain ⟨b, o, rfl, hc'⟩ := ints_at hcell (by omega)
        refine ⟨some ⟨b, o, none⟩, c, b, o, by rw [hlen], ⟨fun _ => rfl, fun j hj => ?_⟩, fun _ => World.block_lt_of_cell? W _ (hc' 0 (by omega)), by omega, hm⟩
        rw [hlen] at hj
        rw [hc' j (by omega), List.getElem?_take, if_pos hj, List.getD_eq_getElem?_getD]
      · have : l = 0 := by omega
        subst this
        exact ⟨some x, c, 0, 0, by simp, ⟨by simp, by simp⟩, by simp, by simp, hm⟩
    · have hd : d = .agg [.lit (.int .i64 N), .slice (lits .i64 (zs.take l)) (lits .i64 (zs.drop l))] := by
        have h1 := congrArg Prod.fst hx
        simp only [heq] at h1
        exact h1
      have hw2 := List.all_eq_true.1 hw (((lits (H := H) .i64 (zs.take l)).length + (lits (H := H) .i64 (zs.drop l)).length) * Tryd.prog.bytesOf 3) (by
        rw [hd]; simp [DataW.weights, DataW.weightsEach, hu, ht0, ht1])
      rw [show Tryd.prog.bytesOf 3 = 8 by kernel_rfl] at hw2
      simp only [lits, List.length_map, decide_eq_true_eq] at hw2
      unfold reachBytes at hw2
      omega
end Go.Proofs.YtolbpjjjoafkkaaDoor

namespace Go.Proofs.YtolbpjjjoafkkaaDoor
open Go.ChangeShapes Go.WideShapes Go.ChangeAt Go.RowKit

/-- What the rows list. -/
def laid1 : List (String × DataW Unit) := Rows.sylowQuotientsRow.laid
def tabZ : List Int := Lib.deBruijn64tab.map fun (x : Nat) => (x : Int)
theorem tab_data : (Rows.laid_math_bits_deBruijn64tab : DataW Unit) = Lib.tabData .u8 tabZ := by kernel_rfl
/-- The door's own heap meets the condition. -/
theorem door_met (os : Os) (args : Array Value) : laidMetH Tryd.prog laid1 ((World.doorLaid Tryd.prog 400 os).forCall (fun _ _ => 0) ⟨#[], args, []⟩).memory :=
  laidMetH_of_parts3 (fuel := 8) (laidMet_of_run' 8 (by kernel_rfl) (by kernel_rfl)) (by kernel_rfl) (by kernel_rfl)
theorem tab_of_laid {W : World} (h : laidMetH Tryd.prog laid1 W) : Tab W := by
  rw [MakeChecks.laidMetH_plain _ _ _ (by kernel_rfl)] at h
  have h2 : laidMet Tryd.prog [("math/bits.deBruijn64tab", (Rows.laid_math_bits_deBruijn64tab : DataW Unit))] W := h
  rw [tab_data] at h2
  have hg : Tryd.prog.globalNamed "math/bits.deBruijn64tab" = some 0 := by kernel_rfl
  have hT := Lib.tabIs_of_head hg (t := 114) (e := 5) (n := 64) (by kernel_rfl) (by kernel_rfl) (by kernel_rfl) (by kernel_rfl) (by kernel_rfl) h2
  intro j hj
  have hj' : j < tabZ.length := by simpa [tabZ] using hj
  have hc := hT.cell hg j hj'
  rw [hc]
  simp [tabZ, hj]
set_option maxRecDepth 100000 in
/-- A list of ints that came in: its value, what it reads as, and its size. -/
theorem open_list {H : Type} {enc : TypeId × Value → H} {W : World} {b0 : Nat} {v : Value} {d : DataW H} {ps : List MemPlace} (hval : Value.okWide Tryd.prog W .any b0 22 v)
    (hd : DataW.Trod enc Tryd.prog W 0 (fun _ => true) true 22 v d ps) (h0 : 0 < W.heap.size) :
    ∃ zs, Sl W v zs ∧ ((d.weights Tryd.prog 22).all (· ≤ reachBytes) = true → zs.length * 8 ≤ 140737488355328) := by
  obtain ⟨a, len, cap, rfl⟩ := okWide_slice und22 hval
  obtain ⟨fuel, hf⟩ := hd
  rcases open_ints und22 und3 (by kernel_rfl) hf with ⟨hcs, _⟩ | ⟨x, l, c, zs, hcs, _, hl, hm, hz, heq, hcell, hwz⟩
  · simp [Value.cells] at hcs
    obtain ⟨rfl, rfl, rfl⟩ := hcs
    exact ⟨[], Sl.nil h0, fun _ => by simp⟩
  · simp [Value.cells] at hcs
    obtain ⟨rfl, rfl, rfl⟩ := hcs
    have hzc : zs.length = cap := by simpa using hz
    have hlen : (zs.take len).length = len := by rw [List.length_take]; omega
    refine ⟨zs.take len, ?_, fun hw => ?_⟩
    · by_cases hpos : 0 < cap
      · obtain ⟨b, o, rfl, hc'⟩ := ints_at hcell (by omega)
        refine ⟨some ⟨b, o, none⟩, cap, b, o, by rw [hlen], ⟨fun _ => rfl, fun j hj => ?_⟩, World.block_lt_of_cell? W _ (hc' 0 (by omega)), by omega, hm⟩
        rw [hlen] at hj
        rw [hc' j (by omega), List.getElem?_take, if_pos hj, List.getD_eq_getElem?_getD]
      · have : len = 0 := by omega
        subst this
        exact ⟨some x, cap, 0, 0, by simp, ⟨by simp, by simp⟩, h0, by simp, hm⟩
    · simp only [Prod.mk.injEq] at heq
      have hw2 := List.all_eq_true.1 hw (((lits (H := H) .i64 (zs.take len)).length + (lits (H := H) .i64 (zs.drop len)).length) * Tryd.prog.bytesOf 3) (by
        rw [heq.1]; simp [DataW.weights])
      rw [show Tryd.prog.bytesOf 3 = 8 by kernel_rfl] at hw2
      simp only [lits, List.length_map, decide_eq_true_eq] at hw2
      unfold reachBytes at hw2
      omega
end Go.Proofs.YtolbpjjjoafkkaaDoor
