/- The law ClassAll: its walk. Condition: the library's table of places lies as its text lays it. The frame that all rows of this family share: how a table that came in reads. The frame that all rows of this family share: what the listed table gives a walk; how a list of ints that came in reads. -/
import Derived.Test.YtobnfbnholbfoaaDoorZ6
import Derived.Test.YtobnfbnholbfoaaDoorRows
import Derived.Test.YtobnfbnholbfoaaDoorZ1
import Derived.ProofKit
import Derived.OpenShut
import Derived.ChangeOld
import Derived.Below
import Derived.SizedLaws
import Derived.LaidMore
import Derived.Stop.Joined
import Derived.Stop.LaidErr
import Derived.Lib.LaidTab
namespace Go.Proofs.YtobnfbnholbfoaaDoor
open Go Go.RowKit Go.Maps

theorem cl14_call (x : Value) (W : World) : Sem.run Tryd.prog (callFunc 14 #[x]) W = .ok (.enter 14 #[x]) W := by kernel_rfl
set_option maxRecDepth 100000 in
set_option maxHeartbeats 2000000 in
theorem cl14_ok (n e gb : Nat) (v : Value) (zs : List Int) (w : World) (g : IsGrp n zs e) (hv : Sl w v zs) (hT : Tab w) (hX : BoxG w gb n v) :
    Calls Tryd.prog 14 #[.pointer (some ⟨gb, 0, none⟩)] w fun x w' => ∃ r, x = .returned r ∧ SlL w' r (rcs n (clq n zs e) n) ∧ Below w.heap.size w w' := by
  obtain ⟨c0, c1, _, _⟩ := hX.two
  have HC := hide (rcl_ok n e v zs w g hv)
  have h0 := hT.lt
  go_enter Tryd.func14, Tryd.ntmps14
  go_wp2_with fail
  refine HC.out.mono ?_
  rintro x w1 ⟨r, vs, rfl, hrow, hls, hb1⟩
  go_wp2
  go_ret
  exact ⟨r, rfl, SlL.of_own hrow hls (Nat.lt_of_lt_of_le h0 hb1.size), hb1⟩

set_option maxRecDepth 100000 in
set_option maxHeartbeats 4000000 in
theorem clall_bad (N : Int) (v : Value) (zs : List Int) (w : World) (hv : Sl w v zs) (hT : Tab w) (hb8 : zs.length * 8 ≤ 140737488355328) (hc : (gfault N zs).1 ≠ 0) :
    Calls Tryd.prog 3 #[.agg #[.int .i64 N, v]] w fun x w' => x = .returned (.bool true) ∧ Below w.heap.size w w' := by
  have hB0 : Below w.heap.size w (w.alloc (.cells #[.int .i64 N, v] 24)) := balloc w _
  have hX0 : BoxG (w.alloc (.cells #[.int .i64 N, v] 24)) w.heap.size N v := blk0 _ _
  obtain ⟨w0, hw0⟩ : ∃ w0, w0 = w.alloc (.cells #[.int .i64 N, v] 24) := ⟨_, rfl⟩
  rw [← hw0] at hB0 hX0
  obtain ⟨c0, c1, _, _⟩ := hX0.two
  rw [hw0] at c0 c1
  go_enter Tryd.func3, Tryd.ntmps3
  go_wp2_with fail
  rw [← hw0]
  clear hw0 c0 c1
  refine (ownGroup_any N v zs w0 (hv.below hB0) hb8).mono ?_
  rintro x w1 ⟨u, rfl, hu, hb1⟩
  go_wp2_with fail
  refine (cla_bad N u zs w1 hu hc).mono ?_
  rintro x w2 ⟨rfl, hb2⟩
  have HGF := hide (fun W (h : Below w.heap.size w W) => groupFault_any N v zs W (hv.below h))
  have HLN := hide (fun W (h : Below w.heap.size w W) => lsas_nil 14 #[.pointer (some ⟨w.heap.size, 0, none⟩)] (gfault N zs).1 (gfault N zs).2 (.slice none 0 0) W (Nat.lt_of_lt_of_le hT.lt h.size) ⟨none, 0, 0, 0, rfl, fun h => absurd h (by simp), fun j hj => absurd hj (by simp), Nat.lt_of_lt_of_le hT.lt h.size, by simp, by unfold maxLen; omega⟩ hc)
  have hcb : ((gfault N zs).1 != 0) = true := by simpa using hc
  generalize (gfault N zs).1 = c at *
  generalize (gfault N zs).2 = i at *
  have hb3 := balloc w2 (.cells #[.int .i64 c, .int .i64 i] 27)
  have hF3 := blk0 (w := w2) (T := 27) (.int .i64 c) (.int .i64 i)
  have hB3 := bcat2 (bcat2 (bcat2 hB0 hb1) hb2) hb3
  have hX3 := blk_below hX0 (bcat2 (bcat2 hb1 hb2) hb3)
  obtain ⟨c0, c1, _, _⟩ := hX3.two
  obtain ⟨t0, t1, _, _⟩ := hF3.two
  go_wp2_with fail
  generalize w2.alloc (.cells #[.int .i64 c, .int .i64 i] 27) = w3 at *
  clear c0 c1 t0 t1
  refine (HGF.out _ hB3).mono ?_
  rintro x w4 ⟨rfl, hb4⟩
  have hb5 := balloc w4 (.cells #[.int .i64 c, .int .i64 i] 27)
  have hF5 := blk0 (w := w4) (T := 27) (.int .i64 c) (.int .i64 i)
  have hB5 := bcat2 (bcat2 hB3 hb4) hb5
  have hX5 := blk_below hX3 (bcat2 hb4 hb5)
  have hG5 := blk_below hF3 (bcat2 hb4 hb5)
  obtain ⟨s0, s1, _, _⟩ := hF5.two
  go_wp2_with fail
  generalize w4.alloc (.cells #[.int .i64 c, .int .i64 i] 27) = w5 at *
  clear s0 s1
  refine (classBegun_any w5 (hT.below hB5)).mono ?_
  rintro x w6 ⟨rfl, hb6⟩
  have hB6 := bcat2 hB5 hb6
  obtain ⟨s0, s1, _, _⟩ := (blk_below hF5 hb6).two
  obtain ⟨t0, t1, _, _⟩ := (blk_below hG5 hb6).two
  go_wp2_with fail
  refine (HLN.out _ hB6).mono ?_
  rintro x w7 ⟨rfl, hb7⟩
  have hB7 := bcat2 hB6 hb7
  clear s0 s1 t0 t1
  obtain ⟨s0, s1, _, _⟩ := (blk_below hF5 (bcat2 hb6 hb7)).two
  go_wp2
  go_loopw [7] (fun i wr => i = .int .i64 (0 : Nat) ∧ wr = w7) (fun _ _ => 0)
  case atStart => exact ⟨rfl, rfl⟩
  case round =>
    obtain ⟨rfl, rfl⟩ := hrel
    go_wp2
    go_ret
    exact ⟨rfl, hB7⟩

set_option maxRecDepth 100000 in
set_option maxHeartbeats 4000000 in
theorem clall_good (n e : Nat) (v : Value) (zs : List Int) (w : World) (hv : Sl w v zs) (hT : Tab w) (hb8 : zs.length * 8 ≤ 140737488355328) (hg : IsGrp n zs e) :
    Calls Tryd.prog 3 #[.agg #[.int .i64 n, v]] w fun x w' => x = .returned (.bool true) ∧ Below w.heap.size w w' := by
  obtain ⟨va, vl, vc, rfl⟩ := hv.isSlice
  have hB0 : Below w.heap.size w (w.alloc (.cells #[.int .i64 n, .slice va vl vc] 24)) := balloc w _
  have hX0 : BoxG (w.alloc (.cells #[.int .i64 n, .slice va vl vc] 24)) w.heap.size n (.slice va vl vc) := blk0 _ _
  obtain ⟨w0, hw0⟩ : ∃ w0, w0 = w.alloc (.cells #[.int .i64 n, .slice va vl vc] 24) := ⟨_, rfl⟩
  rw [← hw0] at hB0 hX0
  obtain ⟨c0, c1, _, _⟩ := hX0.two
  rw [hw0] at c0 c1
  go_enter Tryd.func3, Tryd.ntmps3
  go_wp2_with fail
  rw [← hw0]
  clear hw0 c0 c1
  refine (ownGroup_any n (.slice va vl vc) zs w0 (hv.below hB0) hb8).mono ?_
  rintro x w1 ⟨u, rfl, hu, hb1⟩
  have hT1 := hT.below (bcat2 hB0 hb1)
  go_wp2_with fail
  refine (cla_sl n e u zs w1 hu hg hT1).mono ?_
  rintro x w2 ⟨r1, r2, r3, rfl, hL, hb2⟩
  have HGF := hide (fun W (h : Below w.heap.size w W) => groupFault_any n (.slice va vl vc) zs W (hv.below h))
  rw [grp_fault hg] at HGF
  simp only at HGF
  have hb3 := balloc w2 (.cells #[.int .i64 0, .int .i64 0] 27)
  have hF3 := blk0 (w := w2) (T := 27) (.int .i64 0) (.int .i64 0)
  have hB3 := bcat2 (bcat2 (bcat2 hB0 hb1) hb2) hb3
  have hX3 := blk_below hX0 (bcat2 (bcat2 hb1 hb2) hb3)
  have hL3 := hL.below hb3
  obtain ⟨c0, c1, _, _⟩ := hX3.two
  obtain ⟨t0, t1, _, _⟩ := hF3.two
  go_wp2_with fail
  generalize w2.alloc (.cells #[.int .i64 0, .int .i64 0] 27) = w3 at *
  clear c0 c1 t0 t1
  refine (HGF.out _ hB3).mono ?_
  rintro x w4 ⟨rfl, hb4⟩
  have hb5 := balloc w4 (.cells #[.int .i64 0, .int .i64 0] 27)
  have hF5 := blk0 (w := w4) (T := 27) (.int .i64 0) (.int .i64 0)
  have hB5 := bcat2 (bcat2 hB3 hb4) hb5
  have hX5 := blk_below hX3 (bcat2 hb4 hb5)
  have hG5 := blk_below hF3 (bcat2 hb4 hb5)
  have hL5 := hL3.below (bcat2 hb4 hb5)
  obtain ⟨s0, s1, _, _⟩ := hF5.two
  go_wp2_with fail
  generalize w4.alloc (.cells #[.int .i64 0, .int .i64 0] 27) = w5 at *
  clear s0 s1
  refine (classBegun_any w5 (hT.below hB5)).mono ?_
  rintro x w6 ⟨rfl, hb6⟩
  have hB6 := bcat2 hB5 hb6
  have hX6 := blk_below hX5 hb6
  have hL6 := hL5.below hb6
  obtain ⟨s0, s1, _, _⟩ := (blk_below hF5 hb6).two
  obtain ⟨t0, t1, _, _⟩ := (blk_below hG5 hb6).two
  have HLG := hide (lsas_good 14 #[.pointer (some ⟨w.heap.size, 0, none⟩)] (.slice r1 r2 r3) _ _ w6 hL6 (fun W => cl14_call _ W) (fun W hW => cl14_ok n e w.heap.size (.slice va vl vc) zs W hg (hv.below (bcat2 hB6 hW)) (hT.below (bcat2 hB6 hW)) (blk_below hX6 hW)))
  rw [decide_eq_true rfl] at HLG
  go_wp2_with fail
  refine HLG.out.mono ?_
  rintro x w7 ⟨rfl, hb7⟩
  have hB7 := bcat2 hB6 hb7
  have hX7 := blk_below hX6 hb7
  have hL7 := hL6.below hb7
  clear s0 s1 t0 t1 hL hL3 hL5 hL6 hX3 hX5 hX6 hu
  have hF7 := blk_below hF5 (bcat2 hb6 hb7)
  have HPT := hide (clq_parts hg)
  have HSUM := hide (clq_parts hg).sum_all
  obtain ⟨la, lcap, lb, lo, hle, hl1, hl2, hl3, hl4, hl5⟩ := hL7
  have hrl := rcs_len n (clq n zs e) n
  have hn := hg.tab.le
  injection hle with e1 e2 e3
  subst e1 e2 e3
  have HL1 := hide hl1
  have HL2 := hide hl2
  clear hl1 hl2
  generalize w5.heap.size = z5 at *
  go_wp2
  go_loopw [6, 7] (fun s i wr => ∃ k : Nat, k ≤ (rcs n (clq n zs e) n).length ∧ i = .int .i64 k ∧ s = .int .i64 ((((rcs n (clq n zs e) n).take k).map List.length).sum : Nat) ∧ Below w7.heap.size w7 wr) (fun _ i _ => (rcs n (clq n zs e) n).length - (intOf i).toNat)
  case atStart => exact ⟨0, Nat.zero_le _, rfl, rfl, Below.refl _ _⟩
  case round =>
    obtain ⟨k, hk, rfl, rfl, hB⟩ := hrel
    have hXr := blk_below hX7 hB
    obtain ⟨c0, c1, _, _⟩ := hXr.two
    by_cases hlt : k < (rcs n (clq n zs e) n).length
    · obtain ⟨x, hx, hhd, hat⟩ := rcs_at hlt
      have hkl : (k : Int) < ((rcs n (clq n zs e) n).length : Int) := by omega
      obtain ⟨xx, cx, hSx⟩ := HL2.out k hlt
      rw [hat, Option.getD_some] at hSx
      have hcc := cls_cent hg hx
      obtain ⟨tl, htl⟩ : ∃ tl, lst n (clq n zs e x) = x :: tl := by
        cases hl : lst n (clq n zs e x) with
        | nil => rw [hl] at hhd; simp at hhd
        | cons y t => rw [hl] at hhd; simp at hhd; exact ⟨t, by rw [hhd]⟩
      have hml := lst_len n (clq n zs e x)
      have hqp : 0 < (lst n (clq n zs e x)).length := by rw [htl]; simp
      have hcl := lst_len n (cenq n zs (pset [(x : Int)]))
      have HTK := hide (show (((rcs n (clq n zs e) n).take (k + 1)).map List.length).sum = (((rcs n (clq n zs e) n).take k).map List.length).sum + (lst n (clq n zs e x)).length by
        rw [List.take_add_one, hat, List.map_append, List.sum_append]
        simp [li])
      have hle9 : (((rcs n (clq n zs e) n).take (k + 1)).map List.length).sum ≤ n := by
        have h1 := HSUM.out
        rw [← List.take_append_drop (k + 1) (rcs n (clq n zs e) n), List.map_append, List.sum_append] at h1
        omega
      rw [HTK.out] at hle9
      obtain ⟨qa, qc, qb, qo, rfl, hq, hq1, hq2, hq3⟩ := hSx
      have hqc := hq.cell 0 (by rw [htl]; simp [li])
      obtain rfl := hq.at_ (by rw [htl]; simp [li])
      have hq0 : (li (lst n (clq n zs e x)))[0]?.getD 0 = (x : Int) := by rw [htl]; simp [li]
      rw [hq0, Nat.add_zero] at hqc
      rw [li_len] at cx
      have cx' := below_cell hB cx
      have hqc' := below_cell hB hqc
      have hBr := bcat2 hB7 hB
      obtain rfl := HL1.out (by omega)
      have HCE := hide (show ∀ W u, Below wr.heap.size wr W → Sl W u [(x : Int)] → Calls Tryd.prog 16 #[.agg #[.int .i64 n, .slice va vl vc], u] W fun y W' => ∃ c1 c3, y = .returned (.tuple #[.slice c1 (lst n (cenq n zs (pset [(x : Int)]))).length c3, .agg #[.int .i64 0, .int .i64 0]]) ∧ Below W.heap.size W W' from fun W u h1 h2 => (cenl_good n e (.slice va vl vc) u zs [(x : Int)] W (hv.below (bcat2 hBr h1)) hg h2 (lf_one hx) (hT.below (bcat2 hBr h1))).mono (by
        rintro y W' ⟨r, rfl, hr, hb⟩
        obtain ⟨a, cap, pb, po, rfl, _⟩ := hr
        rw [li_len]
        exact ⟨a, cap, rfl, hb⟩))
      clear htl hq hq0 hhd hat hq2 hcl
      generalize (lst n (cenq n zs (pset [(x : Int)]))).length = cl at *
      generalize (lst n (clq n zs e x)).length = ql at *
      generalize hsk : (((rcs n (clq n zs e) n).take k).map List.length).sum = sk at *
      generalize hrn : (rcs n (clq n zs e) n).length = rn at *
      have hS : ∀ W, Below wr.heap.size wr W → (Below wr.heap.size wr W ∧ W.cell? ⟨w.heap.size, 0, none⟩ = some (.int .i64 n) ∧ W.cell? ⟨w.heap.size, 1, none⟩ = some (.slice va vl vc) ∧ W.cell? ⟨lb, lo + k, none⟩ = some (.slice (some ⟨qb, qo, none⟩) ql qc) ∧ W.cell? ⟨qb, qo, none⟩ = some (.int .i64 x)) := fun W h => ⟨h, below_cell h c0, below_cell h c1, below_cell h cx', below_cell h hqc'⟩
      have hBc : Below wr.heap.size wr wr.drew := bdrew (Below.refl _ _)
      have hS0 := hS _ hBc
      go_wp2_with fail
      clear c0 c1 cx hqc
      go_cut [8, 9] (fun s8 s9 wx => ∃ eb c1 c3, s9 = .pointer (some ⟨eb, 0, none⟩) ∧ s8 = .slice c1 cl c3 ∧ Blk wx eb 27 [.int .i64 0, .int .i64 0] ∧ Below wr.heap.size wr wx)
      case first =>
        refine wp_region_held_drew (S := fun W => Below wr.heap.size wr W ∧ W.cell? ⟨w.heap.size, 0, none⟩ = some (.int .i64 n) ∧ W.cell? ⟨w.heap.size, 1, none⟩ = some (.slice va vl vc) ∧ W.cell? ⟨lb, lo + k, none⟩ = some (.slice (some ⟨qb, qo, none⟩) ql qc) ∧ W.cell? ⟨qb, qo, none⟩ = some (.int .i64 x)) (by kernel_rfl) hS0 (fun hHeld => ?_)
        generalize wr.drew = wd at *
        refine wpAnyH_take (i := 0) (oi := ({ dst := some 35, op := Go.Op.load 24 (Go.Operand.tmp 1), type := 24, pos := _, after := _, guard := none } : Oper)) (v := ?_) rfl (by kernel_rfl) (by kernel_rfl) (by kernel_rfl) (fun _ _ _ h => h) (Or.inl ⟨by rfl, ?_⟩) (by assumption) ?_
        rotate_left
        · (intro w hSw; (try dsimp only at hSw); go_simp; try with_reducible rfl)
        simp only [Act.put, List.setIfInBounds_toArray, List.set_cons_zero, List.set_cons_succ]
        refine wpAnyH_take (i := 1) (oi := ({ dst := some 36, op := Go.Op.move (Go.Operand.tmp 3), type := 25, pos := _, after := _, guard := none } : Oper)) (v := ?_) rfl (by kernel_rfl) (by kernel_rfl) (by kernel_rfl) (fun _ _ _ h => h) (Or.inl ⟨by rfl, ?_⟩) (by assumption) ?_
        rotate_left
        · (intro w hSw; (try dsimp only at hSw); go_simp; try with_reducible rfl)
        simp only [Act.put, List.setIfInBounds_toArray, List.set_cons_zero, List.set_cons_succ]
        refine wpAnyH_take (i := 2) (oi := ({ dst := some 37, op := Go.Op.move (Go.Operand.tmp 7), type := 3, pos := _, after := _, guard := none } : Oper)) (v := ?_) rfl (by kernel_rfl) (by kernel_rfl) (by kernel_rfl) (fun _ _ _ h => h) (Or.inl ⟨by rfl, ?_⟩) (by assumption) ?_
        rotate_left
        · (intro w hSw; (try dsimp only at hSw); go_simp; try with_reducible rfl)
        simp only [Act.put, List.setIfInBounds_toArray, List.set_cons_zero, List.set_cons_succ]
        refine wpAnyH_take (i := 3) (oi := ({ dst := some 38, op := Go.Op.indexAddr 25 (Go.Operand.tmp 36) (Go.Operand.tmp 37), type := 0, pos := _, after := _, guard := none } : Oper)) (v := ?_) rfl (by kernel_rfl) (by kernel_rfl) (by kernel_rfl) (fun _ _ _ h => h) (Or.inl ⟨by rfl, ?_⟩) (by assumption) ?_
        rotate_left
        · (intro w hSw; (try dsimp only at hSw); go_simp; try with_reducible rfl)
        simp only [Act.put, List.setIfInBounds_toArray, List.set_cons_zero, List.set_cons_succ]
        refine wpAnyH_take (i := 4) (oi := ({ dst := some 39, op := Go.Op.load 22 (Go.Operand.tmp 38), type := 22, pos := _, after := _, guard := none } : Oper)) (v := ?_) rfl (by kernel_rfl) (by kernel_rfl) (by kernel_rfl) (fun _ _ _ h => h) (Or.inl ⟨by rfl, ?_⟩) (by assumption) ?_
        rotate_left
        · (intro w hSw; (try dsimp only at hSw); go_simp; try with_reducible rfl)
        simp only [Act.put, List.setIfInBounds_toArray, List.set_cons_zero, List.set_cons_succ]
        refine wpAnyH_take (i := 5) (oi := ({ dst := some 40, op := Go.Op.indexAddr 22 (Go.Operand.tmp 39) (Go.Operand.const (Go.Value.int Go.IntKind.i64 0)), type := 0, pos := _, after := _, guard := none } : Oper)) (v := ?_) rfl (by kernel_rfl) (by kernel_rfl) (by kernel_rfl) (fun _ _ _ h => h) (Or.inl ⟨by rfl, ?_⟩) (by assumption) ?_
        rotate_left
        · (intro w hSw; (try dsimp only at hSw); go_simp; try with_reducible rfl)
        simp only [Act.put, List.setIfInBounds_toArray, List.set_cons_zero, List.set_cons_succ]
        refine wpAnyH_take (i := 6) (oi := ({ dst := some 41, op := Go.Op.load 3 (Go.Operand.tmp 40), type := 3, pos := _, after := _, guard := none } : Oper)) (v := ?_) rfl (by kernel_rfl) (by kernel_rfl) (by kernel_rfl) (fun _ _ _ h => h) (Or.inl ⟨by rfl, ?_⟩) (by assumption) ?_
        rotate_left
        · (intro w hSw; (try dsimp only at hSw); go_simp; try with_reducible rfl)
        simp only [Act.put, List.setIfInBounds_toArray, List.set_cons_zero, List.set_cons_succ]
        refine wpAnyH_ready (rs := [7, 12]) (by kernel_rfl) (by simp) (AllReadyH.cons (o := ({ dst := some 42, op := Go.Op.buildSlice 22 1 #[(0, Go.Operand.tmp 41)], type := 22, pos := _, after := _, guard := none } : Oper)) rfl (fun KK hK => ?_) (AllReadyH.cons (o := ({ dst := some 9, op := Go.Op.alloc 27, type := 0, pos := _, after := _, guard := none } : Oper)) rfl (fun KK hK => ?_) AllReadyH.nil))
        · have ha1 := balloc (wd) (.cells #[.int .i64 x] 3)
          replace hBc := bcat2 hBc ha1
          have hL : Blk ((wd).alloc (.cells #[.int .i64 x] 3)) (wd).heap.size 3 (([(x : Int)]).map (Value.int .i64)) := World.alloc_heap_new _ _
          go_simp
          refine hK.out _ _ (hS _ hBc) (fun hHeld => ?_)
          clear hK
          try simp only [Act.put, List.setIfInBounds_toArray, List.set_cons_zero, List.set_cons_succ]
          generalize (wd).alloc (.cells #[.int .i64 x] 3) = WL at *
          generalize (wd).heap.size = yb at *
          refine wpAnyH_ready (rs := [8, 12]) (by kernel_rfl) (by simp) (AllReadyH.cons (o := ({ dst := some 43, op := Go.Op.call { callee := Go.Callee.value (Go.Operand.func 16), args := #[Go.Operand.tmp 35, Go.Operand.tmp 42], argTypes := #[24, 22] }, type := 36, pos := _, after := _, guard := none } : Oper)) rfl (fun KK hK => ?_) (AllReadyH.cons (o := ({ dst := some 9, op := Go.Op.alloc 27, type := 0, pos := _, after := _, guard := none } : Oper)) rfl (fun KK hK => ?_) AllReadyH.nil))
          · go_simp
            refine (HCE.out _ _ hBc (Sl.of_blk (n := 1) hL rfl (by simp))).mono ?_
            rintro x1 WC ⟨d1, d3, rfl, hl1⟩
            replace hBc := bcat2 hBc hl1
            replace hL := blk_below hL hl1
            try go_wp2_with fail
            refine hK.out _ _ (hS _ hBc) (fun hHeld => ?_)
            clear hK
            try simp only [Act.put, List.setIfInBounds_toArray, List.set_cons_zero, List.set_cons_succ]
            refine wpAnyH_take (i := 9) (oi := ({ dst := some 34, op := Go.Op.move (Go.Operand.tmp 43), type := 36, pos := _, after := _, guard := none } : Oper)) (v := ?_) rfl (by kernel_rfl) (by kernel_rfl) (by kernel_rfl) (fun _ _ _ h => h) (Or.inl ⟨by rfl, ?_⟩) (by assumption) ?_
            rotate_left
            · (intro w hSw; (try dsimp only at hSw); go_simp; try with_reducible rfl)
            simp only [Act.put, List.setIfInBounds_toArray, List.set_cons_zero, List.set_cons_succ]
            refine wpAnyH_take (i := 10) (oi := ({ dst := some 44, op := Go.Op.extract (Go.Operand.tmp 34) 0, type := 22, pos := _, after := _, guard := none } : Oper)) (v := ?_) rfl (by kernel_rfl) (by kernel_rfl) (by kernel_rfl) (fun _ _ _ h => h) (Or.inl ⟨by rfl, ?_⟩) (by assumption) ?_
            rotate_left
            · (intro w hSw; (try dsimp only at hSw); go_simp; try with_reducible rfl)
            simp only [Act.put, List.setIfInBounds_toArray, List.set_cons_zero, List.set_cons_succ]
            refine wpAnyH_take (i := 11) (oi := ({ dst := some 45, op := Go.Op.extract (Go.Operand.tmp 34) 1, type := 27, pos := _, after := _, guard := none } : Oper)) (v := ?_) rfl (by kernel_rfl) (by kernel_rfl) (by kernel_rfl) (fun _ _ _ h => h) (Or.inl ⟨by rfl, ?_⟩) (by assumption) ?_
            rotate_left
            · (intro w hSw; (try dsimp only at hSw); go_simp; try with_reducible rfl)
            simp only [Act.put, List.setIfInBounds_toArray, List.set_cons_zero, List.set_cons_succ]
            refine wpAnyH_ready (rs := [12]) (by kernel_rfl) (by simp) (AllReadyH.cons (o := ({ dst := some 9, op := Go.Op.alloc 27, type := 0, pos := _, after := _, guard := none } : Oper)) rfl (fun KK hK => ?_) AllReadyH.nil)
            have hgE : wr.heap.size ≤ (WC).heap.size := hBc.size
            have ha2 := balloc (WC) (.cells #[.int .i64 0, .int .i64 0] 27)
            replace hBc := bcat2 hBc ha2
            replace hL := blk_below hL ha2
            have hE : Blk ((WC).alloc (.cells #[.int .i64 0, .int .i64 0] 27)) (WC).heap.size 27 [.int .i64 0, .int .i64 0] := blk0 _ _
            go_simp
            refine hK.out _ _ (hS _ hBc) (fun hHeld => ?_)
            clear hK
            try simp only [Act.put, List.setIfInBounds_toArray, List.set_cons_zero, List.set_cons_succ]
            generalize (WC).alloc (.cells #[.int .i64 0, .int .i64 0] 27) = WE at *
            generalize (WC).heap.size = eb at *
            refine wpAnyH_take (i := 13) (oi := ({ dst := some 8, op := Go.Op.assign (Go.Operand.tmp 44), type := 22, pos := _, after := _, guard := none } : Oper)) (v := ?_) rfl (by kernel_rfl) (by kernel_rfl) (by kernel_rfl) (fun _ _ _ h => h) (Or.inl ⟨by rfl, ?_⟩) (by assumption) ?_
            rotate_left
            · (intro w hSw; (try dsimp only at hSw); go_simp; try with_reducible rfl)
            simp only [Act.put, List.setIfInBounds_toArray, List.set_cons_zero, List.set_cons_succ]
            refine wpAnyH_ready (rs := [14]) (by kernel_rfl) (by simp) (AllReadyH.cons (o := ({ dst := none, op := Go.Op.store 27 (Go.Operand.tmp 9) (Go.Operand.tmp 45), type := 0, pos := _, after := _, guard := none } : Oper)) rfl (fun KK hK => ?_) AllReadyH.nil)
            obtain ⟨_, k0, k1, k2, k3, k4, k5⟩ := Two.mk' hE
            go_simp
            refine hK.out _ _ (hS _ hBc) (fun hHeld => ?_)
            clear hK
            try simp only [Act.put, List.setIfInBounds_toArray, List.set_cons_zero, List.set_cons_succ]
            clear k0 k1 k2 k3 k4 k5
            refine wpAnyH_done (by kernel_rfl) ?_ _
            go_wp2
            go_meet
            exact ⟨eb, d1, d3, rfl, rfl, hE, hBc⟩
          have hgE : wr.heap.size ≤ (WL).heap.size := hBc.size
          have ha2 := balloc (WL) (.cells #[.int .i64 0, .int .i64 0] 27)
          replace hBc := bcat2 hBc ha2
          replace hL := blk_below hL ha2
          have hE : Blk ((WL).alloc (.cells #[.int .i64 0, .int .i64 0] 27)) (WL).heap.size 27 [.int .i64 0, .int .i64 0] := blk0 _ _
          go_simp
          refine hK.out _ _ (hS _ hBc) (fun hHeld => ?_)
          clear hK
          try simp only [Act.put, List.setIfInBounds_toArray, List.set_cons_zero, List.set_cons_succ]
          generalize (WL).alloc (.cells #[.int .i64 0, .int .i64 0] 27) = WE at *
          generalize (WL).heap.size = eb at *
          refine wpAnyH_ready (rs := [8]) (by kernel_rfl) (by simp) (AllReadyH.cons (o := ({ dst := some 43, op := Go.Op.call { callee := Go.Callee.value (Go.Operand.func 16), args := #[Go.Operand.tmp 35, Go.Operand.tmp 42], argTypes := #[24, 22] }, type := 36, pos := _, after := _, guard := none } : Oper)) rfl (fun KK hK => ?_) AllReadyH.nil)
          go_simp
          refine (HCE.out _ _ hBc (Sl.of_blk (n := 1) hL rfl (by simp))).mono ?_
          rintro x1 WC ⟨d1, d3, rfl, hl1⟩
          replace hBc := bcat2 hBc hl1
          replace hE := blk_below hE hl1
          replace hL := blk_below hL hl1
          try go_wp2_with fail
          refine hK.out _ _ (hS _ hBc) (fun hHeld => ?_)
          clear hK
          try simp only [Act.put, List.setIfInBounds_toArray, List.set_cons_zero, List.set_cons_succ]
          refine wpAnyH_take (i := 9) (oi := ({ dst := some 34, op := Go.Op.move (Go.Operand.tmp 43), type := 36, pos := _, after := _, guard := none } : Oper)) (v := ?_) rfl (by kernel_rfl) (by kernel_rfl) (by kernel_rfl) (fun _ _ _ h => h) (Or.inl ⟨by rfl, ?_⟩) (by assumption) ?_
          rotate_left
          · (intro w hSw; (try dsimp only at hSw); go_simp; try with_reducible rfl)
          simp only [Act.put, List.setIfInBounds_toArray, List.set_cons_zero, List.set_cons_succ]
          refine wpAnyH_take (i := 10) (oi := ({ dst := some 44, op := Go.Op.extract (Go.Operand.tmp 34) 0, type := 22, pos := _, after := _, guard := none } : Oper)) (v := ?_) rfl (by kernel_rfl) (by kernel_rfl) (by kernel_rfl) (fun _ _ _ h => h) (Or.inl ⟨by rfl, ?_⟩) (by assumption) ?_
          rotate_left
          · (intro w hSw; (try dsimp only at hSw); go_simp; try with_reducible rfl)
          simp only [Act.put, List.setIfInBounds_toArray, List.set_cons_zero, List.set_cons_succ]
          refine wpAnyH_take (i := 11) (oi := ({ dst := some 45, op := Go.Op.extract (Go.Operand.tmp 34) 1, type := 27, pos := _, after := _, guard := none } : Oper)) (v := ?_) rfl (by kernel_rfl) (by kernel_rfl) (by kernel_rfl) (fun _ _ _ h => h) (Or.inl ⟨by rfl, ?_⟩) (by assumption) ?_
          rotate_left
          · (intro w hSw; (try dsimp only at hSw); go_simp; try with_reducible rfl)
          simp only [Act.put, List.setIfInBounds_toArray, List.set_cons_zero, List.set_cons_succ]
          refine wpAnyH_take (i := 13) (oi := ({ dst := some 8, op := Go.Op.assign (Go.Operand.tmp 44), type := 22, pos := _, after := _, guard := none } : Oper)) (v := ?_) rfl (by kernel_rfl) (by kernel_rfl) (by kernel_rfl) (fun _ _ _ h => h) (Or.inl ⟨by rfl, ?_⟩) (by assumption) ?_
          rotate_left
          · (intro w hSw; (try dsimp only at hSw); go_simp; try with_reducible rfl)
          simp only [Act.put, List.setIfInBounds_toArray, List.set_cons_zero, List.set_cons_succ]
          refine wpAnyH_ready (rs := [14]) (by kernel_rfl) (by simp) (AllReadyH.cons (o := ({ dst := none, op := Go.Op.store 27 (Go.Operand.tmp 9) (Go.Operand.tmp 45), type := 0, pos := _, after := _, guard := none } : Oper)) rfl (fun KK hK => ?_) AllReadyH.nil)
          obtain ⟨_, k0, k1, k2, k3, k4, k5⟩ := Two.mk' hE
          go_simp
          refine hK.out _ _ (hS _ hBc) (fun hHeld => ?_)
          clear hK
          try simp only [Act.put, List.setIfInBounds_toArray, List.set_cons_zero, List.set_cons_succ]
          clear k0 k1 k2 k3 k4 k5
          refine wpAnyH_done (by kernel_rfl) ?_ _
          go_wp2
          go_meet
          exact ⟨eb, d1, d3, rfl, rfl, hE, hBc⟩
        have hgE : wr.heap.size ≤ (wd).heap.size := hBc.size
        have ha2 := balloc (wd) (.cells #[.int .i64 0, .int .i64 0] 27)
        replace hBc := bcat2 hBc ha2
        have hE : Blk ((wd).alloc (.cells #[.int .i64 0, .int .i64 0] 27)) (wd).heap.size 27 [.int .i64 0, .int .i64 0] := blk0 _ _
        go_simp
        refine hK.out _ _ (hS _ hBc) (fun hHeld => ?_)
        clear hK
        try simp only [Act.put, List.setIfInBounds_toArray, List.set_cons_zero, List.set_cons_succ]
        generalize (wd).alloc (.cells #[.int .i64 0, .int .i64 0] 27) = WE at *
        generalize (wd).heap.size = eb at *
        refine wpAnyH_ready (rs := [7]) (by kernel_rfl) (by simp) (AllReadyH.cons (o := ({ dst := some 42, op := Go.Op.buildSlice 22 1 #[(0, Go.Operand.tmp 41)], type := 22, pos := _, after := _, guard := none } : Oper)) rfl (fun KK hK => ?_) AllReadyH.nil)
        have ha1 := balloc (WE) (.cells #[.int .i64 x] 3)
        replace hBc := bcat2 hBc ha1
        replace hE := blk_below hE ha1
        have hL : Blk ((WE).alloc (.cells #[.int .i64 x] 3)) (WE).heap.size 3 (([(x : Int)]).map (Value.int .i64)) := World.alloc_heap_new _ _
        go_simp
        refine hK.out _ _ (hS _ hBc) (fun hHeld => ?_)
        clear hK
        try simp only [Act.put, List.setIfInBounds_toArray, List.set_cons_zero, List.set_cons_succ]
        generalize (WE).alloc (.cells #[.int .i64 x] 3) = WL at *
        generalize (WE).heap.size = yb at *
        refine wpAnyH_ready (rs := [8]) (by kernel_rfl) (by simp) (AllReadyH.cons (o := ({ dst := some 43, op := Go.Op.call { callee := Go.Callee.value (Go.Operand.func 16), args := #[Go.Operand.tmp 35, Go.Operand.tmp 42], argTypes := #[24, 22] }, type := 36, pos := _, after := _, guard := none } : Oper)) rfl (fun KK hK => ?_) AllReadyH.nil)
        go_simp
        refine (HCE.out _ _ hBc (Sl.of_blk (n := 1) hL rfl (by simp))).mono ?_
        rintro x1 WC ⟨d1, d3, rfl, hl1⟩
        replace hBc := bcat2 hBc hl1
        replace hE := blk_below hE hl1
        replace hL := blk_below hL hl1
        try go_wp2_with fail
        refine hK.out _ _ (hS _ hBc) (fun hHeld => ?_)
        clear hK
        try simp only [Act.put, List.setIfInBounds_toArray, List.set_cons_zero, List.set_cons_succ]
        refine wpAnyH_take (i := 9) (oi := ({ dst := some 34, op := Go.Op.move (Go.Operand.tmp 43), type := 36, pos := _, after := _, guard := none } : Oper)) (v := ?_) rfl (by kernel_rfl) (by kernel_rfl) (by kernel_rfl) (fun _ _ _ h => h) (Or.inl ⟨by rfl, ?_⟩) (by assumption) ?_
        rotate_left
        · (intro w hSw; (try dsimp only at hSw); go_simp; try with_reducible rfl)
        simp only [Act.put, List.setIfInBounds_toArray, List.set_cons_zero, List.set_cons_succ]
        refine wpAnyH_take (i := 10) (oi := ({ dst := some 44, op := Go.Op.extract (Go.Operand.tmp 34) 0, type := 22, pos := _, after := _, guard := none } : Oper)) (v := ?_) rfl (by kernel_rfl) (by kernel_rfl) (by kernel_rfl) (fun _ _ _ h => h) (Or.inl ⟨by rfl, ?_⟩) (by assumption) ?_
        rotate_left
        · (intro w hSw; (try dsimp only at hSw); go_simp; try with_reducible rfl)
        simp only [Act.put, List.setIfInBounds_toArray, List.set_cons_zero, List.set_cons_succ]
        refine wpAnyH_take (i := 11) (oi := ({ dst := some 45, op := Go.Op.extract (Go.Operand.tmp 34) 1, type := 27, pos := _, after := _, guard := none } : Oper)) (v := ?_) rfl (by kernel_rfl) (by kernel_rfl) (by kernel_rfl) (fun _ _ _ h => h) (Or.inl ⟨by rfl, ?_⟩) (by assumption) ?_
        rotate_left
        · (intro w hSw; (try dsimp only at hSw); go_simp; try with_reducible rfl)
        simp only [Act.put, List.setIfInBounds_toArray, List.set_cons_zero, List.set_cons_succ]
        refine wpAnyH_take (i := 13) (oi := ({ dst := some 8, op := Go.Op.assign (Go.Operand.tmp 44), type := 22, pos := _, after := _, guard := none } : Oper)) (v := ?_) rfl (by kernel_rfl) (by kernel_rfl) (by kernel_rfl) (fun _ _ _ h => h) (Or.inl ⟨by rfl, ?_⟩) (by assumption) ?_
        rotate_left
        · (intro w hSw; (try dsimp only at hSw); go_simp; try with_reducible rfl)
        simp only [Act.put, List.setIfInBounds_toArray, List.set_cons_zero, List.set_cons_succ]
        refine wpAnyH_ready (rs := [14]) (by kernel_rfl) (by simp) (AllReadyH.cons (o := ({ dst := none, op := Go.Op.store 27 (Go.Operand.tmp 9) (Go.Operand.tmp 45), type := 0, pos := _, after := _, guard := none } : Oper)) rfl (fun KK hK => ?_) AllReadyH.nil)
        obtain ⟨_, k0, k1, k2, k3, k4, k5⟩ := Two.mk' hE
        go_simp
        refine hK.out _ _ (hS _ hBc) (fun hHeld => ?_)
        clear hK
        try simp only [Act.put, List.setIfInBounds_toArray, List.set_cons_zero, List.set_cons_succ]
        clear k0 k1 k2 k3 k4 k5
        refine wpAnyH_done (by kernel_rfl) ?_ _
        go_wp2
        go_meet
        exact ⟨eb, d1, d3, rfl, rfl, hE, hBc⟩
      case rest =>
        obtain ⟨eb, d1, d3, rfl, rfl, hE, hbx⟩ := hcut
        obtain ⟨f0, f1, _, _⟩ := hE.two
        have cx2 := below_cell hbx cx'
        obtain ⟨c0, c1, _, _⟩ := (blk_below hXr hbx).two
        have hmul : (cl : Int) * (ql : Int) = (n : Int) := by rw [← Int.natCast_mul, hcc]
        have hwm : IntKind.i64.wrap (n : Int) = (n : Int) := by rw [IntKind.wrap_i64]; omega
        have hws : IntKind.i64.wrap ((sk : Int) + (ql : Int)) = ((sk + ql : Nat) : Int) := by rw [IntKind.wrap_i64]; omega
        clear hS hS0
        go_wp2_with fail
        go_quiet (fail)
        have hbq : Below wc.heap.size wc (wc.drewN nq) := bdrewN (Below.refl _ wc) nq
        generalize wc.drewN nq = wq at hbq ⊢
        have cx3 := below_cell hbq cx2
        clear f0 f1 cx2 c0 c1
        go_wp2
        go_roundw
        case rel => exact ⟨k + 1, by omega, by go_num, by rw [HTK.out, Int.natCast_add], bcat2 hB (bcat2 hbx hbq)⟩
        case measure => simp [intOf]; omega
    · have hkn : k = (rcs n (clq n zs e) n).length := by omega
      have hkl : ¬ (k : Int) < ((rcs n (clq n zs e) n).length : Int) := by omega
      subst hkn
      rw [List.take_length, HSUM.out]
      obtain ⟨s0, s1, _, _⟩ := (blk_below hF7 hB).two
      go_wp2
      go_ret
      exact ⟨rfl, bcat2 hB7 hB⟩
theorem clall_law (N : Int) (v : Value) (zs : List Int) (w : World) (hv : Sl w v zs) (hT : Tab w) (hb8 : zs.length * 8 ≤ 140737488355328) :
    Calls Tryd.prog 3 #[.agg #[.int .i64 N, v]] w fun x w' => x = .returned (.bool true) ∧ Below w.heap.size w w' := by
  by_cases hc : (gfault N zs).1 = 0
  · obtain ⟨n, e, rfl, hg, _⟩ := gfault_grp hc
    exact clall_good n e v zs w hv hT hb8 hg
  · exact clall_bad N v zs w hv hT hb8 hc
end Go.Proofs.YtobnfbnholbfoaaDoor

namespace Go.Proofs.YtobnfbnholbfoaaDoor
open Go.ChangeShapes Go.WideShapes Go.ChangeAt Go.RowKit

theorem own : ownKnob Tryd.prog.godebug = none := by kernel_rfl
theorem laidOut : laidOutB Tryd.prog = true := by kernel_rfl

/-- A slice of ints that reads as zs; where nothing is in it, nothing is told of the memory. -/
def SlA (w : World) (v : Value) (zs : List Int) : Prop := ∃ a cap pb po, v = .slice a zs.length cap ∧ Reads w a pb po zs ∧ (0 < zs.length → pb < w.heap.size) ∧ zs.length ≤ cap ∧ cap ≤ maxLen
theorem SlA.up {w w' : World} {v : Value} {zs : List Int} (h : SlA w v zs) (hb : Below w.heap.size w w') (h0 : 0 < w'.heap.size) : Sl w' v zs := by
  obtain ⟨a, cap, pb, po, hv, hr, hp, h1, h2⟩ := h
  rcases Nat.eq_zero_or_pos zs.length with hz | hz
  · exact ⟨a, cap, 0, 0, hv, ⟨fun h => by omega, fun j hj => by omega⟩, h0, h1, h2⟩
  · exact ⟨a, cap, pb, po, hv, hr.below hb (hp hz), Nat.lt_of_lt_of_le (hp hz) hb.size, h1, h2⟩
theorem SlA.of {w : World} {v : Value} {zs : List Int} (h : Sl w v zs) : SlA w v zs := by
  obtain ⟨a, cap, pb, po, hv, hr, hp, h1, h2⟩ := h
  exact ⟨a, cap, pb, po, hv, hr, fun _ => hp, h1, h2⟩

theorem und24 : ∃ f0 f1 : Field, Tryd.prog.underlying 24 = some (.struct #[f0, f1]) ∧ f0.type = 3 ∧ f1.type = 22 ∧ f0.offset = 0 ∧ f1.offset = 1 := ⟨_, _, Tryd.underlying24, rfl, rfl, rfl, rfl⟩
theorem und3 : Tryd.prog.underlying 3 = some (.int .i64) := by kernel_rfl
theorem und22 : Tryd.prog.underlying 22 = some (.slice 3) := by kernel_rfl
theorem und4 : Tryd.prog.underlying 4 = some .bool := by kernel_rfl

set_option maxRecDepth 100000 in
/-- What is told of a table that came in. -/
theorem open_group {H : Type} {enc : TypeId × Value → H} {W : World} {b0 : Nat} {v : Value} {d : DataW H} {ps : List MemPlace} (hval : Value.okWide Tryd.prog W .any b0 24 v)
    (hd : DataW.Trod enc Tryd.prog W 0 (fun _ => true) true 24 v d ps) :
    ∃ N u zs, v = .agg #[.int .i64 N, u] ∧ SlA W u zs ∧ (Lit.int .i64 N).wf = true ∧ ((d.weights Tryd.prog 24).all (· ≤ reachBytes) = true → zs.length * 8 ≤ 140737488355328) := by
  obtain ⟨f0, f1, hu, ht0, ht1, ho0, ho1⟩ := und24
  obtain ⟨cs, rfl, hsz⟩ := okWide_struct hu hval
  rw [show Tryd.prog.cellsOf 24 = 2 by kernel_rfl] at hsz
  obtain ⟨l⟩ := cs
  match l, hsz with
  | [c0, c1], _ =>
  obtain ⟨fuel, hf⟩ := hd
  obtain ⟨y0, y1, m, hx, _, hy0, hy1⟩ := trod_struct2 hu hf
  rw [ht0, ho0, show Tryd.prog.cellsOf 3 = 1 by kernel_rfl] at hy0
  rw [ht1, ho1, show Tryd.prog.cellsOf 22 = 1 by kernel_rfl] at hy1
  obtain ⟨N, e0, rfl, wN⟩ := DataW.trod_int und3 hy0
  simp [Value.cells] at e0
  subst e0
  simp [Value.cells] at hy1
  rcases open_ints und22 und3 (by kernel_rfl) hy1 with ⟨hcs, _⟩ | ⟨x, l, c, zs, hcs, _, hl, hm, hz, heq, hcell, hwz⟩
  · simp at hcs
    subst hcs
    exact ⟨N, _, [], rfl, ⟨none, 0, 0, 0, rfl, ⟨by simp, by simp⟩, by simp, by simp, by unfold maxLen; omega⟩, wN, fun _ => by simp⟩
  · simp at hcs
    subst hcs
    have hzc : zs.length = c := by simpa using hz
    have hlen : (zs.take l).length = l := by rw [List.length_take]; omega
    refine ⟨N, _, zs.take l, rfl, ?_, wN, fun hw => ?_⟩
    · by_cases hpos : 0 < c
      · obtain ⟨b, o, rfl, hc'⟩ := ints_at hcell (by omega)
        refine ⟨some ⟨b, o, none⟩, c, b, o, by rw [hlen], ⟨fun _ => rfl, fun j hj => ?_⟩, fun _ => World.block_lt_of_cell? W _ (hc' 0 (by omega)), by omega, hm⟩
        rw [hlen] at hj
        rw [hc' j (by omega), List.getElem?_take, if_pos hj, List.getD_eq_getElem?_getD]
      · have : l = 0 := by omega
        subst this
        exact ⟨some x, c, 0, 0, by simp, ⟨by simp, by simp⟩, by simp, by simp, hm⟩
    · have hd : d = .agg [.lit (.int .i64 N), .slice (lits .i64 (zs.take l)) (lits .i64 (zs.drop l))] := by
        have h1 := congrArg Prod.fst hx
        simp only [heq] at h1
        exact h1
      have hw2 := List.all_eq_true.1 hw (((lits (H := H) .i64 (zs.take l)).length + (lits (H := H) .i64 (zs.drop l)).length) * Tryd.prog.bytesOf 3) (by
        rw [hd]; simp [DataW.weights, DataW.weightsEach, hu, ht0, ht1])
      rw [show Tryd.prog.bytesOf 3 = 8 by kernel_rfl] at hw2
      simp only [lits, List.length_map, decide_eq_true_eq] at hw2
      unfold reachBytes at hw2
      omega
end Go.Proofs.YtobnfbnholbfoaaDoor

namespace Go.Proofs.YtobnfbnholbfoaaDoor
open Go.ChangeShapes Go.WideShapes Go.ChangeAt Go.RowKit

/-- What the rows list. -/
def laid1 : List (String × DataW Unit) := Rows.classAllRow.laid
def tabZ : List Int := Lib.deBruijn64tab.map fun (x : Nat) => (x : Int)
theorem tab_data : (Rows.laid_math_bits_deBruijn64tab : DataW Unit) = Lib.tabData .u8 tabZ := by kernel_rfl
/-- The door's own heap meets the condition. -/
theorem door_met (os : Os) (args : Array Value) : laidMetH Tryd.prog laid1 ((World.doorLaid Tryd.prog 400 os).forCall (fun _ _ => 0) ⟨#[], args, []⟩).memory :=
  laidMetH_of_parts3 (fuel := 8) (laidMet_of_run' 8 (by kernel_rfl) (by kernel_rfl)) (by kernel_rfl) (by kernel_rfl)
theorem tab_of_laid {W : World} (h : laidMetH Tryd.prog laid1 W) : Tab W := by
  rw [MakeChecks.laidMetH_plain _ _ _ (by kernel_rfl)] at h
  have h2 : laidMet Tryd.prog [("math/bits.deBruijn64tab", (Rows.laid_math_bits_deBruijn64tab : DataW Unit))] W := h
  rw [tab_data] at h2
  have hg : Tryd.prog.globalNamed "math/bits.deBruijn64tab" = some 0 := by kernel_rfl
  have hT := Lib.tabIs_of_head hg (t := 108) (e := 5) (n := 64) (by kernel_rfl) (by kernel_rfl) (by kernel_rfl) (by kernel_rfl) (by kernel_rfl) h2
  intro j hj
  have hj' : j < tabZ.length := by simpa [tabZ] using hj
  have hc := hT.cell hg j hj'
  rw [hc]
  simp [tabZ, hj]
set_option maxRecDepth 100000 in
/-- A list of ints that came in: its value, what it reads as, and its size. -/
theorem open_list {H : Type} {enc : TypeId × Value → H} {W : World} {b0 : Nat} {v : Value} {d : DataW H} {ps : List MemPlace} (hval : Value.okWide Tryd.prog W .any b0 22 v)
    (hd : DataW.Trod enc Tryd.prog W 0 (fun _ => true) true 22 v d ps) (h0 : 0 < W.heap.size) :
    ∃ zs, Sl W v zs ∧ ((d.weights Tryd.prog 22).all (· ≤ reachBytes) = true → zs.length * 8 ≤ 140737488355328) := by
  obtain ⟨a, len, cap, rfl⟩ := okWide_slice und22 hval
  obtain ⟨fuel, hf⟩ := hd
  rcases open_ints und22 und3 (by kernel_rfl) hf with ⟨hcs, _⟩ | ⟨x, l, c, zs, hcs, _, hl, hm, hz, heq, hcell, hwz⟩
  · simp [Value.cells] at hcs
    obtain ⟨rfl, rfl, rfl⟩ := hcs
    exact ⟨[], Sl.nil h0, fun _ => by simp⟩
  · simp [Value.cells] at hcs
    obtain ⟨rfl, rfl, rfl⟩ := hcs
    have hzc : zs.length = cap := by simpa using hz
    have hlen : (zs.take len).length = len := by rw [List.length_take]; omega
    refine ⟨zs.take len, ?_, fun hw => ?_⟩
    · by_cases hpos : 0 < cap
      · obtain ⟨b, o, rfl, hc'⟩ := ints_at hcell (by omega)
        refine ⟨some ⟨b, o, none⟩, cap, b, o, by rw [hlen], ⟨fun _ => rfl, fun j hj => ?_⟩, World.block_lt_of_cell? W _ (hc' 0 (by omega)), by omega, hm⟩
        rw [hlen] at hj
        rw [hc' j (by omega), List.getElem?_take, if_pos hj, List.getD_eq_getElem?_getD]
      · have : len = 0 := by omega
        subst this
        exact ⟨some x, cap, 0, 0, by simp, ⟨by simp, by simp⟩, h0, by simp, hm⟩
    · simp only [Prod.mk.injEq] at heq
      have hw2 := List.all_eq_true.1 hw (((lits (H := H) .i64 (zs.take len)).length + (lits (H := H) .i64 (zs.drop len)).length) * Tryd.prog.bytesOf 3) (by
        rw [heq.1]; simp [DataW.weights])
      rw [show Tryd.prog.bytesOf 3 = 8 by kernel_rfl] at hw2
      simp only [lits, List.length_map, decide_eq_true_eq] at hw2
      unfold reachBytes at hw2
      omega
end Go.Proofs.YtobnfbnholbfoaaDoor
