/- What package hom's Iso answers at two groups. Condition: the library's table of places lies as its text lays it. The document's SameGroup, and its Profile at a group: a list of its own, whatever it holds. What the law HomIso answers: true, at every two tables. HomIso holds at every two tables. Package hom: Kernel, Image at faults; kernels and images as mathematics. Condition: the library's table of places lies as its text lays it. -/
import Derived.Test.YtlhjeenijcokoaaGreatDoorZ12
import Derived.Test.YtlhjeenijcokoaaGreatDoorZ2
import Derived.Test.YtlhjeenijcokoaaGreatDoorZ9
import Derived.Test.YtlhjeenijcokoaaGreatDoorZ11
import Derived.Deep.Cut
import Derived.Deep.OwnRows
import Derived.Deep.RegionHeld3
import Derived.Deep.RegionLaw
import Derived.Laws.CopyOwn
import Derived.Maps.OwnIn
import Derived.OwnWalkIn
import Derived.RangeFuncBound
import Derived.RangeFuncBox
import Derived.RangeFuncCalls
import Derived.RangeFuncLeaves
import Derived.RangeFuncNested
import Derived.Shelf.Abstract
import Derived.Shelf.Bits.Mul64
import Derived.WalkKit
namespace Go.Proofs.YtlhjeenijcokoaaGreatDoor
open Go Go.RowKit

attribute [local go_sem] Oper.semAt_some
set_option maxRecDepth 100000 in
set_option maxHeartbeats 1600000 in
theorem hiso_any (n e m d : Nat) (v y : Value) (zs ys : List Int) (w : World) (hv : Sl w v zs) (hg : IsGrp n zs e) (hy : Sl w y ys) (hh : IsGrp m ys d) (hT : Tab w) :
    Calls Tryz.prog 7 #[.agg #[.int .i64 n, v], .agg #[.int .i64 m, y]] w (IsoP n zs m ys w) := by
  obtain ⟨va, vl, vc, rfl⟩ := hv.isSlice
  obtain ⟨ya, yl, yc, rfl⟩ := hy.isSlice
  have hn := hg.tab.le
  have hen := hg.elt
  obtain ⟨w0, BG⟩ := BegI.new w n m (.slice va vl vc) (.slice ya yl yc)
  have HCK := hide (pair_good n e m d (.slice va vl vc) (.slice ya yl yc) zs ys w0 (hv.below BG.bel) hg (hy.below BG.bel) hh)
  obtain ⟨c0, c1, _, _⟩ := BG.box.two
  obtain ⟨d0, d1, _, _⟩ := BG.boy.two
  rw [BG.eq] at c0 c1 d0 d1
  refine (callsIn_wide (n := 9)).1 ?_
  refine callsIn_of_wp_marks Tryz.func7 rfl trivial ?_ rfl
  simp only [Tryz.ntmps7, List.size_toArray, List.length_cons, List.length_nil, Nat.reduceAdd, Nat.reduceSub, Array.replicate_succ, Array.replicate_zero, List.push_toArray, List.append_toArray, List.nil_append, List.cons_append]
  refine wpIn_mono (Q := retM (IsoP n zs m ys w)) ?_ retM_body
  gi_wp2_with fail
  rw [← BG.eq]
  clear c0 c1 d0 d1
  refine ⟨trivial, callsIn_wide.2 ?_⟩
  refine HCK.out.mono ?_
  rintro x w1 ⟨iv9, jv9, rfl, hSI, hSJ, hb1⟩
  obtain ⟨ia, il, ic, rfl⟩ := hSI.sl.isSlice
  obtain ⟨ja, jl, jc, rfl⟩ := hSJ.sl.isSlice
  obtain ⟨w2, hw2⟩ : ∃ w2, w2 = (w1.alloc (.cells #[.int .i64 n, .slice va vl vc, .int .i64 e, .slice ia il ic, .int .i64 m, .slice ya yl yc, .int .i64 d, .slice ja jl jc] 59)).alloc (.cells #[.int .i64 0, .int .i64 0] 26) := ⟨_, rfl⟩
  have hb2 : Below w1.heap.size w1 w2 := by rw [hw2]; exact (balloc w1 _).alloc (by simp) _
  have hB1 : Below w0.heap.size w0 w2 := bcat2 hb1 hb2
  have hF1 : Blk w2 (w1.heap.size + 1) 26 [.int .i64 0, .int .i64 0] := by
    rw [hw2]
    have := blk0 (w := w1.alloc (.cells #[.int .i64 n, .slice va vl vc, .int .i64 e, .slice ia il ic, .int .i64 m, .slice ya yl yc, .int .i64 d, .slice ja jl jc] 59)) (T := 26) (.int .i64 0) (.int .i64 0)
    rwa [World.size_alloc] at this
  have hH2 : Blk w2 w1.heap.size 59 [.int .i64 n, .slice va vl vc, .int .i64 e, .slice ia il ic, .int .i64 m, .slice ya yl yc, .int .i64 d, .slice ja jl jc] := by
    rw [hw2]; exact Blk.alloc (World.alloc_heap_new _ _) _
  have hBw2 := bcat BG.bel hB1 BG.bel.size
  have hR2 := blk_below BG.res hB1
  have hL2 := Boxed.below BG.lis hB1
  have hX2 := blk_below BG.box hB1
  have hY2 := blk_below BG.boy hB1
  have hGA : GA w2 n (.slice va vl vc) e (.slice ia il ic) zs := ⟨hg, hv.below hBw2, hSI.sl.below hb2⟩
  have hyw : Sl w2 (.slice ya yl yc) ys := hy.below hBw2
  have HSO := hide (same_orders n e m d (.slice va vl vc) (.slice ya yl yc) zs ys w2 (hv.below hBw2) hg hyw hh)
  have HFE := hide (fun W (h : Below w2.heap.size w2 W) => few_ok' n e (.slice va vl vc) (.slice ia il ic) zs W (hGA.below h) ((hT.below hBw2).below h))
  have HSG := hide (fun W k1 k2 k3 => single_ok n e m d (.slice va vl vc) (.slice ia il ic) (.slice ya yl yc) (.slice ja jl jc) k1 k2 k3 W hn hen)
  obtain ⟨t0, t1, _, _⟩ := hF1.two
  obtain ⟨g0, g1, _, _⟩ := hX2.two
  obtain ⟨k0, k1, _, _⟩ := hY2.two
  rw [hw2] at t0 t1 g0 g1 k0 k1
  gi_wp2_with fail
  rw [← hw2]
  clear hw2 t0 t1 g0 g1 k0 k1
  refine ⟨trivial, callsIn_wide.2 ?_⟩
  refine HSO.out.mono ?_
  rintro x w3 ⟨b, rfl, hso1, hso2, hb3⟩
  have hR3 := blk_below hR2 hb3
  have hL3 := Boxed.below hL2 hb3
  have hBw3 := bcat2 hBw2 hb3
  cases b with
  | false =>
    have l0 := hL3.cell
    have fl0 := hL3.frozen
    have ls := boxed_self hL3
    obtain ⟨y0, y1, fy0, fy1⟩ := hR3.two
    obtain ⟨hR6, hB6⟩ := put2 hR3 hBw3 (by omega) 6 0
    have hL6 : Boxed ((w3.setCell ⟨w.heap.size + 1 + 1 + 1, 0, none⟩ (.int .i64 6)).setCell ⟨w.heap.size + 1 + 1 + 1, 1, none⟩ (.int .i64 0)) (w.heap.size + 1 + 1) 22 (.slice none 0 0) := (Below.heap_setCell _ _ _ _ (by simp)).trans ((Below.heap_setCell _ _ _ _ (by simp)).trans hL3)
    gi_wp2
    refine ⟨_, results_iso rfl _ _ (w.heap.size + 1 + 1) (w.heap.size + 1 + 1 + 1) (.slice none 0 0) (.int .i64 6) (.int .i64 0) rfl rfl hL6 hR6, ?_⟩
    exact ⟨hB6, .inr ⟨rfl, fun h1 h2 => by have h3 := hso1 h1 h2; cases h3⟩⟩
  | true =>
    have HNM := hide (hso2 rfl)
    clear hso1 hso2
    have hH3 := blk_below hH2 hb3
    have hS : ∀ W9, Below w3.heap.size w3 W9 → ((fun W9 => Below w3.heap.size w3 W9 ∧ W9.cell? ⟨w1.heap.size, 0, none⟩ = some (.int .i64 n) ∧ W9.cell? ⟨w1.heap.size, 1, none⟩ = some (.slice va vl vc) ∧ W9.cell? ⟨w1.heap.size, 2, none⟩ = some (.int .i64 e) ∧ W9.cell? ⟨w1.heap.size, 3, none⟩ = some (.slice ia il ic) ∧ W9.cell? ⟨w1.heap.size, 4, none⟩ = some (.int .i64 m) ∧ W9.cell? ⟨w1.heap.size, 5, none⟩ = some (.slice ya yl yc) ∧ W9.cell? ⟨w1.heap.size, 6, none⟩ = some (.int .i64 d) ∧ W9.cell? ⟨w1.heap.size, 7, none⟩ = some (.slice ja jl jc)) W9) := fun W9 h => by
      obtain ⟨_, q0, q1, q2, q3, q4, q5, q6, q7⟩ := Eight.mk' hH3
      exact ⟨h, below_cell h q0, below_cell h q1, below_cell h q2, below_cell h q3, below_cell h q4, below_cell h q5, below_cell h q6, below_cell h q7⟩
    have hS0 := hS _ (bdrew (Below.refl _ w3))
    gi_wp2_with fail
    refine wpIn_wide.2 ?_
    refine wp_region_held_drew (S := (fun W9 => Below w3.heap.size w3 W9 ∧ W9.cell? ⟨w1.heap.size, 0, none⟩ = some (.int .i64 n) ∧ W9.cell? ⟨w1.heap.size, 1, none⟩ = some (.slice va vl vc) ∧ W9.cell? ⟨w1.heap.size, 2, none⟩ = some (.int .i64 e) ∧ W9.cell? ⟨w1.heap.size, 3, none⟩ = some (.slice ia il ic) ∧ W9.cell? ⟨w1.heap.size, 4, none⟩ = some (.int .i64 m) ∧ W9.cell? ⟨w1.heap.size, 5, none⟩ = some (.slice ya yl yc) ∧ W9.cell? ⟨w1.heap.size, 6, none⟩ = some (.int .i64 d) ∧ W9.cell? ⟨w1.heap.size, 7, none⟩ = some (.slice ja jl jc))) (by kernel_rfl) hS0 (fun hHeld => ?_)
    refine wpAnyH_take (i := 0) (oi := ({ dst := some 22, op := Go.Op.load 59 (Go.Operand.tmp 6), type := 59, pos := _, after := #[], guard := none } : Oper)) (v := ?_) rfl (by kernel_rfl) (by kernel_rfl) (by kernel_rfl) (fun _ _ _ h => h) (Or.inl ⟨by rfl, ?_⟩) (by assumption) ?_
    rotate_left
    · (intro w hSw; (try dsimp only at hSw); go_simp; try with_reducible rfl)
    simp only [Act.put, List.setIfInBounds_toArray, List.set_cons_zero, List.set_cons_succ]
    refine wpAnyH_take (i := 1) (oi := ({ dst := some 23, op := Go.Op.fieldAddr 59 (Go.Operand.tmp 6) 0, type := 0, pos := _, after := #[], guard := none } : Oper)) (v := ?_) rfl (by kernel_rfl) (by kernel_rfl) (by kernel_rfl) (fun _ _ _ h => h) (Or.inl ⟨by rfl, ?_⟩) (by assumption) ?_
    rotate_left
    · (intro w hSw; (try dsimp only at hSw); go_simp; try with_reducible rfl)
    simp only [Act.put, List.setIfInBounds_toArray, List.set_cons_zero, List.set_cons_succ]
    refine wpAnyH_take (i := 2) (oi := ({ dst := some 24, op := Go.Op.load 57 (Go.Operand.tmp 23), type := 57, pos := _, after := #[{ on := 1, ground := Go.Ground.data }], guard := none } : Oper)) (v := ?_) rfl (by kernel_rfl) (by kernel_rfl) (by kernel_rfl) (fun _ _ _ h => h) (Or.inl ⟨by rfl, ?_⟩) (by assumption) ?_
    rotate_left
    · (intro w hSw; (try dsimp only at hSw); go_simp; try with_reducible rfl)
    simp only [Act.put, List.setIfInBounds_toArray, List.set_cons_zero, List.set_cons_succ]
    refine wpAnyH_ready (rs := [3]) (by kernel_rfl) (by simp) (AllReadyH.cons (o := ({ dst := some 25, op := Go.Op.call { callee := Go.Callee.value (Go.Operand.func 40), args := #[Go.Operand.tmp 24], argTypes := #[57] }, type := 22, pos := _, after := #[{ on := 2, ground := Go.Ground.data }], guard := none } : Oper)) rfl (fun KK hK => ?_) AllReadyH.nil)
    go_simp
    refine (HFE.out _ (bcat2 hb3 (And.left hHeld))).mono ?_
    rintro e3 w4 ⟨ks, k1, k3, rfl, hK4, hkn, hkl, hgen, hl4⟩
    try go_wp2_with fail
    refine hK.out _ _ (hS _ (bcat2 (And.left hHeld) hl4)) (fun hHeld => ?_)
    clear hK
    try simp only [Act.put, List.setIfInBounds_toArray, List.set_cons_zero, List.set_cons_succ]
    refine wpAnyH_ready (rs := [4]) (by kernel_rfl) (by simp) (AllReadyH.cons (o := ({ dst := some 26, op := Go.Op.call { callee := Go.Callee.value (Go.Operand.func 39), args := #[Go.Operand.tmp 22, Go.Operand.tmp 25], argTypes := #[59, 22] }, type := 63, pos := _, after := #[{ on := 0, ground := Go.Ground.data }, { on := 3, ground := Go.Ground.data }, { on := 3, ground := Go.Ground.chain }], guard := none } : Oper)) rfl (fun KK hK => ?_) AllReadyH.nil)
    go_simp
    refine (HSG.out _ _ _ _).mono ?_
    rintro e4 w5 ⟨kb, pb, fb, pc, ab, rfl, hA5, hpc5, hab5, _, _, _, hl5⟩
    try go_wp2_with fail
    have hB5 := bcat2 (And.left hHeld) hl5
    refine hK.out _ _ (hS _ hB5) (fun hHeld => ?_)
    clear hK
    try simp only [Act.put, List.setIfInBounds_toArray, List.set_cons_zero, List.set_cons_succ]
    refine wpAnyH_done (by kernel_rfl) ?_ _
    clear hHeld
    have hK5 := hK4.below hl5
    have hB25 := bcat2 hb3 hB5
    have hv5 := (hGA.below hB25).mul
    have hy5 := hyw.below hB25
    have hL5 := Boxed.below hL3 hB5
    have hR5 := blk_below hR3 hB5
    have hBw5 := bcat2 hBw3 hB5
    have hs5 : w.heap.size + 1 + 1 + 1 < w5.heap.size := hR5.lt
    have HFI := hide (fun W g ms (h : Below w5.heap.size w5 W) (hb : Blk W g 3 (ms.map (Value.int .i64))) (hl : ms.length = n) => sng1_ok n e m d pc ab (.slice va vl vc) (.slice ia il ic) (.slice ya yl yc) (.slice ja jl jc) (.slice (some ⟨g, 0, none⟩) n n) ms W hn (Sl.of_blk hb hl.symm (by omega)) hl (blk_below hpc5 h) (Boxed.below hab5 h))
    clear hS hS0 hK4 hL3 hR3 hBw3 hL2 hR2 hX2 hY2 hH2 hH3 hF1 HSO HFE HSG hSI hSJ hb1 hb2 hB1 hBw2 hGA hyw hl4 hl5
    gi_wp2_with fail
    refine range_out (gf := 110) (lb := #[.pointer (some ⟨kb, 0, none⟩), .pointer (some ⟨pb, 0, none⟩), .pointer (some ⟨fb, 0, none⟩)]) (hg := ?hg) (eg := enters_of Tryz.func110 (by kernel_rfl) rfl) (h1 := ?hn) (h := ?_)
    case hg => rfl
    case hn => decide
    intro lr D L W1 hD hlr hround hW1
    have hs1 : W1.heap.size = w5.heap.size + 2 := by rw [hW1]; simp
    have hL1 : W1.heap[lr]? = some (.loop (L .ready none)) := by
      rw [hW1, hlr]; have := World.alloc_heap_new (w5.alloc (.deferred (some []))) (.loop (L .ready none)); rw [World.size_alloc] at this; exact this
    have hD1 : W1.heap[D]? = some (.deferred (some [])) := by
      rw [hW1, hD]; exact (Below.heap_alloc _ _ _ (by simp)).trans (World.alloc_heap_new w5 (.deferred (some [])))
    have hg1 : w5.grownBy W1 none := by rw [hW1]; exact (World.grownBy_alloc w5 _ none).trans (World.grownBy_alloc _ _ none)
    have hBW : Below w5.heap.size w5 W1 := (Below.refl _ w5).grown hg1 (Nat.le_refl _) (by simp)
    obtain ⟨rfl, rfl⟩ : D = w5.heap.size ∧ lr = w5.heap.size + 1 := by omega
    clear hW1 hg1 hD hlr
    generalize hfull : homF n zs e m ys d ks (fun ms => sngq n e ms d) (ks.length + 1) [] = full
    refine (allit_ok (l := w5.heap.size + 1) (w0 := w5) (W := W1) (fit := fun ms => sngq n e ms d) (J := IJ w5 (w5.heap.size + 1) w5.heap.size (.loop (L .ready none))) (Jx := IX n zs m ys w (W1.heap.size + 4) (w5.heap.size + 1) w5.heap.size (.loop (L .done (some .ret)))) hg hh hv5 hy5 hK5 hkn hkl hA5 (fun a W => call113 a _ _ W) HFI.out (fun _ _ h => h.bel) ⟨rfl, hBW, hL1, hD1⟩ ?round).mono ?_
    case round =>
      rintro pre c post W0 W2 g hpc hJ0 hAp hg1 hg2 hM hcl
      obtain rfl := hJ0.no
      obtain ⟨φ, A, rfl⟩ := (iso_mem hg hh hkn hgen).1 (show c ∈ homF n zs e m ys d ks (fun ms => sngq n e ms d) (ks.length + 1) [] by rw [← hpc]; simp)
      have hlt0 := (Array.getElem?_eq_some_iff.1 hJ0.l_).1
      have hk0 : ∀ b, b < w5.heap.size + 2 → W2.heap[b]? = W0.heap[b]? := fun b h1 => hAp.block b (by omega) (by omega)
      have hL2 := (hk0 _ (by omega)).trans hJ0.l_
      have hB2 : Below w5.heap.size w5 W2 := hJ0.bel.trans (hAp.below (by omega) hJ0.bel.size)
      have hg4 := hM.lt
      have hD2 := (hk0 w5.heap.size (by omega)).trans hJ0.d_
      obtain ⟨Wb, hWb⟩ : ∃ Wb, Wb = W2.putObj (w5.heap.size + 1) (.loop (L .busy none)) := ⟨_, rfl⟩
      have hLb : Wb.heap[w5.heap.size + 1]? = some (.loop (L .busy none)) := by rw [hWb]; exact World.putObj_heap_same (Array.getElem?_eq_some_iff.1 hL2).1
      have hkb : ∀ b, b ≠ w5.heap.size + 1 → Wb.heap[b]? = W2.heap[b]? := fun b hb => by rw [hWb]; exact World.putObj_heap_other hb
      have hszb : Wb.heap.size = W2.heap.size := by rw [hWb]; simp
      have hDb := (hkb w5.heap.size (by omega)).trans hD2
      have hRb : Boxed Wb (w.heap.size + 1 + 1) 22 (.slice none 0 0) := (hkb (w.heap.size + 1 + 1) (by omega)).trans (Boxed.below hL5 hB2)
      have hFb : Blk Wb (w.heap.size + 1 + 1 + 1) 26 [.int .i64 0, .int .i64 0] := (hkb (w.heap.size + 1 + 1 + 1) (by omega)).trans (blk_below hR5 hB2)
      have hBb : Below w.heap.size w Wb := (bcat2 hBw5 hB2).trans ⟨by rw [hWb]; rfl, by rw [hWb]; rfl, by rw [hWb]; rfl, by omega, fun k hk => hkb k (by omega)⟩
      have hMb : Blk Wb g 3 ((li ((List.range n).map φ)).map (Value.int .i64)) := (hkb g (by omega)).trans hM
      refine hround _ _ W2 _ hL2 rfl ?_
      have HL2 := hide hL2
      clear hL2 hkb hk0
      have HA := hide A
      have hs_1 : w5.heap.size + 2 ≤ W1.heap.size := by omega
      have hsb1 : W2.heap.size ≤ Wb.heap.size := by omega
      clear hs1 hszb A hpc
      gi_wp2
      refine ⟨HL2.out, ?_⟩
      rw [← hWb]
      clear hWb
      have hcR := hRb.cell
      have hfR := hRb.frozen
      obtain ⟨d0, d1, d2, d3⟩ := hFb.two
      gi_wp2
      have hkz : ∀ b, b ≠ w.heap.size + 1 + 1 → b ≠ w.heap.size + 1 + 1 + 1 → (((Wb.setCell ⟨w.heap.size + 1 + 1, 0, none⟩ (.slice (some ⟨g, 0, none⟩) n n)).setCell ⟨w.heap.size + 1 + 1 + 1, 0, none⟩ (.int .i64 0)).setCell ⟨w.heap.size + 1 + 1 + 1, 1, none⟩ (.int .i64 0)).heap[b]? = Wb.heap[b]? := fun b h1 h2 => (Below.heap_setCell _ _ _ _ h2).trans ((Below.heap_setCell _ _ _ _ h2).trans (Below.heap_setCell _ _ _ _ h1))
      have hRz : Boxed (((Wb.setCell ⟨w.heap.size + 1 + 1, 0, none⟩ (.slice (some ⟨g, 0, none⟩) n n)).setCell ⟨w.heap.size + 1 + 1 + 1, 0, none⟩ (.int .i64 0)).setCell ⟨w.heap.size + 1 + 1 + 1, 1, none⟩ (.int .i64 0)) (w.heap.size + 1 + 1) 22 (.slice (some ⟨g, 0, none⟩) n n) := (Below.heap_setCell _ _ _ _ (by simp)).trans ((Below.heap_setCell _ _ _ _ (by simp)).trans (hRb.set _))
      have hFz : Blk (((Wb.setCell ⟨w.heap.size + 1 + 1, 0, none⟩ (.slice (some ⟨g, 0, none⟩) n n)).setCell ⟨w.heap.size + 1 + 1 + 1, 0, none⟩ (.int .i64 0)).setCell ⟨w.heap.size + 1 + 1 + 1, 1, none⟩ (.int .i64 0)) (w.heap.size + 1 + 1 + 1) 26 [.int .i64 0, .int .i64 0] := (((hFb.other (p := ⟨w.heap.size + 1 + 1, 0, none⟩) (by simp) (.slice (some ⟨g, 0, none⟩) n n)).set 0 (.int .i64 0)).set 1 (.int .i64 0))
      have hszz : (((Wb.setCell ⟨w.heap.size + 1 + 1, 0, none⟩ (.slice (some ⟨g, 0, none⟩) n n)).setCell ⟨w.heap.size + 1 + 1 + 1, 0, none⟩ (.int .i64 0)).setCell ⟨w.heap.size + 1 + 1 + 1, 1, none⟩ (.int .i64 0)).heap.size = Wb.heap.size := by simp
      have hBz : Below w.heap.size w (((Wb.setCell ⟨w.heap.size + 1 + 1, 0, none⟩ (.slice (some ⟨g, 0, none⟩) n n)).setCell ⟨w.heap.size + 1 + 1 + 1, 0, none⟩ (.int .i64 0)).setCell ⟨w.heap.size + 1 + 1 + 1, 1, none⟩ (.int .i64 0)) := ((hBb.setCell (p := ⟨w.heap.size + 1 + 1, 0, none⟩) (by simp; omega) _).setCell (p := ⟨w.heap.size + 1 + 1 + 1, 0, none⟩) (by simp; omega) _).setCell (p := ⟨w.heap.size + 1 + 1 + 1, 1, none⟩) (by simp; omega) _
      generalize (((Wb.setCell ⟨w.heap.size + 1 + 1, 0, none⟩ (.slice (some ⟨g, 0, none⟩) n n)).setCell ⟨w.heap.size + 1 + 1 + 1, 0, none⟩ (.int .i64 0)).setCell ⟨w.heap.size + 1 + 1 + 1, 1, none⟩ (.int .i64 0)) = Wz at *
      have hLz := (hkz (w5.heap.size + 1) (by omega) (by omega)).trans hLb
      have hput : ∀ b, b ≠ w5.heap.size + 1 → (Wz.putObj (w5.heap.size + 1) (.loop (L .done (some .ret)))).heap[b]? = Wz.heap[b]? := fun b hb => World.putObj_heap_other hb
      refine ⟨hLz, fun h => by simp at h, .inr ⟨rfl, ⟨⟨φ, g, HA.out, by omega, (hput _ (by omega)).trans hRz, (hput _ (by omega)).trans ((hkz _ (by omega) (by omega)).trans hMb)⟩, ?_, World.putObj_heap_same (Array.getElem?_eq_some_iff.1 hLz).1, (hput _ (by omega)).trans ((hkz _ (by omega) (by omega)).trans hDb), (hput _ (by omega)).trans hFz⟩⟩⟩
      exact hBz.trans ⟨rfl, rfl, rfl, by simp, fun k hk => hput k (by omega)⟩
    · rw [hfull]
      rintro x W2 ⟨hv9, W0, hJ0 | hX0, hAp⟩
      · have hno := (iso_none hg hh hkn hgen).1 (by rw [hfull]; exact hJ0.no)
        have hlt0 := (Array.getElem?_eq_some_iff.1 hJ0.l_).1
        have hk0 : ∀ b, b < w5.heap.size + 2 → W2.heap[b]? = W0.heap[b]? := fun b h1 => hAp.block b (by omega) (by omega)
        have hL2 := (hk0 _ (by omega)).trans hJ0.l_
        have hB2 : Below w5.heap.size w5 W2 := hJ0.bel.trans (hAp.below (by omega) hJ0.bel.size)
        have hD2 := (hk0 w5.heap.size (by omega)).trans hJ0.d_
        obtain ⟨Wb, hWb⟩ : ∃ Wb, Wb = W2.putObj (w5.heap.size + 1) (.loop (L .exhausted none)) := ⟨_, rfl⟩
        have hkb : ∀ b, b ≠ w5.heap.size + 1 → Wb.heap[b]? = W2.heap[b]? := fun b hb => by rw [hWb]; exact World.putObj_heap_other hb
        have hszb : Wb.heap.size = W2.heap.size := by rw [hWb]; simp
        have hDb := (hkb w5.heap.size (by omega)).trans hD2
        have hRb : Boxed Wb (w.heap.size + 1 + 1) 22 (.slice none 0 0) := (hkb (w.heap.size + 1 + 1) (by omega)).trans (Boxed.below hL5 hB2)
        have hFb : Blk Wb (w.heap.size + 1 + 1 + 1) 26 [.int .i64 0, .int .i64 0] := (hkb (w.heap.size + 1 + 1 + 1) (by omega)).trans (blk_below hR5 hB2)
        have hBb : Below w.heap.size w Wb := (bcat2 hBw5 hB2).trans ⟨by rw [hWb]; rfl, by rw [hWb]; rfl, by rw [hWb]; rfl, by omega, fun k hk => hkb k (by omega)⟩
        refine ⟨hv9, .ready, none, by simp, hL2, ?_⟩
        rw [← hWb]
        have hcR := hRb.cell
        have hfR := hRb.frozen
        obtain ⟨d0, d1, d2, d3⟩ := hFb.two
        have HNO := hide hno
        clear hWb hkb hszb hk0 hL2 hs1 hno
        unfold after
        gi_wp2
        have hkz : ∀ b, b ≠ w.heap.size + 1 + 1 → b ≠ w.heap.size + 1 + 1 + 1 → (((Wb.setCell ⟨w.heap.size + 1 + 1, 0, none⟩ (.slice none 0 0)).setCell ⟨w.heap.size + 1 + 1 + 1, 0, none⟩ (.int .i64 6)).setCell ⟨w.heap.size + 1 + 1 + 1, 1, none⟩ (.int .i64 0)).heap[b]? = Wb.heap[b]? := fun b h1 h2 => (Below.heap_setCell _ _ _ _ h2).trans ((Below.heap_setCell _ _ _ _ h2).trans (Below.heap_setCell _ _ _ _ h1))
        have hRz : Boxed (((Wb.setCell ⟨w.heap.size + 1 + 1, 0, none⟩ (.slice none 0 0)).setCell ⟨w.heap.size + 1 + 1 + 1, 0, none⟩ (.int .i64 6)).setCell ⟨w.heap.size + 1 + 1 + 1, 1, none⟩ (.int .i64 0)) (w.heap.size + 1 + 1) 22 (.slice none 0 0) := (Below.heap_setCell _ _ _ _ (by simp)).trans ((Below.heap_setCell _ _ _ _ (by simp)).trans (hRb.set _))
        have hFz : Blk (((Wb.setCell ⟨w.heap.size + 1 + 1, 0, none⟩ (.slice none 0 0)).setCell ⟨w.heap.size + 1 + 1 + 1, 0, none⟩ (.int .i64 6)).setCell ⟨w.heap.size + 1 + 1 + 1, 1, none⟩ (.int .i64 0)) (w.heap.size + 1 + 1 + 1) 26 [.int .i64 6, .int .i64 0] := (((hFb.other (p := ⟨w.heap.size + 1 + 1, 0, none⟩) (by simp) (.slice none 0 0)).set 0 (.int .i64 6)).set 1 (.int .i64 0))
        have hszz : (((Wb.setCell ⟨w.heap.size + 1 + 1, 0, none⟩ (.slice none 0 0)).setCell ⟨w.heap.size + 1 + 1 + 1, 0, none⟩ (.int .i64 6)).setCell ⟨w.heap.size + 1 + 1 + 1, 1, none⟩ (.int .i64 0)).heap.size = Wb.heap.size := by simp
        have hBz : Below w.heap.size w (((Wb.setCell ⟨w.heap.size + 1 + 1, 0, none⟩ (.slice none 0 0)).setCell ⟨w.heap.size + 1 + 1 + 1, 0, none⟩ (.int .i64 6)).setCell ⟨w.heap.size + 1 + 1 + 1, 1, none⟩ (.int .i64 0)) := ((hBb.setCell (p := ⟨w.heap.size + 1 + 1, 0, none⟩) (by simp; omega) _).setCell (p := ⟨w.heap.size + 1 + 1 + 1, 0, none⟩) (by simp; omega) _).setCell (p := ⟨w.heap.size + 1 + 1 + 1, 1, none⟩) (by simp; omega) _
        generalize (((Wb.setCell ⟨w.heap.size + 1 + 1, 0, none⟩ (.slice none 0 0)).setCell ⟨w.heap.size + 1 + 1 + 1, 0, none⟩ (.int .i64 6)).setCell ⟨w.heap.size + 1 + 1 + 1, 1, none⟩ (.int .i64 0)) = Wz at *
        have hDz := (hkz w5.heap.size (by omega) (by omega)).trans hDb
        refine ⟨by simp, .inl ⟨_, _, rfl, run_takeDeferred hDz, ?_⟩⟩
        have hput : ∀ (o : Obj) b, b ≠ w5.heap.size → (Wz.putObj w5.heap.size o).heap[b]? = Wz.heap[b]? := fun o b hb => World.putObj_heap_other hb
        refine ⟨_, results_iso rfl _ _ (w.heap.size + 1 + 1) (w.heap.size + 1 + 1 + 1) (.slice none 0 0) (.int .i64 6) (.int .i64 0) rfl rfl ((hput _ _ (by omega)).trans hRz) ((hput _ _ (by omega)).trans hFz), ?_⟩
        exact ⟨hBz.trans ⟨rfl, rfl, rfl, by simp, fun k hk => hput _ k (by omega)⟩, .inr ⟨rfl, fun _ => HNO.out⟩⟩
      · obtain ⟨φ, g, A, hgB, hRx, hMx⟩ := hX0.ex
        have hlt0 := (Array.getElem?_eq_some_iff.1 hX0.l_).1
        have hk0 : ∀ b, b < w5.heap.size + 2 → W2.heap[b]? = W0.heap[b]? := fun b h1 => hAp.block b (by omega) (by omega)
        have hL2 := (hk0 _ (by omega)).trans hX0.l_
        have hws := hBw5.size
        have hB2 : Below w.heap.size w W2 := hX0.bel.trans (hAp.below (by omega) hX0.bel.size)
        have hD2 := (hk0 w5.heap.size (by omega)).trans hX0.d_
        have hR2 : Boxed W2 (w.heap.size + 1 + 1) 22 (.slice (some ⟨g, 0, none⟩) n n) := (hk0 (w.heap.size + 1 + 1) (by omega)).trans hRx
        have hF2 : Blk W2 (w.heap.size + 1 + 1 + 1) 26 [.int .i64 0, .int .i64 0] := (hk0 (w.heap.size + 1 + 1 + 1) (by omega)).trans hX0.f_
        have hM2 : Blk W2 g 3 ((li ((List.range n).map φ)).map (Value.int .i64)) := (hAp.block g hMx.lt (by omega)).trans hMx
        obtain ⟨Wb, hWb⟩ : ∃ Wb, Wb = W2.putObj (w5.heap.size + 1) (.loop (L .exhausted (some .ret))) := ⟨_, rfl⟩
        have hkb : ∀ b, b ≠ w5.heap.size + 1 → Wb.heap[b]? = W2.heap[b]? := fun b hb => by rw [hWb]; exact World.putObj_heap_other hb
        have hszb : Wb.heap.size = W2.heap.size := by rw [hWb]; simp
        have hDb := (hkb w5.heap.size (by omega)).trans hD2
        have hRb : Boxed Wb (w.heap.size + 1 + 1) 22 (.slice (some ⟨g, 0, none⟩) n n) := (hkb (w.heap.size + 1 + 1) (by omega)).trans hR2
        have hFb : Blk Wb (w.heap.size + 1 + 1 + 1) 26 [.int .i64 0, .int .i64 0] := (hkb (w.heap.size + 1 + 1 + 1) (by omega)).trans hF2
        have hMb : Blk Wb g 3 ((li ((List.range n).map φ)).map (Value.int .i64)) := (hkb g (by omega)).trans hM2
        have hBb : Below w.heap.size w Wb := hB2.trans ⟨by rw [hWb]; rfl, by rw [hWb]; rfl, by rw [hWb]; rfl, by omega, fun k hk => hkb k (by omega)⟩
        refine ⟨hv9, .done, some .ret, by simp, hL2, ?_⟩
        rw [← hWb]
        have HA := hide A
        have hgw : w5.heap.size < g := by omega
        clear hWb hkb hszb hk0 hL2 hs1 A
        unfold after
        gi_wp2
        refine ⟨by simp, .inl ⟨_, _, rfl, run_takeDeferred hDb, ?_⟩⟩
        have hput : ∀ (o : Obj) b, b ≠ w5.heap.size → (Wb.putObj w5.heap.size o).heap[b]? = Wb.heap[b]? := fun o b hb => World.putObj_heap_other hb
        refine ⟨_, results_iso rfl _ _ (w.heap.size + 1 + 1) (w.heap.size + 1 + 1 + 1) (.slice (some ⟨g, 0, none⟩) n n) (.int .i64 0) (.int .i64 0) rfl rfl ((hput _ _ (by omega)).trans hRb) ((hput _ _ (by omega)).trans hFb), ?_⟩
        exact ⟨hBb.trans ⟨rfl, rfl, rfl, by simp, fun k hk => hput _ k (by omega)⟩, .inl ⟨φ, g, HNM.out, HA.out, rfl, by omega, (hput _ _ (by omega)).trans hMb⟩⟩
end Go.Proofs.YtlhjeenijcokoaaGreatDoor

namespace Go.Proofs.YtlhjeenijcokoaaGreatDoor
open Go Go.RowKit

set_option maxRecDepth 100000 in
set_option maxHeartbeats 1000000 in
theorem sameGroup_any (N M : Int) (u v : Value) (xs ys : List Int) (w : World) (hu : Sl w u xs) (hv : Sl w v ys) :
    Calls Tryz.prog 16 #[.agg #[.int .i64 N, u], .agg #[.int .i64 M, v]] w fun e w' => e = .returned (.bool (decide (N = M) && decide (xs = ys))) ∧ Below w.heap.size w w' := by
  obtain ⟨w0, hw0⟩ : ∃ w0, w0 = (w.alloc (.cells #[.int .i64 N, u] 24)).alloc (.cells #[.int .i64 M, v] 24) := ⟨_, rfl⟩
  have hB0 : Below w.heap.size w w0 := by rw [hw0]; exact (balloc w _).alloc (by simp) _
  have hg0 : BoxG w0 w.heap.size N u := by rw [hw0]; exact (blk0 _ _).alloc _
  have hg1 : BoxG w0 (w.heap.size + 1) M v := by
    rw [hw0]
    have : Blk ((w.alloc (.cells #[.int .i64 N, u] 24)).alloc (.cells #[.int .i64 M, v] 24)) (w.alloc (.cells #[.int .i64 N, u] 24)).heap.size 24 [.int .i64 M, v] := blk0 _ _
    rw [World.size_alloc] at this; exact this
  obtain ⟨k0, k1, _, _⟩ := hg0.two
  obtain ⟨l0, l1, _, _⟩ := hg1.two
  have HI := hide (ints_any u v xs ys w0 (hu.below hB0) (hv.below hB0))
  rw [hw0] at k0 k1 l0 l1
  by_cases h : N = M
  · subst h
    have hb : (N == N) = true := by simp
    go_enter Tryz.func16, Tryz.ntmps16
    go_wp2_with fail
    rw [← hw0]
    refine HI.out.mono ?_
    rintro x w1 ⟨rfl, hb1⟩
    have hB1 := bcat hB0 hb1 hB0.size
    clear k0 k1 l0 l1 hw0
    go_wp2
    go_ret
    exact ⟨retB (by simp), hB1⟩
  · have hb : (N == M) = false := by simpa using h
    go_enter Tryz.func16, Tryz.ntmps16
    go_wp2
    rw [← hw0]
    go_ret
    exact ⟨retB (by simp [h]), hB0⟩


set_option maxRecDepth 100000 in
set_option maxHeartbeats 4000000 in
theorem prof_ok (n e : Nat) (v : Value) (zs : List Int) (w : World) (hv : Sl w v zs) (hg : IsGrp n zs e) :
    Calls Tryz.prog 15 #[.agg #[.int .i64 n, v]] w fun x w' => ∃ (g : Nat) (xs : List Int), x = .returned (.slice (some ⟨g, 0, none⟩) xs.length xs.length) ∧ Sl w' (.slice (some ⟨g, 0, none⟩) xs.length xs.length) xs ∧ Below w.heap.size w w' := by
  obtain ⟨i0, hi, hz0, hz1, hz2⟩ := info_parts info3b
  have hB0 : Below w.heap.size w (w.alloc (.cells #[.int .i64 n, v] 24)) := balloc w _
  have hg0 : BoxG (w.alloc (.cells #[.int .i64 n, v] 24)) w.heap.size n v := blk0 _ _
  have hv0 := hv.below hB0
  have hle := hg.tab.le
  have HT := hide hg.tab
  have HO := hide (fun W a (ha : a < n) (h : Sl W v zs) => O_ok hg ha v W h)
  have HOL := hide (fun a (ha : a < n) => show ordN n zs e a ≤ 60 from Nat.le_trans (ord_le hg ha) hle)
  obtain ⟨g0, g1, _, _⟩ := hg0.two
  clear hg
  go_enter Tryz.func15, Tryz.ntmps15
  go_wp2_with (first
    | (at_make; refine wpList_make_full _ rfl _ _ 22 rfl (w.heap.size + 1) 3 i0 (.int .i64 0) 1 under22b hi hz0 hz1 _ _ _ _ 3844 rfl rfl rfl rfl (by rw [hz2]; omega) (by unfold maxLen; omega) (by simp) ?_))
  generalize hw0 : w.alloc (.cells #[.int .i64 n, v] 24) = w0 at *
  intro w3 hown hgr
  have hs0 : w0.heap.size = w.heap.size + 1 := by rw [← hw0]; simp
  obtain ⟨xs, hxl, hM⟩ : ∃ xs : List Int, xs.length = 3844 ∧ Blk w3 (w.heap.size + 1) 3 (xs.map (Value.int .i64)) := ⟨List.replicate 3844 0, by simp, by
    have := Blk.of_owns hown
    rw [made_rep] at this
    rw [List.map_replicate]; exact this⟩
  have hB3 : Below w0.heap.size w0 w3 := (Below.refl _ w0).grown hgr (Nat.le_refl _) (by simp)
  clear hown hgr hw0
  go_wp2
  go_loopw [4] (fun i wr => ∃ (k : Nat) (xs : List Int), k ≤ n ∧ i = .int .i64 k ∧ xs.length = 3844 ∧ Blk wr (w.heap.size + 1) 3 (xs.map (Value.int .i64)) ∧ Below w0.heap.size w0 wr) (fun i _ => n - (intOf i).toNat)
  case atStart => exact ⟨0, xs, Nat.zero_le _, rfl, hxl, hM, hB3⟩
  case round =>
    clear hxl hM hB3 xs
    obtain ⟨a, xs, hk, rfl, hxl, hM, hB⟩ := hrel
    have d0 := below_cell hB g0
    have d1 := below_cell hB g1
    have HXL := hide hxl
    clear hxl
    by_cases hlt : a < n
    · go_wp2
      clear d0 d1
      go_loopw [5, 6] (fun c i wr => ∃ k c9 : Nat, k ≤ n ∧ c9 ≤ k ∧ c = .int .i64 c9 ∧ i = .int .i64 k ∧ Blk wr (w.heap.size + 1) 3 (xs.map (Value.int .i64)) ∧ Below w0.heap.size w0 wr) (fun _ i _ => n - (intOf i).toNat)
      case atStart => exact ⟨0, 0, Nat.zero_le _, Nat.le_refl _, rfl, rfl, hM, hB⟩
      case round =>
        clear hM hB
        obtain ⟨b, c9, hk2, hc9, rfl, rfl, hM, hB2⟩ := hrel
        have d0 := below_cell hB2 g0
        have d1 := below_cell hB2 g1
        by_cases hlt2 : b < n
        · have hS : ∀ W, Below wr.heap.size wr W → (Below wr.heap.size wr W ∧ W.cell? ⟨w.heap.size, 0, none⟩ = some (.int .i64 n) ∧ W.cell? ⟨w.heap.size, 1, none⟩ = some v) := fun W h => ⟨h, below_cell h d0, below_cell h d1⟩
          have hS0 := hS _ (bdrew (Below.refl _ wr))
          go_wp2_with fail
          clear d0 d1
          go_region_held3 (fun W => Below wr.heap.size wr W ∧ W.cell? ⟨w.heap.size, 0, none⟩ = some (.int .i64 n) ∧ W.cell? ⟨w.heap.size, 1, none⟩ = some v)
            (first | exact hS0 | assumption | exact hS _ (bcat2 (And.left ‹_›) hl1))
            (first | (go_at_call 45; refine (M_ok n v zs _ _ _ HT.out (hv0.below (bcat2 hB2 (And.left ‹_›))) (by assumption) (by assumption)).mono ?_; rintro e W1 ⟨rfl, hl1⟩))
          obtain ⟨hB3, _⟩ := ‹Below wr.heap.size wr W1 ∧ _›
          clear hS hS0 hl1
          have hM3 := blk_below hM hB3
          have hB4 := bcat2 hB2 hB3
          by_cases hxy : tm n zs a b = tm n zs b a
          · have hbe : ((tm n zs a b : Int) == (tm n zs b a : Int)) = true := by simp [hxy]
            go_wp2
            go_roundw
            case rel => exact ⟨b + 1, c9 + 1, by omega, by omega, by go_num, by go_num, hM3, hB4⟩
            case measure => simp [intOf]; omega
          · have hbe : ((tm n zs a b : Int) == (tm n zs b a : Int)) = false := by simp; omega
            go_wp2
            go_roundw
            case rel => exact ⟨b + 1, c9, by omega, by omega, rfl, by go_num, hM3, hB4⟩
            case measure => simp [intOf]; omega
        · have hcn : b = n := by omega
          subst hcn
          have hom : ordN b zs e a ≤ 60 := HOL.out a hlt
          go_wp2_with fail
          refine (HO.out _ a hlt (hv0.below hB2)).mono ?_
          rintro x w5 ⟨rfl, hb5⟩
          have hM5 := blk_below hM hb5
          have hB5 := bcat2 hB2 hb5
          generalize ordN b zs e a = o at *
          have hm : ((o : Int) * 62) = ((o * 62 : Nat) : Int) := by omega
          have hlk : o * 62 ≤ 3720 := by omega
          generalize o * 62 = k at *
          have hj : k + c9 < xs.length := by have := HXL.out; omega
          have hc5 := hM5.int (y := k + c9) hj
          have hf5 := hM5.frozen (k + c9)
          generalize xs[k + c9]?.getD 0 = old at hc5
          have hM6 := hM5.setInt (k + c9) (wrap64 (old + 1))
          have hB6 := hB5.setCell (p := ⟨w.heap.size + 1, k + c9, none⟩) (by rw [hs0]; exact Nat.le_refl _) (.int .i64 (wrap64 (old + 1)))
          have hji : ((k + c9 : Nat) : Int) < 3844 := by have := HXL.out; omega
          clear d0 d1 hM5 hM hj
          go_wp2
          go_roundw
          case rel => exact ⟨a + 1, xs.set (k + c9) (wrap64 (old + 1)), by omega, by go_num, by rw [List.length_set]; exact HXL.out, hM6, hB6⟩
          case measure => simp [intOf]; omega
    · have hbn : a = n := by omega
      subst hbn
      have hsl := Sl.of_blk hM rfl (by rw [HXL.out]; omega)
      have e1 : Value.slice (some ⟨w.heap.size + 1, 0, none⟩) 3844 3844 = Value.slice (some ⟨w.heap.size + 1, 0, none⟩) xs.length xs.length := by rw [HXL.out]
      have E1 := hide e1
      clear e1
      go_wp2
      go_ret
      exact ⟨w.heap.size + 1, xs, congrArg Ending.returned E1.out, hsl, bcat2 hB0 hB⟩
end Go.Proofs.YtlhjeenijcokoaaGreatDoor

namespace Go.Proofs.YtlhjeenijcokoaaGreatDoor
open Go Go.RowKit

theorem mkA {X U : World} {x y : Value} (k : Below (X.alloc (.cells #[x, y] 26)).heap.size (X.alloc (.cells #[x, y] 26)) U) : Blk U X.heap.size 26 [x, y] := blk_below (blk0 x y) k
theorem undA {W U : World} (k : Below W.drew.heap.size W.drew U) : Below W.heap.size W U := ⟨k.os, k.tape, k.output, k.size, k.block⟩
/-- What lies there behind the first call. -/
def IRel (w0 : World) (C : Int → Int → List Int → Prop) (s5 s6 : Value) (wx : World) : Prop := ∃ (b : Nat) (a : Option Addr) (cp : Nat) (c i : Int) (L : List Int), s5 = .slice a L.length cp ∧ s6 = .pointer (some ⟨b, 0, none⟩) ∧ w0.heap.size ≤ b ∧ Blk wx b 26 [.int .i64 c, .int .i64 i] ∧ Sl wx (.slice a L.length cp) L ∧ C c i L ∧ Below w0.heap.size w0 wx
theorem irel_put {w0 U : World} {C : Int → Int → List Int → Prop} {c i : Int} {L : List Int} {x y : Value} {b : Nat} {a : Option Addr} {cp : Nat} (hb : w0.heap.size ≤ b) (hB : Below w0.heap.size w0 U) (hp : Blk U b 26 [x, y]) (hs : Sl ((U.setCell ⟨b, 0, none⟩ (.int .i64 c)).setCell ⟨b, 1, none⟩ (.int .i64 i)) (.slice a L.length cp) L) (hC : C c i L) : IRel w0 C (.slice a L.length cp) (.pointer (some ⟨b, 0, none⟩)) ((U.setCell ⟨b, 0, none⟩ (.int .i64 c)).setCell ⟨b, 1, none⟩ (.int .i64 i)) :=
  ⟨b, a, cp, c, i, L, rfl, rfl, hb, (hp.set 0 _).set 1 _, hs, hC, bSet (bSet hB hb) hb⟩
theorem irel_new {w0 U : World} {C : Int → Int → List Int → Prop} {c i : Int} {L : List Int} {a : Option Addr} {cp : Nat} (hB : Below w0.heap.size w0 U) (hs : Sl U (.slice a L.length cp) L) (hC : C c i L) : IRel w0 C (.slice a L.length cp) (.pointer (some ⟨U.heap.size, 0, none⟩)) (U.alloc (.cells #[.int .i64 c, .int .i64 i] 26)) :=
  ⟨U.heap.size, a, cp, c, i, L, rfl, rfl, hB.size, blk0 _ _, hs.below (balloc _ _), hC, bcat2 hB (balloc _ _)⟩
theorem iso_refl (n : Nat) (zs : List Int) : IsIso n zs n zs id := ⟨⟨fun _ ha => ha, fun _ _ _ _ => rfl⟩, fun _ _ _ _ h => h⟩
/-- What Iso may answer at two groups. -/
def IC (n : Nat) (zs : List Int) (m : Nat) (ys : List Int) (c i : Int) (L : List Int) : Prop :=
  (c = 0 ∧ i = 0 ∧ n = m ∧ ∃ φ, IsIso n zs m ys φ ∧ L = li ((List.range n).map φ)) ∨ (c = 6 ∧ i = 0 ∧ L = [] ∧ (n = m → ¬ ∃ φ, IsIso n zs m ys φ))
theorem li_map_get {n a : Nat} {φ : Nat → Nat} (ha : a < n) : (li ((List.range n).map φ))[a]?.getD 0 = (φ a : Int) := by
  unfold li
  simp [ha]
set_option maxRecDepth 100000 in
set_option maxHeartbeats 8000000 in
theorem hiso_law_bad (N M tc ti : Int) (C : Int → Int → List Int → Prop) (hCC : ∀ c i L, C c i L → c = tc ∧ i = ti ∧ L = []) (v1 : Option Addr) (v2 v3 : Nat) (y1 : Option Addr) (y2 y3 : Nat) (zs ys : List Int) (w : World) (hT : Tab w) (hc : tc ≠ 0)
    (HO1 : Hid (∀ W, Below w.heap.size w W → Calls Tryz.prog 8 #[.agg #[.int .i64 N, .slice v1 v2 v3]] W fun x W' => ∃ u1 u2 u3, x = .returned (.agg #[.int .i64 N, .slice u1 u2 u3]) ∧ Sl W' (.slice u1 u2 u3) zs ∧ Below W.heap.size W W'))
    (HO2 : Hid (∀ W, Below w.heap.size w W → Calls Tryz.prog 8 #[.agg #[.int .i64 M, .slice y1 y2 y3]] W fun x W' => ∃ u1 u2 u3, x = .returned (.agg #[.int .i64 M, .slice u1 u2 u3]) ∧ Sl W' (.slice u1 u2 u3) ys ∧ Below W.heap.size W W'))
    (HIS : Hid (∀ W u t, Below w.heap.size w W → Sl W u zs → Sl W t ys → Calls Tryz.prog 7 #[.agg #[.int .i64 N, u], .agg #[.int .i64 M, t]] W fun x W' => ∃ (a : Option Addr) (cp : Nat) (c i : Int) (L : List Int), x = .returned (.tuple #[.slice a L.length cp, .agg #[.int .i64 c, .int .i64 i]]) ∧ Sl W' (.slice a L.length cp) L ∧ (∀ b p q, b < W.heap.size → Sl ((W'.setCell ⟨b, 0, none⟩ p).setCell ⟨b, 1, none⟩ q) (.slice a L.length cp) L) ∧ C c i L ∧ Below W.heap.size W W'))
    (HTW : Hid (∀ W, Below w.heap.size w W → Calls Tryz.prog 9 #[.agg #[.int .i64 N, .slice v1 v2 v3], .agg #[.int .i64 M, .slice y1 y2 y3]] W fun x W' => x = .returned (.agg #[.int .i64 tc, .int .i64 ti]) ∧ Below W.heap.size W W')) :
    Calls Tryz.prog 3 #[.agg #[.int .i64 N, .slice v1 v2 v3], .agg #[.int .i64 M, .slice y1 y2 y3]] w fun e w' => e = .returned (.bool true) ∧ Below w.heap.size w w' := by
  have hcb : (tc != 0) = true := by simpa using hc
  obtain ⟨w0, hw0⟩ : ∃ w0, w0 = (w.alloc (.cells #[.int .i64 N, .slice v1 v2 v3] 24)).alloc (.cells #[.int .i64 M, .slice y1 y2 y3] 24) := ⟨_, rfl⟩
  have hB0 : Below w.heap.size w w0 := by rw [hw0]; exact (balloc w _).alloc (by simp) _
  have hX0 : BoxG w0 w.heap.size N (.slice v1 v2 v3) := by rw [hw0]; exact (blk0 (w := w) (T := 24) _ _).alloc _
  have hY0 : BoxG w0 (w.heap.size + 1) M (.slice y1 y2 y3) := by
    rw [hw0]
    have := blk0 (w := w.alloc (.cells #[.int .i64 N, .slice v1 v2 v3] 24)) (T := 24) (.int .i64 M) (.slice y1 y2 y3)
    rwa [World.size_alloc] at this
  have hs0 : w.heap.size + 1 < w0.heap.size := hY0.lt
  obtain ⟨c0, c1, _, _⟩ := hX0.two
  obtain ⟨d0, d1, _, _⟩ := hY0.two
  have hS : ∀ W9, Below w0.heap.size w0 W9 → (Below w0.heap.size w0 W9 ∧ W9.cell? ⟨w.heap.size, 0, none⟩ = some (.int .i64 N) ∧ W9.cell? ⟨w.heap.size, 1, none⟩ = some (.slice v1 v2 v3) ∧ W9.cell? ⟨w.heap.size + 1, 0, none⟩ = some (.int .i64 M) ∧ W9.cell? ⟨w.heap.size + 1, 1, none⟩ = some (.slice y1 y2 y3)) := fun W9 h => ⟨h, below_cell h c0, below_cell h c1, below_cell h d0, below_cell h d1⟩
  have hS0 := hS _ (bdrew (Below.refl _ w0))
  clear c0 c1 d0 d1
  go_enter Tryz.func3, Tryz.ntmps3
  go_wp2_with fail
  rw [← hw0]
  clear hw0
  go_cut [5, 6] (fun s5 s6 wx => IRel w0 C s5 s6 wx)
  case first =>
    clear HTW
    go_region_held3 (fun W9 => Below w0.heap.size w0 W9 ∧ W9.cell? ⟨w.heap.size, 0, none⟩ = some (.int .i64 N) ∧ W9.cell? ⟨w.heap.size, 1, none⟩ = some (.slice v1 v2 v3) ∧ W9.cell? ⟨w.heap.size + 1, 0, none⟩ = some (.int .i64 M) ∧ W9.cell? ⟨w.heap.size + 1, 1, none⟩ = some (.slice y1 y2 y3))
      (first | exact hS0 | assumption | exact hS _ (bcat2 (And.left ‹_›) hl7) | exact hS _ (bcat2 (And.left ‹_›) hl6) | exact hS _ (bcat2 (And.left ‹_›) hl5) | exact hS _ (bcat2 (And.left ‹_›) (balloc _ _)) | exact hS _ (bcat2 hU7 (balloc _ _)) | exact hS _ (bSet (bSet hU7 hU6.size) hU6.size) | exact hS _ (bSet (bSet hU7 hU5.size) hU5.size) | exact hS _ (bSet (bSet hU7 (Nat.le_refl _)) (Nat.le_refl _)))
      (first
        | (go_at_call_of 8 (Value.slice v1 v2 v3); refine (HO1.out _ (bcat2 hB0 (And.left ‹_›))).mono ?_; rintro e5 U5 ⟨a1, a2, a3, rfl, ha5, hl5⟩; have hU5 := bcat2 (And.left ‹_›) hl5; (first | (with_reducible have pA := mkA hl5) | (with_reducible have pA := mkA (undA hl5)) | skip))
        | (go_at_call_of 8 (Value.slice y1 y2 y3); refine (HO2.out _ (bcat2 hB0 (And.left ‹_›))).mono ?_; rintro e6 U6 ⟨b1, b2, b3, rfl, hb6, hl6⟩; have hU6 := bcat2 (And.left ‹_›) hl6; (first | (with_reducible have pB := mkA hl6; have ltB := pB.lt) | skip); (first | (with_reducible have pA := blk_below pA hl6; have ltA := pA.lt) | skip))
        | (go_at_call 7; refine (HIS.out _ _ _ (bcat2 hB0 (And.left ‹_›)) (by first | exact ha5.below hl6 | exact (ha5.below (balloc _ _)).below hl6 | exact (ha5.below hl6).below (balloc _ _)) (by first | exact hb6 | exact hb6.below (balloc _ _))).mono ?_; rintro e7 U7 ⟨q1, q3, qc, qi, QL, rfl, hs7, hst7, hC7, hl7⟩; (first | (with_reducible have pC := mkA hl7) | skip); (first | (with_reducible have pB := blk_below pB hl7) | skip); (first | (with_reducible have pA := blk_below pA hl7) | skip); (try (obtain ⟨_, _, _, _⟩ := pA.two)); (try (obtain ⟨_, _, _, _⟩ := pB.two)); (try (obtain ⟨_, _, _, _⟩ := pC.two)); have hU7 := bcat2 (And.left ‹_›) hl7))
    all_goals (go_wp2; go_meet)
    all_goals (first
      | exact irel_new hU7 hs7 hC7
      | exact irel_put hU6.size hU7 pC (hst7 _ _ _ (by simp)) hC7
      | exact irel_put hU5.size hU7 pB (hst7 _ _ _ ltB) hC7
      | exact irel_put (Nat.le_refl _) hU7 pA (hst7 _ _ _ ltA) hC7)
  case rest =>
    obtain ⟨fb, ra, rc, c, i, L, rfl, rfl, hfb, hF, hsl, hC, hbx⟩ := hcut
    have hB := bcat2 hB0 hbx
    have hX := blk_below hX0 hbx
    have hY := blk_below hY0 hbx
    clear HO1 HO2 HIS hS hS0 hX0 hY0
    obtain ⟨c0, c1, _, _⟩ := hX.two
    obtain ⟨d0, d1, _, _⟩ := hY.two
    go_wp2_with fail
    clear c0 c1 d0 d1
    refine (HTW.out _ hB).mono ?_
    rintro x w4 ⟨rfl, hb4⟩
    obtain ⟨w5, hw5⟩ : ∃ w5, w5 = w4.alloc (.cells #[.int .i64 tc, .int .i64 ti] 26) := ⟨_, rfl⟩
    have hb5 : Below w4.heap.size w4 w5 := by rw [hw5]; exact balloc w4 _
    have hW5 : Blk w5 w4.heap.size 26 [.int .i64 tc, .int .i64 ti] := by rw [hw5]; exact blk0 (w := w4) (T := 26) _ _
    have hB5 := bcat2 hB (bcat2 hb4 hb5)
    have hX5 := blk_below hX (bcat2 hb4 hb5)
    have hY5 := blk_below hY (bcat2 hb4 hb5)
    have hF5 := blk_below hF (bcat2 hb4 hb5)
    have hsl5 := hsl.below (bcat2 hb4 hb5)
    go_wp2_with fail
    rw [← hw5]
    clear hw5
    refine (homBegun_any _ (hT.below hB5)).mono ?_
    rintro x w8 ⟨rfl, hb8⟩
    have hX8 := blk_below hX5 hb8
    have hY8 := blk_below hY5 hb8
    have hF8 := blk_below hF5 hb8
    have hW8 := blk_below hW5 hb8
    have hsl8 := hsl5.below hb8
    have hB8 := bcat2 hB5 hb8
    clear hX hY hF hsl hX5 hY5 hF5 hW5 hsl5 hB5 hb8 hb5 hb4 hbx hB
    obtain ⟨u0, u1, _, _⟩ := hW8.two
    obtain ⟨g0, g1, _, _⟩ := hF8.two
    obtain ⟨rfl, rfl, rfl⟩ := hCC _ _ _ hC
    go_wp2
    go_ret
    exact ⟨rfl, hB8⟩
set_option maxRecDepth 100000 in
set_option maxHeartbeats 8000000 in
theorem hiso_law_good (n e m d : Nat) (v1 : Option Addr) (v2 v3 : Nat) (y1 : Option Addr) (y2 y3 : Nat) (zs ys : List Int) (w : World) (hT : Tab w) (hg : IsGrp n zs e) (hh : IsGrp m ys d) (hv : Sl w (.slice v1 v2 v3) zs) (hy : Sl w (.slice y1 y2 y3) ys)
    (HO1 : Hid (∀ W, Below w.heap.size w W → Calls Tryz.prog 8 #[.agg #[.int .i64 n, .slice v1 v2 v3]] W fun x W' => ∃ u1 u2 u3, x = .returned (.agg #[.int .i64 n, .slice u1 u2 u3]) ∧ Sl W' (.slice u1 u2 u3) zs ∧ Below W.heap.size W W'))
    (HO2 : Hid (∀ W, Below w.heap.size w W → Calls Tryz.prog 8 #[.agg #[.int .i64 m, .slice y1 y2 y3]] W fun x W' => ∃ u1 u2 u3, x = .returned (.agg #[.int .i64 m, .slice u1 u2 u3]) ∧ Sl W' (.slice u1 u2 u3) ys ∧ Below W.heap.size W W'))
    (HIS : Hid (∀ W u t, Below w.heap.size w W → Sl W u zs → Sl W t ys → Calls Tryz.prog 7 #[.agg #[.int .i64 n, u], .agg #[.int .i64 m, t]] W fun x W' => ∃ (a : Option Addr) (cp : Nat) (c i : Int) (L : List Int), x = .returned (.tuple #[.slice a L.length cp, .agg #[.int .i64 c, .int .i64 i]]) ∧ Sl W' (.slice a L.length cp) L ∧ (∀ b p q, b < W.heap.size → Sl ((W'.setCell ⟨b, 0, none⟩ p).setCell ⟨b, 1, none⟩ q) (.slice a L.length cp) L) ∧ IC n zs m ys c i L ∧ Below W.heap.size W W'))
    (HTW : Hid (∀ W, Below w.heap.size w W → Calls Tryz.prog 9 #[.agg #[.int .i64 n, .slice v1 v2 v3], .agg #[.int .i64 m, .slice y1 y2 y3]] W fun x W' => x = .returned (.agg #[.int .i64 0, .int .i64 0]) ∧ Below W.heap.size W W'))
    (HHM : Hid (¬ 24 < n → n = m → (¬ ∃ φ, IsIso n zs m ys φ) → ∀ W, Below w.heap.size w W → Calls Tryz.prog 17 #[.agg #[.int .i64 n, .slice v1 v2 v3], .agg #[.int .i64 m, .slice y1 y2 y3], .int .i64 3000] W fun x W' => ∃ (r1 : Option Addr) (r3 : Nat) (ms : List (List Int)) (ok : Bool), x = .returned (.tuple #[.slice r1 ms.length r3, .bool ok]) ∧ SlL W' (.slice r1 ms.length r3) ms ∧ ms.length ≤ 3000 ∧ (∀ l, l ∈ ms → l.length = n ∧ o1 n l = false) ∧ Below W.heap.size W W')) :
    Calls Tryz.prog 3 #[.agg #[.int .i64 n, .slice v1 v2 v3], .agg #[.int .i64 m, .slice y1 y2 y3]] w fun e w' => e = .returned (.bool true) ∧ Below w.heap.size w w' := by
  have hn60 := hg.tab.le
  obtain ⟨w0, hw0⟩ : ∃ w0, w0 = (w.alloc (.cells #[.int .i64 n, .slice v1 v2 v3] 24)).alloc (.cells #[.int .i64 m, .slice y1 y2 y3] 24) := ⟨_, rfl⟩
  have hB0 : Below w.heap.size w w0 := by rw [hw0]; exact (balloc w _).alloc (by simp) _
  have hX0 : BoxG w0 w.heap.size n (.slice v1 v2 v3) := by rw [hw0]; exact (blk0 (w := w) (T := 24) _ _).alloc _
  have hY0 : BoxG w0 (w.heap.size + 1) m (.slice y1 y2 y3) := by
    rw [hw0]
    have := blk0 (w := w.alloc (.cells #[.int .i64 n, .slice v1 v2 v3] 24)) (T := 24) (.int .i64 m) (.slice y1 y2 y3)
    rwa [World.size_alloc] at this
  have hs0 : w.heap.size + 1 < w0.heap.size := hY0.lt
  obtain ⟨c0, c1, _, _⟩ := hX0.two
  obtain ⟨d0, d1, _, _⟩ := hY0.two
  have hS : ∀ W9, Below w0.heap.size w0 W9 → (Below w0.heap.size w0 W9 ∧ W9.cell? ⟨w.heap.size, 0, none⟩ = some (.int .i64 n) ∧ W9.cell? ⟨w.heap.size, 1, none⟩ = some (.slice v1 v2 v3) ∧ W9.cell? ⟨w.heap.size + 1, 0, none⟩ = some (.int .i64 m) ∧ W9.cell? ⟨w.heap.size + 1, 1, none⟩ = some (.slice y1 y2 y3)) := fun W9 h => ⟨h, below_cell h c0, below_cell h c1, below_cell h d0, below_cell h d1⟩
  have hS0 := hS _ (bdrew (Below.refl _ w0))
  clear c0 c1 d0 d1
  go_enter Tryz.func3, Tryz.ntmps3
  go_wp2_with fail
  rw [← hw0]
  clear hw0
  go_cut [5, 6] (fun s5 s6 wx => IRel w0 (IC n zs m ys) s5 s6 wx)
  case first =>
    clear HTW
    go_region_held3 (fun W9 => Below w0.heap.size w0 W9 ∧ W9.cell? ⟨w.heap.size, 0, none⟩ = some (.int .i64 n) ∧ W9.cell? ⟨w.heap.size, 1, none⟩ = some (.slice v1 v2 v3) ∧ W9.cell? ⟨w.heap.size + 1, 0, none⟩ = some (.int .i64 m) ∧ W9.cell? ⟨w.heap.size + 1, 1, none⟩ = some (.slice y1 y2 y3))
      (first | exact hS0 | assumption | exact hS _ (bcat2 (And.left ‹_›) hl7) | exact hS _ (bcat2 (And.left ‹_›) hl6) | exact hS _ (bcat2 (And.left ‹_›) hl5) | exact hS _ (bcat2 (And.left ‹_›) (balloc _ _)) | exact hS _ (bcat2 hU7 (balloc _ _)) | exact hS _ (bSet (bSet hU7 hU6.size) hU6.size) | exact hS _ (bSet (bSet hU7 hU5.size) hU5.size) | exact hS _ (bSet (bSet hU7 (Nat.le_refl _)) (Nat.le_refl _)))
      (first
        | (go_at_call_of 8 (Value.slice v1 v2 v3); refine (HO1.out _ (bcat2 hB0 (And.left ‹_›))).mono ?_; rintro e5 U5 ⟨a1, a2, a3, rfl, ha5, hl5⟩; have hU5 := bcat2 (And.left ‹_›) hl5; (first | (with_reducible have pA := mkA hl5) | (with_reducible have pA := mkA (undA hl5)) | skip))
        | (go_at_call_of 8 (Value.slice y1 y2 y3); refine (HO2.out _ (bcat2 hB0 (And.left ‹_›))).mono ?_; rintro e6 U6 ⟨b1, b2, b3, rfl, hb6, hl6⟩; have hU6 := bcat2 (And.left ‹_›) hl6; (first | (with_reducible have pB := mkA hl6; have ltB := pB.lt) | skip); (first | (with_reducible have pA := blk_below pA hl6; have ltA := pA.lt) | skip))
        | (go_at_call 7; refine (HIS.out _ _ _ (bcat2 hB0 (And.left ‹_›)) (by first | exact ha5.below hl6 | exact (ha5.below (balloc _ _)).below hl6 | exact (ha5.below hl6).below (balloc _ _)) (by first | exact hb6 | exact hb6.below (balloc _ _))).mono ?_; rintro e7 U7 ⟨q1, q3, qc, qi, QL, rfl, hs7, hst7, hC7, hl7⟩; (first | (with_reducible have pC := mkA hl7) | skip); (first | (with_reducible have pB := blk_below pB hl7) | skip); (first | (with_reducible have pA := blk_below pA hl7) | skip); (try (obtain ⟨_, _, _, _⟩ := pA.two)); (try (obtain ⟨_, _, _, _⟩ := pB.two)); (try (obtain ⟨_, _, _, _⟩ := pC.two)); have hU7 := bcat2 (And.left ‹_›) hl7))
    all_goals (go_wp2; go_meet)
    all_goals (first
      | exact irel_new hU7 hs7 hC7
      | exact irel_put hU6.size hU7 pC (hst7 _ _ _ (by simp)) hC7
      | exact irel_put hU5.size hU7 pB (hst7 _ _ _ ltB) hC7
      | exact irel_put (Nat.le_refl _) hU7 pA (hst7 _ _ _ ltA) hC7)
  case rest =>
    obtain ⟨fb, ra, rc, c, i, L, rfl, rfl, hfb, hF, hsl, hC, hbx⟩ := hcut
    have hB := bcat2 hB0 hbx
    have hX := blk_below hX0 hbx
    have hY := blk_below hY0 hbx
    clear HO1 HO2 HIS hS hS0 hX0 hY0
    obtain ⟨c0, c1, _, _⟩ := hX.two
    obtain ⟨d0, d1, _, _⟩ := hY.two
    go_wp2_with fail
    clear c0 c1 d0 d1
    refine (HTW.out _ hB).mono ?_
    rintro x w4 ⟨rfl, hb4⟩
    obtain ⟨w5, hw5⟩ : ∃ w5, w5 = w4.alloc (.cells #[.int .i64 0, .int .i64 0] 26) := ⟨_, rfl⟩
    have hb5 : Below w4.heap.size w4 w5 := by rw [hw5]; exact balloc w4 _
    have hW5 : Blk w5 w4.heap.size 26 [.int .i64 0, .int .i64 0] := by rw [hw5]; exact blk0 (w := w4) (T := 26) _ _
    have hB5 := bcat2 hB (bcat2 hb4 hb5)
    have hX5 := blk_below hX (bcat2 hb4 hb5)
    have hY5 := blk_below hY (bcat2 hb4 hb5)
    have hF5 := blk_below hF (bcat2 hb4 hb5)
    have hsl5 := hsl.below (bcat2 hb4 hb5)
    go_wp2_with fail
    rw [← hw5]
    clear hw5
    refine (homBegun_any _ (hT.below hB5)).mono ?_
    rintro x w8 ⟨rfl, hb8⟩
    have hX8 := blk_below hX5 hb8
    have hY8 := blk_below hY5 hb8
    have hF8 := blk_below hF5 hb8
    have hW8 := blk_below hW5 hb8
    have hsl8 := hsl5.below hb8
    have hB8 := bcat2 hB5 hb8
    clear hX hY hF hsl hX5 hY5 hF5 hW5 hsl5 hB5 hb8 hb5 hb4 hbx hB
    obtain ⟨u0, u1, _, _⟩ := hW8.two
    obtain ⟨g0, g1, _, _⟩ := hF8.two
    obtain ⟨p0, p1, _, _⟩ := hX8.two
    obtain ⟨q0, q1, _, _⟩ := hY8.two
    rcases hC with ⟨rfl, rfl, hnm, φ, A, hL⟩ | ⟨rfl, rfl, hL, hno⟩
    · subst hnm
      have hLn : L.length = n := by rw [hL, li_len]; simp
      have HHF := hide (fun W (h : Below w8.heap.size w8 W) => rhom_any n n (.slice v1 v2 v3) (.slice y1 y2 y3) (.slice ra L.length rc) zs ys L W (hv.below (bcat2 hB8 h)) (hy.below (bcat2 hB8 h)) (hsl8.below h))
      rw [of_hom hg hh A.hom hLn (fun a ha => by rw [hL]; exact li_map_get ha)] at HHF
      have HON := hide (fun W (h : Below w8.heap.size w8 W) => one_ok n (.slice ra L.length rc) L W (hsl8.below h) hLn (by omega))
      rw [show o1 n L = true by rw [hL]; exact A.o1 rfl] at HON
      clear hsl8 A hL hLn HHM
      generalize L.length = LL at *
      go_wp2_with fail
      refine (HHF.out _ (Below.refl _ _)).mono ?_
      rintro x w9 ⟨rfl, hb9⟩
      have r0 := below_cell hb9 q0
      have hfld : ∀ W, Sem.run Tryz.prog (Instr.field 26 (.agg #[.int .i64 0, .int .i64 0]) 0) W = .ok (.int .i64 0) W := fun W => by kernel_rfl
      clear p0 p1 q0 q1 u0 u1 g0 g1
      go_wp2_with fail
      refine (HON.out _ hb9).mono ?_
      rintro x w10 ⟨rfl, hb10⟩
      go_wp2
      go_ret
      exact ⟨rfl, bcat2 hB8 (bcat2 hb9 hb10)⟩
    · subst hL
      have HFF := hide (fun W => f_any 6 0 W)
      have hS9 : ∀ W9, Below w8.heap.size w8 W9 → ((fun W9 => Below w8.heap.size w8 W9 ∧ W9.cell? ⟨fb, 0, none⟩ = some (.int .i64 6) ∧ W9.cell? ⟨fb, 1, none⟩ = some (.int .i64 0)) W9) := fun W9 h => ⟨h, below_cell h g0, below_cell h g1⟩
      have hS0 := hS9 _ (bdrew (Below.refl _ w8))
      go_wp2_with fail
      refine wp_region_held_drew (S := (fun W9 => Below w8.heap.size w8 W9 ∧ W9.cell? ⟨fb, 0, none⟩ = some (.int .i64 6) ∧ W9.cell? ⟨fb, 1, none⟩ = some (.int .i64 0))) (by kernel_rfl) hS0 (fun hHeld => ?_)
      refine wpAnyH_take (i := 0) (oi := ({ dst := some 57, op := Go.Op.load 26 (Go.Operand.tmp 6), type := 26, pos := _, after := #[], guard := none } : Oper)) (v := ?_) rfl (by kernel_rfl) (by kernel_rfl) (by kernel_rfl) (fun _ _ _ h => h) (Or.inl ⟨by rfl, ?_⟩) (by assumption) ?_
      rotate_left
      · (intro w hSw; (try dsimp only at hSw); go_simp; try with_reducible rfl)
      simp only [Act.put, List.setIfInBounds_toArray, List.set_cons_zero, List.set_cons_succ]
      refine wpAnyH_ready (rs := [1]) (by kernel_rfl) (by simp) (AllReadyH.cons (o := ({ dst := some 58, op := Go.Op.call { callee := Go.Callee.value (Go.Operand.func 13), args := #[Go.Operand.const (Go.Value.int Go.IntKind.i64 6), Go.Operand.const (Go.Value.int Go.IntKind.i64 0)], argTypes := #[3, 3] }, type := 26, pos := _, after := #[], guard := none } : Oper)) rfl (fun KK hK => ?_) AllReadyH.nil)
      go_simp
      refine (HFF.out _).mono ?_
      rintro e1 w9 ⟨rfl, hq1⟩
      try go_wp2_with fail
      have hb9 := bcat2 (And.left hHeld) hq1
      refine hK.out _ _ (hS9 _ hb9) (fun hHeld => ?_)
      clear hK
      try simp only [Act.put, List.setIfInBounds_toArray, List.set_cons_zero, List.set_cons_succ]
      refine wpAnyH_take (i := 2) (oi := ({ dst := some 59, op := Go.Op.binOp Go.BinOp.neq 26 (Go.Operand.tmp 57) (Go.Operand.tmp 58) 26, type := 4, pos := _, after := #[{ on := 0, ground := Go.Ground.data }, { on := 1, ground := Go.Ground.data }], guard := none } : Oper)) (v := ?_) rfl (by kernel_rfl) (by kernel_rfl) (by kernel_rfl) (fun _ _ _ h => h) (Or.inl ⟨by rfl, ?_⟩) (by assumption) ?_
      rotate_left
      · (intro w hSw; (try dsimp only at hSw); go_simp; try with_reducible rfl)
      simp only [Act.put, List.setIfInBounds_toArray, List.set_cons_zero, List.set_cons_succ]
      refine wpAnyH_take (i := 3) (oi := ({ dst := some 60, op := Go.Op.move (Go.Operand.tmp 59), type := 4, pos := _, after := #[{ on := 2, ground := Go.Ground.data }, { on := 1, ground := Go.Ground.chain }], guard := none } : Oper)) (v := ?_) rfl (by kernel_rfl) (by kernel_rfl) (by kernel_rfl) (fun _ _ _ h => h) (Or.inl ⟨by rfl, ?_⟩) (by assumption) ?_
      rotate_left
      · (intro w hSw; (try dsimp only at hSw); go_simp; try with_reducible rfl)
      simp only [Act.put, List.setIfInBounds_toArray, List.set_cons_zero, List.set_cons_succ]
      refine wpAnyH_take (i := 4) (oi := ({ dst := some 61, op := Go.Op.move (Go.Operand.tmp 5), type := 22, pos := _, after := #[{ on := 3, ground := Go.Ground.guard }], guard := some (3, false) } : Oper)) (v := ?_) rfl (by kernel_rfl) (by kernel_rfl) (by kernel_rfl) (fun _ _ _ h => h) (Or.inl ⟨by rfl, ?_⟩) (by assumption) ?_
      rotate_left
      · (intro w hSw; (try dsimp only at hSw); go_simp; try with_reducible rfl)
      simp only [Act.put, List.setIfInBounds_toArray, List.set_cons_zero, List.set_cons_succ]
      refine wpAnyH_take (i := 5) (oi := ({ dst := some 62, op := Go.Op.call { callee := Go.Callee.builtin Go.Builtin.len, args := #[Go.Operand.tmp 61], argTypes := #[22] }, type := 3, pos := _, after := #[{ on := 4, ground := Go.Ground.data }, { on := 3, ground := Go.Ground.guard }], guard := some (3, false) } : Oper)) (v := ?_) rfl (by kernel_rfl) (by kernel_rfl) (by kernel_rfl) (fun _ _ _ h => h) (Or.inl ⟨by rfl, ?_⟩) (by assumption) ?_
      rotate_left
      · (intro w hSw; (try dsimp only at hSw); go_simp; try with_reducible rfl)
      simp only [Act.put, List.setIfInBounds_toArray, List.set_cons_zero, List.set_cons_succ]
      refine wpAnyH_take (i := 6) (oi := ({ dst := some 63, op := Go.Op.binOp Go.BinOp.gtr 3 (Go.Operand.tmp 62) (Go.Operand.const (Go.Value.int Go.IntKind.i64 0)) 3, type := 4, pos := _, after := #[{ on := 5, ground := Go.Ground.data }, { on := 3, ground := Go.Ground.guard }], guard := some (3, false) } : Oper)) (v := ?_) rfl (by kernel_rfl) (by kernel_rfl) (by kernel_rfl) (fun _ _ _ h => h) (Or.inl ⟨by rfl, ?_⟩) (by assumption) ?_
      rotate_left
      · (intro w hSw; (try dsimp only at hSw); go_simp; try with_reducible rfl)
      simp only [Act.put, List.setIfInBounds_toArray, List.set_cons_zero, List.set_cons_succ]
      refine wpAnyH_take (i := 7) (oi := ({ dst := some 64, op := Go.Op.pick (Go.Operand.tmp 60) (Go.Operand.const (Go.Value.bool true)) (Go.Operand.tmp 63), type := 4, pos := _, after := #[{ on := 3, ground := Go.Ground.data }, { on := 6, ground := Go.Ground.data }], guard := none } : Oper)) (v := ?_) rfl (by kernel_rfl) (by kernel_rfl) (by kernel_rfl) (fun _ _ _ h => h) (Or.inl ⟨by rfl, ?_⟩) (by assumption) ?_
      rotate_left
      · (intro w hSw; (try dsimp only at hSw); go_simp; try with_reducible rfl)
      simp only [Act.put, List.setIfInBounds_toArray, List.set_cons_zero, List.set_cons_succ]
      refine wpAnyH_done (by kernel_rfl) ?_ _
      clear hS9 hS0 hHeld p0 p1 q0 q1 u0 u1 g0 g1 hF8 hW8
      have hX9 := blk_below hX8 hb9
      have hY9 := blk_below hY8 hb9
      have hB9 := bcat2 hB8 hb9
      clear hX8 hY8 hB8 hsl8 hb9
      obtain ⟨p0, p1, _, _⟩ := hX9.two
      obtain ⟨q0, q1, _, _⟩ := hY9.two
      have hS9 : ∀ W9, Below w9.heap.size w9 W9 → ((fun W9 => Below w9.heap.size w9 W9 ∧ W9.cell? ⟨w.heap.size, 0, none⟩ = some (.int .i64 n) ∧ W9.cell? ⟨w.heap.size, 1, none⟩ = some (.slice v1 v2 v3) ∧ W9.cell? ⟨w.heap.size + 1, 0, none⟩ = some (.int .i64 m) ∧ W9.cell? ⟨w.heap.size + 1, 1, none⟩ = some (.slice y1 y2 y3)) W9) := fun W9 h => ⟨h, below_cell h p0, below_cell h p1, below_cell h q0, below_cell h q1⟩
      have hS0 := hS9 _ (bdrew (Below.refl _ w9))
      by_cases hnm : n = m
      · subst hnm
        have hno := hno rfl
        have HP1 := hide (fun W (h : Below w9.heap.size w9 W) => prof_ok n e (.slice v1 v2 v3) zs W (hv.below (bcat2 hB9 h)) hg)
        have HP2 := hide (fun W (h : Below w9.heap.size w9 W) => prof_ok n d (.slice y1 y2 y3) ys W (hy.below (bcat2 hB9 h)) hh)
        have HIN := hide (fun a1 n1 b1 n2 xs zs' W (h1 : Sl W (.slice a1 n1 n1) xs) (h2 : Sl W (.slice b1 n2 n2) zs') => show Calls Tryz.prog 14 #[.slice a1 n1 n1, .slice b1 n2 n2] W fun x W' => ∃ b, x = .returned (.bool b) ∧ Below W.heap.size W W' from (ints_any _ _ xs zs' W h1 h2).mono (fun x W' h => ⟨_, h.1, h.2⟩))
        have HSM := hide (fun W (h : Below w.heap.size w W) => sameGroup_any n n (.slice v1 v2 v3) (.slice y1 y2 y3) zs ys W (hv.below h) (hy.below h))
        have hzy : ¬ zs = ys := fun h => hno ⟨id, by rw [← h]; exact iso_refl n zs⟩
        rw [show (decide ((n : Int) = (n : Int)) && decide (zs = ys)) = false by simp [hzy]] at HSM
        have HHN := hide (fun h24 => HHM.out h24 rfl hno)
        clear hno hzy hg hh hv hy HHM
        go_wp2_with fail
        refine wp_region_held_drew (S := (fun W9 => Below w9.heap.size w9 W9 ∧ W9.cell? ⟨w.heap.size, 0, none⟩ = some (.int .i64 n) ∧ W9.cell? ⟨w.heap.size, 1, none⟩ = some (.slice v1 v2 v3) ∧ W9.cell? ⟨w.heap.size + 1, 0, none⟩ = some (.int .i64 n) ∧ W9.cell? ⟨w.heap.size + 1, 1, none⟩ = some (.slice y1 y2 y3))) (by kernel_rfl) hS0 (fun hHeld => ?_)
        refine wpAnyH_take (i := 0) (oi := ({ dst := some 65, op := Go.Op.fieldAddr 24 (Go.Operand.tmp 2) 0, type := 0, pos := _, after := #[], guard := none } : Oper)) (v := ?_) rfl (by kernel_rfl) (by kernel_rfl) (by kernel_rfl) (fun _ _ _ h => h) (Or.inl ⟨by rfl, ?_⟩) (by assumption) ?_
        rotate_left
        · (intro w hSw; (try dsimp only at hSw); go_simp; try with_reducible rfl)
        simp only [Act.put, List.setIfInBounds_toArray, List.set_cons_zero, List.set_cons_succ]
        refine wpAnyH_take (i := 1) (oi := ({ dst := some 66, op := Go.Op.load 3 (Go.Operand.tmp 65), type := 3, pos := _, after := #[{ on := 0, ground := Go.Ground.data }], guard := none } : Oper)) (v := ?_) rfl (by kernel_rfl) (by kernel_rfl) (by kernel_rfl) (fun _ _ _ h => h) (Or.inl ⟨by rfl, ?_⟩) (by assumption) ?_
        rotate_left
        · (intro w hSw; (try dsimp only at hSw); go_simp; try with_reducible rfl)
        simp only [Act.put, List.setIfInBounds_toArray, List.set_cons_zero, List.set_cons_succ]
        refine wpAnyH_take (i := 2) (oi := ({ dst := some 67, op := Go.Op.fieldAddr 24 (Go.Operand.tmp 3) 0, type := 0, pos := _, after := #[], guard := none } : Oper)) (v := ?_) rfl (by kernel_rfl) (by kernel_rfl) (by kernel_rfl) (fun _ _ _ h => h) (Or.inl ⟨by rfl, ?_⟩) (by assumption) ?_
        rotate_left
        · (intro w hSw; (try dsimp only at hSw); go_simp; try with_reducible rfl)
        simp only [Act.put, List.setIfInBounds_toArray, List.set_cons_zero, List.set_cons_succ]
        refine wpAnyH_take (i := 3) (oi := ({ dst := some 68, op := Go.Op.load 3 (Go.Operand.tmp 67), type := 3, pos := _, after := #[{ on := 2, ground := Go.Ground.data }], guard := none } : Oper)) (v := ?_) rfl (by kernel_rfl) (by kernel_rfl) (by kernel_rfl) (fun _ _ _ h => h) (Or.inl ⟨by rfl, ?_⟩) (by assumption) ?_
        rotate_left
        · (intro w hSw; (try dsimp only at hSw); go_simp; try with_reducible rfl)
        simp only [Act.put, List.setIfInBounds_toArray, List.set_cons_zero, List.set_cons_succ]
        refine wpAnyH_take (i := 4) (oi := ({ dst := some 69, op := Go.Op.binOp Go.BinOp.neq 3 (Go.Operand.tmp 66) (Go.Operand.tmp 68) 3, type := 4, pos := _, after := #[{ on := 1, ground := Go.Ground.data }, { on := 3, ground := Go.Ground.data }], guard := none } : Oper)) (v := ?_) rfl (by kernel_rfl) (by kernel_rfl) (by kernel_rfl) (fun _ _ _ h => h) (Or.inl ⟨by rfl, ?_⟩) (by assumption) ?_
        rotate_left
        · (intro w hSw; (try dsimp only at hSw); go_simp; try with_reducible rfl)
        simp only [Act.put, List.setIfInBounds_toArray, List.set_cons_zero, List.set_cons_succ]
        refine wpAnyH_take (i := 5) (oi := ({ dst := some 70, op := Go.Op.move (Go.Operand.tmp 69), type := 4, pos := _, after := #[{ on := 4, ground := Go.Ground.data }], guard := none } : Oper)) (v := ?_) rfl (by kernel_rfl) (by kernel_rfl) (by kernel_rfl) (fun _ _ _ h => h) (Or.inl ⟨by rfl, ?_⟩) (by assumption) ?_
        rotate_left
        · (intro w hSw; (try dsimp only at hSw); go_simp; try with_reducible rfl)
        simp only [Act.put, List.setIfInBounds_toArray, List.set_cons_zero, List.set_cons_succ]
        refine wpAnyH_take (i := 6) (oi := ({ dst := some 71, op := Go.Op.load 24 (Go.Operand.tmp 2), type := 24, pos := _, after := #[{ on := 5, ground := Go.Ground.guard }], guard := some (5, false) } : Oper)) (v := ?_) rfl (by kernel_rfl) (by kernel_rfl) (by kernel_rfl) (fun _ _ _ h => h) (Or.inl ⟨by rfl, ?_⟩) (by assumption) ?_
        rotate_left
        · (intro w hSw; (try dsimp only at hSw); go_simp; try with_reducible rfl)
        simp only [Act.put, List.setIfInBounds_toArray, List.set_cons_zero, List.set_cons_succ]
        refine wpAnyH_take (i := 8) (oi := ({ dst := some 73, op := Go.Op.load 24 (Go.Operand.tmp 3), type := 24, pos := _, after := #[{ on := 5, ground := Go.Ground.guard }], guard := some (5, false) } : Oper)) (v := ?_) rfl (by kernel_rfl) (by kernel_rfl) (by kernel_rfl) (fun _ _ _ h => h) (Or.inl ⟨by rfl, ?_⟩) (by assumption) ?_
        rotate_left
        · (intro w hSw; (try dsimp only at hSw); go_simp; try with_reducible rfl)
        simp only [Act.put, List.setIfInBounds_toArray, List.set_cons_zero, List.set_cons_succ]
        refine wpAnyH_ready (rs := [7]) (by kernel_rfl) (by simp) (AllReadyH.cons (o := ({ dst := some 72, op := Go.Op.call { callee := Go.Callee.value (Go.Operand.func 15), args := #[Go.Operand.tmp 71], argTypes := #[24] }, type := 22, pos := _, after := #[{ on := 6, ground := Go.Ground.data }, { on := 5, ground := Go.Ground.chain }, { on := 5, ground := Go.Ground.guard }], guard := some (5, false) } : Oper)) rfl (fun KK hK => ?_) AllReadyH.nil)
        go_simp
        refine (HP1.out _ (And.left hHeld)).mono ?_
        rintro e1 U1 ⟨x1, xs1, rfl, hx1, hq1⟩
        try go_wp2_with fail
        have hb1 := bcat2 (And.left hHeld) hq1
        refine hK.out _ _ (hS9 _ hb1) (fun hHeld => ?_)
        clear hK
        try simp only [Act.put, List.setIfInBounds_toArray, List.set_cons_zero, List.set_cons_succ]
        refine wpAnyH_ready (rs := [9]) (by kernel_rfl) (by simp) (AllReadyH.cons (o := ({ dst := some 74, op := Go.Op.call { callee := Go.Callee.value (Go.Operand.func 15), args := #[Go.Operand.tmp 73], argTypes := #[24] }, type := 22, pos := _, after := #[{ on := 8, ground := Go.Ground.data }, { on := 7, ground := Go.Ground.chain }, { on := 5, ground := Go.Ground.guard }], guard := some (5, false) } : Oper)) rfl (fun KK hK => ?_) AllReadyH.nil)
        go_simp
        refine (HP2.out _ (And.left hHeld)).mono ?_
        rintro e2 U2 ⟨x2, xs2, rfl, hx2, hq2⟩
        try go_wp2_with fail
        have hb2 := bcat2 (And.left hHeld) hq2
        refine hK.out _ _ (hS9 _ hb2) (fun hHeld => ?_)
        clear hK
        try simp only [Act.put, List.setIfInBounds_toArray, List.set_cons_zero, List.set_cons_succ]
        refine wpAnyH_ready (rs := [10]) (by kernel_rfl) (by simp) (AllReadyH.cons (o := ({ dst := some 75, op := Go.Op.call { callee := Go.Callee.value (Go.Operand.func 14), args := #[Go.Operand.tmp 72, Go.Operand.tmp 74], argTypes := #[22, 22] }, type := 4, pos := _, after := #[{ on := 7, ground := Go.Ground.data }, { on := 9, ground := Go.Ground.data }, { on := 9, ground := Go.Ground.chain }, { on := 5, ground := Go.Ground.guard }], guard := some (5, false) } : Oper)) rfl (fun KK hK => ?_) AllReadyH.nil)
        go_simp
        refine (HIN.out _ _ _ _ _ _ _ (hx1.below hq2) hx2).mono ?_
        rintro e3 w10 ⟨bb, rfl, hq3⟩
        try go_wp2_with fail
        have hb3 := bcat2 (And.left hHeld) hq3
        refine hK.out _ _ (hS9 _ hb3) (fun hHeld => ?_)
        clear hK
        try simp only [Act.put, List.setIfInBounds_toArray, List.set_cons_zero, List.set_cons_succ]
        refine wpAnyH_take (i := 11) (oi := ({ dst := some 76, op := Go.Op.unOp Go.UnOp.not 4 (Go.Operand.tmp 75), type := 4, pos := _, after := #[{ on := 10, ground := Go.Ground.data }, { on := 5, ground := Go.Ground.guard }], guard := some (5, false) } : Oper)) (v := ?_) rfl (by kernel_rfl) (by kernel_rfl) (by kernel_rfl) (fun _ _ _ h => h) (Or.inl ⟨by rfl, ?_⟩) (by assumption) ?_
        rotate_left
        · (intro w hSw; (try dsimp only at hSw); go_simp; try with_reducible rfl)
        simp only [Act.put, List.setIfInBounds_toArray, List.set_cons_zero, List.set_cons_succ]
        refine wpAnyH_take (i := 12) (oi := ({ dst := some 77, op := Go.Op.pick (Go.Operand.tmp 70) (Go.Operand.const (Go.Value.bool true)) (Go.Operand.tmp 76), type := 4, pos := _, after := #[{ on := 5, ground := Go.Ground.data }, { on := 11, ground := Go.Ground.data }], guard := none } : Oper)) (v := ?_) rfl (by kernel_rfl) (by kernel_rfl) (by kernel_rfl) (fun _ _ _ h => h) (Or.inl ⟨by rfl, ?_⟩) (by assumption) ?_
        rotate_left
        · (intro w hSw; (try dsimp only at hSw); go_simp; try with_reducible rfl)
        simp only [Act.put, List.setIfInBounds_toArray, List.set_cons_zero, List.set_cons_succ]
        refine wpAnyH_done (by kernel_rfl) ?_ _
        clear hS9 hS0 hHeld p0 p1 q0 q1 hx1 hx2 hq1 hq2 hq3 hb1 hb2
        have hX10 := blk_below hX9 hb3
        have hY10 := blk_below hY9 hb3
        have hB10 := bcat2 hB9 hb3
        clear hX9 hY9 hB9 hb3
        obtain ⟨p0, p1, _, _⟩ := hX10.two
        obtain ⟨q0, q1, _, _⟩ := hY10.two
        cases bb with
        | false =>
          go_wp2
          go_ret
          exact ⟨rfl, hB10⟩
        | true =>
          by_cases h24 : 24 < n
          · have h24i : (24 : Int) < (n : Int) := by omega
            have hn0 : ((n : Int) == 0) = false := by simp; omega
            go_wp2_with fail
            refine (HSM.out _ hB10).mono ?_
            rintro x w11 ⟨rfl, hb11⟩
            go_wp2
            go_ret
            exact ⟨rfl, bcat2 hB10 hb11⟩
          · have h24i : ¬ (24 : Int) < (n : Int) := by omega
            have HHO := hide (HHN.out h24)
            go_wp2_with fail
            refine (HHO.out _ hB10).mono ?_
            rintro x w11 ⟨r1, r3, ms, ok, rfl, hms, hml, hmo, hb11⟩
            have hX11 := blk_below hX10 hb11
            have hY11 := blk_below hY10 hb11
            have hB11 := bcat2 hB10 hb11
            clear p0 p1 q0 q1 hX10 hY10 hB10 hb11 HHO HHN
            obtain ⟨p0, p1, _, _⟩ := hX11.two
            obtain ⟨q0, q1, _, _⟩ := hY11.two
            obtain ⟨la, lc, lpb, lpo, hlv, hla, hlr, hlp, hl1, hl2⟩ := hms
            injection hlv with hla' _ hlc'
            subst hla' hlc'
            go_wp2
            go_loopw [10] (fun i wr => ∃ k : Nat, k ≤ ms.length ∧ i = .int .i64 k ∧ Below w11.heap.size w11 wr) (fun i _ => ms.length - (intOf i).toNat)
            case atStart => exact ⟨0, Nat.zero_le _, rfl, Below.refl _ _⟩
            case round =>
              obtain ⟨k, hk, rfl, hB⟩ := hrel
              by_cases hlt : k < ms.length
              · obtain ⟨xv, hxc, hxs⟩ := hlr k hlt
                obtain rfl := hla (by omega)
                have hki : (k : Int) < (ms.length : Int) := by omega
                have hmk : ms[k] ∈ ms := List.getElem_mem hlt
                obtain ⟨hlk, hok⟩ := hmo _ hmk
                rw [List.getElem?_eq_getElem hlt, Option.getD_some] at hxs
                obtain ⟨xa, xl, xc, rfl⟩ := hxs.isSlice
                have HON := hide (fun W (h : Below w11.heap.size w11 W) => one_ok n (.slice xa xl xc) ms[k] W (hxs.below h) hlk (by omega))
                rw [hok] at HON
                have r0 := below_cell hB q0
                have rx := below_cell hB hxc
                have hS : ∀ W9, Below wr.heap.size wr W9 → ((fun W9 => Below wr.heap.size wr W9 ∧ W9.cell? ⟨w.heap.size + 1, 0, none⟩ = some (.int .i64 n) ∧ W9.cell? ⟨lpb, lpo + k, none⟩ = some (.slice xa xl xc)) W9) := fun W9 h => ⟨h, below_cell h r0, below_cell h rx⟩
                have hS0 := hS _ (bdrew (Below.refl _ wr))
                clear hxs hmk hlk hok hlr
                go_wp2_with fail
                clear r0 rx
                refine wp_region_held_drew (S := (fun W9 => Below wr.heap.size wr W9 ∧ W9.cell? ⟨w.heap.size + 1, 0, none⟩ = some (.int .i64 n) ∧ W9.cell? ⟨lpb, lpo + k, none⟩ = some (.slice xa xl xc))) (by kernel_rfl) hS0 (fun hHeld => ?_)
                refine wpAnyH_take (i := 0) (oi := ({ dst := some 102, op := Go.Op.move (Go.Operand.tmp 8), type := 38, pos := _, after := #[], guard := none } : Oper)) (v := ?_) rfl (by kernel_rfl) (by kernel_rfl) (by kernel_rfl) (fun _ _ _ h => h) (Or.inl ⟨by rfl, ?_⟩) (by assumption) ?_
                rotate_left
                · (intro w hSw; (try dsimp only at hSw); go_simp; try with_reducible rfl)
                simp only [Act.put, List.setIfInBounds_toArray, List.set_cons_zero, List.set_cons_succ]
                refine wpAnyH_take (i := 1) (oi := ({ dst := some 103, op := Go.Op.move (Go.Operand.tmp 10), type := 3, pos := _, after := #[], guard := none } : Oper)) (v := ?_) rfl (by kernel_rfl) (by kernel_rfl) (by kernel_rfl) (fun _ _ _ h => h) (Or.inl ⟨by rfl, ?_⟩) (by assumption) ?_
                rotate_left
                · (intro w hSw; (try dsimp only at hSw); go_simp; try with_reducible rfl)
                simp only [Act.put, List.setIfInBounds_toArray, List.set_cons_zero, List.set_cons_succ]
                refine wpAnyH_take (i := 2) (oi := ({ dst := some 104, op := Go.Op.indexAddr 38 (Go.Operand.tmp 102) (Go.Operand.tmp 103), type := 0, pos := _, after := #[{ on := 0, ground := Go.Ground.data }, { on := 1, ground := Go.Ground.data }], guard := none } : Oper)) (v := ?_) rfl (by kernel_rfl) (by kernel_rfl) (by kernel_rfl) (fun _ _ _ h => h) (Or.inl ⟨by rfl, ?_⟩) (by assumption) ?_
                rotate_left
                · (intro w hSw; (try dsimp only at hSw); go_simp; try with_reducible rfl)
                simp only [Act.put, List.setIfInBounds_toArray, List.set_cons_zero, List.set_cons_succ]
                refine wpAnyH_take (i := 3) (oi := ({ dst := some 105, op := Go.Op.load 22 (Go.Operand.tmp 104), type := 22, pos := _, after := #[{ on := 2, ground := Go.Ground.data }], guard := none } : Oper)) (v := ?_) rfl (by kernel_rfl) (by kernel_rfl) (by kernel_rfl) (fun _ _ _ h => h) (Or.inl ⟨by rfl, ?_⟩) (by assumption) ?_
                rotate_left
                · (intro w hSw; (try dsimp only at hSw); go_simp; try with_reducible rfl)
                simp only [Act.put, List.setIfInBounds_toArray, List.set_cons_zero, List.set_cons_succ]
                refine wpAnyH_take (i := 4) (oi := ({ dst := some 106, op := Go.Op.fieldAddr 24 (Go.Operand.tmp 3) 0, type := 0, pos := _, after := #[], guard := none } : Oper)) (v := ?_) rfl (by kernel_rfl) (by kernel_rfl) (by kernel_rfl) (fun _ _ _ h => h) (Or.inl ⟨by rfl, ?_⟩) (by assumption) ?_
                rotate_left
                · (intro w hSw; (try dsimp only at hSw); go_simp; try with_reducible rfl)
                simp only [Act.put, List.setIfInBounds_toArray, List.set_cons_zero, List.set_cons_succ]
                refine wpAnyH_take (i := 5) (oi := ({ dst := some 107, op := Go.Op.load 3 (Go.Operand.tmp 106), type := 3, pos := _, after := #[{ on := 4, ground := Go.Ground.data }], guard := none } : Oper)) (v := ?_) rfl (by kernel_rfl) (by kernel_rfl) (by kernel_rfl) (fun _ _ _ h => h) (Or.inl ⟨by rfl, ?_⟩) (by assumption) ?_
                rotate_left
                · (intro w hSw; (try dsimp only at hSw); go_simp; try with_reducible rfl)
                simp only [Act.put, List.setIfInBounds_toArray, List.set_cons_zero, List.set_cons_succ]
                refine wpAnyH_ready (rs := [6]) (by kernel_rfl) (by simp) (AllReadyH.cons (o := ({ dst := some 108, op := Go.Op.call { callee := Go.Callee.value (Go.Operand.func 12), args := #[Go.Operand.tmp 105, Go.Operand.tmp 107], argTypes := #[22, 3] }, type := 4, pos := _, after := #[{ on := 3, ground := Go.Ground.data }, { on := 5, ground := Go.Ground.data }], guard := none } : Oper)) rfl (fun KK hK => ?_) AllReadyH.nil)
                go_simp
                refine (HON.out _ (bcat2 hB (And.left hHeld))).mono ?_
                rintro e1 U1 ⟨rfl, hq1⟩
                try go_wp2_with fail
                have hb1 := bcat2 (And.left hHeld) hq1
                refine hK.out _ _ (hS _ hb1) (fun hHeld => ?_)
                clear hK
                try simp only [Act.put, List.setIfInBounds_toArray, List.set_cons_zero, List.set_cons_succ]
                refine wpAnyH_done (by kernel_rfl) ?_ _
                go_wp2
                go_roundw
                case rel => exact ⟨k + 1, by omega, by go_num, bcat2 hB hb1⟩
                case measure => simp [intOf]; omega
              · have hki : ¬ (k : Int) < (ms.length : Int) := by omega
                have r0 := below_cell hB p0
                have r1 := below_cell hB p1
                have s0 := below_cell hB q0
                have s1 := below_cell hB q1
                cases ok with
                | true =>
                  go_wp2
                  go_ret
                  exact ⟨rfl, bcat2 hB11 hB⟩
                | false =>
                  go_wp2_with fail
                  refine (HSM.out _ (bcat2 hB11 hB)).mono ?_
                  rintro x w12 ⟨rfl, hb12⟩
                  go_wp2
                  go_ret
                  exact ⟨rfl, bcat2 hB11 (bcat2 hB hb12)⟩
      · have hnmi : ((n : Int) != (m : Int)) = true := by simp; omega
        go_wp2_with fail
        refine wp_region_held_drew (S := (fun W9 => Below w9.heap.size w9 W9 ∧ W9.cell? ⟨w.heap.size, 0, none⟩ = some (.int .i64 n) ∧ W9.cell? ⟨w.heap.size, 1, none⟩ = some (.slice v1 v2 v3) ∧ W9.cell? ⟨w.heap.size + 1, 0, none⟩ = some (.int .i64 m) ∧ W9.cell? ⟨w.heap.size + 1, 1, none⟩ = some (.slice y1 y2 y3))) (by kernel_rfl) hS0 (fun hHeld => ?_)
        refine wpAnyH_take (i := 0) (oi := ({ dst := some 65, op := Go.Op.fieldAddr 24 (Go.Operand.tmp 2) 0, type := 0, pos := _, after := #[], guard := none } : Oper)) (v := ?_) rfl (by kernel_rfl) (by kernel_rfl) (by kernel_rfl) (fun _ _ _ h => h) (Or.inl ⟨by rfl, ?_⟩) (by assumption) ?_
        rotate_left
        · (intro w hSw; (try dsimp only at hSw); go_simp; try with_reducible rfl)
        simp only [Act.put, List.setIfInBounds_toArray, List.set_cons_zero, List.set_cons_succ]
        refine wpAnyH_take (i := 1) (oi := ({ dst := some 66, op := Go.Op.load 3 (Go.Operand.tmp 65), type := 3, pos := _, after := #[{ on := 0, ground := Go.Ground.data }], guard := none } : Oper)) (v := ?_) rfl (by kernel_rfl) (by kernel_rfl) (by kernel_rfl) (fun _ _ _ h => h) (Or.inl ⟨by rfl, ?_⟩) (by assumption) ?_
        rotate_left
        · (intro w hSw; (try dsimp only at hSw); go_simp; try with_reducible rfl)
        simp only [Act.put, List.setIfInBounds_toArray, List.set_cons_zero, List.set_cons_succ]
        refine wpAnyH_take (i := 2) (oi := ({ dst := some 67, op := Go.Op.fieldAddr 24 (Go.Operand.tmp 3) 0, type := 0, pos := _, after := #[], guard := none } : Oper)) (v := ?_) rfl (by kernel_rfl) (by kernel_rfl) (by kernel_rfl) (fun _ _ _ h => h) (Or.inl ⟨by rfl, ?_⟩) (by assumption) ?_
        rotate_left
        · (intro w hSw; (try dsimp only at hSw); go_simp; try with_reducible rfl)
        simp only [Act.put, List.setIfInBounds_toArray, List.set_cons_zero, List.set_cons_succ]
        refine wpAnyH_take (i := 3) (oi := ({ dst := some 68, op := Go.Op.load 3 (Go.Operand.tmp 67), type := 3, pos := _, after := #[{ on := 2, ground := Go.Ground.data }], guard := none } : Oper)) (v := ?_) rfl (by kernel_rfl) (by kernel_rfl) (by kernel_rfl) (fun _ _ _ h => h) (Or.inl ⟨by rfl, ?_⟩) (by assumption) ?_
        rotate_left
        · (intro w hSw; (try dsimp only at hSw); go_simp; try with_reducible rfl)
        simp only [Act.put, List.setIfInBounds_toArray, List.set_cons_zero, List.set_cons_succ]
        refine wpAnyH_take (i := 4) (oi := ({ dst := some 69, op := Go.Op.binOp Go.BinOp.neq 3 (Go.Operand.tmp 66) (Go.Operand.tmp 68) 3, type := 4, pos := _, after := #[{ on := 1, ground := Go.Ground.data }, { on := 3, ground := Go.Ground.data }], guard := none } : Oper)) (v := ?_) rfl (by kernel_rfl) (by kernel_rfl) (by kernel_rfl) (fun _ _ _ h => h) (Or.inl ⟨by rfl, ?_⟩) (by assumption) ?_
        rotate_left
        · (intro w hSw; (try dsimp only at hSw); go_simp; try with_reducible rfl)
        simp only [Act.put, List.setIfInBounds_toArray, List.set_cons_zero, List.set_cons_succ]
        refine wpAnyH_take (i := 5) (oi := ({ dst := some 70, op := Go.Op.move (Go.Operand.tmp 69), type := 4, pos := _, after := #[{ on := 4, ground := Go.Ground.data }], guard := none } : Oper)) (v := ?_) rfl (by kernel_rfl) (by kernel_rfl) (by kernel_rfl) (fun _ _ _ h => h) (Or.inl ⟨by rfl, ?_⟩) (by assumption) ?_
        rotate_left
        · (intro w hSw; (try dsimp only at hSw); go_simp; try with_reducible rfl)
        simp only [Act.put, List.setIfInBounds_toArray, List.set_cons_zero, List.set_cons_succ]
        refine wpAnyH_take (i := 6) (oi := ({ dst := some 71, op := Go.Op.load 24 (Go.Operand.tmp 2), type := 24, pos := _, after := #[{ on := 5, ground := Go.Ground.guard }], guard := some (5, false) } : Oper)) (v := undef) rfl (by kernel_rfl) (by kernel_rfl) (by kernel_rfl) (fun _ _ _ h => h) (Or.inr ⟨by rfl, rfl⟩) (by assumption) ?_
        simp only [Act.put, List.setIfInBounds_toArray, List.set_cons_zero, List.set_cons_succ]
        refine wpAnyH_take (i := 7) (oi := ({ dst := some 72, op := Go.Op.call { callee := Go.Callee.value (Go.Operand.func 15), args := #[Go.Operand.tmp 71], argTypes := #[24] }, type := 22, pos := _, after := #[{ on := 6, ground := Go.Ground.data }, { on := 5, ground := Go.Ground.chain }, { on := 5, ground := Go.Ground.guard }], guard := some (5, false) } : Oper)) (v := undef) rfl (by kernel_rfl) (by kernel_rfl) (by kernel_rfl) (fun _ _ _ h => h) (Or.inr ⟨by rfl, rfl⟩) (by assumption) ?_
        simp only [Act.put, List.setIfInBounds_toArray, List.set_cons_zero, List.set_cons_succ]
        refine wpAnyH_take (i := 8) (oi := ({ dst := some 73, op := Go.Op.load 24 (Go.Operand.tmp 3), type := 24, pos := _, after := #[{ on := 5, ground := Go.Ground.guard }], guard := some (5, false) } : Oper)) (v := undef) rfl (by kernel_rfl) (by kernel_rfl) (by kernel_rfl) (fun _ _ _ h => h) (Or.inr ⟨by rfl, rfl⟩) (by assumption) ?_
        simp only [Act.put, List.setIfInBounds_toArray, List.set_cons_zero, List.set_cons_succ]
        refine wpAnyH_take (i := 9) (oi := ({ dst := some 74, op := Go.Op.call { callee := Go.Callee.value (Go.Operand.func 15), args := #[Go.Operand.tmp 73], argTypes := #[24] }, type := 22, pos := _, after := #[{ on := 8, ground := Go.Ground.data }, { on := 7, ground := Go.Ground.chain }, { on := 5, ground := Go.Ground.guard }], guard := some (5, false) } : Oper)) (v := undef) rfl (by kernel_rfl) (by kernel_rfl) (by kernel_rfl) (fun _ _ _ h => h) (Or.inr ⟨by rfl, rfl⟩) (by assumption) ?_
        simp only [Act.put, List.setIfInBounds_toArray, List.set_cons_zero, List.set_cons_succ]
        refine wpAnyH_take (i := 10) (oi := ({ dst := some 75, op := Go.Op.call { callee := Go.Callee.value (Go.Operand.func 14), args := #[Go.Operand.tmp 72, Go.Operand.tmp 74], argTypes := #[22, 22] }, type := 4, pos := _, after := #[{ on := 7, ground := Go.Ground.data }, { on := 9, ground := Go.Ground.data }, { on := 9, ground := Go.Ground.chain }, { on := 5, ground := Go.Ground.guard }], guard := some (5, false) } : Oper)) (v := undef) rfl (by kernel_rfl) (by kernel_rfl) (by kernel_rfl) (fun _ _ _ h => h) (Or.inr ⟨by rfl, rfl⟩) (by assumption) ?_
        simp only [Act.put, List.setIfInBounds_toArray, List.set_cons_zero, List.set_cons_succ]
        refine wpAnyH_take (i := 11) (oi := ({ dst := some 76, op := Go.Op.unOp Go.UnOp.not 4 (Go.Operand.tmp 75), type := 4, pos := _, after := #[{ on := 10, ground := Go.Ground.data }, { on := 5, ground := Go.Ground.guard }], guard := some (5, false) } : Oper)) (v := undef) rfl (by kernel_rfl) (by kernel_rfl) (by kernel_rfl) (fun _ _ _ h => h) (Or.inr ⟨by rfl, rfl⟩) (by assumption) ?_
        simp only [Act.put, List.setIfInBounds_toArray, List.set_cons_zero, List.set_cons_succ]
        refine wpAnyH_take (i := 12) (oi := ({ dst := some 77, op := Go.Op.pick (Go.Operand.tmp 70) (Go.Operand.const (Go.Value.bool true)) (Go.Operand.tmp 76), type := 4, pos := _, after := #[{ on := 5, ground := Go.Ground.data }, { on := 11, ground := Go.Ground.data }], guard := none } : Oper)) (v := ?_) rfl (by kernel_rfl) (by kernel_rfl) (by kernel_rfl) (fun _ _ _ h => h) (Or.inl ⟨by rfl, ?_⟩) (by assumption) ?_
        rotate_left
        · (intro w hSw; (try dsimp only at hSw); go_simp; try with_reducible rfl)
        simp only [Act.put, List.setIfInBounds_toArray, List.set_cons_zero, List.set_cons_succ]
        refine wpAnyH_done (by kernel_rfl) ?_ _
        go_wp2
        go_ret
        exact ⟨rfl, bdrew hB9⟩
end Go.Proofs.YtlhjeenijcokoaaGreatDoor

namespace Go.Proofs.YtlhjeenijcokoaaGreatDoor
open Go Go.RowKit

theorem hiso_law (N M : Int) (v y : Value) (zs ys : List Int) (w : World) (hv : Sl w v zs) (hy : Sl w y ys) (hT : Tab w) (b1 : zs.length * 8 ≤ 140737488355328) (b2 : ys.length * 8 ≤ 140737488355328) :
    Calls Tryz.prog 3 #[.agg #[.int .i64 N, v], .agg #[.int .i64 M, y]] w fun e w' => e = .returned (.bool true) ∧ Below w.heap.size w w' := by
  obtain ⟨v1, v2, v3, rfl⟩ := hv.isSlice
  obtain ⟨y1, y2, y3, rfl⟩ := hy.isSlice
  have HO1 : Hid (∀ W, Below w.heap.size w W → Calls Tryz.prog 8 #[.agg #[.int .i64 N, .slice v1 v2 v3]] W fun x W' => ∃ u1 u2 u3, x = .returned (.agg #[.int .i64 N, .slice u1 u2 u3]) ∧ Sl W' (.slice u1 u2 u3) zs ∧ Below W.heap.size W W') := hide fun W h => (ownGroup_any N (.slice v1 v2 v3) zs W (hv.below h) b1).mono (fun x W' h9 => by
    obtain ⟨u, rfl, hu, hb⟩ := h9
    obtain ⟨u1, u2, u3, rfl⟩ := hu.isSlice
    exact ⟨u1, u2, u3, rfl, hu, hb⟩)
  have HO2 : Hid (∀ W, Below w.heap.size w W → Calls Tryz.prog 8 #[.agg #[.int .i64 M, .slice y1 y2 y3]] W fun x W' => ∃ u1 u2 u3, x = .returned (.agg #[.int .i64 M, .slice u1 u2 u3]) ∧ Sl W' (.slice u1 u2 u3) ys ∧ Below W.heap.size W W') := hide fun W h => (ownGroup_any M (.slice y1 y2 y3) ys W (hy.below h) b2).mono (fun x W' h9 => by
    obtain ⟨u, rfl, hu, hb⟩ := h9
    obtain ⟨u1, u2, u3, rfl⟩ := hu.isSlice
    exact ⟨u1, u2, u3, rfl, hu, hb⟩)
  have HTW := hide (fun W (h : Below w.heap.size w W) => rtwo_any N M (.slice v1 v2 v3) (.slice y1 y2 y3) zs ys W (hv.below h) (hy.below h))
  by_cases hc : (twofault N zs M ys).1 = 0
  · have hc1 : (gfault N zs).1 = 0 := by
      unfold twofault at hc
      by_cases h9 : (gfault N zs).1 = 0
      · exact h9
      · rw [if_pos h9] at hc; exact absurd hc h9
    have hc2 : (gfault M ys).1 = 0 := by
      unfold twofault at hc
      rw [if_neg (by simpa using hc1)] at hc
      exact hc
    obtain ⟨n, e, rfl, hg, _⟩ := gfault_grp hc1
    obtain ⟨m, d, rfl, hh, _⟩ := gfault_grp hc2
    have ht : twofault n zs m ys = (0, 0) := by unfold twofault; rw [if_neg (by simpa using hc1)]; exact grp_fault hh
    rw [ht] at HTW
    refine hiso_law_good n e m d v1 v2 v3 y1 y2 y3 zs ys w hT hg hh hv hy HO1 HO2 (hide fun W u t h hu ht => ?_) HTW (hide fun h24 hnm hno W h => ?_)
    · refine (hiso_any n e m d u t zs ys W hu hg ht hh (hT.below h)).mono ?_
      rintro x W' ⟨hb, ⟨φ, g, hnm, A, rfl, hgs, hM⟩ | ⟨rfl, hno⟩⟩
      · have hl : (li ((List.range n).map φ)).length = n := by rw [li_len]; simp
        have h60 := hg.tab.le
        refine ⟨some ⟨g, 0, none⟩, n, 0, 0, li ((List.range n).map φ), by rw [hl], by have h8 := Sl.of_blk (n := n) hM hl.symm (by rw [hl]; omega); rw [hl]; exact h8, fun b p q hb9 => ?_, .inl ⟨rfl, rfl, hnm, φ, A, rfl⟩, hb⟩
        have hM2 : Blk ((W'.setCell ⟨b, 0, none⟩ p).setCell ⟨b, 1, none⟩ q) g 3 ((li ((List.range n).map φ)).map (Value.int .i64)) := (hM.other (p := ⟨b, 0, none⟩) (by simp; omega) p).other (p := ⟨b, 1, none⟩) (by simp; omega) q
        have h9 := Sl.of_blk (n := n) hM2 hl.symm (by rw [hl]; omega)
        rw [hl]; exact h9
      · have h0 : 0 < W'.heap.size := Nat.lt_of_lt_of_le (Nat.lt_of_lt_of_le hT.lt h.size) hb.size
        exact ⟨none, 0, 6, 0, [], rfl, Sl.nil h0, fun b p q _ => Sl.nil (by rw [size_set, size_set]; exact h0), .inr ⟨rfl, rfl, rfl, hno⟩, hb⟩
    · subst hnm
      refine (homs_ok n e n d 3000 (.slice v1 v2 v3) (.slice y1 y2 y3) zs ys W (hv.below h) hg (hy.below h) hh (by omega)).mono ?_
      rintro x W' ⟨hb, ks, hkn, hkl, hgen, ⟨hle, r, us, ms, rfl, hrow, hls, hpm, hst⟩ | ⟨_, rfl⟩⟩
      · have hsl := SlL.of_own hrow hls (Nat.lt_of_lt_of_le (Nat.lt_of_lt_of_le hT.lt h.size) hb.size)
        obtain ⟨ra, rc, rfl⟩ := own_slice' hrow
        rw [hls.1] at hsl ⊢
        refine ⟨ra, rc, ms, true, rfl, hsl, by rw [hpm.length_eq]; exact hle, fun l hl => ?_, hb⟩
        obtain ⟨φ, H, rfl, _⟩ := (dh_mem hg hh hkn hgen _ _ _ (by simp) (by simp)).1 (hpm.mem_iff.1 hl)
        refine ⟨by rw [li_len]; simp, ?_⟩
        cases ho : o1 n (li ((List.range n).map φ)) with
        | false => rfl
        | true => exact absurd ⟨φ, iso_of_o1 H rfl ho⟩ hno
      · have h0 : 0 < W'.heap.size := Nat.lt_of_lt_of_le (Nat.lt_of_lt_of_le hT.lt h.size) hb.size
        exact ⟨none, 0, [], false, rfl, ⟨none, 0, 0, 0, rfl, by simp, by simp, h0, Nat.le_refl _, by unfold maxLen; omega⟩, by simp, by simp, hb⟩
  · exact hiso_law_bad N M _ _ (fun c i L => c = (twofault N zs M ys).1 ∧ i = (twofault N zs M ys).2 ∧ L = []) (fun _ _ _ h => h) v1 v2 v3 y1 y2 y3 zs ys w hT hc HO1 HO2 (hide fun W u t h hu ht => (hiso_bad N M u t zs ys W hu ht hc).mono (fun x W' h9 => by
      obtain ⟨rfl, hb⟩ := h9
      have h0 : 0 < W'.heap.size := Nat.lt_of_lt_of_le (Nat.lt_of_lt_of_le hT.lt h.size) hb.size
      exact ⟨none, 0, _, _, [], rfl, Sl.nil h0, fun b p q _ => Sl.nil (by rw [size_set, size_set]; exact h0), ⟨rfl, rfl, rfl⟩, hb⟩)) HTW
end Go.Proofs.YtlhjeenijcokoaaGreatDoor

namespace Go.Proofs.YtlhjeenijcokoaaGreatDoor
open Go Go.RowKit

set_option maxRecDepth 100000 in
set_option maxHeartbeats 8000000 in
theorem kernel_good (n e m d : Nat) (v y mv : Value) (zs ys ms : List Int) (w : World) (hv : Sl w v zs) (hg : IsGrp n zs e) (hy : Sl w y ys) (hh : IsGrp m ys d) (hm : Sl w mv ms) (hT : Tab w) (hc : hfault n zs m ys ms = (0, 0)) :
    Calls Tryz.prog 19 #[.agg #[.int .i64 n, v], .agg #[.int .i64 m, y], mv] w fun x w' => ∃ r1 r2 r3, x = .returned (.tuple #[.slice r1 r2 r3, .agg #[.int .i64 0, .int .i64 0]]) ∧ Sl w' (.slice r1 r2 r3) (li (lst n (kerq ms d))) ∧ Below w.heap.size w w' := by
  have hn := hg.tab.le
  have hl : ms.length = n := hfault_len hg hh hc
  obtain ⟨w0, BG⟩ := BegF.new w n m v y
  have HCK := hide (ow_any n e m d v y mv zs ys ms w0 (hv.below BG.bel) hg (hy.below BG.bel) hh (hm.below BG.bel))
  rw [hc] at HCK
  simp only at HCK
  obtain ⟨v1, v2, v3, rfl⟩ := hv.isSlice
  obtain ⟨y1, y2, y3, rfl⟩ := hy.isSlice
  obtain ⟨e0, e1, _, _⟩ := BG.box.two
  obtain ⟨k0, k1, _, _⟩ := BG.boy.two
  rw [BG.eq] at e0 e1 k0 k1
  have HKE := hide (fun W u t (h : Below w.heap.size w W) => ker_ok n e m d (.slice v1 v2 v3) u (.slice y1 y2 y3) t mv ms W hn (hm.below h) hl)
  clear hl
  go_enter Tryz.func19, Tryz.ntmps19
  go_wp2_with fail
  rw [← BG.eq]
  clear e0 e1 k0 k1
  refine HCK.out.mono ?_
  rintro x w1 ⟨P, rfl, hA, _, hb1⟩
  obtain ⟨u, t, rfl, hu, ht⟩ := hA trivial
  clear hA
  obtain ⟨u1, u2, u3, rfl⟩ := hu.sl.isSlice
  obtain ⟨t1, t2, t3, rfl⟩ := ht.sl.isSlice
  obtain ⟨w2, hw2⟩ : ∃ w2, w2 = (w1.alloc (.cells #[.int .i64 n, .slice v1 v2 v3, .int .i64 e, .slice u1 u2 u3, .int .i64 m, .slice y1 y2 y3, .int .i64 d, .slice t1 t2 t3] 59)).alloc (.cells #[.int .i64 0, .int .i64 0] 26) := ⟨_, rfl⟩
  have hB1 : Below w0.heap.size w0 w2 := by rw [hw2]; exact bcat2 hb1 ((balloc w1 _).alloc (by simp) _)
  have hF1 : Blk w2 (w1.heap.size + 1) 26 [.int .i64 0, .int .i64 0] := by
    rw [hw2]
    have := blk0 (w := w1.alloc (.cells #[.int .i64 n, .slice v1 v2 v3, .int .i64 e, .slice u1 u2 u3, .int .i64 m, .slice y1 y2 y3, .int .i64 d, .slice t1 t2 t3] 59)) (T := 26) (.int .i64 0) (.int .i64 0)
    rwa [World.size_alloc] at this
  have hX1 : Blk w2 w1.heap.size 59 [.int .i64 n, .slice v1 v2 v3, .int .i64 e, .slice u1 u2 u3, .int .i64 m, .slice y1 y2 y3, .int .i64 d, .slice t1 t2 t3] := by
    rw [hw2]
    exact Blk.alloc (World.alloc_heap_new _ _) _
  have hR1 := blk_below BG.res hB1
  have hBw := bcat BG.bel hB1 BG.bel.size
  obtain ⟨t0, t1', _, _⟩ := hF1.two
  obtain ⟨_, p0, p1, p2, p3, p4, p5, p6, p7⟩ := Eight.mk' hX1
  rw [hw2] at t0 t1' p0 p1 p2 p3 p4 p5 p6 p7
  go_wp2_with fail
  rw [← hw2]
  clear hw2 t0 t1' p0 p1 p2 p3 p4 p5 p6 p7
  refine (HKE.out w2 _ _ hBw).mono ?_
  rintro x w3 ⟨rfl, hb3⟩
  go_wp2_with fail
  refine (list_ok n _ w3 hn (hT.below (bcat2 hBw hb3))).mono ?_
  rintro x w4 ⟨r, rfl, hr, hb4⟩
  have hrs := hr.sl
  obtain ⟨r1, r2, r3, rfl⟩ := hrs.isSlice
  have hR4 := blk_below (blk_below hR1 hb3) hb4
  have hB4 := bcat2 (bcat2 hBw hb3) hb4
  obtain ⟨y0, y1', fy0, fy1⟩ := hR4.two
  obtain ⟨s0, s1⟩ := hR4.self
  go_wp2
  exact bodyPost_ret (v := .tuple #[.slice r1 r2 r3, .agg #[.int .i64 0, .int .i64 0]]) (by simp [results, Tryz.results19, go_sem, y0, y1']) rfl ⟨_, _, _, rfl, hrs, hB4⟩
set_option maxRecDepth 100000 in
set_option maxHeartbeats 4000000 in
theorem kernel_bad (N M : Int) (v y mv : Value) (zs ys ms : List Int) (w : World) (hv : Sl w v zs) (hy : Sl w y ys) (hm : Sl w mv ms) (hc : (hfault N zs M ys ms).1 ≠ 0) :
    Calls Tryz.prog 19 #[.agg #[.int .i64 N, v], .agg #[.int .i64 M, y], mv] w fun x w' => x = .returned (.tuple #[.slice none 0 0, .agg #[.int .i64 (hfault N zs M ys ms).1, .int .i64 (hfault N zs M ys ms).2]]) ∧ Below w.heap.size w w' := by
  obtain ⟨w0, BG⟩ := BegF.new w N M v y
  have HCK := hide (ow_all N M v y mv zs ys ms w0 (hv.below BG.bel) (hy.below BG.bel) (hm.below BG.bel))
  obtain ⟨c, i, hci⟩ : ∃ c i, hfault N zs M ys ms = (c, i) := ⟨_, _, rfl⟩
  rw [hci] at HCK hc ⊢
  simp only at HCK hc ⊢
  clear hci
  have hcb : (c != 0) = true := by simpa using hc
  obtain ⟨e0, e1, _, _⟩ := BG.box.two
  obtain ⟨k0, k1, _, _⟩ := BG.boy.two
  rw [BG.eq] at e0 e1 k0 k1
  go_enter Tryz.func19, Tryz.ntmps19
  go_wp2_with fail
  rw [← BG.eq]
  clear e0 e1 k0 k1
  refine HCK.out.mono ?_
  rintro x w1 ⟨p0, a0, b0, c0, p1, a1, b1, c1, p2, a2, b2, c2, p3, a3, b3, c3, rfl, hb1⟩
  obtain ⟨w2, hw2⟩ : ∃ w2, w2 = (w1.alloc (.cells #[.int .i64 p0, .slice a0 b0 c0, .int .i64 p1, .slice a1 b1 c1, .int .i64 p2, .slice a2 b2 c2, .int .i64 p3, .slice a3 b3 c3] 59)).alloc (.cells #[.int .i64 c, .int .i64 i] 26) := ⟨_, rfl⟩
  have hB1 : Below w0.heap.size w0 w2 := by rw [hw2]; exact bcat2 hb1 ((balloc w1 _).alloc (by simp) _)
  have hF1 : Blk w2 (w1.heap.size + 1) 26 [.int .i64 c, .int .i64 i] := by
    rw [hw2]
    have := blk0 (w := w1.alloc (.cells #[.int .i64 p0, .slice a0 b0 c0, .int .i64 p1, .slice a1 b1 c1, .int .i64 p2, .slice a2 b2 c2, .int .i64 p3, .slice a3 b3 c3] 59)) (T := 26) (.int .i64 c) (.int .i64 i)
    rwa [World.size_alloc] at this
  have hR1 := blk_below BG.res hB1
  have hBw := bcat BG.bel hB1 BG.bel.size
  subst hw2
  obtain ⟨y0, y1, fy0, fy1⟩ := hR1.two
  obtain ⟨t0, t1, _, _⟩ := hF1.two
  obtain ⟨hR6, hB6⟩ := put2 hR1 hBw (by omega) c i
  obtain ⟨z0, z1, _, _⟩ := hR6.two
  go_wp2
  go_region
  go_wp2
  exact bodyPost_ret (v := .tuple #[.slice none 0 0, .agg #[.int .i64 c, .int .i64 i]]) (by simp [results, Tryz.results19, go_sem, z0, z1]) rfl ⟨rfl, bdrew hB6⟩
set_option maxRecDepth 100000 in
set_option maxHeartbeats 4000000 in
theorem image_bad (N M : Int) (v y mv : Value) (zs ys ms : List Int) (w : World) (hv : Sl w v zs) (hy : Sl w y ys) (hm : Sl w mv ms) (hc : (hfault N zs M ys ms).1 ≠ 0) :
    Calls Tryz.prog 20 #[.agg #[.int .i64 N, v], .agg #[.int .i64 M, y], mv] w fun x w' => x = .returned (.tuple #[.slice none 0 0, .agg #[.int .i64 (hfault N zs M ys ms).1, .int .i64 (hfault N zs M ys ms).2]]) ∧ Below w.heap.size w w' := by
  obtain ⟨w0, BG⟩ := BegF.new w N M v y
  have HCK := hide (ow_all N M v y mv zs ys ms w0 (hv.below BG.bel) (hy.below BG.bel) (hm.below BG.bel))
  obtain ⟨c, i, hci⟩ : ∃ c i, hfault N zs M ys ms = (c, i) := ⟨_, _, rfl⟩
  rw [hci] at HCK hc ⊢
  simp only at HCK hc ⊢
  clear hci
  have hcb : (c != 0) = true := by simpa using hc
  obtain ⟨e0, e1, _, _⟩ := BG.box.two
  obtain ⟨k0, k1, _, _⟩ := BG.boy.two
  rw [BG.eq] at e0 e1 k0 k1
  go_enter Tryz.func20, Tryz.ntmps20
  go_wp2_with fail
  rw [← BG.eq]
  clear e0 e1 k0 k1
  refine HCK.out.mono ?_
  rintro x w1 ⟨p0, a0, b0, c0, p1, a1, b1, c1, p2, a2, b2, c2, p3, a3, b3, c3, rfl, hb1⟩
  obtain ⟨w2, hw2⟩ : ∃ w2, w2 = (w1.alloc (.cells #[.int .i64 p0, .slice a0 b0 c0, .int .i64 p1, .slice a1 b1 c1, .int .i64 p2, .slice a2 b2 c2, .int .i64 p3, .slice a3 b3 c3] 59)).alloc (.cells #[.int .i64 c, .int .i64 i] 26) := ⟨_, rfl⟩
  have hB1 : Below w0.heap.size w0 w2 := by rw [hw2]; exact bcat2 hb1 ((balloc w1 _).alloc (by simp) _)
  have hF1 : Blk w2 (w1.heap.size + 1) 26 [.int .i64 c, .int .i64 i] := by
    rw [hw2]
    have := blk0 (w := w1.alloc (.cells #[.int .i64 p0, .slice a0 b0 c0, .int .i64 p1, .slice a1 b1 c1, .int .i64 p2, .slice a2 b2 c2, .int .i64 p3, .slice a3 b3 c3] 59)) (T := 26) (.int .i64 c) (.int .i64 i)
    rwa [World.size_alloc] at this
  have hR1 := blk_below BG.res hB1
  have hBw := bcat BG.bel hB1 BG.bel.size
  subst hw2
  obtain ⟨y0, y1, fy0, fy1⟩ := hR1.two
  obtain ⟨t0, t1, _, _⟩ := hF1.two
  obtain ⟨hR6, hB6⟩ := put2 hR1 hBw (by omega) c i
  obtain ⟨z0, z1, _, _⟩ := hR6.two
  go_wp2
  go_region
  go_wp2
  exact bodyPost_ret (v := .tuple #[.slice none 0 0, .agg #[.int .i64 c, .int .i64 i]]) (by simp [results, Tryz.results20, go_sem, z0, z1]) rfl ⟨rfl, bdrew hB6⟩
section
variable {n e m d : Nat} {zs ys : List Int} {φ : Nat → Nat}
theorem ker_sg (g : IsGrp n zs e) (h : IsGrp m ys d) (H : IsHom n zs m ys φ) : Fin.Sg (List.range n) (tm n zs) e (fun a => φ a = d) :=
  ⟨IsHom.one g h H, fun a b ha hb h1 h2 => by rw [H.mul a b (List.mem_range.1 ha) (List.mem_range.1 hb), h1, h2, h.left d h.elt]⟩
end
section
variable {n e m d : Nat} {zs ys : List Int} {φ : Nat → Nat}
theorem hom_iv (g : IsGrp n zs e) (h : IsGrp m ys d) (H : IsHom n zs m ys φ) {a : Nat} (ha : a < n) : tm m ys (φ (iv n zs e a)) (φ a) = d := by
  obtain ⟨h1, _, h3, _⟩ := iv_spec g ha
  rw [← H.mul _ a h1 ha, h3, IsHom.one g h H]
end
section
variable {n e m d : Nat} {zs ys : List Int} {φ : Nat → Nat}
theorem hom_iv' (g : IsGrp n zs e) (h : IsGrp m ys d) (H : IsHom n zs m ys φ) {a : Nat} (ha : a < n) : tm m ys (φ a) (φ (iv n zs e a)) = d := by
  obtain ⟨h1, h2, _, _⟩ := iv_spec g ha
  rw [← H.mul a _ ha h1, h2, IsHom.one g h H]
end
section
variable {n e m d : Nat} {zs ys : List Int} {φ : Nat → Nat}
theorem ker_nm (g : IsGrp n zs e) (h : IsGrp m ys d) (H : IsHom n zs m ys φ) : Fin.Nm (List.range n) (tm n zs) (iv n zs e) (fun a => φ a = d) := fun x a hx ha hk => by
  have hx := List.mem_range.1 hx
  have ha := List.mem_range.1 ha
  obtain ⟨h1, _, _, _⟩ := iv_spec g ha
  show φ (tm n zs (iv n zs e a) (tm n zs x a)) = d
  rw [H.mul _ _ h1 (tm_lt g.tab hx ha), H.mul x a hx ha, hk, h.left _ (H.lt a ha), hom_iv g h H ha]
end
section
variable {n e m d : Nat} {zs ys : List Int} {φ : Nat → Nat}
theorem img_sg (g : IsGrp n zs e) (h : IsGrp m ys d) (H : IsHom n zs m ys φ) : Fin.Sg (List.range m) (tm m ys) d (fun y => y ∈ (List.range n).map φ) :=
  ⟨List.mem_map.2 ⟨e, List.mem_range.2 g.elt, IsHom.one g h H⟩, fun a b _ _ h1 h2 => by
    obtain ⟨x, hx, rfl⟩ := List.mem_map.1 h1
    obtain ⟨y, hy, rfl⟩ := List.mem_map.1 h2
    have hx := List.mem_range.1 hx
    have hy := List.mem_range.1 hy
    exact List.mem_map.2 ⟨tm n zs x y, List.mem_range.2 (tm_lt g.tab hx hy), H.mul x y hx hy⟩⟩
end
section
variable {n e m d : Nat} {zs ys : List Int} {φ : Nat → Nat}
variable {q : Nat → Bool}
theorem ker_cos (g : IsGrp n zs e) (h : IsGrp m ys d) (H : IsHom n zs m ys φ) (hq : ∀ a, a < n → (q a = true ↔ φ a = d)) {a b : Nat} (ha : a < n) (hb : b < n) : rgtq n zs (lst n q) a b = true ↔ φ a = φ b := by
  obtain ⟨h1, h2, h3, _⟩ := iv_spec g ha
  rw [rgt_iff g ha hb, decide_eq_true_eq, mem_lst, hq _ (tm_lt g.tab hb h1), H.mul b _ hb h1]
  constructor
  · rintro ⟨_, hk⟩
    have h9 := h.ass (φ b) (φ (iv n zs e a)) (φ a) (H.lt b hb) (H.lt _ h1) (H.lt a ha)
    rw [hk, hom_iv g h H ha, h.left _ (H.lt a ha), h.right _ (H.lt b hb)] at h9
    exact h9
  · intro hk
    exact ⟨tm_lt g.tab hb h1, by rw [← hk]; exact hom_iv' g h H ha⟩
end
section
variable {n e m d : Nat} {zs ys : List Int} {φ : Nat → Nat}
variable {q : Nat → Bool}
theorem ker_many (g : IsGrp n zs e) (h : IsGrp m ys d) (H : IsHom n zs m ys φ) (hq : ∀ a, a < n → (q a = true ↔ φ a = d)) (P : Prts n (rgtq n zs (lst n q))) : (fsts n (rgtq n zs (lst n q)) n).length = (lst m (fun y => decide (y ∈ (List.range n).map φ))).length := by
  have hmem : ∀ a, a ∈ fsts n (rgtq n zs (lst n q)) n → a < n := fun a ha => by unfold fsts at ha; exact List.mem_range.1 (List.mem_filter.1 ha).1
  refine Fin.bij_len φ ?_ (List.nodup_range.sublist List.filter_sublist) (fun a ha => ?_) (fun a b ha hb hab => ?_) (fun y hy => ?_)
  · unfold fsts; exact List.nodup_range.sublist List.filter_sublist
  · have ha := hmem a ha
    exact mem_lst.2 ⟨H.lt a ha, decide_eq_true (List.mem_map.2 ⟨a, List.mem_range.2 ha, rfl⟩)⟩
  · have hna := hmem a ha
    have hnb := hmem b hb
    have h1 := (prts_num_eq P hna hnb).2 ((ker_cos g h H hq hna hnb).2 hab)
    obtain ⟨i, hi, ei⟩ := List.mem_iff_getElem.1 ha
    obtain ⟨j, hj, ej⟩ := List.mem_iff_getElem.1 hb
    have e1 := prts_num_at P hi
    have e2 := prts_num_at P hj
    rw [ei] at e1
    rw [ej] at e2
    have : i = j := by omega
    subst this
    rw [← ei, ← ej]
  · obtain ⟨hym, hyi⟩ := mem_lst.1 hy
    obtain ⟨a, ha, rfl⟩ := List.mem_map.1 (of_decide_eq_true hyi)
    have ha := List.mem_range.1 ha
    obtain ⟨h1, h2⟩ := prts_num_lt P ha
    have h3 := h2 h1
    refine ⟨_, List.getElem_mem h1, ?_⟩
    exact ((ker_cos g h H hq ha (fst_lt h1)).1 h3).symm
end
theorem hf_grp' {N M : Int} {zs ys ms : List Int} (h : (hfault N zs M ys ms).1 = 0) : ∃ n e m d : Nat, N = n ∧ M = m ∧ IsGrp n zs e ∧ IsGrp m ys d := by
  by_cases h1 : (gfault N zs).1 = 0
  · obtain ⟨n, e, rfl, hg, _⟩ := gfault_grp h1
    by_cases h2 : (gfault M ys).1 = 0
    · obtain ⟨m, d, rfl, hh, _⟩ := gfault_grp h2
      exact ⟨n, e, m, d, rfl, rfl, hg, hh⟩
    · rw [hfault_2 hg h2] at h
      exact absurd h h2
  · rw [hfault_1 h1] at h
    exact absurd h h1
theorem li_slice {W : World} {r1 : Option Addr} {r2 r3 : Nat} {K : List Nat} (h : Sl W (.slice r1 r2 r3) (li K)) : r2 = K.length := by
  obtain ⟨a, cap, pb, po, hv, _⟩ := h
  injection hv with _ h4
  rw [li_len] at h4
  exact h4
end Go.Proofs.YtlhjeenijcokoaaGreatDoor
