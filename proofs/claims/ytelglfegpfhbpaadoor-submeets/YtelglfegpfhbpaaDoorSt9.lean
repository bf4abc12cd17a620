/- What the law SubMeets answers. -/
import Derived.Test.YtelglfegpfhbpaaDoorSt8
import Derived.Test.YtelglfegpfhbpaaDoorSqr
import Derived.Deep.DeepCutAuto
namespace Go.Proofs.YtelglfegpfhbpaaDoor
open Go Go.RowKit

set_option maxRecDepth 100000 in
set_option maxHeartbeats 2000000 in
theorem mts_bad1 (N I K c i : Int) (v : Value) (zs : List Int) (w : World) (hv : Sl w v zs) (hT : Tab w) (HF : Hid (∀ W, Below w.heap.size w W → Calls Tryd.prog 15 #[.agg #[.int .i64 N, v]] W fun x W' => x = .returned (.tuple #[.slice none 0 0, .agg #[.int .i64 c, .int .i64 i]]) ∧ Below W.heap.size W W')) (hc : c ≠ 0) :
    Calls Tryd.prog 4 #[.agg #[.int .i64 N, v], .int .i64 I, .int .i64 K] w fun x w' => x = .returned (.bool true) ∧ Below w.heap.size w w' := by
  obtain ⟨v1, v2, v3, rfl⟩ := hv.isSlice
  have hcb : (c != 0) = true := by simpa using hc
  have hB0 : Below w.heap.size w (((w.alloc (.cells #[.int .i64 N, .slice v1 v2 v3] 24)).alloc (.cells #[.int .i64 I] 3)).alloc (.cells #[.int .i64 K] 3)) := ((balloc w _).alloc (by simp) _).alloc (by simp; omega) _
  have hX0 : BoxG (((w.alloc (.cells #[.int .i64 N, .slice v1 v2 v3] 24)).alloc (.cells #[.int .i64 I] 3)).alloc (.cells #[.int .i64 K] 3)) w.heap.size N (.slice v1 v2 v3) := ((blk0 _ _).alloc _).alloc _
  have hI0 := (Boxed.new (w.alloc (.cells #[.int .i64 N, .slice v1 v2 v3] 24)) 3 (.int .i64 I)).alloc (.cells #[.int .i64 K] 3)
  have hK0 := Boxed.new ((w.alloc (.cells #[.int .i64 N, .slice v1 v2 v3] 24)).alloc (.cells #[.int .i64 I] 3)) 3 (.int .i64 K)
  rw [World.size_alloc] at hI0
  rw [World.size_alloc, World.size_alloc] at hK0
  obtain ⟨w0, hw0⟩ : ∃ w0, w0 = ((w.alloc (.cells #[.int .i64 N, .slice v1 v2 v3] 24)).alloc (.cells #[.int .i64 I] 3)).alloc (.cells #[.int .i64 K] 3) := ⟨_, rfl⟩
  rw [← hw0] at hB0 hX0 hI0 hK0
  have HST := hide (subBegun_any w0 (hT.below hB0))
  go_enter Tryd.func4, Tryd.ntmps4
  go_wp2_with fail
  rw [← hw0]
  clear hw0
  refine HST.out.mono ?_
  rintro x w1 ⟨rfl, hb1⟩
  clear HST
  have hB1 := bcat2 hB0 hb1
  have hX1 := blk_below hX0 hb1
  have hI1 := Boxed.below hI0 hb1
  have hK1 := Boxed.below hK0 hb1
  have hw1 : w.heap.size + 2 < w1.heap.size := hK1.lt
  clear hb1 hX0 hI0 hK0 hB0
  obtain ⟨c0, c1, _, _⟩ := hX1.two
  go_wp2_with fail
  clear c0 c1
  refine (HF.out w1 hB1).mono ?_
  rintro x w2 ⟨rfl, hb2⟩
  have hF3 : Blk ((w2.alloc (.cells #[.slice none 0 0] 25)).alloc (.cells #[.int .i64 c, .int .i64 i] 27)) (w2.heap.size + 1) 27 [.int .i64 c, .int .i64 i] := by
    have h := blk0 (w := w2.alloc (.cells #[.slice none 0 0] 25)) (T := 27) (.int .i64 c) (.int .i64 i)
    rw [World.size_alloc] at h
    exact h
  have hb3 := bcat2 hb2 ((balloc w2 (.cells #[.slice none 0 0] 25)).alloc (by simp) (.cells #[.int .i64 c, .int .i64 i] 27))
  have hB3 := bcat2 hB1 hb3
  obtain ⟨t0, t1, _, _⟩ := hF3.two
  go_wp2
  go_ret
  exact ⟨rfl, hB3⟩
def MRel (w3 : World) (fb : Nat) (mz : List Int) (s9 : Value) (W : World) : Prop := ∃ a l k, s9 = .slice a l k ∧ Sl W (.slice a l k) mz ∧ Qh fb w3 W
set_option maxRecDepth 100000 in
set_option maxHeartbeats 8000000 in
theorem mts_good (n e : Nat) (I K : Int) (v : Value) (zs : List Int) (w : World) (hv : Sl w v zs) (hg : IsGrp n zs e) (h24 : n ≤ 24) (hT : Tab w) :
    Calls Tryd.prog 4 #[.agg #[.int .i64 n, v], .int .i64 I, .int .i64 K] w fun x w' => x = .returned (.bool true) ∧ Below w.heap.size w w' := by
  obtain ⟨v1, v2, v3, rfl⟩ := hv.isSlice
  have hn := hg.tab.le
  have at0 : ∀ W : World, Below w.heap.size w W → 0 < W.heap.size := fun W h => Nat.lt_of_lt_of_le hT.lt h.size
  have HF := hide (fun W (h : Below w.heap.size w W) => all_good n e (.slice v1 v2 v3) zs W (hv.below h) hg (hT.below h) h24)
  have hB0 : Below w.heap.size w (((w.alloc (.cells #[.int .i64 n, .slice v1 v2 v3] 24)).alloc (.cells #[.int .i64 I] 3)).alloc (.cells #[.int .i64 K] 3)) := ((balloc w _).alloc (by simp) _).alloc (by simp; omega) _
  have hX0 : BoxG (((w.alloc (.cells #[.int .i64 n, .slice v1 v2 v3] 24)).alloc (.cells #[.int .i64 I] 3)).alloc (.cells #[.int .i64 K] 3)) w.heap.size n (.slice v1 v2 v3) := ((blk0 _ _).alloc _).alloc _
  have hI0 := (Boxed.new (w.alloc (.cells #[.int .i64 n, .slice v1 v2 v3] 24)) 3 (.int .i64 I)).alloc (.cells #[.int .i64 K] 3)
  have hK0 := Boxed.new ((w.alloc (.cells #[.int .i64 n, .slice v1 v2 v3] 24)).alloc (.cells #[.int .i64 I] 3)) 3 (.int .i64 K)
  rw [World.size_alloc] at hI0
  rw [World.size_alloc, World.size_alloc] at hK0
  obtain ⟨w0, hw0⟩ : ∃ w0, w0 = ((w.alloc (.cells #[.int .i64 n, .slice v1 v2 v3] 24)).alloc (.cells #[.int .i64 I] 3)).alloc (.cells #[.int .i64 K] 3) := ⟨_, rfl⟩
  rw [← hw0] at hB0 hX0 hI0 hK0
  have HST := hide (subBegun_any w0 (hT.below hB0))
  go_enter Tryd.func4, Tryd.ntmps4
  go_wp2_with fail
  rw [← hw0]
  clear hw0
  refine HST.out.mono ?_
  rintro x w1 ⟨rfl, hb1⟩
  clear HST
  have hB1 := bcat2 hB0 hb1
  have hX1 := blk_below hX0 hb1
  have hI1 := Boxed.below hI0 hb1
  have hK1 := Boxed.below hK0 hb1
  have hw1 : w.heap.size + 2 < w1.heap.size := hK1.lt
  clear hb1 hX0 hI0 hK0 hB0
  obtain ⟨c0, c1, _, _⟩ := hX1.two
  go_wp2_with fail
  clear c0 c1
  refine (HF.out w1 hB1).mono ?_
  rintro x w2 ⟨r1, r2, r3, P, ms, rfl, hI, hpm, _, hrk, hb2⟩
  clear HF
  have hsl2 := hrk w2 (fun _ _ _ => rfl) (Nat.le_refl _)
  obtain ⟨_, _, _, _, hr9, _, _, _, hm1, hm2⟩ := hsl2
  injection hr9 with hra hrb hrc
  subst hra hrb hrc
  have hml : ms.length ≤ 9223372036854775807 := by unfold maxLen at hm2; omega
  clear hm1 hm2
  have hF : Blk ((w2.alloc (.cells #[.slice r1 ms.length r3] 25)).alloc (.cells #[.int .i64 0, .int .i64 0] 27)) (w2.heap.size + 1) 27 [.int .i64 0, .int .i64 0] := by
    have h := blk0 (w := w2.alloc (.cells #[.slice r1 ms.length r3] 25)) (T := 27) (.int .i64 0) (.int .i64 0)
    rw [World.size_alloc] at h
    exact h
  have hA : Boxed ((w2.alloc (.cells #[.slice r1 ms.length r3] 25)).alloc (.cells #[.int .i64 0, .int .i64 0] 27)) w2.heap.size 25 (.slice r1 ms.length r3) := (Boxed.new w2 25 (.slice r1 ms.length r3)).alloc _
  have hb23 := (balloc w2 (.cells #[.slice r1 ms.length r3] 25)).alloc (by simp) (.cells #[.int .i64 0, .int .i64 0] 27)
  have hb3 := bcat2 hb2 hb23
  have hw12 := hb2.size
  have hX3 := blk_below hX1 hb3
  have hI3 := Boxed.below hI1 hb3
  have hK3 := Boxed.below hK1 hb3
  have hB3 := bcat2 hB1 hb3
  have hz3 : ((w2.alloc (.cells #[.slice r1 ms.length r3] 25)).alloc (.cells #[.int .i64 0, .int .i64 0] 27)).heap.size = w2.heap.size + 2 := by simp
  have hrk3 : ∀ W' : World, (∀ g, g < w2.heap.size → W'.heap[g]? = w2.heap[g]?) → w2.heap.size ≤ W'.heap.size → SlL W' (.slice r1 ms.length r3) ms := fun W' h1 h2 => hrk W' (fun g _ h => h1 g h) h2
  have HRK := hide hrk3
  clear hrk hrk3
  obtain ⟨w3, hw3⟩ : ∃ w3, w3 = (w2.alloc (.cells #[.slice r1 ms.length r3] 25)).alloc (.cells #[.int .i64 0, .int .i64 0] 27) := ⟨_, rfl⟩
  obtain ⟨t0, t1, _, _⟩ := hF.two
  obtain ⟨c0, c1, _, _⟩ := hX3.two
  have ci := hI3.cell
  have ck := hK3.cell
  have cl := hA.cell
  by_cases hi0 : I < 0
  · clear HRK
    go_wp2
    go_ret
    exact ⟨rfl, hB3⟩
  by_cases hi1 : I ≥ (ms.length : Int)
  · have hi1' : (ms.length : Int) ≤ I := hi1
    go_wp2
    go_ret
    exact ⟨rfl, hB3⟩
  by_cases hk0 : K < 0
  · clear HRK
    go_wp2
    go_ret
    exact ⟨rfl, hB3⟩
  by_cases hk1 : K ≥ (ms.length : Int)
  · have hk1' : (ms.length : Int) ≤ K := hk1
    go_wp2
    go_ret
    exact ⟨rfl, hB3⟩
  obtain ⟨i, rfl⟩ : ∃ i : Nat, I = i := ⟨I.toNat, by omega⟩
  obtain ⟨k, rfl⟩ : ∃ k : Nat, K = k := ⟨K.toNat, by omega⟩
  have hii : i < ms.length := by omega
  have hkk : k < ms.length := by omega
  obtain ⟨xs, hxs⟩ : ∃ xs, ms[i]? = some xs := ⟨_, List.getElem?_eq_getElem hii⟩
  obtain ⟨ys, hys⟩ : ∃ ys, ms[k]? = some ys := ⟨_, List.getElem?_eq_getElem hkk⟩
  obtain ⟨kk, hkP, hI⟩ := hI
  obtain ⟨p1, hp1, hx1⟩ := of_all hI hpm (List.mem_of_getElem? hxs)
  obtain ⟨p2, hp2, hy1⟩ := of_all hI hpm (List.mem_of_getElem? hys)
  obtain ⟨qt, hqt⟩ : ∃ qt : Nat → Bool, (fun x : Nat => decide ((x : Int) ∈ xs) || decide ((x : Int) ∈ ys)) = qt := ⟨_, rfl⟩
  obtain ⟨pr, hpr⟩ := mkd_test n zs e (pset (li (lst n qt)))
  have hmm : li (lst n pr) ∈ ms := mem_all hg hkP hI hpm (subT_iff.2 (made_sg hg hpr))
  have hbb : (xs.filter fun a => decide (a ∈ ys)) ∈ ms := by
    rw [hx1, hy1, both_lst]
    exact mem_all hg hkP hI hpm (both_sub hp1 hp2)
  have hx60 : xs.length ≤ 60 := by
    rw [hx1, show (li (lst n p1)).length = (lst n p1).length by simp [li]]
    exact Nat.le_trans (lst_len _ _) hn
  clear hx1 hy1 hp1 hp2 hI hkP hpm
  rw [← hw3] at hF hA hb23 hX3 hI3 hK3 hB3 hz3
  go_wp2_with fail
  rw [← hw3]
  clear t0 t1 c0 c1 ci ck cl hi0 hi1 hk0 hk1 hw3
  have hw26 : ∀ W, Below (w2.heap.size + 1) w3 W → Below w.heap.size w W := fun W h => hB3.trans (h.mono (by omega))
  have hrk3 : ∀ W, Below (w2.heap.size + 1) w3 W → SlL W (.slice r1 ms.length r3) ms := fun W h => HRK.out W (fun g hg => (h.block g (by omega)).trans (hb23.block g hg)) (by have := h.size; omega)
  have HMB := hide (fun W x (h : Below (w2.heap.size + 1) w3 W) (hx : Sl W x (li (lst n qt))) => ans' (at0 W (hw26 W h)) (mde_good n e (.slice v1 v2 v3) x zs (li (lst n qt)) pr W (hv.below (hw26 W h)) hg hx (hT.below (hw26 W h)) (lst_fault n qt) hpr))
  have HTH := hide (fun W (h : Below (w2.heap.size + 1) w3 W) => rthose_ok n 29 (.slice v1 v2 v3) #[.pointer (some ⟨w2.heap.size, 0, none⟩), .pointer (some ⟨w.heap.size + 1, 0, none⟩), .pointer (some ⟨w.heap.size + 1 + 1, 0, none⟩)] qt W hn (fun a W => ent29 a _ _ _ W) (fun W' x hW hx => by
    rw [← hqt]
    exact mts1_ok x w2.heap.size (w.heap.size + 1) (w.heap.size + 1 + 1) (.slice r1 ms.length r3) ms i k W' (Boxed.below ((h.block _ (by omega)).trans hA) hW) (Boxed.below ((h.block _ (by omega)).trans hI3) hW) (Boxed.below ((h.block _ (by omega)).trans hK3) hW) ((hrk3 W h).below hW) hii hkk xs ys hxs hys))
  have HMM := hide hmm
  clear hmm hpr
  generalize li (lst n pr) = mz at *
  have hw3' : w2.heap.size + 1 ≤ w3.heap.size := by omega
  have HXS := hide hxs
  have HYS := hide hys
  have HBB := hide hbb
  clear hxs hys hbb
  go_cut [9] (fun s9 wy => MRel w3 (w2.heap.size + 1) mz s9 wy)
  case first =>
    obtain ⟨c0, c1, _, _⟩ := hX3.two
    have hS : ∀ W, Qh (w2.heap.size + 1) w3 W → (Qh (w2.heap.size + 1) w3 W ∧ W.cell? ⟨w.heap.size, 0, none⟩ = some (.int .i64 n) ∧ W.cell? ⟨w.heap.size, 1, none⟩ = some (.slice v1 v2 v3)) := fun W h => ⟨h, below_cell' h.1 (by show w.heap.size < _; omega) c0, below_cell' h.1 (by show w.heap.size < _; omega) c1⟩
    have hS0 := hS _ (Qh.drew ⟨Below.refl _ w3, hF⟩)
    have h06 : 0 < w3.heap.size := at0 _ hB3
    obtain ⟨y0, y1, fy0, fy1⟩ := hF.two
    go_region_held3 (fun W => Qh (w2.heap.size + 1) w3 W ∧ W.cell? ⟨w.heap.size, 0, none⟩ = some (.int .i64 n) ∧ W.cell? ⟨w.heap.size, 1, none⟩ = some (.slice v1 v2 v3))
      (first | exact hS0 | assumption | exact hS _ (Qh.more (And.left ‹_›) hw3' hl1) | exact hS _ (Qh.alloc (And.left ‹_›) hw3') | (refine hS _ ?_; repeat (first | exact hU2 | (refine Qh.alloc ?_ hw3') | (refine Qh.s0 ?_) | (refine Qh.s1 ?_))))
      (first
        | (go_at_call 24; refine (HTH.out _ (And.left (And.left ‹_›))).mono ?_; rintro e1 U1 ⟨m9, rfl, hm9, hl1⟩; obtain ⟨n1, n3, rfl⟩ := row_len hm9; have hlA := hl1; have hU1 := Qh.more (And.left ‹_›) hw3' hl1; have hzA := hlA.size; have hz1 := hU1.1.size; have hp1 := cell_eq hl1; have hq1 := frozen_eq hl1; have hmS := row_sl hm9 (by omega))
        | (go_at_call 28; refine (HMB.out _ _ (And.left (And.left ‹_›)) (by first | exact hmS | exact hmS.alloc _)).mono ?_; rintro e2 U2 ⟨b1, b2, b3, rfl, hbr, hl1⟩; have hlB := hl1; have hU2 := Qh.more (And.left ‹_›) hw3' hl1; have hz2 := hU2.1.size; have hp2 := cell_eq hl1; have hq2 := frozen_eq hl1))
    all_goals (go_wp2; go_meet)
    all_goals (first
      | exact ⟨_, _, _, rfl, (hbr.set (by omega)).sl2 (by omega), hU2.s0.s1⟩)
  case rest =>
    obtain ⟨b1, b2, b3, rfl, hmz, hQ⟩ := hcut
    have hSL := hrk3 wc hQ.1
    obtain ⟨ra9, rc9, pb, po, hre, y1, y2, _, _, _⟩ := hSL
    injection hre with hre1 hre2 hre3
    subst hre1 hre3
    have h0c : 0 < wc.heap.size := at0 _ (hw26 wc hQ.1)
    have hBc := hw26 wc hQ.1
    have hAc := (hQ.1.block _ (by omega)).trans hA
    have hIc := (hQ.1.block _ (by omega)).trans hI3
    have hKc := (hQ.1.block _ (by omega)).trans hK3
    have hAc : Boxed wc w2.heap.size 25 (.slice r1 ms.length r3) := hAc
    have hIc : Boxed wc (w.heap.size + 1) 3 (.int .i64 i) := hIc
    have hKc : Boxed wc (w.heap.size + 1 + 1) 3 (.int .i64 k) := hKc
    obtain ⟨t0, t1, _, _⟩ := hQ.2.two
    obtain rfl := y1 (by omega)
    obtain ⟨u, cu, hsu⟩ := y2 i hii
    obtain ⟨z, cv, hsv⟩ := y2 k hkk
    rw [HXS.out, Option.getD_some] at hsu
    rw [HYS.out, Option.getD_some] at hsv
    obtain ⟨u1, u2, u3, rfl⟩ := hsu.isSlice
    obtain ⟨z1, z2, z3, rfl⟩ := hsv.isSlice
    have HY2 := hide y2
    have HE := hide (show (ms.any fun l => decide (l = mz)) = true from List.any_eq_true.2 ⟨mz, HMM.out, by simp⟩)
    have HEB := hide (show (ms.any fun l => decide (l = xs.filter fun a => decide (a ∈ ys))) = true from List.any_eq_true.2 ⟨_, HBB.out, by simp⟩)
    have hiI : (i : Int) < (ms.length : Int) := by omega
    have hkI : (k : Int) < (ms.length : Int) := by omega
    clear y1 y2 HMB HTH hF hrk3 hw26 HXS HYS HRK HMM HBB
    have hcl := hAc.cell
    have hci := hIc.cell
    have hck := hKc.cell
    go_wp2
    clear t0 t1
    go_loopw [10, 11, 12] (fun a b j wr => ∃ t : Nat, t ≤ ms.length ∧ j = .int .i64 t ∧ a = .bool ((ms.take t).any fun l => decide (l = mz)) ∧ b = .bool ((ms.take t).any fun l => decide (l = xs.filter fun a => decide (a ∈ ys))) ∧ Below wc.heap.size wc wr) (fun _ _ j _ => ms.length - (intOf j).toNat)
    case atStart => exact ⟨0, Nat.zero_le _, rfl, by simp, by simp, Below.refl _ _⟩
    case round =>
      obtain ⟨t, ht, rfl, rfl, rfl, hBr⟩ := hrel
      have cl := below_cell hBr hcl
      by_cases hlt : t < ms.length
      · have hti : (t : Int) < (ms.length : Int) := by omega
        obtain ⟨x, cj, hxj⟩ := HY2.out t hlt
        have cj := below_cell hBr cj
        have hxj := hxj.below hBr
        rw [List.getElem?_eq_getElem hlt, Option.getD_some] at hxj
        obtain ⟨x1, x2, x3, rfl⟩ := hxj.isSlice
        have ci := below_cell hBr hci
        have ck := below_cell hBr hck
        have cu9 := below_cell hBr cu
        have cv9 := below_cell hBr cv
        have HTA := hide (show ((ms.take (t + 1)).any fun l => decide (l = mz)) = (((ms.take t).any fun l => decide (l = mz)) || decide (ms[t] = mz)) by
          rw [List.take_succ_eq_append_getElem hlt, List.any_append]; simp)
        have HTB := hide (show ((ms.take (t + 1)).any fun l => decide (l = xs.filter fun a => decide (a ∈ ys))) = (((ms.take t).any fun l => decide (l = xs.filter fun a => decide (a ∈ ys))) || decide (ms[t] = xs.filter fun a => decide (a ∈ ys))) by
          rw [List.take_succ_eq_append_getElem hlt, List.any_append]; simp)
        generalize ms[t] = xj at *
        cases hA9 : (ms.take t).any fun l => decide (l = mz) with
        | false =>
          go_wp2_with fail
          refine (ints_any (.slice x1 x2 x3) (.slice b1 b2 b3) xj mz wr hxj (hmz.below hBr)).mono ?_
          rintro x w7 ⟨rfl, hb7⟩
          have hB7 := bcat2 hBr hb7
          have hxj7 := hxj.below hb7
          have su7 := (hsu.below hBr).below hb7
          have sv7 := (hsv.below hBr).below hb7
          have cl := below_cell hb7 cl
          have cj := below_cell hb7 cj
          have ci := below_cell hb7 ci
          have ck := below_cell hb7 ck
          have cu := below_cell hb7 cu9
          have cv := below_cell hb7 cv9
          cases hB9 : (ms.take t).any fun l => decide (l = xs.filter fun a => decide (a ∈ ys)) with
          | false =>
            have h07 : 0 < w7.heap.size := Nat.lt_of_lt_of_le h0c hB7.size
            have HBO := hide (fun W (h : Below w7.heap.size w7 W) => both_ok (.slice u1 u2 u3) (.slice z1 z2 z3) xs ys W (su7.below h) (sv7.below h) hx60)
            have HTB9 := hide (show (false || decide (xj = xs.filter fun a => decide (a ∈ ys))) = decide (xj = xs.filter fun a => decide (a ∈ ys)) from rfl)
            rw [hB9] at HTB
            generalize hbz : (xs.filter fun a => decide (a ∈ ys)) = bz at *
            have HBZ := hide hbz
            clear hbz
            have HIN := hide (fun W x (h : Below w7.heap.size w7 W) (hx : Sl W x bz) => ints_any (.slice x1 x2 x3) x xj bz W (hxj7.below h) hx)
            have hS : ∀ W, Below w7.heap.size w7 W → (Below w7.heap.size w7 W ∧ W.cell? ⟨w2.heap.size, 0, none⟩ = some (.slice (some ⟨pb, po, none⟩) ms.length r3) ∧ W.cell? ⟨w.heap.size + 1, 0, none⟩ = some (.int .i64 i) ∧ W.cell? ⟨w.heap.size + 1 + 1, 0, none⟩ = some (.int .i64 k) ∧ W.cell? ⟨pb, po + t, none⟩ = some (.slice x1 x2 x3) ∧ W.cell? ⟨pb, po + i, none⟩ = some (.slice u1 u2 u3) ∧ W.cell? ⟨pb, po + k, none⟩ = some (.slice z1 z2 z3)) := fun W h => ⟨h, below_cell h cl, below_cell h ci, below_cell h ck, below_cell h cj, below_cell h cu, below_cell h cv⟩
            have hS0 := hS _ (bdrew (Below.refl _ w7))
            go_wp2_with fail
            go_region_held3 (fun W => Below w7.heap.size w7 W ∧ W.cell? ⟨w2.heap.size, 0, none⟩ = some (.slice (some ⟨pb, po, none⟩) ms.length r3) ∧ W.cell? ⟨w.heap.size + 1, 0, none⟩ = some (.int .i64 i) ∧ W.cell? ⟨w.heap.size + 1 + 1, 0, none⟩ = some (.int .i64 k) ∧ W.cell? ⟨pb, po + t, none⟩ = some (.slice x1 x2 x3) ∧ W.cell? ⟨pb, po + i, none⟩ = some (.slice u1 u2 u3) ∧ W.cell? ⟨pb, po + k, none⟩ = some (.slice z1 z2 z3))
              (first | exact hS0 | assumption | exact hS _ (bcat2 (And.left ‹_›) hl1))
              (first
                | (go_at_call 31; refine (HBO.out _ (And.left ‹_›)).mono ?_; rintro e1 U1 ⟨m9, rfl, hm9, hl1⟩; obtain ⟨n1, n3, rfl⟩ := row_len hm9; have hU1 := bcat2 (And.left ‹_›) hl1; have hz1 := hU1.size; have hmS := row_sl hm9 (by omega))
                | (go_at_call 23; refine (HIN.out _ _ (And.left ‹_›) hmS).mono ?_; rintro e2 U2 ⟨rfl, hl1⟩; have hU2 := bcat2 (And.left ‹_›) hl1))
            all_goals (
              go_wp2
              go_roundw
              case rel => exact ⟨t + 1, by omega, by go_num, by rw [HTA.out, hA9]; rfl, (by first | (rw [HTB.out]; rfl) | (rw [HBZ.out, HTB.out]; rfl)), (by first | exact bcat2 hB7 hU2 | exact bdrew (bcat2 hB7 hU2))⟩
              case measure => simp [intOf]; omega)
          | true =>
            go_wp2_with fail
            go_region
            all_goals (
              go_wp2
              go_roundw
              case rel => exact ⟨t + 1, by omega, by go_num, by rw [HTA.out, hA9]; rfl, by rw [HTB.out, hB9]; rfl, (by first | exact hB7 | exact bdrew hB7)⟩
              case measure => simp [intOf]; omega)
        | true =>
          have w7eq : ∃ w7 : World, w7 = wr := ⟨_, rfl⟩
          obtain ⟨w7, hw7⟩ := w7eq
          have hb7 : Below wr.heap.size wr w7 := by rw [hw7]; exact Below.refl _ _
          have hB7 := bcat2 hBr hb7
          have hxj7 := hxj.below hb7
          have su7 := (hsu.below hBr).below hb7
          have sv7 := (hsv.below hBr).below hb7
          have cl := below_cell hb7 cl
          have cj := below_cell hb7 cj
          have ci := below_cell hb7 ci
          have ck := below_cell hb7 ck
          have cu := below_cell hb7 cu9
          have cv := below_cell hb7 cv9
          rw [← hw7]
          clear hw7
          cases hB9 : (ms.take t).any fun l => decide (l = xs.filter fun a => decide (a ∈ ys)) with
          | false =>
            have h07 : 0 < w7.heap.size := Nat.lt_of_lt_of_le h0c hB7.size
            have HBO := hide (fun W (h : Below w7.heap.size w7 W) => both_ok (.slice u1 u2 u3) (.slice z1 z2 z3) xs ys W (su7.below h) (sv7.below h) hx60)
            have HTB9 := hide (show (false || decide (xj = xs.filter fun a => decide (a ∈ ys))) = decide (xj = xs.filter fun a => decide (a ∈ ys)) from rfl)
            rw [hB9] at HTB
            generalize hbz : (xs.filter fun a => decide (a ∈ ys)) = bz at *
            have HBZ := hide hbz
            clear hbz
            have HIN := hide (fun W x (h : Below w7.heap.size w7 W) (hx : Sl W x bz) => ints_any (.slice x1 x2 x3) x xj bz W (hxj7.below h) hx)
            have hS : ∀ W, Below w7.heap.size w7 W → (Below w7.heap.size w7 W ∧ W.cell? ⟨w2.heap.size, 0, none⟩ = some (.slice (some ⟨pb, po, none⟩) ms.length r3) ∧ W.cell? ⟨w.heap.size + 1, 0, none⟩ = some (.int .i64 i) ∧ W.cell? ⟨w.heap.size + 1 + 1, 0, none⟩ = some (.int .i64 k) ∧ W.cell? ⟨pb, po + t, none⟩ = some (.slice x1 x2 x3) ∧ W.cell? ⟨pb, po + i, none⟩ = some (.slice u1 u2 u3) ∧ W.cell? ⟨pb, po + k, none⟩ = some (.slice z1 z2 z3)) := fun W h => ⟨h, below_cell h cl, below_cell h ci, below_cell h ck, below_cell h cj, below_cell h cu, below_cell h cv⟩
            have hS0 := hS _ (bdrew (Below.refl _ w7))
            go_wp2_with fail
            go_region_held3 (fun W => Below w7.heap.size w7 W ∧ W.cell? ⟨w2.heap.size, 0, none⟩ = some (.slice (some ⟨pb, po, none⟩) ms.length r3) ∧ W.cell? ⟨w.heap.size + 1, 0, none⟩ = some (.int .i64 i) ∧ W.cell? ⟨w.heap.size + 1 + 1, 0, none⟩ = some (.int .i64 k) ∧ W.cell? ⟨pb, po + t, none⟩ = some (.slice x1 x2 x3) ∧ W.cell? ⟨pb, po + i, none⟩ = some (.slice u1 u2 u3) ∧ W.cell? ⟨pb, po + k, none⟩ = some (.slice z1 z2 z3))
              (first | exact hS0 | assumption | exact hS _ (bcat2 (And.left ‹_›) hl1))
              (first
                | (go_at_call 31; refine (HBO.out _ (And.left ‹_›)).mono ?_; rintro e1 U1 ⟨m9, rfl, hm9, hl1⟩; obtain ⟨n1, n3, rfl⟩ := row_len hm9; have hU1 := bcat2 (And.left ‹_›) hl1; have hz1 := hU1.size; have hmS := row_sl hm9 (by omega))
                | (go_at_call 23; refine (HIN.out _ _ (And.left ‹_›) hmS).mono ?_; rintro e2 U2 ⟨rfl, hl1⟩; have hU2 := bcat2 (And.left ‹_›) hl1))
            all_goals (
              go_wp2
              go_roundw
              case rel => exact ⟨t + 1, by omega, by go_num, by rw [HTA.out, hA9]; rfl, (by first | (rw [HTB.out]; rfl) | (rw [HBZ.out, HTB.out]; rfl)), (by first | exact bcat2 hB7 hU2 | exact bdrew (bcat2 hB7 hU2))⟩
              case measure => simp [intOf]; omega)
          | true =>
            go_wp2_with fail
            go_region
            all_goals (
              go_wp2
              go_roundw
              case rel => exact ⟨t + 1, by omega, by go_num, by rw [HTA.out, hA9]; rfl, by rw [HTB.out, hB9]; rfl, (by first | exact hB7 | exact bdrew hB7)⟩
              case measure => simp [intOf]; omega)
      · have hti : ¬ (t : Int) < (ms.length : Int) := by omega
        have htt : ms.take t = ms := List.take_of_length_le (by omega)
        rw [htt, HE.out, HEB.out]
        clear htt
        go_wp2
        go_ret
        exact ⟨rfl, bcat2 hBc hBr⟩
end Go.Proofs.YtelglfegpfhbpaaDoor
