/- What the law SubNeedless answers where nothing is wrong. -/
import Derived.Test.YtelglfegpfhbpaaDoorSg12
namespace Go.Proofs.YtelglfegpfhbpaaDoor
open Go Go.RowKit

theorem ansL {f : Nat} {args : Array Value} {w : World} {zs : List Int} (h : Calls Tryd.prog f args w fun x w' => ∃ r, x = .returned (.tuple #[r, .agg #[.int .i64 0, .int .i64 0]]) ∧ SlF w.heap.size w' r zs ∧ Below w.heap.size w w') :
    Calls Tryd.prog f args w fun x w' => ∃ r1 r3, x = .returned (.tuple #[.slice r1 zs.length r3, .agg #[.int .i64 0, .int .i64 0]]) ∧ Below w.heap.size w w' := by
  refine h.mono ?_
  rintro x w' ⟨r, rfl, hr, hb⟩
  obtain ⟨xa, xcap, xpb, xpo, rfl, _⟩ := hr.sl
  exact ⟨_, _, rfl, hb⟩
theorem bx {B : Nat} {a b c : World} (h : Below B a b) (hB : B ≤ a.heap.size) (k : Below b.heap.size b c) : Below B a c := h.trans (k.mono (Nat.le_trans hB h.size))
theorem bxA {B : Nat} {a W : World} {o : Obj} (h : Below B a W) (hB : B ≤ a.heap.size) : Below B a (W.alloc o) := h.alloc (Nat.le_trans hB h.size) o
theorem bxS {B : Nat} {a W : World} {b o : Nat} {x : Value} (h : Below B a W) (hb : B ≤ b) : Below B a (W.setCell ⟨b, o, none⟩ x) := h.setCell (p := ⟨b, o, none⟩) (by simpa using hb) x
theorem below_cell' {B : Nat} {a b : World} (h : Below B a b) {p : Addr} (hp : p.block < B) {v : Value} (hc : a.cell? p = some v) : b.cell? p = some v := by
  rw [← hc]; simp [World.cell?, h.block _ hp]
/-- A world that is as it was but in one box and behind it, and in the box no fault lies. -/
def Qh (B : Nat) (a W : World) : Prop := Below B a W ∧ Blk W B 27 [.int .i64 0, .int .i64 0]
theorem Qh.more {B : Nat} {a W U : World} (h : Qh B a W) (hB : B ≤ a.heap.size) (k : Below W.heap.size W U) : Qh B a U := ⟨bx h.1 hB k, blk_below h.2 k⟩
theorem Qh.alloc {B : Nat} {a W : World} {o : Obj} (h : Qh B a W) (hB : B ≤ a.heap.size) : Qh B a (W.alloc o) := h.more hB (balloc _ _)
theorem Qh.s0 {B : Nat} {a W : World} (h : Qh B a W) : Qh B a (W.setCell ⟨B, 0, none⟩ (.int .i64 0)) := ⟨bxS h.1 (Nat.le_refl _), h.2.set 0 _⟩
theorem Qh.s1 {B : Nat} {a W : World} (h : Qh B a W) : Qh B a (W.setCell ⟨B, 1, none⟩ (.int .i64 0)) := ⟨bxS h.1 (Nat.le_refl _), h.2.set 1 _⟩
theorem Qh.drew {B : Nat} {a W : World} (h : Qh B a W) : Qh B a W.drew := ⟨bdrew h.1, h.2⟩
def NRel (w1 : World) (fb n : Nat) (s6 : Value) (W : World) : Prop := ∃ a k, s6 = .slice a n k ∧ Blk W fb 27 [.int .i64 0, .int .i64 0] ∧ Below w1.heap.size w1 W
set_option maxRecDepth 100000 in
set_option maxHeartbeats 8000000 in
theorem ndl_good (n e : Nat) (v m : Value) (zs l : List Int) (w : World) (hv : Sl w v zs) (hg : IsGrp n zs e) (h24 : n ≤ 24) (hm : Sl w m l) (hT : Tab w) (hl : lfault n l = (0, 0)) :
    Calls Tryd.prog 5 #[.agg #[.int .i64 n, v], m] w fun x w' => x = .returned (.bool true) ∧ Below w.heap.size w w' := by
  obtain ⟨v1, v2, v3, rfl⟩ := hv.isSlice
  obtain ⟨m1, m2, m3, rfl⟩ := hm.isSlice
  have hn := hg.tab.le
  have at0 : ∀ W : World, Below w.heap.size w W → 0 < W.heap.size := fun W h => Nat.lt_of_lt_of_le hT.lt h.size
  have HF := hide (fun W (h : Below w.heap.size w W) => show Calls Tryd.prog 17 #[.agg #[.int .i64 n, .slice v1 v2 v3]] W fun x w' => ∃ (P : List (Nat → Bool)) (r1 : Option Addr) (r2 r3 : Nat), x = .returned (.tuple #[.slice r1 r2 r3, .agg #[.int .i64 0, .int .i64 0]]) ∧ (∃ k, P.length ≤ k ∧ SInv n zs e P k 0) ∧ SlF W.heap.size w' (.slice r1 r2 r3) (li (lst n (fun x => (grtA n P).all fun s => s.testBit x))) ∧ Below W.heap.size W w' by
    refine (frat_good n e (.slice v1 v2 v3) zs W (hv.below h) hg (hT.below h) h24).mono ?_
    rintro x w' ⟨r, P, rfl, hI, hr, hb⟩
    obtain ⟨a, b, c, rfl⟩ := hr.sl.isSlice
    exact ⟨P, a, b, c, rfl, hI, hr, hb⟩)
  obtain ⟨p, hp⟩ := mkd_test n zs e (pset l)
  have HM := hide (fun W (h : Below w.heap.size w W) => ansL (mde_good n e (.slice v1 v2 v3) (.slice m1 m2 m3) zs l p W (hv.below h) hg (hm.below h) (hT.below h) hl hp))
  have hLe : (li (lst n p)).length = (lst n p).length := by simp [li]
  rw [hLe] at HM
  clear hLe
  have hB0 : Below w.heap.size w ((w.alloc (.cells #[.int .i64 n, .slice v1 v2 v3] 24)).alloc (.cells #[.slice m1 m2 m3] 22)) := (balloc w _).alloc (by simp) _
  have hX0 : BoxG ((w.alloc (.cells #[.int .i64 n, .slice v1 v2 v3] 24)).alloc (.cells #[.slice m1 m2 m3] 22)) w.heap.size n (.slice v1 v2 v3) := (blk0 _ _).alloc _
  have hM0 := Boxed.new (w.alloc (.cells #[.int .i64 n, .slice v1 v2 v3] 24)) 22 (.slice m1 m2 m3)
  rw [World.size_alloc] at hM0
  obtain ⟨w0, hw0⟩ : ∃ w0, w0 = (w.alloc (.cells #[.int .i64 n, .slice v1 v2 v3] 24)).alloc (.cells #[.slice m1 m2 m3] 22) := ⟨_, rfl⟩
  rw [← hw0] at hB0 hX0 hM0
  have HST := hide (subBegun_any w0 (hT.below hB0))
  go_enter Tryd.func5, Tryd.ntmps5
  go_wp2_with fail
  rw [← hw0]
  clear hw0
  refine HST.out.mono ?_
  rintro x w1 ⟨rfl, hb1⟩
  clear HST
  have hB := bcat2 hB0 hb1
  have hX := blk_below hX0 hb1
  have hM := Boxed.below hM0 hb1
  clear hb1 hX0 hM0 hB0
  obtain ⟨c0, c1, _, _⟩ := hX.two
  go_wp2_with fail
  clear c0 c1
  have hB1 := hB
  have hX1 := hX
  have hM1 := hM
  have hX9 := hX
  have hw1 : w.heap.size + 1 < w1.heap.size := hM1.lt
  refine (HF.out w1 hB).mono ?_
  rintro x w2 ⟨P, r1, r2, r3, rfl, hI, hr, hb2⟩
  have hF : Blk ((w2.alloc (.cells #[.slice r1 r2 r3] 22)).alloc (.cells #[.int .i64 0, .int .i64 0] 27)) (w2.heap.size + 1) 27 [.int .i64 0, .int .i64 0] := by
    have h := blk0 (w := w2.alloc (.cells #[.slice r1 r2 r3] 22)) (T := 27) (.int .i64 0) (.int .i64 0)
    rw [World.size_alloc] at h
    exact h
  have hA : Boxed ((w2.alloc (.cells #[.slice r1 r2 r3] 22)).alloc (.cells #[.int .i64 0, .int .i64 0] 27)) w2.heap.size 22 (.slice r1 r2 r3) := (Boxed.new w2 22 (.slice r1 r2 r3)).alloc _
  have hb23 := (balloc w2 (.cells #[.slice r1 r2 r3] 22)).alloc (by simp) (.cells #[.int .i64 0, .int .i64 0] 27)
  have hb3 := bcat2 hb2 hb23
  have hrk : ∀ W' : World, (∀ g, g < w2.heap.size → W'.heap[g]? = w2.heap[g]?) → w2.heap.size ≤ W'.heap.size → Sl W' (.slice r1 r2 r3) (li (lst n (fun x => (grtA n P).all fun s => s.testBit x))) := fun W' h1 h2 => (hr.keep (fun g _ h => h1 g h) h2).sl
  have hw12 := hb2.size
  have hX := blk_below hX hb3
  have hM := Boxed.below hM hb3
  have hzw2 : w.heap.size ≤ w2.heap.size := (bcat2 hB hb2).size
  have hB := bcat2 hB hb3
  obtain ⟨t0, t1, _, _⟩ := hF.two
  obtain ⟨c0, c1, _, _⟩ := hX.two
  have c2 := hM.cell
  have hz3 : ((w2.alloc (.cells #[.slice r1 r2 r3] 22)).alloc (.cells #[.int .i64 0, .int .i64 0] 27)).heap.size = w2.heap.size + 2 := by simp
  go_wp2_with fail
  clear t0 t1 c0 c1 c2 hr
  generalize (w2.alloc (.cells #[.slice r1 r2 r3] 22)).alloc (.cells #[.int .i64 0, .int .i64 0] 27) = w3 at *
  refine (HM.out w3 hB).mono ?_
  rintro x w4 ⟨s1, s3, rfl, hb4⟩
  have hb14 := bcat2 hb3 hb4
  have hF4 := blk_below hF hb4
  obtain ⟨y0, y1, fy0, fy1⟩ := hF4.two
  obtain ⟨hR6, hb16⟩ := put2 hF4 hb14 (by omega) 0 0
  have hb36 := bxS (o := 1) (x := .int .i64 0) (bxS (o := 0) (x := .int .i64 0) (hb4.mono (show w2.heap.size + 1 ≤ w3.heap.size by omega)) (Nat.le_refl _)) (Nat.le_refl _)
  obtain ⟨z0, z1, _, _⟩ := hR6.two
  obtain ⟨c0, c1, _, _⟩ := hX1.two
  have c0 := below_cell hb16 c0
  have c1 := below_cell hb16 c1
  have hM6 := Boxed.below hM1 hb16
  clear hX hM hF hF4 HF HM hX1 hM1 hB
  have hlp : (lst n p).length ≤ n := lst_len n p
  by_cases hL : (lst n p).length = n
  · rw [hL]
    have hA6 := (hb36.block _ (by omega)).trans hA
    have hr6 : ∀ g, g < w2.heap.size → ((w4.setCell ⟨w2.heap.size + 1, 0, none⟩ (.int .i64 0)).setCell ⟨w2.heap.size + 1, 1, none⟩ (.int .i64 0)).heap[g]? = w2.heap[g]? := fun g hg => (hb36.block g (by omega)).trans (hb23.block g hg)
    have hz6 := hb36.size
    have hB6 := bcat2 hB1 hb16
    go_wp2_with fail
    clear y0 y1 fy0 fy1 hb36 hb4 hb14 hb3 hA z0 z1
    generalize (w4.setCell ⟨w2.heap.size + 1, 0, none⟩ (.int .i64 0)).setCell ⟨w2.heap.size + 1, 1, none⟩ (.int .i64 0) = w6 at *
    obtain ⟨kk, hkk, hI⟩ := hI
    obtain ⟨fr, hfr⟩ : ∃ fr : Nat → Bool, (fun x : Nat => (grtA n P).all fun s => s.testBit x) = fr := ⟨_, rfl⟩
    obtain ⟨qt, hqt⟩ : ∃ qt : Nat → Bool, (fun x : Nat => decide ((x : Int) ∈ l) && !decide ((x : Int) ∈ li (lst n fr))) = qt := ⟨_, rfl⟩
    obtain ⟨pr, hpr⟩ := mkd_test n zs e (pset (li (lst n qt)))
    have hpr2 : (li (lst n pr)).length = n := by
      have : (li (lst n pr)).length = (lst n pr).length := by simp [li]
      rw [this]
      refine frat_less hg hkk hI hp hL (q := pset (li (lst n qt))) (fun a ha => ?_) hpr
      rw [pset_lst ha, ← hqt]
      show (decide ((a : Int) ∈ l) && !decide ((a : Int) ∈ li (lst n fr))) = (decide ((a : Int) ∈ l) && !((grtA n P).all fun s => s.testBit a))
      rw [show decide ((a : Int) ∈ li (lst n fr)) = fr a from pset_lst ha, ← hfr]
    rw [hfr] at hrk
    have hw26 : ∀ W, Below (w2.heap.size + 1) w6 W → Below w.heap.size w W := fun W h => hB6.trans (h.mono (by omega))
    have HMB := hide (fun W x (h : Below (w2.heap.size + 1) w6 W) (hx : Sl W x (li (lst n qt))) => ansL (mde_good n e (.slice v1 v2 v3) x zs (li (lst n qt)) pr W (hv.below (hw26 W h)) hg hx (hT.below (hw26 W h)) (lst_fault n qt) hpr))
    rw [hpr2] at HMB
    have HTH := hide (fun W (h : Below (w2.heap.size + 1) w6 W) => rthose_ok n 32 (.slice v1 v2 v3) #[.pointer (some ⟨w.heap.size + 1, 0, none⟩), .pointer (some ⟨w2.heap.size, 0, none⟩)] qt W hn (fun a W => ent32 a _ _ W) (fun W' x hW hx => by
      rw [← hqt]
      exact ndl1_ok x (w.heap.size + 1) w2.heap.size (.slice m1 m2 m3) (.slice r1 r2 r3) l (li (lst n fr)) W' (Boxed.below ((h.block _ (by omega)).trans hM6) hW) (Boxed.below ((h.block _ (by omega)).trans hA6) hW) ((hm.below (hw26 W h)).below hW) ((hrk W (fun g hg => (h.block g (by omega)).trans (hr6 g hg)) (by have := h.size; omega)).below hW)))
    have hw6' : w2.heap.size + 1 ≤ w6.heap.size := by omega
    have hw6 : w2.heap.size + 1 < w6.heap.size := by omega
    clear hp hI hkk hpr hpr2 hfr hqt
    go_cut [8] (fun s6 wy => NRel w1 (w2.heap.size + 1) n s6 wy)
    case first =>
      have hS : ∀ W, Qh (w2.heap.size + 1) w6 W → (Qh (w2.heap.size + 1) w6 W ∧ W.cell? ⟨w.heap.size, 0, none⟩ = some (.int .i64 n) ∧ W.cell? ⟨w.heap.size, 1, none⟩ = some (.slice v1 v2 v3)) := fun W h => ⟨h, below_cell' h.1 (by show w.heap.size < _; omega) c0, below_cell' h.1 (by show w.heap.size < _; omega) c1⟩
      have hS0 := hS _ (Qh.drew ⟨Below.refl _ w6, hR6⟩)
      have h06 : 0 < w6.heap.size := at0 _ hB6
      obtain ⟨y0, y1, fy0, fy1⟩ := hR6.two
      go_region_held3 (fun W => Qh (w2.heap.size + 1) w6 W ∧ W.cell? ⟨w.heap.size, 0, none⟩ = some (.int .i64 n) ∧ W.cell? ⟨w.heap.size, 1, none⟩ = some (.slice v1 v2 v3))
        (first | exact hS0 | assumption | exact hS _ (Qh.more (And.left ‹_›) hw6' hl1) | exact hS _ (Qh.alloc (And.left ‹_›) hw6') | (refine hS _ ?_; repeat (first | exact hU2 | (refine Qh.alloc ?_ hw6') | (refine Qh.s0 ?_) | (refine Qh.s1 ?_))))
        (first
          | (go_at_call 24; refine (HTH.out _ (And.left (And.left ‹_›))).mono ?_; rintro e1 U1 ⟨m9, rfl, hm9, hl1⟩; obtain ⟨n1, n3, rfl⟩ := row_len hm9; have hlA := hl1; have hU1 := Qh.more (And.left ‹_›) hw6' hl1; have hzA := hlA.size; have hz1 := hU1.1.size; have hp1 := cell_eq hl1; have hq1 := frozen_eq hl1; have hmS := row_sl hm9 (by omega))
          | (go_at_call 28; refine (HMB.out _ _ (And.left (And.left ‹_›)) (by first | exact hmS | exact hmS.alloc _)).mono ?_; rintro e2 U2 ⟨b1, b3, rfl, hl1⟩; have hlB := hl1; have hU2 := Qh.more (And.left ‹_›) hw6' hl1; have hz2 := hU2.1.size; have hp2 := cell_eq hl1; have hq2 := frozen_eq hl1))
      all_goals (go_wp2; go_meet)
      all_goals (first
        | exact ⟨_, _, rfl, hU2.s0.s1.2, hb16.trans (hU2.s0.s1.1.mono (by omega))⟩)
    case rest =>
      obtain ⟨b1, b3, rfl, hF2, hbn⟩ := hcut
      obtain ⟨t0, t1, _, _⟩ := hF2.two
      obtain ⟨c0, c1, _, _⟩ := (blk_below hX9 hbn).two
      go_wp2
      go_ret
      exact ⟨rfl, bcat2 hB1 hbn⟩
  · have hLb : (((lst n p).length : Int) != (n : Int)) = true := by simp only [bne_iff_ne, ne_eq]; omega
    go_wp2
    go_ret
    exact ⟨rfl, bcat2 hB1 hb16⟩
end Go.Proofs.YtelglfegpfhbpaaDoor
