/- What the law SubCentres answers, by what it calls. -/
import Derived.Test.YtccilfkaflpnbaaDoorCtsB
import Derived.Deep.DeepCutAuto
import Derived.Laws.EntriesVeiled
namespace Go.Proofs.YtccilfkaflpnbaaDoor
open Go Go.RowKit

set_option maxRecDepth 100000 in
set_option maxHeartbeats 40000000 in
theorem centres_walk (N : Int) (v1 : Option Addr) (v2 v3 : Nat) (u1 : Option Addr) (u2 u3 : Nat) (m1 : Option Addr) (m2 m3 : Nat) (zs l k : List Int) (w : World) (hv : Sl w (.slice v1 v2 v3) zs) (hu : Sl w (.slice u1 u2 u3) l) (hm : Sl w (.slice m1 m2 m3) k) (hT : Tab w) (hz : zs.length * 8 ≤ 140737488355328) (hl8 : l.length * 8 ≤ 140737488355328) (hk8 : k.length * 8 ≤ 140737488355328)
    (c i cg ig d j : Int) (ra rz rd qa : List Int) (hcg : cg ≠ 0 → c ≠ 0) (hcd : c ≠ 0 → d = c ∧ j = i) (hqa : cg ≠ 0 → qa = [])
    (HA : Hid (∀ W x m, Below w.heap.size w W → Sl W x zs → Sl W m l → Calls Tryd.prog 26 #[.agg #[.int .i64 N, x], m] W (Ans c i ra W)))
    (HZ : Hid (∀ W x, Below w.heap.size w W → Sl W x zs → Calls Tryd.prog 27 #[.agg #[.int .i64 N, x]] W (Ans cg ig rz W)))
    (HD : Hid (∀ W x y z, Below w.heap.size w W → Sl W x zs → Sl W y l → Sl W z k → Calls Tryd.prog 28 #[.agg #[.int .i64 N, x], y, z] W (Ans d j rd W)))
    (HS : Hid (∀ W, Below w.heap.size w W → Calls Tryd.prog 31 #[.agg #[.int .i64 N, .slice v1 v2 v3], .slice u1 u2 u3] W fun e W' => e = .returned (.agg #[.int .i64 c, .int .i64 i]) ∧ Below W.heap.size W W'))
    (HG : Hid (∀ W, Below w.heap.size w W → Calls Tryd.prog 16 #[.agg #[.int .i64 N, .slice v1 v2 v3]] W fun e W' => e = .returned (.agg #[.int .i64 cg, .int .i64 ig]) ∧ Below W.heap.size W W'))
    (HM : Hid (c = 0 → ∀ W, Below w.heap.size w W → Calls Tryd.prog 38 #[.agg #[.int .i64 N, .slice v1 v2 v3], .slice m1 m2 m3] W fun e W' => e = .returned (.agg #[.int .i64 d, .int .i64 j]) ∧ Below W.heap.size W W'))
    (HTH : Hid (cg = 0 → ∀ W, Below w.heap.size w W → Calls Tryd.prog 22 #[.agg #[.int .i64 N, .slice v1 v2 v3], .func (.func 35) #[] #[]] W fun e W' => ∃ r1 r2 r3, e = .returned (.slice r1 r2 r3) ∧ Frs W.heap.size W' (.slice r1 r2 r3) qa ∧ Below W.heap.size W W'))
    (HL1 : Hid (∀ W r gb cb lb, Below w.heap.size w W → BoxG W gb N (.slice v1 v2 v3) → Boxed W cb 47 (.func (.func 29) #[] #[.pointer (some ⟨gb, 0, none⟩)]) → Boxed W lb 22 (.slice u1 u2 u3) → Sl W r ra → Calls Tryd.prog 32 #[r, .agg #[.int .i64 c, .int .i64 i], .agg #[.int .i64 c, .int .i64 i], .func (.func 33) #[] #[.pointer (some ⟨gb, 0, none⟩), .pointer (some ⟨cb, 0, none⟩), .pointer (some ⟨lb, 0, none⟩)]] W fun e W' => e = .returned (.bool true) ∧ Below W.heap.size W W'))
    (HL2 : Hid (∀ W r gb cb ab av, Below w.heap.size w W → BoxG W gb N (.slice v1 v2 v3) → Boxed W cb 47 (.func (.func 29) #[] #[.pointer (some ⟨gb, 0, none⟩)]) → Boxed W ab 22 av → (cg = 0 → Sl W av qa) → Sl W r rz → Calls Tryd.prog 32 #[r, .agg #[.int .i64 cg, .int .i64 ig], .agg #[.int .i64 cg, .int .i64 ig], .func (.func 36) #[] #[.pointer (some ⟨gb, 0, none⟩), .pointer (some ⟨cb, 0, none⟩), .pointer (some ⟨ab, 0, none⟩)]] W fun e W' => e = .returned (.bool true) ∧ Below W.heap.size W W'))
    (HL3 : Hid (∀ W r gb lb kb, Below w.heap.size w W → BoxG W gb N (.slice v1 v2 v3) → Boxed W lb 22 (.slice u1 u2 u3) → Boxed W kb 22 (.slice m1 m2 m3) → Sl W r rd → Calls Tryd.prog 32 #[r, .agg #[.int .i64 d, .int .i64 j], .agg #[.int .i64 d, .int .i64 j], .func (.func 39) #[] #[.pointer (some ⟨lb, 0, none⟩), .pointer (some ⟨kb, 0, none⟩), .pointer (some ⟨gb, 0, none⟩)]] W fun e W' => e = .returned (.bool true) ∧ Below W.heap.size W W')) :
    Calls Tryd.prog 4 #[.agg #[.int .i64 N, .slice v1 v2 v3], .slice u1 u2 u3, .slice m1 m2 m3] w fun e w' => e = .returned (.bool true) ∧ Below w.heap.size w w' := by
  obtain ⟨w0, hw0⟩ : ∃ w0, w0 = ((w.alloc (.cells #[.int .i64 N, .slice v1 v2 v3] 24)).alloc (.cells #[.slice u1 u2 u3] 22)).alloc (.cells #[.slice m1 m2 m3] 22) := ⟨_, rfl⟩
  have hBW : Below w.heap.size w w0 := by rw [hw0]; exact ((balloc w _).alloc (by simp) _).alloc (by simp; omega) _
  have hX : BoxG w0 w.heap.size N (.slice v1 v2 v3) := by rw [hw0]; exact ((blk0 (w := w) (T := 24) _ _).alloc _).alloc _
  have hL : Boxed w0 (w.heap.size + 1) 22 (.slice u1 u2 u3) := by
    have h := (Boxed.new (w.alloc (.cells #[.int .i64 N, .slice v1 v2 v3] 24)) 22 (.slice u1 u2 u3)).alloc (.cells #[.slice m1 m2 m3] 22)
    rw [World.size_alloc] at h
    rw [hw0]; exact h
  have hK : Boxed w0 (w.heap.size + 1 + 1) 22 (.slice m1 m2 m3) := by
    have h := Boxed.new ((w.alloc (.cells #[.int .i64 N, .slice v1 v2 v3] 24)).alloc (.cells #[.slice u1 u2 u3] 22)) 22 (.slice m1 m2 m3)
    rw [World.size_alloc, World.size_alloc] at h
    rw [hw0]; exact h
  have h00 := hT.lt
  obtain ⟨c0, c1, _, _⟩ := hX.two
  rw [hw0] at c0 c1
  go_enter Tryd.func4, Tryd.ntmps4
  go_wp2_with fail
  rw [← hw0]
  clear c0 c1 hw0
  refine (ownGroup_row N (.slice v1 v2 v3) zs w0 (hv.below hBW) hz).mono ?_
  rintro x w1 ⟨x9, rfl, hx9, hb1⟩
  obtain ⟨a1, a3, rfl⟩ := row_len hx9
  have hbn := bcat2 hb1 (balloc w1 (.cells #[.int .i64 N, .slice a1 zs.length a3] 24))
  have hGB := blk0 (w := w1) (T := 24) (.int .i64 N) (.slice a1 zs.length a3)
  have hx := (row_sl hx9 (by have := hBW.size; have := hb1.size; omega)).alloc (.cells #[.int .i64 N, .slice a1 zs.length a3] 24)
  have hL := Boxed.below hL hbn
  have hK := Boxed.below hK hbn
  have hX := blk_below hX hbn
  have hBW := bcat2 hBW hbn
  have hsx := hBW.size
  clear hbn hb1 hx9
  go_wp2_with fail
  generalize w1.alloc (.cells #[.int .i64 N, .slice a1 zs.length a3] 24) = wx at *
  generalize w1.heap.size = gb at *
  go_cut [8, 9] (fun s8 s9 wy => CRel wx ra c i s8 s9 wy)
  case first =>
    have HOWp := hide (fun W (h : Below wx.heap.size wx W) => own_any (.slice u1 u2 u3) l W (hu.below (bcat2 hBW h)) hl8)
    have HAp := hide (fun W m (h : Below wx.heap.size wx W) (hm : Sl W m l) => HA.out W (.slice a1 zs.length a3) m (bcat2 hBW h) (hx.below h) hm)
    obtain ⟨c0, c1, _, _⟩ := hGB.two
    have c2 := hL.cell
    have hS : ∀ W, Below wx.heap.size wx W → (Below wx.heap.size wx W ∧ W.cell? ⟨gb, 0, none⟩ = some (.int .i64 N) ∧ W.cell? ⟨gb, 1, none⟩ = some (.slice a1 zs.length a3) ∧ W.cell? ⟨w.heap.size + 1, 0, none⟩ = some (.slice u1 u2 u3)) := fun W h => ⟨h, below_cell h c0, below_cell h c1, below_cell h c2⟩
    have hS0 := hS _ (bdrew (Below.refl _ wx))
    go_region_held3 (fun W => Below wx.heap.size wx W ∧ W.cell? ⟨gb, 0, none⟩ = some (.int .i64 N) ∧ W.cell? ⟨gb, 1, none⟩ = some (.slice a1 zs.length a3) ∧ W.cell? ⟨w.heap.size + 1, 0, none⟩ = some (.slice u1 u2 u3))
      (first | exact hS0 | assumption | exact hS _ (bcat2 (And.left ‹_›) hl1) | exact hS _ (bcat2 (And.left ‹_›) (balloc _ _)) | (refine hS _ ?_; repeat (first | exact hU2 | (refine bAlloc ?_) | (refine bSet ?_ (by omega)))))
      (first
        | (go_at_call 25; refine (HOWp.out _ (And.left ‹_›)).mono ?_; rintro e1 U1 ⟨m9, rfl, hm9, hl1⟩; obtain ⟨m1, m3, rfl⟩ := own_slice hm9; have hlA := hl1; have hU1 := bcat2 (And.left ‹_›) hl1; have hzA := hlA.size; have hz1 := hU1.size; have hp1 := cell_eq hl1; have hq1 := frozen_eq hl1; have hmS := row_sl hm9 (by omega))
        | (go_at_call 26; refine (HAp.out _ _ (And.left ‹_›) (by first | exact hmS | exact hmS.alloc _)).mono ?_; rintro e2 U2 ⟨r1, r2, r3, rfl, hr, hl1⟩; have hlB := hl1; have hU2 := bcat2 (And.left ‹_›) hl1; have hz2 := hU2.size; have hp2 := cell_eq hl1; have hq2 := frozen_eq hl1))
    all_goals (go_wp2; go_meet)
    all_goals (have hzB := hlB.size; try simp only [World.size_alloc] at hzA; try simp only [World.size_alloc] at hzB)
    all_goals first
      | exact ⟨_, _, _, _, rfl, rfl, blk0 _ _, (hr.sl).alloc _, bAlloc hU2⟩
      | exact ⟨_, _, _, _, rfl, rfl, ((blk_below (blk0 _ _) hlB).set 0 _).set 1 _, (hr.set (by simp only [World.size_alloc]; omega)).sl2 (by simp only [World.size_alloc]; omega), bSet (bSet hU2 (by omega)) (by omega)⟩
      | exact ⟨_, _, _, _, rfl, rfl, ((blk_below (blk_below (blkd _ _) hlA) hlB).set 0 _).set 1 _, (hr.set (Nat.lt_of_lt_of_le (Nat.lt_succ_self _) (show wx.heap.size + 1 ≤ U1.heap.size by simpa using hlA.size))).sl2 (Nat.lt_of_lt_of_le (Nat.lt_succ_self _) (show wx.heap.size + 1 ≤ U1.heap.size by simpa using hlA.size)), bSet (bSet hU2 (by omega)) (by omega)⟩
  case rest =>
    obtain ⟨f8, r8, l8, k8, rfl, rfl, hF8, hR8, hbn⟩ := hcut
    have hGB := blk_below hGB hbn
    have hL := Boxed.below hL hbn
    have hX := blk_below hX hbn
    have hx := hx.below hbn
    have hBW := bcat2 hBW hbn
    have hK := Boxed.below hK hbn
    have hsx := hBW.size
    obtain ⟨c0, c1, _, _⟩ := hGB.two
    go_wp2_with fail
    clear c0 c1 hbn
    refine (HZ.out _ _ hBW hx).mono ?_
    rintro x w2 ⟨r10, l10, k10, rfl, hr, hb2⟩
    have hbn := bcat2 hb2 (balloc w2 (.cells #[.int .i64 cg, .int .i64 ig] 27))
    have hF10 := blk0 (w := w2) (T := 27) (.int .i64 cg) (.int .i64 ig)
    have hR10 := hr.sl.alloc (.cells #[.int .i64 cg, .int .i64 ig] 27)
    have hGB := blk_below hGB hbn
    have hL := Boxed.below hL hbn
    have hX := blk_below hX hbn
    have hx := hx.below hbn
    have hBW := bcat2 hBW hbn
    have hF8 := blk_below hF8 hbn
    have hR8 := hR8.below hbn
    have hK := Boxed.below hK hbn
    have hsx := hBW.size
    clear hbn hb2 hr
    go_wp2_with fail
    generalize w2.alloc (.cells #[.int .i64 cg, .int .i64 ig] 27) = wx at *
    generalize w2.heap.size = f10 at *
    go_cut [12, 13] (fun s12 s13 wy => CRel wx rd d j s12 s13 wy)
    case first =>
      have hux := hu.below hBW
      have hmx := hm.below hBW
      have HOWp := hide (fun W s q (h : Below wx.heap.size wx W) (hs : Sl wx s q) (hq : q.length * 8 ≤ 140737488355328) => own_any s q W (hs.below h) hq)
      have HDp := hide (fun W y z (h : Below wx.heap.size wx W) (hy : Sl W y l) (hz : Sl W z k) => HD.out W (.slice a1 zs.length a3) y z (bcat2 hBW h) (hx.below h) hy hz)
      obtain ⟨c0, c1, _, _⟩ := hGB.two
      have c2 := hL.cell
      have c3 := hK.cell
      have hS : ∀ W, Below wx.heap.size wx W → (Below wx.heap.size wx W ∧ W.cell? ⟨gb, 0, none⟩ = some (.int .i64 N) ∧ W.cell? ⟨gb, 1, none⟩ = some (.slice a1 zs.length a3) ∧ W.cell? ⟨w.heap.size + 1, 0, none⟩ = some (.slice u1 u2 u3) ∧ W.cell? ⟨w.heap.size + 1 + 1, 0, none⟩ = some (.slice m1 m2 m3)) := fun W h => ⟨h, below_cell h c0, below_cell h c1, below_cell h c2, below_cell h c3⟩
      have hS0 := hS _ (bdrew (Below.refl _ wx))
      have hk1 : Hid True := hide trivial
      clear hx hu hm hv
      go_region_held3 (fun W => Below wx.heap.size wx W ∧ W.cell? ⟨gb, 0, none⟩ = some (.int .i64 N) ∧ W.cell? ⟨gb, 1, none⟩ = some (.slice a1 zs.length a3) ∧ W.cell? ⟨w.heap.size + 1, 0, none⟩ = some (.slice u1 u2 u3) ∧ W.cell? ⟨w.heap.size + 1 + 1, 0, none⟩ = some (.slice m1 m2 m3))
        (first | exact hS0 | assumption | exact hS _ (bcat2 (And.left ‹_›) hl1) | exact hS _ (bcat2 (And.left ‹_›) (balloc _ _)) | (refine hS _ ?_; repeat (first | exact hU2 | (refine bAlloc ?_) | (refine bSet ?_ (by omega)))))
        (first
          | (go_at_call 25; clear hk1; refine (HOWp.out _ _ _ (And.left ‹_›) (by assumption) (by assumption)).mono ?_; rintro e1 U1 ⟨m9, rfl, hm9, hl1⟩; obtain ⟨n1, n3, rfl⟩ := own_slice hm9; have hlA := hl1; have hU1 := bcat2 (And.left ‹_›) hl1; have hzA := hlA.size; (try simp only [World.size_alloc] at hzA); have hz1 := hU1.size; have hp1 := cell_eq hl1; have hq1 := frozen_eq hl1; have hmS := row_sl hm9 (by omega))
          | (go_at_call 25; refine (HOWp.out _ _ _ (And.left ‹_›) (by assumption) (by assumption)).mono ?_; rintro e3 U3 ⟨m8, rfl, hm8, hl1⟩; obtain ⟨n4, n6, rfl⟩ := own_slice hm8; (first | have hmP := hmS.below hl1 | have hmP := (hmS.alloc _).below hl1); have hlC := hl1; have hU3 := bcat2 (And.left ‹_›) hl1; have hzC := hlC.size; (try simp only [World.size_alloc] at hzC); have hz3 := hU3.size; have hp3 := cell_eq hl1; have hq3 := frozen_eq hl1; (try have hp13 := cell_eq (bcat2 hlA hl1)); (try have hq13 := frozen_eq (bcat2 hlA hl1)); have hmQ := row_sl hm8 (by omega))
          | (go_at_call 28; refine (HDp.out _ _ _ (And.left ‹_›) (by first | assumption | exact Sl.alloc (by assumption) _) (by first | assumption | exact Sl.alloc (by assumption) _)).mono ?_; rintro e2 U2 ⟨r1, r2, r3, rfl, hr, hl1⟩; have hlB := hl1; have hU2 := bcat2 (And.left ‹_›) hl1; have hz2 := hU2.size; have hp2 := cell_eq hl1; have hq2 := frozen_eq hl1; (try have hp23 := cell_eq (bcat2 hlC hl1)); (try have hq23 := frozen_eq (bcat2 hlC hl1))))
      all_goals (go_wp2; go_meet)
      all_goals (have hzB := hlB.size; try simp only [World.size_alloc] at hzB)
      all_goals first
        | exact ⟨_, _, _, _, rfl, rfl, blk0 _ _, (hr.sl).alloc _, bAlloc hU2⟩
        | exact ⟨_, _, _, _, rfl, rfl, ((blk_below (blk0 _ _) hlB).set 0 _).set 1 _, (hr.set (by simp only [World.size_alloc]; omega)).sl2 (by simp only [World.size_alloc]; omega), bSet (bSet hU2 (by omega)) (by omega)⟩
        | exact ⟨_, _, _, _, rfl, rfl, ((blk_below (blk_below (blk0 _ _) hlC) hlB).set 0 _).set 1 _, (hr.set (by omega)).sl2 (by omega), bSet (bSet hU2 (by omega)) (by omega)⟩
        | exact ⟨_, _, _, _, rfl, rfl, ((blk_below (blk_below (blk_below (blkd _ _) hlA) hlC) hlB).set 0 _).set 1 _, (hr.set (Nat.lt_of_lt_of_le (Nat.lt_of_lt_of_le (Nat.lt_succ_self _) (show wx.heap.size + 1 ≤ U1.heap.size by simpa using hlA.size)) hzC)).sl2 (Nat.lt_of_lt_of_le (Nat.lt_of_lt_of_le (Nat.lt_succ_self _) (show wx.heap.size + 1 ≤ U1.heap.size by simpa using hlA.size)) hzC), bSet (bSet hU2 (by omega)) (by omega)⟩
    case rest =>
      obtain ⟨f12, r12, l12, k12, rfl, rfl, hF12, hR12, hbn⟩ := hcut
      have hK := Boxed.below hK hbn
      have hX := blk_below hX hbn
      have hL := Boxed.below hL hbn
      have hBW := bcat2 hBW hbn
      have hF8 := blk_below hF8 hbn
      have hR8 := hR8.below hbn
      have hF10 := blk_below hF10 hbn
      have hR10 := hR10.below hbn
      have hF12 := hF12
      clear hbn hGB hx HA HZ HD
      obtain ⟨cb, hcbd⟩ : ∃ cb, cb = wc.heap.size := ⟨_, rfl⟩
      obtain ⟨wb, hwb⟩ : ∃ wb, wb = wc.alloc (.cells #[.func (.func 29) #[] #[.pointer (some ⟨w.heap.size, 0, none⟩)]] 47) := ⟨_, rfl⟩
      have hbn : Below wc.heap.size wc wb := by rw [hwb]; exact balloc _ _
      have hCb : Boxed wb cb 47 (.func (.func 29) #[] #[.pointer (some ⟨w.heap.size, 0, none⟩)]) := by rw [hwb, hcbd]; exact Boxed.new wc 47 _
      have hK := Boxed.below hK hbn
      have hX := blk_below hX hbn
      have hL := Boxed.below hL hbn
      have hBW := bcat2 hBW hbn
      have hF8 := blk_below hF8 hbn
      have hR8 := hR8.below hbn
      have hF10 := blk_below hF10 hbn
      have hR10 := hR10.below hbn
      have hF12 := blk_below hF12 hbn
      have hR12 := hR12.below hbn
      clear hbn
      obtain ⟨c0, c1, _, _⟩ := hX.two
      have c2 := hL.cell
      rw [hwb] at c0 c1 c2
      go_wp2_with fail
      rw [← hwb, ← hcbd]
      clear hwb hcbd c0 c1 c2
      refine (HS.out _ hBW).mono ?_
      rintro x w6 ⟨rfl, hb6⟩
      have hb7 := bcat2 hb6 (balloc w6 (.cells #[.int .i64 c, .int .i64 i] 27))
      have hF15 := blk0 (w := w6) (T := 27) (.int .i64 c) (.int .i64 i)
      have hs15 := hb6.size
      go_wp2_with fail
      generalize w6.alloc (.cells #[.int .i64 c, .int .i64 i] 27) = w7 at *
      generalize w6.heap.size = f15 at *
      clear hb6
      refine (subBegun_any _ (hT.below (bcat2 hBW hb7))).mono ?_
      rintro x w8 ⟨rfl, hb8⟩
      have hF15 := blk_below hF15 hb8
      have hb8 := bcat2 hb7 hb8
      clear hb7
      obtain ⟨p0, p1, _, _⟩ := (blk_below hF8 hb8).two
      obtain ⟨q0, q1, _, _⟩ := hF15.two
      go_wp2_with fail
      clear p0 p1 q0 q1
      refine (HL1.out w8 _ _ _ _ (bcat2 hBW hb8) (blk_below hX hb8) (Boxed.below hCb hb8) (Boxed.below hL hb8) (hR8.below hb8)).mono ?_
      rintro x w9 ⟨rfl, hb9⟩
      have hF15 := blk_below hF15 hb9
      have hb9 := bcat2 hb8 hb9
      clear hb8 HL1 hF8 hR8 HS
      obtain ⟨wA, hwA⟩ : ∃ wA, wA = (w9.alloc (.cells #[] 3)).alloc (.cells #[.slice (some ⟨w9.heap.size, 0, none⟩) 0 0] 22) := ⟨_, rfl⟩
      have hb9A : Below w9.heap.size w9 wA := by rw [hwA]; exact (balloc w9 _).alloc (by simp) _
      have hAb : Boxed wA (w9.heap.size + 1) 22 (.slice (some ⟨w9.heap.size, 0, none⟩) 0 0) := by
        have h := Boxed.new (w9.alloc (.cells #[] 3)) 22 (.slice (some ⟨w9.heap.size, 0, none⟩) 0 0)
        rw [World.size_alloc] at h
        rw [hwA]; exact h
      have hlt15 := hF15.lt
      have hsb9 := hb9.size
      have hF15 := blk_below hF15 hb9A
      have hbA := bcat2 hb9 hb9A
      obtain ⟨c0, c1, _, _⟩ := (blk_below hX hbA).two
      rw [hwA] at c0 c1
      go_wp2_with fail
      rw [← hwA]
      clear hwA c0 c1 hb9A
      generalize w9.heap.size = ab0 at *
      refine (HG.out _ (bcat2 hBW hbA)).mono ?_
      rintro x w10 ⟨rfl, hb10⟩
      have hF15 := blk_below hF15 hb10
      have hAb := Boxed.below hAb hb10
      have hbA := bcat2 hbA hb10
      clear hb10
      by_cases hgz : cg = 0
      · subst hgz
        have HTH' := hide (HTH.out rfl)
        have hfd := field27 0 ig w10
        obtain ⟨c0, c1, _, _⟩ := (blk_below hX hbA).two
        go_wp2_with fail
        clear c0 c1
        clear hfd
        refine (HTH'.out _ (bcat2 hBW hbA)).mono ?_
        rintro x w11 ⟨t1, t2, t3, rfl, hr, hb11⟩
        have hF15 := blk_below hF15 hb11
        have hltA := hAb.lt
        have hAb := Boxed.below hAb hb11
        have hbA := bcat2 hbA hb11
        have hac := hAb.cell
        have haf := hAb.frozen
        obtain ⟨wS, hwS⟩ : ∃ wS, wS = w11.setCell ⟨ab0 + 1, 0, none⟩ (.slice t1 t2 t3) := ⟨_, rfl⟩
        have hSA : Sl wS (.slice t1 t2 t3) qa := by rw [hwS]; exact hr.sl2 hltA
        have hAb : Boxed wS (ab0 + 1) 22 (.slice t1 t2 t3) := by rw [hwS]; exact hAb.set _
        have hbR : Below wb.heap.size wb wS := by rw [hwS]; exact bSet hbA (by omega)
        have hF15 : Blk wS f15 27 [.int .i64 c, .int .i64 i] := by rw [hwS]; exact hF15.other (p := ⟨ab0 + 1, 0, none⟩) (by simp; omega) _
        clear hbA hr hb11
        by_cases hcz : c = 0
        · have HM' := hide (HM.out hcz)
          subst hcz
          have HGp := hide (fun W (h : Below wS.heap.size wS W) => HG.out W (bcat2 hBW (bcat2 hbR h)))
          have HLp := hide (fun W (h : Below wS.heap.size wS W) => HL2.out W (.slice r10 l10 k10) w.heap.size cb (ab0 + 1) (.slice t1 t2 t3) (bcat2 hBW (bcat2 hbR h)) (blk_below hX (bcat2 hbR h)) (Boxed.below hCb (bcat2 hbR h)) (Boxed.below hAb h) (fun _ => hSA.below h) (hR10.below (bcat2 hbR h)))
          obtain ⟨c0, c1, _, _⟩ := (blk_below hX hbR).two
          obtain ⟨p0, p1, _, _⟩ := (blk_below hF10 hbR).two
          have hS : ∀ W, Below wS.heap.size wS W → (Below wS.heap.size wS W ∧ W.cell? ⟨w.heap.size, 0, none⟩ = some (.int .i64 N) ∧ W.cell? ⟨w.heap.size, 1, none⟩ = some (.slice v1 v2 v3) ∧ W.cell? ⟨f10, 0, none⟩ = some (.int .i64 0) ∧ W.cell? ⟨f10, 1, none⟩ = some (.int .i64 ig)) := fun W h => ⟨h, below_cell h c0, below_cell h c1, below_cell h p0, below_cell h p1⟩
          have hS0 := hS _ (bdrew (Below.refl _ wS))
          clear c0 c1 p0 p1
          go_wp2_with fail
          rw [← hwS]
          clear hwS hac haf
          go_region_held3 (fun W => Below wS.heap.size wS W ∧ W.cell? ⟨w.heap.size, 0, none⟩ = some (.int .i64 N) ∧ W.cell? ⟨w.heap.size, 1, none⟩ = some (.slice v1 v2 v3) ∧ W.cell? ⟨f10, 0, none⟩ = some (.int .i64 0) ∧ W.cell? ⟨f10, 1, none⟩ = some (.int .i64 ig))
            (first | exact hS0 | assumption | exact hS _ (bcat2 (And.left ‹_›) hl1))
            (first
              | (go_at_call 16; refine (HGp.out _ (And.left ‹_›)).mono ?_; rintro e1 U1 ⟨rfl, hl1⟩)
              | (go_at_call 32; refine (HLp.out _ (And.left ‹_›)).mono ?_; rintro e1 U2 ⟨rfl, hl1⟩))
          all_goals (
            have hB9 := And.left ‹Below wS.heap.size wS U2 ∧ _›
            clear hS hS0 HGp HLp
            have hF15 := blk_below hF15 hB9
            have hbT := bcat2 hbR hB9
            obtain ⟨c0, c1, _, _⟩ := (blk_below hX hbT).two
            have c2 := (Boxed.below hK hbT).cell
            obtain ⟨q0, q1, _, _⟩ := hF15.two
            go_wp2_with fail
            clear c0 c1 c2 q0 q1
            refine (HM'.out _ (bcat2 hBW hbT)).mono ?_
            rintro x w15 ⟨rfl, hb15⟩
            have hF15 := blk_below hF15 hb15
            have hbT := bcat2 hbT hb15
            clear hb15
            obtain ⟨q0, q1, fq0, fq1⟩ := hF15.two
            obtain ⟨hF16, hB16⟩ := put2 hF15 hbT (by omega) d j
            obtain ⟨p0, p1, _, _⟩ := (blk_below hF12 hB16).two
            obtain ⟨s0, s1, _, _⟩ := hF16.two
            go_wp2_with fail
            clear q0 q1 fq0 fq1 p0 p1 s0 s1
            refine (HL3.out _ _ _ _ _ (bcat2 hBW hB16) (blk_below hX hB16) (Boxed.below hL hB16) (Boxed.below hK hB16) (hR12.below hB16)).mono ?_
            rintro x w17 ⟨rfl, hb17⟩
            go_wp2
            go_ret
            exact ⟨rfl, bcat2 hBW (bcat2 hB16 hb17)⟩)
        · obtain ⟨rfl, rfl⟩ := hcd hcz
          have hcz2 : (d == 0) = false := by simpa using hcz
          have HGp := hide (fun W (h : Below wS.heap.size wS W) => HG.out W (bcat2 hBW (bcat2 hbR h)))
          have HLp := hide (fun W (h : Below wS.heap.size wS W) => HL2.out W (.slice r10 l10 k10) w.heap.size cb (ab0 + 1) (.slice t1 t2 t3) (bcat2 hBW (bcat2 hbR h)) (blk_below hX (bcat2 hbR h)) (Boxed.below hCb (bcat2 hbR h)) (Boxed.below hAb h) (fun _ => hSA.below h) (hR10.below (bcat2 hbR h)))
          obtain ⟨c0, c1, _, _⟩ := (blk_below hX hbR).two
          obtain ⟨p0, p1, _, _⟩ := (blk_below hF10 hbR).two
          have hS : ∀ W, Below wS.heap.size wS W → (Below wS.heap.size wS W ∧ W.cell? ⟨w.heap.size, 0, none⟩ = some (.int .i64 N) ∧ W.cell? ⟨w.heap.size, 1, none⟩ = some (.slice v1 v2 v3) ∧ W.cell? ⟨f10, 0, none⟩ = some (.int .i64 0) ∧ W.cell? ⟨f10, 1, none⟩ = some (.int .i64 ig)) := fun W h => ⟨h, below_cell h c0, below_cell h c1, below_cell h p0, below_cell h p1⟩
          have hS0 := hS _ (bdrew (Below.refl _ wS))
          clear c0 c1 p0 p1
          go_wp2_with fail
          rw [← hwS]
          clear hwS hac haf
          go_region_held3 (fun W => Below wS.heap.size wS W ∧ W.cell? ⟨w.heap.size, 0, none⟩ = some (.int .i64 N) ∧ W.cell? ⟨w.heap.size, 1, none⟩ = some (.slice v1 v2 v3) ∧ W.cell? ⟨f10, 0, none⟩ = some (.int .i64 0) ∧ W.cell? ⟨f10, 1, none⟩ = some (.int .i64 ig))
            (first | exact hS0 | assumption | exact hS _ (bcat2 (And.left ‹_›) hl1))
            (first
              | (go_at_call 16; refine (HGp.out _ (And.left ‹_›)).mono ?_; rintro e1 U1 ⟨rfl, hl1⟩)
              | (go_at_call 32; refine (HLp.out _ (And.left ‹_›)).mono ?_; rintro e1 U2 ⟨rfl, hl1⟩))
          all_goals (
            have hB9 := And.left ‹Below wS.heap.size wS U2 ∧ _›
            clear hS hS0 HGp HLp
            have hF15 := blk_below hF15 hB9
            have hbT := bcat2 hbR hB9
            obtain ⟨q0, q1, _, _⟩ := hF15.two
            obtain ⟨p0, p1, _, _⟩ := (blk_below hF12 hbT).two
            go_wp2_with fail
            clear q0 q1 p0 p1
            refine (HL3.out _ _ _ _ _ (bcat2 hBW hbT) (blk_below hX hbT) (Boxed.below hL hbT) (Boxed.below hK hbT) (hR12.below hbT)).mono ?_
            rintro x w17 ⟨rfl, hb17⟩
            go_wp2
            go_ret
            exact ⟨rfl, bcat2 hBW (bcat2 hbT hb17)⟩)
      · have hcz := hcg hgz
        obtain ⟨rfl, rfl⟩ := hcd hcz
        have hcz2 : (d == 0) = false := by simpa using hcz
        have hgz2 : (cg == 0) = false := by simpa using hgz
        have hbR := hbA
        have hfd := field27 cg ig w10
        have HGp := hide (fun W (h : Below w10.heap.size w10 W) => HG.out W (bcat2 hBW (bcat2 hbR h)))
        have HLp := hide (fun W (h : Below w10.heap.size w10 W) => HL2.out W (.slice r10 l10 k10) w.heap.size cb (ab0 + 1) (.slice (some ⟨ab0, 0, none⟩) 0 0) (bcat2 hBW (bcat2 hbR h)) (blk_below hX (bcat2 hbR h)) (Boxed.below hCb (bcat2 hbR h)) (Boxed.below hAb h) (fun h9 => absurd h9 hgz) (hR10.below (bcat2 hbR h)))
        obtain ⟨c0, c1, _, _⟩ := (blk_below hX hbR).two
        obtain ⟨p0, p1, _, _⟩ := (blk_below hF10 hbR).two
        have hS : ∀ W, Below w10.heap.size w10 W → (Below w10.heap.size w10 W ∧ W.cell? ⟨w.heap.size, 0, none⟩ = some (.int .i64 N) ∧ W.cell? ⟨w.heap.size, 1, none⟩ = some (.slice v1 v2 v3) ∧ W.cell? ⟨f10, 0, none⟩ = some (.int .i64 cg) ∧ W.cell? ⟨f10, 1, none⟩ = some (.int .i64 ig)) := fun W h => ⟨h, below_cell h c0, below_cell h c1, below_cell h p0, below_cell h p1⟩
        have hS0 := hS _ (bdrew (Below.refl _ w10))
        clear c0 c1 p0 p1
        go_wp2_with fail
        go_region_held3 (fun W => Below w10.heap.size w10 W ∧ W.cell? ⟨w.heap.size, 0, none⟩ = some (.int .i64 N) ∧ W.cell? ⟨w.heap.size, 1, none⟩ = some (.slice v1 v2 v3) ∧ W.cell? ⟨f10, 0, none⟩ = some (.int .i64 cg) ∧ W.cell? ⟨f10, 1, none⟩ = some (.int .i64 ig))
          (first | exact hS0 | assumption | exact hS _ (bcat2 (And.left ‹_›) hl1))
          (first
            | (go_at_call 16; refine (HGp.out _ (And.left ‹_›)).mono ?_; rintro e1 U1 ⟨rfl, hl1⟩)
            | (go_at_call 32; refine (HLp.out _ (And.left ‹_›)).mono ?_; rintro e1 U2 ⟨rfl, hl1⟩))
        all_goals (
          have hB9 := And.left ‹Below w10.heap.size w10 U2 ∧ _›
          clear hS hS0 HGp HLp
          have hF15 := blk_below hF15 hB9
          have hbT := bcat2 hbR hB9
          obtain ⟨q0, q1, _, _⟩ := hF15.two
          obtain ⟨p0, p1, _, _⟩ := (blk_below hF12 hbT).two
          go_wp2_with fail
          clear q0 q1 p0 p1
          refine (HL3.out _ _ _ _ _ (bcat2 hBW hbT) (blk_below hX hbT) (Boxed.below hL hbT) (Boxed.below hK hbT) (hR12.below hbT)).mono ?_
          rintro x w17 ⟨rfl, hb17⟩
          go_wp2
          go_ret
          exact ⟨rfl, bcat2 hBW (bcat2 hbT hb17)⟩)
end Go.Proofs.YtccilfkaflpnbaaDoor
