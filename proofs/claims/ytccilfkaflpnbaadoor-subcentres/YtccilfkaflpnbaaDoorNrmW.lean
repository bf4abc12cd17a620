/- What the law SubNormal answers, by what it calls. -/
import Derived.Test.YtccilfkaflpnbaaDoorNrmB
import Derived.Test.YtccilfkaflpnbaaDoorBads
import Derived.Deep.DeepCutAuto
namespace Go.Proofs.YtccilfkaflpnbaaDoor
open Go Go.RowKit

/-- A list that is new since B: it reads so, whatever lies ahead of B. -/
def Frs (B : Nat) (W : World) (v : Value) (zs : List Int) : Prop := 0 < W.heap.size ∧ ∀ W' : World, (∀ g, B ≤ g → g < W.heap.size → W'.heap[g]? = W.heap[g]?) → W.heap.size ≤ W'.heap.size → Sl W' v zs
theorem Frs.sl {B : Nat} {W : World} {v : Value} {zs : List Int} (h : Frs B W v zs) : Sl W v zs := h.2 W (fun _ _ _ => rfl) (Nat.le_refl _)
theorem Frs.set {B b o : Nat} {W : World} {v y : Value} {zs : List Int} (h : Frs B W v zs) (hb : b < B) : Frs B (W.setCell ⟨b, o, none⟩ y) v zs :=
  ⟨by rw [size_set]; exact h.1, fun W' hk hs => h.2 W' (fun g h1 h2 => (hk g h1 (by rw [size_set]; exact h2)).trans (Below.heap_setCell _ _ _ g (by simp; omega))) (by rw [size_set] at hs; exact hs)⟩
theorem Frs.sl2 {B b o : Nat} {W : World} {v y : Value} {zs : List Int} (h : Frs B W v zs) (hb : b < B) : Sl (W.setCell ⟨b, o, none⟩ y) v zs := (h.set hb).sl
theorem SlF.frs {B : Nat} {W : World} {v : Value} {zs : List Int} (h : SlF B W v zs) (h0 : 0 < W.heap.size) : Frs B W v zs := ⟨h0, fun _ hk hs => (h.keep hk hs).sl⟩
theorem nil_frs {B : Nat} {W : World} (h0 : 0 < W.heap.size) : Frs B W (.slice none 0 0) [] := ⟨h0, fun W' _ hs => row_sl (nil_row W' 0) (Nat.lt_of_lt_of_le h0 hs)⟩
/-- A list and a fault that a function answers. -/
def Ans (c i : Int) (zs : List Int) (w : World) (x : Ending) (w' : World) : Prop := ∃ r1 r2 r3, x = .returned (.tuple #[.slice r1 r2 r3, .agg #[.int .i64 c, .int .i64 i]]) ∧ Frs w.heap.size w' (.slice r1 r2 r3) zs ∧ Below w.heap.size w w'
theorem ans_good {f : Nat} {args : Array Value} {w : World} {zs : List Int} (h0 : 0 < w.heap.size) (h : Calls Tryd.prog f args w fun x w' => ∃ r, x = .returned (.tuple #[r, .agg #[.int .i64 0, .int .i64 0]]) ∧ SlF w.heap.size w' r zs ∧ Below w.heap.size w w') :
    Calls Tryd.prog f args w (Ans 0 0 zs w) := by
  refine h.mono ?_
  rintro x w' ⟨r, rfl, hr, hb⟩
  obtain ⟨a, l, c, rfl⟩ := hr.sl.isSlice
  exact ⟨a, l, c, rfl, hr.frs (Nat.lt_of_lt_of_le h0 hb.size), hb⟩
theorem ans_bad {f : Nat} {args : Array Value} {w : World} {c i : Int} (h0 : 0 < w.heap.size) (h : Calls Tryd.prog f args w fun x w' => x = .returned (.tuple #[.slice none 0 0, .agg #[.int .i64 c, .int .i64 i]]) ∧ Below w.heap.size w w') :
    Calls Tryd.prog f args w (Ans c i [] w) := by
  refine h.mono ?_
  rintro x w' ⟨rfl, hb⟩
  exact ⟨none, 0, 0, rfl, nil_frs (Nat.lt_of_lt_of_le h0 hb.size), hb⟩
def CRel (w1 : World) (zs : List Int) (c i : Int) (s6 s7 : Value) (W : World) : Prop := ∃ fb a l k, s6 = .slice a l k ∧ s7 = .pointer (some ⟨fb, 0, none⟩) ∧ Blk W fb 27 [.int .i64 c, .int .i64 i] ∧ Sl W (.slice a l k) zs ∧ Below w1.heap.size w1 W
def BRel (w1 : World) (b : Bool) (c i : Int) (s6 s7 : Value) (W : World) : Prop := ∃ fb, s6 = .bool b ∧ s7 = .pointer (some ⟨fb, 0, none⟩) ∧ Blk W fb 27 [.int .i64 c, .int .i64 i] ∧ Below w1.heap.size w1 W

set_option maxRecDepth 100000 in
set_option maxHeartbeats 40000000 in
theorem normal_walk (N : Int) (v1 : Option Addr) (v2 v3 : Nat) (u1 : Option Addr) (u2 u3 : Nat) (zs l : List Int) (w : World) (hv : Sl w (.slice v1 v2 v3) zs) (hu : Sl w (.slice u1 u2 u3) l) (hT : Tab w) (hz : zs.length * 8 ≤ 140737488355328) (hl8 : l.length * 8 ≤ 140737488355328)
    (c i d j : Int) (b : Bool) (rn rc rk : List Int) (hcb : c = 0 ∨ b = false)
    (HN : Hid (∀ W x m, Below w.heap.size w W → Sl W x zs → Sl W m l → Calls Tryd.prog 41 #[.agg #[.int .i64 N, x], m] W (Ans c i rn W)))
    (HI : Hid (∀ W x m, Below w.heap.size w W → Sl W x zs → Sl W m l → Calls Tryd.prog 42 #[.agg #[.int .i64 N, x], m] W fun e W' => e = .returned (.tuple #[.bool b, .agg #[.int .i64 c, .int .i64 i]]) ∧ Below W.heap.size W W'))
    (HC : Hid (∀ W x m, Below w.heap.size w W → Sl W x zs → Sl W m l → Calls Tryd.prog 43 #[.agg #[.int .i64 N, x], m] W (Ans c i rc W)))
    (HK : Hid (∀ W x m, Below w.heap.size w W → Sl W x zs → Sl W m l → Calls Tryd.prog 44 #[.agg #[.int .i64 N, x], m] W (Ans d j rk W)))
    (HU : Hid (∀ W, Below w.heap.size w W → Calls Tryd.prog 45 #[.agg #[.int .i64 N, .slice v1 v2 v3], .slice u1 u2 u3] W fun e W' => e = .returned (.agg #[.int .i64 c, .int .i64 i]) ∧ Below W.heap.size W W'))
    (HS : Hid (∀ W, Below w.heap.size w W → Calls Tryd.prog 31 #[.agg #[.int .i64 N, .slice v1 v2 v3], .slice u1 u2 u3] W fun e W' => e = .returned (.agg #[.int .i64 d, .int .i64 j]) ∧ Below W.heap.size W W'))
    (HM : Hid (c = 0 → ∀ W, Below w.heap.size w W → Calls Tryd.prog 46 #[.agg #[.int .i64 N, .slice v1 v2 v3], .slice u1 u2 u3] W fun e W' => e = .returned (.bool b) ∧ Below W.heap.size W W'))
    (HL1 : Hid (∀ W r gb lb, Below w.heap.size w W → BoxG W gb N (.slice v1 v2 v3) → Boxed W lb 22 (.slice u1 u2 u3) → Sl W r rn → Calls Tryd.prog 32 #[r, .agg #[.int .i64 c, .int .i64 i], .agg #[.int .i64 c, .int .i64 i], .func (.func 47) #[] #[.pointer (some ⟨gb, 0, none⟩), .pointer (some ⟨lb, 0, none⟩)]] W fun e W' => e = .returned (.bool true) ∧ Below W.heap.size W W'))
    (HL2 : Hid (∀ W r gb lb, Below w.heap.size w W → BoxG W gb N (.slice v1 v2 v3) → Boxed W lb 22 (.slice u1 u2 u3) → Sl W r rc → Calls Tryd.prog 32 #[r, .agg #[.int .i64 c, .int .i64 i], .agg #[.int .i64 c, .int .i64 i], .func (.func 50) #[] #[.pointer (some ⟨gb, 0, none⟩), .pointer (some ⟨lb, 0, none⟩)]] W fun e W' => e = .returned (.bool true) ∧ Below W.heap.size W W'))
    (HL3 : Hid (∀ W r gb lb, Below w.heap.size w W → BoxG W gb N (.slice v1 v2 v3) → Boxed W lb 22 (.slice u1 u2 u3) → Sl W r rk → Calls Tryd.prog 32 #[r, .agg #[.int .i64 d, .int .i64 j], .agg #[.int .i64 d, .int .i64 j], .func (.func 54) #[] #[.pointer (some ⟨gb, 0, none⟩), .pointer (some ⟨lb, 0, none⟩)]] W fun e W' => e = .returned (.bool true) ∧ Below W.heap.size W W')) :
    Calls Tryd.prog 5 #[.agg #[.int .i64 N, .slice v1 v2 v3], .slice u1 u2 u3] w fun e w' => e = .returned (.bool true) ∧ Below w.heap.size w w' := by
  obtain ⟨w0, hw0⟩ : ∃ w0, w0 = (w.alloc (.cells #[.int .i64 N, .slice v1 v2 v3] 24)).alloc (.cells #[.slice u1 u2 u3] 22) := ⟨_, rfl⟩
  have hBW : Below w.heap.size w w0 := by rw [hw0]; exact (balloc w _).alloc (by simp) _
  have hX : BoxG w0 w.heap.size N (.slice v1 v2 v3) := by rw [hw0]; exact (blk0 (w := w) (T := 24) _ _).alloc _
  have hL : Boxed w0 (w.heap.size + 1) 22 (.slice u1 u2 u3) := by
    have h := Boxed.new (w.alloc (.cells #[.int .i64 N, .slice v1 v2 v3] 24)) 22 (.slice u1 u2 u3)
    rw [World.size_alloc] at h
    rw [hw0]; exact h
  have h00 := hT.lt
  obtain ⟨c0, c1, _, _⟩ := hX.two
  rw [hw0] at c0 c1
  go_enter Tryd.func5, Tryd.ntmps5
  go_wp2_with fail
  rw [← hw0]
  clear c0 c1 hw0
  refine (ownGroup_row N (.slice v1 v2 v3) zs w0 (hv.below hBW) hz).mono ?_
  rintro x w1 ⟨x9, rfl, hx9, hb1⟩
  obtain ⟨a1, a3, rfl⟩ := row_len hx9
  have hbn := bcat2 hb1 (balloc w1 (.cells #[.int .i64 N, .slice a1 zs.length a3] 24))
  have hGB := blk0 (w := w1) (T := 24) (.int .i64 N) (.slice a1 zs.length a3)
  have hx := (row_sl hx9 (by have := hBW.size; have := hb1.size; omega)).alloc (.cells #[.int .i64 N, .slice a1 zs.length a3] 24)
  have hL := Boxed.below hL hbn
  have hX := blk_below hX hbn
  have hBW := bcat2 hBW hbn
  have hsx := hBW.size
  clear hbn hb1 hx9
  go_wp2_with fail
  generalize w1.alloc (.cells #[.int .i64 N, .slice a1 zs.length a3] 24) = wx at *
  generalize w1.heap.size = gb at *
  go_cut [6, 7] (fun s6 s7 wy => CRel wx rn c i s6 s7 wy)
  case first =>
    have HOWp := hide (fun W (h : Below wx.heap.size wx W) => own_any (.slice u1 u2 u3) l W (hu.below (bcat2 hBW h)) hl8)
    have HNp := hide (fun W m (h : Below wx.heap.size wx W) (hm : Sl W m l) => HN.out W (.slice a1 zs.length a3) m (bcat2 hBW h) (hx.below h) hm)
    obtain ⟨c0, c1, _, _⟩ := hGB.two
    have c2 := hL.cell
    have hS : ∀ W, Below wx.heap.size wx W → (Below wx.heap.size wx W ∧ W.cell? ⟨gb, 0, none⟩ = some (.int .i64 N) ∧ W.cell? ⟨gb, 1, none⟩ = some (.slice a1 zs.length a3) ∧ W.cell? ⟨w.heap.size + 1, 0, none⟩ = some (.slice u1 u2 u3)) := fun W h => ⟨h, below_cell h c0, below_cell h c1, below_cell h c2⟩
    have hS0 := hS _ (bdrew (Below.refl _ wx))
    go_region_held3 (fun W => Below wx.heap.size wx W ∧ W.cell? ⟨gb, 0, none⟩ = some (.int .i64 N) ∧ W.cell? ⟨gb, 1, none⟩ = some (.slice a1 zs.length a3) ∧ W.cell? ⟨w.heap.size + 1, 0, none⟩ = some (.slice u1 u2 u3))
      (first | exact hS0 | assumption | exact hS _ (bcat2 (And.left ‹_›) hl1) | exact hS _ (bcat2 (And.left ‹_›) (balloc _ _)) | (refine hS _ ?_; repeat (first | exact hU2 | (refine bAlloc ?_) | (refine bSet ?_ (by omega)))))
      (first
        | (go_at_call 25; refine (HOWp.out _ (And.left ‹_›)).mono ?_; rintro e1 U1 ⟨m9, rfl, hm9, hl1⟩; obtain ⟨m1, m3, rfl⟩ := own_slice hm9; have hlA := hl1; have hU1 := bcat2 (And.left ‹_›) hl1; have hzA := hlA.size; have hz1 := hU1.size; have hp1 := cell_eq hl1; have hq1 := frozen_eq hl1; have hmS := row_sl hm9 (by omega))
        | (go_at_call 41; refine (HNp.out _ _ (And.left ‹_›) (by first | exact hmS | exact hmS.alloc _)).mono ?_; rintro e2 U2 ⟨r1, r2, r3, rfl, hr, hl1⟩; have hlB := hl1; have hU2 := bcat2 (And.left ‹_›) hl1; have hz2 := hU2.size; have hp2 := cell_eq hl1; have hq2 := frozen_eq hl1))
    all_goals (go_wp2; go_meet)
    all_goals (have hzB := hlB.size; try simp only [World.size_alloc] at hzA; try simp only [World.size_alloc] at hzB)
    all_goals first
      | exact ⟨_, _, _, _, rfl, rfl, blk0 _ _, (hr.sl).alloc _, bAlloc hU2⟩
      | exact ⟨_, _, _, _, rfl, rfl, ((blk_below (blk0 _ _) hlB).set 0 _).set 1 _, (hr.set (by simp only [World.size_alloc]; omega)).sl2 (by simp only [World.size_alloc]; omega), bSet (bSet hU2 (by omega)) (by omega)⟩
      | exact ⟨_, _, _, _, rfl, rfl, ((blk_below (blk_below (blkd _ _) hlA) hlB).set 0 _).set 1 _, (hr.set (Nat.lt_of_lt_of_le (Nat.lt_succ_self _) (show wx.heap.size + 1 ≤ U1.heap.size by simpa using hlA.size))).sl2 (Nat.lt_of_lt_of_le (Nat.lt_succ_self _) (show wx.heap.size + 1 ≤ U1.heap.size by simpa using hlA.size)), bSet (bSet hU2 (by omega)) (by omega)⟩
  case rest =>
    obtain ⟨f6, r6, l6, k6, rfl, rfl, hF6, hR6, hbn⟩ := hcut
    have hGB := blk_below hGB hbn
    have hL := Boxed.below hL hbn
    have hX := blk_below hX hbn
    have hx := hx.below hbn
    have hBW := bcat2 hBW hbn
    have hsx := hBW.size
    go_wp2_with fail
    go_cut [8, 9] (fun s8 s9 wy => BRel wc b c i s8 s9 wy)
    case first =>
      have HOWp := hide (fun W (h : Below wc.heap.size wc W) => own_any (.slice u1 u2 u3) l W (hu.below (bcat2 hBW h)) hl8)
      have HIp := hide (fun W m (h : Below wc.heap.size wc W) (hm : Sl W m l) => HI.out W (.slice a1 zs.length a3) m (bcat2 hBW h) (hx.below h) hm)
      obtain ⟨c0, c1, _, _⟩ := hGB.two
      have c2 := hL.cell
      have hS : ∀ W, Below wc.heap.size wc W → (Below wc.heap.size wc W ∧ W.cell? ⟨gb, 0, none⟩ = some (.int .i64 N) ∧ W.cell? ⟨gb, 1, none⟩ = some (.slice a1 zs.length a3) ∧ W.cell? ⟨w.heap.size + 1, 0, none⟩ = some (.slice u1 u2 u3)) := fun W h => ⟨h, below_cell h c0, below_cell h c1, below_cell h c2⟩
      have hS0 := hS _ (bdrew (Below.refl _ wc))
      go_region_held3 (fun W => Below wc.heap.size wc W ∧ W.cell? ⟨gb, 0, none⟩ = some (.int .i64 N) ∧ W.cell? ⟨gb, 1, none⟩ = some (.slice a1 zs.length a3) ∧ W.cell? ⟨w.heap.size + 1, 0, none⟩ = some (.slice u1 u2 u3))
        (first | exact hS0 | assumption | exact hS _ (bcat2 (And.left ‹_›) hl1) | exact hS _ (bcat2 (And.left ‹_›) (balloc _ _)) | (refine hS _ ?_; repeat (first | exact hU2 | (refine bAlloc ?_) | (refine bSet ?_ (by omega)))))
        (first
          | (go_at_call 25; refine (HOWp.out _ (And.left ‹_›)).mono ?_; rintro e1 U1 ⟨m9, rfl, hm9, hl1⟩; obtain ⟨m1, m3, rfl⟩ := own_slice hm9; have hlA := hl1; have hU1 := bcat2 (And.left ‹_›) hl1; have hzA := hlA.size; have hz1 := hU1.size; have hp1 := cell_eq hl1; have hq1 := frozen_eq hl1; have hmS := row_sl hm9 (by omega))
          | (go_at_call 42; refine (HIp.out _ _ (And.left ‹_›) (by first | exact hmS | exact hmS.alloc _)).mono ?_; rintro e2 U2 ⟨rfl, hl1⟩; have hlB := hl1; have hU2 := bcat2 (And.left ‹_›) hl1; have hz2 := hU2.size; have hp2 := cell_eq hl1; have hq2 := frozen_eq hl1))
      all_goals (go_wp2; go_meet)
      all_goals (have hzB := hlB.size; try simp only [World.size_alloc] at hzA; try simp only [World.size_alloc] at hzB)
      all_goals first
        | exact ⟨_, rfl, rfl, blk0 _ _, bAlloc hU2⟩
        | exact ⟨_, rfl, rfl, ((blk_below (blk0 _ _) hlB).set 0 _).set 1 _, bSet (bSet hU2 (by omega)) (by omega)⟩
        | exact ⟨_, rfl, rfl, ((blk_below (blk_below (blkd _ _) hlA) hlB).set 0 _).set 1 _, bSet (bSet hU2 (by omega)) (by omega)⟩
    case rest =>
      obtain ⟨f8, rfl, rfl, hF8, hbn⟩ := hcut
      have hGB := blk_below hGB hbn
      have hL := Boxed.below hL hbn
      have hX := blk_below hX hbn
      have hx := hx.below hbn
      have hBW := bcat2 hBW hbn
      have hF6 := blk_below hF6 hbn
      have hR6 := hR6.below hbn
      have hsx := hBW.size
      go_wp2_with fail
      go_cut [10, 11] (fun s10 s11 wy => CRel wc rc c i s10 s11 wy)
      case first =>
        have HOWp := hide (fun W (h : Below wc.heap.size wc W) => own_any (.slice u1 u2 u3) l W (hu.below (bcat2 hBW h)) hl8)
        have HCp := hide (fun W m (h : Below wc.heap.size wc W) (hm : Sl W m l) => HC.out W (.slice a1 zs.length a3) m (bcat2 hBW h) (hx.below h) hm)
        obtain ⟨c0, c1, _, _⟩ := hGB.two
        have c2 := hL.cell
        have hS : ∀ W, Below wc.heap.size wc W → (Below wc.heap.size wc W ∧ W.cell? ⟨gb, 0, none⟩ = some (.int .i64 N) ∧ W.cell? ⟨gb, 1, none⟩ = some (.slice a1 zs.length a3) ∧ W.cell? ⟨w.heap.size + 1, 0, none⟩ = some (.slice u1 u2 u3)) := fun W h => ⟨h, below_cell h c0, below_cell h c1, below_cell h c2⟩
        have hS0 := hS _ (bdrew (Below.refl _ wc))
        go_region_held3 (fun W => Below wc.heap.size wc W ∧ W.cell? ⟨gb, 0, none⟩ = some (.int .i64 N) ∧ W.cell? ⟨gb, 1, none⟩ = some (.slice a1 zs.length a3) ∧ W.cell? ⟨w.heap.size + 1, 0, none⟩ = some (.slice u1 u2 u3))
          (first | exact hS0 | assumption | exact hS _ (bcat2 (And.left ‹_›) hl1) | exact hS _ (bcat2 (And.left ‹_›) (balloc _ _)) | (refine hS _ ?_; repeat (first | exact hU2 | (refine bAlloc ?_) | (refine bSet ?_ (by omega)))))
          (first
            | (go_at_call 25; refine (HOWp.out _ (And.left ‹_›)).mono ?_; rintro e1 U1 ⟨m9, rfl, hm9, hl1⟩; obtain ⟨m1, m3, rfl⟩ := own_slice hm9; have hlA := hl1; have hU1 := bcat2 (And.left ‹_›) hl1; have hzA := hlA.size; have hz1 := hU1.size; have hp1 := cell_eq hl1; have hq1 := frozen_eq hl1; have hmS := row_sl hm9 (by omega))
            | (go_at_call 43; refine (HCp.out _ _ (And.left ‹_›) (by first | exact hmS | exact hmS.alloc _)).mono ?_; rintro e2 U2 ⟨r1, r2, r3, rfl, hr, hl1⟩; have hlB := hl1; have hU2 := bcat2 (And.left ‹_›) hl1; have hz2 := hU2.size; have hp2 := cell_eq hl1; have hq2 := frozen_eq hl1))
        all_goals (go_wp2; go_meet)
        all_goals (have hzB := hlB.size; try simp only [World.size_alloc] at hzA; try simp only [World.size_alloc] at hzB)
        all_goals first
          | exact ⟨_, _, _, _, rfl, rfl, blk0 _ _, (hr.sl).alloc _, bAlloc hU2⟩
          | exact ⟨_, _, _, _, rfl, rfl, ((blk_below (blk0 _ _) hlB).set 0 _).set 1 _, (hr.set (by simp only [World.size_alloc]; omega)).sl2 (by simp only [World.size_alloc]; omega), bSet (bSet hU2 (by omega)) (by omega)⟩
          | exact ⟨_, _, _, _, rfl, rfl, ((blk_below (blk_below (blkd _ _) hlA) hlB).set 0 _).set 1 _, (hr.set (Nat.lt_of_lt_of_le (Nat.lt_succ_self _) (show wc.heap.size + 1 ≤ U1.heap.size by simpa using hlA.size))).sl2 (Nat.lt_of_lt_of_le (Nat.lt_succ_self _) (show wc.heap.size + 1 ≤ U1.heap.size by simpa using hlA.size)), bSet (bSet hU2 (by omega)) (by omega)⟩
      case rest =>
        obtain ⟨f10, r10, l10, k10, rfl, rfl, hF10, hR10, hbn⟩ := hcut
        have hGB := blk_below hGB hbn
        have hL := Boxed.below hL hbn
        have hX := blk_below hX hbn
        have hx := hx.below hbn
        have hBW := bcat2 hBW hbn
        have hF6 := blk_below hF6 hbn
        have hF8 := blk_below hF8 hbn
        have hR6 := hR6.below hbn
        have hsx := hBW.size
        go_wp2_with fail
        go_cut [12, 13] (fun s12 s13 wy => CRel wc rk d j s12 s13 wy)
        case first =>
          have HOWp := hide (fun W (h : Below wc.heap.size wc W) => own_any (.slice u1 u2 u3) l W (hu.below (bcat2 hBW h)) hl8)
          have HKp := hide (fun W m (h : Below wc.heap.size wc W) (hm : Sl W m l) => HK.out W (.slice a1 zs.length a3) m (bcat2 hBW h) (hx.below h) hm)
          obtain ⟨c0, c1, _, _⟩ := hGB.two
          have c2 := hL.cell
          have hS : ∀ W, Below wc.heap.size wc W → (Below wc.heap.size wc W ∧ W.cell? ⟨gb, 0, none⟩ = some (.int .i64 N) ∧ W.cell? ⟨gb, 1, none⟩ = some (.slice a1 zs.length a3) ∧ W.cell? ⟨w.heap.size + 1, 0, none⟩ = some (.slice u1 u2 u3)) := fun W h => ⟨h, below_cell h c0, below_cell h c1, below_cell h c2⟩
          have hS0 := hS _ (bdrew (Below.refl _ wc))
          go_region_held3 (fun W => Below wc.heap.size wc W ∧ W.cell? ⟨gb, 0, none⟩ = some (.int .i64 N) ∧ W.cell? ⟨gb, 1, none⟩ = some (.slice a1 zs.length a3) ∧ W.cell? ⟨w.heap.size + 1, 0, none⟩ = some (.slice u1 u2 u3))
            (first | exact hS0 | assumption | exact hS _ (bcat2 (And.left ‹_›) hl1) | exact hS _ (bcat2 (And.left ‹_›) (balloc _ _)) | (refine hS _ ?_; repeat (first | exact hU2 | (refine bAlloc ?_) | (refine bSet ?_ (by omega)))))
            (first
              | (go_at_call 25; refine (HOWp.out _ (And.left ‹_›)).mono ?_; rintro e1 U1 ⟨m9, rfl, hm9, hl1⟩; obtain ⟨m1, m3, rfl⟩ := own_slice hm9; have hlA := hl1; have hU1 := bcat2 (And.left ‹_›) hl1; have hzA := hlA.size; have hz1 := hU1.size; have hp1 := cell_eq hl1; have hq1 := frozen_eq hl1; have hmS := row_sl hm9 (by omega))
              | (go_at_call 44; refine (HKp.out _ _ (And.left ‹_›) (by first | exact hmS | exact hmS.alloc _)).mono ?_; rintro e2 U2 ⟨r1, r2, r3, rfl, hr, hl1⟩; have hlB := hl1; have hU2 := bcat2 (And.left ‹_›) hl1; have hz2 := hU2.size; have hp2 := cell_eq hl1; have hq2 := frozen_eq hl1))
          all_goals (go_wp2; go_meet)
          all_goals (have hzB := hlB.size; try simp only [World.size_alloc] at hzA; try simp only [World.size_alloc] at hzB)
          all_goals first
            | exact ⟨_, _, _, _, rfl, rfl, blk0 _ _, (hr.sl).alloc _, bAlloc hU2⟩
            | exact ⟨_, _, _, _, rfl, rfl, ((blk_below (blk0 _ _) hlB).set 0 _).set 1 _, (hr.set (by simp only [World.size_alloc]; omega)).sl2 (by simp only [World.size_alloc]; omega), bSet (bSet hU2 (by omega)) (by omega)⟩
            | exact ⟨_, _, _, _, rfl, rfl, ((blk_below (blk_below (blkd _ _) hlA) hlB).set 0 _).set 1 _, (hr.set (Nat.lt_of_lt_of_le (Nat.lt_succ_self _) (show wc.heap.size + 1 ≤ U1.heap.size by simpa using hlA.size))).sl2 (Nat.lt_of_lt_of_le (Nat.lt_succ_self _) (show wc.heap.size + 1 ≤ U1.heap.size by simpa using hlA.size)), bSet (bSet hU2 (by omega)) (by omega)⟩
        case rest =>
          obtain ⟨f12, r12, l12, k12, rfl, rfl, hF12, hR12, hbn⟩ := hcut
          have hGB := blk_below hGB hbn
          have hL := Boxed.below hL hbn
          have hX := blk_below hX hbn
          have hx := hx.below hbn
          have hBW := bcat2 hBW hbn
          have hF6 := blk_below hF6 hbn
          have hF8 := blk_below hF8 hbn
          have hF10 := blk_below hF10 hbn
          have hR6 := hR6.below hbn
          have hR10 := hR10.below hbn
          have hsx := hBW.size
          obtain ⟨c0, c1, _, _⟩ := hX.two
          have c2 := hL.cell
          go_wp2_with fail
          clear c0 c1 c2
          refine (HU.out _ hBW).mono ?_
          rintro x w4 ⟨rfl, hb4⟩
          have hbn := bcat2 hb4 (balloc w4 (.cells #[.int .i64 c, .int .i64 i] 27))
          have hF14 := blk0 (w := w4) (T := 27) (.int .i64 c) (.int .i64 i)
          have hL := Boxed.below hL hbn
          have hX := blk_below hX hbn
          have hBW := bcat2 hBW hbn
          have hF6 := blk_below hF6 hbn
          have hF8 := blk_below hF8 hbn
          have hF10 := blk_below hF10 hbn
          have hF12 := blk_below hF12 hbn
          have hR6 := hR6.below hbn
          have hR10 := hR10.below hbn
          have hR12 := hR12.below hbn
          go_wp2_with fail
          generalize w4.alloc (.cells #[.int .i64 c, .int .i64 i] 27) = w5 at *
          clear hbn hb4
          refine (subBegun_any _ (hT.below hBW)).mono ?_
          rintro x w6 ⟨rfl, hbn⟩
          have hL := Boxed.below hL hbn
          have hX := blk_below hX hbn
          have hBW := bcat2 hBW hbn
          have hF6 := blk_below hF6 hbn
          have hF8 := blk_below hF8 hbn
          have hF10 := blk_below hF10 hbn
          have hF12 := blk_below hF12 hbn
          have hF14 := blk_below hF14 hbn
          have hR6 := hR6.below hbn
          have hR10 := hR10.below hbn
          have hR12 := hR12.below hbn
          generalize w4.heap.size = f14 at *
          clear hbn hGB
          have key : ∀ w7 : World, Below w6.heap.size w6 w7 → True := fun _ _ => trivial
          clear key
          obtain ⟨c0, c1, _, _⟩ := hX.two
          have c2 := hL.cell
          obtain ⟨p0, p1, _, _⟩ := hF8.two
          obtain ⟨q0, q1, _, _⟩ := hF14.two
          by_cases hc : c = 0
          · have HM' := hide (HM.out hc)
            subst hc
            clear HM
            go_wp2_with fail
            refine (HM'.out _ hBW).mono ?_
            rintro x w7 ⟨rfl, hbn⟩
            clear c0 c1 c2 p0 p1 q0 q1
            have hL := Boxed.below hL hbn
            have hX := blk_below hX hbn
            have hBW := bcat2 hBW hbn
            have hF6 := blk_below hF6 hbn
            have hF10 := blk_below hF10 hbn
            have hF12 := blk_below hF12 hbn
            have hF14 := blk_below hF14 hbn
            have hR6 := hR6.below hbn
            have hR10 := hR10.below hbn
            have hR12 := hR12.below hbn
            have H1 := hide (fun W (h : Below w7.heap.size w7 W) => HL1.out W (.slice r6 l6 k6) w.heap.size (w.heap.size + 1) (bcat2 hBW h) (blk_below hX h) (Boxed.below hL h) (hR6.below h))
            have H2 := hide (fun W (h : Below w7.heap.size w7 W) => HL2.out W (.slice r10 l10 k10) w.heap.size (w.heap.size + 1) (bcat2 hBW h) (blk_below hX h) (Boxed.below hL h) (hR10.below h))
            have H3 := hide (fun W (h : Below w7.heap.size w7 W) => HL3.out W (.slice r12 l12 k12) w.heap.size (w.heap.size + 1) (bcat2 hBW h) (blk_below hX h) (Boxed.below hL h) (hR12.below h))
            have hk1 : Hid True := hide trivial
            have hk2 : Hid True := hide trivial
            have HS' := hide (fun W (h : Below w7.heap.size w7 W) => HS.out W (bcat2 hBW h))
            obtain ⟨c0, c1, _, _⟩ := hX.two
            have c2 := hL.cell
            obtain ⟨p0, p1, _, _⟩ := hF6.two
            obtain ⟨p2, p3, _, _⟩ := hF10.two
            obtain ⟨p4, p5, _, _⟩ := hF12.two
            obtain ⟨q0, q1, _, _⟩ := hF14.two
            have hS : ∀ W, Below w7.heap.size w7 W → (Below w7.heap.size w7 W ∧ W.cell? ⟨w.heap.size, 0, none⟩ = some (.int .i64 N) ∧ W.cell? ⟨w.heap.size, 1, none⟩ = some (.slice v1 v2 v3) ∧ W.cell? ⟨w.heap.size + 1, 0, none⟩ = some (.slice u1 u2 u3) ∧ W.cell? ⟨f6, 0, none⟩ = some (.int .i64 0) ∧ W.cell? ⟨f6, 1, none⟩ = some (.int .i64 i) ∧ W.cell? ⟨f10, 0, none⟩ = some (.int .i64 0) ∧ W.cell? ⟨f10, 1, none⟩ = some (.int .i64 i) ∧ W.cell? ⟨f12, 0, none⟩ = some (.int .i64 d) ∧ W.cell? ⟨f12, 1, none⟩ = some (.int .i64 j) ∧ W.cell? ⟨f14, 0, none⟩ = some (.int .i64 0) ∧ W.cell? ⟨f14, 1, none⟩ = some (.int .i64 i)) := fun W h => ⟨h, below_cell h c0, below_cell h c1, below_cell h c2, below_cell h p0, below_cell h p1, below_cell h p2, below_cell h p3, below_cell h p4, below_cell h p5, below_cell h q0, below_cell h q1⟩
            have hS0 := hS _ (bdrew (Below.refl _ w7))
            cases b
            all_goals (
              go_wp2_with fail
              clear c0 c1 c2 p0 p1 p2 p3 p4 p5 q0 q1
              go_region_held3 (fun W => Below w7.heap.size w7 W ∧ W.cell? ⟨w.heap.size, 0, none⟩ = some (.int .i64 N) ∧ W.cell? ⟨w.heap.size, 1, none⟩ = some (.slice v1 v2 v3) ∧ W.cell? ⟨w.heap.size + 1, 0, none⟩ = some (.slice u1 u2 u3) ∧ W.cell? ⟨f6, 0, none⟩ = some (.int .i64 0) ∧ W.cell? ⟨f6, 1, none⟩ = some (.int .i64 i) ∧ W.cell? ⟨f10, 0, none⟩ = some (.int .i64 0) ∧ W.cell? ⟨f10, 1, none⟩ = some (.int .i64 i) ∧ W.cell? ⟨f12, 0, none⟩ = some (.int .i64 d) ∧ W.cell? ⟨f12, 1, none⟩ = some (.int .i64 j) ∧ W.cell? ⟨f14, 0, none⟩ = some (.int .i64 0) ∧ W.cell? ⟨f14, 1, none⟩ = some (.int .i64 i))
                (first | exact hS0 | assumption | exact hS _ (bcat2 (And.left ‹_›) hl1))
                (first
                  | (go_at_call 31; refine (HS'.out _ (And.left ‹_›)).mono ?_; rintro e1 U1 ⟨rfl, hl1⟩)
                  | (go_at_call 32; clear hk1; refine (H1.out _ (And.left ‹_›)).mono ?_; rintro e1 U1 ⟨rfl, hl1⟩)
                  | (go_at_call 32; clear hk2; refine (H2.out _ (And.left ‹_›)).mono ?_; rintro e1 U1 ⟨rfl, hl1⟩)
                  | (go_at_call 32; refine (H3.out _ (And.left ‹_›)).mono ?_; rintro e1 U1 ⟨rfl, hl1⟩))
              all_goals (
                have hB9 := And.left ‹Below w7.heap.size w7 U1 ∧ _›
                clear hS hS0
                go_wp2
                go_ret
                exact ⟨rfl, bcat2 hBW hB9⟩))
          · obtain rfl : b = false := hcb.resolve_left hc
            have hcz : (c == 0) = false := by simpa using hc
            have hbn := Below.refl w6.heap.size w6
            clear HM
            have H1 := hide (fun W (h : Below w6.heap.size w6 W) => HL1.out W (.slice r6 l6 k6) w.heap.size (w.heap.size + 1) (bcat2 hBW h) (blk_below hX h) (Boxed.below hL h) (hR6.below h))
            have H2 := hide (fun W (h : Below w6.heap.size w6 W) => HL2.out W (.slice r10 l10 k10) w.heap.size (w.heap.size + 1) (bcat2 hBW h) (blk_below hX h) (Boxed.below hL h) (hR10.below h))
            have H3 := hide (fun W (h : Below w6.heap.size w6 W) => HL3.out W (.slice r12 l12 k12) w.heap.size (w.heap.size + 1) (bcat2 hBW h) (blk_below hX h) (Boxed.below hL h) (hR12.below h))
            have hk1 : Hid True := hide trivial
            have hk2 : Hid True := hide trivial
            have HS' := hide (fun W (h : Below w6.heap.size w6 W) => HS.out W (bcat2 hBW h))
            obtain ⟨s0, s1, _, _⟩ := hF6.two
            obtain ⟨p2, p3, _, _⟩ := hF10.two
            obtain ⟨p4, p5, _, _⟩ := hF12.two
            have hS : ∀ W, Below w6.heap.size w6 W → (Below w6.heap.size w6 W ∧ W.cell? ⟨w.heap.size, 0, none⟩ = some (.int .i64 N) ∧ W.cell? ⟨w.heap.size, 1, none⟩ = some (.slice v1 v2 v3) ∧ W.cell? ⟨w.heap.size + 1, 0, none⟩ = some (.slice u1 u2 u3) ∧ W.cell? ⟨f6, 0, none⟩ = some (.int .i64 c) ∧ W.cell? ⟨f6, 1, none⟩ = some (.int .i64 i) ∧ W.cell? ⟨f10, 0, none⟩ = some (.int .i64 c) ∧ W.cell? ⟨f10, 1, none⟩ = some (.int .i64 i) ∧ W.cell? ⟨f12, 0, none⟩ = some (.int .i64 d) ∧ W.cell? ⟨f12, 1, none⟩ = some (.int .i64 j) ∧ W.cell? ⟨f14, 0, none⟩ = some (.int .i64 c) ∧ W.cell? ⟨f14, 1, none⟩ = some (.int .i64 i)) := fun W h => ⟨h, below_cell h c0, below_cell h c1, below_cell h c2, below_cell h s0, below_cell h s1, below_cell h p2, below_cell h p3, below_cell h p4, below_cell h p5, below_cell h q0, below_cell h q1⟩
            have hS0 := hS _ (bdrew (Below.refl _ w6))
            go_wp2_with fail
            clear c0 c1 c2 p0 p1 s0 s1 p2 p3 p4 p5 q0 q1
            go_region_held3 (fun W => Below w6.heap.size w6 W ∧ W.cell? ⟨w.heap.size, 0, none⟩ = some (.int .i64 N) ∧ W.cell? ⟨w.heap.size, 1, none⟩ = some (.slice v1 v2 v3) ∧ W.cell? ⟨w.heap.size + 1, 0, none⟩ = some (.slice u1 u2 u3) ∧ W.cell? ⟨f6, 0, none⟩ = some (.int .i64 c) ∧ W.cell? ⟨f6, 1, none⟩ = some (.int .i64 i) ∧ W.cell? ⟨f10, 0, none⟩ = some (.int .i64 c) ∧ W.cell? ⟨f10, 1, none⟩ = some (.int .i64 i) ∧ W.cell? ⟨f12, 0, none⟩ = some (.int .i64 d) ∧ W.cell? ⟨f12, 1, none⟩ = some (.int .i64 j) ∧ W.cell? ⟨f14, 0, none⟩ = some (.int .i64 c) ∧ W.cell? ⟨f14, 1, none⟩ = some (.int .i64 i))
              (first | exact hS0 | assumption | exact hS _ (bcat2 (And.left ‹_›) hl1))
              (first
                | (go_at_call 31; refine (HS'.out _ (And.left ‹_›)).mono ?_; rintro e1 U1 ⟨rfl, hl1⟩)
                | (go_at_call 32; clear hk1; refine (H1.out _ (And.left ‹_›)).mono ?_; rintro e1 U1 ⟨rfl, hl1⟩)
                | (go_at_call 32; clear hk2; refine (H2.out _ (And.left ‹_›)).mono ?_; rintro e1 U1 ⟨rfl, hl1⟩)
                | (go_at_call 32; refine (H3.out _ (And.left ‹_›)).mono ?_; rintro e1 U1 ⟨rfl, hl1⟩))
            all_goals (
              have hB9 := And.left ‹Below w6.heap.size w6 U1 ∧ _›
              clear hS hS0
              go_wp2
              go_ret
              exact ⟨rfl, bcat2 hBW hB9⟩)
end Go.Proofs.YtccilfkaflpnbaaDoor
