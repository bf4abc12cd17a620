/- What the law SubMakes answers: true, at every table and every list. Condition: the library's table of places lies as its text lays it. -/
import Derived.Test.YtoiemlnmcfmakaaDoorClo
import Derived.Test.YtoiemlnmcfmakaaDoorDedW
import Derived.Test.YtoiemlnmcfmakaaDoorThing
import Derived.Deep.DeepCutAuto
namespace Go.Proofs.YtoiemlnmcfmakaaDoor
open Go Go.RowKit

set_option maxRecDepth 100000 in
set_option maxHeartbeats 8000000 in
theorem las_bad (k : Nat) (caps : Array Value) (c i : Int) (w : World) (hc : c ≠ 0) :
    Calls Tryd.prog 24 #[.slice none 0 0, .agg #[.int .i64 c, .int .i64 i], .agg #[.int .i64 c, .int .i64 i], .func (.func k) #[] caps] w fun x w' => x = .returned (.bool true) ∧ Below w.heap.size w w' := by
  have hcb : (c != 0) = true := by simpa using hc
  have hF1 : Blk ((w.alloc (.cells #[.int .i64 c, .int .i64 i] 28)).alloc (.cells #[.int .i64 c, .int .i64 i] 28)) w.heap.size 28 [.int .i64 c, .int .i64 i] := (blk0 _ _).alloc _
  have hF2 := blk0 (w := w.alloc (.cells #[.int .i64 c, .int .i64 i] 28)) (T := 28) (.int .i64 c) (.int .i64 i)
  rw [World.size_alloc] at hF2
  have hb : Below w.heap.size w ((w.alloc (.cells #[.int .i64 c, .int .i64 i] 28)).alloc (.cells #[.int .i64 c, .int .i64 i] 28)) := (balloc w _).alloc (by simp) _
  obtain ⟨f0, f1, _, _⟩ := hF1.two
  obtain ⟨g0, g1, _, _⟩ := hF2.two
  go_enter Tryd.func24, Tryd.ntmps24
  go_wp2
  go_ret
  exact ⟨rfl, hb⟩
set_option maxRecDepth 100000 in
set_option maxHeartbeats 8000000 in
theorem las_good (k : Nat) (caps : Array Value) (sv : Value) (xs ys : List Int) (w : World) (hs : Sl w sv xs)
    (hcall : ∀ W, Sem.run Tryd.prog (callFunc k caps) W = .ok (.enter k caps) W)
    (hk : ∀ W, Below w.heap.size w W → Calls Tryd.prog k caps W fun x w' => ∃ r, x = .returned r ∧ Sl w' r ys ∧ Below W.heap.size W w') :
    Calls Tryd.prog 24 #[sv, .agg #[.int .i64 0, .int .i64 0], .agg #[.int .i64 0, .int .i64 0], .func (.func k) #[] caps] w fun x w' => x = .returned (.bool (decide (xs = ys))) ∧ Below w.heap.size w w' := by
  have hF1 : Blk ((w.alloc (.cells #[.int .i64 0, .int .i64 0] 28)).alloc (.cells #[.int .i64 0, .int .i64 0] 28)) w.heap.size 28 [.int .i64 0, .int .i64 0] := (blk0 _ _).alloc _
  have hF2 := blk0 (w := w.alloc (.cells #[.int .i64 0, .int .i64 0] 28)) (T := 28) (.int .i64 0) (.int .i64 0)
  rw [World.size_alloc] at hF2
  have hb : Below w.heap.size w ((w.alloc (.cells #[.int .i64 0, .int .i64 0] 28)).alloc (.cells #[.int .i64 0, .int .i64 0] 28)) := (balloc w _).alloc (by simp) _
  obtain ⟨f0, f1, _, _⟩ := hF1.two
  obtain ⟨g0, g1, _, _⟩ := hF2.two
  have HK := hide hk
  clear hk
  go_enter Tryd.func24, Tryd.ntmps24
  go_wp2_with fail
  generalize (w.alloc (.cells #[.int .i64 0, .int .i64 0] 28)).alloc (.cells #[.int .i64 0, .int .i64 0] 28) = w0 at *
  refine (HK.out w0 hb).mono ?_
  rintro x w1 ⟨r, rfl, hr, hb1⟩
  go_wp2_with fail
  refine (ints_any sv r xs ys w1 (hs.below (bcat2 hb hb1)) hr).mono ?_
  rintro x w2 ⟨rfl, hb2⟩
  go_wp2
  go_ret
  exact ⟨rfl, bcat2 (bcat2 hb hb1) hb2⟩
theorem call23 (x y : Value) (W : World) : Sem.run Tryd.prog (callFunc 25 #[x, y]) W = .ok (.enter 25 #[x, y]) W := by kernel_rfl
set_option maxRecDepth 100000 in
set_option maxHeartbeats 8000000 in
theorem spcl_ok (n e gb lb : Nat) (v u : Value) (zs : List Int) (xs : List Nat) (p : Nat → Bool) (w : World) (hv : Sl w v zs) (hg : IsGrp n zs e) (hu : Sl w u (li xs)) (hx : ∀ x, x ∈ xs → x < n) (hxl : xs.length ≤ 100000) (hp : ∀ a, a < n → (p a = true ↔ Mkd n zs e (fun a => decide (a ∈ xs)) a)) (hG : BoxG w gb n v) (hL : Boxed w lb 22 u) :
    Calls Tryd.prog 25 #[.pointer (some ⟨gb, 0, none⟩), .pointer (some ⟨lb, 0, none⟩)] w fun x w' => ∃ r, x = .returned r ∧ Sl w' r (li (lst n p)) ∧ Below w.heap.size w w' := by
  obtain ⟨c0, c1, _, _⟩ := hG.two
  have c2 := hL.cell
  go_enter Tryd.func25, Tryd.ntmps25
  go_wp2_with fail
  refine (span_ok n e v u zs xs p w hv hg hu hx hxl hp).mono ?_
  rintro x w1 ⟨r, rfl, hr, hb1⟩
  have h0 : 0 < w1.heap.size := Nat.lt_of_lt_of_le (Nat.lt_of_le_of_lt (Nat.zero_le _) hL.lt) hb1.size
  go_wp2
  go_ret
  exact ⟨_, rfl, row_sl hr h0, hb1⟩
theorem bAlloc {a W : World} {o : Obj} (h : Below a.heap.size a W) : Below a.heap.size a (W.alloc o) := h.alloc h.size o
theorem bSet {a W : World} {b o : Nat} {x : Value} (h : Below a.heap.size a W) (hb : a.heap.size ≤ b) : Below a.heap.size a (W.setCell ⟨b, o, none⟩ x) := h.setCell (p := ⟨b, o, none⟩) (by simpa using hb) x
set_option maxRecDepth 100000 in
set_option maxHeartbeats 2000000 in
theorem ownGroup_row (N : Int) (v : Value) (zs : List Int) (w : World) (hv : Sl w v zs) (hb : zs.length * 8 ≤ 140737488355328) :
    Calls Tryd.prog 15 #[.agg #[.int .i64 N, v]] w fun e w' => ∃ u, e = .returned (.agg #[.int .i64 N, u]) ∧ Row w' w.heap.size u zs ∧ Below w.heap.size w w' := by
  obtain ⟨w0, hw0⟩ : ∃ w0, w0 = (w.alloc (.cells #[.int .i64 N, v] 24)).alloc (.cells #[.int .i64 0, .slice none 0 0] 24) := ⟨_, rfl⟩
  have hB0 : Below w.heap.size w w0 := by rw [hw0]; exact (balloc w _).alloc (by simp) _
  have hg0 : BoxG w0 w.heap.size N v := by rw [hw0]; exact (blk0 _ _).alloc _
  have hR0 : Blk w0 (w.heap.size + 1) 24 [.int .i64 0, .slice none 0 0] := by
    rw [hw0]
    have : Blk ((w.alloc (.cells #[.int .i64 N, v] 24)).alloc (.cells #[.int .i64 0, .slice none 0 0] 24)) (w.alloc (.cells #[.int .i64 N, v] 24)).heap.size 24 [.int .i64 0, .slice none 0 0] := blk0 _ _
    rw [World.size_alloc] at this; exact this
  have hv0 := hv.below hB0
  obtain ⟨k0, k1, _, _⟩ := hg0.two
  obtain ⟨r0, r1, fr0, fr1⟩ := hR0.two
  obtain ⟨a, cap, pb, po, rfl, hr, hp, hq3, hq4⟩ := id hv
  have hS : ∀ W, Below w0.heap.size w0 W → (Below w.heap.size w W ∧ W.cell? ⟨w.heap.size, 0, none⟩ = some (.int .i64 N) ∧ W.cell? ⟨w.heap.size, 1, none⟩ = some (.slice a zs.length cap)) := fun W h => ⟨bcat hB0 h hB0.size, below_cell h k0, below_cell h k1⟩
  have hS3 : ∀ W u, Below w0.heap.size w0 W → (Below w.heap.size w ((W.setCell ⟨w.heap.size + 1, 0, none⟩ (.int .i64 N)).setCell ⟨w.heap.size + 1, 1, none⟩ u) ∧ ((W.setCell ⟨w.heap.size + 1, 0, none⟩ (.int .i64 N)).setCell ⟨w.heap.size + 1, 1, none⟩ u).cell? ⟨w.heap.size, 0, none⟩ = some (.int .i64 N) ∧ ((W.setCell ⟨w.heap.size + 1, 0, none⟩ (.int .i64 N)).setCell ⟨w.heap.size + 1, 1, none⟩ u).cell? ⟨w.heap.size, 1, none⟩ = some (.slice a zs.length cap)) := fun W u h => by
    have h1 : Below w.heap.size w W := bcat hB0 h hB0.size
    refine ⟨(h1.setCell (p := ⟨w.heap.size + 1, 0, none⟩) (by simp) _).setCell (p := ⟨w.heap.size + 1, 1, none⟩) (by simp) _, ?_, ?_⟩
    · rw [World.cell?_setCell_far _ _ _ _ (by simp), World.cell?_setCell_far _ _ _ _ (by simp)]; exact below_cell h k0
    · rw [World.cell?_setCell_far _ _ _ _ (by simp), World.cell?_setCell_far _ _ _ _ (by simp)]; exact below_cell h k1
  have hS0 := hS _ (bdrew (Below.refl _ w0))
  clear k0 k1 r0 r1 fr0 fr1
  go_enter Tryd.func15, Tryd.ntmps15
  go_wp2_with fail
  rw [← hw0]
  clear hw0
  go_region_held3 (fun W => Below w.heap.size w W ∧ W.cell? ⟨w.heap.size, 0, none⟩ = some (.int .i64 N) ∧ W.cell? ⟨w.heap.size, 1, none⟩ = some (.slice a zs.length cap))
    (first | exact hS0 | assumption | exact hS _ hl2 | exact hS3 _ _ hl2)
    (first | (go_at_call 16; refine (own_any _ zs _ (hv.below (And.left ‹_›)) hb).mono ?_; rintro e W1 ⟨u, rfl, hu1, hl1⟩; obtain ⟨a9, cap9, rfl⟩ := own_slice hu1; have hl2 := undrew hl1; obtain ⟨y0, y1, fy0, fy1⟩ := (blk_below hR0 hl2).two))
  have hR1 := blk_below hR0 hl2
  have hBw := bcat hB0 hl2 hB0.size
  have hs9 := hR0.lt
  have hu2 : Row ((W1.setCell ⟨w.heap.size + 1, 0, none⟩ (.int .i64 N)).setCell ⟨w.heap.size + 1, 1, none⟩ (.slice a9 zs.length cap9)) w.heap.size (.slice a9 zs.length cap9) zs := owns_mono (own_keep hu1 (fun b hb _ => by
    have hb : w0.heap.size ≤ b := hb
    rw [Below.heap_setCell _ _ _ _ (by simp; omega), Below.heap_setCell _ _ _ _ (by simp; omega)])) hB0.size
  have hR6 : Blk ((W1.setCell ⟨w.heap.size + 1, 0, none⟩ (.int .i64 N)).setCell ⟨w.heap.size + 1, 1, none⟩ (.slice a9 zs.length cap9)) (w.heap.size + 1) 24 [.int .i64 N, .slice a9 zs.length cap9] := (hR1.set 0 _).set 1 _
  have hB6 := (hBw.setCell (p := ⟨w.heap.size + 1, 0, none⟩) (by simp) (.int .i64 N)).setCell (p := ⟨w.heap.size + 1, 1, none⟩) (by simp) (.slice a9 zs.length cap9)
  clear y0 y1 fy0 fy1 hS hS3 hS0
  go_wp2
  generalize (W1.setCell ⟨w.heap.size + 1, 0, none⟩ (.int .i64 N)).setCell ⟨w.heap.size + 1, 1, none⟩ (.slice a9 zs.length cap9) = W at hR6 hB6 hu2 ⊢
  obtain ⟨z0, z1, _, _⟩ := hR6.two
  exact bodyPost_ret (v := .agg #[.int .i64 N, .slice a9 zs.length cap9]) (by simp [results, Tryd.results15, go_sem, z0, z1]) rfl ⟨_, rfl, hu2, hB6⟩
theorem slset {U W : World} {x : Value} {zs : List Int} {b o : Nat} {y : Value} (h : Sl U x zs) (hb : U.heap.size ≤ b) (hUW : ∀ k, k < U.heap.size → W.heap[k]? = U.heap[k]?) : Sl (W.setCell ⟨b, o, none⟩ y) x zs := by
  obtain ⟨a, cap, pb, po, rfl, hr, hp, h1, h2⟩ := h
  have hpw : pb < W.heap.size := by
    have := hUW pb hp
    rw [Array.getElem?_eq_getElem hp] at this
    exact (Array.getElem?_eq_some_iff.1 this).1
  exact ⟨a, cap, pb, po, rfl, hr.of_eq ((Below.heap_setCell _ _ _ pb (by simp; omega)).trans (hUW pb hp)), by rw [size_set]; exact hpw, h1, h2⟩
theorem rowset {W : World} {B b o : Nat} {u y : Value} {zs : List Int} (h : Row W B u zs) (hb : b < B) : Row (W.setCell ⟨b, o, none⟩ y) B u zs := row_keep h (fun g h1 _ => Below.heap_setCell _ _ _ g (by simp; omega))
/-- What lies behind the law's first row: a table and a list of its own. -/
def MRel (w0 : World) (N : Int) (zs l : List Int) (s5 s6 : Value) (W : World) : Prop := ∃ gb a1 a2 a3 m1 m2 m3, s5 = .pointer (some ⟨gb, 0, none⟩) ∧ s6 = .slice m1 m2 m3 ∧ Blk W gb 24 [.int .i64 N, .slice a1 a2 a3] ∧ Sl W (.slice a1 a2 a3) zs ∧ Sl W (.slice m1 m2 m3) l ∧ Below w0.heap.size w0 W
set_option maxRecDepth 100000 in
set_option maxHeartbeats 8000000 in
theorem makes_law (N : Int) (v u : Value) (zs l : List Int) (w : World) (hv : Sl w v zs) (hu : Sl w u l) (hT : Tab w) (hz : zs.length * 8 ≤ 140737488355328) (hl8 : l.length * 8 ≤ 140737488355328) :
    Calls Tryd.prog 3 #[.agg #[.int .i64 N, v], u] w fun x w' => x = .returned (.bool true) ∧ Below w.heap.size w w' := by
  obtain ⟨v1, v2, v3, rfl⟩ := hv.isSlice
  obtain ⟨u1, u2, u3, rfl⟩ := hu.isSlice
  have hB0 : Below w.heap.size w ((w.alloc (.cells #[.int .i64 N, .slice v1 v2 v3] 24)).alloc (.cells #[.slice u1 u2 u3] 22)) := (balloc w _).alloc (by simp) _
  have hX0 : BoxG ((w.alloc (.cells #[.int .i64 N, .slice v1 v2 v3] 24)).alloc (.cells #[.slice u1 u2 u3] 22)) w.heap.size N (.slice v1 v2 v3) := (blk0 _ _).alloc _
  have hL0 := Boxed.new (w.alloc (.cells #[.int .i64 N, .slice v1 v2 v3] 24)) 22 (.slice u1 u2 u3)
  rw [World.size_alloc] at hL0
  obtain ⟨w0, hw0⟩ : ∃ w0, w0 = (w.alloc (.cells #[.int .i64 N, .slice v1 v2 v3] 24)).alloc (.cells #[.slice u1 u2 u3] 22) := ⟨_, rfl⟩
  rw [← hw0] at hB0 hX0 hL0
  have hT0 := hT.below hB0
  have hv0 := hv.below hB0
  have hu0 := hu.below hB0
  have HOG := hide (fun W (h : Below w0.heap.size w0 W) => ownGroup_row N (.slice v1 v2 v3) zs W (hv0.below h) hz)
  have HOW := hide (fun W (h : Below w0.heap.size w0 W) => own_any (.slice u1 u2 u3) l W (hu0.below h) hl8)
  go_enter Tryd.func3, Tryd.ntmps3
  go_wp2_with fail
  rw [← hw0]
  clear hw0
  go_cut [5, 6] (fun s5 s6 wx => MRel w0 N zs l s5 s6 wx)
  case first =>
    obtain ⟨c0, c1, _, _⟩ := hX0.two
    have c2 := hL0.cell
    have hS : ∀ W, Below w0.heap.size w0 W → (Below w0.heap.size w0 W ∧ W.cell? ⟨w.heap.size, 0, none⟩ = some (.int .i64 N) ∧ W.cell? ⟨w.heap.size, 1, none⟩ = some (.slice v1 v2 v3) ∧ W.cell? ⟨w.heap.size + 1, 0, none⟩ = some (.slice u1 u2 u3)) := fun W h => ⟨h, below_cell h c0, below_cell h c1, below_cell h c2⟩
    have hS0 := hS _ (bdrew (Below.refl _ w0))
    go_region_held3 (fun W => Below w0.heap.size w0 W ∧ W.cell? ⟨w.heap.size, 0, none⟩ = some (.int .i64 N) ∧ W.cell? ⟨w.heap.size, 1, none⟩ = some (.slice v1 v2 v3) ∧ W.cell? ⟨w.heap.size + 1, 0, none⟩ = some (.slice u1 u2 u3))
      (first | exact hS0 | assumption | exact hS _ (bcat2 (And.left ‹_›) hl1) | exact hS _ (bcat2 (And.left ‹_›) (balloc _ _)) | (refine hS _ ?_; repeat (first | exact hU2 | (refine bAlloc ?_) | (refine bSet ?_ (by omega)))))
      (first
        | (go_at_call 15; refine (HOG.out _ (And.left ‹_›)).mono ?_; rintro e1 U1 ⟨x9, rfl, hx9, hl1⟩; obtain ⟨a1, a3, rfl⟩ := row_len hx9; have hlA := hl1; have hU1 := bcat2 (And.left ‹_›) hl1; have hz1 := hU1.size; have hp1 := cell_eq hl1; have hq1 := frozen_eq hl1)
        | (go_at_call 16; refine (HOW.out _ (And.left ‹_›)).mono ?_; rintro e2 U2 ⟨m9, rfl, hm9, hl1⟩; obtain ⟨m1, m3, rfl⟩ := own_slice hm9; have hlB := hl1; have hU2 := bcat2 (And.left ‹_›) hl1; have hz2 := hU2.size; have hp2 := cell_eq hl1; have hq2 := frozen_eq hl1))
    all_goals (go_wp2; go_meet)
    · have h00 := hT0.lt
      exact ⟨_, _, _, _, _, _, _, rfl, rfl, blk0 _ _, ((row_sl hx9 (by omega)).below hlB).alloc _, (row_sl hm9 (by omega)).alloc _, bAlloc hU2⟩
    · have h00 := hT0.lt
      have hb12 := bcat2 (balloc U1 _) hlB
      have hsx := row_sl hx9 (by omega)
      have hm2 : Row U2 (U1.alloc (.cells #[.int .i64 0, .slice none 0 0] 24)).heap.size _ l := hm9
      rw [World.size_alloc] at hm2
      exact ⟨_, _, _, _, _, _, _, rfl, rfl, ((blk_below (blk0 _ _) hlB).set 0 _).set 1 _, slset hsx (Nat.le_refl _) (fun k hk => (Below.heap_setCell _ _ _ k (by simp; omega)).trans (hb12.block k hk)), row_sl (rowset (rowset hm2 (by omega)) (by omega)) (by rw [size_set, size_set]; omega), bSet (bSet hU2 (by omega)) (by omega)⟩
    · have h00 := hT0.lt
      have hA1 : w0.heap.size + 1 ≤ U1.heap.size := by have := hlA.size; simpa using this
      have hx2 : Row U1 (w0.heap.size + 1) (.slice a1 zs.length a3) zs := by
        have : Row U1 (w0.alloc (.cells #[.int .i64 0, .slice none 0 0] 24)).heap.size (.slice a1 zs.length a3) zs := hx9
        rwa [World.size_alloc] at this
      exact ⟨_, _, _, _, _, _, _, rfl, rfl, ((blk_below (blk_below (blkd _ _) hlA) hlB).set 0 _).set 1 _, row_sl (rowset (rowset (row_below hx2 hlB) (by omega)) (by omega)) (by rw [size_set, size_set]; omega), row_sl (rowset (rowset hm9 (by omega)) (by omega)) (by rw [size_set, size_set]; omega), bSet (bSet hU2 (by omega)) (by omega)⟩
  case rest =>
    obtain ⟨gb, a1, a2, a3, m1, m2, m3, rfl, rfl, hGB, hx, hm, hbx⟩ := hcut
    clear HOG HOW
    by_cases hc : (sfault N zs l).1 = 0
    · obtain ⟨n, e, rfl, hg, hl0, h0⟩ := sfault_zero hc
      obtain ⟨p, hp⟩ := mkd_test n zs e (pset l)
      have hli := set_lst (show (lfault n l).1 = 0 by rw [hl0])
      have hps : pset l = fun a => decide (a ∈ lst n (pset l)) := by
        funext a
        have : pset l a = pset (li (lst n (pset l))) a := by rw [← hli]
        rw [this]
        unfold pset
        rw [Bool.eq_iff_iff, decide_eq_true_eq, decide_eq_true_eq, mem_li]
      have hxm : ∀ x, x ∈ lst n (pset l) → x < n := fun x hx => (mem_lst.1 hx).1
      have hxl : (lst n (pset l)).length ≤ 100000 := Nat.le_trans (lst_len _ _) (by have := hg.tab.le; omega)
      have hp' : ∀ a, a < n → (p a = true ↔ Mkd n zs e (fun a => decide (a ∈ lst n (pset l))) a) := by rw [← hps]; exact hp
      have HMD := hide (fun W (h : Below w.heap.size w W) (h1 : Sl W (.slice a1 a2 a3) zs) (h2 : Sl W (.slice m1 m2 m3) l) => mde_good n e (.slice a1 a2 a3) (.slice m1 m2 m3) zs l p W h1 hg h2 (hT.below h) hl0 hp)
      have HIS := hide (fun W (h : Below w.heap.size w W) (h1 : Sl W (.slice a1 a2 a3) zs) (h2 : Sl W (.slice m1 m2 m3) l) => is_good n e (.slice a1 a2 a3) (.slice m1 m2 m3) zs l W h1 hg h2 (hT.below h) hl0)
      have HSF := hide (fun W (h : Below w.heap.size w W) => rset_any n (.slice v1 v2 v3) (.slice u1 u2 u3) zs l W (hv.below h) (hu.below h))
      rw [h0] at HSF
      simp only at HSF
      have HCL := hide (fun W (h : Below w.heap.size w W) => closed_ok n e (.slice v1 v2 v3) (.slice u1 u2 u3) zs (lst n (pset l)) W (hv.below h) hg (by rw [← hli]; exact hu.below h) hxm hxl)
      rw [← hps] at HCL
      have HLA := hide (fun W r (h : Below w0.heap.size w0 W) (hr : Sl W r (li (lst n p))) => las_good 25 #[.pointer (some ⟨w.heap.size, 0, none⟩), .pointer (some ⟨w.heap.size + 1, 0, none⟩)] r (li (lst n p)) (li (lst n p)) W hr (fun W => call23 _ _ W) (fun W' hW => spcl_ok n e w.heap.size (w.heap.size + 1) (.slice v1 v2 v3) (.slice u1 u2 u3) zs (lst n (pset l)) p W' (hv0.below (bcat2 h hW)) hg (by rw [← hli]; exact hu0.below (bcat2 h hW)) hxm hxl hp' (blk_below hX0 (bcat2 h hW)) (Boxed.below hL0 (bcat2 h hW))))
      rw [show decide (li (lst n p) = li (lst n p)) = true by simp] at HLA
      clear hps hxm hxl hp' hli hp hl0 h0 hc
      obtain ⟨b, hb⟩ : ∃ b, subT n zs e (pset l) = b := ⟨_, rfl⟩
      rw [hb] at HIS HCL
      clear hb
      have hBW := bcat2 hB0 hbx
      have HSG := hide (fun W (h1 : Sl W (.slice a1 a2 a3) zs) (h2 : Below w.heap.size w W) => sameGroup_any n n (.slice a1 a2 a3) (.slice v1 v2 v3) zs zs W h1 (hv.below h2))
      have HIN := hide (fun W (h1 : Sl W (.slice m1 m2 m3) l) (h2 : Below w.heap.size w W) => ints_any (.slice m1 m2 m3) (.slice u1 u2 u3) l l W h1 (hu.below h2))
      simp only [decide_true, Bool.and_self] at HSG HIN
      obtain ⟨c0, c1, _, _⟩ := hGB.two
      go_wp2_with fail
      clear c0 c1
      refine (HMD.out _ hBW hx hm).mono ?_
      rintro x w2 ⟨r, rfl, hr, hb2⟩
      have hrs := hr.sl
      obtain ⟨r1, r2, r3, rfl⟩ := hrs.isSlice
      clear hr
      have hF3 := blk0 (w := w2) (T := 28) (.int .i64 0) (.int .i64 0)
      have hb3 := bcat2 hb2 (balloc w2 (.cells #[.int .i64 0, .int .i64 0] 28))
      have hGB := blk_below hGB hb3
      have hx := hx.below hb3
      have hm := hm.below hb3
      have hbx := bcat2 hbx hb3
      have hBW := bcat2 hBW hb3
      have hrs := hrs.below (balloc w2 (.cells #[.int .i64 0, .int .i64 0] 28))
      obtain ⟨c0, c1, _, _⟩ := hGB.two
      go_wp2_with fail
      generalize w2.alloc (.cells #[.int .i64 0, .int .i64 0] 28) = w3 at *
      clear c0 c1
      refine (HIS.out _ hBW hx hm).mono ?_
      rintro x w4 ⟨rfl, hb4⟩
      have hF5 := blk0 (w := w4) (T := 28) (.int .i64 0) (.int .i64 0)
      have hb5 := bcat2 hb4 (balloc w4 (.cells #[.int .i64 0, .int .i64 0] 28))
      have hGB := blk_below hGB hb5
      have hx := hx.below hb5
      have hm := hm.below hb5
      have hbx := bcat2 hbx hb5
      have hBW := bcat2 hBW hb5
      have hrs := hrs.below hb5
      have hF3 := blk_below hF3 hb5
      have hX5 := blk_below hX0 hbx
      have hL5 := Boxed.below hL0 hbx
      obtain ⟨c0, c1, _, _⟩ := hX5.two
      have c2 := hL5.cell
      go_wp2_with fail
      generalize w4.alloc (.cells #[.int .i64 0, .int .i64 0] 28) = w5 at *
      clear c0 c1 c2
      refine (HSF.out _ hBW).mono ?_
      rintro x w6 ⟨rfl, hb6⟩
      have hF7 := blk0 (w := w6) (T := 28) (.int .i64 0) (.int .i64 0)
      have hb7 := bcat2 hb6 (balloc w6 (.cells #[.int .i64 0, .int .i64 0] 28))
      have hGB := blk_below hGB hb7
      have hx := hx.below hb7
      have hm := hm.below hb7
      have hbx := bcat2 hbx hb7
      have hBW := bcat2 hBW hb7
      have hrs := hrs.below hb7
      have hF3 := blk_below hF3 hb7
      have hF5 := blk_below hF5 hb7
      go_wp2_with fail
      generalize w6.alloc (.cells #[.int .i64 0, .int .i64 0] 28) = w7 at *
      refine (subBegun_any _ (hT.below hBW)).mono ?_
      rintro x w8 ⟨rfl, hb8⟩
      have hGB := blk_below hGB hb8
      have hx := hx.below hb8
      have hm := hm.below hb8
      have hbx := bcat2 hbx hb8
      have hBW := bcat2 hBW hb8
      have hrs := hrs.below hb8
      have hF3 := blk_below hF3 hb8
      have hF5 := blk_below hF5 hb8
      have hF7 := blk_below hF7 hb8
      obtain ⟨p0, p1, _, _⟩ := hF5.two
      obtain ⟨q0, q1, _, _⟩ := hF7.two
      obtain ⟨c0, c1, _, _⟩ := (blk_below hX0 hbx).two
      have c2 := (Boxed.below hL0 hbx).cell
      obtain ⟨d0, d1, _, _⟩ := hGB.two
      go_wp2_with fail
      refine (HCL.out _ hBW).mono ?_
      rintro x w9 ⟨rfl, hb9⟩
      clear c0 c1 c2 d0 d1 p0 p1 q0 q1
      have hGB := blk_below hGB hb9
      have hx := hx.below hb9
      have hm := hm.below hb9
      have hbx := bcat2 hbx hb9
      have hBW := bcat2 hBW hb9
      have hrs := hrs.below hb9
      have hF3 := blk_below hF3 hb9
      have hF7 := blk_below hF7 hb9
      obtain ⟨c0, c1, _, _⟩ := (blk_below hX0 hbx).two
      have c2 := (Boxed.below hL0 hbx).cell
      obtain ⟨d0, d1, _, _⟩ := hGB.two
      cases b
      all_goals (
        go_wp2_with fail
        refine (HSG.out _ hx hBW).mono ?_
        rintro x w10 ⟨rfl, hb10⟩
        have hm := hm.below hb10
        have hbx := bcat2 hbx hb10
        have hBW := bcat2 hBW hb10
        have hrs := hrs.below hb10
        have hF3 := blk_below hF3 hb10
        have hF7 := blk_below hF7 hb10
        clear c0 c1 c2 d0 d1
        have c2 := (Boxed.below hL0 hbx).cell
        go_wp2_with fail
        refine (HIN.out _ hm hBW).mono ?_
        rintro x w11 ⟨rfl, hb11⟩
        obtain ⟨p0, p1, _, _⟩ := (blk_below hF3 hb11).two
        obtain ⟨q0, q1, _, _⟩ := (blk_below hF7 hb11).two
        go_wp2_with fail
        refine (HLA.out _ _ (bcat2 hbx hb11) (hrs.below hb11)).mono ?_
        rintro x w12 ⟨rfl, hb12⟩
        go_wp2
        go_ret
        exact ⟨rfl, bcat2 hBW (bcat2 hb11 hb12)⟩)
    · have HMD := hide (fun W (h1 : Sl W (.slice a1 a2 a3) zs) (h2 : Sl W (.slice m1 m2 m3) l) => mde_bad N (.slice a1 a2 a3) (.slice m1 m2 m3) zs l W h1 h2 hc)
      have HIS := hide (fun W (h1 : Sl W (.slice a1 a2 a3) zs) (h2 : Sl W (.slice m1 m2 m3) l) => is_bad N (.slice a1 a2 a3) (.slice m1 m2 m3) zs l W h1 h2 hc)
      have HSF := hide (fun W (h : Below w.heap.size w W) => rset_any N (.slice v1 v2 v3) (.slice u1 u2 u3) zs l W (hv.below h) (hu.below h))
      obtain ⟨c, i, hci⟩ : ∃ c i, sfault N zs l = (c, i) := ⟨_, _, rfl⟩
      rw [hci] at HMD HIS HSF hc
      simp only at HMD HIS HSF hc
      clear hci
      have hcb : (c == 0) = false := by simpa using hc
      have hcb2 : (c != 0) = true := by simpa using hc
      have hBW := bcat2 hB0 hbx
      have HSG := hide (fun W (h1 : Sl W (.slice a1 a2 a3) zs) (h2 : Below w.heap.size w W) => sameGroup_any N N (.slice a1 a2 a3) (.slice v1 v2 v3) zs zs W h1 (hv.below h2))
      have HIN := hide (fun W (h1 : Sl W (.slice m1 m2 m3) l) (h2 : Below w.heap.size w W) => ints_any (.slice m1 m2 m3) (.slice u1 u2 u3) l l W h1 (hu.below h2))
      simp only [decide_true, Bool.and_self] at HSG HIN
      obtain ⟨c0, c1, _, _⟩ := hGB.two
      go_wp2_with fail
      clear c0 c1
      refine (HMD.out _ hx hm).mono ?_
      rintro x w2 ⟨rfl, hb2⟩
      have hF3 := blk0 (w := w2) (T := 28) (.int .i64 c) (.int .i64 i)
      have hb3 := bcat2 hb2 (balloc w2 (.cells #[.int .i64 c, .int .i64 i] 28))
      have hGB := blk_below hGB hb3
      have hx := hx.below hb3
      have hm := hm.below hb3
      have hbx := bcat2 hbx hb3
      have hBW := bcat2 hBW hb3
      obtain ⟨c0, c1, _, _⟩ := hGB.two
      go_wp2_with fail
      generalize w2.alloc (.cells #[.int .i64 c, .int .i64 i] 28) = w3 at *
      clear c0 c1
      refine (HIS.out _ hx hm).mono ?_
      rintro x w4 ⟨rfl, hb4⟩
      have hF5 := blk0 (w := w4) (T := 28) (.int .i64 c) (.int .i64 i)
      have hb5 := bcat2 hb4 (balloc w4 (.cells #[.int .i64 c, .int .i64 i] 28))
      have hGB := blk_below hGB hb5
      have hx := hx.below hb5
      have hm := hm.below hb5
      have hbx := bcat2 hbx hb5
      have hBW := bcat2 hBW hb5
      have hF3 := blk_below hF3 hb5
      have hX5 := blk_below hX0 hbx
      have hL5 := Boxed.below hL0 hbx
      obtain ⟨c0, c1, _, _⟩ := hX5.two
      have c2 := hL5.cell
      go_wp2_with fail
      generalize w4.alloc (.cells #[.int .i64 c, .int .i64 i] 28) = w5 at *
      clear c0 c1 c2
      refine (HSF.out _ hBW).mono ?_
      rintro x w6 ⟨rfl, hb6⟩
      have hF7 := blk0 (w := w6) (T := 28) (.int .i64 c) (.int .i64 i)
      have hb7 := bcat2 hb6 (balloc w6 (.cells #[.int .i64 c, .int .i64 i] 28))
      have hGB := blk_below hGB hb7
      have hx := hx.below hb7
      have hm := hm.below hb7
      have hbx := bcat2 hbx hb7
      have hBW := bcat2 hBW hb7
      have hF3 := blk_below hF3 hb7
      have hF5 := blk_below hF5 hb7
      go_wp2_with fail
      generalize w6.alloc (.cells #[.int .i64 c, .int .i64 i] 28) = w7 at *
      refine (subBegun_any _ (hT.below hBW)).mono ?_
      rintro x w8 ⟨rfl, hb8⟩
      have hGB := blk_below hGB hb8
      have hx := hx.below hb8
      have hm := hm.below hb8
      have hbx := bcat2 hbx hb8
      have hBW := bcat2 hBW hb8
      have hF3 := blk_below hF3 hb8
      have hF5 := blk_below hF5 hb8
      have hF7 := blk_below hF7 hb8
      obtain ⟨p0, p1, _, _⟩ := hF5.two
      obtain ⟨q0, q1, _, _⟩ := hF7.two
      obtain ⟨c0, c1, _, _⟩ := (blk_below hX0 hbx).two
      have c2 := (Boxed.below hL0 hbx).cell
      obtain ⟨d0, d1, _, _⟩ := hGB.two
      go_wp2_with fail
      refine (HSG.out _ hx hBW).mono ?_
      rintro x w10 ⟨rfl, hb10⟩
      have hm := hm.below hb10
      have hbx := bcat2 hbx hb10
      have hBW := bcat2 hBW hb10
      have hF3 := blk_below hF3 hb10
      have hF7 := blk_below hF7 hb10
      clear c0 c1 c2 d0 d1
      have c2 := (Boxed.below hL0 hbx).cell
      go_wp2_with fail
      refine (HIN.out _ hm hBW).mono ?_
      rintro x w11 ⟨rfl, hb11⟩
      obtain ⟨p0, p1, _, _⟩ := (blk_below hF3 hb11).two
      obtain ⟨q0, q1, _, _⟩ := (blk_below hF7 hb11).two
      go_wp2_with fail
      refine (las_bad 25 _ c i w11 hc).mono ?_
      rintro x w12 ⟨rfl, hb12⟩
      go_wp2
      go_ret
      exact ⟨rfl, bcat2 hBW (bcat2 hb11 hb12)⟩
end Go.Proofs.YtoiemlnmcfmakaaDoor
