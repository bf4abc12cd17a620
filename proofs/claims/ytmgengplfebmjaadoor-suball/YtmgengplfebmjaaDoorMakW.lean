/- What the law SubMakes answers: true, at every table and every list. Condition: the library's table of places lies as its text lays it. -/
import Derived.Test.YtmgengplfebmjaaDoorClo
import Derived.Test.YtmgengplfebmjaaDoorDw
import Derived.Test.YtmgengplfebmjaaDoorThing
import Derived.Deep.DeepCutAuto
namespace Go.Proofs.YtmgengplfebmjaaDoor
open Go Go.RowKit

set_option maxRecDepth 100000 in
set_option maxHeartbeats 8000000 in
theorem las_bad (k : Nat) (caps : Array Value) (c i : Int) (w : World) (hc : c ≠ 0) :
    Calls Tryd.prog 26 #[.slice none 0 0, .agg #[.int .i64 c, .int .i64 i], .agg #[.int .i64 c, .int .i64 i], .func (.func k) #[] caps] w fun x w' => x = .returned (.bool true) ∧ Below w.heap.size w w' := by
  have hcb : (c != 0) = true := by simpa using hc
  have hF1 : Blk ((w.alloc (.cells #[.int .i64 c, .int .i64 i] 27)).alloc (.cells #[.int .i64 c, .int .i64 i] 27)) w.heap.size 27 [.int .i64 c, .int .i64 i] := (blk0 _ _).alloc _
  have hF2 := blk0 (w := w.alloc (.cells #[.int .i64 c, .int .i64 i] 27)) (T := 27) (.int .i64 c) (.int .i64 i)
  rw [World.size_alloc] at hF2
  have hb : Below w.heap.size w ((w.alloc (.cells #[.int .i64 c, .int .i64 i] 27)).alloc (.cells #[.int .i64 c, .int .i64 i] 27)) := (balloc w _).alloc (by simp) _
  obtain ⟨f0, f1, _, _⟩ := hF1.two
  obtain ⟨g0, g1, _, _⟩ := hF2.two
  go_enter Tryd.func26, Tryd.ntmps26
  go_wp2
  go_ret
  exact ⟨rfl, hb⟩
set_option maxRecDepth 100000 in
set_option maxHeartbeats 8000000 in
theorem las_good (k : Nat) (caps : Array Value) (sv : Value) (xs ys : List Int) (w : World) (hs : Sl w sv xs)
    (hcall : ∀ W, Sem.run Tryd.prog (callFunc k caps) W = .ok (.enter k caps) W)
    (hk : ∀ W, Below w.heap.size w W → Calls Tryd.prog k caps W fun x w' => ∃ r, x = .returned r ∧ Sl w' r ys ∧ Below W.heap.size W w') :
    Calls Tryd.prog 26 #[sv, .agg #[.int .i64 0, .int .i64 0], .agg #[.int .i64 0, .int .i64 0], .func (.func k) #[] caps] w fun x w' => x = .returned (.bool (decide (xs = ys))) ∧ Below w.heap.size w w' := by
  have hF1 : Blk ((w.alloc (.cells #[.int .i64 0, .int .i64 0] 27)).alloc (.cells #[.int .i64 0, .int .i64 0] 27)) w.heap.size 27 [.int .i64 0, .int .i64 0] := (blk0 _ _).alloc _
  have hF2 := blk0 (w := w.alloc (.cells #[.int .i64 0, .int .i64 0] 27)) (T := 27) (.int .i64 0) (.int .i64 0)
  rw [World.size_alloc] at hF2
  have hb : Below w.heap.size w ((w.alloc (.cells #[.int .i64 0, .int .i64 0] 27)).alloc (.cells #[.int .i64 0, .int .i64 0] 27)) := (balloc w _).alloc (by simp) _
  obtain ⟨f0, f1, _, _⟩ := hF1.two
  obtain ⟨g0, g1, _, _⟩ := hF2.two
  have HK := hide hk
  clear hk
  go_enter Tryd.func26, Tryd.ntmps26
  go_wp2_with fail
  generalize (w.alloc (.cells #[.int .i64 0, .int .i64 0] 27)).alloc (.cells #[.int .i64 0, .int .i64 0] 27) = w0 at *
  refine (HK.out w0 hb).mono ?_
  rintro x w1 ⟨r, rfl, hr, hb1⟩
  go_wp2_with fail
  refine (ints_any sv r xs ys w1 (hs.below (bcat2 hb hb1)) hr).mono ?_
  rintro x w2 ⟨rfl, hb2⟩
  go_wp2
  go_ret
  exact ⟨rfl, bcat2 (bcat2 hb hb1) hb2⟩
theorem bAlloc {a W : World} {o : Obj} (h : Below a.heap.size a W) : Below a.heap.size a (W.alloc o) := h.alloc h.size o
theorem bSet {a W : World} {b o : Nat} {x : Value} (h : Below a.heap.size a W) (hb : a.heap.size ≤ b) : Below a.heap.size a (W.setCell ⟨b, o, none⟩ x) := h.setCell (p := ⟨b, o, none⟩) (by simpa using hb) x
set_option maxRecDepth 100000 in
set_option maxHeartbeats 2000000 in
theorem ownGroup_row (N : Int) (v : Value) (zs : List Int) (w : World) (hv : Sl w v zs) (hb : zs.length * 8 ≤ 140737488355328) :
    Calls Tryd.prog 10 #[.agg #[.int .i64 N, v]] w fun e w' => ∃ u, e = .returned (.agg #[.int .i64 N, u]) ∧ Row w' w.heap.size u zs ∧ Below w.heap.size w w' := by
  obtain ⟨w0, hw0⟩ : ∃ w0, w0 = (w.alloc (.cells #[.int .i64 N, v] 24)).alloc (.cells #[.int .i64 0, .slice none 0 0] 24) := ⟨_, rfl⟩
  have hB0 : Below w.heap.size w w0 := by rw [hw0]; exact (balloc w _).alloc (by simp) _
  have hg0 : BoxG w0 w.heap.size N v := by rw [hw0]; exact (blk0 _ _).alloc _
  have hR0 : Blk w0 (w.heap.size + 1) 24 [.int .i64 0, .slice none 0 0] := by
    rw [hw0]
    have : Blk ((w.alloc (.cells #[.int .i64 N, v] 24)).alloc (.cells #[.int .i64 0, .slice none 0 0] 24)) (w.alloc (.cells #[.int .i64 N, v] 24)).heap.size 24 [.int .i64 0, .slice none 0 0] := blk0 _ _
    rw [World.size_alloc] at this; exact this
  have hv0 := hv.below hB0
  obtain ⟨k0, k1, _, _⟩ := hg0.two
  obtain ⟨r0, r1, fr0, fr1⟩ := hR0.two
  obtain ⟨a, cap, pb, po, rfl, hr, hp, hq3, hq4⟩ := id hv
  have hS : ∀ W, Below w0.heap.size w0 W → (Below w.heap.size w W ∧ W.cell? ⟨w.heap.size, 0, none⟩ = some (.int .i64 N) ∧ W.cell? ⟨w.heap.size, 1, none⟩ = some (.slice a zs.length cap)) := fun W h => ⟨bcat hB0 h hB0.size, below_cell h k0, below_cell h k1⟩
  have hS3 : ∀ W u, Below w0.heap.size w0 W → (Below w.heap.size w ((W.setCell ⟨w.heap.size + 1, 0, none⟩ (.int .i64 N)).setCell ⟨w.heap.size + 1, 1, none⟩ u) ∧ ((W.setCell ⟨w.heap.size + 1, 0, none⟩ (.int .i64 N)).setCell ⟨w.heap.size + 1, 1, none⟩ u).cell? ⟨w.heap.size, 0, none⟩ = some (.int .i64 N) ∧ ((W.setCell ⟨w.heap.size + 1, 0, none⟩ (.int .i64 N)).setCell ⟨w.heap.size + 1, 1, none⟩ u).cell? ⟨w.heap.size, 1, none⟩ = some (.slice a zs.length cap)) := fun W u h => by
    have h1 : Below w.heap.size w W := bcat hB0 h hB0.size
    refine ⟨(h1.setCell (p := ⟨w.heap.size + 1, 0, none⟩) (by simp) _).setCell (p := ⟨w.heap.size + 1, 1, none⟩) (by simp) _, ?_, ?_⟩
    · rw [World.cell?_setCell_far _ _ _ _ (by simp), World.cell?_setCell_far _ _ _ _ (by simp)]; exact below_cell h k0
    · rw [World.cell?_setCell_far _ _ _ _ (by simp), World.cell?_setCell_far _ _ _ _ (by simp)]; exact below_cell h k1
  have hS0 := hS _ (bdrew (Below.refl _ w0))
  clear k0 k1 r0 r1 fr0 fr1
  go_enter Tryd.func10, Tryd.ntmps10
  go_wp2_with fail
  rw [← hw0]
  clear hw0
  go_region_held3 (fun W => Below w.heap.size w W ∧ W.cell? ⟨w.heap.size, 0, none⟩ = some (.int .i64 N) ∧ W.cell? ⟨w.heap.size, 1, none⟩ = some (.slice a zs.length cap))
    (first | exact hS0 | assumption | exact hS _ hl2 | exact hS3 _ _ hl2)
    (first | (go_at_call 21; refine (own_any _ zs _ (hv.below (And.left ‹_›)) hb).mono ?_; rintro e W1 ⟨u, rfl, hu1, hl1⟩; obtain ⟨a9, cap9, rfl⟩ := own_slice hu1; have hl2 := undrew hl1; obtain ⟨y0, y1, fy0, fy1⟩ := (blk_below hR0 hl2).two))
  have hR1 := blk_below hR0 hl2
  have hBw := bcat hB0 hl2 hB0.size
  have hs9 := hR0.lt
  have hu2 : Row ((W1.setCell ⟨w.heap.size + 1, 0, none⟩ (.int .i64 N)).setCell ⟨w.heap.size + 1, 1, none⟩ (.slice a9 zs.length cap9)) w.heap.size (.slice a9 zs.length cap9) zs := owns_mono (own_keep hu1 (fun b hb _ => by
    have hb : w0.heap.size ≤ b := hb
    rw [Below.heap_setCell _ _ _ _ (by simp; omega), Below.heap_setCell _ _ _ _ (by simp; omega)])) hB0.size
  have hR6 : Blk ((W1.setCell ⟨w.heap.size + 1, 0, none⟩ (.int .i64 N)).setCell ⟨w.heap.size + 1, 1, none⟩ (.slice a9 zs.length cap9)) (w.heap.size + 1) 24 [.int .i64 N, .slice a9 zs.length cap9] := (hR1.set 0 _).set 1 _
  have hB6 := (hBw.setCell (p := ⟨w.heap.size + 1, 0, none⟩) (by simp) (.int .i64 N)).setCell (p := ⟨w.heap.size + 1, 1, none⟩) (by simp) (.slice a9 zs.length cap9)
  clear y0 y1 fy0 fy1 hS hS3 hS0
  go_wp2
  generalize (W1.setCell ⟨w.heap.size + 1, 0, none⟩ (.int .i64 N)).setCell ⟨w.heap.size + 1, 1, none⟩ (.slice a9 zs.length cap9) = W at hR6 hB6 hu2 ⊢
  obtain ⟨z0, z1, _, _⟩ := hR6.two
  exact bodyPost_ret (v := .agg #[.int .i64 N, .slice a9 zs.length cap9]) (by simp [results, Tryd.results10, go_sem, z0, z1]) rfl ⟨_, rfl, hu2, hB6⟩
theorem slset {U W : World} {x : Value} {zs : List Int} {b o : Nat} {y : Value} (h : Sl U x zs) (hb : U.heap.size ≤ b) (hUW : ∀ k, k < U.heap.size → W.heap[k]? = U.heap[k]?) : Sl (W.setCell ⟨b, o, none⟩ y) x zs := by
  obtain ⟨a, cap, pb, po, rfl, hr, hp, h1, h2⟩ := h
  have hpw : pb < W.heap.size := by
    have := hUW pb hp
    rw [Array.getElem?_eq_getElem hp] at this
    exact (Array.getElem?_eq_some_iff.1 this).1
  exact ⟨a, cap, pb, po, rfl, hr.of_eq ((Below.heap_setCell _ _ _ pb (by simp; omega)).trans (hUW pb hp)), by rw [size_set]; exact hpw, h1, h2⟩
theorem rowset {W : World} {B b o : Nat} {u y : Value} {zs : List Int} (h : Row W B u zs) (hb : b < B) : Row (W.setCell ⟨b, o, none⟩ y) B u zs := row_keep h (fun g h1 _ => Below.heap_setCell _ _ _ g (by simp; omega))
/-- What lies behind the law's first row: a table and a list of its own. -/
def MRel (w0 : World) (N : Int) (zs l : List Int) (s5 s6 : Value) (W : World) : Prop := ∃ gb a1 a2 a3 m1 m2 m3, s5 = .pointer (some ⟨gb, 0, none⟩) ∧ s6 = .slice m1 m2 m3 ∧ Blk W gb 24 [.int .i64 N, .slice a1 a2 a3] ∧ Sl W (.slice a1 a2 a3) zs ∧ Sl W (.slice m1 m2 m3) l ∧ Below w0.heap.size w0 W
end Go.Proofs.YtmgengplfebmjaaDoor
