/- What the document's C and Commutator answer, and its SubFault. -/
import Derived.Test.YtmgengplfebmjaaDoorClo
namespace Go.Proofs.YtmgengplfebmjaaDoor
open Go Go.RowKit

set_option maxRecDepth 100000 in
set_option maxHeartbeats 4000000 in
theorem rcj_ok (n e a b : Nat) (v : Value) (zs : List Int) (w : World) (g : IsGrp n zs e) (hv : Sl w v zs) (ha : a < n) (hb : b < n) :
    Calls Tryd.prog 35 #[.agg #[.int .i64 n, v], .int .i64 a, .int .i64 b] w fun x w' => x = .returned (.int .i64 (Fin.cj (tm n zs) (iv n zs e) a b)) ∧ Below w.heap.size w w' := by
  have hB0 : Below w.heap.size w (w.alloc (.cells #[.int .i64 n, v] 24)) := balloc w _
  have hX0 : BoxG (w.alloc (.cells #[.int .i64 n, v] 24)) w.heap.size n v := blk0 _ _
  obtain ⟨w0, hw0⟩ : ∃ w0, w0 = w.alloc (.cells #[.int .i64 n, v] 24) := ⟨_, rfl⟩
  rw [← hw0] at hB0 hX0
  have hv0 := hv.below hB0
  obtain ⟨c0, c1, _, _⟩ := hX0.two
  obtain ⟨hib, _, _, _⟩ := iv_spec g hb
  have hab := tm_lt g.tab ha hb
  show Calls Tryd.prog 35 _ w fun x w' => x = .returned (.int .i64 (tm n zs (iv n zs e b) (tm n zs a b))) ∧ Below w.heap.size w w'
  have HI := hide (fun W x (h : Below w0.heap.size w0 W) (hx : x < n) => Iiv_ok n x e v zs W g (hv0.below h) hx)
  have HM := hide (fun W x y (h : Below w0.heap.size w0 W) (hx : x < n) (hy : y < n) => M_ok n v zs x y W g.tab (hv0.below h) hx hy)
  have hS : ∀ W, Below w0.heap.size w0 W → (Below w0.heap.size w0 W ∧ W.cell? ⟨w.heap.size, 0, none⟩ = some (.int .i64 n) ∧ W.cell? ⟨w.heap.size, 1, none⟩ = some v) := fun W h => ⟨h, below_cell h c0, below_cell h c1⟩
  have hS0 := hS _ (bdrew (Below.refl _ w0))
  clear c0 c1
  go_enter Tryd.func35, Tryd.ntmps35
  go_wp2_with fail
  rw [← hw0]
  clear hw0
  go_region_held3 (fun W => Below w0.heap.size w0 W ∧ W.cell? ⟨w.heap.size, 0, none⟩ = some (.int .i64 n) ∧ W.cell? ⟨w.heap.size, 1, none⟩ = some v)
    (first | exact hS0 | assumption | exact hS _ (bcat2 (And.left ‹_›) hl1))
    (first
      | (go_at_call 60; refine (HI.out _ _ (And.left ‹_›) (by assumption)).mono ?_; rintro e1 U1 ⟨rfl, hl1⟩)
      | (go_at_call 59; refine (HM.out _ _ _ (And.left ‹_›) (by assumption) (by assumption)).mono ?_; rintro e1 U1 ⟨rfl, hl1⟩))
  all_goals (
    have hB9 := And.left ‹Below w0.heap.size w0 U1 ∧ _›
    clear hS hS0
    go_wp2
    go_ret
    exact ⟨rfl, bcat2 hB0 hB9⟩)
end Go.Proofs.YtmgengplfebmjaaDoor
