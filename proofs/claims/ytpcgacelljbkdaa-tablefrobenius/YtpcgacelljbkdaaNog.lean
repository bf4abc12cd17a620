/- What the question for no group answers at no group; boxes of a group and of a fault. -/
import Derived.Test.YtpcgacelljbkdaaProduct
namespace Go.Proofs.Ytpcgacelljbkdaa
open Go Go.RowKit

theorem cell_eq {a b : World} (h : Below a.heap.size a b) (p : Addr) (hp : (a.cell? p).isSome = true) : b.cell? p = a.cell? p := by
  obtain ⟨v, hv⟩ := Option.isSome_iff_exists.1 hp
  rw [hv]; exact below_cell h hv
theorem frozen_eq {a b : World} (h : Below a.heap.size a b) (p : Addr) (hp : (a.cell? p).isSome = true) : b.frozen? p = a.frozen? p := by
  obtain ⟨v, hv⟩ := Option.isSome_iff_exists.1 hp
  simp [World.frozen?, h.block _ (World.block_lt_of_cell? a p hv)]
theorem Sl.alloc {W : World} {v : Value} {zs : List Int} (h : Sl W v zs) (o : Obj) : Sl (W.alloc o) v zs := h.below (balloc W o)

set_option maxRecDepth 100000 in
set_option maxHeartbeats 8000000 in
theorem noGroup_none (w : World) : Calls Try.prog 39 #[.agg #[.int .i64 0, .slice none 0 0]] w fun r w' => r = .returned (.bool true) ∧ Below w.heap.size w w' := by
  have hB0 : Below w.heap.size w (w.alloc (.cells #[.int .i64 0, .slice none 0 0] 24)) := balloc w _
  have N0 : Blk (w.alloc (.cells #[.int .i64 0, .slice none 0 0] 24)) w.heap.size 24 [.int .i64 0, .slice none 0 0] := blk0 _ _
  obtain ⟨c0, c1, _, _⟩ := N0.two
  go_enter Try.func39, Try.ntmps39
  go_wp2
  go_ret
  exact ⟨rfl, hB0⟩

/-- A group and a fault that lie in boxes of their own. -/
theorem boxes (W : World) (N : Int) (u : Value) (c i : Int) : ∃ V, V = (W.alloc (.cells #[.int .i64 N, u] 24)).alloc (.cells #[.int .i64 c, .int .i64 i] 27) ∧ Blk V W.heap.size 24 [.int .i64 N, u] ∧ Blk V (W.heap.size + 1) 27 [.int .i64 c, .int .i64 i] ∧ Below W.heap.size W V :=
  ⟨_, rfl, (blk0 _ _).alloc _, blkNew _ _ _ _ _ (by simp), (balloc W _).alloc (by simp) _⟩
theorem Blk.c0 {W : World} {B : Nat} {T : TypeId} {x y : Value} (h : Blk W B T [x, y]) : W.cell? ⟨B, 0, none⟩ = some x := h.cell 0
theorem Blk.c1 {W : World} {B : Nat} {T : TypeId} {x y : Value} (h : Blk W B T [x, y]) : W.cell? ⟨B, 1, none⟩ = some y := h.cell 1
end Go.Proofs.Ytpcgacelljbkdaa
