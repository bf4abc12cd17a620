/- The law PermGroup, walked: at every three lists that can be read it returns true and nothing that lay has turned; condition: the library's table of powers of ten as the program lays it. -/
import Derived.Test.YtojnjfkonaeegaaDoorQRef
namespace Go.Proofs.YtojnjfkonaeegaaDoorQ
open Go Go.RowKit

theorem setCell_self {W : World} {b o : Nat} {c : Array Value} {T : TypeId} {fz : Nat × Nat} {v : Value} (h : W.heap[b]? = some (.cells c T fz)) (hc : c.setIfInBounds o v = c) : W.setCell ⟨b, o, none⟩ v = W := by
  unfold World.setCell
  have e : ∀ (f : Obj → Obj), f (.cells c T fz) = .cells c T fz → W.heap.modify b f = W.heap := fun f hf => by
    apply Array.ext
    · simp
    · intro i h1 h2
      rw [Array.getElem_modify]
      split
      · rename_i e
        subst e
        have : W.heap[b] = .cells c T fz := by
          obtain ⟨_, h3⟩ := Array.getElem?_eq_some_iff.1 h
          exact h3
        rw [this, hf]
      · rfl
  rw [e _ (by simp [hc])]
theorem Blk.self {W : World} {b : Nat} {T : TypeId} {x y : Value} (h : Blk W b T [x, y]) : W.setCell ⟨b, 0, none⟩ x = W ∧ W.setCell ⟨b, 1, none⟩ y = W :=
  ⟨setCell_self h (by simp), setCell_self h (by simp)⟩

/-- A block, with all that the walk asks of it: what its two cells hold, and that storing the same again turns nothing. -/
structure Two (W : World) (b : Nat) : Prop where
  blk : Blk W b 25 [.int .i64 0, .int .i64 0]
  c0 : W.cell? ⟨b, 0, none⟩ = some (.int .i64 0)
  c1 : W.cell? ⟨b, 1, none⟩ = some (.int .i64 0)
  f0 : W.frozen? ⟨b, 0, none⟩ = false
  f1 : W.frozen? ⟨b, 1, none⟩ = false
  s0 : W.setCell ⟨b, 0, none⟩ (.int .i64 0) = W
  s1 : W.setCell ⟨b, 1, none⟩ (.int .i64 0) = W
theorem Two.mk' {W : World} {b : Nat} (h : Blk W b 25 [.int .i64 0, .int .i64 0]) : Two W b := ⟨h, h.cell 0, h.cell 1, h.frozen 0, h.frozen 1, h.self.1, h.self.2⟩
theorem Two.below {W W' : World} {b : Nat} (h : Two W b) (hb : Below W.heap.size W W') : Two W' b := Two.mk' (h.blk.of_eq (hb.block _ h.blk.lt))
theorem Two.alloc {W : World} {b : Nat} (h : Two W b) (o : Obj) : Two (W.alloc o) b := Two.mk' (h.blk.alloc o)
theorem Two.new (W : World) : Two (W.alloc (.cells #[.int .i64 0, .int .i64 0] 25)) W.heap.size := Two.mk' (World.alloc_heap_new _ _)
theorem field25 (c i : Int) (w : World) : (Instr.field 25 (.agg #[.int .i64 c, .int .i64 i]) 0).run Tryd.prog w = .ok (.int .i64 c) w := by kernel_rfl
theorem balloc (W : World) (o : Obj) : Below W.heap.size W (W.alloc o) := (Below.refl _ W).alloc (Nat.le_refl _) o

end Go.Proofs.YtojnjfkonaeegaaDoorQ
