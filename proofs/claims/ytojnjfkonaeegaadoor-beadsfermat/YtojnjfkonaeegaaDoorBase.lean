/- What every walk of this family leans on: how a list and a table that came in are read, what stays where something is called. No condition. -/
import Derived.Test.YtojnjfkonaeegaaDoorKit
import Derived.Test.YtojnjfkonaeegaaDoorProg
import Derived.WalkKit
import Derived.RangeFuncBox
import Derived.Maps.AppendAt
import Derived.Deep.QuietTactic
import Derived.BigQuiet
import Derived.Deep.RegionHeld3
import Derived.ArgAppend
namespace Go.Proofs.YtojnjfkonaeegaaDoor
open Go Go.RowKit

/-- A slice value whose elements, as many as zs, are zs: they lie in block pb from po on. -/
structure Reads (w : World) (a : Option Addr) (pb po : Nat) (zs : List Int) : Prop where
  at_ : 0 < zs.length → a = some ⟨pb, po, none⟩
  cell : ∀ j, j < zs.length → w.cell? ⟨pb, po + j, none⟩ = some (.int .i64 (zs[j]?.getD 0))

theorem Reads.of_eq {w w' : World} {a : Option Addr} {pb po : Nat} {zs : List Int} (h : Reads w a pb po zs) (hb : w'.heap[pb]? = w.heap[pb]?) : Reads w' a pb po zs :=
  ⟨h.at_, fun j hj => (World.cell?_of_block (a := ⟨pb, po + j, none⟩) hb).trans (h.cell j hj)⟩
theorem Reads.below {B : Nat} {w w' : World} {a : Option Addr} {pb po : Nat} {zs : List Int} (h : Reads w a pb po zs) (hb : Below B w w') (hp : pb < B) : Reads w' a pb po zs := h.of_eq (hb.block pb hp)
theorem Reads.lt {w : World} {a : Option Addr} {pb po : Nat} {zs : List Int} (h : Reads w a pb po zs) (h0 : 0 < zs.length) : pb < w.heap.size :=
  World.block_lt_of_cell? w ⟨pb, po + 0, none⟩ (h.cell 0 h0)

/-- A slice of ints that reads as zs. -/
def Sl (w : World) (v : Value) (zs : List Int) : Prop := ∃ a cap pb po, v = .slice a zs.length cap ∧ Reads w a pb po zs ∧ pb < w.heap.size ∧ zs.length ≤ cap ∧ cap ≤ maxLen
theorem Sl.below {w w' : World} {v : Value} {zs : List Int} (h : Sl w v zs) (hb : Below w.heap.size w w') : Sl w' v zs := by
  obtain ⟨a, cap, pb, po, hv, hr, hp, h1, h2⟩ := h
  exact ⟨a, cap, pb, po, hv, hr.below hb hp, Nat.lt_of_lt_of_le hp hb.size, h1, h2⟩
theorem bdrewN {B : Nat} {a w : World} (h : Below B a w) (k : Nat) : Below B a (w.drewN k) := ⟨h.os, h.tape, h.output, h.size, h.block⟩
theorem bcat {B : Nat} {a b c : World} (h : Below B a b) (k : Below b.heap.size b c) (hB : B ≤ b.heap.size) : Below B a c := h.trans (k.mono hB)

theorem blk0 {w : World} {T : TypeId} (x y : Value) : Blk (w.alloc (.cells #[x, y] T)) w.heap.size T [x, y] := World.alloc_heap_new w _

/-- The end of a function whose result is a fault that lies in a block. -/
theorem Blk.two {W : World} {B : Nat} {T : TypeId} {x y : Value} (h : Blk W B T [x, y]) : W.cell? ⟨B, 0, none⟩ = some x ∧ W.cell? ⟨B, 1, none⟩ = some y ∧ W.frozen? ⟨B, 0, none⟩ = false ∧ W.frozen? ⟨B, 1, none⟩ = false :=
  ⟨h.cell 0, h.cell 1, h.frozen 0, h.frozen 1⟩

theorem setCell_self {W : World} {b o : Nat} {c : Array Value} {T : TypeId} {fz : Nat × Nat} {v : Value} (h : W.heap[b]? = some (.cells c T fz)) (hc : c.setIfInBounds o v = c) : W.setCell ⟨b, o, none⟩ v = W := by
  unfold World.setCell
  have e : ∀ (f : Obj → Obj), f (.cells c T fz) = .cells c T fz → W.heap.modify b f = W.heap := fun f hf => by
    apply Array.ext
    · simp
    · intro i h1 h2
      rw [Array.getElem_modify]
      split
      · rename_i e
        subst e
        have : W.heap[b] = .cells c T fz := by
          obtain ⟨_, h3⟩ := Array.getElem?_eq_some_iff.1 h
          exact h3
        rw [this, hf]
      · rfl
  rw [e _ (by simp [hc])]
theorem Blk.self {W : World} {b : Nat} {T : TypeId} {x y : Value} (h : Blk W b T [x, y]) : W.setCell ⟨b, 0, none⟩ x = W ∧ W.setCell ⟨b, 1, none⟩ y = W :=
  ⟨setCell_self h (by simp), setCell_self h (by simp)⟩

/-- A block, with all that the walk asks of it: what its two cells hold, and that storing the same again turns nothing. -/
structure Two (W : World) (b : Nat) : Prop where
  blk : Blk W b 25 [.int .i64 0, .int .i64 0]
  c0 : W.cell? ⟨b, 0, none⟩ = some (.int .i64 0)
  c1 : W.cell? ⟨b, 1, none⟩ = some (.int .i64 0)
  f0 : W.frozen? ⟨b, 0, none⟩ = false
  f1 : W.frozen? ⟨b, 1, none⟩ = false
  s0 : W.setCell ⟨b, 0, none⟩ (.int .i64 0) = W
  s1 : W.setCell ⟨b, 1, none⟩ (.int .i64 0) = W
theorem Two.mk' {W : World} {b : Nat} (h : Blk W b 25 [.int .i64 0, .int .i64 0]) : Two W b := ⟨h, h.cell 0, h.cell 1, h.frozen 0, h.frozen 1, h.self.1, h.self.2⟩
theorem Two.below {W W' : World} {b : Nat} (h : Two W b) (hb : Below W.heap.size W W') : Two W' b := Two.mk' (h.blk.of_eq (hb.block _ h.blk.lt))
theorem Two.alloc {W : World} {b : Nat} (h : Two W b) (o : Obj) : Two (W.alloc o) b := Two.mk' (h.blk.alloc o)
theorem Two.new (W : World) : Two (W.alloc (.cells #[.int .i64 0, .int .i64 0] 25)) W.heap.size := Two.mk' (blk0 _ _)
theorem field26 (c i : Int) (w : World) : (Instr.field 25 (.agg #[.int .i64 c, .int .i64 i]) 0).run Tryd.prog w = .ok (.int .i64 c) w := by kernel_rfl
theorem balloc (W : World) (o : Obj) : Below W.heap.size W (W.alloc o) := (Below.refl _ W).alloc (Nat.le_refl _) o

theorem bcat2 {a b c : World} (h : Below a.heap.size a b) (k : Below b.heap.size b c) : Below a.heap.size a c := h.trans (k.mono h.size)
theorem below_cell {a b : World} (h : Below a.heap.size a b) {p : Addr} {v : Value} (hc : a.cell? p = some v) : b.cell? p = some v := by
  have hl := World.block_lt_of_cell? a p hc
  rw [← hc]; simp [World.cell?, h.block _ hl]

theorem bdrew {B : Nat} {a w : World} (h : Below B a w) : Below B a w.drew := ⟨h.os, h.tape, h.output, h.size, h.block⟩
/-- A variable that lies in a cell of its own. -/
theorem Boxed.below {W W' : World} {b : Nat} {t : TypeId} {v : Value} (h : Boxed W b t v) (hb : Below W.heap.size W W') : Boxed W' b t v := (hb.block _ h.lt).trans h

theorem Sl.nil {w : World} (h0 : 0 < w.heap.size) : Sl w (.slice none 0 0) [] := ⟨none, 0, 0, 0, rfl, ⟨by simp, by simp⟩, h0, by simp, by unfold maxLen; omega⟩
theorem info3b : (Tryd.prog.info? 3).map (fun i => (i.zero, i.size, i.bytes)) = some (some (.int .i64 0), 1, 8) := by kernel_rfl
theorem under22b : Tryd.prog.underlying 22 = some (.slice 3) := by kernel_rfl
theorem Sl.of_blk {w : World} {g n : Nat} {zs : List Int} (h : Blk w g 3 (zs.map (Value.int .i64))) (hn : n = zs.length) (hl : zs.length ≤ 1000000) : Sl w (.slice (some ⟨g, 0, none⟩) n n) zs := by
  subst hn
  exact ⟨some ⟨g, 0, none⟩, zs.length, g, 0, rfl, ⟨fun _ => rfl, fun j hj => by rw [Nat.zero_add]; exact h.int hj⟩, h.lt, Nat.le_refl _, by unfold maxLen; omega⟩

theorem Sl.of_own {w : World} {base : Nat} {v : Value} {zs : List Int} (h : w.ownsRow base 3 1 v zs.length (zs.map (Value.int .i64))) (h0 : 0 < w.heap.size) : Sl w v zs := by
  rcases h.2 with ⟨rfl, hz⟩ | ⟨g, cap, cur, rfl, _, hh, h1, h2, _⟩
  · have : zs = [] := List.length_eq_zero_iff.1 hz
    subst this
    exact ⟨none, 0, 0, 0, rfl, ⟨by simp, by simp⟩, h0, by simp, by unfold maxLen; omega⟩
  · refine ⟨some ⟨g, 0, none⟩, cap, g, 0, rfl, ⟨fun _ => rfl, fun j hj => ?_⟩, (Array.getElem?_eq_some_iff.1 hh).1, h1, h2⟩
    have h3 := h.cells (g := g) rfl j (.int .i64 (zs[j]?.getD 0)) (by simp [hj])
    rw [show (⟨g, 0, none⟩ : Addr).add j = ⟨g, j, none⟩ by unfold Addr.add; split <;> simp_all] at h3
    rw [Nat.zero_add]; exact h3

end Go.Proofs.YtojnjfkonaeegaaDoor
