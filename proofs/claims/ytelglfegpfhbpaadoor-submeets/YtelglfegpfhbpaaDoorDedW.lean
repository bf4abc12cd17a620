/- What the law SubDedekind answers: true, at every table and every three lists. Condition: the library's table of places lies as its text lays it. -/
import Derived.Test.YtelglfegpfhbpaaDoorDedA
import Derived.Deep.DeepCutAuto
namespace Go.Proofs.YtelglfegpfhbpaaDoor
open Go Go.RowKit

/-- What lies behind the third Made: its list, and a fault in a box that is none. -/
def DRel (w5 : World) (zs : List Int) (s13 s14 : Value) (W : World) : Prop := ∃ fb a l c, s13 = .slice a l c ∧ s14 = .pointer (some ⟨fb, 0, none⟩) ∧ Blk W fb 27 [.int .i64 0, .int .i64 0] ∧ Sl W (.slice a l c) zs ∧ Below w5.heap.size w5 W
theorem blkd {w : World} {T : TypeId} (x y : Value) : Blk (w.alloc (.cells #[x, y] T)).drew w.heap.size T [x, y] := blk0 (w := w) x y
theorem cell_eq {a b : World} (h : Below a.heap.size a b) (p : Addr) (hp : (a.cell? p).isSome = true) : b.cell? p = a.cell? p := by
  obtain ⟨v, hv⟩ := Option.isSome_iff_exists.1 hp
  rw [hv]; exact below_cell h hv
theorem frozen_eq {a b : World} (h : Below a.heap.size a b) (p : Addr) (hp : (a.cell? p).isSome = true) : b.frozen? p = a.frozen? p := by
  obtain ⟨v, hv⟩ := Option.isSome_iff_exists.1 hp
  exact World.frozen?_of_block (h.block _ (World.block_lt_of_cell? a p hv))
theorem those_sl {f : Nat} {args : Array Value} {w : World} {zs : List Int} (h0 : 0 < w.heap.size) (h : Calls Tryd.prog f args w fun x w' => ∃ r, x = .returned r ∧ Row w' w.heap.size r zs ∧ Below w.heap.size w w') :
    Calls Tryd.prog f args w fun x w' => ∃ a l c, x = .returned (.slice a l c) ∧ Sl w' (.slice a l c) zs ∧ Below w.heap.size w w' := by
  refine h.mono ?_
  rintro x w' ⟨r, rfl, hr, hb⟩
  have hs := row_sl hr (Nat.lt_of_lt_of_le h0 hb.size)
  obtain ⟨a, l, c, rfl⟩ := hs.isSlice
  exact ⟨a, l, c, rfl, hs, hb⟩
theorem set_same (W : World) (b o : Nat) (v : Value) (h : W.cell? ⟨b, o, none⟩ = some v) : W.setCell ⟨b, o, none⟩ v = W := by
  unfold World.cell? at h
  cases hb : W.heap[b]? with
  | none => simp [hb] at h
  | some ob =>
    cases ob with
    | cells c T fz =>
      refine setCell_self hb ?_
      simp [hb] at h
      obtain ⟨h1, h2⟩ := Array.getElem?_eq_some_iff.1 h
      apply Array.ext
      · simp
      · intro i h3 h4
        rw [Array.getElem_setIfInBounds (by simpa using h4)]
        split
        · rename_i e; subst e; exact h2.symm
        · rfl
    | _ => simp [hb] at h
theorem Sl.alloc {w : World} {v : Value} {zs : List Int} (h : Sl w v zs) (o : Obj) : Sl (w.alloc o) v zs := h.below (balloc w o)

end Go.Proofs.YtelglfegpfhbpaaDoor
