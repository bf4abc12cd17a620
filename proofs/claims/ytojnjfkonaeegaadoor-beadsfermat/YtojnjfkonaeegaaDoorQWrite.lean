/- What perm.writeCycle does: it writes a cycle's points, in brackets, a blank between, onto the builder; conditions: points of at most 1000, a text that stays far below the limit of memory, the library's table of powers of ten as the program lays it. -/
import Derived.Test.YtojnjfkonaeegaaDoorQCyc
import Derived.Test.YtojnjfkonaeegaaDoorQShelf
import Derived.Lib.ItoaMem
import Derived.Lib.OthersKept
import Derived.WalkSmall
namespace Go.Proofs.YtojnjfkonaeegaaDoorQ
open Go Go.RowKit Go.Sort

theorem gb_grow (w : World) (k : Nat) (os : Array Obj) : w.grownBy (grow (w.drewN k) os) none :=
  ⟨rfl, rfl, rfl, by simp [grow, World.drewN], fun b hb _ => by
    show (w.heap ++ os)[b]? = w.heap[b]?
    rw [Array.getElem?_append_left hb]⟩
theorem isB_grown {T e : TypeId} {B b : Nat} {bs : List Value} {w w' : World} (h : Lib.IsBuilderF T e B b bs w) (hg : w.grownBy w' none) : Lib.IsBuilderF T e B b bs w' := by
  rcases h with ⟨hB, v, hh, ho, hn⟩ | ⟨hB, v, hh, ho, hn⟩
  · exact .inl ⟨hB, v, (hg.block b (Array.getElem?_eq_some_iff.1 hh).1 (by simp)).trans hh, ho.kept hg (by cases hv : v.ownBlock <;> simp), hn⟩
  · exact .inr ⟨hB, v, (hg.block b (Array.getElem?_eq_some_iff.1 hh).1 (by simp)).trans hh, ho.kept hg (by cases hv : v.ownBlock <;> simp), hn⟩
theorem ok_grown {e : TypeId} {b : Option Nat} {a w w' : World} (h : Lib.OthersKept e b a w) (hg : w.grownBy w' none) : Lib.OthersKept e b a w' := h.grown hg (fun _ h => by cases h)

/-- The table of powers of ten lies as the program lays it, in a block below B. -/
def Tab (B : Nat) (w : World) : Prop := Lib.TabIs Tryd.prog w "internal/strconv.uint64pow10" .u64 Lib.pow10Tab ∧ ∃ g, Tryd.prog.globalNamed "internal/strconv.uint64pow10" = some g ∧ g < B
theorem Tab.below {B : Nat} {w w' : World} (h : Tab B w) (hb : Below B w w') : Tab B w' := by
  obtain ⟨h1, g, hg, hB⟩ := h
  exact ⟨var?_below hb hg hB h1, g, hg, hB⟩

theorem dec_len : ∀ (u : Nat), (Lib.decDigits u).length ≤ u + 1 := by
  intro u
  induction u using Nat.strongRecOn with
  | _ u ih =>
    rw [Lib.decDigits]
    split
    · simp
    · rename_i h
      have := ih (u / 10) (by omega)
      simp; omega

/-- The bytes of the first k points of a cycle, a blank between. -/
def part (c : List Nat) : Nat → List UInt8
  | 0 => []
  | k + 1 => part c k ++ (if 0 < k then [32] else []) ++ Lib.itoa (((c[k]?.getD 0 : Nat)) : Int)
/-- The text of a cycle. -/
def ctext (c : List Nat) : List UInt8 := [40] ++ part c c.length ++ [41]
theorem part_len {c : List Nat} (h : ∀ j, j < c.length → c[j]?.getD 0 ≤ 1000) : ∀ k, k ≤ c.length → (part c k).length ≤ k * 1002
  | 0, _ => by simp [part]
  | k + 1, hk => by
    have h1 := part_len h k (by omega)
    have h2 := h k (by omega)
    have h3 := dec_len (c[k]?.getD 0)
    rw [part, Lib.itoa_nonneg]
    simp only [List.length_append]
    split <;> simp <;> omega
theorem cells_app (a b : List UInt8) : Lib.byteCells a ++ Lib.byteCells b = Lib.byteCells (a ++ b) := by simp [Lib.byteCells]
theorem strCells_list (l : List UInt8) : Lib.strCells ⟨l.toArray⟩ = Lib.byteCells l := by simp [Lib.strCells, Lib.byteCells]
theorem cells_len (l : List UInt8) : (Lib.byteCells l).length = l.length := Lib.byteCells_length l

theorem own_cell {w : World} {base g cap : Nat} {c : List Nat} (h : w.ownsRow base 3 1 (.slice (some ⟨g, 0, none⟩) c.length cap) c.length (pts c)) {j : Nat} (hj : j < c.length) :
    w.cell? ⟨g, j, none⟩ = some (.int .i64 ((c[j]?.getD 0 : Nat) : Int)) := by
  have h1 := h.cells (g := g) rfl j (.int .i64 ((c[j]?.getD 0 : Nat) : Int)) (by simp [pts, hj])
  rw [show (⟨g, 0, none⟩ : Addr).add j = ⟨g, j, none⟩ by unfold Addr.add; split <;> simp_all] at h1
  exact h1
theorem own_kept {w w' : World} {base : Nat} {v : Value} {n : Nat} {xs : List Value} {b : Nat} (h : w.ownsRow base 3 1 v n xs) (ho : Lib.OthersKept 5 (some b) w w') (hb : v.ownBlock ≠ some b) : w'.ownsRow base 3 1 v n xs := by
  refine ⟨h.1, ?_⟩
  rcases h.2 with h0 | ⟨g, cap, cur, hv, hg, hh, r⟩
  · exact .inl h0
  · refine .inr ⟨g, cap, cur, hv, hg, ho g _ hh (fun e => hb (by rw [hv]; simpa [Value.ownBlock] using e)) (fun c fz e => by cases e), r⟩

/-- A slice that holds the points of a cycle, in a row of ints of its own, or no point. -/
structure Holds3 (w : World) (a : Option Addr) (g : Nat) (c : List Nat) : Prop where
  at_ : 0 < c.length → a = some ⟨g, 0, none⟩
  kind : 0 < c.length → ∃ cur, w.heap[g]? = some (.cells cur 3 (0, 0))
  cell : ∀ j, j < c.length → w.cell? ⟨g, j, none⟩ = some (.int .i64 ((c[j]?.getD 0 : Nat) : Int))
theorem Holds3.of_own {w : World} {base g cap : Nat} {c : List Nat} (h : w.ownsRow base 3 1 (.slice (some ⟨g, 0, none⟩) c.length cap) c.length (pts c)) : Holds3 w (some ⟨g, 0, none⟩) g c :=
  ⟨fun _ => rfl, fun _ => by
    rcases h.2 with ⟨hv, _⟩ | ⟨g', cap', cur, hv, _, hh, _⟩
    · cases hv
    · cases hv; exact ⟨cur, hh⟩, fun j hj => own_cell h hj⟩
theorem Holds3.kept {w w' : World} {a : Option Addr} {g b : Nat} {c : List Nat} (h : Holds3 w a g c) (ho : Lib.OthersKept 5 (some b) w w') (hb : 0 < c.length → g ≠ b) : Holds3 w' a g c := by
  refine ⟨h.at_, fun h0 => ?_, fun j hj => ?_⟩
  · obtain ⟨cur, hc⟩ := h.kind h0
    exact ⟨cur, ho g _ hc (by simpa using hb h0) (fun c fz e => by cases e)⟩
  · obtain ⟨cur, hc⟩ := h.kind (by omega)
    have := ho g _ hc (by simpa using hb (by omega)) (fun c fz e => by cases e)
    exact (World.cell?_of_block (a := ⟨g, j, none⟩) (this.trans hc.symm)).trans (h.cell j hj)

end Go.Proofs.YtojnjfkonaeegaaDoorQ
