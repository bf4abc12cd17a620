/- What One, Inv and Abelian of package table answer: at every table, whatever it holds, and every number. -/
import Derived.Test.YtgphcfmiamiojaaRefG
namespace Go.Proofs.Ytgphcfmiamiojaa
open Go Go.RowKit

/-- The number that goes with a fault: none where there is one. -/
def okI (c x : Int) : Int := if c = 0 then x else 0
theorem okI_zero (x : Int) : okI 0 x = x := if_pos rfl
/-- What is wrong with a table, and then with a number as its thing. -/
def tfault (N : Int) (zs : List Int) (a : Int) : Int × Int := if (gfault N zs).1 ≠ 0 then gfault N zs else if 0 ≤ a ∧ a < N then (0, 0) else (3, 1)

/-- What lies where a function of a table begins: the table in a block of its own, and a fault behind it. -/
structure Beg (w w0 : World) (N : Int) (v : Value) : Prop where
  eq : w0 = (w.alloc (.cells #[.int .i64 N, v] 27)).alloc (.cells #[.int .i64 0, .int .i64 0] 29)
  bel : Below w.heap.size w w0
  box : BoxG w0 w.heap.size N v
  res : Blk w0 (w.heap.size + 1) 29 [.int .i64 0, .int .i64 0]
theorem Beg.new (w : World) (N : Int) (v : Value) : ∃ w0, Beg w w0 N v := by
  refine ⟨_, rfl, (balloc w _).alloc (by simp) _, (blk0 _ _).alloc _, ?_⟩
  have := Two.new (w.alloc (.cells #[.int .i64 N, v] 27))
  rw [World.size_alloc] at this; exact this.blk

theorem tfault_grp {N a : Int} {zs : List Int} (h : (tfault N zs a).1 = 0) : ∃ n e b : Nat, N = n ∧ a = b ∧ IsGrp n zs e ∧ b < n ∧ tfault N zs a = (0, 0) := by
  unfold tfault at h ⊢
  by_cases h1 : (gfault N zs).1 ≠ 0
  · rw [if_pos h1] at h; exact absurd h h1
  · rw [if_neg h1] at h ⊢
    obtain ⟨n, e, rfl, hg, _⟩ := gfault_grp (Decidable.not_not.1 h1)
    by_cases h2 : 0 ≤ a ∧ a < n
    · rw [if_pos h2]
      exact ⟨n, e, a.toNat, rfl, by omega, hg, by omega, rfl⟩
    · rw [if_neg h2] at h; cases h

end Go.Proofs.Ytgphcfmiamiojaa
