/- What the document's SameGroup and ThingFault and the law's numberAs tell. -/
import Derived.Test.YtgphcfmiamiojaaSame
namespace Go.Proofs.Ytgphcfmiamiojaa
open Go Go.RowKit

/-- What is wrong with a table, and then with numbers as its things, the first one first. -/
def tfl (N : Int) (zs l : List Int) : Int × Int :=
  if (gfault N zs).1 ≠ 0 then gfault N zs
  else if least l.length (fun i => decide (l[i]?.getD 0 < 0 ∨ N ≤ l[i]?.getD 0)) ≠ -1 then (3, least l.length (fun i => decide (l[i]?.getD 0 < 0 ∨ N ≤ l[i]?.getD 0)) + 1) else (0, 0)
theorem tfl_one (N : Int) (zs : List Int) (a : Int) : tfl N zs [a] = tfault N zs a := by
  unfold tfl tfault
  by_cases h1 : (gfault N zs).1 ≠ 0
  · rw [if_pos h1, if_pos h1]
  · rw [if_neg h1, if_neg h1]
    by_cases h2 : 0 ≤ a ∧ a < N
    · rw [if_pos h2, if_neg]
      rw [Decidable.not_not, least_neg]
      intro t ht
      have : t = 0 := by simpa using ht
      subst this
      simp; omega
    · rw [if_neg h2]
      have : least [a].length (fun i => decide ([a][i]?.getD 0 < 0 ∨ N ≤ [a][i]?.getD 0)) = ((0 : Nat) : Int) := least_at (by simp) (by simp; omega) (fun t ht => by omega)
      rw [this]; simp

end Go.Proofs.Ytgphcfmiamiojaa
