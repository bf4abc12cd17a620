/- What Abelian of package table answers, and what the document's Commutes is. -/
import Derived.Test.YtgphcfmiamiojaaAsks
namespace Go.Proofs.Ytgphcfmiamiojaa
open Go Go.RowKit

/-- Do all things commute? -/
def comB (n : Nat) (zs : List Int) : Bool := (List.range n).all fun a => (List.range n).all fun b => tm n zs a b == tm n zs b a
theorem comB_iff {n : Nat} {zs : List Int} : comB n zs = true ↔ ∀ a b, a < n → b < n → tm n zs a b = tm n zs b a := by
  unfold comB
  simp only [List.all_eq_true, List.mem_range, beq_iff_eq]
  exact ⟨fun h a b ha hb => h a ha b hb, fun h a ha b hb => h a b ha hb⟩
theorem div_mod_lt {n i : Nat} (hi : i < n * n) : i / n < n ∧ i % n < n := by
  have hn : 0 < n := by
    rcases Nat.eq_zero_or_pos n with h | h
    · subst h; simp at hi
    · exact h
  exact ⟨Nat.div_lt_of_lt_mul hi, Nat.mod_lt _ hn⟩
theorem com_least {n : Nat} {zs : List Int} (_hn : 0 < n) : decide (least (n * n) (fun i => tm n zs (i / n) (i % n) != tm n zs (i % n) (i / n)) = -1) = comB n zs := by
  rw [Bool.eq_iff_iff, decide_eq_true_eq, least_neg, comB_iff]
  constructor
  · intro h a b ha hb
    have h1 := h (a * n + b) (place_lt ha hb)
    have e1 : (a * n + b) / n = a := by rw [Nat.mul_comm, Nat.mul_add_div (by omega), Nat.div_eq_of_lt hb, Nat.add_zero]
    have e2 : (a * n + b) % n = b := by rw [Nat.mul_comm, Nat.mul_add_mod, Nat.mod_eq_of_lt hb]
    rw [e1, e2] at h1
    simpa using h1
  · intro h i hi
    obtain ⟨h1, h2⟩ := div_mod_lt hi
    simpa using h _ _ h1 h2

/-- What goes with a fault, where a Boolean is answered. -/
def okB (c : Int) (x : Bool) : Bool := decide (c = 0) && x

end Go.Proofs.Ytgphcfmiamiojaa
