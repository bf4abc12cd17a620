/- What the document's Closed answers, and the law's listAs. -/
import Derived.Test.YtmgengplfebmjaaDoorSpn
namespace Go.Proofs.YtmgengplfebmjaaDoor
open Go Go.RowKit

theorem has_sl (v : Value) (xs : List Nat) (a : Nat) (w : World) (hv : Sl w v (li xs)) :
    Calls Tryd.prog 81 #[v, .int .i64 a] w fun e w' => e = .returned (.bool (decide (a ∈ xs))) ∧ Below w.heap.size w w' := by
  refine (rhas_ok v (li xs) a w hv).mono ?_
  rintro e w' ⟨rfl, rfl⟩
  refine ⟨?_, Below.refl _ _⟩
  have : decide ((a : Int) ∈ li xs) = decide (a ∈ xs) := by rw [Bool.eq_iff_iff, decide_eq_true_eq, decide_eq_true_eq, mem_li]
  rw [this]
end Go.Proofs.YtmgengplfebmjaaDoor
