/- What the document's SubFault tells. -/
import Derived.Test.YtmgengplfebmjaaDoorCj2
namespace Go.Proofs.YtmgengplfebmjaaDoor
open Go Go.RowKit

theorem pset_self {n : Nat} {l : List Int} (h : lfault n l = (0, 0)) : pset l = fun a => decide (a ∈ lst n (pset l)) := by
  have hli := set_lst (show (lfault n l).1 = 0 by rw [h])
  funext a
  have : pset l a = pset (li (lst n (pset l))) a := by rw [← hli]
  rw [this]
  unfold pset
  rw [Bool.eq_iff_iff, decide_eq_true_eq, decide_eq_true_eq, mem_li]
end Go.Proofs.YtmgengplfebmjaaDoor
