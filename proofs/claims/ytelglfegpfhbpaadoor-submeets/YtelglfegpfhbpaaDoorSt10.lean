/- What the law SubMeets answers: true, at every table and every two numbers. -/
import Derived.Test.YtelglfegpfhbpaaDoorSt9
namespace Go.Proofs.YtelglfegpfhbpaaDoor
open Go Go.RowKit

theorem meets_law (N I K : Int) (v : Value) (zs : List Int) (w : World) (hv : Sl w v zs) (hT : Tab w) :
    Calls Tryd.prog 4 #[.agg #[.int .i64 N, v], .int .i64 I, .int .i64 K] w fun e w' => e = .returned (.bool true) ∧ Below w.heap.size w w' := by
  by_cases hc : (gfault N zs).1 = 0
  · obtain ⟨n, e, rfl, hg, _⟩ := gfault_grp hc
    by_cases h24 : n ≤ 24
    · exact mts_good n e I K v zs w hv hg h24 hT
    · exact mts_bad1 n I K 2 0 v zs w hv hT (hide fun W h => all_bad n 2 0 v W (hide fun W' h' => osml_many n e v zs W' ((hv.below h).below h') hg (by omega)) (by decide)) (by decide)
  · exact mts_bad1 N I K _ _ v zs w hv hT (hide fun W h => all_bad N _ _ v W (hide fun W' h' => osml_bad N v zs W' ((hv.below h).below h') hc) hc) hc
end Go.Proofs.YtelglfegpfhbpaaDoor
