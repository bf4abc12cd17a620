/- What the law SubNeedless answers: true, at every table and every list. -/
import Derived.Test.YtelglfegpfhbpaaDoorSg13
namespace Go.Proofs.YtelglfegpfhbpaaDoor
open Go Go.RowKit

theorem needless_law (N : Int) (v m : Value) (zs l : List Int) (w : World) (hv : Sl w v zs) (hm : Sl w m l) (hT : Tab w) :
    Calls Tryd.prog 5 #[.agg #[.int .i64 N, v], m] w fun e w' => e = .returned (.bool true) ∧ Below w.heap.size w w' := by
  by_cases hc : (gfault N zs).1 = 0
  · obtain ⟨n, e, rfl, hg, _⟩ := gfault_grp hc
    by_cases h24 : n ≤ 24
    · by_cases hl : (sfault n zs l).1 = 0
      · have hl0 : lfault n l = (0, 0) := by
          rw [sfault_l hg] at hl
          exact (lfault_zero hl).1
        exact ndl_good n e v m zs l w hv hg h24 hm hT hl0
      · exact ndl_bad2 n e v m zs l w hv hg h24 hm hT hl
    · exact ndl_bad1 n 2 0 v m zs l w hv hm hT (hide fun W h => frat_bad n 2 0 v W (hide fun W' h' => osml_many n e v zs W' ((hv.below h).below h') hg (by omega)) (by decide)) (by decide)
  · exact ndl_bad1 N _ _ v m zs l w hv hm hT (hide fun W h => frat_bad N _ _ v W (hide fun W' h' => osml_bad N v zs W' ((hv.below h).below h') hc) hc) hc
end Go.Proofs.YtelglfegpfhbpaaDoor
