/- PermRanks returns true at every list. -/
import Derived.Test.YtjchmhngfnlbhaaDoorRk1
import Derived.Test.YtjchmhngfnlbhaaDoorRk2
import Derived.Test.YtjchmhngfnlbhaaDoorRk3
import Derived.Test.YtjchmhngfnlbhaaDoorRk4
import Derived.Test.YtjchmhngfnlbhaaDoorRk5
namespace Go.Proofs.YtjchmhngfnlbhaaDoor
open Go Go.RowKit Go.Shelf

theorem ranks_law (u : Value) (xs : List Int) (w : World) (hu : Sl w u xs) (hsz : xs.length * 8 ≤ 140737488355328) (htab : Tab w.heap.size w) :
    Calls Tryd.prog 6 #[u] w fun e w' => e = .returned (.bool true) ∧ Below w.heap.size w w' := by
  by_cases h : (fault xs).1 = 0
  · by_cases h1 : xs.length ≤ 100 <;> by_cases h2 : Falls xs
    · exact ranks_few_fall u xs w hu hsz htab h h1 h2
    · exact ranks_few_some u xs w hu hsz htab h h1 h2
    · exact ranks_many_fall u xs w hu hsz htab h (by omega) h2
    · exact ranks_many_some u xs w hu hsz htab h (by omega) h2
  · exact ranks_bad u xs w hu hsz htab h
end Go.Proofs.YtjchmhngfnlbhaaDoor
