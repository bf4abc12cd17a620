/- What the document's answers F, E and I are. -/
import Derived.Test.YtgphcfmiamiojaaCheckAll
namespace Go.Proofs.Ytgphcfmiamiojaa
open Go Go.RowKit

set_option maxRecDepth 100000 in
theorem f_any (c i : Int) (w : World) : Calls Try.prog 7 #[.int .i64 c, .int .i64 i] w fun e w' => e = .returned (.agg #[.int .i64 c, .int .i64 i]) ∧ Below w.heap.size w w' := by
  go_enter Try.func7, Try.ntmps7
  go_wp2
  exact bodyPost_ret (v := .agg #[.int .i64 c, .int .i64 i]) (by simp [results, Try.results7, go_sem]) rfl ⟨rfl, balloc w _⟩

/-- The document's inverse: the least thing that is one on both sides. -/
def invR (n : Nat) (zs : List Int) (a : Nat) : Int := least n (fun b => decide ((tm n zs a b : Int) = one n zs) && decide ((tm n zs b a : Int) = one n zs))

end Go.Proofs.Ytgphcfmiamiojaa
