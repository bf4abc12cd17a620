/- The law TablePerms returns true at every list of lists. No condition. -/
import Derived.Test.YtgphcfmiamiojaaTp3
namespace Go.Proofs.Ytgphcfmiamiojaa
open Go Go.RowKit
open Pm

set_option maxRecDepth 100000 in
set_option maxHeartbeats 8000000 in
theorem law_perms (v : Value) (l : List (List Int)) (w : World) (hv : ∀ W, Below w.heap.size w W → 0 < W.heap.size → SlL W v l) (hb : ∀ p, p ∈ l → p.length * 8 ≤ 140737488355328) :
    Calls Try.prog 3 #[v] w fun e w' => e = .returned (.bool true) ∧ Below w.heap.size w w' := by
  by_cases hll : l.length ≤ 1000
  · by_cases hsz : l.length < 1 ∨ 20 < l.length
    · exact law_size v l w hv hb hll (by unfold mfault; rw [if_pos hsz]; decide) hsz
    · by_cases hmf : (mfault l).1 = 0
      · exact law_fine v l w hv hb hll hmf hsz
      · exact law_bad v l w hv hb hll hmf hsz
  · go_enter Try.func3, Try.ntmps3
    go_wp2_with fail
    refine (begun_any _).mono ?_
    rintro e w1 ⟨rfl, hb1, hp1⟩
    obtain ⟨a, cap, pb, po, rfl, h0, hc, hpl, hc1, hc2⟩ := hv w1 hb1 hp1
    have hlli : (1000 : Int) < (l.length : Int) := by omega
    have hlld : decide ((1000 : Int) < (l.length : Int)) = true := decide_eq_true hlli
    clear hv hb h0 hc hc2
    go_wp2
    go_ret
    exact ⟨rfl, hb1⟩
end Go.Proofs.Ytgphcfmiamiojaa
