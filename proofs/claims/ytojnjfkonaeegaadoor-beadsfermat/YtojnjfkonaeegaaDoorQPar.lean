/- What nat's part, Plus and Minus answer. -/
import Derived.Test.YtojnjfkonaeegaaDoorQPlm
import Derived.Test.YtojnjfkonaeegaaDoorQDcm
import Derived.Deep.RegionHeld3
namespace Go.Proofs.YtojnjfkonaeegaaDoorQ
open Go Go.RowKit

/-- A number in a row of parts. -/
def UN (w : World) (B : Nat) (v : Value) (n k : Nat) : Prop :=
  ∃ ps : List Nat, w.ownsRow B 89 1 v ps.length (us ps) ∧ (∀ p, p ∈ ps → p < 1000000000) ∧ ps.getLast? ≠ some 0 ∧ val ps = n ∧ ps.length ≤ k
theorem own_below {W W' : World} {B n : Nat} {e : TypeId} {v : Value} {xs : List Value} (h : W.ownsRow B e 1 v n xs) (hb : Below W.heap.size W W') : W'.ownsRow B e 1 v n xs := by
  refine ⟨h.1, ?_⟩
  rcases h.2 with h2 | ⟨g, cap, cur, hv, hge, hh, rest⟩
  · exact .inl h2
  · exact .inr ⟨g, cap, cur, hv, hge, (hb.block g (Array.getElem?_eq_some_iff.1 hh).1).trans hh, rest⟩
theorem UN.below {W W' : World} {B n k : Nat} {v : Value} (h : UN W B v n k) (hb : Below W.heap.size W W') : UN W' B v n k := by
  obtain ⟨ps, h1, h2⟩ := h
  exact ⟨ps, own_below h1 hb, h2⟩
theorem UN.mono {W : World} {B B' n k k' : Nat} {v : Value} (h : UN W B v n k) (hB : B' ≤ B) (hk : k ≤ k') : UN W B' v n k' := by
  obtain ⟨ps, h1, h2, h3, h4, h5⟩ := h
  exact ⟨ps, owns_mono h1 hB, h2, h3, h4, by omega⟩
theorem UN.nil (W : World) (B : Nat) : UN W B (.slice none 0 0) 0 0 := ⟨[], World.ownsRow_nil _ _ _ _, by simp, by simp, rfl, by simp⟩

set_option maxRecDepth 100000 in
set_option maxHeartbeats 1000000 in
theorem part_any (a : Option Addr) (cap g k : Nat) (ps : List Nat) (w : World) (hr : UReads w a g ps) (hg : 0 < ps.length → g < w.heap.size) (hk : k ≤ 1000000) :
    Calls Tryd.prog 86 #[.agg #[.slice a ps.length cap], .int .i64 k] w fun e w' => e = .returned (.int .u64 (pt ps k : Nat)) ∧ Below w.heap.size w w' := by
  have hB0 : Below w.heap.size w (w.alloc (.cells #[.slice a ps.length cap] 60)) := (Below.refl _ w).alloc (Nat.le_refl _) _
  have hX : Blk (w.alloc (.cells #[.slice a ps.length cap] 60)) w.heap.size 60 [.slice a ps.length cap] := World.alloc_heap_new w _
  have hc0 := hX.cell 0
  by_cases hlt : k < ps.length
  · obtain rfl := hr.at_ (by omega)
    have hcx := (hr.of_eq (hB0.block g (hg (by omega)))).cell k hlt
    have hpe : pt ps k = ps[k]?.getD 0 := rfl
    have HP := hide hpe
    clear hpe
    generalize ps[k]?.getD 0 = x at hcx HP
    have hki : (k : Int) < (ps.length : Int) := by omega
    clear hX
    go_enter Tryd.func86, Tryd.ntmps86
    go_wp2
    go_ret
    exact ⟨by rw [HP.out]; rfl, hB0⟩
  · have hpe : pt ps k = 0 := by unfold pt; rw [List.getElem?_eq_none (by omega)]; rfl
    have HP := hide hpe
    clear hpe hX
    have hki : ¬ (k : Int) < (ps.length : Int) := by omega
    go_enter Tryd.func86, Tryd.ntmps86
    go_wp2
    go_ret
    exact ⟨by rw [HP.out]; rfl, hB0⟩

end Go.Proofs.YtojnjfkonaeegaaDoorQ
