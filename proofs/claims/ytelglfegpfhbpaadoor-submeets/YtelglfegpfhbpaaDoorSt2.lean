/- What cmp.Or answers at ints. -/
import Derived.Test.YtelglfegpfhbpaaDoorSt1
namespace Go.Proofs.YtelglfegpfhbpaaDoor
open Go Go.RowKit

/-- The first that is not 0. -/
def orL : List Int → Int
  | [] => 0
  | x :: xs => if x ≠ 0 then x else orL xs
theorem orL_step {xs : List Int} {k : Nat} (h1 : k < xs.length) : orL (xs.drop k) = if xs[k] ≠ 0 then xs[k] else orL (xs.drop (k + 1)) := by
  rw [List.drop_eq_getElem_cons h1, orL]
theorem orL_end {xs : List Int} {k : Nat} (h1 : xs.length ≤ k) : orL (xs.drop k) = 0 := by
  rw [List.drop_eq_nil_of_le h1, orL]
set_option maxRecDepth 100000 in
set_option maxHeartbeats 2000000 in
theorem or_ok (v : Value) (xs : List Int) (w : World) (hv : Sl w v xs) (hx : xs.length ≤ 60) :
    Calls Tryd.prog 78 #[v] w fun e w' => e = .returned (.int .i64 (orL xs)) ∧ w' = w := by
  obtain ⟨xa, xcap, xb, xo, rfl, ⟨x1, x2⟩, _, _, x5⟩ := hv
  have HX1 := hide x1
  have HX2 := hide x2
  clear x1 x2 x5
  go_enter Tryd.func78, Tryd.ntmps78
  go_wp2
  go_loopw [8] (fun i wr => ∃ k : Nat, k ≤ xs.length ∧ i = .int .i64 k ∧ orL xs = orL (xs.drop k) ∧ wr = w) (fun i _ => xs.length - (intOf i).toNat)
  case atStart => exact ⟨0, Nat.zero_le _, rfl, by simp, rfl⟩
  case round =>
    obtain ⟨k, hk, rfl, hc, hwr⟩ := hrel
    rw [hwr]
    clear hwr
    have HC := hide hc
    clear hc
    by_cases hlt : k < xs.length
    · have hki : (k : Int) < (xs.length : Int) := by omega
      obtain rfl := HX1.out (by omega)
      have cx := HX2.out k hlt
      rw [List.getElem?_eq_getElem hlt, Option.getD_some] at cx
      have HE := hide (orL_step hlt)
      generalize xs[k] = z at *
      by_cases hz0 : z = 0
      · subst hz0
        go_wp2
        go_roundw
        case rel => exact ⟨k + 1, by omega, by go_num, by rw [HC.out, HE.out]; rfl, trivial⟩
        case measure => simp [intOf]; omega
      · have hzb : (z != 0) = true := by simpa using hz0
        have HZ := hide (show orL xs = z by rw [HC.out, HE.out, if_pos hz0])
        go_wp2
        go_ret
        exact ⟨by rw [HZ.out]; rfl, rfl⟩
    · have hki : ¬ (k : Int) < (xs.length : Int) := by omega
      have HZ := hide (show orL xs = 0 by rw [HC.out, orL_end (by omega)])
      go_wp2
      go_ret
      exact ⟨by rw [HZ.out]; rfl, rfl⟩
end Go.Proofs.YtelglfegpfhbpaaDoor
