/- Lists in order: mathematics. -/
import Derived.Test.YtelglfegpfhbpaaDoorSt3
namespace Go.Proofs.YtelglfegpfhbpaaDoor
open Go Go.RowKit

theorem cmpI_neg (x y : Int) : cmpI y x = - cmpI x y := by unfold cmpI; split <;> split <;> (try split) <;> omega
theorem cmpI_lt {x y : Int} : cmpI x y < 0 ↔ x < y := by unfold cmpI; split <;> (try split) <;> omega
theorem cmpI_zero {x y : Int} : cmpI x y = 0 ↔ x = y := by unfold cmpI; split <;> (try split) <;> omega
theorem cmpL_neg : ∀ xs ys : List Int, cmpL ys xs = - cmpL xs ys
  | [], [] => rfl
  | [], _ :: _ => rfl
  | _ :: _, [] => rfl
  | x :: xs, y :: ys => by
    unfold cmpL
    rw [cmpI_neg x y, cmpL_neg xs ys]
    split <;> split <;> omega
theorem cmpL_zero : ∀ xs ys : List Int, cmpL xs ys = 0 ↔ xs = ys
  | [], [] => by simp [cmpL]
  | [], _ :: _ => by simp [cmpL]
  | _ :: _, [] => by simp [cmpL]
  | x :: xs, y :: ys => by
    unfold cmpL
    have h1 := @cmpI_zero x y
    have h2 := cmpL_zero xs ys
    rw [List.cons.injEq]
    split
    · exact ⟨fun h => absurd h (by assumption), fun h => absurd (h1.2 h.1) (by assumption)⟩
    · rename_i h
      rw [Decidable.not_not] at h
      exact ⟨fun k => ⟨h1.1 h, h2.1 k⟩, fun k => h2.2 k.2⟩
theorem cmpL_trans : ∀ xs ys zs : List Int, cmpL xs ys < 0 → cmpL ys zs < 0 → cmpL xs zs < 0
  | [], [], _, h, _ => absurd h (by simp [cmpL])
  | _ :: _, [], _, h, _ => absurd h (by simp [cmpL])
  | _, _ :: _, [], _, h => absurd h (by simp [cmpL])
  | [], _ :: _, _ :: _, _, _ => by simp [cmpL]
  | x :: xs, y :: ys, z :: zs, h1, h2 => by
    unfold cmpL at *
    have a1 := @cmpI_lt x y
    have a2 := @cmpI_lt y z
    have a3 := @cmpI_lt x z
    have b1 := @cmpI_zero x y
    have b2 := @cmpI_zero y z
    have b3 := @cmpI_zero x z
    have ih := cmpL_trans xs ys zs
    split at h1
    · have hxy := a1.1 h1
      split at h2
      · have hyz := a2.1 h2
        have := a3.2 (by omega)
        rw [if_pos (by omega)]; exact this
      · rename_i h
        have := b2.1 (by omega)
        have := a3.2 (by omega)
        rw [if_pos (by omega)]; exact this
    · rename_i h
      have hxy := b1.1 (by omega)
      split at h2
      · have hyz := a2.1 h2
        have := a3.2 (by omega)
        rw [if_pos (by omega)]; exact this
      · rename_i h'
        have := b2.1 (by omega)
        have := b3.2 (by omega)
        rw [if_neg (by omega)]; exact ih h1 h2
theorem cmpN_eq (xs ys : List Int) : cmpN xs ys = if cmpI xs.length ys.length ≠ 0 then cmpI xs.length ys.length else cmpL xs ys := by
  unfold cmpN orL orL orL
  split
  · rfl
  · split
    · rfl
    · omega
theorem cmpN_neg (xs ys : List Int) : cmpN ys xs = - cmpN xs ys := by
  rw [cmpN_eq, cmpN_eq, cmpI_neg xs.length ys.length, cmpL_neg xs ys]
  split <;> split <;> omega
theorem cmpN_zero {xs ys : List Int} : cmpN xs ys = 0 ↔ xs = ys := by
  rw [cmpN_eq]
  split
  · rename_i h
    exact ⟨fun k => absurd k h, fun k => absurd (cmpI_zero.2 (by rw [k])) h⟩
  · exact cmpL_zero xs ys
theorem cmpN_trans {xs ys zs : List Int} (h1 : cmpN xs ys < 0) (h2 : cmpN ys zs < 0) : cmpN xs zs < 0 := by
  rw [cmpN_eq] at *
  have a1 := @cmpI_lt xs.length ys.length
  have a2 := @cmpI_lt ys.length zs.length
  have a3 := @cmpI_lt xs.length zs.length
  have b1 := @cmpI_zero xs.length ys.length
  have b2 := @cmpI_zero ys.length zs.length
  have b3 := @cmpI_zero xs.length zs.length
  split at h1
  · have hxy := a1.1 h1
    split at h2
    · have hyz := a2.1 h2
      have := a3.2 (by omega)
      rw [if_pos (by omega)]; exact this
    · have := b2.1 (by omega)
      have := a3.2 (by omega)
      rw [if_pos (by omega)]; exact this
  · have hxy := b1.1 (by omega)
    split at h2
    · have hyz := a2.1 h2
      have := a3.2 (by omega)
      rw [if_pos (by omega)]; exact this
    · have := b2.1 (by omega)
      have := b3.2 (by omega)
      rw [if_neg (by omega)]; exact cmpL_trans _ _ _ h1 h2
/-- Not less and not less is not less. -/
theorem cmpN_ge {xs ys zs : List Int} (h1 : ¬ cmpN xs ys < 0) (h2 : ¬ cmpN ys zs < 0) : ¬ cmpN xs zs < 0 := by
  intro h
  rcases Int.lt_or_eq_of_le (show 0 ≤ cmpN xs ys by omega) with k | k
  · have hyx : cmpN ys xs < 0 := by rw [cmpN_neg xs ys]; omega
    exact h2 (cmpN_trans hyx h)
  · rw [cmpN_zero.1 k.symm] at h
    exact h2 h
end Go.Proofs.YtelglfegpfhbpaaDoor
