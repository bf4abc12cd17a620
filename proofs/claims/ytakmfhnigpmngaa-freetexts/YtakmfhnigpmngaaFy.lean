/- Letters as bytes: mathematics, and what byteOf and letterOf answer. -/
import Derived.Test.YtakmfhnigpmngaaFs
import Derived.Laws.IdiomStrings
namespace Go.Proofs.Ytakmfhnigpmngaa
open Go Go.RowKit

/-- A letter's byte. -/
def byt (x : Int) : Int := if 0 < x then 96 + x else 64 - x
/-- Is a byte a letter? -/
def isl (b : Int) : Bool := decide (97 ≤ b ∧ b ≤ 122) || decide (65 ≤ b ∧ b ≤ 90)
/-- The letter that a byte stands for. -/
def ltr (b : Int) : Int := if 97 ≤ b ∧ b ≤ 122 then b - 96 else if 65 ≤ b ∧ b ≤ 90 then 64 - b else 0
theorem byt_range {x : Int} (h : bad x = false) : (0 < x ∧ byt x = 96 + x ∧ 97 ≤ byt x ∧ byt x ≤ 122) ∨ (x < 0 ∧ byt x = 64 - x ∧ 65 ≤ byt x ∧ byt x ≤ 90) := by
  obtain ⟨h0, h1, h2⟩ := bad_parts h
  have h3 : x ≠ 0 := by simpa using h0
  unfold byt
  by_cases hx : 0 < x
  · rw [if_pos hx]; exact .inl ⟨hx, rfl, by omega, by omega⟩
  · rw [if_neg hx]; exact .inr ⟨by omega, rfl, by omega, by omega⟩
theorem ltr_byt {x : Int} (h : bad x = false) : ltr (byt x) = x ∧ isl (byt x) = true := by
  rcases byt_range h with ⟨h1, h2, h3, h4⟩ | ⟨h1, h2, h3, h4⟩
  · unfold ltr isl
    rw [if_pos ⟨h3, h4⟩]
    refine ⟨by omega, ?_⟩
    simp; omega
  · unfold ltr isl
    rw [if_neg (by omega), if_pos ⟨h3, h4⟩]
    refine ⟨by omega, ?_⟩
    simp; omega
theorem byt_ltr {b : Int} (h : isl b = true) : byt (ltr b) = b ∧ bad (ltr b) = false := by
  unfold isl at h
  simp at h
  unfold ltr
  rcases h with h | h
  · rw [if_pos h]
    unfold byt bad
    rw [if_pos (by omega)]
    refine ⟨by omega, ?_⟩
    simp; omega
  · by_cases h2 : 97 ≤ b ∧ b ≤ 122
    · omega
    · rw [if_neg h2, if_pos h]
      unfold byt bad
      rw [if_neg (by omega)]
      refine ⟨by omega, ?_⟩
      simp; omega

set_option maxRecDepth 100000 in
set_option maxHeartbeats 1000000 in
theorem byteOf_ok (x : Int) (w : World) (h : bad x = false) : Calls Try.prog 44 #[.int .i64 x] w fun e w' => e = .returned (.int .u8 (byt x)) ∧ w' = w := by
  rcases byt_range h with ⟨h1, h2, h3, h4⟩ | ⟨h1, h2, h3, h4⟩
  · rw [h2]
    rw [h2] at h3 h4
    have h5 : x > 0 := h1
    have hw : IntKind.u8.wrap (97 + x - 1) = 96 + x := by rw [IntKind.wrap_u8]; omega
    go_enter Try.func44, Try.ntmps44
    go_wp2
    go_ret
    exact ⟨by first | rw [hw] | (congr 2; omega) | rfl, rfl⟩
  · rw [h2]
    rw [h2] at h3 h4
    have h5 : ¬ x > 0 := by omega
    have h6 : ¬ 0 < x := by omega
    have hw : IntKind.u8.wrap (65 - x - 1) = 64 - x := by rw [IntKind.wrap_u8]; omega
    go_enter Try.func44, Try.ntmps44
    go_wp2
    go_ret
    exact ⟨by first | rw [hw] | (congr 2; omega) | rfl, rfl⟩

set_option maxRecDepth 100000 in
set_option maxHeartbeats 1000000 in
theorem letterOf_ok (b : Nat) (w : World) (hb : b < 256) : Calls Try.prog 45 #[.int .u8 (b : Int)] w fun e w' => e = .returned (.tuple #[.int .i64 (ltr b), .bool (isl b)]) ∧ w' = w := by
  by_cases h1 : 97 ≤ b ∧ b ≤ 122
  · have e1 : ltr b = (b : Int) - 96 := by unfold ltr; rw [if_pos (by omega)]
    have e2 : isl b = true := by unfold isl; simp; omega
    rw [e1, e2]
    have g1 : (97 : Int) ≤ (b : Int) := by omega
    have g2 : (b : Int) ≤ 122 := by omega
    obtain ⟨c, hc⟩ : ∃ c : Nat, b = c + 97 := ⟨b - 97, by omega⟩
    go_enter Try.func45, Try.ntmps45
    go_wp2
    go_ret2
    refine ⟨?_, rfl⟩
    first
      | (congr 4; omega)
      | (simp; omega)
  · by_cases h2 : 65 ≤ b ∧ b ≤ 90
    · have e1 : ltr b = 64 - (b : Int) := by unfold ltr; rw [if_neg (by omega), if_pos (by omega)]
      have e2 : isl b = true := by unfold isl; simp; omega
      rw [e1, e2]
      have g1 : ¬ ((97 : Int) ≤ (b : Int)) := by omega
      have g2 : (65 : Int) ≤ (b : Int) := by omega
      have g3 : (b : Int) ≤ 90 := by omega
      go_enter Try.func45, Try.ntmps45
      go_wp2
      go_ret2
      refine ⟨?_, rfl⟩
      first
        | (congr 4; omega)
        | (simp; omega)
    · have e1 : ltr b = 0 := by unfold ltr; rw [if_neg (by omega), if_neg (by omega)]
      have e2 : isl b = false := by unfold isl; simp; omega
      rw [e1, e2]
      have g4 : ((97 : Int) ≤ (b : Int) ∧ ¬ (b : Int) ≤ 122) ∨ ¬ ((97 : Int) ≤ (b : Int)) := by omega
      have g5 : ((65 : Int) ≤ (b : Int) ∧ ¬ (b : Int) ≤ 90) ∨ ¬ ((65 : Int) ≤ (b : Int)) := by omega
      rcases g4 with ⟨g4, g6⟩ | g4 <;> rcases g5 with ⟨g5, g7⟩ | g5
      all_goals
        go_enter Try.func45, Try.ntmps45
        go_wp2
        go_ret2
        exact ⟨rfl, rfl⟩

end Go.Proofs.Ytakmfhnigpmngaa
