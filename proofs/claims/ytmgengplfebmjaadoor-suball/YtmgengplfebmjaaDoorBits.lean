/- Sets of numbers as bits of a number: or, and, the lowest one, all of them in order. No condition. -/
import Derived.WalkKit
import Derived.Laws.Bits64b
import Derived.Lib.TrailingZeros
namespace Go.Proofs.YtmgengplfebmjaaDoor
open Go

/-- The number whose bit a is 1 just where a is below n and p says so. -/
def bs (p : Nat → Bool) : Nat → Nat
  | 0 => 0
  | k + 1 => 2 ^ k * (if p k then 1 else 0) + bs p k
theorem bs_lt (p : Nat → Bool) : ∀ n, bs p n < 2 ^ n
  | 0 => by simp [bs]
  | k + 1 => by
    have := bs_lt p k
    unfold bs
    rw [Nat.pow_succ]
    split <;> omega
theorem bs_bit (p : Nat → Bool) : ∀ n a, (bs p n).testBit a = (decide (a < n) && p a)
  | 0, a => by simp [bs]
  | k + 1, a => by
    unfold bs
    rw [Nat.testBit_two_pow_mul_add _ (bs_lt p k)]
    by_cases h : a < k
    · rw [if_pos h, bs_bit p k a]
      simp [h, Nat.lt_succ_of_lt h]
    · rw [if_neg h]
      by_cases e : a = k
      · subst e
        cases p a <;> simp
      · have : ∃ j, a - k = j + 1 := ⟨a - k - 1, by omega⟩
        obtain ⟨j, hj⟩ := this
        rw [hj, Nat.testBit_succ]
        have : ¬ a < k + 1 := by omega
        cases p k <;> simp [this]
theorem bs_64 {p : Nat → Bool} {n : Nat} (hn : n ≤ 60) : bs p n < 18446744073709551616 :=
  Nat.lt_of_lt_of_le (bs_lt p n) (Nat.le_trans (Nat.pow_le_pow_right (by omega) (Nat.le_trans hn (by omega : 60 ≤ 64))) (by decide))
theorem bs_ext {p q : Nat → Bool} {n : Nat} (h : ∀ a, a < n → p a = q a) : bs p n = bs q n := by
  apply Nat.eq_of_testBit_eq
  intro a
  rw [bs_bit, bs_bit]
  by_cases ha : a < n
  · simp [ha, h a ha]
  · simp [ha]
theorem bs_inj {p q : Nat → Bool} {n : Nat} (h : bs p n = bs q n) : ∀ a, a < n → p a = q a := fun a ha => by
  have := congrArg (fun x => Nat.testBit x a) h
  simp only [bs_bit, ha, decide_true, Bool.true_and] at this
  exact this
theorem bs_or (p q : Nat → Bool) (n : Nat) : bs p n ||| bs q n = bs (fun a => p a || q a) n := by
  apply Nat.eq_of_testBit_eq
  intro a
  rw [Nat.testBit_or, bs_bit, bs_bit, bs_bit]
  cases decide (a < n) <;> simp
theorem bs_and (p q : Nat → Bool) (n : Nat) : bs p n &&& bs q n = bs (fun a => p a && q a) n := by
  apply Nat.eq_of_testBit_eq
  intro a
  rw [Nat.testBit_and, bs_bit, bs_bit, bs_bit]
  cases decide (a < n) <;> simp
theorem bs_one {n a : Nat} (ha : a < n) : bs (fun b => decide (b = a)) n = 2 ^ a := by
  apply Nat.eq_of_testBit_eq
  intro b
  rw [bs_bit, Nat.testBit_two_pow]
  by_cases e : b = a
  · subst e; simp [ha]
  · simp [e, Ne.symm e]
theorem bs_none (n : Nat) : bs (fun _ => false) n = 0 := by
  apply Nat.eq_of_testBit_eq
  intro b
  rw [bs_bit]; simp
theorem bs_zero {p : Nat → Bool} {n : Nat} (h : bs p n = 0) : ∀ a, a < n → p a = false := by
  rw [← bs_none n] at h
  exact bs_inj h
/-- One bit asked. -/
theorem bs_has (p : Nat → Bool) {n a : Nat} (ha : a < n) : (bs p n / 2 ^ a) % 2 = if p a then 1 else 0 := by
  have := bs_bit p n a
  rw [Nat.testBit_eq_decide_div_mod_eq] at this
  simp only [ha, decide_true, Bool.true_and] at this
  cases hp : p a
  · rw [hp] at this
    simp only [decide_eq_false_iff_not] at this
    have : bs p n / 2 ^ a % 2 < 2 := Nat.mod_lt _ (by omega)
    simp; omega
  · rw [hp] at this
    simpa using this

/-- The lowest bit, and what is left without it. -/
theorem low_bit {p : Nat → Bool} {n : Nat} (hn : n ≤ 60) (h0 : bs p n ≠ 0) : ∃ k, k < n ∧ p k = true ∧ (∀ t, t < k → p t = false) ∧ Lib.ctz 64 (bs p n) = k ∧ bs p n &&& (bs p n - 1) = bs (fun a => p a && decide (k < a)) n := by
  obtain ⟨m, hm, hk⟩ := Lib.ctzFrom_spec 64 (bs p n) (by omega) (bs_64 hn)
  have hc : Lib.ctz 64 (bs p n) = Lib.ctzFrom 64 (bs p n) := by unfold Lib.ctz; rw [if_neg h0]
  generalize Lib.ctzFrom 64 (bs p n) = k at hm hk hc
  have hpos : 0 < 2 ^ k := Nat.two_pow_pos k
  have b1 : ∀ j, (bs p n).testBit j = if j < k then false else (2 * m + 1).testBit (j - k) := fun j => by
    have := Nat.testBit_two_pow_mul_add (2 * m + 1) hpos j
    rw [Nat.add_zero, ← hm] at this
    rw [this]; simp
  have b2 : ∀ j, (bs p n - 1).testBit j = if j < k then (2 ^ k - 1).testBit j else (2 * m).testBit (j - k) := fun j => by
    have := Nat.testBit_two_pow_mul_add (2 * m) (show 2 ^ k - 1 < 2 ^ k by omega) j
    rw [← this]
    congr 1
    rw [hm, Nat.mul_add, Nat.mul_one]; omega
  have hkb : (bs p n).testBit k = true := by rw [b1]; simp
  rw [bs_bit] at hkb
  simp only [Bool.and_eq_true, decide_eq_true_eq] at hkb
  refine ⟨k, hkb.1, hkb.2, fun t ht => ?_, hc, ?_⟩
  · have := b1 t
    rw [bs_bit, if_pos ht] at this
    have htn : t < n := by omega
    simpa [htn] using this
  · apply Nat.eq_of_testBit_eq
    intro j
    rw [Nat.testBit_and, b2, bs_bit (fun a => p a && decide (k < a))]
    by_cases h1 : j < k
    · have e1 := b1 j
      rw [if_pos h1] at e1
      have : ¬ k < j := by omega
      rw [e1]; simp [this]
    · rw [if_neg h1]
      by_cases h2 : j = k
      · subst h2; simp
      · have hj : k < j := by omega
        obtain ⟨i, hi⟩ : ∃ i, j - k = i + 1 := ⟨j - k - 1, by omega⟩
        have e1 := b1 j
        rw [if_neg h1, hi, Nat.testBit_succ, show (2 * m + 1) / 2 = m by omega] at e1
        rw [hi, Nat.testBit_succ, show (2 * m) / 2 = m by omega, e1]
        rw [bs_bit] at e1
        rw [← e1]
        simp only [hj, decide_true, Bool.and_true]
        cases p j <;> cases decide (j < n) <;> rfl
/-- All of them in order: up to the lowest that is left. -/
theorem range_low {p : Nat → Bool} {j k : Nat} (hjk : j ≤ k) (hp : p k = true) (hno : ∀ t, t < k → (p t && decide (j ≤ t)) = false) : (List.range (k + 1)).filter p = (List.range j).filter p ++ [k] := by
  rw [List.range_succ, List.filter_append]
  congr 1
  · obtain ⟨d, rfl⟩ : ∃ d, k = j + d := ⟨k - j, by omega⟩
    rw [List.range_add, List.filter_append]
    have : ((List.range d).map fun x => j + x).filter p = [] := by
      rw [List.filter_eq_nil_iff]
      intro a ha
      obtain ⟨x, hx, rfl⟩ := List.mem_map.1 ha
      have hx := List.mem_range.1 hx
      have := hno (j + x) (by omega)
      simpa using this
    rw [this, List.append_nil]
  · simp [hp]
theorem range_rest {p : Nat → Bool} {j n : Nat} (hjn : j ≤ n) (hno : ∀ t, t < n → (p t && decide (j ≤ t)) = false) : (List.range n).filter p = (List.range j).filter p := by
  obtain ⟨d, rfl⟩ : ∃ d, n = j + d := ⟨n - j, by omega⟩
  rw [List.range_add, List.filter_append]
  have : ((List.range d).map fun x => j + x).filter p = [] := by
    rw [List.filter_eq_nil_iff]
    intro a ha
    obtain ⟨x, hx, rfl⟩ := List.mem_map.1 ha
    have hx := List.mem_range.1 hx
    have := hno (j + x) (by omega)
    simpa using this
  rw [this, List.append_nil]
end Go.Proofs.YtmgengplfebmjaaDoor
