/- What the law's isPrime answers; Fermat's little theorem for small primes; the divisors of a prime; the last count of the Lyndon words of a prime length. -/
import Derived.Test.YtojnjfkonaeegaaDoorNkl
namespace Go.Proofs.YtojnjfkonaeegaaDoor
open Go Go.RowKit

/-- A prime of two digits. -/
def Prm (n : Nat) : Prop := 2 ≤ n ∧ n ≤ 100 ∧ ∀ d, d < n → 2 ≤ d → n % d ≠ 0
instance (n : Nat) : Decidable (Prm n) := by unfold Prm; infer_instance

set_option maxRecDepth 100000 in
theorem fermat_small : ∀ p, p < 101 → Prm p → ∀ r, r < p → r ^ p % p = r := by decide +kernel
theorem fermat_any {p : Nat} (h : Prm p) (k : Nat) : k ^ p % p = k % p := by
  rw [Nat.pow_mod]
  exact fermat_small p (by have := h.2.1; omega) h _ (Nat.mod_lt _ (by have := h.1; omega))
theorem fermat_div {p : Nat} (h : Prm p) {k : Nat} (hk : 1 ≤ k) : (k ^ p - k) / p * p = k ^ p - k := by
  have h1 := fermat_any h k
  have hp := h.1
  have hle : k ≤ k ^ p := by
    have := Nat.pow_le_pow_right hk (show 1 ≤ p by omega)
    rwa [Nat.pow_one] at this
  exact Nat.div_mul_cancel (Nat.dvd_of_mod_eq_zero (Nat.sub_mod_eq_zero_of_mod_eq h1))
theorem dvf_none {n : Nat} : ∀ k d, 2 ≤ d → d + k = n → (∀ t, t < n → 2 ≤ t → n % t ≠ 0) → dvf n (k + 1) d = [n]
  | 0, d, _, h, _ => by
    obtain rfl : d = n := by omega
    rw [dvf_hit (Nat.mod_self _)]; rfl
  | k + 1, d, h2, h, hp => by
    rw [dvf_miss (hp d (by omega) h2)]
    exact dvf_none k (d + 1) (by omega) (by omega) hp
theorem dvs_prime {n : Nat} (h : Prm n) : dvs n = [1, n] := by
  obtain ⟨h1, _, h3⟩ := h
  obtain ⟨m, rfl⟩ : ∃ m, n = m + 2 := ⟨n - 2, by omega⟩
  unfold dvs
  rw [dvf_hit (Nat.mod_one _), dvf_none m 2 (by omega) (by omega) h3]
theorem lyw_prime {n k : Nat} (h : Prm n) : (lyw k (dvs n)).getLast?.getD 0 = (k ^ n - k) / n := by
  rw [dvs_prime h]
  simp [lyw, ahd, lef, Nat.mod_one]

set_option maxRecDepth 100000 in
set_option maxHeartbeats 2000000 in
theorem isPrime_any (p : Int) (w : World) : Calls Tryd.prog 19 #[.int .i64 p] w fun e w' => e = .returned (.bool (decide (0 ≤ p ∧ Prm p.toNat))) ∧ w' = w := by
  by_cases h2 : p < 2
  · have hd : decide (0 ≤ p ∧ Prm p.toNat) = false := by
      simp only [decide_eq_false_iff_not]; rintro ⟨h, h3, _⟩; omega
    rw [hd]
    clear hd
    go_enter Tryd.func19, Tryd.ntmps19
    go_wp2
    go_ret
    exact ⟨rfl, rfl⟩
  by_cases h100 : 100 < p
  · have hd : decide (0 ≤ p ∧ Prm p.toNat) = false := by
      simp only [decide_eq_false_iff_not]; rintro ⟨h, _, h3, _⟩; omega
    rw [hd]
    clear hd
    go_enter Tryd.func19, Tryd.ntmps19
    go_wp2
    go_ret
    exact ⟨rfl, rfl⟩
  obtain ⟨n, rfl⟩ : ∃ n : Nat, p = n := ⟨p.toNat, by omega⟩
  have hn2 : 2 ≤ n := by omega
  have hn100 : n ≤ 100 := by omega
  obtain ⟨ans, hans⟩ : ∃ ans, decide (0 ≤ (n : Int) ∧ Prm (n : Int).toNat) = ans := ⟨_, rfl⟩
  have hA : ans = true ↔ ∀ d, d < n → 2 ≤ d → n % d ≠ 0 := by
    rw [← hans]
    simp only [decide_eq_true_eq, Int.toNat_natCast]
    exact ⟨fun h => h.2.2.2, fun h => ⟨by omega, hn2, hn100, h⟩⟩
  rw [hans]
  have HA := hide hA
  clear hA hans
  have h2i : ¬ (n : Int) < 2 := by omega
  have h2i' : ¬ n < 2 := by omega
  have h100i : ¬ (100 : Int) < (n : Int) := by omega
  have h100i' : ¬ 100 < n := by omega
  clear h2 h100
  go_enter Tryd.func19, Tryd.ntmps19
  go_wp2
  go_loop [3] (fun i => ∃ d : Nat, 2 ≤ d ∧ d ≤ n ∧ i = .int .i64 d ∧ ∀ t, t < d → 2 ≤ t → n % t ≠ 0) (fun i => n - (intOf i).toNat)
  case atStart => exact ⟨2, by omega, hn2, rfl, fun t h1 h2 => by omega⟩
  case round =>
    obtain ⟨d, hd2, hdn, rfl, hall⟩ := hrel
    have HD := hide hall
    clear hall
    by_cases hlt : d < n
    · have hli : (d : Int) < (n : Int) := by omega
      have hnz : ¬ (d : Int) = 0 := by omega
      have hnz2 : ¬ d = 0 := by omega
      have hrm := Int.tmod_eq_emod_of_nonneg (a := (n : Int)) (b := (d : Int)) (by omega)
      rw [← Int.natCast_emod] at hrm
      obtain ⟨r, hre⟩ : ∃ r, n % d = r := ⟨_, rfl⟩
      rw [hre] at hrm
      have HR := hide hre
      clear hre
      by_cases hr0 : r = 0
      · subst hr0
        have hf : ans = false := by
          rw [← Bool.not_eq_true, HA.out]
          intro h
          exact h d hlt hd2 HR.out
        subst hf
        go_wp2
        go_ret
        exact ⟨rfl, rfl⟩
      · have hb : ((r : Int) == 0) = false := by simp; omega
        go_wp2
        go_round
        case rel => exact ⟨d + 1, by omega, by omega, by go_num, fun t h1 h2 => by
          by_cases h : t = d
          · rw [h, HR.out]; exact hr0
          · exact HD.out t (by omega) h2⟩
        case measure => simp [intOf]; omega
    · have hli : ¬ (d : Int) < (n : Int) := by omega
      have hf : ans = true := HA.out.2 fun t h1 h2 => HD.out t (by omega) h2
      subst hf
      go_wp2
      go_ret
      exact ⟨rfl, rfl⟩

end Go.Proofs.YtojnjfkonaeegaaDoor
