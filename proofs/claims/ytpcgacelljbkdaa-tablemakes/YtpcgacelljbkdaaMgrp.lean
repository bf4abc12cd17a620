/- Cyclic groups, dihedral and dicyclic ones, as functions: they are groups. No condition. -/
import Derived.Test.YtpcgacelljbkdaaPgrp
import Derived.Test.YtpcgacelljbkdaaTurn
namespace Go.Proofs.Ytpcgacelljbkdaa

theorem cyc_grp {n : Nat} (h1 : 1 ≤ n) (h2 : n ≤ 60) : IsGrp n (mkT n (fun a b => (a + b) % n)) 0 := by
  refine grp_mk h1 h2 (fun a b _ _ => Nat.mod_lt _ (by omega)) (by omega) (fun a ha => ?_) (fun a ha => ?_) (fun a b c ha hb hc => ?_) (fun a ha => ?_)
  · show (0 + a) % n = a
    rw [Nat.zero_add]; exact Nat.mod_eq_of_lt ha
  · show (a + 0) % n = a
    rw [Nat.add_zero]; exact Nat.mod_eq_of_lt ha
  · show ((a + b) % n + c) % n = (a + (b + c) % n) % n
    rw [Nat.mod_add_mod, Nat.add_mod_mod, Nat.add_assoc]
  · refine ⟨(n - a) % n, Nat.mod_lt _ (by omega), ?_⟩
    show (a + (n - a) % n) % n = 0
    rw [Nat.add_mod_mod, show a + (n - a) = n by omega, Nat.mod_self]

/-- What is left of a number by m, as a number that is not below 0. -/
theorem emod_nat {m : Nat} (hm : 1 ≤ m) {x : Nat} {z : Int} (h : (x : Int) = z % (m : Int)) : x < m := by
  have := Int.emod_lt_of_pos z (show (0 : Int) < (m : Int) by omega)
  omega
/-- Turns: the number of a product, by kinds (false: a turn; true: a turned one). -/
def tz (m q : Nat) (s t : Bool) (i k : Int) : Int := (i + (if s then -k else k) + (if s && t then (q : Int) else 0)) % (m : Int)
/-- A thing by its kind and its number. -/
def mkE (m : Nat) (s : Bool) (i : Nat) : Nat := if s then m + i else i
theorem mkE_lt {m i : Nat} (s : Bool) (hi : i < m) : mkE m s i < 2 * m := by
  cases s <;> simp [mkE] <;> omega
theorem mkE_all {m a : Nat} (ha : a < 2 * m) : ∃ s i, i < m ∧ a = mkE m s i := by
  by_cases h : a < m
  · exact ⟨false, a, h, by simp [mkE]⟩
  · exact ⟨true, a - m, by omega, by simp [mkE]; omega⟩
theorem tz_nat (m q : Nat) (hm : 1 ≤ m) (s t : Bool) (i k : Int) : ∃ r : Nat, r < m ∧ (r : Int) = tz m q s t i k := by
  have h1 := Int.emod_nonneg (i + (if s then -k else k) + (if s && t then (q : Int) else 0)) (show (m : Int) ≠ 0 by omega)
  have h2 := Int.emod_lt_of_pos (i + (if s then -k else k) + (if s && t then (q : Int) else 0)) (show (0 : Int) < (m : Int) by omega)
  exact ⟨(tz m q s t i k).toNat, by unfold tz; omega, by unfold tz; omega⟩
theorem mod_mkE {m i : Nat} (s : Bool) (hi : i < m) : mkE m s i % m = i := by
  cases s
  · simp [mkE, Nat.mod_eq_of_lt hi]
  · simp [mkE, Nat.mod_eq_of_lt hi]
theorem nat_emod {x m : Nat} {z : Int} (h : (x : Int) % (m : Int) = z % (m : Int)) : ((x % m : Nat) : Int) = z % (m : Int) := by rw [Int.natCast_emod, h]
/-- The function of the program, by kinds. -/
theorem tf_mkE {m q : Nat} (hm : 1 ≤ m) (s t : Bool) {i k : Nat} (hi : i < m) (hk : k < m) {r : Nat} (hr : (r : Int) = tz m q s t i k) : tf m q (mkE m s i) (mkE m t k) = mkE m (xor s t) r := by
  have hrm : r < m := emod_nat hm hr
  unfold tf
  rw [mod_mkE s hi, mod_mkE t hk]
  unfold tz at hr
  cases s <;> cases t <;> simp [mkE, hi, hk] at hr ⊢
  · have : (((i + k) % m : Nat) : Int) = (r : Int) := by rw [Int.natCast_emod, Int.natCast_add, hr]
    omega
  · have : (((i + k) % m : Nat) : Int) = (r : Int) := by rw [Int.natCast_emod, Int.natCast_add, hr]
    rw [if_neg (by omega)]
    omega
  · have : (((i + m - k) % m : Nat) : Int) = (r : Int) := by
      rw [hr]
      apply nat_emod
      rw [show ((i + m - k : Nat) : Int) = ((i : Int) + -(k : Int)) + (m : Int) by omega, Int.add_emod_right]
    rw [if_neg (by omega)]
    omega
  · have : (((i + m - k + q) % m : Nat) : Int) = (r : Int) := by
      rw [hr]
      apply nat_emod
      rw [show ((i + m - k + q : Nat) : Int) = ((i : Int) + -(k : Int) + (q : Int)) + (m : Int) by omega, Int.add_emod_right]
    rw [if_neg (by omega), if_neg (by omega)]
    omega
/-- Numbers that differ by a multiple leave the same. -/
theorem emod_of_dvd {x y m : Int} (h : m ∣ x - y) : x % m = y % m := Int.emod_eq_emod_iff_emod_sub_eq_zero.2 (Int.emod_eq_zero_of_dvd h)
theorem tz_ass {m q : Nat} (hq : (m : Int) ∣ 2 * (q : Int)) (s t p : Bool) (i k l : Int) : tz m q (xor s t) p (tz m q s t i k) l = tz m q s (xor t p) i (tz m q t p k l) := by
  unfold tz
  have d : ∀ z : Int, ∃ j, z % (m : Int) = z - (m : Int) * j := fun z => ⟨z / (m : Int), by rw [Int.emod_def]⟩
  obtain ⟨j1, e1⟩ := d (i + (if s then -k else k) + (if s && t then (q : Int) else 0))
  obtain ⟨j2, e2⟩ := d (k + (if t then -l else l) + (if t && p then (q : Int) else 0))
  obtain ⟨g, hg⟩ := hq
  rw [e1, e2]
  apply emod_of_dvd
  cases s <;> cases t <;> cases p <;> simp only [Bool.xor_false, Bool.xor_true, Bool.not_true, Bool.not_false, Bool.and_true, Bool.and_false, if_true, if_false, Bool.false_eq_true, Int.add_zero]
  · exact ⟨j2 - j1, by rw [Int.mul_sub]; omega⟩
  · exact ⟨j2 - j1, by rw [Int.mul_sub]; omega⟩
  · exact ⟨j2 - j1, by rw [Int.mul_sub]; omega⟩
  · exact ⟨j2 - j1, by rw [Int.mul_sub]; omega⟩
  · exact ⟨-j2 - j1, by rw [Int.mul_sub, Int.mul_neg]; omega⟩
  · exact ⟨-j2 - j1, by rw [Int.mul_sub, Int.mul_neg]; omega⟩
  · exact ⟨-j2 - j1, by rw [Int.mul_sub, Int.mul_neg]; omega⟩
  · exact ⟨g - j2 - j1, by rw [Int.mul_sub, Int.mul_sub]; omega⟩
theorem tf_grp {m q : Nat} (hm : 1 ≤ m) (hm2 : m ≤ 30) (hq : (m : Int) ∣ 2 * (q : Int)) : IsGrp (2 * m) (mkT (2 * m) (tf m q)) 0 := by
  have key : ∀ (s t : Bool) (i k : Nat), i < m → k < m → ∃ r, r < m ∧ (r : Int) = tz m q s t i k ∧ tf m q (mkE m s i) (mkE m t k) = mkE m (xor s t) r := fun s t i k hi hk => by
    obtain ⟨r, hr, e⟩ := tz_nat m q hm s t i k
    exact ⟨r, hr, e, tf_mkE hm s t hi hk e⟩
  have h0 : 0 = mkE m false 0 := by simp [mkE]
  refine grp_mk (by omega) (by omega) (fun a b ha hb => ?_) (by omega) (fun a ha => ?_) (fun a ha => ?_) (fun a b c ha hb hc => ?_) (fun a ha => ?_)
  · obtain ⟨s, i, hi, rfl⟩ := mkE_all ha
    obtain ⟨t, k, hk, rfl⟩ := mkE_all hb
    obtain ⟨r, hr, _, e⟩ := key s t i k hi hk
    rw [e]; exact mkE_lt _ hr
  · obtain ⟨s, i, hi, rfl⟩ := mkE_all ha
    rw [h0, tf_mkE hm false s (by omega) hi (r := i) (by unfold tz; simp; exact (Int.emod_eq_of_lt (by omega) (by omega)).symm)]
    simp
  · obtain ⟨s, i, hi, rfl⟩ := mkE_all ha
    rw [h0, tf_mkE hm s false hi (by omega) (r := i) (by unfold tz; cases s <;> simp <;> exact (Int.emod_eq_of_lt (by omega) (by omega)).symm)]
    simp
  · obtain ⟨s, i, hi, rfl⟩ := mkE_all ha
    obtain ⟨t, k, hk, rfl⟩ := mkE_all hb
    obtain ⟨p, l, hl, rfl⟩ := mkE_all hc
    obtain ⟨r1, hr1, z1, e1⟩ := key s t i k hi hk
    obtain ⟨r2, hr2, z2, e2⟩ := key t p k l hk hl
    obtain ⟨r3, _, z3, e3⟩ := key (xor s t) p r1 l hr1 hl
    obtain ⟨r4, _, z4, e4⟩ := key s (xor t p) i r2 hi hr2
    rw [e1, e2, e3, e4, Bool.xor_assoc]
    have h5 := tz_ass (m := m) hq s t p i k l
    rw [← z1, ← z2, ← z3, ← z4] at h5
    rw [show r3 = r4 by omega]
  · obtain ⟨s, i, hi, rfl⟩ := mkE_all ha
    cases s with
    | false =>
      obtain ⟨r, hr, z⟩ := tz_nat m 0 hm false false (-(i : Int)) 0
      refine ⟨mkE m false r, mkE_lt _ hr, ?_⟩
      rw [h0, tf_mkE hm false false hi hr (r := 0) ?_]
      · simp
      · unfold tz at z ⊢
        simp at z ⊢
        rw [z]; simp
        rw [Int.add_right_neg, Int.zero_emod]
    | true =>
      obtain ⟨r, hr, z⟩ := tz_nat m 0 hm false false ((i : Int) + (q : Int)) 0
      refine ⟨mkE m true r, mkE_lt _ hr, ?_⟩
      rw [h0, tf_mkE hm true true hi hr (r := 0) ?_]
      · simp
      · unfold tz at z ⊢
        simp at z ⊢
        rw [z]
        have : ((i : Int) + -(((i : Int) + (q : Int)) % (m : Int)) + (q : Int)) % (m : Int) = 0 := by
          apply Int.emod_eq_zero_of_dvd
          rw [Int.emod_def]
          exact ⟨((i : Int) + (q : Int)) / (m : Int), by omega⟩
        exact this.symm
end Go.Proofs.Ytpcgacelljbkdaa
