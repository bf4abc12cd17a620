/- What is told of dihedral and dicyclic groups: moves of corners, powers of the first turn. No condition. -/
import Derived.Test.YtpcgacelljbkdaaMgrp
import Derived.Test.YtpcgacelljbkdaaMoves
namespace Go.Proofs.Ytpcgacelljbkdaa

theorem div_mkE {m i : Nat} (s : Bool) (hi : i < m) : mkE m s i / m = (if s then 1 else 0) := by
  cases s
  · simp [mkE, Nat.div_eq_of_lt hi]
  · simp only [mkE, if_true]
    rw [Nat.add_comm, Nat.add_div_right _ (by omega), Nat.div_eq_of_lt hi]
theorem mv_int {n i x : Nat} (s : Bool) (hx : x < n) : (mv n i (if s then 1 else 0) x : Int) = ((i : Int) + (if s then -(x : Int) else (x : Int))) % (n : Int) := by
  unfold mv
  cases s
  · simp only [Bool.false_eq_true, if_false, if_neg (show ¬ 0 = 1 by omega)]
    rw [Int.natCast_emod, Int.natCast_add, Int.add_comm]
  · simp only [if_true]
    rw [Int.natCast_emod, show ((i + n - x : Nat) : Int) = ((i : Int) + -(x : Int)) + (n : Int) by omega, Int.add_emod_right]
theorem mv_mv {n i k r y : Nat} (hn : 1 ≤ n) (s t : Bool) (hr : (r : Int) = tz n 0 s t i k) (hy : y < n) :
    mv n r (if xor s t then 1 else 0) y = mv n i (if s then 1 else 0) (mv n k (if t then 1 else 0) y) := by
  have h1 := mv_int (i := r) (xor s t) hy
  have h2 := mv_int (i := k) t hy
  have h3 := mv_int (i := i) s (mv_lt (n := n) (i := k) (k := if t then 1 else 0) (x := y) hn)
  have h4 : (mv n r (if xor s t then 1 else 0) y : Int) = (mv n i (if s then 1 else 0) (mv n k (if t then 1 else 0) y) : Int) := by
    rw [h1, h3, h2, hr]
    unfold tz
    have d : ∀ z : Int, ∃ j, z % (n : Int) = z - (n : Int) * j := fun z => ⟨z / (n : Int), by rw [Int.emod_def]⟩
    obtain ⟨j1, e1⟩ := d ((i : Int) + (if s then -(k : Int) else (k : Int)) + (if s && t then ((0 : Nat) : Int) else 0))
    obtain ⟨j2, e2⟩ := d ((k : Int) + (if t then -(y : Int) else (y : Int)))
    rw [e1, e2]
    apply emod_of_dvd
    cases s <;> cases t <;> simp only [Bool.xor_false, Bool.xor_true, Bool.not_true, Bool.not_false, Bool.and_true, Bool.and_false, if_true, if_false, Bool.false_eq_true, Int.add_zero]
    · exact ⟨j2 - j1, by rw [Int.mul_sub]; omega⟩
    · exact ⟨j2 - j1, by rw [Int.mul_sub]; omega⟩
    · exact ⟨-j2 - j1, by rw [Int.mul_sub, Int.mul_neg]; omega⟩
    · exact ⟨-j2 - j1, by rw [Int.mul_sub, Int.mul_neg]; omega⟩
  omega
/-- Products of a dihedral group's things are moves of corners, one after another. -/
theorem dih_moves {n a b : Nat} (hn : 1 ≤ n) (ha : a < 2 * n) (hb : b < 2 * n) :
    movL n (tf n 0 a b % n) (tf n 0 a b / n) = thenL (movL n (b % n) (b / n)) (movL n (a % n) (a / n)) := by
  obtain ⟨s, i, hi, rfl⟩ := mkE_all ha
  obtain ⟨t, k, hk, rfl⟩ := mkE_all hb
  obtain ⟨r, hr, e⟩ := tz_nat n 0 hn s t i k
  rw [tf_mkE hn s t hi hk e, mod_mkE _ hr, mod_mkE _ hi, mod_mkE _ hk, div_mkE _ hr, div_mkE _ hi, div_mkE _ hk]
  apply list_ext
  · rw [movL_len, thenL_len, movL_len]
  · intro y hy
    rw [movL_len] at hy
    have h1 := mv_lt (n := n) (i := k) (k := if t then 1 else 0) (x := y) hn
    rw [movL_get hy, thenL_get (x := mv n k (if t then 1 else 0) y) (by rw [movL_len]; exact hy) (movL_get hy), movL_get h1, mv_mv hn s t e hy]
theorem tf_kind {n a b : Nat} (hn : 1 ≤ n) (ha : a < 2 * n) (hb : b < 2 * n) : tf n 0 a b % n < n ∧ tf n 0 a b / n ≤ 1 := by
  obtain ⟨s, i, hi, rfl⟩ := mkE_all ha
  obtain ⟨t, k, hk, rfl⟩ := mkE_all hb
  obtain ⟨r, hr, e⟩ := tz_nat n 0 hn s t i k
  rw [tf_mkE hn s t hi hk e, mod_mkE _ hr, div_mkE _ hr]
  refine ⟨hr, ?_⟩
  split <;> omega
theorem kind_le {n a : Nat} (hn : 1 ≤ n) (ha : a < 2 * n) : a % n < n ∧ a / n ≤ 1 := by
  refine ⟨Nat.mod_lt _ hn, ?_⟩
  have : a / n < 2 := Nat.div_lt_of_lt_mul (by rw [Nat.mul_comm]; exact ha)
  omega
theorem dih_com1 : comB 2 (mkT 2 (tf 1 0)) = true := by decide +kernel
theorem dih_com2 : comB 4 (mkT 4 (tf 2 0)) = true := by decide +kernel
theorem dih_ord2 : ordN 4 (mkT 4 (tf 2 0)) 0 1 = 2 := by decide +kernel

/-- Dicyclic groups, m = 2 n. -/
theorem dic_grp {n : Nat} (h1 : 1 ≤ n) (h2 : n ≤ 15) : IsGrp (2 * (2 * n)) (mkT (2 * (2 * n)) (tf (2 * n) n)) 0 :=
  tf_grp (by omega) (by omega) ⟨1, by omega⟩
theorem dic_turn {n i : Nat} (h1 : 1 ≤ n) (hi : i < 2 * n) : tm (2 * (2 * n)) (mkT (2 * (2 * n)) (tf (2 * n) n)) i (2 * n) = 2 * n + i := by
  rw [tm_mk (by omega) (by omega)]
  unfold tf
  rw [if_pos hi, if_neg (by omega), Nat.mod_self, Nat.add_zero, Nat.mod_mod, Nat.mod_eq_of_lt hi]
theorem dic_sq {n : Nat} (h1 : 1 ≤ n) : tm (2 * (2 * n)) (mkT (2 * (2 * n)) (tf (2 * n) n)) (2 * n) (2 * n) = n := by
  rw [tm_mk (by omega) (by omega)]
  unfold tf
  rw [if_neg (by omega), if_neg (by omega), Nat.mod_self, Nat.zero_add, Nat.sub_zero, Nat.add_mod_left, Nat.mod_eq_of_lt (by omega)]
theorem dic_x1 {n : Nat} (h1 : 1 ≤ n) : tm (2 * (2 * n)) (mkT (2 * (2 * n)) (tf (2 * n) n)) (2 * n) 1 = 2 * n + (2 * n - 1) := by
  rw [tm_mk (by omega) (by omega)]
  unfold tf
  rw [if_neg (by omega), if_pos (by omega), Nat.mod_self, Nat.zero_add, Nat.mod_eq_of_lt (show 1 < 2 * n by omega), Nat.mod_eq_of_lt (by omega)]
theorem dic_add {n i k : Nat} (hi : i < 2 * n) (hk : k < 2 * n) : tm (2 * (2 * n)) (mkT (2 * (2 * n)) (tf (2 * n) n)) i k = (i + k) % (2 * n) := by
  rw [tm_mk (by omega) (by omega)]
  unfold tf
  rw [if_pos hi, if_pos hk, Nat.mod_eq_of_lt hi, Nat.mod_eq_of_lt hk]
theorem dic_pw {n : Nat} (h1 : 1 ≤ n) : ∀ j, pw (2 * (2 * n)) (mkT (2 * (2 * n)) (tf (2 * n) n)) 0 1 j = j % (2 * n)
  | 0 => by simp [pw]
  | j + 1 => by
    show tm _ _ (pw _ _ 0 1 j) 1 = _
    rw [dic_pw h1 j, dic_add (Nat.mod_lt _ (by omega)) (by omega), Nat.mod_add_mod]
theorem dic_ord {n : Nat} (h1 : 1 ≤ n) (h2 : n ≤ 15) : ordN (2 * (2 * n)) (mkT (2 * (2 * n)) (tf (2 * n) n)) 0 1 = 2 * n := by
  have hg := dic_grp h1 h2
  apply Nat.dvd_antisymm
  · apply ord_dvd hg (by omega)
    rw [dic_pw h1, Nat.mod_self]
  · have h3 := pw_ord hg (a := 1) (by omega)
    rw [dic_pw h1] at h3
    exact Nat.dvd_of_mod_eq_zero h3
theorem dic_pz {n i : Nat} (h1 : 1 ≤ n) (h2 : n ≤ 15) (hi : i < 2 * n) : pz (2 * (2 * n)) (mkT (2 * (2 * n)) (tf (2 * n) n)) 0 1 (i : Int) = i := by
  unfold pz
  rw [dic_ord h1 h2, dic_pw h1, show ((i : Int) % ((2 * n : Nat) : Int)).toNat = i by rw [← Int.natCast_emod, Int.toNat_natCast, Nat.mod_eq_of_lt hi], Nat.mod_eq_of_lt hi]
theorem dic_inv {n : Nat} (h1 : 1 ≤ n) (h2 : n ≤ 15) : invR (2 * (2 * n)) (mkT (2 * (2 * n)) (tf (2 * n) n)) 1 = ((2 * n - 1 : Nat) : Int) := by
  have hg := dic_grp h1 h2
  have q1 : tm (2 * (2 * n)) (mkT (2 * (2 * n)) (tf (2 * n) n)) 1 (2 * n - 1) = 0 := by rw [dic_add (by omega) (by omega), show 1 + (2 * n - 1) = 2 * n by omega, Nat.mod_self]
  have q2 : tm (2 * (2 * n)) (mkT (2 * (2 * n)) (tf (2 * n) n)) (2 * n - 1) 1 = 0 := by rw [dic_add (by omega) (by omega), show (2 * n - 1) + 1 = 2 * n by omega, Nat.mod_self]
  unfold invR
  rw [hg.one]
  rcases least_cases (2 * (2 * n)) (fun b => decide ((tm (2 * (2 * n)) (mkT (2 * (2 * n)) (tf (2 * n) n)) 1 b : Int) = ((0 : Nat) : Int)) && decide ((tm (2 * (2 * n)) (mkT (2 * (2 * n)) (tf (2 * n) n)) b 1 : Int) = ((0 : Nat) : Int))) with ⟨b, hb, hp, _, e⟩ | ⟨hno, _⟩
  · rw [e]
    simp only [Bool.and_eq_true, decide_eq_true_eq] at hp
    have := grp_cancel hg (x := 1) (y := b) (z := 2 * n - 1) (by omega) hb (by omega) (by rw [q1]; omega)
    rw [this]
  · have := hno (2 * n - 1) (by omega)
    rw [q1, q2] at this
    simp at this
theorem dic_y {n : Nat} (h1 : 1 ≤ n) : tm (2 * (2 * n)) (mkT (2 * (2 * n)) (tf (2 * n) n)) (2 * n - 1) (2 * n) = 2 * n + (2 * n - 1) := dic_turn h1 (by omega)
end Go.Proofs.Ytpcgacelljbkdaa
