/- Numbers in parts: sums and differences part by part, and quotients. No condition. -/
import Derived.Test.YtojnjfkonaeegaaDoorQNum
namespace Go.Proofs.YtojnjfkonaeegaaDoorQ

def pt (ps : List Nat) (i : Nat) : Nat := ps[i]?.getD 0
theorem pt_small {ps : List Nat} (h : ∀ p, p ∈ ps → p < 1000000000) (i : Nat) : pt ps i < 1000000000 := by
  unfold pt
  by_cases hi : i < ps.length
  · rw [List.getElem?_eq_getElem hi]; exact h _ (List.getElem_mem hi)
  · rw [List.getElem?_eq_none (by omega)]; show 0 < _; omega
/-- The value of the first k parts. -/
def vt (a : Nat → Nat) : Nat → Nat
  | 0 => 0
  | k + 1 => vt a k + 1000000000 ^ k * a k
theorem val_snoc (l : List Nat) (x : Nat) : val (l ++ [x]) = val l + 1000000000 ^ l.length * x := by
  rw [val_app]; simp [val]
theorem vt_take (ps : List Nat) : ∀ k, k ≤ ps.length → vt (pt ps) k = val (ps.take k)
  | 0, _ => by simp [vt, val]
  | k + 1, h => by
    rw [vt, vt_take ps k (by omega), List.take_succ_eq_append_getElem (by omega), val_snoc, List.length_take, Nat.min_eq_left (by omega)]
    unfold pt
    rw [List.getElem?_eq_getElem (by omega)]; rfl
theorem vt_val (ps : List Nat) : ∀ k, ps.length ≤ k → vt (pt ps) k = val ps := by
  intro k hk
  obtain ⟨d, rfl⟩ : ∃ d, k = ps.length + d := ⟨k - ps.length, by omega⟩
  clear hk
  induction d with
  | zero => rw [Nat.add_zero, vt_take ps _ (Nat.le_refl _), List.take_length]
  | succ d ih =>
    rw [← Nat.add_assoc, vt, ih]
    unfold pt
    rw [List.getElem?_eq_none (by omega)]; simp
theorem vt_lt {a : Nat → Nat} (h : ∀ i, a i < 1000000000) : ∀ k, vt a k < 1000000000 ^ k
  | 0 => by simp [vt]
  | k + 1 => by
    have := vt_lt h k
    have h2 := h k
    rw [vt, Nat.pow_succ]
    have h3 : 1000000000 ^ k * a k ≤ 1000000000 ^ k * 999999999 := Nat.mul_le_mul_left _ (by omega)
    omega

/-- The sum's first k parts, and what is carried. -/
def pls (a b : Nat → Nat) : Nat → List Nat × Nat
  | 0 => ([], 0)
  | k + 1 => ((pls a b k).1 ++ [(a k + b k + (pls a b k).2) % 1000000000], (a k + b k + (pls a b k).2) / 1000000000)
theorem pls_len (a b : Nat → Nat) : ∀ k, (pls a b k).1.length = k
  | 0 => rfl
  | k + 1 => by simp [pls, pls_len a b k]
theorem pls_small (a b : Nat → Nat) : ∀ k, ∀ p, p ∈ (pls a b k).1 → p < 1000000000
  | 0, p, h => by simp [pls] at h
  | k + 1, p, h => by
    rcases List.mem_append.1 h with h | h
    · exact pls_small a b k p h
    · simp at h; omega
theorem pls_carry {a b : Nat → Nat} (ha : ∀ i, a i < 1000000000) (hb : ∀ i, b i < 1000000000) : ∀ k, (pls a b k).2 ≤ 1
  | 0 => by simp [pls]
  | k + 1 => by
    have := pls_carry ha hb k
    have := ha k
    have := hb k
    simp only [pls]; omega
theorem pls_val (a b : Nat → Nat) : ∀ k, val (pls a b k).1 + 1000000000 ^ k * (pls a b k).2 = vt a k + vt b k
  | 0 => by simp [pls, val, vt]
  | k + 1 => by
    have ih := pls_val a b k
    simp only [pls]
    rw [val_snoc, pls_len, vt, vt, Nat.pow_succ]
    generalize (pls a b k).2 = c at *
    have h := Nat.div_add_mod (a k + b k + c) 1000000000
    generalize (a k + b k + c) / 1000000000 = q at *
    generalize (a k + b k + c) % 1000000000 = r at *
    have e : 1000000000 ^ k * (a k + b k + c) = 1000000000 ^ k * (1000000000 * q + r) := by rw [h]
    rw [Nat.mul_add, Nat.mul_add, Nat.mul_add] at e
    rw [Nat.mul_assoc]
    omega
theorem pls_all {ps qs : List Nat} (hp : ∀ p, p ∈ ps → p < 1000000000) (hq : ∀ p, p ∈ qs → p < 1000000000) {n : Nat} (h1 : ps.length + 1 ≤ n) (h2 : qs.length + 1 ≤ n) : val (pls (pt ps) (pt qs) n).1 = val ps + val qs := by
  have h := pls_val (pt ps) (pt qs) n
  rw [vt_val ps n (by omega), vt_val qs n (by omega)] at h
  have hc : (pls (pt ps) (pt qs) n).2 = 0 := by
    obtain ⟨k, rfl⟩ : ∃ k, n = k + 1 := ⟨n - 1, by omega⟩
    have := pls_carry (pt_small hp) (pt_small hq) k
    simp only [pls]
    have e1 : pt ps k = 0 := by unfold pt; rw [List.getElem?_eq_none (by omega)]; rfl
    have e2 : pt qs k = 0 := by unfold pt; rw [List.getElem?_eq_none (by omega)]; rfl
    rw [e1, e2]; omega
  rw [hc] at h; omega

/-- The difference's first k parts, and what is borrowed. -/
def mns (a b : Nat → Nat) : Nat → List Nat × Nat
  | 0 => ([], 0)
  | k + 1 => ((mns a b k).1 ++ [(1000000000 + a k - b k - (mns a b k).2) % 1000000000], 1 - (1000000000 + a k - b k - (mns a b k).2) / 1000000000)
theorem mns_len (a b : Nat → Nat) : ∀ k, (mns a b k).1.length = k
  | 0 => rfl
  | k + 1 => by simp [mns, mns_len a b k]
theorem mns_small (a b : Nat → Nat) : ∀ k, ∀ p, p ∈ (mns a b k).1 → p < 1000000000
  | 0, p, h => by simp [mns] at h
  | k + 1, p, h => by
    rcases List.mem_append.1 h with h | h
    · exact mns_small a b k p h
    · simp at h; omega
theorem mns_carry (a b : Nat → Nat) : ∀ k, (mns a b k).2 ≤ 1
  | 0 => by simp [mns]
  | k + 1 => by simp only [mns]; omega
theorem mns_val {a b : Nat → Nat} (ha : ∀ i, a i < 1000000000) (hb : ∀ i, b i < 1000000000) : ∀ k, val (mns a b k).1 + vt b k = vt a k + 1000000000 ^ k * (mns a b k).2
  | 0 => by simp [mns, val, vt]
  | k + 1 => by
    have ih := mns_val ha hb k
    have hc := mns_carry a b k
    have h1 := ha k
    have h2 := hb k
    simp only [mns]
    rw [val_snoc, mns_len, vt, vt, Nat.pow_succ]
    generalize (mns a b k).2 = c at *
    have hs : 1000000000 + a k - b k - c + (b k + c) = 1000000000 + a k := by omega
    generalize 1000000000 + a k - b k - c = s at *
    have h := Nat.div_add_mod s 1000000000
    have hq : s / 1000000000 ≤ 1 := by omega
    generalize s / 1000000000 = q at *
    generalize s % 1000000000 = r at *
    obtain ⟨d, hd⟩ : ∃ d, 1 - q = d := ⟨_, rfl⟩
    rw [hd]
    have e : 1000000000 ^ k * (r + b k + c) = 1000000000 ^ k * (1000000000 * d + a k) := by
      congr 1; omega
    rw [Nat.mul_add, Nat.mul_add, Nat.mul_add] at e
    rw [Nat.mul_assoc]
    omega
theorem mns_all {ps qs : List Nat} (hp : ∀ p, p ∈ ps → p < 1000000000) (hq : ∀ p, p ∈ qs → p < 1000000000) (hle : val qs ≤ val ps) (hl : qs.length ≤ ps.length) : val (mns (pt ps) (pt qs) ps.length).1 = val ps - val qs := by
  have h := mns_val (pt_small hp) (pt_small hq) ps.length
  rw [vt_val ps _ (Nat.le_refl _), vt_val qs _ hl] at h
  have hc := mns_carry (pt ps) (pt qs) ps.length
  have hv : val (mns (pt ps) (pt qs) ps.length).1 < 1000000000 ^ ps.length := by
    have h1 := vt_val (mns (pt ps) (pt qs) ps.length).1 ps.length (by rw [mns_len]; omega)
    rw [← h1]
    exact vt_lt (pt_small (mns_small _ _ _)) _
  have hc0 : (mns (pt ps) (pt qs) ps.length).2 = 0 := by
    rcases Nat.eq_zero_or_pos (mns (pt ps) (pt qs) ps.length).2 with h0 | h0
    · exact h0
    · have : (mns (pt ps) (pt qs) ps.length).2 = 1 := by omega
      rw [this] at h; omega
  rw [hc0] at h; omega
/-- A number in parts, the last one not 0, has no more parts than a greater one. -/
theorem len_le {ps qs : List Nat} (hp : ∀ p, p ∈ ps → p < 1000000000) (hl : qs.getLast? ≠ some 0) (hle : val qs ≤ val ps) : qs.length ≤ ps.length := by
  rcases Nat.lt_or_ge ps.length qs.length with h | h
  · exfalso
    have h1 : val ps < 1000000000 ^ ps.length := by
      rw [← vt_val ps _ (Nat.le_refl _)]; exact vt_lt (pt_small hp) _
    obtain ⟨k, hk⟩ : ∃ k, qs.length = k + 1 := ⟨qs.length - 1, by omega⟩
    have h2 : vt (pt qs) (k + 1) = val qs := vt_val qs _ (by omega)
    rw [vt] at h2
    have h3 : pt qs k ≠ 0 := by
      intro h0
      apply hl
      rw [List.getLast?_eq_getElem?, hk]
      unfold pt at h0
      rw [show k + 1 - 1 = k by omega, List.getElem?_eq_getElem (by omega)] at *
      rw [← h0]; rfl
    have h4 : 1000000000 ^ k * 1 ≤ 1000000000 ^ k * pt qs k := Nat.mul_le_mul_left _ (by omega)
    have h5 : 1000000000 ^ ps.length ≤ 1000000000 ^ k := Nat.pow_le_pow_right (by omega) (by omega)
    omega
  · exact h
end Go.Proofs.YtojnjfkonaeegaaDoorQ
