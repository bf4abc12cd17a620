/- What the document's GroupFault answers: at every table, whatever it holds, the fault that the plain function gfault tells. -/
import Derived.Test.YtgphcfmiamiojaaRefE
namespace Go.Proofs.Ytgphcfmiamiojaa
open Go Go.RowKit

theorem gf_range {n : Nat} {zs : List Int} (h1 : 1 ≤ n) (h2 : n ≤ 60) (h3 : zs.length = n * n) {i : Nat} (hi : i < zs.length) (hb : zs[i]?.getD 0 < 0 ∨ (n : Int) ≤ zs[i]?.getD 0) (hno : ∀ t, t < i → ¬ (zs[t]?.getD 0 < 0 ∨ (n : Int) ≤ zs[t]?.getD 0)) : gfault n zs = (3, (i : Int)) := by
  have he : efault n zs = (3, (i : Int)) := by
    unfold efault
    have hl : least zs.length (fun i => decide (zs[i]?.getD 0 < 0 ∨ (n : Int) ≤ zs[i]?.getD 0)) = (i : Int) := least_at hi (decide_eq_true hb) (fun t ht => decide_eq_false (hno t ht))
    rw [if_neg (by omega), if_neg (by rw [h3, Int.natCast_mul]; simp), hl, if_pos (by omega)]
  unfold gfault
  rw [he, if_pos (by simp)]
theorem gf_ef {N : Int} {zs : List Int} {c i : Int} (h : efault N zs = (c, i)) (hc : c ≠ 0) : gfault N zs = (c, i) := by
  unfold gfault
  rw [h, if_pos hc]
theorem gf_none {n : Nat} {zs : List Int} (ht : IsTab n zs) (ho : one n zs = -1) : gfault n zs = (6, 0) := by
  unfold gfault
  rw [efault_of_tab ht, if_neg (by simp), Int.toNat_natCast, if_pos ho]
theorem gf_false {n : Nat} {zs : List Int} (ht : IsTab n zs) (ho : one n zs ≠ -1) {a : Nat} (ha : a < n) (hb : assB n zs a = false) (hno : ∀ t, t < a → assB n zs t = true) : gfault n zs = (7, (a : Int)) := by
  have hl : least n (fun a => !assB n zs a) = (a : Int) := least_at ha (by simp [hb]) (fun t h => by simp [hno t h])
  unfold gfault
  rw [efault_of_tab ht, if_neg (by simp), Int.toNat_natCast, if_neg ho, hl, if_pos (by omega)]
theorem invR_eq {n : Nat} {zs : List Int} (ht : IsTab n zs) (ho : one n zs ≠ -1) (hass : ∀ t, t < n → assB n zs t = true) {a : Nat} (ha : a < n) : invR n zs a = invL n zs (one n zs) a := by
  rcases least_cases n (oneB n zs) with ⟨e, he, hp, _, ee⟩ | ⟨_, ee⟩
  · have hone : one n zs = (e : Int) := ee
    have h1 := oneB_iff.1 hp
    unfold invR invL
    rw [hone]
    refine least_congr fun b hb => ?_
    rw [Bool.eq_iff_iff, Bool.and_eq_true, decide_eq_true_eq, decide_eq_true_eq]
    constructor
    · exact fun h => h.1
    · intro h
      refine ⟨h, ?_⟩
      have h2 := inv_both ht he (fun a ha => (h1 a ha).1) (fun a ha => (h1 a ha).2) (fun a b c ha hb hc => assB_iff.1 (hass a ha) b c hb hc) ha hb (by omega)
      rw [h2]
  · exact absurd ee ho
theorem gf_kind {n : Nat} {zs : List Int} (ht : IsTab n zs) (ho : one n zs ≠ -1) (hass : ∀ t, t < n → assB n zs t = true) {a : Nat} (ha : a < n) (hb : invR n zs a = -1) (hno : ∀ t, t < a → invR n zs t ≠ -1) : gfault n zs = (4, (a : Int)) := by
  have hl : least n (fun a => !assB n zs a) = -1 := least_none (fun t h => by simp [hass t h])
  have hk : least n (fun a => decide (invL n zs (one n zs) a = -1)) = (a : Int) := least_at ha (by rw [decide_eq_true_eq, ← invR_eq ht ho hass ha]; exact hb) (fun t h => by rw [decide_eq_false_iff_not, ← invR_eq ht ho hass (by omega)]; exact hno t h)
  unfold gfault
  rw [efault_of_tab ht, if_neg (by simp), Int.toNat_natCast, if_neg ho, hl, if_neg (by simp), hk, if_pos (by omega)]
theorem gf_ok {n : Nat} {zs : List Int} (ht : IsTab n zs) (ho : one n zs ≠ -1) (hass : ∀ t, t < n → assB n zs t = true) (hno : ∀ t, t < n → invR n zs t ≠ -1) : gfault n zs = (0, 0) := by
  have hl : least n (fun a => !assB n zs a) = -1 := least_none (fun t h => by simp [hass t h])
  have hk : least n (fun a => decide (invL n zs (one n zs) a = -1)) = -1 := least_none (fun t h => by rw [decide_eq_false_iff_not, ← invR_eq ht ho hass (by omega)]; exact hno t h)
  unfold gfault
  rw [efault_of_tab ht, if_neg (by simp), Int.toNat_natCast, if_neg ho, hl, if_neg (by simp), hk, if_neg (by simp)]
theorem invR_neg {n : Nat} {zs : List Int} {a : Nat} : invR n zs a < 0 ↔ invR n zs a = -1 := by
  unfold invR
  rcases least_cases n (fun b => decide ((tm n zs a b : Int) = one n zs) && decide ((tm n zs b a : Int) = one n zs)) with ⟨k, _, _, _, e⟩ | ⟨_, e⟩
  · rw [e]; omega
  · rw [e]; omega
theorem one_neg {n : Nat} {zs : List Int} : one n zs < 0 ↔ one n zs = -1 := by
  unfold one
  rcases least_cases n (oneB n zs) with ⟨k, _, _, _, e⟩ | ⟨_, e⟩
  · rw [e]; omega
  · rw [e]; omega

end Go.Proofs.Ytgphcfmiamiojaa
