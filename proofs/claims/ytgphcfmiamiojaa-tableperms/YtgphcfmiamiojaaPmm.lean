/- Products and inverses of permutations. Plain mathematics; no condition. -/
import Derived.Test.YtgphcfmiamiojaaPerm
namespace Go.Proofs.Ytgphcfmiamiojaa.Pm

theorem mem_getD {c : List Nat} {n : Nat} (h : ∀ y, y ∈ c → y < n) (j : Nat) (hj : j < c.length) : c[j]?.getD 0 < n := by
  rw [List.getElem?_eq_getElem hj]; exact h _ (List.getElem_mem hj)
/-- The inverse, as far as k numbers tell it. -/
def invTo (xs : List Int) : Nat → List Int
  | 0 => List.replicate xs.length 0
  | k + 1 => (invTo xs k).set (nx xs k) (k : Int)
def invL (xs : List Int) : List Int := invTo xs xs.length
theorem invTo_len (xs : List Int) : ∀ k, (invTo xs k).length = xs.length
  | 0 => by simp [invTo]
  | k + 1 => by simp [invTo, invTo_len xs k]
theorem invL_len (xs : List Int) : (invL xs).length = xs.length := invTo_len xs _
theorem nx_ne {xs : List Int} (hp : IsPerm xs) {i j : Nat} (hi : i < xs.length) (hj : j < xs.length) (h : i ≠ j) : nx xs i ≠ nx xs j := by
  have h1 := nx_lt hp hi
  have h2 := nx_lt hp hj
  intro e
  rcases Nat.lt_or_gt_of_ne h with hlt | hlt
  · exact hp.2 i j hlt hj (by rw [h1.2, h2.2, e])
  · exact hp.2 j i hlt hi (by rw [h1.2, h2.2, e])
theorem invTo_get {xs : List Int} (hp : IsPerm xs) : ∀ (k : Nat), k ≤ xs.length → ∀ i, i < k → (invTo xs k)[nx xs i]?.getD 0 = (i : Int)
  | 0, _, i, hi => by omega
  | k + 1, hk, i, hi => by
    have hn := (nx_lt hp (show i < xs.length by omega)).1
    rw [invTo, List.getElem?_set]
    by_cases e : i = k
    · subst e
      rw [if_pos rfl, invTo_len, if_pos hn]; rfl
    · rw [if_neg (nx_ne hp (by omega) (by omega) (fun h => e h.symm))]
      exact invTo_get hp k (by omega) i (by omega)
theorem invL_get {xs : List Int} (hp : IsPerm xs) {i : Nat} (hi : i < xs.length) : (invL xs)[nx xs i]?.getD 0 = (i : Int) := invTo_get hp _ (Nat.le_refl _) i hi
theorem nodup_len : ∀ (l m : List Nat), l.Nodup → (∀ z, z ∈ l → z ∈ m) → l.length ≤ m.length
  | [], _, _, _ => Nat.zero_le _
  | a :: l, m, hn, hs => by
    rw [List.nodup_cons] at hn
    have ha := hs a (by simp)
    have h1 := nodup_len l (m.erase a) hn.2 (fun z hz => by
      rw [List.mem_erase_of_ne (fun e => hn.1 (by rw [← e]; exact hz))]
      exact hs z (by simp [hz]))
    rw [List.length_erase_of_mem ha] at h1
    have := List.length_pos_of_mem ha
    simp; omega
/-- A permutation hits every point. -/
theorem perm_hits {xs : List Int} (hp : IsPerm xs) {y : Nat} (hy : y < xs.length) : ∃ i, i < xs.length ∧ nx xs i = y := by
  -- the list of what points are moved to has no two the same, and all are below n
  have hnd : ((List.range xs.length).map (nx xs)).Nodup := by
    rw [List.nodup_iff_pairwise_ne, List.pairwise_map]
    refine List.Pairwise.imp_of_mem ?_ List.nodup_range
    intro i j hi hj hij
    rw [List.mem_range] at hi hj
    exact nx_ne hp hi hj hij
  have hsub : ∀ z, z ∈ (List.range xs.length).map (nx xs) → z ∈ List.range xs.length := by
    intro z hz
    rw [List.mem_map] at hz
    obtain ⟨i, hi, rfl⟩ := hz
    rw [List.mem_range] at hi ⊢
    exact (nx_lt hp hi).1
  by_cases hm : y ∈ (List.range xs.length).map (nx xs)
  · rw [List.mem_map] at hm
    obtain ⟨i, hi, e⟩ := hm
    exact ⟨i, by simpa using hi, e⟩
  · exfalso
    have h1 := nodup_len _ ((List.range xs.length).erase y) hnd (fun z hz => by
      rw [List.mem_erase_of_ne (fun e => hm (by rw [← e]; exact hz))]
      exact hsub z hz)
    rw [List.length_erase_of_mem (by simpa using hy)] at h1
    simp at h1
    omega
/-- What stays. -/
def idL (n : Nat) : List Int := (List.range n).map fun (i : Nat) => (i : Int)
theorem idL_len (n : Nat) : (idL n).length = n := by simp [idL]
theorem idL_get {n i : Nat} (hi : i < n) : (idL n)[i]?.getD 0 = (i : Int) := by simp [idL, hi]
theorem idL_succ (n : Nat) : idL (n + 1) = idL n ++ [(n : Int)] := by simp [idL, List.range_succ]
theorem idL_perm (n : Nat) : IsPerm (idL n) := by
  refine ⟨fun i hi => ?_, fun i j hij hj => ?_⟩
  · rw [idL_len] at hi ⊢
    rw [idL_get hi]; omega
  · rw [idL_len] at hj
    rw [idL_get (by omega), idL_get hj]; omega
theorem list_ext {xs ys : List Int} (hl : xs.length = ys.length) (h : ∀ i, i < xs.length → xs[i]?.getD 0 = ys[i]?.getD 0) : xs = ys := by
  apply List.ext_getElem hl
  intro i h1 h2
  have := h i h1
  rw [List.getElem?_eq_getElem h1, List.getElem?_eq_getElem h2] at this
  simpa using this
theorem mulL_perm {xs ys : List Int} (hx : IsPerm xs) (hy : IsPerm ys) (hl : xs.length = ys.length) : IsPerm (mulL xs ys) := by
  refine ⟨fun i hi => ?_, fun i j hij hj => ?_⟩
  · rw [mulL_len] at hi ⊢
    rw [mulL_get ys hi, hl]
    exact hy.1 _ (by rw [← hl]; exact (nx_lt hx hi).1)
  · rw [mulL_len] at hj
    rw [mulL_get ys (by omega), mulL_get ys hj]
    have hi : i < xs.length := by omega
    have h1 := (nx_lt hx hi).1
    have h2 := (nx_lt hx hj).1
    have hne := nx_ne hx hi hj (by omega)
    have h3 := nx_ne hy (i := nx xs i) (j := nx xs j) (by omega) (by omega) hne
    intro e
    exact h3 (congrArg Int.toNat e)
theorem mulL_assoc {xs ys zs : List Int} (hx : IsPerm xs) (hl : xs.length = ys.length) : mulL (mulL xs ys) zs = mulL xs (mulL ys zs) := by
  apply list_ext (by simp [mulL_len])
  intro i hi
  rw [mulL_len, mulL_len] at hi
  rw [mulL_get zs (by rw [mulL_len]; exact hi), mulL_get ys hi, mulL_get _ hi, mulL_get zs (by rw [← hl]; exact (nx_lt hx hi).1)]
theorem invL_perm {xs : List Int} (hx : IsPerm xs) : IsPerm (invL xs) := by
  have key : ∀ y, y < xs.length → ∃ i, i < xs.length ∧ nx xs i = y ∧ (invL xs)[y]?.getD 0 = (i : Int) := by
    intro y hy
    obtain ⟨i, hi, e⟩ := perm_hits hx hy
    exact ⟨i, hi, e, by rw [← e]; exact invL_get hx hi⟩
  refine ⟨fun y hy => ?_, fun y z hyz hz => ?_⟩
  · rw [invL_len] at hy ⊢
    obtain ⟨i, hi, _, e⟩ := key y hy
    rw [e]; omega
  · rw [invL_len] at hz
    obtain ⟨i, hi, ei, e1⟩ := key y (by omega)
    obtain ⟨j, hj, ej, e2⟩ := key z hz
    rw [e1, e2]
    intro e
    have : i = j := by omega
    subst this
    omega
theorem mul_inv {xs : List Int} (hx : IsPerm xs) : mulL xs (invL xs) = idL xs.length := by
  apply list_ext (by simp [mulL_len, idL_len])
  intro i hi
  rw [mulL_len] at hi
  rw [mulL_get _ hi, idL_get hi]
  exact invL_get hx hi
theorem inv_mul {xs : List Int} (hx : IsPerm xs) : mulL (invL xs) xs = idL xs.length := by
  apply list_ext (by simp [mulL_len, idL_len, invL_len])
  intro y hy
  rw [mulL_len, invL_len] at hy
  rw [mulL_get _ (by rw [invL_len]; exact hy), idL_get hy]
  obtain ⟨i, hi, e⟩ := perm_hits hx hy
  have h1 := invL_get hx hi
  rw [e] at h1
  rw [h1, Int.toNat_natCast, (nx_lt hx hi).2, e]
theorem id_mul {xs : List Int} : mulL (idL xs.length) xs = xs := by
  apply list_ext (by simp [mulL_len, idL_len])
  intro i hi
  rw [mulL_len, idL_len] at hi
  rw [mulL_get _ (by rw [idL_len]; exact hi), idL_get hi, Int.toNat_natCast]
end Go.Proofs.Ytgphcfmiamiojaa.Pm
