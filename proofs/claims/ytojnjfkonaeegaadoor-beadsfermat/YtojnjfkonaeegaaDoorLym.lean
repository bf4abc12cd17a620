/- Mathematics of counts: how many words are like none of their turns, taken off one divisor after the other; nothing less than nothing is left. No condition. -/
import Derived.Test.YtojnjfkonaeegaaDoorKit
namespace Go.Proofs.YtojnjfkonaeegaaDoor

/-- What is left of k^d when what belongs to divisors of d is taken away. -/
def lef (k d : Nat) (ah : List (Nat × Nat)) : Nat := ah.foldl (fun l s => if d % s.1 = 0 then l - s.2 else l) (k ^ d)
/-- For each number of a list, rising: how many words are like none of their turns. -/
def ahd (k : Nat) (pre : List Nat) : List (Nat × Nat) := pre.foldl (fun ah d => ah ++ [(d, lef k d ah)]) []
theorem ahd_snoc (k : Nat) (pre : List Nat) (d : Nat) : ahd k (pre ++ [d]) = ahd k pre ++ [(d, lef k d (ahd k pre))] := by simp [ahd]
theorem ahd_len (k : Nat) (pre : List Nat) : (ahd k pre).length = pre.length := by
  suffices h : ∀ (n : Nat) (pre : List Nat), pre.length = n → (ahd k pre).length = n from h _ pre rfl
  intro n
  induction n with
  | zero => intro pre h; rw [List.length_eq_zero_iff.1 h]; rfl
  | succ n ih =>
    intro pre h
    have e := (List.dropLast_concat_getLast (l := pre) (by intro h0; rw [h0] at h; cases h)).symm
    rw [e, ahd_snoc, List.length_append, ih _ (by simp; omega)]; rfl
theorem lef_snoc (k d : Nat) (ah : List (Nat × Nat)) (s : Nat × Nat) : lef k d (ah ++ [s]) = if d % s.1 = 0 then lef k d ah - s.2 else lef k d ah := by simp [lef]
/-- All that is taken away, or not. -/
def tot (ah : List (Nat × Nat)) : Nat := (ah.map (·.2)).sum
theorem tot_snoc (ah : List (Nat × Nat)) (s : Nat × Nat) : tot (ah ++ [s]) = tot ah + s.2 := by simp [tot]
theorem tot_app (a b : List (Nat × Nat)) : tot (a ++ b) = tot a + tot b := by simp [tot]
theorem lef_le (k d : Nat) (ah : List (Nat × Nat)) : lef k d ah ≤ k ^ d := by
  suffices h : ∀ (ah : List (Nat × Nat)) (x : Nat), ah.foldl (fun l s => if d % s.1 = 0 then l - s.2 else l) x ≤ x from h ah _
  intro ah
  induction ah with
  | nil => intro x; exact Nat.le_refl _
  | cons s r ih =>
    intro x
    rw [List.foldl_cons]
    refine Nat.le_trans (ih _) ?_
    split <;> omega
theorem lef_ge (k d : Nat) (ah : List (Nat × Nat)) : k ^ d ≤ lef k d ah + tot ah := by
  suffices h : ∀ (ah : List (Nat × Nat)) (x : Nat), x ≤ ah.foldl (fun l s => if d % s.1 = 0 then l - s.2 else l) x + tot ah from h ah _
  intro ah
  induction ah with
  | nil => intro x; simp [tot]
  | cons s r ih =>
    intro x
    rw [List.foldl_cons]
    have h1 := ih (if d % s.1 = 0 then x - s.2 else x)
    have h2 : tot (s :: r) = s.2 + tot r := by simp [tot]
    rw [h2]
    split at h1 <;> split <;> omega

/-- Strictly rising, from 1 on, up to less than d. -/
structure Ris (pre : List Nat) (d : Nat) : Prop where
  rise : pre.Pairwise (· < ·)
  low : ∀ e ∈ pre, e < d
  one : pre = [] ∨ ∃ r, pre = 1 :: r
theorem Ris.init {pre : List Nat} {e d : Nat} (h : Ris (pre ++ [e]) d) : Ris pre e := by
  refine ⟨(List.pairwise_append.1 h.rise).1, fun x hx => (List.pairwise_append.1 h.rise).2.2 x hx e (by simp), ?_⟩
  cases pre with
  | nil => exact .inl rfl
  | cons a r =>
    rcases h.one with h1 | ⟨r', h1⟩
    · simp at h1
    · simp at h1; exact .inr ⟨r, by rw [h1.1]⟩
theorem snoc_ind {p : List Nat → Prop} (h0 : p []) (h1 : ∀ l x, p l → p (l ++ [x])) (l : List Nat) : p l := by
  suffices h : ∀ (n : Nat) (l : List Nat), l.length = n → p l from h _ l rfl
  intro n
  induction n with
  | zero => intro l h; rw [List.length_eq_zero_iff.1 h]; exact h0
  | succ n ih =>
    intro l h
    have e := (List.dropLast_concat_getLast (l := l) (by intro h0; rw [h0] at h; cases h)).symm
    rw [e]
    exact h1 _ _ (ih _ (by simp; omega))
/-- All together they are no more than there are words of d numbers. -/
theorem tot_le {k : Nat} (hk : 0 < k) : ∀ (pre : List Nat) (d : Nat), Ris pre d → tot (ahd k pre) ≤ k ^ d := by
  by_cases h1 : k = 1
  · subst h1
    have key : ∀ pre : List Nat, (pre = [] ∨ ∃ r, pre = 1 :: r) → (∀ e ∈ pre, 0 < e) → (pre = [] ∧ ahd 1 pre = []) ∨ ∃ r, ahd 1 pre = (1, 1) :: r ∧ tot r = 0 := by
      intro pre
      induction pre using snoc_ind with
      | h0 => intro _ _; exact .inl ⟨rfl, rfl⟩
      | h1 l x ih =>
        intro ho hp
        right
        rw [ahd_snoc]
        cases l with
        | nil =>
          rcases ho with ho | ⟨r, ho⟩
          · simp at ho
          · simp at ho
            rw [ho.1]
            exact ⟨[], rfl, rfl⟩
        | cons a r =>
          have ha : a = 1 := by
            rcases ho with ho | ⟨r', ho⟩
            · simp at ho
            · simp at ho; exact ho.1
          rcases ih (.inr ⟨r, by rw [ha]⟩) (fun e he => hp e (List.mem_append_left _ he)) with ⟨h, _⟩ | ⟨r2, h, ht⟩
          · cases h
          · rw [h]
            refine ⟨r2 ++ [(x, lef 1 x ((1, 1) :: r2))], rfl, ?_⟩
            rw [tot_snoc, ht]
            have : lef 1 x ((1, 1) :: r2) = 0 := by
              unfold lef
              rw [List.foldl_cons]
              have e : (if x % ((1 : Nat), (1 : Nat)).1 = 0 then 1 ^ x - ((1 : Nat), (1 : Nat)).2 else 1 ^ x) = 0 := by simp [Nat.mod_one]
              rw [e]
              clear e h ht
              induction r2 with
              | nil => rfl
              | cons s r2 ih2 =>
                rw [List.foldl_cons]
                have e : (if x % s.1 = 0 then 0 - s.2 else 0) = 0 := by split <;> omega
                rw [e]; exact ih2
            rw [this]
            exact rfl
    intro pre d h
    have hpos : ∀ e ∈ pre, 0 < e := by
      intro e he
      rcases h.one with h0 | ⟨r, h0⟩
      · rw [h0] at he; simp at he
      · rw [h0] at he
        rcases List.mem_cons.1 he with rfl | he
        · omega
        · have := h.rise
          rw [h0] at this
          have := (List.pairwise_cons.1 this).1 e he
          omega
    rcases key pre h.one hpos with ⟨_, h2⟩ | ⟨r, h2, h3⟩
    · rw [h2]; simp [tot]
    · rw [h2]
      have : tot ((1, 1) :: r) = 1 + tot r := by simp [tot]
      rw [this, h3]; simp
  · intro pre
    induction pre using snoc_ind with
    | h0 => intro d _; simp [ahd, tot]
    | h1 l x ih =>
      intro d h
      have hx := h.low x (by simp)
      have h2 := ih x h.init
      have h3 := lef_le k x (ahd k l)
      rw [ahd_snoc, tot_snoc]
      have h4 : k ^ (x + 1) ≤ k ^ d := Nat.pow_le_pow_right hk (by omega)
      have h5 : k ^ x * 2 ≤ k ^ x * k := Nat.mul_le_mul_left _ (by omega)
      rw [Nat.pow_succ] at h4
      show tot (ahd k l) + lef k x (ahd k l) ≤ k ^ d
      omega
theorem ahd_fst (k : Nat) (pre : List Nat) : (ahd k pre).map (·.1) = pre := by
  induction pre using snoc_ind with
  | h0 => rfl
  | h1 l x ih => rw [ahd_snoc, List.map_append, ih]; rfl
/-- What is taken away is there. -/
theorem lef_room {k d : Nat} {a : List (Nat × Nat)} {s : Nat × Nat} {b : List (Nat × Nat)} (h : tot (a ++ s :: b) ≤ k ^ d) : s.2 ≤ lef k d a := by
  have h1 := lef_ge k d a
  rw [tot_app] at h
  have : tot (s :: b) = s.2 + tot b := by simp [tot]
  omega

end Go.Proofs.YtojnjfkonaeegaaDoor
