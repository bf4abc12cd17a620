/- Plain mathematics of numbers in parts below 1000000000, the least first. No condition. -/
namespace Go.Proofs.YtojnjfkonaeegaaDoorQ

/-- The number that the parts are. -/
def val : List Nat → Nat
  | [] => 0
  | p :: ps => p + 1000000000 * val ps
/-- Parts times m plus a carry: the new parts and what is carried on. -/
def tp (m : Nat) : List Nat → Nat → List Nat × Nat
  | [], c => ([], c)
  | p :: ps, c => ((p * m + c) % 1000000000 :: (tp m ps ((p * m + c) / 1000000000)).1, (tp m ps ((p * m + c) / 1000000000)).2)
theorem tp_snoc (m : Nat) : ∀ (l : List Nat) (p c : Nat), tp m (l ++ [p]) c = ((tp m l c).1 ++ [(p * m + (tp m l c).2) % 1000000000], (p * m + (tp m l c).2) / 1000000000)
  | [], p, c => rfl
  | x :: l, p, c => by simp [tp, tp_snoc m l]
theorem tp_len (m : Nat) : ∀ (l : List Nat) (c : Nat), (tp m l c).1.length = l.length
  | [], _ => rfl
  | x :: l, c => by simp [tp, tp_len m l]
theorem tp_small (m : Nat) : ∀ (l : List Nat) (c : Nat) (q : Nat), q ∈ (tp m l c).1 → q < 1000000000
  | [], _, q, h => by simp [tp] at h
  | x :: l, c, q, h => by
    simp only [tp, List.mem_cons] at h
    rcases h with rfl | h
    · exact Nat.mod_lt _ (by omega)
    · exact tp_small m l _ q h
theorem tp_val (m : Nat) : ∀ (l : List Nat) (c : Nat), val (tp m l c).1 + 1000000000 ^ l.length * (tp m l c).2 = val l * m + c
  | [], c => by simp [tp, val]
  | x :: l, c => by
    have ih := tp_val m l ((x * m + c) / 1000000000)
    have hd := Nat.div_add_mod (x * m + c) 1000000000
    simp only [tp, val, List.length_cons, Nat.pow_succ]
    generalize (tp m l ((x * m + c) / 1000000000)).2 = c' at ih ⊢
    generalize val (tp m l ((x * m + c) / 1000000000)).1 = r at ih ⊢
    rw [Nat.add_mul, Nat.mul_assoc 1000000000 (val l) m]
    have e : 1000000000 ^ l.length * 1000000000 * c' = 1000000000 * (1000000000 ^ l.length * c') := by
      rw [Nat.mul_comm (1000000000 ^ l.length) 1000000000, Nat.mul_assoc]
    rw [e]
    generalize 1000000000 ^ l.length * c' = z at ih ⊢
    generalize val l * m = y at ih ⊢
    omega
theorem tp_carry {m : Nat} (hm : m ≤ 1000) : ∀ (l : List Nat) (c : Nat), (∀ p, p ∈ l → p < 1000000000) → c < 4294967296 → (tp m l c).2 < 4294967296
  | [], c, _, hc => hc
  | x :: l, c, h, hc => by
    have hx := h x (by simp)
    have hxm : x * m ≤ 1000000000 * 1000 := Nat.mul_le_mul (by omega) hm
    simp only [tp]
    exact tp_carry hm l _ (fun p hp => h p (by simp [hp])) (by omega)
theorem val_app : ∀ (a b : List Nat), val (a ++ b) = val a + 1000000000 ^ a.length * val b
  | [], b => by simp [val]
  | x :: a, b => by
    simp only [List.cons_append, val, val_app a b, List.length_cons, Nat.pow_succ]
    rw [Nat.mul_add, Nat.mul_comm (1000000000 ^ a.length) 1000000000, Nat.mul_assoc]
    omega
/-- A carry in parts, f parts at most. -/
def dg : Nat → Nat → List Nat
  | 0, _ => []
  | f + 1, c => if c = 0 then [] else c % 1000000000 :: dg f (c / 1000000000)
theorem dg_val : ∀ (f c : Nat), c < 1000000000 ^ f → val (dg f c) = c
  | 0, c, h => by simp at h; simp [dg, val, h]
  | f + 1, c, h => by
    rw [dg]
    split
    · simp_all [val]
    · have ih := dg_val f (c / 1000000000) (by
        rw [Nat.pow_succ] at h
        exact Nat.div_lt_of_lt_mul (by rw [Nat.mul_comm]; exact h))
      simp only [val, ih]
      omega
theorem dg_small : ∀ (f c q : Nat), q ∈ dg f c → q < 1000000000
  | 0, _, q, h => by simp [dg] at h
  | f + 1, c, q, h => by
    rw [dg] at h
    split at h
    · simp at h
    · simp only [List.mem_cons] at h
      rcases h with rfl | h
      · exact Nat.mod_lt _ (by omega)
      · exact dg_small f _ q h
theorem dg_len : ∀ (f c : Nat), (dg f c).length ≤ f
  | 0, _ => Nat.le_refl _
  | f + 1, c => by
    rw [dg]; split
    · simp
    · simp [dg_len f]
theorem dg_on {f c : Nat} (hc : 0 < c) (hf : c < 1000000000 ^ f) : ∃ f', f = f' + 1 ∧ c / 1000000000 < 1000000000 ^ f' ∧ dg f c = c % 1000000000 :: dg f' (c / 1000000000) := by
  cases f with
  | zero => simp at hf; omega
  | succ f =>
    refine ⟨f, rfl, ?_, by rw [dg, if_neg (by omega)]⟩
    rw [Nat.pow_succ] at hf
    exact Nat.div_lt_of_lt_mul (by rw [Nat.mul_comm]; exact hf)
theorem dg_zero (f : Nat) : dg f 0 = [] := by cases f <;> simp [dg]

/-- Without the noughts at the end. -/
def trm (l : List Nat) : List Nat := (l.reverse.dropWhile (· == 0)).reverse
theorem trm_nil : trm [] = [] := rfl
theorem trm_zero (l : List Nat) : trm (l ++ [0]) = trm l := by simp [trm]
theorem trm_keep (l : List Nat) {x : Nat} (hx : x ≠ 0) : trm (l ++ [x]) = l ++ [x] := by simp [trm, hx]
theorem val_zero : ∀ (l : List Nat), val (l ++ [0]) = val l := fun l => by rw [val_app]; simp [val]
theorem trm_facts (l : List Nat) : val (trm l) = val l ∧ (∃ t, l = trm l ++ t) ∧ (trm l).getLast? ≠ some 0 := by
  induction h : l.length generalizing l with
  | zero =>
    have : l = [] := List.length_eq_zero_iff.1 h
    subst this
    exact ⟨rfl, ⟨[], rfl⟩, by simp [trm]⟩
  | succ n ih =>
    obtain ⟨l', x, rfl⟩ : ∃ l' x, l = l' ++ [x] := ⟨l.dropLast, l.getLast (by intro e; simp [e] at h), (List.dropLast_concat_getLast _).symm⟩
    by_cases hx : x = 0
    · subst hx
      rw [trm_zero, val_zero]
      obtain ⟨h1, ⟨t, h2⟩, h3⟩ := ih l' (by simpa using h)
      exact ⟨h1, ⟨t ++ [0], by rw [← List.append_assoc, ← h2]⟩, h3⟩
    · rw [trm_keep _ hx]
      exact ⟨rfl, ⟨[], by simp⟩, by simpa using hx⟩
theorem trm_len (l : List Nat) : (trm l).length ≤ l.length := by
  obtain ⟨t, h⟩ := (trm_facts l).2.1
  have := congrArg List.length h
  simp at this; omega
theorem trm_take (l : List Nat) : trm l = l.take (trm l).length := by
  obtain ⟨t, h⟩ := (trm_facts l).2.1
  generalize trm l = r at h ⊢
  rw [h]; simp
theorem trm_step {l : List Nat} {n : Nat} (hn : n < l.length) (hz : l[n]?.getD 0 = 0) : trm (l.take (n + 1)) = trm (l.take n) := by
  rw [List.take_succ_eq_append_getElem hn]
  rw [List.getElem?_eq_getElem hn] at hz
  simp at hz
  rw [hz, trm_zero]
theorem trm_stop {l : List Nat} {n : Nat} (hn : n < l.length) (hz : l[n]?.getD 0 ≠ 0) : trm (l.take (n + 1)) = l.take (n + 1) := by
  rw [List.take_succ_eq_append_getElem hn]
  rw [List.getElem?_eq_getElem hn] at hz
  simp at hz
  exact trm_keep _ hz
theorem trm_small {l : List Nat} (h : ∀ p, p ∈ l → p < 1000000000) : ∀ p, p ∈ trm l → p < 1000000000 := by
  obtain ⟨t, e⟩ := (trm_facts l).2.1
  intro p hp
  exact h p (by rw [e]; simp [hp])

end Go.Proofs.YtojnjfkonaeegaaDoorQ
