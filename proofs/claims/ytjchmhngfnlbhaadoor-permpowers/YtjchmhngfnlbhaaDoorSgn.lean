/- Signs of permutations as math: pairs that change their order, products, swaps, cycles. No condition. -/
import Derived.Test.YtjchmhngfnlbhaaDoorMath
namespace Go.Proofs.YtjchmhngfnlbhaaDoor.Sgnm
theorem map_nodup {f : Nat → Nat} : ∀ {l : List Nat}, l.Nodup → (∀ x y, x ∈ l → y ∈ l → f x = f y → x = y) → (l.map f).Nodup
  | [], _, _ => by simp
  | a :: l, hn, hf => by
    rw [List.nodup_cons] at hn
    rw [List.map_cons, List.nodup_cons]
    refine ⟨fun hm => ?_, map_nodup hn.2 (fun x y hx hy => hf x y (by simp [hx]) (by simp [hy]))⟩
    obtain ⟨y, hy, e⟩ := List.mem_map.1 hm
    have := hf y a (by simp [hy]) (by simp) e
    rw [this] at hy
    exact hn.1 hy
theorem meets {n : Nat} {f : Nat → Nat} (hl : ∀ x, x < n → f x < n) (hi : ∀ x y, x < n → y < n → f x = f y → x = y) {y : Nat} (hy : y < n) : ∃ x, x < n ∧ f x = y := by
  rcases Classical.em (∃ x, x < n ∧ f x = y) with h | h
  · exact h
  · exfalso
    have h1 : (y :: (List.range n).map f).Nodup := by
      rw [List.nodup_cons]
      refine ⟨fun hm => ?_, map_nodup List.nodup_range (fun a b ha hb => hi a b (List.mem_range.1 ha) (List.mem_range.1 hb))⟩
      obtain ⟨x, hx, e⟩ := List.mem_map.1 hm
      exact h ⟨x, List.mem_range.1 hx, e⟩
    have h2 := nodup_len _ (List.range n) h1 (fun z hz => by
      rcases List.mem_cons.1 hz with rfl | hz
      · exact List.mem_range.2 hy
      · obtain ⟨x, hx, rfl⟩ := List.mem_map.1 hz
        exact List.mem_range.2 (hl x (List.mem_range.1 hx)))
    simp at h2
    omega
theorem bij_len {l1 l2 : List Nat} (f : Nat → Nat) (h1 : l1.Nodup) (h2 : l2.Nodup) (hf : ∀ x, x ∈ l1 → f x ∈ l2) (hi : ∀ x y, x ∈ l1 → y ∈ l1 → f x = f y → x = y) (hs : ∀ y, y ∈ l2 → ∃ x, x ∈ l1 ∧ f x = y) : l1.length = l2.length := by
  apply Nat.le_antisymm
  · have := nodup_len (l1.map f) l2 (map_nodup h1 hi) (fun z hz => by
      obtain ⟨x, hx, rfl⟩ := List.mem_map.1 hz
      exact hf x hx)
    simpa using this
  · have := nodup_len l2 (l1.map f) h2 (fun z hz => by
      obtain ⟨x, hx, rfl⟩ := hs z hz
      exact List.mem_map.2 ⟨x, hx, rfl⟩)
    simpa using this
theorem filter_eq {l : List Nat} {p q : Nat → Bool} (h : ∀ x, x ∈ l → p x = q x) : l.filter p = l.filter q := List.filter_congr h
theorem pair_code {N x y : Nat} (hy : y < N) : (x * N + y) / N = x ∧ (x * N + y) % N = y := by
  have hN : 0 < N := by omega
  constructor
  · rw [Nat.mul_comm, Nat.mul_add_div hN, Nat.div_eq_of_lt hy, Nat.add_zero]
  · rw [Nat.mul_comm, Nat.mul_add_mod, Nat.mod_eq_of_lt hy]

/-- A permutation of the numbers below n. -/
structure Pm (n : Nat) (f : Nat → Nat) : Prop where
  lt : ∀ x, x < n → f x < n
  inj : ∀ x y, x < n → y < n → f x = f y → x = y
theorem Pm.comp {n : Nat} {f g : Nat → Nat} (hf : Pm n f) (hg : Pm n g) : Pm n (fun x => g (f x)) :=
  ⟨fun x hx => hg.lt _ (hf.lt x hx), fun x y hx hy h => hf.inj x y hx hy (hg.inj _ _ (hf.lt x hx) (hf.lt y hy) h)⟩
/-- Pairs, the lesser first, by one number. -/
def prs (n : Nat) : List Nat := (List.range (n * n)).filter fun c => decide (c / n < c % n)
theorem prs_mk {n i k : Nat} (hik : i < k) (hk : k < n) : i * n + k ∈ prs n := by
  obtain ⟨e1, e2⟩ := pair_code (x := i) hk
  refine List.mem_filter.2 ⟨List.mem_range.2 ?_, ?_⟩
  · have : (i + 1) * n ≤ n * n := Nat.mul_le_mul_right n (by omega)
    rw [Nat.add_mul] at this; omega
  · rw [decide_eq_true_eq, e1, e2]; exact hik
theorem prs_get {n c : Nat} (hc : c ∈ prs n) : c / n < c % n ∧ c % n < n ∧ c = c / n * n + c % n := by
  obtain ⟨h1, h2⟩ := List.mem_filter.1 hc
  rw [List.mem_range] at h1
  rw [decide_eq_true_eq] at h2
  have hn : 0 < n := by
    rcases Nat.eq_zero_or_pos n with h | h
    · subst h; simp at h1
    · exact h
  exact ⟨h2, Nat.mod_lt _ hn, by rw [Nat.mul_comm]; exact (Nat.div_add_mod c n).symm⟩
theorem prs_nd (n : Nat) : (prs n).Nodup := List.nodup_range.filter _
/-- How many pairs change their order. -/
def invs (n : Nat) (f : Nat → Nat) : Nat := ((prs n).filter fun c => decide (f (c % n) < f (c / n))).length
theorem invs_congr {n : Nat} {f g : Nat → Nat} (h : ∀ x, x < n → f x = g x) : invs n f = invs n g := by
  unfold invs
  rw [filter_eq]
  intro c hc
  obtain ⟨h1, h2, _⟩ := prs_get hc
  rw [h _ h2, h _ (by omega)]
theorem xor_len (p q : Nat → Bool) : ∀ l : List Nat, ((l.filter fun x => xor (p x) (q x)).length) % 2 = ((l.filter p).length + (l.filter q).length) % 2
  | [] => rfl
  | a :: l => by
    have := xor_len p q l
    cases hp : p a <;> cases hq : q a <;> simp [hp, hq] at this ⊢ <;> omega
/-- The sign of a product. -/
theorem invs_comp {n : Nat} {f g : Nat → Nat} (hf : Pm n f) (hg : Pm n g) : invs n (fun x => g (f x)) % 2 = (invs n f + invs n g) % 2 := by
  -- what f makes of a pair, the lesser first
  have hmap : ∀ c, c ∈ prs n → f (c / n) < n ∧ f (c % n) < n ∧ f (c / n) ≠ f (c % n) := fun c hc => by
    obtain ⟨h1, h2, _⟩ := prs_get hc
    exact ⟨hf.lt _ (by omega), hf.lt _ h2, fun h => by have := hf.inj _ _ (by omega) h2 h; omega⟩
  have h1 : invs n g = ((prs n).filter fun c => decide (g (max (f (c / n)) (f (c % n))) < g (min (f (c / n)) (f (c % n))))).length := by
    unfold invs
    symm
    refine bij_len (fun c => min (f (c / n)) (f (c % n)) * n + max (f (c / n)) (f (c % n))) ((prs_nd n).filter _) ((prs_nd n).filter _) (fun c hc => ?_) (fun c d hc hd hcd => ?_) (fun y hy => ?_)
    · obtain ⟨hc1, hc2⟩ := List.mem_filter.1 hc
      obtain ⟨a1, a2, a3⟩ := hmap c hc1
      obtain ⟨e1, e2⟩ := pair_code (x := min (f (c / n)) (f (c % n))) (show max (f (c / n)) (f (c % n)) < n by omega)
      refine List.mem_filter.2 ⟨prs_mk (by omega) (by omega), ?_⟩
      rw [decide_eq_true_eq] at hc2 ⊢
      rw [e1, e2]; exact hc2
    · obtain ⟨hc1, _⟩ := List.mem_filter.1 hc
      obtain ⟨hd1, _⟩ := List.mem_filter.1 hd
      obtain ⟨a1, a2, a3⟩ := hmap c hc1
      obtain ⟨b1, b2, b3⟩ := hmap d hd1
      obtain ⟨c1, c2, c3⟩ := prs_get hc1
      obtain ⟨d1, d2, d3⟩ := prs_get hd1
      obtain ⟨e1, e2⟩ := pair_code (x := min (f (c / n)) (f (c % n))) (show max (f (c / n)) (f (c % n)) < n by omega)
      obtain ⟨e3, e4⟩ := pair_code (x := min (f (d / n)) (f (d % n))) (show max (f (d / n)) (f (d % n)) < n by omega)
      have hcd' : min (f (c / n)) (f (c % n)) * n + max (f (c / n)) (f (c % n)) = min (f (d / n)) (f (d % n)) * n + max (f (d / n)) (f (d % n)) := hcd
      rw [hcd', e3] at e1
      rw [hcd', e4] at e2
      have key : (f (c / n) = f (d / n) ∧ f (c % n) = f (d % n)) ∨ (f (c / n) = f (d % n) ∧ f (c % n) = f (d / n)) := by omega
      rcases key with ⟨k1, k2⟩ | ⟨k1, k2⟩
      · have q1 := hf.inj _ _ (by omega) (by omega) k1
        have q2 := hf.inj _ _ (by omega) (by omega) k2
        rw [c3, d3, q1, q2]
      · have q1 := hf.inj _ _ (by omega) (by omega) k1
        have q2 := hf.inj _ _ (by omega) (by omega) k2
        omega
    · obtain ⟨hy1, hy2⟩ := List.mem_filter.1 hy
      obtain ⟨y1, y2, y3⟩ := prs_get hy1
      obtain ⟨u, hu, eu⟩ := meets (n := n) (f := f) hf.lt hf.inj (show y / n < n by omega)
      obtain ⟨v, hv, ev⟩ := meets (n := n) (f := f) hf.lt hf.inj y2
      have huv : u ≠ v := fun h => by rw [h, ev] at eu; omega
      rw [decide_eq_true_eq] at hy2
      rcases Nat.lt_or_ge u v with hl | hl
      · obtain ⟨e1, e2⟩ := pair_code (x := u) hv
        refine ⟨u * n + v, List.mem_filter.2 ⟨prs_mk hl hv, ?_⟩, ?_⟩
        · rw [decide_eq_true_eq, e1, e2, eu, ev, Nat.max_eq_right (by omega), Nat.min_eq_left (by omega)]; exact hy2
        · show min (f ((u * n + v) / n)) (f ((u * n + v) % n)) * n + max (f ((u * n + v) / n)) (f ((u * n + v) % n)) = y
          rw [e1, e2, eu, ev, Nat.max_eq_right (by omega), Nat.min_eq_left (by omega)]; exact y3.symm
      · obtain ⟨e1, e2⟩ := pair_code (x := v) hu
        refine ⟨v * n + u, List.mem_filter.2 ⟨prs_mk (by omega) hu, ?_⟩, ?_⟩
        · rw [decide_eq_true_eq, e1, e2, eu, ev, Nat.max_eq_left (by omega), Nat.min_eq_right (by omega)]; exact hy2
        · show min (f ((v * n + u) / n)) (f ((v * n + u) % n)) * n + max (f ((v * n + u) / n)) (f ((v * n + u) % n)) = y
          rw [e1, e2, eu, ev, Nat.max_eq_left (by omega), Nat.min_eq_right (by omega)]; exact y3.symm
  rw [h1]
  unfold invs
  rw [← xor_len, filter_eq]
  intro c hc
  obtain ⟨a1, a2, a3⟩ := hmap c hc
  have hgne : g (f (c / n)) ≠ g (f (c % n)) := fun h => a3 (hg.inj _ _ a1 a2 h)
  rcases Nat.lt_or_ge (f (c / n)) (f (c % n)) with hl | hl
  · rw [Nat.max_eq_right (by omega), Nat.min_eq_left (by omega), decide_eq_false (show ¬ f (c % n) < f (c / n) by omega)]
    simp
  · rw [Nat.max_eq_left (by omega), Nat.min_eq_right (by omega), decide_eq_true (show f (c % n) < f (c / n) by omega)]
    by_cases h5 : g (f (c % n)) < g (f (c / n))
    · have h6 : ¬ g (f (c / n)) < g (f (c % n)) := by omega
      simp [h5, h6]
    · have h6 : g (f (c / n)) < g (f (c % n)) := by omega
      simp [h5, h6]

/-- A swap. -/
def sw (a b x : Nat) : Nat := if x = a then b else if x = b then a else x
theorem sw_pm {n a b : Nat} (ha : a < n) (hb : b < n) : Pm n (sw a b) := by
  refine ⟨fun x hx => ?_, fun x y _ _ h => ?_⟩
  · unfold sw; split
    · exact hb
    · split <;> omega
  · unfold sw at h
    split at h <;> split at h <;> (try split at h) <;> (try split at h) <;> omega
theorem invs_sw {n a b : Nat} (hab : a < b) (hb : b < n) : invs n (sw a b) = 2 * (b - a) - 1 := by
  unfold invs
  have hl : 2 * (b - a) - 1 = (List.range (2 * (b - a) - 1)).length := by simp
  rw [hl]
  symm
  have fa : sw a b a = b := by simp [sw]
  have fb : sw a b b = a := by unfold sw; rw [if_neg (by omega), if_pos rfl]
  have fo : ∀ x, x ≠ a → x ≠ b → sw a b x = x := fun x h1 h2 => by unfold sw; rw [if_neg h1, if_neg h2]
  refine bij_len (fun j => if j < b - a then a * n + (a + 1 + j) else (a + 1 + (j - (b - a))) * n + b) List.nodup_range ((prs_nd n).filter _) (fun j hj => ?_) (fun i j hi hj hij => ?_) (fun c hc => ?_)
  · rw [List.mem_range] at hj
    by_cases h : j < b - a
    · simp only [if_pos h]
      obtain ⟨e1, e2⟩ := pair_code (x := a) (show a + 1 + j < n by omega)
      refine List.mem_filter.2 ⟨prs_mk (by omega) (by omega), ?_⟩
      rw [decide_eq_true_eq, e1, e2, fa]
      by_cases h2 : a + 1 + j = b
      · rw [h2, fb]; exact hab
      · rw [fo _ (by omega) h2]; omega
    · simp only [if_neg h]
      obtain ⟨e1, e2⟩ := pair_code (x := a + 1 + (j - (b - a))) hb
      refine List.mem_filter.2 ⟨prs_mk (by omega) hb, ?_⟩
      rw [decide_eq_true_eq, e1, e2, fb, fo _ (by omega) (by omega)]; omega
  · rw [List.mem_range] at hi hj
    have hij' : (if i < b - a then a * n + (a + 1 + i) else (a + 1 + (i - (b - a))) * n + b) = (if j < b - a then a * n + (a + 1 + j) else (a + 1 + (j - (b - a))) * n + b) := hij
    by_cases h1 : i < b - a <;> by_cases h2 : j < b - a
    · rw [if_pos h1, if_pos h2] at hij'; omega
    · rw [if_pos h1, if_neg h2] at hij'
      have q1 := (pair_code (x := a) (show a + 1 + i < n by omega)).1
      have q2 := (pair_code (x := a + 1 + (j - (b - a))) hb).1
      rw [hij', q2] at q1; omega
    · rw [if_neg h1, if_pos h2] at hij'
      have q1 := (pair_code (x := a) (show a + 1 + j < n by omega)).1
      have q2 := (pair_code (x := a + 1 + (i - (b - a))) hb).1
      rw [← hij', q2] at q1; omega
    · rw [if_neg h1, if_neg h2] at hij'
      have q1 := (pair_code (x := a + 1 + (i - (b - a))) hb).1
      have q2 := (pair_code (x := a + 1 + (j - (b - a))) hb).1
      rw [hij', q2] at q1; omega
  · obtain ⟨hc1, hc2⟩ := List.mem_filter.1 hc
    rw [decide_eq_true_eq] at hc2
    obtain ⟨c1, c2, c3⟩ := prs_get hc1
    by_cases h1 : c / n = a
    · refine ⟨c % n - a - 1, List.mem_range.2 ?_, ?_⟩
      · rw [h1, fa] at hc2
        by_cases h2 : c % n = b
        · omega
        · rw [fo _ (by omega) h2] at hc2; omega
      · have : c % n - a - 1 < b - a := by
          rw [h1, fa] at hc2
          by_cases h2 : c % n = b
          · omega
          · rw [fo _ (by omega) h2] at hc2; omega
        simp only [if_pos this]
        rw [show a + 1 + (c % n - a - 1) = c % n by omega, ← h1]; exact c3.symm
    · have h2 : c % n = b := by
        by_cases h3 : c % n = b
        · exact h3
        · exfalso
          by_cases h4 : c % n = a
          · rw [h4, fa] at hc2
            by_cases h5 : c / n = b
            · omega
            · rw [fo _ h1 h5] at hc2; omega
          · rw [fo _ h4 h3] at hc2
            by_cases h5 : c / n = b
            · rw [h5, fb] at hc2; omega
            · rw [fo _ h1 h5] at hc2; omega
      rw [h2, fb, fo _ h1 (by omega)] at hc2
      refine ⟨(c / n - a - 1) + (b - a), List.mem_range.2 (by omega), ?_⟩
      have : ¬ (c / n - a - 1) + (b - a) < b - a := by omega
      simp only [if_neg this]
      rw [show a + 1 + (c / n - a - 1 + (b - a) - (b - a)) = c / n by omega, ← h2]; exact c3.symm
theorem sw_comm (a b x : Nat) : sw a b x = sw b a x := by
  unfold sw
  by_cases h1 : x = a <;> by_cases h2 : x = b <;> simp [h1, h2] <;> omega
theorem sign_sw {n a b : Nat} (hab : a ≠ b) (ha : a < n) (hb : b < n) : invs n (sw a b) % 2 = 1 := by
  rcases Nat.lt_or_ge a b with h | h
  · rw [invs_sw h hb]; omega
  · rw [invs_congr (fun x _ => sw_comm a b x), invs_sw (show b < a by omega) ha]; omega
theorem sign_id (n : Nat) : invs n (fun x => x) = 0 := by
  unfold invs
  rw [List.length_eq_zero_iff, List.filter_eq_nil_iff]
  intro c hc
  obtain ⟨c1, _, _⟩ := prs_get hc
  simp only [decide_eq_true_eq]; omega

/-- f moves the points of c round, and no other one. -/
structure Cy (n : Nat) (c : List Nat) (f : Nat → Nat) : Prop where
  ne : 0 < c.length
  nd : c.Nodup
  lt : ∀ x, x ∈ c → x < n
  go : ∀ j, j < c.length → f (c[j]?.getD 0) = c[(j + 1) % c.length]?.getD 0
  stay : ∀ x, x < n → ¬ x ∈ c → f x = x
theorem get_mem {c : List Nat} {j : Nat} (hj : j < c.length) : c[j]?.getD 0 ∈ c := by simp [hj]
theorem mem_get {c : List Nat} {x : Nat} (hx : x ∈ c) : ∃ j, j < c.length ∧ c[j]?.getD 0 = x := by
  obtain ⟨j, hj, e⟩ := List.getElem_of_mem hx
  exact ⟨j, hj, by simp [hj, e]⟩
theorem get_inj {c : List Nat} (hn : c.Nodup) {i j : Nat} (hi : i < c.length) (hj : j < c.length) (h : c[i]?.getD 0 = c[j]?.getD 0) : i = j := by
  have : c[i] = c[j] := by simpa [hi, hj] using h
  exact (List.getElem_inj hn).1 this
theorem Cy.pm {n : Nat} {c : List Nat} {f : Nat → Nat} (h : Cy n c f) : Pm n f := by
  have hin : ∀ x, x ∈ c → f x ∈ c := fun x hx => by
    obtain ⟨j, hj, rfl⟩ := mem_get hx
    rw [h.go j hj]; exact get_mem (Nat.mod_lt _ h.ne)
  refine ⟨fun x hx => ?_, fun x y hx hy hxy => ?_⟩
  · by_cases hc : x ∈ c
    · exact h.lt _ (hin x hc)
    · rw [h.stay x hx hc]; exact hx
  · by_cases hc : x ∈ c <;> by_cases hd : y ∈ c
    · obtain ⟨i, hi, rfl⟩ := mem_get hc
      obtain ⟨j, hj, rfl⟩ := mem_get hd
      rw [h.go i hi, h.go j hj] at hxy
      have h1 := get_inj h.nd (Nat.mod_lt _ h.ne) (Nat.mod_lt _ h.ne) hxy
      have : i = j := by
        rcases Nat.lt_or_ge (i + 1) c.length with a | a <;> rcases Nat.lt_or_ge (j + 1) c.length with b | b
        · rw [Nat.mod_eq_of_lt a, Nat.mod_eq_of_lt b] at h1; omega
        · rw [Nat.mod_eq_of_lt a, show j + 1 = c.length by omega, Nat.mod_self] at h1; omega
        · rw [Nat.mod_eq_of_lt b, show i + 1 = c.length by omega, Nat.mod_self] at h1; omega
        · omega
      rw [this]
    · rw [h.stay y hy hd] at hxy
      exact absurd (by rw [← hxy]; exact hin x hc) hd
    · rw [h.stay x hx hc] at hxy
      exact absurd (by rw [hxy]; exact hin y hd) hc
    · rw [h.stay x hx hc, h.stay y hy hd] at hxy; exact hxy
/-- The sign of a cycle. -/
theorem Cy.sign {n : Nat} : ∀ (k : Nat) (c : List Nat) (f : Nat → Nat), c.length = k + 1 → Cy n c f → invs n f % 2 = k % 2
  | 0, c, f, hk, h => by
    have hid : ∀ x, x < n → f x = x := fun x hx => by
      by_cases hc : x ∈ c
      · obtain ⟨j, hj, rfl⟩ := mem_get hc
        rw [h.go j hj, hk, Nat.mod_one, show j = 0 by omega]
      · exact h.stay x hx hc
    rw [invs_congr (g := fun x => x) hid, sign_id]
  | k + 1, c, f, hk, h => by
    -- the last point left away
    have hd : c = c.take (k + 1) ++ [c[k + 1]?.getD 0] := by
      have h1 := (List.take_append_drop (k + 1) c).symm
      have h2 : c.drop (k + 1) = [c[k + 1]?.getD 0] := by
        rw [List.drop_eq_getElem_cons (by omega), List.drop_eq_nil_of_le (by omega)]
        simp [show k + 1 < c.length by omega]
      rw [h2] at h1; exact h1
    have hl : (c.take (k + 1)).length = k + 1 := by rw [List.length_take]; omega
    have hg : ∀ j, j < k + 1 → (c.take (k + 1))[j]?.getD 0 = c[j]?.getD 0 := fun j hj => by rw [List.getElem?_take, if_pos hj]
    have hmem : ∀ x, x ∈ c ↔ x ∈ c.take (k + 1) ∨ x = c[k + 1]?.getD 0 := fun x => by
      constructor
      · intro hx; rw [hd] at hx; simpa using hx
      · intro hx; rw [hd]; simpa using hx
    have hyc : ¬ c[k + 1]?.getD 0 ∈ c.take (k + 1) := fun hm => by
      obtain ⟨j, hj, e⟩ := mem_get hm
      rw [hl] at hj
      rw [hg j hj] at e
      have := get_inj h.nd (by omega) (by omega) e
      omega
    have hy : c[k + 1]?.getD 0 < n := h.lt _ (get_mem (by omega))
    have h0 : c[0]?.getD 0 < n := h.lt _ (get_mem (by omega))
    have h0y : c[0]?.getD 0 ≠ c[k + 1]?.getD 0 := fun e => by have := get_inj h.nd (i := 0) (j := k + 1) (by omega) (by omega) e; omega
    have C' : Cy n (c.take (k + 1)) (fun x => sw (c[0]?.getD 0) (c[k + 1]?.getD 0) (f x)) := by
      refine ⟨by omega, h.nd.sublist (List.take_sublist _ _), fun x hx => h.lt x ((hmem x).2 (.inl hx)), fun j hj => ?_, fun x hx hx2 => ?_⟩
      · rw [hl] at hj
        show sw (c[0]?.getD 0) (c[k + 1]?.getD 0) (f ((c.take (k + 1))[j]?.getD 0)) = _
        rw [hg j hj, h.go j (by omega), hk, Nat.mod_eq_of_lt (show j + 1 < k + 1 + 1 by omega), hl]
        by_cases hjk : j = k
        · subst hjk
          rw [Nat.mod_self, hg 0 (by omega)]
          unfold sw
          rw [if_neg (Ne.symm h0y), if_pos rfl]
        · rw [Nat.mod_eq_of_lt (by omega), hg (j + 1) (by omega)]
          unfold sw
          rw [if_neg (fun e => by have := get_inj h.nd (i := j + 1) (j := 0) (by omega) (by omega) e; omega), if_neg (fun e => by have := get_inj h.nd (i := j + 1) (j := k + 1) (by omega) (by omega) e; omega)]
      · show sw (c[0]?.getD 0) (c[k + 1]?.getD 0) (f x) = x
        by_cases hxy : x = c[k + 1]?.getD 0
        · rw [hxy, h.go (k + 1) (by omega), hk, Nat.mod_self]
          unfold sw
          rw [if_pos rfl]
        · have hxc : ¬ x ∈ c := fun hm => by rcases (hmem x).1 hm with h1 | h1
                                             · exact hx2 h1
                                             · exact hxy h1
          rw [h.stay x hx hxc]
          unfold sw
          rw [if_neg (fun e => hxc (by rw [e]; exact get_mem (by omega))), if_neg hxy]
    have ih := Cy.sign k _ _ hl C'
    have h1 := invs_comp h.pm (sw_pm h0 hy)
    rw [ih] at h1
    have h2 := sign_sw h0y h0 hy
    omega
end Go.Proofs.YtjchmhngfnlbhaaDoor.Sgnm
