/- Tables as lists of numbers: products, the one, what is wrong with a table; plain functions, and what follows of them. No condition. -/
import Derived.WalkKit
namespace Go.Proofs.Ytgphcfmiamiojaa

/-- The least number below n of which p is so, or -1. -/
def least (n : Nat) (p : Nat → Bool) : Int := match (List.range n).find? p with | some a => (a : Int) | none => -1
theorem least_none {n : Nat} {p : Nat → Bool} (h : ∀ t, t < n → p t = false) : least n p = -1 := by
  unfold least
  rw [List.find?_eq_none.2 (fun x hx => by simp [h x (List.mem_range.1 hx)])]
theorem least_at {n : Nat} {p : Nat → Bool} {k : Nat} (hk : k < n) (hp : p k = true) (hb : ∀ t, t < k → p t = false) : least n p = (k : Int) := by
  unfold least
  have : (List.range n).find? p = some k := by
    rw [List.find?_range_eq_some]
    exact ⟨hp, List.mem_range.2 hk, fun j hj => by simp [hb j hj]⟩
  rw [this]
theorem least_cases (n : Nat) (p : Nat → Bool) : (∃ k, k < n ∧ p k = true ∧ (∀ t, t < k → p t = false) ∧ least n p = (k : Int)) ∨ ((∀ t, t < n → p t = false) ∧ least n p = -1) := by
  cases h : (List.range n).find? p with
  | none =>
    rw [List.find?_eq_none] at h
    have : ∀ t, t < n → p t = false := fun t ht => by have := h t (List.mem_range.2 ht); simpa using this
    exact .inr ⟨this, least_none this⟩
  | some k =>
    rw [List.find?_range_eq_some] at h
    have hb : ∀ t, t < k → p t = false := fun t ht => by have := h.2.2 t ht; simpa using this
    exact .inl ⟨k, List.mem_range.1 h.2.1, h.1, hb, least_at (List.mem_range.1 h.2.1) h.1 hb⟩
theorem least_neg {n : Nat} {p : Nat → Bool} : least n p = -1 ↔ ∀ t, t < n → p t = false := by
  rcases least_cases n p with ⟨k, hk, hp, _, e⟩ | ⟨h, e⟩
  · rw [e]
    constructor
    · intro h; omega
    · intro h; rw [h k hk] at hp; cases hp
  · exact ⟨fun _ => h, fun _ => e⟩
theorem least_congr {n : Nat} {p q : Nat → Bool} (h : ∀ t, t < n → p t = q t) : least n p = least n q := by
  rcases least_cases n p with ⟨k, hk, hp, hb, e⟩ | ⟨hp, e⟩
  · rw [e, least_at hk (by rw [← h k hk]; exact hp) (fun t ht => by rw [← h t (by omega)]; exact hb t ht)]
  · rw [e, least_none (fun t ht => by rw [← h t ht]; exact hp t ht)]

/-- A list that is a table of n things. -/
structure IsTab (n : Nat) (zs : List Int) : Prop where
  pos : 1 ≤ n
  le : n ≤ 60
  len : zs.length = n * n
  rng : ∀ i, i < n * n → 0 ≤ zs[i]?.getD 0 ∧ zs[i]?.getD 0 < n
/-- The product of two things. -/
def tm (n : Nat) (zs : List Int) (a b : Nat) : Nat := (zs[a * n + b]?.getD 0).toNat
theorem place_lt {n a b : Nat} (ha : a < n) (hb : b < n) : a * n + b < n * n := by
  have : (a + 1) * n ≤ n * n := Nat.mul_le_mul_right n ha
  rw [Nat.add_mul] at this; omega
theorem tm_get {n : Nat} {zs : List Int} (h : IsTab n zs) {a b : Nat} (ha : a < n) (hb : b < n) : zs[a * n + b]?.getD 0 = (tm n zs a b : Int) := by
  have := h.rng _ (place_lt ha hb)
  unfold tm; omega
theorem tm_lt {n : Nat} {zs : List Int} (h : IsTab n zs) {a b : Nat} (ha : a < n) (hb : b < n) : tm n zs a b < n := by
  have := h.rng _ (place_lt ha hb)
  unfold tm; omega

/-- Is e the one? -/
def oneB (n : Nat) (zs : List Int) (e : Nat) : Bool := decide (least n (fun a => tm n zs e a != a || tm n zs a e != a) = -1)
theorem oneB_iff {n : Nat} {zs : List Int} {e : Nat} : oneB n zs e = true ↔ ∀ a, a < n → tm n zs e a = a ∧ tm n zs a e = a := by
  unfold oneB
  rw [decide_eq_true_eq, least_neg]
  exact ⟨fun h a ha => by have := h a ha; simpa using this, fun h a ha => by simpa using h a ha⟩
/-- The one, or -1. -/
def one (n : Nat) (zs : List Int) : Int := least n (oneB n zs)
/-- Is (a b) c always a (b c)? -/
def assB (n : Nat) (zs : List Int) (a : Nat) : Bool := (List.range n).all fun b => (List.range n).all fun c => tm n zs (tm n zs a b) c == tm n zs a (tm n zs b c)
theorem assB_iff {n : Nat} {zs : List Int} {a : Nat} : assB n zs a = true ↔ ∀ b c, b < n → c < n → tm n zs (tm n zs a b) c = tm n zs a (tm n zs b c) := by
  unfold assB
  simp only [List.all_eq_true, List.mem_range, beq_iff_eq]
  exact ⟨fun h b c hb hc => h b hb c hc, fun h b hb c hc => h b c hb hc⟩
/-- The least thing whose product with a, a first, is e; or -1. -/
def invL (n : Nat) (zs : List Int) (e : Int) (a : Nat) : Int := least n (fun b => decide ((tm n zs a b : Int) = e))

/-- What is wrong with a list as a table, alone. -/
def efault (N : Int) (zs : List Int) : Int × Int :=
  if N < 1 ∨ 60 < N then (2, 0) else if (zs.length : Int) ≠ N * N then (8, 0)
  else if least zs.length (fun i => decide (zs[i]?.getD 0 < 0 ∨ N ≤ zs[i]?.getD 0)) ≠ -1 then (3, least zs.length (fun i => decide (zs[i]?.getD 0 < 0 ∨ N ≤ zs[i]?.getD 0))) else (0, 0)
/-- What is wrong with a table as a group. -/
def gfault (N : Int) (zs : List Int) : Int × Int :=
  if (efault N zs).1 ≠ 0 then efault N zs
  else if one N.toNat zs = -1 then (6, 0)
  else if least N.toNat (fun a => !assB N.toNat zs a) ≠ -1 then (7, least N.toNat (fun a => !assB N.toNat zs a))
  else if least N.toNat (fun a => decide (invL N.toNat zs (one N.toNat zs) a = -1)) ≠ -1 then (4, least N.toNat (fun a => decide (invL N.toNat zs (one N.toNat zs) a = -1)))
  else (0, 0)

theorem efault_tab {N : Int} {zs : List Int} (h : (efault N zs).1 = 0) : ∃ n : Nat, N = n ∧ IsTab n zs ∧ efault N zs = (0, 0) := by
  unfold efault at h ⊢
  by_cases h1 : N < 1 ∨ 60 < N
  · rw [if_pos h1] at h; cases h
  · rw [if_neg h1] at h ⊢
    by_cases h2 : (zs.length : Int) ≠ N * N
    · rw [if_pos h2] at h; cases h
    · rw [if_neg h2] at h ⊢
      by_cases h3 : least zs.length (fun i => decide (zs[i]?.getD 0 < 0 ∨ N ≤ zs[i]?.getD 0)) ≠ -1
      · rw [if_pos h3] at h; cases h
      · rw [if_neg h3]
        have h3 : least zs.length (fun i => decide (zs[i]?.getD 0 < 0 ∨ N ≤ zs[i]?.getD 0)) = -1 := Decidable.not_not.1 h3
        have h2 : (zs.length : Int) = N * N := Decidable.not_not.1 h2
        obtain ⟨n, rfl⟩ : ∃ n : Nat, N = n := ⟨N.toNat, by omega⟩
        have h2 : zs.length = n * n := by rw [← Int.natCast_mul] at h2; omega
        refine ⟨n, rfl, ⟨by omega, by omega, h2, fun i hi => ?_⟩, rfl⟩
        have := least_neg.1 h3 i (by omega)
        simp only [decide_eq_false_iff_not] at this
        omega
theorem efault_of_tab {n : Nat} {zs : List Int} (h : IsTab n zs) : efault n zs = (0, 0) := by
  have h1 := h.pos
  have h2 := h.le
  have h3 := h.len
  unfold efault
  rw [if_neg (by omega), if_neg (by rw [h3, Int.natCast_mul]; simp), if_neg]
  rw [Decidable.not_not, least_neg]
  intro i hi
  have := h.rng i (by omega)
  simp only [decide_eq_false_iff_not]; omega

/-- A group: a table with a one, whose products group, and each of whose things has an inverse. -/
structure IsGrp (n : Nat) (zs : List Int) (e : Nat) : Prop where
  tab : IsTab n zs
  elt : e < n
  one : one n zs = (e : Int)
  left : ∀ a, a < n → tm n zs e a = a
  right : ∀ a, a < n → tm n zs a e = a
  ass : ∀ a b c, a < n → b < n → c < n → tm n zs (tm n zs a b) c = tm n zs a (tm n zs b c)
  inv : ∀ a, a < n → ∃ b, b < n ∧ tm n zs a b = e

theorem gfault_grp {N : Int} {zs : List Int} (h : (gfault N zs).1 = 0) : ∃ n e : Nat, N = n ∧ IsGrp n zs e ∧ gfault N zs = (0, 0) := by
  unfold gfault at h ⊢
  by_cases h1 : (efault N zs).1 ≠ 0
  · rw [if_pos h1] at h; exact absurd h h1
  · rw [if_neg h1] at h ⊢
    obtain ⟨n, rfl, ht, _⟩ := efault_tab (Decidable.not_not.1 h1)
    rw [Int.toNat_natCast] at h ⊢
    by_cases h2 : one n zs = -1
    · rw [if_pos h2] at h; cases h
    · rw [if_neg h2] at h ⊢
      by_cases h3 : least n (fun a => !assB n zs a) ≠ -1
      · rw [if_pos h3] at h; cases h
      · rw [if_neg h3] at h ⊢
        by_cases h4 : least n (fun a => decide (invL n zs (one n zs) a = -1)) ≠ -1
        · rw [if_pos h4] at h; cases h
        · rw [if_neg h4]
          have h3 := least_neg.1 (Decidable.not_not.1 h3)
          have h4 := least_neg.1 (Decidable.not_not.1 h4)
          rcases least_cases n (oneB n zs) with ⟨e, he, hp, _, ee⟩ | ⟨_, ee⟩
          · have hone : one n zs = (e : Int) := ee
            have ho := oneB_iff.1 hp
            refine ⟨n, e, rfl, ⟨ht, he, hone, fun a ha => (ho a ha).1, fun a ha => (ho a ha).2, fun a b c ha hb hc => ?_, fun a ha => ?_⟩, rfl⟩
            · have := h3 a ha
              simp only [Bool.not_eq_false'] at this
              exact assB_iff.1 this b c hb hc
            · have := h4 a ha
              rw [decide_eq_false_iff_not, hone] at this
              unfold invL at this
              rcases least_cases n (fun b => decide ((tm n zs a b : Int) = (e : Int))) with ⟨b, hb, hpb, _, _⟩ | ⟨_, ee2⟩
              · simp only [decide_eq_true_eq] at hpb
                exact ⟨b, hb, by omega⟩
              · exact absurd ee2 this
          · exact absurd ee h2
theorem gfault_of_grp {n e : Nat} {zs : List Int} (h : IsGrp n zs e) : gfault n zs = (0, 0) := by
  unfold gfault
  rw [efault_of_tab h.tab, if_neg (by simp), Int.toNat_natCast, h.one, if_neg (by omega), if_neg, if_neg]
  · rw [Decidable.not_not, least_neg]
    intro a ha
    rw [decide_eq_false_iff_not]
    unfold invL
    rw [least_neg]
    intro h2
    obtain ⟨b, hb, hab⟩ := h.inv a ha
    have := h2 b hb
    simp [hab] at this
  · rw [Decidable.not_not, least_neg]
    intro a ha
    simp only [Bool.not_eq_false']
    exact assB_iff.2 (fun b c hb hc => h.ass a b c ha hb hc)

theorem nodup_len : ∀ (l m : List Nat), l.Nodup → (∀ z, z ∈ l → z ∈ m) → l.length ≤ m.length
  | [], _, _, _ => Nat.zero_le _
  | a :: l, m, hn, hs => by
    rw [List.nodup_cons] at hn
    have ha := hs a (by simp)
    have h1 := nodup_len l (m.erase a) hn.2 (fun z hz => by
      rw [List.mem_erase_of_ne (fun e => hn.1 (by rw [← e]; exact hz))]
      exact hs z (by simp [hz]))
    rw [List.length_erase_of_mem ha] at h1
    have := List.length_pos_of_mem ha
    simp; omega
theorem map_nodup {f : Nat → Nat} : ∀ {l : List Nat}, l.Nodup → (∀ x y, x ∈ l → y ∈ l → f x = f y → x = y) → (l.map f).Nodup
  | [], _, _ => by simp
  | a :: l, hn, hf => by
    rw [List.nodup_cons] at hn
    rw [List.map_cons, List.nodup_cons]
    refine ⟨fun hm => ?_, map_nodup hn.2 (fun x y hx hy => hf x y (by simp [hx]) (by simp [hy]))⟩
    obtain ⟨y, hy, e⟩ := List.mem_map.1 hm
    have := hf y a (by simp [hy]) (by simp) e
    rw [this] at hy
    exact hn.1 hy
/-- What is different goes to what is different: then all are met. -/
theorem meets {n : Nat} {f : Nat → Nat} (hl : ∀ x, x < n → f x < n) (hi : ∀ x y, x < n → y < n → f x = f y → x = y) {y : Nat} (hy : y < n) : ∃ x, x < n ∧ f x = y := by
  rcases Classical.em (∃ x, x < n ∧ f x = y) with h | h
  · exact h
  · exfalso
    have h1 : (y :: (List.range n).map f).Nodup := by
      rw [List.nodup_cons]
      refine ⟨fun hm => ?_, map_nodup List.nodup_range (fun a b ha hb => hi a b (List.mem_range.1 ha) (List.mem_range.1 hb))⟩
      obtain ⟨x, hx, e⟩ := List.mem_map.1 hm
      exact h ⟨x, List.mem_range.1 hx, e⟩
    have h2 := nodup_len _ (List.range n) h1 (fun z hz => by
      rcases List.mem_cons.1 hz with rfl | hz
      · exact List.mem_range.2 hy
      · obtain ⟨x, hx, rfl⟩ := List.mem_map.1 hz
        exact List.mem_range.2 (hl x (List.mem_range.1 hx)))
    simp at h2
    omega
/-- In a finite table whose products group and that has a one, what is an inverse on one side is so on the other. -/
theorem inv_both {n e : Nat} {zs : List Int} (ht : IsTab n zs) (he : e < n) (hl : ∀ a, a < n → tm n zs e a = a) (hr : ∀ a, a < n → tm n zs a e = a)
    (hass : ∀ a b c, a < n → b < n → c < n → tm n zs (tm n zs a b) c = tm n zs a (tm n zs b c)) {a b : Nat} (ha : a < n) (hb : b < n) (hab : tm n zs a b = e) : tm n zs b a = e := by
  obtain ⟨c, hc, hca⟩ := meets (n := n) (f := fun x => tm n zs x a) (fun x hx => tm_lt ht hx ha) (fun x y hx hy hxy => by
    have h1 : tm n zs (tm n zs x a) b = tm n zs (tm n zs y a) b := congrArg (fun z => tm n zs z b) hxy
    rw [hass x a b hx ha hb, hass y a b hy ha hb, hab, hr x hx, hr y hy] at h1
    exact h1) he
  have h2 : c = b := by
    have h3 := hass c a b hc ha hb
    have hca' : tm n zs c a = e := hca
    rw [hca', hab, hl b hb, hr c hc] at h3
    exact h3.symm
  rw [← h2]; exact hca
end Go.Proofs.Ytgphcfmiamiojaa
