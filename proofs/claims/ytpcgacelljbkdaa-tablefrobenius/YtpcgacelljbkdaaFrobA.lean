/- Frobenius' theorem, its first half: primes, parts of a thing, and what is a multiple of the prime's power. No condition. -/
import Derived.Test.YtpcgacelljbkdaaFin
namespace Go.Proofs.Ytpcgacelljbkdaa.Fin

def Pr (p : Nat) : Prop := 2 ≤ p ∧ ∀ d, d ∣ p → d = 1 ∨ d = p
theorem pr_exists {n : Nat} (hn : 2 ≤ n) : ∃ p, Pr p ∧ p ∣ n := by
  obtain ⟨d, hd, ⟨h2, hdn⟩, hmin⟩ := least_pos (P := fun d => 2 ≤ d ∧ d ∣ n) n (by omega) ⟨hn, Nat.dvd_refl n⟩
  refine ⟨d, ⟨h2, fun c hc => ?_⟩, hdn⟩
  have h0 : c ≠ 0 := fun h => by rw [h] at hc; have := Nat.eq_zero_of_zero_dvd hc; omega
  have hle := Nat.le_of_dvd hd hc
  rcases Nat.lt_or_ge c 2 with h | h
  · exact .inl (by omega)
  · rcases Nat.lt_or_ge c d with h3 | h3
    · exact absurd ⟨h, Nat.dvd_trans hc hdn⟩ (hmin c (by omega) h3)
    · exact .inr (by omega)
theorem pr_cop {p c : Nat} (hp : Pr p) (h : ¬ p ∣ c) : Nat.Coprime p c := by
  rcases hp.2 (Nat.gcd p c) (Nat.gcd_dvd_left p c) with h1 | h1
  · exact h1
  · exact absurd (by rw [← h1]; exact Nat.gcd_dvd_right p c) h
theorem pr_split {p : Nat} (hp : Pr p) : ∀ n, 0 < n → ∃ k s, n = p ^ k * s ∧ ¬ p ∣ s := by
  intro n
  induction n using Nat.strongRecOn with
  | _ n ih =>
    intro hn
    rcases Classical.em (p ∣ n) with ⟨c, hc⟩ | h
    · have hc0 : 0 < c := by
        rcases Nat.eq_zero_or_pos c with h | h
        · subst h; simp at hc; omega
        · exact h
      have hlt : c < n := by
        rw [hc]
        have : 2 * c ≤ p * c := Nat.mul_le_mul_right c hp.1
        omega
      obtain ⟨k, s, h1, h2⟩ := ih c hlt hc0
      exact ⟨k + 1, s, by rw [hc, h1, Nat.pow_succ, Nat.mul_comm (p ^ k) p, Nat.mul_assoc], h2⟩
    · exact ⟨0, n, by simp, h⟩
theorem pr_pow_dvd {p k d : Nat} (hp : Pr p) (h : d ∣ p ^ (k + 1)) (h2 : ¬ d ∣ p ^ k) : d = p ^ (k + 1) := by
  obtain ⟨c, hc⟩ := h
  have hp0 : 0 < p := by have := hp.1; omega
  have hpos : 0 < p ^ (k + 1) := Nat.pow_pos hp0
  rcases Classical.em (p ∣ c) with ⟨c', hc'⟩ | hn
  · exfalso
    apply h2
    refine ⟨c', ?_⟩
    have h3 : p * p ^ k = p * (d * c') := by rw [← Nat.pow_succ', hc, hc']; rw [← Nat.mul_assoc, ← Nat.mul_assoc, Nat.mul_comm d p]
    exact Nat.eq_of_mul_eq_mul_left hp0 h3
  · have h3 : Nat.Coprime (p ^ (k + 1)) c := Nat.Coprime.pow_left _ (pr_cop hp hn)
    have h4 : c ∣ 1 := by
      rw [← h3]
      exact Nat.dvd_gcd ⟨d, by rw [hc, Nat.mul_comm]⟩ (Nat.dvd_refl c)
    have h5 : c = 1 := Nat.eq_one_of_dvd_one h4
    rw [hc, h5, Nat.mul_one]
theorem inv_mod {s q : Nat} (hq : 0 < q) (h : Nat.Coprime s q) (c : Nat) : ∃ i, i < q ∧ (s * i) % q = c % q := by
  refine meets (n := q) (f := fun i => (s * i) % q) (fun i _ => Nat.mod_lt _ hq) (fun i j hi hj hij => ?_) (Nat.mod_lt c hq)
  have key : ∀ i j, i < q → j < q → i ≤ j → (s * i) % q = (s * j) % q → i = j := fun i j hi hj hle he => by
    have h1 : q ∣ s * (j - i) := by
      rw [Nat.mul_sub]
      exact Nat.dvd_of_mod_eq_zero (Nat.sub_mod_eq_zero_of_mod_eq he.symm)
    have h2 : q ∣ j - i := Nat.Coprime.dvd_of_dvd_mul_left h.symm h1
    rcases Nat.eq_zero_or_pos (j - i) with h0 | h0
    · omega
    · have := Nat.le_of_dvd h0 h2
      omega
  rcases Nat.le_total i j with hl | hl
  · exact key i j hi hj hl hij
  · exact (key j i hj hi hl hij.symm).symm

/-- The numbers of which one takes a thing's parts. -/
structure Parts (p k s q a b : Nat) : Prop where
  pr : Pr p
  cop : ¬ p ∣ s
  s0 : 0 < s
  hq : q = p ^ (k + 1)
  sa : s ∣ a
  aq : a % q = 1 % q
  qb : q ∣ b
  bs : b % s = 1 % s
theorem Parts.mk' {p k s : Nat} (hp : Pr p) (hs : ¬ p ∣ s) (h0 : 0 < s) : ∃ q a b, Parts p k s q a b := by
  have hp0 : 0 < p := by have := hp.1; omega
  have hc : Nat.Coprime (p ^ (k + 1)) s := Nat.Coprime.pow_left _ (pr_cop hp hs)
  obtain ⟨i, _, hi⟩ := inv_mod (s := s) (q := p ^ (k + 1)) (Nat.pow_pos hp0) hc.symm 1
  obtain ⟨j, _, hj⟩ := inv_mod (s := p ^ (k + 1)) (q := s) h0 hc 1
  exact ⟨p ^ (k + 1), s * i, p ^ (k + 1) * j, hp, hs, h0, rfl, ⟨i, rfl⟩, hi, ⟨j, rfl⟩, hj⟩
variable {p k s q a b : Nat}
theorem Parts.q0 (h : Parts p k s q a b) : 0 < q := by rw [h.hq]; exact Nat.pow_pos (by have := h.pr.1; omega)
theorem Parts.q2 (h : Parts p k s q a b) : 2 ≤ q := by
  rw [h.hq, Nat.pow_succ]
  have h1 : 1 ≤ p ^ k := Nat.pow_pos (by have := h.pr.1; omega)
  have := h.pr.1
  calc 2 ≤ 1 * p := by omega
    _ ≤ p ^ k * p := Nat.mul_le_mul_right p h1
theorem Parts.cqs (h : Parts p k s q a b) : Nat.Coprime q s := by rw [h.hq]; exact Nat.Coprime.pow_left _ (pr_cop h.pr h.cop)
theorem Parts.qp (h : Parts p k s q a b) : q = p ^ k * p := by rw [h.hq, Nat.pow_succ]
theorem Parts.sum (h : Parts p k s q a b) : ∃ t, a + b = 1 + q * s * t := by
  have h2 := h.q2
  have ha : 1 ≤ a := by
    rcases Nat.eq_zero_or_pos a with h0 | h0
    · have := h.aq; rw [h0, Nat.zero_mod, Nat.mod_eq_of_lt (by omega)] at this; omega
    · exact h0
  have h3 : q ∣ a + b - 1 := by
    apply Nat.dvd_of_mod_eq_zero
    apply Nat.sub_mod_eq_zero_of_mod_eq
    obtain ⟨j, hj⟩ := h.qb
    rw [hj, Nat.add_mul_mod_self_left]; exact h.aq
  have h4 : s ∣ a + b - 1 := by
    apply Nat.dvd_of_mod_eq_zero
    apply Nat.sub_mod_eq_zero_of_mod_eq
    obtain ⟨i, hi⟩ := h.sa
    rw [hi, Nat.add_comm, Nat.add_mul_mod_self_left]; exact h.bs
  obtain ⟨t, ht⟩ := Nat.Coprime.mul_dvd_of_dvd_of_dvd h.cqs h3 h4
  exact ⟨t, by omega⟩

variable {l : List Nat} {m : Nat → Nat → Nat} {e : Nat}
theorem po_z (h : Fg l m e) {x : Nat} (hx : x ∈ l) {n : Nat} (hn : po m e x n = e) (t : Nat) : po m e x (n * t) = e := by rw [← po_mul h hx, hn, po_e h]
theorem po_z' (h : Fg l m e) {x : Nat} (hx : x ∈ l) {n j : Nat} (hn : po m e x n = e) (hj : n ∣ j) : po m e x j = e := by obtain ⟨t, rfl⟩ := hj; exact po_z h hx hn t
theorem po_off (h : Fg l m e) {x : Nat} (hx : x ∈ l) {n : Nat} (hn : po m e x n = e) (i t : Nat) : po m e x (i + n * t) = po m e x i := by rw [po_add h hx, po_z h hx hn, h.right _ (po_mem h hx i)]
/-- What is taken away: so many times p it is the one, and not without p. -/
def AA (l : List Nat) (m : Nat → Nat → Nat) (e q n s : Nat) : List Nat := l.filter fun x => decide (po m e x (q * s) = e) && !decide (po m e x (n * s) = e)
theorem AA_iff {n x : Nat} : x ∈ AA l m e q n s ↔ x ∈ l ∧ po m e x (q * s) = e ∧ ¬ po m e x (n * s) = e := by
  unfold AA
  rw [List.mem_filter]
  simp
/-- The part whose order is the prime's power. -/
theorem part_ord (h : Fg l m e) (P : Parts p k s q a b) {x : Nat} (hA : x ∈ AA l m e q (p ^ k) s) : ∀ i, po m e (po m e x a) i = e ↔ q ∣ i := by
  obtain ⟨hx, h1, h2⟩ := AA_iff.1 hA
  have hy := po_mem h hx a
  obtain ⟨d, hd, ho⟩ := order h hy
  have hdq : d ∣ q := (ho q).1 (by
    rw [po_mul h hx]
    obtain ⟨i, hi⟩ := P.sa
    exact po_z' h hx h1 ⟨i, by rw [hi]; simp [Nat.mul_comm, Nat.mul_left_comm]⟩)
  have hnk : ¬ d ∣ p ^ k := fun hc => by
    apply h2
    have h3 := (ho _).2 hc
    obtain ⟨t, ht⟩ := P.sum
    have h4 : x = po m e x (a + b) := by rw [ht, po_off h hx h1, po_one h hx]
    have h5 : po m e x (p ^ k * s) = po m e (po m e x (a + b)) (p ^ k * s) := by rw [← h4]
    rw [h5, po_add h hx, po_prod h (po_mem h hx a) (po_mem h hx b) (po_pow_com h hx a b), po_z' h hy h3 ⟨s, rfl⟩, po_mul h hx, h.left _ (po_mem h hx _)]
    obtain ⟨j, hj⟩ := P.qb
    exact po_z' h hx h1 ⟨j * p ^ k, by rw [hj]; grind⟩
  rw [P.hq] at hdq ⊢
  have := pr_pow_dvd P.pr hdq hnk
  rw [← this]; exact ho

theorem rel_iff (h : Fg l m e) (P : Parts p k s q a b) {x y : Nat} (hx : x ∈ l) (h1 : po m e x (q * s) = e) :
    ((List.range (p ^ k)).any (fun i => decide (po m e x (1 + p * s * i) = y))) = true ↔ ∃ t, po m e x (1 + p * s * t) = y := by
  have hk : 0 < p ^ k := Nat.pow_pos (by have := P.pr.1; omega)
  simp only [List.any_eq_true, List.mem_range, decide_eq_true_eq]
  constructor
  · rintro ⟨i, _, hi⟩; exact ⟨i, hi⟩
  · rintro ⟨t, ht⟩
    refine ⟨t % p ^ k, Nat.mod_lt _ hk, ?_⟩
    rw [← ht]
    have : 1 + p * s * t = (1 + p * s * (t % p ^ k)) + q * s * (t / p ^ k) := by
      have h3 := Nat.div_add_mod t (p ^ k)
      rw [P.qp]
      generalize t / p ^ k = u at *
      generalize t % p ^ k = v at *
      rw [← h3]
      grind
    rw [this, po_off h hx h1]
theorem cop_u (P : Parts p k s q a b) (t : Nat) : Nat.Coprime (1 + p * s * t) (p ^ k) := by
  have : ¬ p ∣ 1 + p * s * t := fun hc => by
    have h1 : p ∣ p * s * t := ⟨s * t, by rw [Nat.mul_assoc]⟩
    have h2 := (Nat.dvd_add_iff_left h1).2 hc
    have := Nat.le_of_dvd (by omega) h2
    have := P.pr.1
    omega
  exact (Nat.Coprime.pow_left k (pr_cop P.pr this)).symm
theorem half_one (h : Fg l m e) (P : Parts p k s q a b) : p ^ k ∣ (AA l m e q (p ^ k) s).length := by
  have hk : 0 < p ^ k := Nat.pow_pos (by have := P.pr.1; omega)
  have hA : ∀ x, x ∈ AA l m e q (p ^ k) s → x ∈ l ∧ po m e x (q * s) = e ∧ ¬ po m e x (p ^ k * s) = e := fun x hx => AA_iff.1 hx
  have htr : ∀ x y z, x ∈ l → (∃ t, po m e x (1 + p * s * t) = y) → (∃ t, po m e y (1 + p * s * t) = z) → ∃ t, po m e x (1 + p * s * t) = z := fun x y z hx ⟨t, h1⟩ ⟨u, h2⟩ => by
    refine ⟨t + u + p * s * t * u, ?_⟩
    rw [← h2, ← h1, po_mul h hx]
    congr 1
    grind
  have hsy : ∀ x y, x ∈ l → po m e x (q * s) = e → (∃ t, po m e x (1 + p * s * t) = y) → ∃ t, po m e y (1 + p * s * t) = x := fun x y hx h1 ⟨t, ht⟩ => by
    obtain ⟨u, _, hu⟩ := inv_mod hk (cop_u P t) (p ^ k - t % p ^ k)
    have h0 : (t + (1 + p * s * t) * u) % p ^ k = 0 := by
      rw [Nat.add_mod, hu, ← Nat.add_mod]
      have h3 := Nat.div_add_mod t (p ^ k)
      have h4 := Nat.mod_lt t hk
      have : t + (p ^ k - t % p ^ k) = p ^ k * (t / p ^ k + 1) := by rw [Nat.mul_add, Nat.mul_one]; omega
      rw [this, Nat.mul_mod_right]
    obtain ⟨v, hv⟩ := Nat.dvd_of_mod_eq_zero h0
    refine ⟨u, ?_⟩
    rw [← ht, po_mul h hx]
    have : (1 + p * s * t) * (1 + p * s * u) = 1 + q * s * v := by
      have h5 : (1 + p * s * t) * (1 + p * s * u) = 1 + p * s * (t + (1 + p * s * t) * u) := by grind
      rw [h5, hv, P.qp]
      grind
    rw [this, po_off h hx h1, po_one h hx]
  refine part_dvd _ (fun x y => (List.range (p ^ k)).any (fun i => decide (po m e x (1 + p * s * i) = y))) _ _ (Nat.le_refl _) (fun x hx => ?_) (fun x y z hx hy _ hxy => ?_) (fun x hx => ?_)
  · obtain ⟨hl, h1, _⟩ := hA x hx
    exact (rel_iff h P hl h1).2 ⟨0, by rw [Nat.mul_zero, Nat.add_zero, po_one h hl]⟩
  · obtain ⟨hl, h1, _⟩ := hA x hx
    obtain ⟨hl', h1', _⟩ := hA y hy
    have hxy := (rel_iff h P hl h1).1 hxy
    show _ = _
    rw [Bool.eq_iff_iff, rel_iff h P hl h1, rel_iff h P hl' h1']
    exact ⟨fun hz => htr y x z hl' (hsy x y hl h1 hxy) hz, fun hz => htr x y z hl hxy hz⟩
  · obtain ⟨hl, h1, h2⟩ := hA x hx
    have ho := part_ord h P hx
    have key : ∀ i j, i < p ^ k → j < p ^ k → i ≤ j → po m e x (1 + p * s * i) = po m e x (1 + p * s * j) → i = j := fun i j hi hj hle he => by
      have h3 := po_back h hl (Nat.add_le_add_left (Nat.mul_le_mul_left _ hle) 1) he
      have h4 : 1 + p * s * j - (1 + p * s * i) = p * (s * (j - i)) := by rw [Nat.add_sub_add_left, ← Nat.mul_sub, Nat.mul_assoc]
      rw [h4] at h3
      have h5 := (ho (p * (s * (j - i)))).1 (by rw [po_mul h hl]; exact po_z' h hl h3 ⟨a, by rw [Nat.mul_comm]⟩)
      rw [P.qp, Nat.mul_comm (p ^ k) p] at h5
      have h6 : p ^ k ∣ s * (j - i) := Nat.dvd_of_mul_dvd_mul_left (by have := P.pr.1; omega) h5
      have h7 : p ^ k ∣ j - i := Nat.Coprime.dvd_of_dvd_mul_left (Nat.Coprime.pow_left k (pr_cop P.pr P.cop)) h6
      rcases Nat.eq_zero_or_pos (j - i) with h0 | h0
      · omega
      · have := Nat.le_of_dvd h0 h7
        omega
    have := bij_len (l1 := List.range (p ^ k)) (l2 := (AA l m e q (p ^ k) s).filter fun y => (List.range (p ^ k)).any (fun i => decide (po m e x (1 + p * s * i) = y))) (fun i => po m e x (1 + p * s * i)) List.nodup_range ((h.nd.filter _).filter _) (fun i _ => by
        refine List.mem_filter.2 ⟨AA_iff.2 ⟨po_mem h hl _, ?_, ?_⟩, (rel_iff h P hl h1).2 ⟨i, rfl⟩⟩
        · rw [po_mul h hl]; exact po_z' h hl h1 ⟨1 + p * s * i, by rw [Nat.mul_comm]⟩
        · rw [po_mul h hl]
          have : (1 + p * s * i) * (p ^ k * s) = p ^ k * s + q * s * (s * i) := by rw [P.qp]; grind
          rw [this, po_off h hl h1]; exact h2) (fun i j hi hj hij => by
        rw [List.mem_range] at hi hj
        rcases Nat.le_total i j with hle | hle
        · exact key i j hi hj hle hij
        · exact (key j i hj hi hle hij.symm).symm) (fun y hy => by
        obtain ⟨_, h4⟩ := List.mem_filter.1 hy
        simp only [List.any_eq_true, decide_eq_true_eq] at h4
        exact h4)
    rw [List.length_range] at this
    exact ⟨1, by rw [Nat.mul_one]; exact this.symm⟩
end Go.Proofs.Ytpcgacelljbkdaa.Fin
