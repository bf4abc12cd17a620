/- Frobenius' theorem, its first half: primes, parts of a thing, and what is a multiple of the prime's power. No condition. Frobenius' theorem: centralisers, a quotient by what commutes with all, conjugates; how many things are, n times, the one. No condition. Frobenius' theorem: of a number that divides how many things a finite group has, so many things are, so many times, the one, as a multiple of it. No condition. What one thing makes has as many things as its order. No condition. A conjugate of a set is normal just where it is the only one; what is in all conjugates of a subgroup of a power of p things is a normal subgroup of such a kind. No condition. A group of a power of p things that moves things: what does not stay is a multiple of p; orbits and what stays. No condition. Sylow's theorems: the conjugates of a subgroup of a power of p things that no thing makes a greater one are, one left out, a multiple of p; each subgroup of a power of p things is in one of them; each has as many things as the greatest power of p in how many there are; and how many they are, times how many things keep one, are all things. No condition. Sylow's subgroups by 2 of the square's group: it is all of it; so sylowBegun answers true. Condition: the library's table of places lies as its text lays it. What package sylow's Cauchy answers: at what is wrong, and at a group and a prime. Condition: the library's table of places lies as its text lays it. What the law SylowCauchy asks besides: listAs, primeFault, and its closures: the things of the order p. What primeFault answers: what is wrong with a table, then with p. The law SylowCauchy, walked: at what is wrong, and at a group and a prime; what it calls stands as premises. Condition: the library's table of places lies as its text lays it. The law SylowCauchy: at every table and every number it returns true. Condition: the library's table of places lies as its text lays it. What the law's powerIn answers: the greatest power of p that divides a number. The law SylowQuotients at what is wrong: true. Condition: the library's table of places lies as its text lays it. What All answers, as laws read it; Normal at a list of a set. Condition: the library's table of places lies as its text lays it. Package series' listed: a series of sets as lists. Conditions: the library's table of places lies as its text lays it; what the function that is handed over answers. Package series' Derived, Lower, ends and Nilpotent. Condition: the library's table of places lies as its text lays it. Package series' Nilpotent; the example of the laws of series: of the square's group the commutators make two things. Condition: the library's table of places lies as its text lays it. -/
import Derived.Test.YtjiapicknkjhmaaGreatDoorZ1
import Derived.Test.YtjiapicknkjhmaaGreatDoorZ5
import Derived.Test.YtjiapicknkjhmaaGreatDoorZ4
import Derived.Test.YtjiapicknkjhmaaGreatDoorZ3
import Derived.Deep.DeepCutAuto
namespace Go.Proofs.YtjiapicknkjhmaaGreatDoor.Fin

def Pr (p : Nat) : Prop := 2 ≤ p ∧ ∀ d, d ∣ p → d = 1 ∨ d = p
theorem pr_exists {n : Nat} (hn : 2 ≤ n) : ∃ p, Pr p ∧ p ∣ n := by
  obtain ⟨d, hd, ⟨h2, hdn⟩, hmin⟩ := least_pos (P := fun d => 2 ≤ d ∧ d ∣ n) n (by omega) ⟨hn, Nat.dvd_refl n⟩
  refine ⟨d, ⟨h2, fun c hc => ?_⟩, hdn⟩
  have h0 : c ≠ 0 := fun h => by rw [h] at hc; have := Nat.eq_zero_of_zero_dvd hc; omega
  have hle := Nat.le_of_dvd hd hc
  rcases Nat.lt_or_ge c 2 with h | h
  · exact .inl (by omega)
  · rcases Nat.lt_or_ge c d with h3 | h3
    · exact absurd ⟨h, Nat.dvd_trans hc hdn⟩ (hmin c (by omega) h3)
    · exact .inr (by omega)
theorem pr_cop {p c : Nat} (hp : Pr p) (h : ¬ p ∣ c) : Nat.Coprime p c := by
  rcases hp.2 (Nat.gcd p c) (Nat.gcd_dvd_left p c) with h1 | h1
  · exact h1
  · exact absurd (by rw [← h1]; exact Nat.gcd_dvd_right p c) h
theorem pr_split {p : Nat} (hp : Pr p) : ∀ n, 0 < n → ∃ k s, n = p ^ k * s ∧ ¬ p ∣ s := by
  intro n
  induction n using Nat.strongRecOn with
  | _ n ih =>
    intro hn
    rcases Classical.em (p ∣ n) with ⟨c, hc⟩ | h
    · have hc0 : 0 < c := by
        rcases Nat.eq_zero_or_pos c with h | h
        · subst h; simp at hc; omega
        · exact h
      have hlt : c < n := by
        rw [hc]
        have : 2 * c ≤ p * c := Nat.mul_le_mul_right c hp.1
        omega
      obtain ⟨k, s, h1, h2⟩ := ih c hlt hc0
      exact ⟨k + 1, s, by rw [hc, h1, Nat.pow_succ, Nat.mul_comm (p ^ k) p, Nat.mul_assoc], h2⟩
    · exact ⟨0, n, by simp, h⟩
theorem pr_pow_dvd {p k d : Nat} (hp : Pr p) (h : d ∣ p ^ (k + 1)) (h2 : ¬ d ∣ p ^ k) : d = p ^ (k + 1) := by
  obtain ⟨c, hc⟩ := h
  have hp0 : 0 < p := by have := hp.1; omega
  have hpos : 0 < p ^ (k + 1) := Nat.pow_pos hp0
  rcases Classical.em (p ∣ c) with ⟨c', hc'⟩ | hn
  · exfalso
    apply h2
    refine ⟨c', ?_⟩
    have h3 : p * p ^ k = p * (d * c') := by rw [← Nat.pow_succ', hc, hc']; rw [← Nat.mul_assoc, ← Nat.mul_assoc, Nat.mul_comm d p]
    exact Nat.eq_of_mul_eq_mul_left hp0 h3
  · have h3 : Nat.Coprime (p ^ (k + 1)) c := Nat.Coprime.pow_left _ (pr_cop hp hn)
    have h4 : c ∣ 1 := by
      rw [← h3]
      exact Nat.dvd_gcd ⟨d, by rw [hc, Nat.mul_comm]⟩ (Nat.dvd_refl c)
    have h5 : c = 1 := Nat.eq_one_of_dvd_one h4
    rw [hc, h5, Nat.mul_one]
theorem inv_mod {s q : Nat} (hq : 0 < q) (h : Nat.Coprime s q) (c : Nat) : ∃ i, i < q ∧ (s * i) % q = c % q := by
  refine meets (n := q) (f := fun i => (s * i) % q) (fun i _ => Nat.mod_lt _ hq) (fun i j hi hj hij => ?_) (Nat.mod_lt c hq)
  have key : ∀ i j, i < q → j < q → i ≤ j → (s * i) % q = (s * j) % q → i = j := fun i j hi hj hle he => by
    have h1 : q ∣ s * (j - i) := by
      rw [Nat.mul_sub]
      exact Nat.dvd_of_mod_eq_zero (Nat.sub_mod_eq_zero_of_mod_eq he.symm)
    have h2 : q ∣ j - i := Nat.Coprime.dvd_of_dvd_mul_left h.symm h1
    rcases Nat.eq_zero_or_pos (j - i) with h0 | h0
    · omega
    · have := Nat.le_of_dvd h0 h2
      omega
  rcases Nat.le_total i j with hl | hl
  · exact key i j hi hj hl hij
  · exact (key j i hj hi hl hij.symm).symm

/-- The numbers of which one takes a thing's parts. -/
structure Parts (p k s q a b : Nat) : Prop where
  pr : Pr p
  cop : ¬ p ∣ s
  s0 : 0 < s
  hq : q = p ^ (k + 1)
  sa : s ∣ a
  aq : a % q = 1 % q
  qb : q ∣ b
  bs : b % s = 1 % s
theorem Parts.mk' {p k s : Nat} (hp : Pr p) (hs : ¬ p ∣ s) (h0 : 0 < s) : ∃ q a b, Parts p k s q a b := by
  have hp0 : 0 < p := by have := hp.1; omega
  have hc : Nat.Coprime (p ^ (k + 1)) s := Nat.Coprime.pow_left _ (pr_cop hp hs)
  obtain ⟨i, _, hi⟩ := inv_mod (s := s) (q := p ^ (k + 1)) (Nat.pow_pos hp0) hc.symm 1
  obtain ⟨j, _, hj⟩ := inv_mod (s := p ^ (k + 1)) (q := s) h0 hc 1
  exact ⟨p ^ (k + 1), s * i, p ^ (k + 1) * j, hp, hs, h0, rfl, ⟨i, rfl⟩, hi, ⟨j, rfl⟩, hj⟩
variable {p k s q a b : Nat}
theorem Parts.q0 (h : Parts p k s q a b) : 0 < q := by rw [h.hq]; exact Nat.pow_pos (by have := h.pr.1; omega)
theorem Parts.q2 (h : Parts p k s q a b) : 2 ≤ q := by
  rw [h.hq, Nat.pow_succ]
  have h1 : 1 ≤ p ^ k := Nat.pow_pos (by have := h.pr.1; omega)
  have := h.pr.1
  calc 2 ≤ 1 * p := by omega
    _ ≤ p ^ k * p := Nat.mul_le_mul_right p h1
theorem Parts.cqs (h : Parts p k s q a b) : Nat.Coprime q s := by rw [h.hq]; exact Nat.Coprime.pow_left _ (pr_cop h.pr h.cop)
theorem Parts.qp (h : Parts p k s q a b) : q = p ^ k * p := by rw [h.hq, Nat.pow_succ]
theorem Parts.sum (h : Parts p k s q a b) : ∃ t, a + b = 1 + q * s * t := by
  have h2 := h.q2
  have ha : 1 ≤ a := by
    rcases Nat.eq_zero_or_pos a with h0 | h0
    · have := h.aq; rw [h0, Nat.zero_mod, Nat.mod_eq_of_lt (by omega)] at this; omega
    · exact h0
  have h3 : q ∣ a + b - 1 := by
    apply Nat.dvd_of_mod_eq_zero
    apply Nat.sub_mod_eq_zero_of_mod_eq
    obtain ⟨j, hj⟩ := h.qb
    rw [hj, Nat.add_mul_mod_self_left]; exact h.aq
  have h4 : s ∣ a + b - 1 := by
    apply Nat.dvd_of_mod_eq_zero
    apply Nat.sub_mod_eq_zero_of_mod_eq
    obtain ⟨i, hi⟩ := h.sa
    rw [hi, Nat.add_comm, Nat.add_mul_mod_self_left]; exact h.bs
  obtain ⟨t, ht⟩ := Nat.Coprime.mul_dvd_of_dvd_of_dvd h.cqs h3 h4
  exact ⟨t, by omega⟩

variable {l : List Nat} {m : Nat → Nat → Nat} {e : Nat}
theorem po_z (h : Fg l m e) {x : Nat} (hx : x ∈ l) {n : Nat} (hn : po m e x n = e) (t : Nat) : po m e x (n * t) = e := by rw [← po_mul h hx, hn, po_e h]
theorem po_z' (h : Fg l m e) {x : Nat} (hx : x ∈ l) {n j : Nat} (hn : po m e x n = e) (hj : n ∣ j) : po m e x j = e := by obtain ⟨t, rfl⟩ := hj; exact po_z h hx hn t
theorem po_off (h : Fg l m e) {x : Nat} (hx : x ∈ l) {n : Nat} (hn : po m e x n = e) (i t : Nat) : po m e x (i + n * t) = po m e x i := by rw [po_add h hx, po_z h hx hn, h.right _ (po_mem h hx i)]
/-- What is taken away: so many times p it is the one, and not without p. -/
def AA (l : List Nat) (m : Nat → Nat → Nat) (e q n s : Nat) : List Nat := l.filter fun x => decide (po m e x (q * s) = e) && !decide (po m e x (n * s) = e)
theorem AA_iff {n x : Nat} : x ∈ AA l m e q n s ↔ x ∈ l ∧ po m e x (q * s) = e ∧ ¬ po m e x (n * s) = e := by
  unfold AA
  rw [List.mem_filter]
  simp
/-- The part whose order is the prime's power. -/
theorem part_ord (h : Fg l m e) (P : Parts p k s q a b) {x : Nat} (hA : x ∈ AA l m e q (p ^ k) s) : ∀ i, po m e (po m e x a) i = e ↔ q ∣ i := by
  obtain ⟨hx, h1, h2⟩ := AA_iff.1 hA
  have hy := po_mem h hx a
  obtain ⟨d, hd, ho⟩ := order h hy
  have hdq : d ∣ q := (ho q).1 (by
    rw [po_mul h hx]
    obtain ⟨i, hi⟩ := P.sa
    exact po_z' h hx h1 ⟨i, by rw [hi]; simp [Nat.mul_comm, Nat.mul_left_comm]⟩)
  have hnk : ¬ d ∣ p ^ k := fun hc => by
    apply h2
    have h3 := (ho _).2 hc
    obtain ⟨t, ht⟩ := P.sum
    have h4 : x = po m e x (a + b) := by rw [ht, po_off h hx h1, po_one h hx]
    have h5 : po m e x (p ^ k * s) = po m e (po m e x (a + b)) (p ^ k * s) := by rw [← h4]
    rw [h5, po_add h hx, po_prod h (po_mem h hx a) (po_mem h hx b) (po_pow_com h hx a b), po_z' h hy h3 ⟨s, rfl⟩, po_mul h hx, h.left _ (po_mem h hx _)]
    obtain ⟨j, hj⟩ := P.qb
    exact po_z' h hx h1 ⟨j * p ^ k, by rw [hj]; grind⟩
  rw [P.hq] at hdq ⊢
  have := pr_pow_dvd P.pr hdq hnk
  rw [← this]; exact ho

theorem rel_iff (h : Fg l m e) (P : Parts p k s q a b) {x y : Nat} (hx : x ∈ l) (h1 : po m e x (q * s) = e) :
    ((List.range (p ^ k)).any (fun i => decide (po m e x (1 + p * s * i) = y))) = true ↔ ∃ t, po m e x (1 + p * s * t) = y := by
  have hk : 0 < p ^ k := Nat.pow_pos (by have := P.pr.1; omega)
  simp only [List.any_eq_true, List.mem_range, decide_eq_true_eq]
  constructor
  · rintro ⟨i, _, hi⟩; exact ⟨i, hi⟩
  · rintro ⟨t, ht⟩
    refine ⟨t % p ^ k, Nat.mod_lt _ hk, ?_⟩
    rw [← ht]
    have : 1 + p * s * t = (1 + p * s * (t % p ^ k)) + q * s * (t / p ^ k) := by
      have h3 := Nat.div_add_mod t (p ^ k)
      rw [P.qp]
      generalize t / p ^ k = u at *
      generalize t % p ^ k = v at *
      rw [← h3]
      grind
    rw [this, po_off h hx h1]
theorem cop_u (P : Parts p k s q a b) (t : Nat) : Nat.Coprime (1 + p * s * t) (p ^ k) := by
  have : ¬ p ∣ 1 + p * s * t := fun hc => by
    have h1 : p ∣ p * s * t := ⟨s * t, by rw [Nat.mul_assoc]⟩
    have h2 := (Nat.dvd_add_iff_left h1).2 hc
    have := Nat.le_of_dvd (by omega) h2
    have := P.pr.1
    omega
  exact (Nat.Coprime.pow_left k (pr_cop P.pr this)).symm
theorem half_one (h : Fg l m e) (P : Parts p k s q a b) : p ^ k ∣ (AA l m e q (p ^ k) s).length := by
  have hk : 0 < p ^ k := Nat.pow_pos (by have := P.pr.1; omega)
  have hA : ∀ x, x ∈ AA l m e q (p ^ k) s → x ∈ l ∧ po m e x (q * s) = e ∧ ¬ po m e x (p ^ k * s) = e := fun x hx => AA_iff.1 hx
  have htr : ∀ x y z, x ∈ l → (∃ t, po m e x (1 + p * s * t) = y) → (∃ t, po m e y (1 + p * s * t) = z) → ∃ t, po m e x (1 + p * s * t) = z := fun x y z hx ⟨t, h1⟩ ⟨u, h2⟩ => by
    refine ⟨t + u + p * s * t * u, ?_⟩
    rw [← h2, ← h1, po_mul h hx]
    congr 1
    grind
  have hsy : ∀ x y, x ∈ l → po m e x (q * s) = e → (∃ t, po m e x (1 + p * s * t) = y) → ∃ t, po m e y (1 + p * s * t) = x := fun x y hx h1 ⟨t, ht⟩ => by
    obtain ⟨u, _, hu⟩ := inv_mod hk (cop_u P t) (p ^ k - t % p ^ k)
    have h0 : (t + (1 + p * s * t) * u) % p ^ k = 0 := by
      rw [Nat.add_mod, hu, ← Nat.add_mod]
      have h3 := Nat.div_add_mod t (p ^ k)
      have h4 := Nat.mod_lt t hk
      have : t + (p ^ k - t % p ^ k) = p ^ k * (t / p ^ k + 1) := by rw [Nat.mul_add, Nat.mul_one]; omega
      rw [this, Nat.mul_mod_right]
    obtain ⟨v, hv⟩ := Nat.dvd_of_mod_eq_zero h0
    refine ⟨u, ?_⟩
    rw [← ht, po_mul h hx]
    have : (1 + p * s * t) * (1 + p * s * u) = 1 + q * s * v := by
      have h5 : (1 + p * s * t) * (1 + p * s * u) = 1 + p * s * (t + (1 + p * s * t) * u) := by grind
      rw [h5, hv, P.qp]
      grind
    rw [this, po_off h hx h1, po_one h hx]
  refine part_dvd _ (fun x y => (List.range (p ^ k)).any (fun i => decide (po m e x (1 + p * s * i) = y))) _ _ (Nat.le_refl _) (fun x hx => ?_) (fun x y z hx hy _ hxy => ?_) (fun x hx => ?_)
  · obtain ⟨hl, h1, _⟩ := hA x hx
    exact (rel_iff h P hl h1).2 ⟨0, by rw [Nat.mul_zero, Nat.add_zero, po_one h hl]⟩
  · obtain ⟨hl, h1, _⟩ := hA x hx
    obtain ⟨hl', h1', _⟩ := hA y hy
    have hxy := (rel_iff h P hl h1).1 hxy
    show _ = _
    rw [Bool.eq_iff_iff, rel_iff h P hl h1, rel_iff h P hl' h1']
    exact ⟨fun hz => htr y x z hl' (hsy x y hl h1 hxy) hz, fun hz => htr x y z hl hxy hz⟩
  · obtain ⟨hl, h1, h2⟩ := hA x hx
    have ho := part_ord h P hx
    have key : ∀ i j, i < p ^ k → j < p ^ k → i ≤ j → po m e x (1 + p * s * i) = po m e x (1 + p * s * j) → i = j := fun i j hi hj hle he => by
      have h3 := po_back h hl (Nat.add_le_add_left (Nat.mul_le_mul_left _ hle) 1) he
      have h4 : 1 + p * s * j - (1 + p * s * i) = p * (s * (j - i)) := by rw [Nat.add_sub_add_left, ← Nat.mul_sub, Nat.mul_assoc]
      rw [h4] at h3
      have h5 := (ho (p * (s * (j - i)))).1 (by rw [po_mul h hl]; exact po_z' h hl h3 ⟨a, by rw [Nat.mul_comm]⟩)
      rw [P.qp, Nat.mul_comm (p ^ k) p] at h5
      have h6 : p ^ k ∣ s * (j - i) := Nat.dvd_of_mul_dvd_mul_left (by have := P.pr.1; omega) h5
      have h7 : p ^ k ∣ j - i := Nat.Coprime.dvd_of_dvd_mul_left (Nat.Coprime.pow_left k (pr_cop P.pr P.cop)) h6
      rcases Nat.eq_zero_or_pos (j - i) with h0 | h0
      · omega
      · have := Nat.le_of_dvd h0 h7
        omega
    have := bij_len (l1 := List.range (p ^ k)) (l2 := (AA l m e q (p ^ k) s).filter fun y => (List.range (p ^ k)).any (fun i => decide (po m e x (1 + p * s * i) = y))) (fun i => po m e x (1 + p * s * i)) List.nodup_range ((h.nd.filter _).filter _) (fun i _ => by
        refine List.mem_filter.2 ⟨AA_iff.2 ⟨po_mem h hl _, ?_, ?_⟩, (rel_iff h P hl h1).2 ⟨i, rfl⟩⟩
        · rw [po_mul h hl]; exact po_z' h hl h1 ⟨1 + p * s * i, by rw [Nat.mul_comm]⟩
        · rw [po_mul h hl]
          have : (1 + p * s * i) * (p ^ k * s) = p ^ k * s + q * s * (s * i) := by rw [P.qp]; grind
          rw [this, po_off h hl h1]; exact h2) (fun i j hi hj hij => by
        rw [List.mem_range] at hi hj
        rcases Nat.le_total i j with hle | hle
        · exact key i j hi hj hle hij
        · exact (key j i hj hi hle hij.symm).symm) (fun y hy => by
        obtain ⟨_, h4⟩ := List.mem_filter.1 hy
        simp only [List.any_eq_true, decide_eq_true_eq] at h4
        exact h4)
    rw [List.length_range] at this
    exact ⟨1, by rw [Nat.mul_one]; exact this.symm⟩
end Go.Proofs.YtjiapicknkjhmaaGreatDoor.Fin

namespace Go.Proofs.YtjiapicknkjhmaaGreatDoor.Fin
variable {l : List Nat} {m : Nat → Nat → Nat} {e : Nat}

/-- What commutes with a thing. -/
def cent (l : List Nat) (m : Nat → Nat → Nat) (y : Nat) : List Nat := l.filter fun c => decide (m c y = m y c)
theorem cent_iff {y c : Nat} : c ∈ cent l m y ↔ c ∈ l ∧ m c y = m y c := by
  unfold cent; rw [List.mem_filter, decide_eq_true_eq]
theorem cent_fg (h : Fg l m e) {y : Nat} (hy : y ∈ l) : Fg (cent l m y) m e := by
  refine sub_fg h (h.nd.filter _) (fun x hx => (cent_iff.1 hx).1) (cent_iff.2 ⟨h.one, by rw [h.left y hy, h.right y hy]⟩) (fun a b ha hb => ?_)
  obtain ⟨ha1, ha2⟩ := cent_iff.1 ha
  obtain ⟨hb1, hb2⟩ := cent_iff.1 hb
  exact cent_iff.2 ⟨h.cl _ _ ha1 hb1, by rw [h.ass _ _ _ ha1 hb1 hy, hb2, ← h.ass _ _ _ ha1 hy hb1, ha2, h.ass _ _ _ hy ha1 hb1]⟩

/-- The coset of the powers of y. -/
def inco (m : Nat → Nat → Nat) (e y q x c : Nat) : Bool := (List.range q).any fun i => decide (m x (po m e y i) = c)
def rep (l : List Nat) (m : Nat → Nat → Nat) (e y q x : Nat) : Nat := ((l.filter fun c => inco m e y q x c).head?).getD 0
structure Cen (l : List Nat) (m : Nat → Nat → Nat) (e y q : Nat) : Prop where
  fg : Fg l m e
  hy : y ∈ l
  com : ∀ c, c ∈ l → m c y = m y c
  q0 : 0 < q
  ho : ∀ i, po m e y i = e ↔ q ∣ i
variable {y q : Nat}
theorem inco_iff (H : Cen l m e y q) {x c : Nat} : inco m e y q x c = true ↔ ∃ i, m x (po m e y i) = c := by
  unfold inco
  simp only [List.any_eq_true, List.mem_range, decide_eq_true_eq]
  constructor
  · rintro ⟨i, _, hi⟩; exact ⟨i, hi⟩
  · rintro ⟨i, hi⟩
    refine ⟨i % q, Nat.mod_lt _ H.q0, ?_⟩
    rw [← hi]
    have h1 : po m e y i = po m e y (i % q + q * (i / q)) := by congr 1; have := Nat.div_add_mod i q; omega
    rw [h1, po_off H.fg H.hy ((H.ho q).2 ⟨1, by simp⟩)]
theorem inco_refl (H : Cen l m e y q) {x : Nat} (hx : x ∈ l) : inco m e y q x x = true := (inco_iff H).2 ⟨0, H.fg.right x hx⟩
theorem inco_symm (H : Cen l m e y q) {x c : Nat} (hx : x ∈ l) (h : inco m e y q x c = true) : inco m e y q c x = true := by
  obtain ⟨i, hi⟩ := (inco_iff H).1 h
  have hq := H.q0
  refine (inco_iff H).2 ⟨q * i - i, ?_⟩
  have hle : i ≤ q * i := Nat.le_mul_of_pos_left i hq
  rw [← hi, H.fg.ass _ _ _ hx (po_mem H.fg H.hy _) (po_mem H.fg H.hy _), ← po_add H.fg H.hy, show i + (q * i - i) = q * i by omega, (H.ho _).2 ⟨i, rfl⟩, H.fg.right x hx]
theorem inco_trans (H : Cen l m e y q) {x c d : Nat} (hx : x ∈ l) (h : inco m e y q x c = true) (k : inco m e y q c d = true) : inco m e y q x d = true := by
  obtain ⟨i, hi⟩ := (inco_iff H).1 h
  obtain ⟨j, hj⟩ := (inco_iff H).1 k
  exact (inco_iff H).2 ⟨i + j, by rw [po_add H.fg H.hy, ← H.fg.ass _ _ _ hx (po_mem H.fg H.hy _) (po_mem H.fg H.hy _), hi, hj]⟩
theorem rep_spec (H : Cen l m e y q) {x : Nat} (hx : x ∈ l) : rep l m e y q x ∈ l ∧ inco m e y q x (rep l m e y q x) = true := by
  have hm : x ∈ l.filter fun c => inco m e y q x c := List.mem_filter.2 ⟨hx, inco_refl H hx⟩
  unfold rep
  cases hf : l.filter fun c => inco m e y q x c with
  | nil => rw [hf] at hm; cases hm
  | cons c t =>
    have : c ∈ l.filter fun c => inco m e y q x c := by rw [hf]; simp
    obtain ⟨h1, h2⟩ := List.mem_filter.1 this
    exact ⟨h1, h2⟩
theorem rep_eq (H : Cen l m e y q) {x c : Nat} (hx : x ∈ l) (hc : c ∈ l) (h : inco m e y q x c = true) : rep l m e y q x = rep l m e y q c := by
  unfold rep
  rw [filter_eq (q := fun d => inco m e y q c d)]
  intro d _
  rw [Bool.eq_iff_iff]
  exact ⟨fun k => inco_trans H hc (inco_symm H hx h) k, fun k => inco_trans H hx h k⟩
theorem rep_iff (H : Cen l m e y q) {x c : Nat} (hx : x ∈ l) (hc : c ∈ l) : rep l m e y q x = rep l m e y q c ↔ inco m e y q x c = true := by
  refine ⟨fun h => ?_, rep_eq H hx hc⟩
  have h1 := (rep_spec H hx).2
  have h2 := (rep_spec H hc).2
  rw [h] at h1
  exact inco_trans H hx h1 (inco_symm H hc h2)
theorem rep_rep (H : Cen l m e y q) {x : Nat} (hx : x ∈ l) : rep l m e y q (rep l m e y q x) = rep l m e y q x := (rep_eq H hx (rep_spec H hx).1 (rep_spec H hx).2).symm
theorem com_pow (H : Cen l m e y q) {c : Nat} (hc : c ∈ l) (i : Nat) : m c (po m e y i) = m (po m e y i) c := (po_com H.fg H.hy hc (H.com c hc).symm i).symm
theorem rep_mul (H : Cen l m e y q) {a b : Nat} (ha : a ∈ l) (hb : b ∈ l) : rep l m e y q (m (rep l m e y q a) (rep l m e y q b)) = rep l m e y q (m a b) := by
  obtain ⟨ra, ia⟩ := rep_spec H ha
  obtain ⟨rb, ib⟩ := rep_spec H hb
  obtain ⟨i, hi⟩ := (inco_iff H).1 ia
  obtain ⟨j, hj⟩ := (inco_iff H).1 ib
  have pi := po_mem H.fg H.hy i
  have pj := po_mem H.fg H.hy j
  refine (rep_eq H (H.fg.cl _ _ ha hb) (H.fg.cl _ _ ra rb) ((inco_iff H).2 ⟨i + j, ?_⟩)).symm
  rw [← hi, ← hj, po_add H.fg H.hy, H.fg.ass _ _ _ ha hb (H.fg.cl _ _ pi pj), ← H.fg.ass _ _ _ hb pi pj, com_pow H hb i, H.fg.ass _ _ _ pi hb pj, ← H.fg.ass _ _ _ ha pi (H.fg.cl _ _ hb pj)]

/-- The quotient. -/
def quo (l : List Nat) (m : Nat → Nat → Nat) (e y q : Nat) : List Nat := l.filter fun x => decide (rep l m e y q x = x)
def mq (l : List Nat) (m : Nat → Nat → Nat) (e y q : Nat) (a b : Nat) : Nat := rep l m e y q (m a b)
theorem quo_iff {x : Nat} : x ∈ quo l m e y q ↔ x ∈ l ∧ rep l m e y q x = x := by unfold quo; rw [List.mem_filter, decide_eq_true_eq]
theorem rep_quo (H : Cen l m e y q) {x : Nat} (hx : x ∈ l) : rep l m e y q x ∈ quo l m e y q := quo_iff.2 ⟨(rep_spec H hx).1, rep_rep H hx⟩
theorem quo_fg (H : Cen l m e y q) : Fg (quo l m e y q) (mq l m e y q) (rep l m e y q e) := by
  refine ⟨H.fg.nd.filter _, rep_quo H H.fg.one, fun a b ha hb => ?_, fun a b c ha hb hc => ?_, fun a ha => ?_, fun a ha => ?_, fun a ha => ?_⟩
  · exact rep_quo H (H.fg.cl _ _ (quo_iff.1 ha).1 (quo_iff.1 hb).1)
  · obtain ⟨ha, ea⟩ := quo_iff.1 ha
    obtain ⟨hb, eb⟩ := quo_iff.1 hb
    obtain ⟨hc, ec⟩ := quo_iff.1 hc
    have h1 := rep_mul H (H.fg.cl _ _ ha hb) hc
    have h2 := rep_mul H ha (H.fg.cl _ _ hb hc)
    rw [ec] at h1
    rw [ea] at h2
    unfold mq
    rw [h1, h2, H.fg.ass _ _ _ ha hb hc]
  · obtain ⟨ha, ea⟩ := quo_iff.1 ha
    have h1 := rep_mul H H.fg.one ha
    rw [ea, H.fg.left a ha, ea] at h1
    exact h1
  · obtain ⟨ha, ea⟩ := quo_iff.1 ha
    have h1 := rep_mul H ha H.fg.one
    rw [ea, H.fg.right a ha, ea] at h1
    exact h1
  · obtain ⟨ha, ea⟩ := quo_iff.1 ha
    obtain ⟨b, hb, h1, h2⟩ := H.fg.inv a ha
    refine ⟨rep l m e y q b, rep_quo H hb, ?_, ?_⟩
    · have := rep_mul H ha hb
      rw [ea, h1] at this
      exact this
    · have := rep_mul H hb ha
      rw [ea, h2] at this
      exact this
theorem po_quo (H : Cen l m e y q) {x : Nat} (hx : x ∈ l) : ∀ k, po (mq l m e y q) (rep l m e y q e) (rep l m e y q x) k = rep l m e y q (po m e x k)
  | 0 => rfl
  | k + 1 => by
    show mq l m e y q (po (mq l m e y q) (rep l m e y q e) (rep l m e y q x) k) (rep l m e y q x) = _
    rw [po_quo H hx k]
    exact rep_mul H (po_mem H.fg hx k) hx
theorem quo_len (H : Cen l m e y q) : l.length = (quo l m e y q).length * q := by
  refine fib_len (rep l m e y q) q _ _ (H.fg.nd.filter _) (fun x hx => rep_quo H hx) (fun k hk => ?_)
  obtain ⟨hk1, hk2⟩ := quo_iff.1 hk
  have := bij_len (l1 := List.range q) (l2 := l.filter fun x => decide (rep l m e y q x = k)) (fun i => m k (po m e y i)) List.nodup_range (H.fg.nd.filter _) (fun i _ => by
      have hm := H.fg.cl _ _ hk1 (po_mem H.fg H.hy i)
      refine List.mem_filter.2 ⟨hm, ?_⟩
      rw [decide_eq_true_eq, ← rep_eq H hk1 hm ((inco_iff H).2 ⟨i, rfl⟩), hk2]) (fun i j hi hj hij => by
      rw [List.mem_range] at hi hj
      have h1 := H.fg.can hk1 (po_mem H.fg H.hy i) (po_mem H.fg H.hy j) hij
      have key : ∀ i j, i < q → j < q → i ≤ j → po m e y i = po m e y j → i = j := fun i j hi hj hle he => by
        have h1 := (H.ho _).1 (po_back H.fg H.hy hle he)
        rcases Nat.eq_zero_or_pos (j - i) with h0 | h0
        · omega
        · have := Nat.le_of_dvd h0 h1
          omega
      rcases Nat.le_total i j with hl | hl
      · exact key i j hi hj hl h1
      · exact (key j i hj hi hl h1.symm).symm) (fun x hx => by
      obtain ⟨hx1, hx2⟩ := List.mem_filter.1 hx
      rw [decide_eq_true_eq] at hx2
      have h3 := (rep_iff H hk1 hx1).1 (by rw [hk2, hx2])
      unfold inco at h3
      simp only [List.any_eq_true, decide_eq_true_eq] at h3
      exact h3)
  rw [List.length_range] at this
  exact this.symm
theorem quo_cnt (H : Cen l m e y q) {s : Nat} (hs : Nat.Coprime s q) : cnt l m e s = cnt (quo l m e y q) (mq l m e y q) (rep l m e y q e) s := by
  unfold cnt
  refine bij_len (rep l m e y q) (H.fg.nd.filter _) ((H.fg.nd.filter _).filter _) (fun z hz => ?_) (fun z w hz hw hzw => ?_) (fun x hx => ?_)
  · obtain ⟨hz1, hz2⟩ := List.mem_filter.1 hz
    rw [decide_eq_true_eq] at hz2
    exact List.mem_filter.2 ⟨rep_quo H hz1, by rw [decide_eq_true_eq, po_quo H hz1, hz2]⟩
  · obtain ⟨hz1, hz2⟩ := List.mem_filter.1 hz
    obtain ⟨hw1, hw2⟩ := List.mem_filter.1 hw
    rw [decide_eq_true_eq] at hz2 hw2
    obtain ⟨i, hi⟩ := (inco_iff H).1 ((rep_iff H hz1 hw1).1 hzw)
    have pi := po_mem H.fg H.hy i
    rw [← hi, po_prod H.fg hz1 pi (com_pow H hz1 i), hz2, po_mul H.fg H.hy, H.fg.left _ (po_mem H.fg H.hy _), H.ho] at hw2
    have h3 : q ∣ i := Nat.Coprime.dvd_of_dvd_mul_right hs.symm hw2
    rw [← hi, (H.ho i).2 h3, H.fg.right z hz1]
  · obtain ⟨hx1, hx2⟩ := List.mem_filter.1 hx
    obtain ⟨hx3, hx4⟩ := quo_iff.1 hx1
    rw [decide_eq_true_eq] at hx2
    have h5 := po_quo H hx3 s
    rw [hx4, hx2] at h5
    obtain ⟨j, hj⟩ := (inco_iff H).1 ((rep_iff H H.fg.one (po_mem H.fg hx3 s)).1 h5)
    rw [H.fg.left _ (po_mem H.fg H.hy j)] at hj
    obtain ⟨i, _, hi⟩ := inv_mod H.q0 hs (q - j % q)
    have pi := po_mem H.fg H.hy i
    refine ⟨m x (po m e y i), List.mem_filter.2 ⟨H.fg.cl _ _ hx3 pi, ?_⟩, ?_⟩
    · rw [decide_eq_true_eq, po_prod H.fg hx3 pi (com_pow H hx3 i), ← hj, po_mul H.fg H.hy, ← po_add H.fg H.hy, H.ho]
      apply Nat.dvd_of_mod_eq_zero
      rw [Nat.mul_comm i s, Nat.add_mod, hi, ← Nat.add_mod]
      have h3 := Nat.div_add_mod j q
      have h4 := Nat.mod_lt j H.q0
      have : j + (q - j % q) = q * (j / q + 1) := by rw [Nat.mul_add, Nat.mul_one]; omega
      rw [this, Nat.mul_mod_right]
    · rw [← rep_eq H hx3 (H.fg.cl _ _ hx3 pi) ((inco_iff H).2 ⟨i, rfl⟩), hx4]
end Go.Proofs.YtjiapicknkjhmaaGreatDoor.Fin

namespace Go.Proofs.YtjiapicknkjhmaaGreatDoor.Fin
variable {l : List Nat} {m : Nat → Nat → Nat} {e : Nat}

/-- Conjugated by g: g x = x' g. -/
theorem con_mk (h : Fg l m e) {g gi x : Nat} (hg : g ∈ l) (hi : gi ∈ l) (h1 : m gi g = e) (hx : x ∈ l) : m g x = m (m (m g x) gi) g := by
  rw [h.ass _ _ _ (h.cl _ _ hg hx) hi hg, h1, h.right _ (h.cl _ _ hg hx)]
theorem con_e (h : Fg l m e) {g x x' : Nat} (hg : g ∈ l) (hx : x ∈ l) (hx' : x' ∈ l) (hc : m g x = m x' g) (i : Nat) : po m e x i = e ↔ po m e x' i = e := by
  have h1 := po_conj h hg hx hx' hc i
  constructor
  · intro h2
    rw [h2, h.right g hg] at h1
    exact h.canR hg (po_mem h hx' i) h.one (by rw [← h1, h.left g hg])
  · intro h2
    rw [h2, h.left g hg] at h1
    exact h.can hg (po_mem h hx i) h.one (by rw [h1, h.right g hg])
theorem con_back (h : Fg l m e) {g gi x x' : Nat} (hg : g ∈ l) (hi : gi ∈ l) (h1 : m gi g = e) (h2 : m g gi = e) (hx : x ∈ l) (hx' : x' ∈ l) (hc : m g x = m x' g) : m gi x' = m x gi := by
  have h3 : m (m gi (m g x)) gi = m (m gi (m x' g)) gi := by rw [hc]
  rw [← h.ass _ _ _ hi hg hx, h1, h.left x hx, ← h.ass _ _ _ hi hx' hg, h.ass _ _ _ (h.cl _ _ hi hx') hg hi, h2, h.right _ (h.cl _ _ hi hx')] at h3
  exact h3.symm
theorem con_trans (h : Fg l m e) {g k x y z : Nat} (hg : g ∈ l) (hk : k ∈ l) (hx : x ∈ l) (hy : y ∈ l) (hz : z ∈ l) (h1 : m g x = m y g) (h2 : m k y = m z k) : m (m k g) x = m z (m k g) := by
  rw [h.ass _ _ _ hk hg hx, h1, ← h.ass _ _ _ hk hy hg, h2, h.ass _ _ _ hz hk hg]
def con (l : List Nat) (m : Nat → Nat → Nat) (x y : Nat) : Bool := l.any fun g => decide (m g x = m y g)
theorem con_iff {x y : Nat} : con l m x y = true ↔ ∃ g, g ∈ l ∧ m g x = m y g := by unfold con; simp
theorem con_refl (h : Fg l m e) {x : Nat} (hx : x ∈ l) : con l m x x = true := con_iff.2 ⟨e, h.one, by rw [h.left x hx, h.right x hx]⟩
theorem con_symm (h : Fg l m e) {x y : Nat} (hx : x ∈ l) (hy : y ∈ l) (hc : con l m x y = true) : con l m y x = true := by
  obtain ⟨g, hg, h1⟩ := con_iff.1 hc
  obtain ⟨gi, hi, h2, h3⟩ := h.inv g hg
  exact con_iff.2 ⟨gi, hi, con_back h hg hi h3 h2 hx hy h1⟩
theorem con_tr (h : Fg l m e) {x y z : Nat} (hx : x ∈ l) (hy : y ∈ l) (hz : z ∈ l) (h1 : con l m x y = true) (h2 : con l m y z = true) : con l m x z = true := by
  obtain ⟨g, hg, h1⟩ := con_iff.1 h1
  obtain ⟨k, hk, h2⟩ := con_iff.1 h2
  exact con_iff.2 ⟨m k g, h.cl _ _ hk hg, con_trans h hg hk hx hy hz h1 h2⟩
theorem con_same (h : Fg l m e) {x y z : Nat} (hx : x ∈ l) (hy : y ∈ l) (hz : z ∈ l) (h1 : con l m x y = true) : con l m x z = con l m y z := by
  rw [Bool.eq_iff_iff]
  exact ⟨fun k => con_tr h hy hx hz (con_symm h hx hy h1) k, fun k => con_tr h hx hy hz h1 k⟩
/-- All that a thing is conjugate to. -/
def cls (l : List Nat) (m : Nat → Nat → Nat) (y : Nat) : List Nat := l.filter fun z => con l m y z
theorem cls_len (h : Fg l m e) {y : Nat} (hy : y ∈ l) : l.length = (cls l m y).length * (cent l m y).length := by
  have hiv : ∀ g, g ∈ l → m g (po m e g (l.length - 1)) = e ∧ m (po m e g (l.length - 1)) g = e := fun g hg => by
    have hp := h.pos
    have h1 := po_len h hg
    constructor
    · have : po m e g l.length = m (po m e g 1) (po m e g (l.length - 1)) := by rw [← po_add h hg]; congr 1; omega
      rw [po_one h hg] at this
      rw [← this]; exact h1
    · have : po m e g l.length = m (po m e g (l.length - 1)) (po m e g 1) := by rw [← po_add h hg]; congr 1; omega
      rw [po_one h hg] at this
      rw [← this]; exact h1
  have hpm : ∀ g, g ∈ l → po m e g (l.length - 1) ∈ l := fun g hg => po_mem h hg _
  refine fib_len (fun g => m (m g y) (po m e g (l.length - 1))) _ _ _ (h.nd.filter _) (fun g hg => ?_) (fun k hk => ?_)
  · exact List.mem_filter.2 ⟨h.cl _ _ (h.cl _ _ hg hy) (hpm g hg), con_iff.2 ⟨g, hg, con_mk h hg (hpm g hg) (hiv g hg).2 hy⟩⟩
  · obtain ⟨hk1, hk2⟩ := List.mem_filter.1 hk
    obtain ⟨g, hg, hgk⟩ := con_iff.1 hk2
    have fib : ∀ f, f ∈ l → (m (m f y) (po m e f (l.length - 1)) = k ↔ m f y = m k f) := fun f hf => by
      have h1 := con_mk h hf (hpm f hf) (hiv f hf).2 hy
      have hm := h.cl _ _ (h.cl _ _ hf hy) (hpm f hf)
      exact ⟨fun h2 => by rw [h2] at h1; exact h1, fun h2 => h.canR hf hm hk1 (by rw [← h1, h2])⟩
    symm
    refine bij_len (m g) ((h.nd).filter _) (h.nd.filter _) (fun c hc => ?_) (fun a b ha hb hab => ?_) (fun f hf => ?_)
    · obtain ⟨hc1, hc2⟩ := cent_iff.1 hc
      have hm := h.cl _ _ hg hc1
      refine List.mem_filter.2 ⟨hm, ?_⟩
      rw [decide_eq_true_eq, fib _ hm, h.ass _ _ _ hg hc1 hy, hc2, ← h.ass _ _ _ hg hy hc1, hgk, h.ass _ _ _ hk1 hg hc1]
    · exact h.can hg (cent_iff.1 ha).1 (cent_iff.1 hb).1 hab
    · obtain ⟨hf1, hf2⟩ := List.mem_filter.1 hf
      rw [decide_eq_true_eq, fib f hf1] at hf2
      obtain ⟨gi, hi, h2, h3⟩ := h.inv g hg
      have hb := con_back h hg hi h3 h2 hy hk1 hgk
      refine ⟨m gi f, cent_iff.2 ⟨h.cl _ _ hi hf1, ?_⟩, ?_⟩
      · rw [h.ass _ _ _ hi hf1 hy, hf2, ← h.ass _ _ _ hi hk1 hf1, hb, h.ass _ _ _ hy hi hf1]
      · rw [← h.ass _ _ _ hg hi hf1, h2, h.left f hf1]

variable {p k s q a b : Nat}
/-- Things of A with a given part, and what commutes with the part. -/
theorem part_cnt (h : Fg l m e) (P : Parts p k s q a b) {x : Nat} (hA : x ∈ AA l m e q (p ^ k) s) :
    ((AA l m e q (p ^ k) s).filter fun z => decide (po m e z a = po m e x a)).length = cnt (cent l m (po m e x a)) m e s := by
  obtain ⟨hx, h1, h2⟩ := AA_iff.1 hA
  have ho := part_ord h P hA
  have hy := po_mem h hx a
  generalize po m e x a = y at *
  obtain ⟨t, ht⟩ := P.sum
  have hq1 : po m e y q = e := (ho q).2 (Nat.dvd_refl q)
  unfold cnt
  refine bij_len (fun z => po m e z b) ((h.nd.filter _).filter _) ((h.nd.filter _).filter _) (fun z hz => ?_) (fun z w hz hw hzw => ?_) (fun z hz => ?_)
  · obtain ⟨hz1, hz2⟩ := List.mem_filter.1 hz
    rw [decide_eq_true_eq] at hz2
    obtain ⟨hzl, hz3, _⟩ := AA_iff.1 hz1
    refine List.mem_filter.2 ⟨cent_iff.2 ⟨po_mem h hzl b, by rw [← hz2]; exact po_pow_com h hzl b a⟩, ?_⟩
    rw [decide_eq_true_eq, po_mul h hzl]
    obtain ⟨j, hj⟩ := P.qb
    exact po_z' h hzl hz3 ⟨j, by rw [hj]; grind⟩
  · obtain ⟨hz1, hz2⟩ := List.mem_filter.1 hz
    obtain ⟨hw1, hw2⟩ := List.mem_filter.1 hw
    rw [decide_eq_true_eq] at hz2 hw2
    obtain ⟨hzl, hz3, _⟩ := AA_iff.1 hz1
    obtain ⟨hwl, hw3, _⟩ := AA_iff.1 hw1
    have ez : z = po m e z (a + b) := by rw [ht, po_off h hzl hz3, po_one h hzl]
    have ew : w = po m e w (a + b) := by rw [ht, po_off h hwl hw3, po_one h hwl]
    rw [po_add h hzl, hz2] at ez
    rw [po_add h hwl, hw2] at ew
    have hzw' : po m e z b = po m e w b := hzw
    rw [ez, ew, hzw']
  · obtain ⟨hz1, hz2⟩ := List.mem_filter.1 hz
    rw [decide_eq_true_eq] at hz2
    obtain ⟨hzl, hzc⟩ := cent_iff.1 hz1
    have hm := h.cl _ _ hy hzl
    have hpr : ∀ i, po m e (m y z) i = m (po m e y i) (po m e z i) := po_prod h hy hzl hzc.symm
    obtain ⟨i, hi⟩ := P.sa
    obtain ⟨j, hj⟩ := P.qb
    have ya : po m e y a = y := by
      have h3 := Nat.div_add_mod a q
      rw [P.aq, Nat.mod_eq_of_lt (by have := P.q2; omega)] at h3
      rw [← h3, Nat.add_comm, po_off h hy hq1, po_one h hy]
    have za : po m e z a = e := po_z' h hzl hz2 ⟨i, hi⟩
    have yb : po m e y b = e := po_z' h hy hq1 ⟨j, hj⟩
    have zb : po m e z b = z := by
      have h3 := Nat.div_add_mod b s
      rw [P.bs] at h3
      rcases Nat.lt_or_ge 1 s with h4 | h4
      · rw [Nat.mod_eq_of_lt h4] at h3
        rw [← h3, Nat.add_comm, po_off h hzl hz2, po_one h hzl]
      · have hs1 : s = 1 := by have := P.s0; omega
        rw [hs1, po_one h hzl] at hz2
        rw [hz2, po_e h]
    refine ⟨m y z, List.mem_filter.2 ⟨AA_iff.2 ⟨hm, ?_, ?_⟩, ?_⟩, ?_⟩
    · rw [hpr, po_z' h hy hq1 ⟨s, rfl⟩, po_z' h hzl hz2 ⟨q, Nat.mul_comm q s⟩, h.left e h.one]
    · rw [hpr, po_z' h hzl hz2 ⟨p ^ k, Nat.mul_comm _ s⟩, h.right _ (po_mem h hy _), ho, P.qp]
      intro hc
      have h5 : p ∣ s := Nat.dvd_of_mul_dvd_mul_left (Nat.pow_pos (by have := P.pr.1; omega)) hc
      exact P.cop h5
    · rw [decide_eq_true_eq, hpr, ya, za, h.right y hy]
    · show po m e (m y z) b = z
      rw [hpr, yb, zb, h.left z hzl]
theorem half_two (h : Fg l m e) (P : Parts p k s q a b) (hsN : s ∣ l.length)
    (IH : ∀ (l' : List Nat) (m' : Nat → Nat → Nat) (e' : Nat), Fg l' m' e' → l'.length < l.length → ∀ n, n ∣ l'.length → n ∣ cnt l' m' e' n) : s ∣ (AA l m e q (p ^ k) s).length := by
  have hA : ∀ x, x ∈ AA l m e q (p ^ k) s → x ∈ l ∧ po m e x (q * s) = e ∧ ¬ po m e x (p ^ k * s) = e := fun x hx => AA_iff.1 hx
  have hyl : ∀ x, x ∈ AA l m e q (p ^ k) s → po m e x a ∈ l := fun x hx => po_mem h (hA x hx).1 a
  refine part_dvd _ (fun x z => con l m (po m e x a) (po m e z a)) _ _ (Nat.le_refl _) (fun x hx => con_refl h (hyl x hx)) (fun x y z hx hy hz hxy => con_same h (hyl x hx) (hyl y hy) (hyl z hz) hxy) (fun x hx => ?_)
  have hy := hyl x hx
  have hpc := part_cnt h P hx
  have ho := part_ord h P hx
  have hX : ((AA l m e q (p ^ k) s).filter fun z => con l m (po m e x a) (po m e z a)).length = (cls l m (po m e x a)).length * cnt (cent l m (po m e x a)) m e s := by
    rw [← hpc]
    refine fib_len (fun z => po m e z a) _ _ _ (h.nd.filter _) (fun z hz => ?_) (fun c hc => ?_)
    · obtain ⟨hz1, hz2⟩ := List.mem_filter.1 hz
      exact List.mem_filter.2 ⟨hyl z hz1, hz2⟩
    · obtain ⟨hc1, hc2⟩ := List.mem_filter.1 hc
      rw [List.filter_filter, filter_eq (q := fun z => decide (po m e z a = c))]
      · obtain ⟨g, hg, hgc⟩ := con_iff.1 hc2
        obtain ⟨gi, hi, h2, h3⟩ := h.inv g hg
        have hb := con_back h hg hi h3 h2 hy hc1 hgc
        have step : ∀ g gi u v, g ∈ l → gi ∈ l → m gi g = e → u ∈ l → v ∈ l → m g u = m v g → ∀ z, z ∈ (AA l m e q (p ^ k) s).filter (fun z => decide (po m e z a = u)) → m (m g z) gi ∈ (AA l m e q (p ^ k) s).filter (fun z => decide (po m e z a = v)) := fun g gi u v hg hi h3 hu hv huv z hz => by
          obtain ⟨hz1, hz2⟩ := List.mem_filter.1 hz
          rw [decide_eq_true_eq] at hz2
          obtain ⟨hzl, h4, h5⟩ := hA z hz1
          have hm := h.cl _ _ (h.cl _ _ hg hzl) hi
          have hcz := con_mk h hg hi h3 hzl
          refine List.mem_filter.2 ⟨AA_iff.2 ⟨hm, (con_e h hg hzl hm hcz _).1 h4, fun h6 => h5 ((con_e h hg hzl hm hcz _).2 h6)⟩, ?_⟩
          rw [decide_eq_true_eq]
          have h7 := po_conj h hg hzl hm hcz a
          rw [hz2, huv] at h7
          exact (h.canR hg hv (po_mem h hm a) h7).symm
        refine (bij_len (fun z => m (m g z) gi) ((h.nd.filter _).filter _) ((h.nd.filter _).filter _) (step g gi _ c hg hi h3 hy hc1 hgc) (fun z w hz hw hzw => ?_) (fun z hz => ?_)).symm
        · obtain ⟨hz1, _⟩ := List.mem_filter.1 hz
          obtain ⟨hw1, _⟩ := List.mem_filter.1 hw
          have e1 := h.canR hi (h.cl _ _ hg (hA z hz1).1) (h.cl _ _ hg (hA w hw1).1) hzw
          exact h.can hg (hA z hz1).1 (hA w hw1).1 e1
        · refine ⟨m (m gi z) g, step gi g c _ hi hg h2 hc1 hy hb z hz, ?_⟩
          have hzl := (hA z (List.mem_filter.1 hz).1).1
          show m (m g (m (m gi z) g)) gi = z
          rw [← h.ass _ _ _ hg (h.cl _ _ hi hzl) hg, ← h.ass _ _ _ hg hi hzl, h2, h.left z hzl, h.ass _ _ _ hzl hg hi, h2, h.right z hzl]
      · intro z _
        by_cases e1 : po m e z a = c
        · simp [e1, hc2]
        · simp [e1]
  rw [hX]
  have hcls := cls_len h hy
  have hH : Cen (cent l m (po m e x a)) m e (po m e x a) q := ⟨cent_fg h hy, cent_iff.2 ⟨hy, rfl⟩, fun c hc => (cent_iff.1 hc).2, P.q0, ho⟩
  have hql := quo_len hH
  have hqc := quo_cnt hH P.cqs.symm
  have hqf := quo_fg hH
  rw [hqc]
  generalize quo (cent l m (po m e x a)) m e (po m e x a) q = L at *
  generalize mq (cent l m (po m e x a)) m e (po m e x a) q = mm at *
  generalize rep (cent l m (po m e x a)) m e (po m e x a) q e = ee at *
  have hlt : L.length < l.length := by
    have h1 := hqf.pos
    have h2 := P.q2
    have h3 : L.length * 2 ≤ L.length * q := Nat.mul_le_mul_left _ h2
    have h4 : (cent l m (po m e x a)).length ≤ l.length := List.length_filter_le _ _
    omega
  have hd := IH L mm ee hqf hlt (Nat.gcd s L.length) (Nat.gcd_dvd_right _ _)
  rw [← cnt_gcd hqf] at hd
  rw [hcls, hql, ← Nat.mul_assoc] at hsN
  have h5 : s ∣ (cls l m (po m e x a)).length * L.length := Nat.Coprime.dvd_of_dvd_mul_right P.cqs.symm hsN
  have h6 : s ∣ (cls l m (po m e x a)).length * Nat.gcd s L.length := by
    rw [← Nat.gcd_mul_left]
    exact Nat.dvd_gcd ⟨_, Nat.mul_comm _ _⟩ h5
  exact Nat.dvd_trans h6 (Nat.mul_dvd_mul_left _ hd)

/-- FROBENIUS. -/
theorem frob : ∀ (N : Nat) (l : List Nat) (m : Nat → Nat → Nat) (e : Nat), Fg l m e → l.length = N → ∀ n, n ∣ N → n ∣ cnt l m e n := by
  intro N
  induction N using Nat.strongRecOn with
  | _ N ih =>
    intro l m e h hN
    have IH : ∀ (l' : List Nat) (m' : Nat → Nat → Nat) (e' : Nat), Fg l' m' e' → l'.length < l.length → ∀ n, n ∣ l'.length → n ∣ cnt l' m' e' n := fun l' m' e' h' hlt n hn => ih l'.length (by omega) l' m' e' h' rfl n hn
    have hpos := h.pos
    have down : ∀ r n, n ∣ N → N - n ≤ r → n ∣ cnt l m e n := by
      intro r
      induction r with
      | zero =>
        intro n hn hr
        have : n = N := by have := Nat.le_of_dvd (by omega) hn; omega
        subst this
        have : cnt l m e n = n := by
          unfold cnt
          rw [List.filter_eq_self.2 (fun x hx => by rw [decide_eq_true_eq, ← hN]; exact po_len h hx), hN]
        rw [this]; exact Nat.dvd_refl n
      | succ r ihr =>
        intro n hn hr
        obtain ⟨c, hc⟩ := id hn
        have hn0 : 0 < n := by
          rcases Nat.eq_zero_or_pos n with h0 | h0
          · subst h0; simp at hc; omega
          · exact h0
        rcases Nat.lt_or_ge c 2 with h2 | h2
        · have : c = 1 := by
            rcases Nat.eq_zero_or_pos c with h0 | h0
            · subst h0; simp at hc; omega
            · omega
          subst this
          exact ihr n hn (by omega)
        · obtain ⟨p, hp, hpc⟩ := pr_exists h2
          obtain ⟨k, s, hks, hs⟩ := pr_split hp n hn0
          have hs0 : 0 < s := by
            rcases Nat.eq_zero_or_pos s with h0 | h0
            · subst h0; simp at hs
            · exact h0
          obtain ⟨q, a, b, P⟩ := Parts.mk' (k := k) hp hs hs0
          have hnp : q * s = n * p := by rw [P.qp, hks]; grind
          have hd : n * p ∣ N := by rw [hc]; exact Nat.mul_dvd_mul_left n hpc
          have hgt : n < n * p := by
            have := hp.1
            calc n = n * 1 := by omega
              _ < n * p := Nat.mul_lt_mul_of_pos_left (by omega) hn0
          have hle := Nat.le_of_dvd (by omega) hd
          have h3 := ihr (n * p) hd (by omega)
          have h4 : n ∣ cnt l m e (n * p) := Nat.dvd_trans ⟨p, rfl⟩ h3
          have h5 : cnt l m e (n * p) = cnt l m e n + (AA l m e q (p ^ k) s).length := by
            unfold cnt AA
            rw [split_len (fun x => decide (po m e x n = e)) (l.filter fun x => decide (po m e x (n * p) = e)), List.filter_filter, List.filter_filter]
            congr 2
            · apply filter_eq
              intro x hx
              by_cases e1 : po m e x n = e
              · simp [e1, po_z h hx e1 p]
              · simp [e1]
            · apply filter_eq
              intro x _
              rw [hnp, ← hks, Bool.and_comm]
          have h6 : n ∣ (AA l m e q (p ^ k) s).length := by
            rw [hks]
            exact Nat.Coprime.mul_dvd_of_dvd_of_dvd (Nat.Coprime.pow_left k (pr_cop hp hs)) (half_one h P) (half_two h P (by rw [hN]; exact Nat.dvd_trans ⟨p ^ k, by rw [hks, Nat.mul_comm]⟩ hn) IH)
          rw [h5] at h4
          exact (Nat.dvd_add_iff_left h6).2 h4
    intro n hn
    exact down N n hn (by omega)
end Go.Proofs.YtjiapicknkjhmaaGreatDoor.Fin

namespace Go.Proofs.YtjiapicknkjhmaaGreatDoor

theorem po_pw (n : Nat) (zs : List Int) (e a : Nat) : ∀ k, Fin.po (tm n zs) e a k = pw n zs e a k
  | 0 => rfl
  | k + 1 => by
    show tm n zs (Fin.po (tm n zs) e a k) a = tm n zs (pw n zs e a k) a
    rw [po_pw n zs e a k]
theorem ord_iff {n e : Nat} {zs : List Int} (g : IsGrp n zs e) {a : Nat} (ha : a < n) (i : Nat) : Fin.po (tm n zs) e a i = e ↔ ordN n zs e a ∣ i := by
  rw [po_pw]
  refine ⟨fun h => ord_dvd g ha h, ?_⟩
  rintro ⟨q, rfl⟩
  exact pw_ord_mul g ha q
/-- What one thing makes: its powers. -/
theorem mk1_len {n e : Nat} {zs : List Int} (g : IsGrp n zs e) {a : Nat} (ha : a < n) : (lst n (mk1 n zs e a)).length = ordN n zs e a := by
  have hF := Fin.cyc_fg (grp_fg g) (List.mem_range.2 ha) (ord_pos (n := n) (zs := zs) (e := e) a) (ord_iff g ha)
  have hnd1 : (lst n (mk1 n zs e a)).Nodup := List.nodup_range.sublist List.filter_sublist
  have hmem : ∀ x, x ∈ lst n (mk1 n zs e a) ↔ x ∈ (List.range (ordN n zs e a)).map (Fin.po (tm n zs) e a) := fun x => by
    rw [mem_lst]
    constructor
    · rintro ⟨hx, h1⟩
      exact Fin.Gen.least (P := fun x => x ∈ (List.range (ordN n zs e a)).map (Fin.po (tm n zs) e a)) ⟨hF.1.one, fun y z _ _ hy hz => hF.1.cl y z hy hz⟩ (fun y _ hy => by
        have hy : y = a := of_decide_eq_true hy
        rw [hy]
        by_cases h1 : ordN n zs e a = 1
        · have h2 := (ord_iff g ha 1).2 (by rw [h1]; exact Nat.dvd_refl 1)
          have h3 : Fin.po (tm n zs) e a 1 = a := g.left a ha
          rw [h3] at h2
          exact List.mem_map.2 ⟨0, List.mem_range.2 (by omega), h2.symm⟩
        · have h2 := ord_pos (n := n) (zs := zs) (e := e) a
          exact List.mem_map.2 ⟨1, List.mem_range.2 (by omega), g.left a ha⟩) ((mk1_iff n zs e a x hx).1 h1)
    · intro hx
      have hxl := List.mem_range.1 (hF.2 x hx)
      refine ⟨hxl, (mk1_iff n zs e a x hxl).2 ?_⟩
      obtain ⟨i, _, rfl⟩ := List.mem_map.1 hx
      exact Fin.Sg.pow (grp_fg g) (Fin.Gen.sg _) (List.mem_range.2 ha) (Fin.Gen.base (List.mem_range.2 ha) (by simp)) i
  have h1 := nodup_len _ _ hnd1 (fun z hz => (hmem z).1 hz)
  have h2 := nodup_len _ _ hF.1.nd (fun z hz => (hmem z).2 hz)
  rw [List.length_map, List.length_range] at h1 h2
  omega
theorem prime_of {p : Nat} (hpr : primeB p = true) : 2 ≤ p ∧ ∀ d, d ∣ p → d = 1 ∨ d = p := by
  have h := of_decide_eq_true hpr
  have h2 : 2 ≤ p := by omega
  refine ⟨h2, fun d hd => ?_⟩
  have h3 := Nat.le_of_dvd (by omega) hd
  have h4 : d ≠ 0 := fun e => by subst e; have := Nat.eq_zero_of_zero_dvd hd; omega
  by_cases h5 : d = 1
  · exact .inl h5
  · by_cases h6 : d = p
    · exact .inr h6
    · exact absurd (Nat.mod_eq_zero_of_dvd hd) (by have := h.2.2 d (by simp; omega) (by omega); simpa using this)
end Go.Proofs.YtjiapicknkjhmaaGreatDoor

namespace Go.Proofs.YtjiapicknkjhmaaGreatDoor

theorem nrmq_iff {n e : Nat} {zs : List Int} {q : Nat → Bool} : nrmq n zs e q = true ↔ ∀ a, a < n → bs (cjq n zs e q a) n = bs q n := by
  unfold nrmq
  rw [decide_eq_true_eq]
  constructor
  · intro h a ha
    have := bs_inj h a ha
    unfold norq at this
    exact of_decide_eq_true this
  · intro h
    exact bs_ext fun a ha => by unfold norq; exact decide_eq_true (h a ha)
theorem cjq_twice {n e : Nat} {zs : List Int} {q : Nat → Bool} (g : IsGrp n zs e) {a b : Nat} (ha : a < n) (hb : b < n) : bs (cjq n zs e (cjq n zs e q a) b) n = bs (cjq n zs e q (tm n zs a b)) n := by
  have F := grp_fg g
  have V := grp_iv g
  have ha' := List.mem_range.2 ha
  have hb' := List.mem_range.2 hb
  refine bs_ext fun y _ => ?_
  rw [Bool.eq_iff_iff, cjq_iff, cjq_iff]
  constructor
  · rintro ⟨x, hx, h1, rfl⟩
    obtain ⟨z, hz, h2, rfl⟩ := cjq_iff.1 h1
    exact ⟨z, hz, h2, (Fin.cj_cj F V hz ha' hb').symm⟩
  · rintro ⟨z, hz, h2, rfl⟩
    exact ⟨Fin.cj (tm n zs) (iv n zs e) z a, Fin.cj_mem F V hz ha', cjq_iff.2 ⟨z, hz, h2, rfl⟩, Fin.cj_cj F V hz ha' hb'⟩
theorem one_conj {n e : Nat} {zs : List Int} {s : Nat → Bool} (g : IsGrp n zs e) {c : Nat} (hc : c < n) : nrmq n zs e (cjq n zs e s c) = true ↔ ∀ a, a < n → bs (cjq n zs e s a) n = bs (cjq n zs e s c) n := by
  have F := grp_fg g
  have V := grp_iv g
  rw [nrmq_iff]
  constructor
  · intro h a ha
    have hc' := List.mem_range.2 hc
    have ha' := List.mem_range.2 ha
    have hi := (V c hc').1
    have hb : tm n zs (iv n zs e c) a < n := List.mem_range.1 (F.cl _ _ hi ha')
    have h1 := h _ hb
    rw [cjq_twice g hc hb, ← F.ass _ _ _ hc' hi ha', (V c hc').2.1, F.left a ha'] at h1
    exact h1
  · intro h b hb
    rw [cjq_twice g hc hb]
    exact h _ (tm_lt g.tab hc hb)
theorem alone_iff {f : Nat → Nat} {n c : Nat} {A : List Nat} (hA : ∀ a, a ∈ A → a < n) (hnd : (A.map f).Nodup) (hall : ∀ a, a < n → f a ∈ A.map f) (hc : c ∈ A) : (∀ a, a < n → f a = f c) ↔ A.length = 1 := by
  constructor
  · intro h
    match A, hA, hnd, hc with
    | [a], _, _, _ => rfl
    | a :: b :: A, hA, hnd, _ =>
      rw [List.map_cons, List.map_cons, List.nodup_cons] at hnd
      exact absurd (by rw [h a (hA a (by simp)), ← h b (hA b (by simp))]; simp) hnd.1
  · intro h a ha
    match A, h, hc with
    | [d], _, hc =>
      have h1 := hall a ha
      rw [List.map_cons, List.map_nil, List.mem_singleton] at h1
      rw [List.mem_singleton.1 hc, h1]
theorem cin_iff {n e : Nat} {zs : List Int} {s : Nat → Bool} {A : List Nat} (hA : ∀ a, a ∈ A → a < n) (hall : ∀ a, a < n → bs (cjq n zs e s a) n ∈ A.map fun a => bs (cjq n zs e s a) n) {x : Nat} (hx : x < n) : cin n zs e s A x = true ↔ ∀ a, a < n → cjq n zs e s a x = true := by
  unfold cin
  rw [List.all_eq_true]
  constructor
  · intro h a ha
    obtain ⟨b, hb, h1⟩ := List.mem_map.1 (hall a ha)
    rw [← bs_inj h1 x hx]
    exact h b hb
  · intro h a ha
    exact h a (hA a ha)
theorem cin_nrm {n e : Nat} {zs : List Int} {s : Nat → Bool} {A : List Nat} (g : IsGrp n zs e) (hA : ∀ a, a ∈ A → a < n) (hall : ∀ a, a < n → bs (cjq n zs e s a) n ∈ A.map fun a => bs (cjq n zs e s a) n) : nrmq n zs e (cin n zs e s A) = true := by
  have F := grp_fg g
  have V := grp_iv g
  rw [nrmq_iff]
  intro b hb
  have hb' := List.mem_range.2 hb
  have hi := (V b hb').1
  have hil := List.mem_range.1 hi
  refine bs_ext fun y hy => ?_
  rw [Bool.eq_iff_iff, cin_iff hA hall hy]
  constructor
  · intro h a ha
    obtain ⟨x, hx, h1, rfl⟩ := cjq_iff.1 h
    have ha' := List.mem_range.2 ha
    have hai : tm n zs a (iv n zs e b) < n := tm_lt g.tab ha hil
    have h2 := (cin_iff hA hall (List.mem_range.1 hx)).1 h1 _ hai
    have h3 := bs_inj (cjq_twice (q := s) g hai hb) _ hy
    rw [F.ass _ _ _ ha' hi hb', (V b hb').2.2, F.right a ha'] at h3
    rw [← h3]
    exact cjq_iff.2 ⟨x, hx, h2, rfl⟩
  · intro h
    have hy' := List.mem_range.2 hy
    have hm := Fin.cj_mem F V hy' hi
    refine cjq_iff.2 ⟨_, hm, (cin_iff hA hall (List.mem_range.1 hm)).2 fun a ha => ?_, (Fin.cj_back F V hy' hb').2⟩
    have ha' := List.mem_range.2 ha
    have hab : tm n zs a b < n := tm_lt g.tab ha hb
    have h3 := bs_inj (cjq_twice (q := s) g hab hil) _ (List.mem_range.1 hm)
    rw [F.ass _ _ _ ha' hb' hi, (V b hb').2.1, F.right a ha'] at h3
    rw [← h3]
    exact cjq_iff.2 ⟨y, hy', h _ hab, rfl⟩
theorem cin_sub {n e : Nat} {zs : List Int} {s : Nat → Bool} {A : List Nat} (g : IsGrp n zs e) (hs : subT n zs e s = true) (hA : ∀ a, a ∈ A → a < n) (hall : ∀ a, a < n → bs (cjq n zs e s a) n ∈ A.map fun a => bs (cjq n zs e s a) n) : subT n zs e (cin n zs e s A) = true := by
  have F := grp_fg g
  have V := grp_iv g
  have S := subT_iff.1 hs
  refine subT_iff.2 ⟨(cin_iff hA hall g.elt).2 fun a ha => cjq_iff.2 ⟨e, F.one, S.one, Fin.cj_one F V (List.mem_range.2 ha)⟩, fun x y hx hy h1 h2 => ?_⟩
  have h1 := (cin_iff hA hall (List.mem_range.1 hx)).1 h1
  have h2 := (cin_iff hA hall (List.mem_range.1 hy)).1 h2
  refine (cin_iff hA hall (tm_lt g.tab (List.mem_range.1 hx) (List.mem_range.1 hy))).2 fun a ha => ?_
  obtain ⟨u, hu, k1, rfl⟩ := cjq_iff.1 (h1 a ha)
  obtain ⟨v, hv, k2, rfl⟩ := cjq_iff.1 (h2 a ha)
  exact cjq_iff.2 ⟨tm n zs u v, F.cl _ _ hu hv, S.mul u v hu hv k1 k2, Fin.cj_mul F V hu hv (List.mem_range.2 ha)⟩
theorem dvd_pw {p : Nat} (hp : 2 ≤ p ∧ ∀ d, d ∣ p → d = 1 ∨ d = p) : ∀ (k d : Nat), d ∣ p ^ k → isPw d p
  | 0, d, h => ⟨0, Nat.dvd_one.1 h⟩
  | k + 1, d, h => by
    by_cases hd : p ∣ d
    · obtain ⟨c, rfl⟩ := hd
      rw [Nat.pow_succ, Nat.mul_comm (p ^ k)] at h
      obtain ⟨j, hj⟩ := dvd_pw hp k c (Nat.dvd_of_mul_dvd_mul_left (by omega) h)
      exact ⟨j + 1, by rw [hj, Nat.pow_succ, Nat.mul_comm]⟩
    · have hco : Nat.Coprime d p := by
        rcases hp.2 _ (Nat.gcd_dvd_right d p) with h1 | h1
        · exact h1
        · exact absurd (h1 ▸ Nat.gcd_dvd_left d p) hd
      rw [Nat.pow_succ] at h
      exact dvd_pw hp k d (hco.dvd_of_dvd_mul_right h)
theorem cin_pw {n e p : Nat} {zs : List Int} {s : Nat → Bool} {A : List Nat} (g : IsGrp n zs e) (hpr : primeB p = true) (hgr : Grown n zs e p s) (hA : ∀ a, a ∈ A → a < n) (hall : ∀ a, a < n → bs (cjq n zs e s a) n ∈ A.map fun a => bs (cjq n zs e s a) n) : isPw (lst n (cin n zs e s A)).length p := by
  have F := grp_fg g
  have V := grp_iv g
  have F1 : Fin.Fg (lst n s) (tm n zs) e := Fin.sg_fg F (subT_iff.1 hgr.sub)
  have F2 : Fin.Fg (lst n (cin n zs e s A)) (tm n zs) e := Fin.sg_fg F (subT_iff.1 (cin_sub g hgr.sub hA hall))
  have h := Fin.lagr F1 F2 (fun x hx => by
    obtain ⟨hxn, h1⟩ := mem_lst.1 hx
    obtain ⟨u, hu, k1, k2⟩ := cjq_iff.1 ((cin_iff hA hall hxn).1 h1 e g.elt)
    rw [Fin.cj_id F V hu] at k2
    rw [← k2]
    exact mem_lst.2 ⟨List.mem_range.1 hu, k1⟩)
  obtain ⟨k, hk⟩ := hgr.pow
  rw [hk] at h
  exact dvd_pw (prime_of hpr) k _ h
end Go.Proofs.YtjiapicknkjhmaaGreatDoor

namespace Go.Proofs.YtjiapicknkjhmaaGreatDoor
namespace Fin
variable {P X : List Nat} {m t : Nat → Nat → Nat} {e : Nat}
/-- A group that moves the things of a list. -/
structure Mv (P X : List Nat) (m : Nat → Nat → Nat) (e : Nat) (t : Nat → Nat → Nat) : Prop where
  mem : ∀ c x, c ∈ X → x ∈ P → t c x ∈ X
  one : ∀ c, c ∈ X → t c e = c
  mul : ∀ c x y, c ∈ X → x ∈ P → y ∈ P → t (t c x) y = t c (m x y)
def fixB (P : List Nat) (t : Nat → Nat → Nat) (c : Nat) : Bool := P.all fun x => decide (t c x = c)
def orbB (P : List Nat) (t : Nat → Nat → Nat) (c d : Nat) : Bool := P.any fun x => decide (t c x = d)
theorem orbB_iff {c d : Nat} : orbB P t c d = true ↔ ∃ x, x ∈ P ∧ t c x = d := by unfold orbB; simp
theorem fixB_iff {c : Nat} : fixB P t c = true ↔ ∀ x, x ∈ P → t c x = c := by unfold fixB; simp
theorem orb_back (F : Fg P m e) (M : Mv P X m e t) {c x : Nat} (hc : c ∈ X) (hx : x ∈ P) : ∃ y, y ∈ P ∧ t (t c x) y = c := by
  obtain ⟨y, hy, h1, _⟩ := F.inv x hx
  exact ⟨y, hy, by rw [M.mul c x y hc hx hy, h1, M.one c hc]⟩
theorem orb_same (F : Fg P m e) (M : Mv P X m e t) {c d z : Nat} (hc : c ∈ X) (hd : d ∈ X) (h : orbB P t c d = true) : orbB P t c z = orbB P t d z := by
  obtain ⟨x, hx, rfl⟩ := orbB_iff.1 h
  rw [Bool.eq_iff_iff, orbB_iff, orbB_iff]
  obtain ⟨y, hy, hb⟩ := orb_back F M hc hx
  constructor
  · rintro ⟨u, hu, rfl⟩
    exact ⟨m y u, F.cl _ _ hy hu, by rw [← M.mul _ _ _ hd hy hu, hb]⟩
  · rintro ⟨u, hu, rfl⟩
    exact ⟨m x u, F.cl _ _ hx hu, (M.mul _ _ _ hc hx hu).symm⟩
theorem orb_len (F : Fg P m e) (M : Mv P X m e t) (hX : X.Nodup) {c : Nat} (hc : c ∈ X) : P.length = (X.filter (orbB P t c)).length * (P.filter fun x => decide (t c x = c)).length := by
  refine fib_len (fun x => t c x) _ _ _ (hX.filter _) (fun x hx => List.mem_filter.2 ⟨M.mem c x hc hx, orbB_iff.2 ⟨x, hx, rfl⟩⟩) (fun k hk => ?_)
  obtain ⟨hk1, hk2⟩ := List.mem_filter.1 hk
  obtain ⟨x, hx, rfl⟩ := orbB_iff.1 hk2
  symm
  refine bij_len (fun y => m y x) (F.nd.filter _) (F.nd.filter _) (fun y hy => ?_) (fun y z hy hz h => F.canR hx (List.mem_filter.1 hy).1 (List.mem_filter.1 hz).1 h) (fun z hz => ?_)
  · obtain ⟨h1, h2⟩ := List.mem_filter.1 hy
    refine List.mem_filter.2 ⟨F.cl _ _ h1 hx, decide_eq_true ?_⟩
    rw [← M.mul c y x hc h1 hx, of_decide_eq_true h2]
  · obtain ⟨h1, h2⟩ := List.mem_filter.1 hz
    obtain ⟨y, hy, i1, i2⟩ := F.inv x hx
    refine ⟨m z y, List.mem_filter.2 ⟨F.cl _ _ h1 hy, decide_eq_true ?_⟩, ?_⟩
    · rw [← M.mul c z y hc h1 hy, of_decide_eq_true h2, M.mul c x y hc hx hy, i1, M.one c hc]
    · show m (m z y) x = z
      rw [F.ass _ _ _ h1 hy hx, i2, F.right z h1]
theorem fix_dvd {p : Nat} (hp : 2 ≤ p ∧ ∀ d, d ∣ p → d = 1 ∨ d = p) (F : Fg P m e) (M : Mv P X m e t) (hX : X.Nodup) (hP : isPw P.length p) : p ∣ (X.filter fun c => !fixB P t c).length := by
  obtain ⟨k, hk⟩ := hP
  refine part_dvd p (orbB P t) _ _ (Nat.le_refl _) (fun c hc => ?_) (fun c d z hc hd hz h => ?_) (fun c hc => ?_)
  · exact orbB_iff.2 ⟨e, F.one, M.one c (List.mem_filter.1 hc).1⟩
  · exact orb_same F M (List.mem_filter.1 hc).1 (List.mem_filter.1 hd).1 h
  · obtain ⟨h1, h2⟩ := List.mem_filter.1 hc
    have hsame : (X.filter fun c => !fixB P t c).filter (orbB P t c) = X.filter (orbB P t c) := by
      rw [List.filter_filter]
      refine filter_eq fun z hz => ?_
      cases ho : orbB P t c z with
      | false => simp
      | true =>
        have hno : fixB P t z = false := by
          rw [Bool.eq_false_iff]
          intro hf
          obtain ⟨x, hx, hxz⟩ := orbB_iff.1 ho
          obtain ⟨y, hy, hb⟩ := orb_back F M h1 hx
          rw [hxz, fixB_iff.1 hf y hy] at hb
          rw [hb] at hf
          simp [hf] at h2
        simp [hno]
    rw [hsame]
    have hl := orb_len F M hX h1
    have hd : (X.filter (orbB P t c)).length ∣ p ^ k := hk ▸ ⟨_, hl⟩
    obtain ⟨j, hj⟩ := dvd_pw hp k _ hd
    cases j with
    | zero =>
      exfalso
      have hfx : fixB P t c = true := fixB_iff.2 fun x hx => by
        have m1 : c ∈ X.filter (orbB P t c) := List.mem_filter.2 ⟨h1, orbB_iff.2 ⟨e, F.one, M.one c h1⟩⟩
        have m2 : t c x ∈ X.filter (orbB P t c) := List.mem_filter.2 ⟨M.mem c x h1 hx, orbB_iff.2 ⟨x, hx, rfl⟩⟩
        obtain ⟨d, hd1⟩ := List.length_eq_one_iff.1 hj
        rw [hd1, List.mem_singleton] at m1 m2
        exact m2.trans m1.symm
      simp [hfx] at h2
    | succ j => rw [hj, Nat.pow_succ]; exact ⟨p ^ j, Nat.mul_comm _ _⟩
theorem fix_mod {p : Nat} (hp : 2 ≤ p ∧ ∀ d, d ∣ p → d = 1 ∨ d = p) (F : Fg P m e) (M : Mv P X m e t) (hX : X.Nodup) (hP : isPw P.length p) : X.length % p = (X.filter (fixB P t)).length % p := by
  obtain ⟨c, hc⟩ := fix_dvd hp F M hX hP
  rw [split_len (fixB P t) X, hc, Nat.add_mul_mod_self_left]
end Fin
end Go.Proofs.YtjiapicknkjhmaaGreatDoor

namespace Go.Proofs.YtjiapicknkjhmaaGreatDoor
variable {n e p : Nat} {zs : List Int} {s q : Nat → Bool}

/-- The number of a conjugate, and how a thing moves it. -/
abbrev fc (n : Nat) (zs : List Int) (e : Nat) (s : Nat → Bool) (a : Nat) : Nat := bs (cjq n zs e s a) n
def tq (n : Nat) (zs : List Int) (e : Nat) (c x : Nat) : Nat := bs (cjq n zs e (fun y => c.testBit y) x) n
theorem tq_bs {x : Nat} : tq n zs e (bs q n) x = bs (cjq n zs e q x) n := by
  have h : lst n (fun y => (bs q n).testBit y) = lst n q := lst_congr fun y hy => by rw [bs_bit]; simp [hy]
  unfold tq cjq
  rw [h]
theorem tq_fc (g : IsGrp n zs e) {a x : Nat} (ha : a < n) (hx : x < n) : tq n zs e (fc n zs e s a) x = fc n zs e s (tm n zs a x) := by
  rw [tq_bs]
  exact cjq_twice g ha hx
theorem cjq_e (g : IsGrp n zs e) : bs (cjq n zs e s e) n = bs s n := by
  have F := grp_fg g
  have V := grp_iv g
  refine bs_ext fun y hy => ?_
  rw [Bool.eq_iff_iff, cjq_iff]
  constructor
  · rintro ⟨x, hx, h1, rfl⟩
    rwa [Fin.cj_id F V hx]
  · intro h
    exact ⟨y, List.mem_range.2 hy, h, Fin.cj_id F V (List.mem_range.2 hy)⟩
theorem cj_sg (g : IsGrp n zs e) (hq : subT n zs e q = true) {b : Nat} (hb : b < n) : subT n zs e (cjq n zs e q b) = true := by
  have F := grp_fg g
  have V := grp_iv g
  have S := subT_iff.1 hq
  have hb' := List.mem_range.2 hb
  refine subT_iff.2 ⟨cjq_iff.2 ⟨e, F.one, S.one, Fin.cj_one F V hb'⟩, fun x y hx hy h1 h2 => ?_⟩
  obtain ⟨u, hu, k1, rfl⟩ := cjq_iff.1 h1
  obtain ⟨v, hv, k2, rfl⟩ := cjq_iff.1 h2
  exact cjq_iff.2 ⟨tm n zs u v, F.cl _ _ hu hv, S.mul u v hu hv k1 k2, Fin.cj_mul F V hu hv hb'⟩
theorem lst_nd (n : Nat) (q : Nat → Bool) : (lst n q).Nodup := List.nodup_range.sublist List.filter_sublist
theorem cj_len (g : IsGrp n zs e) {b : Nat} (hb : b < n) : (lst n (cjq n zs e q b)).length = (lst n q).length := by
  have F := grp_fg g
  have V := grp_iv g
  have hb' := List.mem_range.2 hb
  symm
  refine Fin.bij_len (fun x => Fin.cj (tm n zs) (iv n zs e) x b) (lst_nd n q) (lst_nd n _) (fun x hx => ?_) (fun x y hx hy h => ?_) (fun y hy => ?_)
  · obtain ⟨h1, h2⟩ := mem_lst.1 hx
    exact mem_lst.2 ⟨List.mem_range.1 (Fin.cj_mem F V (List.mem_range.2 h1) hb'), cjq_iff.2 ⟨x, List.mem_range.2 h1, h2, rfl⟩⟩
  · have h1 := (Fin.cj_back F V (List.mem_range.2 (mem_lst.1 hx).1) hb').1
    have h2 := (Fin.cj_back F V (List.mem_range.2 (mem_lst.1 hy).1) hb').1
    have h : Fin.cj (tm n zs) (iv n zs e) x b = Fin.cj (tm n zs) (iv n zs e) y b := h
    rw [← h1, h, h2]
  · obtain ⟨h1, h2⟩ := mem_lst.1 hy
    obtain ⟨x, hx, k, rfl⟩ := cjq_iff.1 h2
    exact ⟨x, mem_lst.2 ⟨List.mem_range.1 hx, k⟩, rfl⟩
/-- A subgroup of a power of p things that keeps a greatest one is in it. -/
theorem norm_in (g : IsGrp n zs e) (hpr : primeB p = true) (hG : Grown n zs e p s) (hq : subT n zs e q = true) (hpw : isPw (lst n q).length p)
    (hno : ∀ x, x < n → q x = true → bs (cjq n zs e s x) n = bs s n) {x : Nat} (hx : x < n) (hqx : q x = true) : s x = true := by
  have F := grp_fg g
  have V := grp_iv g
  have S := subT_iff.1 hG.sub
  have Q := subT_iff.1 hq
  obtain ⟨r, hr⟩ := Fin.test_of (fun x => ∃ a b, a ∈ List.range n ∧ b ∈ List.range n ∧ q a = true ∧ s b = true ∧ tm n zs a b = x)
  have hnc : ∀ a b, a ∈ List.range n → b ∈ List.range n → q a = true → s b = true → s (Fin.cj (tm n zs) (iv n zs e) b a) = true := fun a b ha hb h1 h2 => by
    have hm := Fin.cj_mem F V hb ha
    rw [← bs_inj (hno a (List.mem_range.1 ha) h1) _ (List.mem_range.1 hm)]
    exact cjq_iff.2 ⟨b, hb, h2, rfl⟩
  have R : Fin.Sg (List.range n) (tm n zs) e (fun a => r a = true) := by
    refine ⟨(hr e).2 ⟨e, e, F.one, F.one, Q.one, S.one, F.left e F.one⟩, fun y z hy hz h1 h2 => ?_⟩
    obtain ⟨a, b, ha, hb, k1, k2, rfl⟩ := (hr y).1 h1
    obtain ⟨c, d, hc, hd, k3, k4, rfl⟩ := (hr z).1 h2
    have hcm := Fin.cj_mem F V hb hc
    refine (hr _).2 ⟨tm n zs a c, tm n zs (Fin.cj (tm n zs) (iv n zs e) b c) d, F.cl _ _ ha hc, F.cl _ _ hcm hd, Q.mul a c ha hc k1 k3, S.mul _ _ hcm hd (hnc c b hc hb k3 k2) k4, ?_⟩
    rw [F.ass _ _ _ ha hc (F.cl _ _ hcm hd), ← F.ass _ _ _ hc hcm hd, Fin.cj_eq F V hb hc, F.ass _ _ _ hb hc hd, ← F.ass _ _ _ ha hb (F.cl _ _ hc hd)]
  have hlen := Fin.prod_formula F (N := n) (fun x hx => List.mem_range.1 hx) Q S r (fun x _ => hr x)
  obtain ⟨i, hi⟩ := hpw
  obtain ⟨j, hj⟩ := hG.pow
  have hrp : isPw (lst n r).length p := dvd_pw (prime_of hpr) (i + j) _ ⟨_, by rw [Nat.pow_add, ← hi, ← hj]; exact hlen.symm⟩
  obtain ⟨t, ht⟩ := mkd_ex' n zs e (fun y => s y || decide (y = x))
  have T := made_sg g ht
  have h1 : t x = true := (ht x hx).2 (Fin.Gen.base (List.mem_range.2 hx) (by simp))
  rcases hG.top x t hx ht with h2 | h2
  · rw [← bs_inj h2 x hx]; exact h1
  · exfalso
    apply h2
    obtain ⟨k, hk⟩ := hrp
    refine dvd_pw (prime_of hpr) k _ ?_
    rw [← hk]
    refine Fin.lagr (Fin.sg_fg F R) (Fin.sg_fg F T) (fun y hy => ?_)
    obtain ⟨hy1, hy2⟩ := List.mem_filter.1 hy
    refine List.mem_filter.2 ⟨hy1, Fin.Gen.least R (fun z hz h3 => ?_) ((ht y (List.mem_range.1 hy1)).1 hy2)⟩
    simp only [Bool.or_eq_true, decide_eq_true_eq] at h3
    rcases h3 with h3 | h3
    · exact (hr z).2 ⟨e, z, F.one, hz, Q.one, h3, F.left z hz⟩
    · subst h3
      exact (hr z).2 ⟨z, e, hz, F.one, hqx, S.one, F.right z hz⟩
theorem mv_conj (g : IsGrp n zs e) {X : List Nat} (hX : ∀ c, c ∈ X ↔ ∃ a, a < n ∧ fc n zs e s a = c) {P : List Nat} (hP : ∀ x, x ∈ P → x < n) : Fin.Mv P X (tm n zs) e (tq n zs e) where
  mem := fun c x hc hx => by
    obtain ⟨a, ha, rfl⟩ := (hX c).1 hc
    rw [tq_fc g ha (hP x hx)]
    exact (hX _).2 ⟨_, tm_lt g.tab ha (hP x hx), rfl⟩
  one := fun c hc => by
    obtain ⟨a, ha, rfl⟩ := (hX c).1 hc
    rw [tq_fc g ha g.elt, (grp_fg g).right a (List.mem_range.2 ha)]
  mul := fun c x y hc hx hy => by
    obtain ⟨a, ha, rfl⟩ := (hX c).1 hc
    rw [tq_fc g ha (hP x hx), tq_fc g (tm_lt g.tab ha (hP x hx)) (hP y hy), tq_fc g ha (tm_lt g.tab (hP x hx) (hP y hy)), (grp_fg g).ass _ _ _ (List.mem_range.2 ha) (List.mem_range.2 (hP x hx)) (List.mem_range.2 (hP y hy))]
theorem fix_in (g : IsGrp n zs e) (hpr : primeB p = true) (hG : Grown n zs e p s) (hq : subT n zs e q = true) (hpw : isPw (lst n q).length p) {a : Nat} (ha : a < n)
    (hf : Fin.fixB (lst n q) (tq n zs e) (fc n zs e s a) = true) {x : Nat} (hx : x < n) (hqx : q x = true) : cjq n zs e s a x = true := by
  have F := grp_fg g
  have V := grp_iv g
  have ha' := List.mem_range.2 ha
  have hi := (V a ha').1
  have hil := List.mem_range.1 hi
  have h0 := Fin.fixB_iff.1 hf
  have hii : a = iv n zs e (iv n zs e a) := iv_only g hil ha (V a ha').2.2
  have key : ∀ y, y < n → cjq n zs e q (iv n zs e a) y = true → bs (cjq n zs e s y) n = bs s n := fun y hy h1 => by
    obtain ⟨z, hz, k1, rfl⟩ := cjq_iff.1 h1
    have hzl := List.mem_range.1 hz
    have h2 := h0 z (mem_lst.2 ⟨hzl, k1⟩)
    rw [tq_fc g ha hzl] at h2
    have h3 : Fin.cj (tm n zs) (iv n zs e) z (iv n zs e a) = tm n zs (tm n zs a z) (iv n zs e a) := by
      show tm n zs (iv n zs e (iv n zs e a)) (tm n zs z (iv n zs e a)) = _
      rw [← hii, F.ass _ _ _ ha' hz hi]
    rw [h3, ← cjq_twice g (tm_lt g.tab ha hzl) hil, ← tq_bs]
    show tq n zs e (fc n zs e s (tm n zs a z)) _ = _
    rw [h2, tq_fc g ha hil, (V a ha').2.1]
    exact cjq_e g
  have hm := Fin.cj_mem F V (List.mem_range.2 hx) hi
  have h5 := norm_in g hpr hG (cj_sg g hq hil) (by rw [cj_len g hil]; exact hpw) key (List.mem_range.1 hm) (cjq_iff.2 ⟨x, List.mem_range.2 hx, hqx, rfl⟩)
  exact cjq_iff.2 ⟨_, hm, h5, (Fin.cj_back F V (List.mem_range.2 hx) ha').2⟩
theorem syl_mod (g : IsGrp n zs e) (hpr : primeB p = true) (hG : Grown n zs e p s) {X : List Nat} (hnd : X.Nodup) (hX : ∀ c, c ∈ X ↔ ∃ a, a < n ∧ fc n zs e s a = c) : X.length % p = 1 := by
  have F := grp_fg g
  have V := grp_iv g
  have S := subT_iff.1 hG.sub
  have M := mv_conj g hX (P := lst n s) (fun x hx => (mem_lst.1 hx).1)
  rw [Fin.fix_mod (P := lst n s) (prime_of hpr) (Fin.sg_fg F S) M hnd hG.pow]
  have h1 := nodup_len (X.filter (Fin.fixB (lst n s) (tq n zs e))) [bs s n] (hnd.filter _) (fun c hc => by
    obtain ⟨h1, h2⟩ := List.mem_filter.1 hc
    obtain ⟨a, ha, rfl⟩ := (hX c).1 h1
    have h3 : ∀ x, x < n → s x = true → cjq n zs e s a x = true := fun x hx hs => fix_in g hpr hG hG.sub hG.pow ha h2 hx hs
    have h4 := (lst_less h3).2
    rw [cj_len g ha] at h4
    rw [List.mem_singleton]
    refine bs_ext fun x hx => ?_
    rw [Bool.eq_iff_iff]
    refine ⟨fun h5 => Classical.byContradiction fun h6 => ?_, h3 x hx⟩
    exact absurd (h4 ⟨x, hx, h5, h6⟩) (by omega))
  have h2 := nodup_len [bs s n] (X.filter (Fin.fixB (lst n s) (tq n zs e))) (by simp) (fun c hc => by
    rw [List.mem_singleton] at hc
    subst hc
    refine List.mem_filter.2 ⟨(hX _).2 ⟨e, g.elt, cjq_e g⟩, Fin.fixB_iff.2 fun x hx => ?_⟩
    obtain ⟨hx1, hx2⟩ := mem_lst.1 hx
    rw [tq_bs]
    exact of_decide_eq_true ((nor_iff x).2 (Fin.nor_sub F V S (List.mem_range.2 hx1) hx2)))
  have h3 : (X.filter (Fin.fixB (lst n s) (tq n zs e))).length = 1 := by simp at h1 h2 ⊢; omega
  rw [h3]
  exact Nat.mod_eq_of_lt (prime_of hpr).1
theorem syl_in (g : IsGrp n zs e) (hpr : primeB p = true) (hG : Grown n zs e p s) {X : List Nat} (hnd : X.Nodup) (hX : ∀ c, c ∈ X ↔ ∃ a, a < n ∧ fc n zs e s a = c)
    (hq : subT n zs e q = true) (hpw : isPw (lst n q).length p) : ∃ c a, c ∈ X ∧ a < n ∧ fc n zs e s a = c ∧ ∀ x, x < n → q x = true → cjq n zs e s a x = true := by
  have M := mv_conj g hX (P := lst n q) (fun x hx => (mem_lst.1 hx).1)
  have h1 := Fin.fix_mod (P := lst n q) (prime_of hpr) (Fin.sg_fg (grp_fg g) (subT_iff.1 hq)) M hnd hpw
  rw [syl_mod g hpr hG hnd hX] at h1
  have h2 : (X.filter (Fin.fixB (lst n q) (tq n zs e))).length ≠ 0 := fun h => by rw [h, Nat.zero_mod] at h1; omega
  obtain ⟨c, hc⟩ := List.exists_mem_of_length_pos (Nat.pos_of_ne_zero h2)
  obtain ⟨h3, h4⟩ := List.mem_filter.1 hc
  obtain ⟨a, ha, rfl⟩ := (hX c).1 h3
  exact ⟨_, a, h3, ha, rfl, fun x hx h5 => fix_in g hpr hG hq hpw ha h4 hx h5⟩
theorem syl_nor (g : IsGrp n zs e) {X : List Nat} (hnd : X.Nodup) (hX : ∀ c, c ∈ X ↔ ∃ a, a < n ∧ fc n zs e s a = c) {c : Nat} (hc : c < n) : n = X.length * (lst n (norq n zs e (cjq n zs e s c))).length := by
  have F := grp_fg g
  have V := grp_iv g
  have hc' := List.mem_range.2 hc
  have hi := (V c hc').1
  have M := mv_conj g hX (P := List.range n) (fun x hx => List.mem_range.1 hx)
  have h1 := Fin.orb_len F M hnd ((hX _).2 ⟨c, hc, rfl⟩)
  rw [List.length_range] at h1
  have h2 : X.filter (Fin.orbB (List.range n) (tq n zs e) (fc n zs e s c)) = X := List.filter_eq_self.2 fun d hd => by
    obtain ⟨a, ha, rfl⟩ := (hX d).1 hd
    have ha' := List.mem_range.2 ha
    have hm := F.cl _ _ hi ha'
    refine Fin.orbB_iff.2 ⟨tm n zs (iv n zs e c) a, hm, ?_⟩
    rw [tq_fc g hc (List.mem_range.1 hm), ← F.ass _ _ _ hc' hi ha', (V c hc').2.1, F.left a ha']
  have h3 : (List.range n).filter (fun x => decide (tq n zs e (fc n zs e s c) x = fc n zs e s c)) = lst n (norq n zs e (cjq n zs e s c)) := Fin.filter_eq fun x hx => by
    unfold norq
    rw [tq_bs]
  rw [h2, h3] at h1
  exact h1
theorem nor_sgq (g : IsGrp n zs e) : Fin.Sg (List.range n) (tm n zs) e (fun a => norq n zs e s a = true) := by
  refine ⟨decide_eq_true (cjq_e g), fun a b ha hb h1 h2 => decide_eq_true ?_⟩
  have h1 := of_decide_eq_true h1
  have h2 := of_decide_eq_true h2
  rw [← cjq_twice g (List.mem_range.1 ha) (List.mem_range.1 hb), ← tq_bs, h1, tq_bs, h2]
theorem strip (hp : 2 ≤ p) : ∀ k, 0 < k → ∃ v b, k = v * p ^ b ∧ ¬ p ∣ v := by
  intro k
  induction k using Nat.strongRecOn with
  | _ k ih =>
    intro hk
    by_cases h : p ∣ k
    · obtain ⟨c, rfl⟩ := h
      have hc : 0 < c := Nat.pos_of_ne_zero fun h => by subst h; omega
      obtain ⟨v, b, h1, h2⟩ := ih c (by have := Nat.mul_le_mul_right c hp; omega) hc
      exact ⟨v, b + 1, by rw [h1, Nat.pow_succ]; simp [Nat.mul_comm, Nat.mul_left_comm], h2⟩
    · exact ⟨k, 0, by simp, h⟩
theorem pp_dvd (hp : 2 ≤ p ∧ ∀ d, d ∣ p → d = 1 ∨ d = p) {v k b : Nat} (hv : ¬ p ∣ v) (h : p ^ k ∣ v * p ^ b) : p ^ k ∣ p ^ b := by
  have hco : Nat.Coprime v p := by
    rcases hp.2 _ (Nat.gcd_dvd_right v p) with h1 | h1
    · exact h1
    · exact absurd (h1 ▸ Nat.gcd_dvd_left v p) hv
  exact (Nat.Coprime.pow_left k hco.symm).dvd_of_dvd_mul_left h
theorem pp_only (hp : 2 ≤ p ∧ ∀ d, d ∣ p → d = 1 ∨ d = p) {v u k b : Nat} (hv : ¬ p ∣ v) (hu : ¬ p ∣ u) (h : u * p ^ k = v * p ^ b) : p ^ k = p ^ b :=
  Nat.dvd_antisymm (pp_dvd hp hv ⟨u, by rw [← h, Nat.mul_comm]⟩) (pp_dvd hp hu ⟨v, by rw [h, Nat.mul_comm]⟩)
theorem not_dvd_mul (hp : 2 ≤ p ∧ ∀ d, d ∣ p → d = 1 ∨ d = p) {v u : Nat} (hv : ¬ p ∣ v) (hu : ¬ p ∣ u) : ¬ p ∣ u * v := fun h => by
  have hco : Nat.Coprime v p := by
    rcases hp.2 _ (Nat.gcd_dvd_right v p) with h1 | h1
    · exact h1
    · exact absurd (h1 ▸ Nat.gcd_dvd_left v p) hv
  exact hu (hco.symm.dvd_of_dvd_mul_right h)
theorem syl_len (g : IsGrp n zs e) (hpr : primeB p = true) (hG : Grown n zs e p s) {X : List Nat} (hnd : X.Nodup) (hX : ∀ c, c ∈ X ↔ ∃ a, a < n ∧ fc n zs e s a = c) :
    ∃ v, n = X.length * v * (lst n s).length ∧ ¬ p ∣ X.length * v := by
  have F := grp_fg g
  have V := grp_iv g
  have S := subT_iff.1 hG.sub
  have hp := prime_of hpr
  have h0 := syl_nor g hnd hX g.elt
  have hsame : lst n (norq n zs e (cjq n zs e s e)) = lst n (norq n zs e s) := by
    have h1 : lst n (cjq n zs e s e) = lst n s := lst_congr (bs_inj (cjq_e g))
    refine lst_congr fun a _ => ?_
    unfold norq
    rw [cjq_e g]
    unfold cjq at h1 ⊢
    rw [h1]
  rw [hsame] at h0
  have FM := Fin.sg_fg F (nor_sgq (s := s) g)
  obtain ⟨v, b, h1, h2⟩ := strip hp.1 _ FM.pos
  obtain ⟨k, hk⟩ := hG.pow
  have hsM : ∀ x, x ∈ lst n s → x ∈ (List.range n).filter (fun a => norq n zs e s a) := fun x hx => by
    obtain ⟨hx1, hx2⟩ := mem_lst.1 hx
    exact List.mem_filter.2 ⟨List.mem_range.2 hx1, (nor_iff x).2 (Fin.nor_sub F V S (List.mem_range.2 hx1) hx2)⟩
  have hdk : p ^ k ∣ p ^ b := pp_dvd hp h2 (by rw [← h1, ← hk]; exact Fin.lagr FM (Fin.sg_fg F S) hsM)
  have hfr := Fin.frob _ _ _ _ FM rfl (p ^ b) ⟨v, by rw [h1, Nat.mul_comm]⟩
  have hcnt : Fin.cnt ((List.range n).filter fun a => norq n zs e s a) (tm n zs) e (p ^ b) = (lst n s).length := by
    unfold Fin.cnt
    refine Nat.le_antisymm (nodup_len _ _ (FM.nd.filter _) fun x hx => ?_) (nodup_len _ _ (lst_nd n s) fun x hx => ?_)
    · obtain ⟨hx1, hx2⟩ := List.mem_filter.1 hx
      obtain ⟨hx3, hx4⟩ := List.mem_filter.1 hx1
      have hxl := List.mem_range.1 hx3
      have hxo := (ord_iff g hxl _).1 (of_decide_eq_true hx2)
      have hm1 : mk1 n zs e x x = true := (mk1_iff n zs e x x hxl).2 (Fin.Gen.base hx3 (by simp))
      refine mem_lst.2 ⟨hxl, norm_in g hpr hG (subT_iff.2 (made_sg g (mk1_iff n zs e x))) (by rw [mk1_len g hxl]; exact dvd_pw hp b _ hxo) (fun y hy hy1 => ?_) hxl hm1⟩
      have h5 := Fin.Gen.least (nor_sgq (s := s) g) (fun z hz h6 => by
        have h6 : z = x := of_decide_eq_true h6
        rw [h6]; exact hx4) ((mk1_iff n zs e x y hy).1 hy1)
      exact of_decide_eq_true h5
    · obtain ⟨hx1, hx2⟩ := mem_lst.1 hx
      refine List.mem_filter.2 ⟨hsM x hx, decide_eq_true ((ord_iff g hx1 _).2 (Nat.dvd_trans ?_ hdk))⟩
      rw [← hk]
      exact (ord_iff g hx1 _).1 (Fin.po_len (Fin.sg_fg F S) hx)
  rw [hcnt, hk] at hfr
  have hbk := Nat.dvd_antisymm hdk hfr
  refine ⟨v, ?_, ?_⟩
  · rw [hk, hbk, Nat.mul_assoc, ← h1]
    exact h0
  · refine not_dvd_mul hp h2 fun h3 => ?_
    have h4 := syl_mod g hpr hG hnd hX
    rw [Nat.mod_eq_zero_of_dvd h3] at h4
    omega
end Go.Proofs.YtjiapicknkjhmaaGreatDoor

namespace Go.Proofs.YtjiapicknkjhmaaGreatDoor
open Go Go.RowKit

theorem sub_dvd {n e : Nat} {zs : List Int} {p : Nat → Bool} (g : IsGrp n zs e) (h : subT n zs e p = true) : (lst n p).length ∣ n := by
  have S := subT_iff.1 h
  have := Fin.sg_dvd (grp_fg g) S
  rwa [List.length_range] at this
theorem mkd_sub {n e : Nat} {zs : List Int} {q r : Nat → Bool} (g : IsGrp n zs e) (hr : ∀ x, x < n → (r x = true ↔ Mkd n zs e q x)) : subT n zs e r = true :=
  subT_iff.2 ⟨(hr e g.elt).2 (Fin.Gen.sg _).one, fun a b ha hb h1 h2 => (hr _ (tm_lt g.tab (List.mem_range.1 ha) (List.mem_range.1 hb))).2 ((Fin.Gen.sg _).mul a b ha hb ((hr a (List.mem_range.1 ha)).1 h1) ((hr b (List.mem_range.1 hb)).1 h2))⟩
theorem dvd8 : ∀ L, L ≤ 8 → L ∣ 8 → L = 2 ^ 0 ∨ L = 2 ^ 1 ∨ L = 2 ^ 2 ∨ L = 2 ^ 3 := by decide
theorem whole_grown {e : Nat} {zs : List Int} {s : Nat → Bool} (g : IsGrp 8 zs e) (h : Grown 8 zs e 2 s) : ∀ a, a < 8 → s a = true := by
  intro a ha
  refine Classical.byContradiction fun h9 => ?_
  obtain ⟨q, hq⟩ := mkd_ex' 8 zs e (fun y => s y || decide (y = a))
  rcases h.top a q ha hq with h1 | h1
  · have h2 := bs_inj h1 a ha
    rw [(hq a ha).2 (Fin.Gen.base (List.mem_range.2 ha) (by simp))] at h2
    exact h9 h2.symm
  · have h2 := sub_dvd g (mkd_sub g hq)
    rcases dvd8 _ (Nat.le_of_dvd (by omega) h2) h2 with h3 | h3 | h3 | h3
    · exact h1 ⟨_, h3⟩
    · exact h1 ⟨_, h3⟩
    · exact h1 ⟨_, h3⟩
    · exact h1 ⟨_, h3⟩
theorem sq_cj : ∀ a, a < 8 → lst 8 (cjq 8 sqT 0 (fun _ => true) a) = List.range 8 := by decide +kernel
theorem cjq_all {s : Nat → Bool} (h : ∀ a, a < 8 → s a = true) (a : Nat) : cjq 8 sqT 0 s a = cjq 8 sqT 0 (fun _ => true) a := by
  unfold cjq
  rw [lst_congr (q := fun _ => true) (fun x hx => h x hx)]
end Go.Proofs.YtjiapicknkjhmaaGreatDoor

namespace Go.Proofs.YtjiapicknkjhmaaGreatDoor
open Go Go.RowKit

/-- What lies where Cauchy begins: the table, p, the fault to be answered. -/
structure BegC (w w0 : World) (N p : Int) (v : Value) : Prop where
  eq : w0 = ((w.alloc (.cells #[.int .i64 N, v] 24)).alloc (.cells #[.int .i64 p] 3)).alloc (.cells #[.int .i64 0, .int .i64 0] 27)
  bel : Below w.heap.size w w0
  box : Blk w0 w.heap.size 24 [.int .i64 N, v]
  pri : Boxed w0 (w.heap.size + 1) 3 (.int .i64 p)
  res : Blk w0 (w.heap.size + 2) 27 [.int .i64 0, .int .i64 0]
  size : w0.heap.size = w.heap.size + 3
theorem BegC.new (w : World) (N p : Int) (v : Value) : ∃ w0, BegC w w0 N p v := by
  refine ⟨_, rfl, ((balloc w _).alloc (by simp) _).alloc (by simp; omega) _, ((blk0 _ _).alloc _).alloc _, ?_, ?_, by simp⟩
  · have := (Boxed.new (w.alloc (.cells #[.int .i64 N, v] 24)) 3 (.int .i64 p)).alloc (.cells #[.int .i64 0, .int .i64 0] 27)
    simpa using this
  · have := blk0 (w := (w.alloc (.cells #[.int .i64 N, v] 24)).alloc (.cells #[.int .i64 p] 3)) (T := 27) (.int .i64 0) (.int .i64 0)
    simpa using this
end Go.Proofs.YtjiapicknkjhmaaGreatDoor

namespace Go.Proofs.YtjiapicknkjhmaaGreatDoor
open Go Go.RowKit

/-- What is wrong with a table and a prime. -/
def pfault (N : Int) (zs : List Int) (p : Int) : Int × Int := if (gfault N zs).1 = 0 ∧ primeB p = false then (3, 1) else gfault N zs
end Go.Proofs.YtjiapicknkjhmaaGreatDoor

namespace Go.Proofs.YtjiapicknkjhmaaGreatDoor
open Go Go.RowKit

end Go.Proofs.YtjiapicknkjhmaaGreatDoor

namespace Go.Proofs.YtjiapicknkjhmaaGreatDoor
open Go Go.RowKit

theorem mkA {X U : World} {x y : Value} (k : Below (X.alloc (.cells #[x, y] 27)).heap.size (X.alloc (.cells #[x, y] 27)) U) : Blk U X.heap.size 27 [x, y] := blk_below (blk0 x y) k
theorem undA {W U : World} (k : Below W.drew.heap.size W.drew U) : Below W.heap.size W U := ⟨k.os, k.tape, k.output, k.size, k.block⟩
/-- What lies there behind the first call. -/
def IRel (w0 : World) (C : Int → Int → List Int → Prop) (s5 s6 : Value) (wx : World) : Prop := ∃ (b : Nat) (a : Option Addr) (cp : Nat) (c i : Int) (L : List Int), s5 = .slice a L.length cp ∧ s6 = .pointer (some ⟨b, 0, none⟩) ∧ w0.heap.size ≤ b ∧ Blk wx b 27 [.int .i64 c, .int .i64 i] ∧ Sl wx (.slice a L.length cp) L ∧ C c i L ∧ Below w0.heap.size w0 wx
theorem irel_put {w0 U : World} {C : Int → Int → List Int → Prop} {c i : Int} {L : List Int} {x y : Value} {b : Nat} {a : Option Addr} {cp : Nat} (hb : w0.heap.size ≤ b) (hB : Below w0.heap.size w0 U) (hp : Blk U b 27 [x, y]) (hs : Sl ((U.setCell ⟨b, 0, none⟩ (.int .i64 c)).setCell ⟨b, 1, none⟩ (.int .i64 i)) (.slice a L.length cp) L) (hC : C c i L) : IRel w0 C (.slice a L.length cp) (.pointer (some ⟨b, 0, none⟩)) ((U.setCell ⟨b, 0, none⟩ (.int .i64 c)).setCell ⟨b, 1, none⟩ (.int .i64 i)) :=
  ⟨b, a, cp, c, i, L, rfl, rfl, hb, (hp.set 0 _).set 1 _, hs, hC, bSet (bSet hB hb) hb⟩
theorem irel_new {w0 U : World} {C : Int → Int → List Int → Prop} {c i : Int} {L : List Int} {a : Option Addr} {cp : Nat} (hB : Below w0.heap.size w0 U) (hs : Sl U (.slice a L.length cp) L) (hC : C c i L) : IRel w0 C (.slice a L.length cp) (.pointer (some ⟨U.heap.size, 0, none⟩)) (U.alloc (.cells #[.int .i64 c, .int .i64 i] 27)) :=
  ⟨U.heap.size, a, cp, c, i, L, rfl, rfl, hB.size, blk0 _ _, hs.below (balloc _ _), hC, bcat2 hB (balloc _ _)⟩
end Go.Proofs.YtjiapicknkjhmaaGreatDoor

namespace Go.Proofs.YtjiapicknkjhmaaGreatDoor
open Go Go.RowKit

theorem pfault_good {N p : Int} {zs : List Int} (hc : (pfault N zs p).1 = 0) : (gfault N zs).1 = 0 ∧ primeB p = true := by
  unfold pfault at hc
  by_cases h : (gfault N zs).1 = 0 ∧ primeB p = false
  · rw [if_pos h] at hc
    cases hc
  · rw [if_neg h] at hc
    refine ⟨hc, ?_⟩
    cases h9 : primeB p with
    | true => rfl
    | false => exact absurd ⟨hc, h9⟩ h
end Go.Proofs.YtjiapicknkjhmaaGreatDoor

namespace Go.Proofs.YtjiapicknkjhmaaGreatDoor
open Go Go.RowKit

theorem powerIn_pw {n p v j : Nat} (hp : 2 ≤ p) (h : v * p ^ j = n) (hv : ¬ p ∣ v) (hn : isPw n p) : p ^ j = n := by
  obtain ⟨k, hk⟩ := hn
  have h1 := pw_strip hp hv (h.trans hk)
  rw [← h, h1, Nat.one_mul]
end Go.Proofs.YtjiapicknkjhmaaGreatDoor

namespace Go.Proofs.YtjiapicknkjhmaaGreatDoor
open Go Go.RowKit

end Go.Proofs.YtjiapicknkjhmaaGreatDoor

namespace Go.Proofs.YtjiapicknkjhmaaGreatDoor
open Go Go.RowKit

def Rws (W : World) (g : Nat) (ms : List (List Int)) : Prop := ∀ j, j < ms.length → ∃ a c, W.cell? ⟨g, j, none⟩ = some (.slice a (ms[j]?.getD []).length c) ∧ Sl W (.slice a (ms[j]?.getD []).length c) (ms[j]?.getD [])
theorem Rws.below {W W' : World} {g : Nat} {ms : List (List Int)} (h : Rws W g ms) (hb : Below W.heap.size W W') : Rws W' g ms := fun j hj => by
  obtain ⟨a, c, h1, h2⟩ := h j hj
  exact ⟨a, c, below_cell hb h1, h2.below hb⟩
structure SylA (n : Nat) (zs : List Int) (e p : Nat) (s : Nat → Bool) (A : List Nat) (ms : List (List Int)) : Prop where
  gr : Grown n zs e p s
  lt : ∀ a, a ∈ A → a < n
  nd : (A.map fun a => bs (cjq n zs e s a) n).Nodup
  all : ∀ a, a < n → bs (cjq n zs e s a) n ∈ A.map fun a => bs (cjq n zs e s a) n
  pm : ms.Perm (A.map fun a => li (lst n (cjq n zs e s a)))
  st : srt ms
theorem SylA.len {n e p : Nat} {zs : List Int} {s : Nat → Bool} {A : List Nat} {ms : List (List Int)} (h : SylA n zs e p s A ms) : ms.length = A.length := by
  rw [h.pm.length_eq, List.length_map]
theorem SylA.pos {n e p : Nat} {zs : List Int} {s : Nat → Bool} {A : List Nat} {ms : List (List Int)} (h : SylA n zs e p s A ms) (he : e < n) : 0 < ms.length := by
  rw [h.len]
  obtain ⟨a, ha, _⟩ := List.mem_map.1 (h.all e he)
  exact List.length_pos_of_mem ha
theorem SylA.fits {n e p : Nat} {zs : List Int} {s : Nat → Bool} {A : List Nat} {ms : List (List Int)} (h : SylA n zs e p s A ms) : ms.length ≤ n := by
  rw [h.len]
  exact nodup_fits (nd_of_map h.nd) h.lt
theorem SylA.one {n e p : Nat} {zs : List Int} {s : Nat → Bool} {A : List Nat} {ms : List (List Int)} (h : SylA n zs e p s A ms) {j : Nat} (hj : j < ms.length) : ∃ a, a ∈ A ∧ ms[j]?.getD [] = li (lst n (cjq n zs e s a)) := by
  have h1 : ms[j]?.getD [] ∈ ms := by rw [List.getElem?_eq_getElem hj]; exact List.getElem_mem hj
  obtain ⟨a, ha, h2⟩ := List.mem_map.1 (h.pm.mem_iff.1 h1)
  exact ⟨a, ha, h2.symm⟩
theorem SylA.hX {n e p : Nat} {zs : List Int} {s : Nat → Bool} {A : List Nat} {ms : List (List Int)} (h : SylA n zs e p s A ms) : ∀ c, c ∈ A.map (fun a => bs (cjq n zs e s a) n) ↔ ∃ a, a < n ∧ fc n zs e s a = c := fun c => by
  constructor
  · intro hc
    obtain ⟨a, ha, h1⟩ := List.mem_map.1 hc
    exact ⟨a, h.lt a ha, h1⟩
  · rintro ⟨a, ha, rfl⟩
    exact h.all a ha
theorem nrmq_pset {n e : Nat} {zs : List Int} {q : Nat → Bool} : nrmq n zs e (pset (li (lst n q))) = nrmq n zs e q := by
  have h1 : lst n (pset (li (lst n q))) = lst n q := lst_pset n q
  have h2 : bs (pset (li (lst n q))) n = bs q n := bs_ext fun a ha => pset_lst ha
  unfold nrmq norq cjq
  rw [h1, h2]
theorem nrm_lst (n e : Nat) (v u : Value) (zs : List Int) (q : Nat → Bool) (w : World) (hv : Sl w v zs) (hg : IsGrp n zs e) (hu : Sl w u (li (lst n q))) (hT : Tab w) (hs : subT n zs e q = true) :
    Calls Tryz.prog 45 #[.agg #[.int .i64 n, v], u] w fun x w' => x = .returned (.tuple #[.bool (nrmq n zs e q), .agg #[.int .i64 0, .int .i64 0]]) ∧ Below w.heap.size w w' := by
  have h := nrm_good n e v u zs (li (lst n q)) w hv hg hu hT (lst_fault n q) ((subT_congr hg fun a ha => pset_lst ha).trans hs)
  rwa [nrmq_pset] at h
/-- A fault that is stored where it lies. -/
theorem store_same {W : World} {b : Nat} {x y : Value} (h0 : W.cell? ⟨b, 0, none⟩ = some x) (h1 : W.cell? ⟨b, 1, none⟩ = some y) : (W.setCell ⟨b, 0, none⟩ x).setCell ⟨b, 1, none⟩ y = W := by
  rw [set_same W b 0 x h0, set_same W b 1 y h1]
end Go.Proofs.YtjiapicknkjhmaaGreatDoor

namespace Go.Proofs.YtjiapicknkjhmaaGreatDoor
open Go Go.RowKit

def sls (n : Nat) (f : Nat → Nat → Bool) (k : Nat) : List (List Int) := (List.range k).map fun i => li (lst n (f i))
theorem sls_len (n : Nat) (f : Nat → Nat → Bool) (k : Nat) : (sls n f k).length = k := by simp [sls]
theorem sls_at {n : Nat} {f : Nat → Nat → Bool} {k i : Nat} (h : i < k) : (sls n f k)[i]?.getD [] = li (lst n (f i)) := by simp [sls, h]
theorem sls_up (n : Nat) (f : Nat → Nat → Bool) (k : Nat) : sls n f (k + 1) = sls n f k ++ [li (lst n (f k))] := by simp [sls, List.range_succ]
/-- A row of lists, read. -/
theorem Rws.of_own {w : World} {base B g c : Nat} {vs : List Value} {rs : List (List Int)} (h : w.ownsRow base 22 1 (.slice (some ⟨g, 0, none⟩) vs.length c) vs.length vs) (hl : Lsts w B (.slice (some ⟨g, 0, none⟩) vs.length c) vs rs) : Rws w g rs := fun j hj => by
  have hju : j < vs.length := by have := hl.1; omega
  obtain ⟨a, cap, pb, po, h1, h2, h3, h4, h5, _⟩ := hl.2 j vs[j] rs[j] (List.getElem?_eq_getElem hju) (List.getElem?_eq_getElem hj)
  have hc := h.cells (g := g) rfl j _ (List.getElem?_eq_getElem hju)
  rw [show (⟨g, 0, none⟩ : Addr).add j = ⟨g, j, none⟩ by unfold Addr.add; split <;> simp_all] at hc
  rw [List.getElem?_eq_getElem hj, Option.getD_some]
  rw [h1] at hc
  exact ⟨a, cap, hc, ⟨a, cap, pb, po, rfl, h2, h3, h4, h5⟩⟩
set_option maxRecDepth 100000 in
set_option maxHeartbeats 4000000 in
theorem listed_bad (N : Int) (v f : Value) (zs : List Int) (w : World) (hv : Sl w v zs) (hc : (gfault N zs).1 ≠ 0) :
    Calls Tryz.prog 36 #[.agg #[.int .i64 N, v], f] w fun x w' => x = .returned (.tuple #[.slice none 0 0, .agg #[.int .i64 (gfault N zs).1, .int .i64 (gfault N zs).2]]) ∧ Below w.heap.size w w' := by
  obtain ⟨w0, BG⟩ := Beg.new w N v
  have hv0 := hv.below BG.bel
  obtain ⟨c0, c1, _, _⟩ := BG.box.two
  have hck := opened_bad N v zs w0 hv0 hc
  obtain ⟨c, i, hci⟩ : ∃ c i, gfault N zs = (c, i) := ⟨_, _, rfl⟩
  rw [hci] at hck hc ⊢
  simp only at hc hck
  have HCK := hide hck
  clear hck hci
  have hcb : (c != 0) = true := by simpa using hc
  rw [BG.eq] at c0 c1
  go_enter Tryz.func36, Tryz.ntmps36
  go_wp2_with fail
  rw [← BG.eq]
  refine HCK.out.mono ?_
  rintro x w1 ⟨rfl, hb1⟩
  clear c0 c1
  obtain ⟨w2, hw2⟩ : ∃ w2, w2 = (w1.alloc (.cells #[.int .i64 0, .slice none 0 0, .int .i64 0, .slice none 0 0] 66)).alloc (.cells #[.int .i64 c, .int .i64 i] 28) := ⟨_, rfl⟩
  have hB1 : Below w0.heap.size w0 w2 := by rw [hw2]; exact bcat2 hb1 ((balloc w1 _).alloc (by simp) _)
  have hF1 : Blk w2 (w1.heap.size + 1) 28 [.int .i64 c, .int .i64 i] := by
    rw [hw2]
    have := blk0 (w := w1.alloc (.cells #[.int .i64 0, .slice none 0 0, .int .i64 0, .slice none 0 0] 66)) (T := 28) (.int .i64 c) (.int .i64 i)
    rwa [World.size_alloc] at this
  have hR1 := blk_below BG.res hB1
  have hBw := bcat BG.bel hB1 BG.bel.size
  obtain ⟨y0, y1, fy0, fy1⟩ := hR1.two
  obtain ⟨t0, t1, _, _⟩ := hF1.two
  rw [hw2] at t0 t1
  go_wp2_with fail
  rw [← hw2]
  rw [← hw2] at t0 t1
  clear hw2
  go_region
  all_goals (
    go_wp2
    obtain ⟨hR6, hB6⟩ := put2 hR1 hBw (by omega) c i
    have hB7 := bdrew hB6
    have hR7 : Blk ((w2.setCell ⟨w.heap.size + 1, 0, none⟩ (.int .i64 c)).setCell ⟨w.heap.size + 1, 1, none⟩ (.int .i64 i)).drew (w.heap.size + 1) 28 [.int .i64 c, .int .i64 i] := hR6
    generalize ((w2.setCell ⟨w.heap.size + 1, 0, none⟩ (.int .i64 c)).setCell ⟨w.heap.size + 1, 1, none⟩ (.int .i64 i)).drew = W at hR7 hB7 ⊢
    obtain ⟨z0, z1, _, _⟩ := hR7.two
    exact bodyPost_ret (v := .tuple #[.slice none 0 0, .agg #[.int .i64 c, .int .i64 i]]) (by simp [results, Tryz.results36, go_sem, z0, z1]) rfl ⟨rfl, hB7⟩)
/-- What listed answers. -/
def LisA (w' : World) (n : Nat) (nx : (Nat → Bool) → Nat → Bool) (I : (Nat → Bool) → Prop) (M : (Nat → Bool) → Nat) (q0 : Nat → Bool) (x : Value) : Prop := ∃ K g c : Nat, x = .slice (some ⟨g, 0, none⟩) (K + 1) c ∧ Stp n nx I M q0 K ∧ bs (itr nx q0 (K + 1)) n = bs (itr nx q0 K) n ∧ Rws w' g (sls n (itr nx q0) (K + 1)) ∧ SlL w' (.slice (some ⟨g, 0, none⟩) (K + 1) c) (sls n (itr nx q0) (K + 1))
set_option maxRecDepth 100000 in
set_option maxHeartbeats 4000000 in
theorem listed_good (n e k : Nat) (v : Value) (zs : List Int) (nx : (Nat → Bool) → Nat → Bool) (I : (Nat → Bool) → Prop) (M : (Nat → Bool) → Nat) (q0 : Nat → Bool) (w : World) (hv : Sl w v zs) (hg : IsGrp n zs e) (hT : Tab w)
    (hcall : ∀ x W, Sem.run Tryz.prog (callFunc k #[x]) W = .ok (.enter k #[x]) W)
    (hof : ∀ (W : World) (u : Value), Below w.heap.size w W → GA W n v e u zs → Calls Tryz.prog k #[.agg #[.int .i64 n, v, .int .i64 e, u]] W fun x W' => ∃ y, x = .returned y ∧ SerA W W' n nx I M q0 y ∧ Below W.heap.size W W') :
    Calls Tryz.prog 36 #[.agg #[.int .i64 n, v], .func (.func k) #[] #[]] w fun x w' => ∃ y, x = .returned (.tuple #[y, .agg #[.int .i64 0, .int .i64 0]]) ∧ LisA w' n nx I M q0 y ∧ Below w.heap.size w w' := by
  obtain ⟨va, vl, vc, rfl⟩ := hv.isSlice
  obtain ⟨i0, hi, hz0, hz1, hz2⟩ := info_parts info22b
  have HOF := hide hof
  clear hof
  obtain ⟨w0, BG⟩ := Beg.new w n (.slice va vl vc)
  have hv0 := hv.below BG.bel
  obtain ⟨c0, c1, _, _⟩ := BG.box.two
  have HCK := hide (opened_good n e (.slice va vl vc) zs w0 hv0 hg)
  have HZ0 := hide (show w.heap.size + 2 ≤ w0.heap.size by rw [BG.eq]; simp)
  rw [BG.eq] at c0 c1
  go_enter Tryz.func36, Tryz.ntmps36
  go_wp2_with fail
  rw [← BG.eq]
  refine HCK.out.mono ?_
  rintro x w1 ⟨iv9, rfl, hSI, hb1⟩
  obtain ⟨ia, il, ic, rfl⟩ := hSI.sl.isSlice
  clear c0 c1 HCK
  obtain ⟨w2, hw2⟩ : ∃ w2, w2 = (w1.alloc (.cells #[.int .i64 n, (.slice va vl vc), .int .i64 e, (.slice ia il ic)] 66)).alloc (.cells #[.int .i64 0, .int .i64 0] 28) := ⟨_, rfl⟩
  have hb2 : Below w1.heap.size w1 w2 := by rw [hw2]; exact (balloc w1 _).alloc (by simp) _
  have hB1 : Below w0.heap.size w0 w2 := bcat2 hb1 hb2
  have hF1 : Blk w2 (w1.heap.size + 1) 28 [.int .i64 0, .int .i64 0] := by
    rw [hw2]
    have := blk0 (w := w1.alloc (.cells #[.int .i64 n, (.slice va vl vc), .int .i64 e, (.slice ia il ic)] 66)) (T := 28) (.int .i64 0) (.int .i64 0)
    rwa [World.size_alloc] at this
  have hH2 : Blk w2 w1.heap.size 66 [.int .i64 n, (.slice va vl vc), .int .i64 e, (.slice ia il ic)] := by
    rw [hw2]; exact (blk4 _ _ _ _).alloc _
  have hBw2 := bcat BG.bel hB1 BG.bel.size
  have hR2 := blk_below BG.res hB1
  have hT2 := hT.below hBw2
  have hGA2 : GA w2 n (.slice va vl vc) e (.slice ia il ic) zs := ⟨hg, hv.below hBw2, (hSI.below hb2).sl⟩
  obtain ⟨t0, t1, _, _⟩ := hF1.two
  obtain ⟨_, h0, h1, h2, h3, _⟩ := Four.mk' hH2
  have HZ1 := hide (Nat.le_trans HZ0.out hb1.size)
  have HZ2 := hide hb2.size
  rw [hw2] at t0 t1 h0 h1 h2 h3
  have hn := hg.tab.le
  go_wp2_with fail
  rw [← hw2]
  clear hw2 t0 t1 h0 h1 h2 h3
  refine (HOF.out _ _ hBw2 hGA2).mono ?_
  rintro x w3 ⟨y, rfl, ⟨K, g, c, rfl, HST, HEND, hrow3⟩, hb3⟩
  have HS := hide HST
  have HE := hide HEND
  have hBw3 := bcat2 hBw2 hb3
  have hR3 := blk_below hR2 hb3
  have hT3 := hT2.below hb3
  have hK := HST.meas
  have HC3 := hide (fun i (h : i < K + 1) => (show w3.cell? ⟨g, i, none⟩ = some (.int .u64 (bs (itr nx q0 i) n)) by
    have hc := hrow3.cells (g := g) rfl i _ (sets_at h)
    rwa [show (⟨g, 0, none⟩ : Addr).add i = ⟨g, i, none⟩ by unfold Addr.add; split <;> simp_all] at hc))
  clear HST HEND hrow3 HOF hcall
  have HLS := hide (fun W (p : Nat → Bool) (h : Below w3.heap.size w3 W) => list_ok n p W hn (hT3.below h))
  go_wp2_with fail
  go_loopw [8, 24] (fun ls iv wr => ∃ (i : Nat) (a : Option Addr) (cp : Nat) (vs : List Value), i ≤ K + 1 ∧ iv = .int .i64 i ∧ ls = .slice a vs.length cp ∧ wr.ownsRow w3.heap.size 22 1 (.slice a vs.length cp) vs.length vs ∧ Lsts wr w3.heap.size (.slice a vs.length cp) vs (sls n (itr nx q0) i) ∧ Below w3.heap.size w3 wr) (fun _ iv _ => K + 1 - (intOf iv).toNat)
  case atStart => exact ⟨0, none, 0, [], Nat.zero_le _, rfl, rfl, World.ownsRow_nil _ _ _ _, ⟨by simp [sls], fun t x l h1 _ => by simp at h1⟩, Below.refl _ _⟩
  case round =>
    obtain ⟨i, ra, rcap, vs, hiK, rfl, rfl, hrow, hls, hB⟩ := hrel
    have HVL := hide (show vs.length = i by rw [hls.1, sls_len])
    have hv61 : vs.length ≤ 61 := by rw [HVL.out]; omega
    by_cases hlt : i < K + 1
    · have hci := below_cell hB (HC3.out i hlt)
      have HB9 := hide (HLS.out wr (itr nx q0 i) hB)
      have HST := hide (sls_up n (itr nx q0) i)
      have hl60 : (li (lst n (itr nx q0 i))).length ≤ 60 := by rw [li_len]; exact Nat.le_trans (lst_len _ _) hn
      generalize li (lst n (itr nx q0 i)) = lj at *
      generalize bs (itr nx q0 i) n = s9 at *
      have hii : (i : Int) < (K : Int) + 1 := by omega
      go_wp2_with fail
      clear hci
      refine HB9.out.mono ?_
      rintro x w5 ⟨r9, rfl, hr9, hb5⟩
      have hB5 := bcat2 hB hb5
      have hrow5 := own_keep2 hrow (fun g _ h2 => hb5.block g h2)
      have hls5 : Lsts w5 w3.heap.size (.slice ra vs.length rcap) vs (sls n (itr nx q0) i) := hls.keep hb5.size (fun g _ h2 _ => hb5.block g h2) (.inl rfl)
      have hown2 : ∀ g, (Value.slice ra vs.length rcap).ownBlock = some g → g < wr.heap.size := fun g hg => (hrow.lt g hg).2
      obtain ⟨qa, qcap, qb, qo, rfl, hq, hq1, hq2, hq3, hq4⟩ := hr9
      have hs5 := hb5.size
      have hs3 := hB.size
      have HQ := hide hq
      clear hrow hls hb5 hq hB
      go_wp2_with (first
        | (at_builtin; refine wpList_append_own_at _ rfl _ _ 25 rfl w3.heap.size 22 i0 (.slice none 0 0) 1 24 und38s hi hz0 hz1 hz2 rfl (by decide) _ _ _ rfl (World.ownsRow.alloc hrow5 _) ⟨w5.heap.size, 0, none⟩ 1 1 [.slice qa lj.length qcap] rfl rfl ?c1 ?c2 ?c3 ?c4 ?c5 ?_))
      case c1 => exact cell_one_new _ _ _
      case c2 => simp [Value.oneCell']
      case c3 => unfold maxLen; omega
      case c4 => omega
      case c5 => simp; omega
      intro v' w8 hown' hgrow hnil hloc
      obtain ⟨ra', rcap', rfl⟩ := own_slice' hown'
      have hB8 : Below w3.heap.size w3 w8 := (hB5.alloc (by omega) _).grown hgrow (by simp; omega) (fun t e => by have := owns_ge hrow5 t e; omega)
      have hbl : ∀ g, g < w5.heap.size → (Value.slice ra vs.length rcap).ownBlock ≠ some g → w8.heap[g]? = w5.heap[g]? := fun g h1 h2 => (hgrow.block g (by simp; omega) (fun e => h2 e.symm)).trans (Below.block (balloc w5 _) g h1)
      have hs8 : w5.heap.size < w8.heap.size := by have := hgrow.size; simp at this; omega
      have hlo : (Value.slice ra' (vs.length + 1) rcap').ownBlock = (Value.slice ra vs.length rcap).ownBlock ∨ ∀ g, (Value.slice ra' (vs.length + 1) rcap').ownBlock = some g → w5.heap.size ≤ g := by
        rcases hloc with h | h
        · exact .inl h
        · right; intro g hg; rw [h] at hg; simp at hg; omega
      have hls8 := (hls5.keep (r' := .slice ra' (vs.length + 1) rcap') (by omega) (fun g _ h2 h3 => hbl g h2 h3) hlo).snoc (x := .slice qa lj.length qcap) (l := lj) ⟨qa, qcap, qb, qo, rfl, HQ.out.of_eq (hbl qb hq1 (fun e => by have := hown2 _ e; omega)), by omega, hq2, hq3, by omega, fun g hg e => by
        subst e
        rcases hlo with h | h
        · have := hown2 _ (h ▸ hg); omega
        · have := h _ hg; omega⟩
      have hrow8 : w8.ownsRow w3.heap.size 22 1 (.slice ra' (vs ++ [Value.slice qa lj.length qcap]).length rcap') (vs ++ [Value.slice qa lj.length qcap]).length (vs ++ [Value.slice qa lj.length qcap]) := by simpa using hown'
      have hls9 : Lsts w8 w3.heap.size (.slice ra' (vs ++ [Value.slice qa lj.length qcap]).length rcap') (vs ++ [Value.slice qa lj.length qcap]) (sls n (itr nx q0) (i + 1)) := by
        rw [HST.out]
        simpa using hls8
      clear hown' hgrow hloc hlo hbl hrow5 hls5 hB5 hls8
      go_wp2
      go_roundw
      case rel => exact ⟨i + 1, ra', rcap', _, by omega, by go_num, by simp, hrow8, hls9, hB8⟩
      case measure => simp [intOf]; omega
    · have hik : i = K + 1 := by omega
      subst hik
      have hii : ¬ (((K + 1 : Nat) : Int) < (K : Int) + 1) := by omega
      obtain ⟨g9, rfl⟩ : ∃ g9, ra = some ⟨g9, 0, none⟩ := by
        rcases hrow.2 with ⟨h1, h2⟩ | ⟨g', cap, cur, h1, _⟩
        · have := HVL.out; omega
        · injection h1 with h1; exact ⟨g', h1⟩
      have HRW := hide (Rws.of_own hrow hls)
      have HSL := hide (SlL.of_own hrow hls (Nat.lt_of_lt_of_le hT3.lt hB.size))
      rw [HVL.out] at HSL
      rw [HVL.out]
      have hBz := bcat2 hBw3 hB
      obtain ⟨_, y0, y1, fy0, fy1, s0, s1⟩ := Two.mk' (blk_below hR3 hB)
      clear hrow hls
      go_wp2
      exact bodyPost_ret (v := .tuple #[.slice (some ⟨g9, 0, none⟩) (K + 1) rcap, .agg #[.int .i64 0, .int .i64 0]]) (by simp [results, Tryz.results36, go_sem, y0, y1]) rfl ⟨_, rfl, ⟨K, g9, rcap, rfl, HS.out, HE.out, HRW.out, HSL.out⟩, hBz⟩
end Go.Proofs.YtjiapicknkjhmaaGreatDoor

namespace Go.Proofs.YtjiapicknkjhmaaGreatDoor
open Go Go.RowKit

theorem LisA.below {w w' : World} {n : Nat} {nx : (Nat → Bool) → Nat → Bool} {I : (Nat → Bool) → Prop} {M : (Nat → Bool) → Nat} {q0 : Nat → Bool} {y : Value} (h : LisA w n nx I M q0 y) (hb : Below w.heap.size w w') : LisA w' n nx I M q0 y := by
  obtain ⟨K, g, c, h1, h2, h3, h4, h5⟩ := h
  exact ⟨K, g, c, h1, h2, h3, h4.below hb, h5.below hb⟩
theorem call76 (x : Value) (W : World) : Sem.run Tryz.prog (callFunc 49 #[x]) W = .ok (.enter 49 #[x]) W := by kernel_rfl
set_option maxRecDepth 100000 in
set_option maxHeartbeats 2000000 in
theorem sder_bad (N : Int) (v : Value) (zs : List Int) (w : World) (hv : Sl w v zs) (hc : (gfault N zs).1 ≠ 0) :
    Calls Tryz.prog 19 #[.agg #[.int .i64 N, v]] w fun x w' => x = .returned (.tuple #[.slice none 0 0, .agg #[.int .i64 (gfault N zs).1, .int .i64 (gfault N zs).2]]) ∧ Below w.heap.size w w' := by
  obtain ⟨w0, BG⟩ := Beg.new w N v
  obtain ⟨c0, c1, _, _⟩ := BG.box.two
  have hck := fun f => listed_bad N v f zs w0 (hv.below BG.bel) hc
  obtain ⟨c, i, hci⟩ : ∃ c i, gfault N zs = (c, i) := ⟨_, _, rfl⟩
  rw [hci] at hck hc ⊢
  simp only at hc hck
  have HCK := hide hck
  clear hck hci
  rw [BG.eq] at c0 c1
  go_enter Tryz.func19, Tryz.ntmps19
  go_wp2_with fail
  rw [← BG.eq]
  refine (HCK.out _).mono ?_
  rintro x w1 ⟨rfl, hb1⟩
  clear c0 c1
  have hR1 := blk_below BG.res hb1
  have hBw := bcat BG.bel hb1 BG.bel.size
  obtain ⟨y0, y1, fy0, fy1⟩ := hR1.two
  obtain ⟨hR6, hB6⟩ := put2 hR1 hBw (by omega) c i
  obtain ⟨z0, z1, _, _⟩ := hR6.two
  go_wp2
  exact bodyPost_ret (v := .tuple #[.slice none 0 0, .agg #[.int .i64 c, .int .i64 i]]) (by simp [results, Tryz.results19, go_sem, z0, z1]) rfl ⟨rfl, hB6⟩
set_option maxRecDepth 100000 in
set_option maxHeartbeats 2000000 in
theorem sder_good (n e : Nat) (v : Value) (zs : List Int) (w : World) (hv : Sl w v zs) (hg : IsGrp n zs e) (hT : Tab w) :
    Calls Tryz.prog 19 #[.agg #[.int .i64 n, v]] w fun x w' => ∃ y, x = .returned (.tuple #[y, .agg #[.int .i64 0, .int .i64 0]]) ∧ LisA w' n (fun q => cmb n zs e q q) (fun q => Fin.Sg (List.range n) (tm n zs) e (fun a => q a = true)) (fun q => (lst n q).length) (fun _ => true) y ∧ Below w.heap.size w w' := by
  obtain ⟨w0, BG⟩ := Beg.new w n v
  obtain ⟨c0, c1, _, _⟩ := BG.box.two
  have HCK := hide (listed_good n e 49 v zs (fun q => cmb n zs e q q) (fun q => Fin.Sg (List.range n) (tm n zs) e (fun a => q a = true)) (fun q => (lst n q).length) (fun _ => true) w0 (hv.below BG.bel) hg (hT.below BG.bel) (fun x W => call76 x W) (fun W u h hG => derived_ok n v u zs e W hG ((hT.below BG.bel).below h)))
  rw [BG.eq] at c0 c1
  go_enter Tryz.func19, Tryz.ntmps19
  go_wp2_with fail
  rw [← BG.eq]
  refine HCK.out.mono ?_
  rintro x w1 ⟨y, rfl, hl, hb1⟩
  clear c0 c1
  have hR1 := blk_below BG.res hb1
  have hBw := bcat BG.bel hb1 BG.bel.size
  obtain ⟨_, y0, y1, fy0, fy1, s0, s1⟩ := Two.mk' hR1
  go_wp2
  exact bodyPost_ret (v := .tuple #[y, .agg #[.int .i64 0, .int .i64 0]]) (by simp [results, Tryz.results19, go_sem, y0, y1]) rfl ⟨y, rfl, hl, hBw⟩
end Go.Proofs.YtjiapicknkjhmaaGreatDoor

namespace Go.Proofs.YtjiapicknkjhmaaGreatDoor
open Go Go.RowKit

/-- How the lower series goes, and whether it ends with the one. -/
def NilA (n : Nat) (zs : List Int) (e : Nat) (b : Bool) : Prop := ∃ K : Nat, Stp n (fun q => cmb n zs e q fun _ => true) (Nsg n zs e) (fun q => (lst n q).length) (fun _ => true) K ∧ bs (itr (fun q => cmb n zs e q fun _ => true) (fun _ => true) (K + 1)) n = bs (itr (fun q => cmb n zs e q fun _ => true) (fun _ => true) K) n ∧ (b = true ↔ (lst n (itr (fun q => cmb n zs e q fun _ => true) (fun _ => true) K)).length = 1)
/-- The square's commutators. -/
theorem sq_cm : ∀ a, a < 8 → ∀ b, b < 8 → Fin.cm (tm 8 sqT) (iv 8 sqT 0) a b = 0 ∨ Fin.cm (tm 8 sqT) (iv 8 sqT 0) a b = 2 := by decide +kernel
theorem sq_cm2 : ∃ a, a < 8 ∧ ∃ b, b < 8 ∧ Fin.cm (tm 8 sqT) (iv 8 sqT 0) a b = 2 := by decide +kernel
theorem sq_cm3 : ∀ a, a < 8 → ∀ b, b < 8 → (a = 0 ∨ a = 2) → (b = 0 ∨ b = 2) → Fin.cm (tm 8 sqT) (iv 8 sqT 0) a b = 0 := by decide +kernel
theorem sq_sg : ∀ a, a < 8 → ∀ b, b < 8 → (a = 0 ∨ a = 2) → (b = 0 ∨ b = 2) → (tm 8 sqT a b = 0 ∨ tm 8 sqT a b = 2) := by decide +kernel
theorem sq_one : tm 8 sqT 0 0 = 0 := by decide +kernel
theorem sq_d1 {x : Nat} (hx : x < 8) : cmb 8 sqT 0 (fun _ => true) (fun _ => true) x = true ↔ (x = 0 ∨ x = 2) := by
  constructor
  · exact fun h => cmb_in (P := fun x => x = 0 ∨ x = 2) ⟨.inl rfl, fun a b ha hb h1 h2 => sq_sg a (List.mem_range.1 ha) b (List.mem_range.1 hb) h1 h2⟩ (fun a b ha hb _ _ => sq_cm a ha b hb) hx h
  · rintro (rfl | rfl)
    · exact (cmb_sg sqT_grp).one
    · obtain ⟨a, ha, b, hb, h⟩ := sq_cm2
      have := cmb_base (q := fun _ => true) (r := fun _ => true) sqT_grp ha hb rfl rfl
      rwa [h] at this
theorem sq_d2 {q : Nat → Bool} (hq : ∀ x, x < 8 → q x = true → (x = 0 ∨ x = 2)) {x : Nat} (hx : x < 8) : cmb 8 sqT 0 q q x = true ↔ x = 0 := by
  constructor
  · exact fun h => cmb_in (P := fun x => x = 0) ⟨rfl, fun a b _ _ h1 h2 => by rw [h1, h2]; exact sq_one⟩ (fun a b ha hb h1 h2 => sq_cm3 a ha b hb (hq a ha h1) (hq b hb h2)) hx h
  · rintro rfl
    exact (cmb_sg sqT_grp).one
theorem sq_series {I : (Nat → Bool) → Prop} {M : (Nat → Bool) → Nat} {K : Nat} (h : Stp 8 (fun q => cmb 8 sqT 0 q q) I M (fun _ => true) K) (hend : bs (itr (fun q => cmb 8 sqT 0 q q) (fun _ => true) (K + 1)) 8 = bs (itr (fun q => cmb 8 sqT 0 q q) (fun _ => true) K) 8) : K = 2 ∧ li (lst 8 (itr (fun q => cmb 8 sqT 0 q q) (fun _ => true) 1)) = [0, 2] := by
  have d1 : ∀ x, x < 8 → (itr (fun q => cmb 8 sqT 0 q q) (fun _ => true) 1 x = true ↔ (x = 0 ∨ x = 2)) := fun x hx => sq_d1 hx
  have d2 : ∀ x, x < 8 → (itr (fun q => cmb 8 sqT 0 q q) (fun _ => true) 2 x = true ↔ x = 0) := fun x hx => sq_d2 (fun x hx h => (d1 x hx).1 h) hx
  have d3 : ∀ x, x < 8 → (itr (fun q => cmb 8 sqT 0 q q) (fun _ => true) 3 x = true ↔ x = 0) := fun x hx => sq_d2 (fun x hx h => .inl ((d2 x hx).1 h)) hx
  refine ⟨?_, ?_⟩
  · match K, h, hend with
    | 0, _, hend =>
      have := bs_inj hend 1 (by omega)
      have h1 : itr (fun q => cmb 8 sqT 0 q q) (fun _ => true) 1 1 = true := this
      have := (d1 1 (by omega)).1 h1
      omega
    | 1, _, hend =>
      have h1 : itr (fun q => cmb 8 sqT 0 q q) (fun _ => true) 2 2 = itr (fun q => cmb 8 sqT 0 q q) (fun _ => true) 1 2 := bs_inj hend 2 (by omega)
      rw [(d1 2 (by omega)).2 (.inr rfl)] at h1
      have := (d2 2 (by omega)).1 h1
      omega
    | 2, _, _ => rfl
    | K + 3, h, _ =>
      exact absurd (bs_ext fun x hx => by rw [Bool.eq_iff_iff, d3 x hx, d2 x hx]) (h.go 2 (by omega))
  · rw [lst_congr (q := fun x => decide (x = 0 ∨ x = 2)) fun x hx => by rw [Bool.eq_iff_iff, d1 x hx, decide_eq_true_eq]]
    decide
set_option maxRecDepth 100000 in
set_option maxHeartbeats 2000000 in
theorem seriesBegun_any (w : World) (hT : Tab w) : Calls Tryz.prog 5 #[] w fun x w' => x = .returned (.bool true) ∧ Below w.heap.size w w' := by
  go_enter Tryz.func5, Tryz.ntmps5
  go_wp2_with fail
  refine (square_ok w).mono ?_
  rintro x w1 ⟨r, rfl, hrow, hb1⟩
  have h01 : 0 < w1.heap.size := Nat.lt_of_lt_of_le hT.lt hb1.size
  go_wp2_with fail
  refine (sder_good 8 0 r sqT w1 (row_sl hrow h01) sqT_grp (hT.below hb1)).mono ?_
  rintro x w2 ⟨y, rfl, ⟨K, g, c, rfl, hst, hend, hR, _⟩, hb2⟩
  obtain ⟨rfl, h02⟩ := sq_series hst hend
  have hs1 := sls_at (n := 8) (f := itr (fun q => cmb 8 sqT 0 q q) (fun _ => true)) (k := 3) (i := 1) (by omega)
  rw [h02] at hs1
  obtain ⟨a, cp, hc, hS⟩ := hR 1 (by rw [sls_len]; omega)
  rw [hs1] at hc hS
  clear hst hend hR h02 hs1
  have hb3 := balloc w2 (.cells #[.int .i64 0, .int .i64 0] 28)
  have hF3 := blk0 (w := w2) (T := 28) (.int .i64 0) (.int .i64 0)
  obtain ⟨t0, t1, _, _⟩ := hF3.two
  have hc3 := below_cell hb3 hc
  have hb4 : Below w2.heap.size w2 ((w2.alloc (.cells #[.int .i64 0, .int .i64 0] 28)).alloc (.cells #[.int .i64 0, .int .i64 2] 3)) := hb3.alloc hb3.size _
  have hL4 : Blk ((w2.alloc (.cells #[.int .i64 0, .int .i64 0] 28)).alloc (.cells #[.int .i64 0, .int .i64 2] 3)) (w2.heap.size + 1) 3 (([0, 2] : List Int).map (Value.int .i64)) := by
    have := blk0 (w := w2.alloc (.cells #[.int .i64 0, .int .i64 0] 28)) (T := 3) (.int .i64 0) (.int .i64 2)
    rwa [World.size_alloc] at this
  have hS4 := Sl.of_blk (n := 2) hL4 rfl (by simp)
  go_wp2_with fail
  generalize (w2.alloc (.cells #[.int .i64 0, .int .i64 0] 28)).alloc (.cells #[.int .i64 0, .int .i64 2] 3) = w4 at *
  refine (ints_any _ _ [0, 2] [0, 2] w4 (hS.below hb4) hS4).mono ?_
  rintro x w5 ⟨rfl, hb5⟩
  rw [show decide (([0, 2] : List Int) = ([0, 2] : List Int)) = true from rfl]
  go_wp2
  go_ret
  exact ⟨rfl, bcat2 (bcat2 (bcat2 hb1 hb2) hb4) hb5⟩
end Go.Proofs.YtjiapicknkjhmaaGreatDoor
