/- Finite groups on lists of numbers: powers, orders, counting, Lagrange's theorem. No condition. -/
import Derived.Test.YtmgengplfebmjaaDoorGrp
namespace Go.Proofs.YtmgengplfebmjaaDoor.Fin

/-- A finite group on a list. -/
structure Fg (l : List Nat) (m : Nat → Nat → Nat) (e : Nat) : Prop where
  nd : l.Nodup
  one : e ∈ l
  cl : ∀ a b, a ∈ l → b ∈ l → m a b ∈ l
  ass : ∀ a b c, a ∈ l → b ∈ l → c ∈ l → m (m a b) c = m a (m b c)
  left : ∀ a, a ∈ l → m e a = a
  right : ∀ a, a ∈ l → m a e = a
  inv : ∀ a, a ∈ l → ∃ b, b ∈ l ∧ m a b = e ∧ m b a = e

theorem Fg.pos {l : List Nat} {m : Nat → Nat → Nat} {e : Nat} (h : Fg l m e) : 0 < l.length := List.length_pos_of_mem h.one
theorem Fg.can {l : List Nat} {m : Nat → Nat → Nat} {e : Nat} (h : Fg l m e) {x y z : Nat} (hx : x ∈ l) (hy : y ∈ l) (hz : z ∈ l) (he : m x y = m x z) : y = z := by
  obtain ⟨b, hb, _, hbx⟩ := h.inv x hx
  have h1 : m b (m x y) = m b (m x z) := by rw [he]
  rwa [← h.ass b x y hb hx hy, ← h.ass b x z hb hx hz, hbx, h.left y hy, h.left z hz] at h1
theorem Fg.canR {l : List Nat} {m : Nat → Nat → Nat} {e : Nat} (h : Fg l m e) {x y z : Nat} (hx : x ∈ l) (hy : y ∈ l) (hz : z ∈ l) (he : m y x = m z x) : y = z := by
  obtain ⟨b, hb, hxb, _⟩ := h.inv x hx
  have h1 : m (m y x) b = m (m z x) b := by rw [he]
  rwa [h.ass y x b hy hx hb, h.ass z x b hz hx hb, hxb, h.right y hy, h.right z hz] at h1

/-- Powers. -/
def po (m : Nat → Nat → Nat) (e a : Nat) : Nat → Nat
  | 0 => e
  | k + 1 => m (po m e a k) a
variable {l : List Nat} {m : Nat → Nat → Nat} {e : Nat}
theorem po_mem (h : Fg l m e) {a : Nat} (ha : a ∈ l) : ∀ k, po m e a k ∈ l
  | 0 => h.one
  | k + 1 => h.cl _ _ (po_mem h ha k) ha
theorem po_one (h : Fg l m e) {a : Nat} (ha : a ∈ l) : po m e a 1 = a := h.left a ha
theorem po_add (h : Fg l m e) {a : Nat} (ha : a ∈ l) (i : Nat) : ∀ j, po m e a (i + j) = m (po m e a i) (po m e a j)
  | 0 => (h.right _ (po_mem h ha i)).symm
  | j + 1 => by
    show m (po m e a (i + j)) a = m (po m e a i) (m (po m e a j) a)
    rw [po_add h ha i j, h.ass _ _ _ (po_mem h ha i) (po_mem h ha j) ha]
theorem po_mul (h : Fg l m e) {a : Nat} (ha : a ∈ l) (i : Nat) : ∀ j, po m e (po m e a i) j = po m e a (i * j)
  | 0 => rfl
  | j + 1 => by
    show m (po m e (po m e a i) j) (po m e a i) = _
    rw [po_mul h ha i j, Nat.mul_succ, po_add h ha]
theorem po_e (h : Fg l m e) : ∀ k, po m e e k = e
  | 0 => rfl
  | k + 1 => by show m (po m e e k) e = e; rw [po_e h k, h.right e h.one]
theorem po_com (h : Fg l m e) {a b : Nat} (ha : a ∈ l) (hb : b ∈ l) (hab : m a b = m b a) : ∀ k, m (po m e a k) b = m b (po m e a k)
  | 0 => by show m e b = m b e; rw [h.left b hb, h.right b hb]
  | k + 1 => by
    show m (m (po m e a k) a) b = m b (m (po m e a k) a)
    rw [h.ass _ _ _ (po_mem h ha k) ha hb, hab, ← h.ass _ _ _ (po_mem h ha k) hb ha, po_com h ha hb hab k, h.ass _ _ _ hb (po_mem h ha k) ha]
theorem po_prod (h : Fg l m e) {a b : Nat} (ha : a ∈ l) (hb : b ∈ l) (hab : m a b = m b a) : ∀ k, po m e (m a b) k = m (po m e a k) (po m e b k)
  | 0 => (h.left e h.one).symm
  | k + 1 => by
    have pa := po_mem h ha k
    have pb := po_mem h hb k
    show m (po m e (m a b) k) (m a b) = m (m (po m e a k) a) (m (po m e b k) b)
    have q := po_com h hb ha hab.symm k
    rw [po_prod h ha hb hab k, h.ass _ _ _ pa pb (h.cl _ _ ha hb), ← h.ass _ _ _ pb ha hb, q, h.ass _ _ _ ha pb hb, ← h.ass _ _ _ pa ha (h.cl _ _ pb hb)]
theorem po_pow_com (h : Fg l m e) {a : Nat} (ha : a ∈ l) (i j : Nat) : m (po m e a i) (po m e a j) = m (po m e a j) (po m e a i) := by
  rw [← po_add h ha, ← po_add h ha, Nat.add_comm]
/-- What stands at a conjugate. -/
theorem po_conj (h : Fg l m e) {g a b : Nat} (hg : g ∈ l) (ha : a ∈ l) (hb : b ∈ l) (hab : m g a = m b g) : ∀ k, m g (po m e a k) = m (po m e b k) g
  | 0 => by show m g e = m e g; rw [h.left g hg, h.right g hg]
  | k + 1 => by
    show m g (m (po m e a k) a) = m (m (po m e b k) b) g
    rw [← h.ass _ _ _ hg (po_mem h ha k) ha, po_conj h hg ha hb hab k, h.ass _ _ _ (po_mem h hb k) hg ha, hab, ← h.ass _ _ _ (po_mem h hb k) hb hg]

/-- Counting. -/
theorem bij_len {l1 l2 : List Nat} (f : Nat → Nat) (h1 : l1.Nodup) (h2 : l2.Nodup) (hf : ∀ x, x ∈ l1 → f x ∈ l2) (hi : ∀ x y, x ∈ l1 → y ∈ l1 → f x = f y → x = y) (hs : ∀ y, y ∈ l2 → ∃ x, x ∈ l1 ∧ f x = y) : l1.length = l2.length := by
  apply Nat.le_antisymm
  · have := nodup_len (l1.map f) l2 (map_nodup h1 hi) (fun z hz => by
      obtain ⟨x, hx, rfl⟩ := List.mem_map.1 hz
      exact hf x hx)
    simpa using this
  · have := nodup_len l2 (l1.map f) h2 (fun z hz => by
      obtain ⟨x, hx, rfl⟩ := hs z hz
      exact List.mem_map.2 ⟨x, hx, rfl⟩)
    simpa using this
theorem split_len (p : Nat → Bool) : ∀ l : List Nat, l.length = (l.filter p).length + (l.filter (fun y => !p y)).length
  | [] => rfl
  | a :: l => by
    have := split_len p l
    cases h : p a <;> simp [h] <;> omega
theorem filter_eq {l : List Nat} {p q : Nat → Bool} (h : ∀ x, x ∈ l → p x = q x) : l.filter p = l.filter q := List.filter_congr h
/-- Where each class has a multiple of d, so has the whole. -/
theorem part_dvd (d : Nat) (R : Nat → Nat → Bool) : ∀ (k : Nat) (l : List Nat), l.length ≤ k → (∀ x, x ∈ l → R x x = true) → (∀ x y z, x ∈ l → y ∈ l → z ∈ l → R x y = true → R x z = R y z) → (∀ x, x ∈ l → d ∣ (l.filter (R x)).length) → d ∣ l.length
  | 0, l, hl, _, _, _ => by
    have : l = [] := List.length_eq_zero_iff.1 (by omega)
    subst this; exact ⟨0, rfl⟩
  | k + 1, [], _, _, _, _ => ⟨0, rfl⟩
  | k + 1, x :: t, hl, hr, ht, hd => by
    have hx : x ∈ x :: t := by simp
    rw [split_len (R x) (x :: t)]
    refine Nat.dvd_add (hd x hx) (part_dvd d R k _ ?_ ?_ ?_ ?_)
    · rw [List.filter_cons, if_neg (by simp [hr x hx])]
      have := List.length_filter_le (fun y => !R x y) t
      simp at hl; omega
    · intro y hy
      exact hr y ((List.mem_filter.1 hy).1)
    · intro a b c ha hb hc
      exact ht a b c ((List.mem_filter.1 ha).1) ((List.mem_filter.1 hb).1) ((List.mem_filter.1 hc).1)
    · intro y hy
      obtain ⟨hy1, hy2⟩ := List.mem_filter.1 hy
      rw [List.filter_filter, filter_eq (q := R y)]
      · exact hd y hy1
      · intro z hz
        cases hyz : R y z with
        | false => simp
        | true =>
          have : R x z = false := by
            cases hxz : R x z with
            | false => rfl
            | true =>
              have e1 := ht x z y hx hz hy1 hxz
              have e2 := ht y z y hy1 hz hy1 hyz
              rw [hr y hy1] at e2
              rw [← e2] at e1
              simp [e1] at hy2
          simp [this]
/-- Where each fibre has f things. -/
theorem fib_len (φ : Nat → Nat) (f : Nat) : ∀ (K A : List Nat), K.Nodup → (∀ x, x ∈ A → φ x ∈ K) → (∀ k, k ∈ K → (A.filter (fun x => decide (φ x = k))).length = f) → A.length = K.length * f
  | [], A, _, hm, _ => by
    have : A = [] := List.eq_nil_iff_forall_not_mem.2 (fun x hx => by simpa using hm x hx)
    subst this; simp
  | k :: K, A, hn, hm, hf => by
    rw [List.nodup_cons] at hn
    have h1 := fib_len φ f K (A.filter (fun y => !decide (φ y = k))) hn.2 (fun x hx => by
      obtain ⟨hx1, hx2⟩ := List.mem_filter.1 hx
      simp at hx2
      have := hm x hx1
      simp [hx2] at this
      exact this) (fun j hj => by
        rw [List.filter_filter, filter_eq (q := fun x => decide (φ x = j))]
        · exact hf j (by simp [hj])
        · intro x _
          by_cases e : φ x = j
          · have : ¬ j = k := fun h => hn.1 (by rw [← h]; exact hj)
            simp [e, this]
          · simp [e])
    rw [split_len (fun y => decide (φ y = k)) A, hf k (by simp), h1, List.length_cons, Nat.add_mul]
    omega

/-- The least of what there is. -/
theorem least_pos {P : Nat → Prop} : ∀ k, 0 < k → P k → ∃ d, 0 < d ∧ P d ∧ ∀ i, 0 < i → i < d → ¬ P i := by
  intro k
  induction k using Nat.strongRecOn with
  | _ k ih =>
    intro hk hP
    rcases Classical.em (∃ i, 0 < i ∧ i < k ∧ P i) with ⟨i, hi, hl, hp⟩ | h
    · exact ih i hl hi hp
    · exact ⟨k, hk, hP, fun i hi hl hp => h ⟨i, hi, hl, hp⟩⟩
theorem po_back (h : Fg l m e) {a : Nat} (ha : a ∈ l) {i j : Nat} (hij : i ≤ j) (he : po m e a i = po m e a j) : po m e a (j - i) = e := by
  have h1 : po m e a j = m (po m e a i) (po m e a (j - i)) := by rw [← po_add h ha]; congr 1; omega
  rw [← he] at h1
  have h2 : m (po m e a i) e = m (po m e a i) (po m e a (j - i)) := by rw [h.right _ (po_mem h ha i)]; exact h1
  exact (h.can (po_mem h ha i) h.one (po_mem h ha _) h2).symm
/-- A thing's order: powers are the one just at its multiples. -/
theorem order (h : Fg l m e) {a : Nat} (ha : a ∈ l) : ∃ d, 0 < d ∧ ∀ i, po m e a i = e ↔ d ∣ i := by
  have : ∃ k, 0 < k ∧ po m e a k = e := by
    rcases Classical.em (∃ i j, i < j ∧ j < l.length + 1 ∧ po m e a i = po m e a j) with ⟨i, j, hij, _, he⟩ | hno
    · exact ⟨j - i, by omega, po_back h ha (by omega) he⟩
    · exfalso
      have h1 := nodup_len ((List.range (l.length + 1)).map (po m e a)) l (map_nodup List.nodup_range (fun x y hx hy hxy => by
        rw [List.mem_range] at hx hy
        rcases Nat.lt_trichotomy x y with hl | hl | hl
        · exact absurd ⟨x, y, hl, hy, hxy⟩ hno
        · exact hl
        · exact absurd ⟨y, x, hl, hx, hxy.symm⟩ hno)) (fun z hz => by
          obtain ⟨i, _, rfl⟩ := List.mem_map.1 hz
          exact po_mem h ha i)
      simp at h1
      omega
  obtain ⟨k, hk, hke⟩ := this
  obtain ⟨d, hd, hde, hmin⟩ := least_pos (P := fun k => po m e a k = e) k hk hke
  refine ⟨d, hd, fun i => ⟨fun hi => ?_, fun ⟨q, hq⟩ => ?_⟩⟩
  · rcases Nat.eq_zero_or_pos (i % d) with h0 | h0
    · exact Nat.dvd_of_mod_eq_zero h0
    · exfalso
      refine hmin (i % d) h0 (Nat.mod_lt _ hd) ?_
      have h1 : po m e a i = m (po m e a (d * (i / d))) (po m e a (i % d)) := by rw [← po_add h ha]; congr 1; exact (Nat.div_add_mod i d).symm
      rw [hi, ← po_mul h ha, hde, po_e h, h.left _ (po_mem h ha _)] at h1
      exact h1.symm
  · rw [hq, ← po_mul h ha, hde, po_e h]

/-- A subgroup. -/
theorem sub_fg (h : Fg l m e) {c : List Nat} (hn : c.Nodup) (hs : ∀ x, x ∈ c → x ∈ l) (h1 : e ∈ c) (hc : ∀ a b, a ∈ c → b ∈ c → m a b ∈ c) : Fg c m e := by
  refine ⟨hn, h1, hc, fun a b d ha hb hd => h.ass a b d (hs a ha) (hs b hb) (hs d hd), fun a ha => h.left a (hs a ha), fun a ha => h.right a (hs a ha), fun a ha => ?_⟩
  obtain ⟨d, hd, ho⟩ := order h (hs a ha)
  have hp : ∀ k, po m e a k ∈ c := fun k => by
    induction k with
    | zero => exact h1
    | succ k ih => exact hc _ _ ih ha
  have hd1 : po m e a d = e := (ho d).2 ⟨1, by simp⟩
  refine ⟨po m e a (d - 1), hp _, ?_, ?_⟩
  · rw [← po_one h (hs a ha), po_mul h (hs a ha), ← po_add h (hs a ha), show 1 + 1 * (d - 1) = d by omega]; exact hd1
  · have : m (po m e a (d - 1)) a = po m e a d := by rw [show d = (d - 1) + 1 by omega]; rfl
    rw [this]; exact hd1
/-- Lagrange. -/
theorem lagr (h : Fg l m e) {c : List Nat} (hg : Fg c m e) (hs : ∀ x, x ∈ c → x ∈ l) : c.length ∣ l.length := by
  have hR : ∀ x y, x ∈ l → ((c.any fun k => decide (m x k = y)) = true ↔ ∃ k, k ∈ c ∧ m x k = y) := fun x y _ => by simp
  have hsym : ∀ x y, x ∈ l → y ∈ l → (∃ k, k ∈ c ∧ m x k = y) → ∃ k, k ∈ c ∧ m y k = x := fun x y hx _ ⟨k, hk, e1⟩ => by
    obtain ⟨b, hb, hkb, _⟩ := hg.inv k hk
    exact ⟨b, hb, by rw [← e1, h.ass _ _ _ hx (hs k hk) (hs b hb), hkb, h.right x hx]⟩
  have htr : ∀ x y z, x ∈ l → (∃ k, k ∈ c ∧ m x k = y) → (∃ k, k ∈ c ∧ m y k = z) → ∃ k, k ∈ c ∧ m x k = z := fun x y z hx ⟨k, hk, e1⟩ ⟨j, hj, e2⟩ =>
    ⟨m k j, hg.cl _ _ hk hj, by rw [← h.ass _ _ _ hx (hs k hk) (hs j hj), e1, e2]⟩
  refine part_dvd _ (fun x y => c.any fun k => decide (m x k = y)) l.length l (Nat.le_refl _) (fun x hx => ?_) (fun x y z hx hy hz hxy => ?_) (fun x hx => ?_)
  · rw [hR x x hx]; exact ⟨e, hg.one, h.right x hx⟩
  · rw [hR x y hx] at hxy
    rw [Bool.eq_iff_iff, hR x z hx, hR y z hy]
    exact ⟨fun hz1 => htr y x z hy (hsym x y hx hy hxy) hz1, fun hz1 => htr x y z hx hxy hz1⟩
  · have := bij_len (l1 := c) (l2 := l.filter fun y => c.any fun k => decide (m x k = y)) (m x) hg.nd (h.nd.filter _) (fun k hk => List.mem_filter.2 ⟨h.cl _ _ hx (hs k hk), (hR x _ hx).2 ⟨k, hk, rfl⟩⟩) (fun a b ha hb hab => h.can hx (hs a ha) (hs b hb) hab) (fun y hy => by
      obtain ⟨_, h2⟩ := List.mem_filter.1 hy
      exact (hR x y hx).1 h2)
    exact ⟨1, by rw [← this]; simp⟩
/-- The powers of a thing. -/
theorem cyc_fg (h : Fg l m e) {a d : Nat} (ha : a ∈ l) (hd : 0 < d) (ho : ∀ i, po m e a i = e ↔ d ∣ i) : Fg ((List.range d).map (po m e a)) m e ∧ ∀ x, x ∈ (List.range d).map (po m e a) → x ∈ l := by
  have hsub : ∀ x, x ∈ (List.range d).map (po m e a) → x ∈ l := fun x hx => by
    obtain ⟨i, _, rfl⟩ := List.mem_map.1 hx
    exact po_mem h ha i
  have hall : ∀ i, po m e a i ∈ (List.range d).map (po m e a) := fun i => by
    refine List.mem_map.2 ⟨i % d, List.mem_range.2 (Nat.mod_lt _ hd), ?_⟩
    have h1 : po m e a i = m (po m e a (d * (i / d))) (po m e a (i % d)) := by rw [← po_add h ha]; congr 1; exact (Nat.div_add_mod i d).symm
    rw [(ho _).2 ⟨i / d, rfl⟩, h.left _ (po_mem h ha _)] at h1
    exact h1.symm
  refine ⟨sub_fg h (map_nodup List.nodup_range (fun i j hi hj hij => ?_)) hsub (hall 0) (fun x y hx hy => ?_), hsub⟩
  · rw [List.mem_range] at hi hj
    have key : ∀ i j, i < d → j < d → i ≤ j → po m e a i = po m e a j → i = j := fun i j hi hj hle he => by
      have h1 := (ho _).1 (po_back h ha hle he)
      rcases Nat.eq_zero_or_pos (j - i) with h0 | h0
      · omega
      · have := Nat.le_of_dvd h0 h1
        omega
    rcases Nat.le_total i j with hl | hl
    · exact key i j hi hj hl hij
    · exact (key j i hj hi hl hij.symm).symm
  · obtain ⟨i, _, rfl⟩ := List.mem_map.1 hx
    obtain ⟨j, _, rfl⟩ := List.mem_map.1 hy
    rw [← po_add h ha]
    exact hall _
theorem ord_dvd_len (h : Fg l m e) {a d : Nat} (ha : a ∈ l) (hd : 0 < d) (ho : ∀ i, po m e a i = e ↔ d ∣ i) : d ∣ l.length := by
  obtain ⟨h1, h2⟩ := cyc_fg h ha hd ho
  have := lagr h h1 h2
  simpa using this
theorem po_len (h : Fg l m e) {a : Nat} (ha : a ∈ l) : po m e a l.length = e := by
  obtain ⟨d, hd, ho⟩ := order h ha
  exact (ho _).2 (ord_dvd_len h ha hd ho)
/-- How many things are, n times, the one. -/
def cnt (l : List Nat) (m : Nat → Nat → Nat) (e n : Nat) : Nat := (l.filter fun x => decide (po m e x n = e)).length
theorem cnt_gcd (h : Fg l m e) (n : Nat) : cnt l m e n = cnt l m e (Nat.gcd n l.length) := by
  unfold cnt
  rw [filter_eq]
  intro x hx
  obtain ⟨d, hd, ho⟩ := order h hx
  have h1 := ord_dvd_len h hx hd ho
  rw [Bool.eq_iff_iff, decide_eq_true_eq, decide_eq_true_eq, ho, ho]
  exact ⟨fun h2 => Nat.dvd_gcd h2 h1, fun h2 => Nat.dvd_trans h2 (Nat.gcd_dvd_left _ _)⟩
end Go.Proofs.YtmgengplfebmjaaDoor.Fin
