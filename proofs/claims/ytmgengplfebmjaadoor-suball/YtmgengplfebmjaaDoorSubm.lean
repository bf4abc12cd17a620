/- Subgroups of a finite group, as math: what is made by a set, products of two, normal ones. No condition. -/
import Derived.Test.YtmgengplfebmjaaDoorFin
namespace Go.Proofs.YtmgengplfebmjaaDoor.Fin
variable {l : List Nat} {m : Nat → Nat → Nat} {e : Nat}

/-- A subgroup, as a test of things. -/
structure Sg (l : List Nat) (m : Nat → Nat → Nat) (e : Nat) (P : Nat → Prop) : Prop where
  one : P e
  mul : ∀ a b, a ∈ l → b ∈ l → P a → P b → P (m a b)
theorem Sg.pow (h : Fg l m e) {P : Nat → Prop} (S : Sg l m e P) {a : Nat} (ha : a ∈ l) (hp : P a) : ∀ k, P (po m e a k)
  | 0 => S.one
  | k + 1 => S.mul _ _ (po_mem h ha k) ha (Sg.pow h S ha hp k) hp
/-- Inverses come by themselves. -/
theorem Sg.inv (h : Fg l m e) {P : Nat → Prop} (S : Sg l m e P) {a b : Nat} (ha : a ∈ l) (hb : b ∈ l) (hab : m a b = e) (hp : P a) : P b := by
  obtain ⟨d, hd, ho⟩ := order h ha
  have h1 : po m e a d = e := (ho d).2 (Nat.dvd_refl d)
  have h2 : m a (po m e a (d - 1)) = e := by
    have : po m e a d = m (po m e a 1) (po m e a (d - 1)) := by rw [← po_add h ha]; congr 1; omega
    rw [po_one h ha] at this
    rw [← this]; exact h1
  have h3 : b = po m e a (d - 1) := h.can ha hb (po_mem h ha _) (by rw [hab, h2])
  rw [h3]; exact S.pow h ha hp _
/-- What a set makes: what is in each subgroup that has it. -/
def Gen (l : List Nat) (m : Nat → Nat → Nat) (e : Nat) (X : Nat → Prop) (a : Nat) : Prop := ∀ P : Nat → Prop, Sg l m e P → (∀ x, x ∈ l → X x → P x) → P a
theorem Gen.sg (X : Nat → Prop) : Sg l m e (Gen l m e X) := ⟨fun _ S _ => S.one, fun a b ha hb h1 h2 P S hx => S.mul a b ha hb (h1 P S hx) (h2 P S hx)⟩
theorem Gen.base {X : Nat → Prop} {x : Nat} (hx : x ∈ l) (h : X x) : Gen l m e X x := fun _ _ hP => hP x hx h
theorem Gen.least {X P : Nat → Prop} (S : Sg l m e P) (hP : ∀ x, x ∈ l → X x → P x) {a : Nat} (h : Gen l m e X a) : P a := h P S hP
theorem Gen.mono {X Y : Nat → Prop} (hXY : ∀ x, x ∈ l → X x → Y x) {a : Nat} (h : Gen l m e X a) : Gen l m e Y a := fun P S hP => h P S (fun x hx hX => hP x hx (hXY x hx hX))
/-- A subgroup's things, as a group. -/
theorem sg_fg (h : Fg l m e) {p : Nat → Bool} (S : Sg l m e (fun a => p a = true)) : Fg (l.filter p) m e := by
  refine sub_fg h (h.nd.filter _) (fun x hx => (List.mem_filter.1 hx).1) (List.mem_filter.2 ⟨h.one, S.one⟩) (fun a b ha hb => ?_)
  obtain ⟨ha1, ha2⟩ := List.mem_filter.1 ha
  obtain ⟨hb1, hb2⟩ := List.mem_filter.1 hb
  exact List.mem_filter.2 ⟨h.cl _ _ ha1 hb1, S.mul a b ha1 hb1 ha2 hb2⟩
theorem sg_dvd (h : Fg l m e) {p : Nat → Bool} (S : Sg l m e (fun a => p a = true)) : (l.filter p).length ∣ l.length :=
  lagr h (sg_fg h S) (fun _ hx => (List.mem_filter.1 hx).1)
theorem Sg.both {P Q : Nat → Prop} (S : Sg l m e P) (T : Sg l m e Q) : Sg l m e (fun a => P a ∧ Q a) :=
  ⟨⟨S.one, T.one⟩, fun a b ha hb h1 h2 => ⟨S.mul a b ha hb h1.1 h2.1, T.mul a b ha hb h1.2 h2.2⟩⟩

/-- Numbers of pairs. -/
theorem pair_code {N x y : Nat} (hy : y < N) : (x * N + y) / N = x ∧ (x * N + y) % N = y := by
  have hN : 0 < N := by omega
  constructor
  · rw [Nat.mul_comm, Nat.mul_add_div hN, Nat.div_eq_of_lt hy, Nat.add_zero]
  · rw [Nat.mul_comm, Nat.mul_add_mod, Nat.mod_eq_of_lt hy]
theorem filter_mem_len {l A : List Nat} (hl : l.Nodup) (hA : A.Nodup) (hs : ∀ x, x ∈ A → x ∈ l) (q : Nat → Bool) (hq : ∀ x, x ∈ l → (q x = true ↔ x ∈ A)) : (l.filter q).length = A.length :=
  bij_len (fun x => x) (hl.filter _) hA (fun x hx => (hq x (List.mem_filter.1 hx).1).1 (List.mem_filter.1 hx).2) (fun _ _ _ _ h => h) (fun y hy => ⟨y, List.mem_filter.2 ⟨hs y hy, (hq y (hs y hy)).2 hy⟩, rfl⟩)
/-- THE PRODUCT FORMULA: the products of two subgroups, times what both have, are the products of how many they have. -/
theorem prod_formula (h : Fg l m e) {N : Nat} (hN : ∀ x, x ∈ l → x < N) {p q : Nat → Bool} (S : Sg l m e (fun a => p a = true)) (T : Sg l m e (fun a => q a = true)) (r : Nat → Bool)
    (hr : ∀ x, x ∈ l → (r x = true ↔ ∃ a b, a ∈ l ∧ b ∈ l ∧ p a = true ∧ q b = true ∧ m a b = x)) :
    (l.filter r).length * (l.filter (fun a => p a && q a)).length = (l.filter p).length * (l.filter q).length := by
  have nd1 : (l.filter r).Nodup := h.nd.filter _
  have nd2 : (l.filter p).Nodup := h.nd.filter _
  -- pairs (x, a) with a of the first, and x of the product a b
  have key1 := fib_len (fun c => c / N) (l.filter (fun a => p a && q a)).length (l.filter r) ((List.range (N * N)).filter fun c => decide (c / N ∈ l) && (decide (c % N ∈ l) && (p (c % N) && l.any fun b => q b && decide (m (c % N) b = c / N)))) nd1
    (fun c hc => by
      obtain ⟨_, h2⟩ := List.mem_filter.1 hc
      simp only [Bool.and_eq_true, decide_eq_true_eq, List.any_eq_true] at h2
      obtain ⟨h3, h4, h5, b, hb, h6, h7⟩ := h2
      exact List.mem_filter.2 ⟨h3, (hr _ h3).2 ⟨_, b, h4, hb, h5, h6, h7⟩⟩)
    (fun x hx => by
      obtain ⟨hx1, hx2⟩ := List.mem_filter.1 hx
      obtain ⟨a0, b0, ha0, hb0, hpa, hqb, hab⟩ := (hr x hx1).1 hx2
      have hxN := hN x hx1
      symm
      refine bij_len (fun c => x * N + m a0 c) (h.nd.filter _) (((List.nodup_range).filter _).filter _) (fun c hc => ?_) (fun c d hc hd hcd => ?_) (fun y hy => ?_)
      · obtain ⟨hc1, hc2⟩ := List.mem_filter.1 hc
        simp only [Bool.and_eq_true] at hc2
        have hm := h.cl _ _ ha0 hc1
        obtain ⟨e1, e2⟩ := pair_code (x := x) (hN _ hm)
        obtain ⟨ci, hci, hcc, hcc'⟩ := h.inv c hc1
        refine List.mem_filter.2 ⟨List.mem_filter.2 ⟨List.mem_range.2 ?_, ?_⟩, ?_⟩
        · have h8 : (x + 1) * N ≤ N * N := Nat.mul_le_mul_right N hxN
          have h9 := hN _ hm
          rw [Nat.add_mul] at h8; omega
        · simp only [Bool.and_eq_true, decide_eq_true_eq, List.any_eq_true]
          rw [e1, e2]
          refine ⟨hx1, hm, S.mul a0 c ha0 hc1 hpa hc2.1, m ci b0, h.cl _ _ hci hb0, T.mul ci b0 hci hb0 (T.inv h hc1 hci hcc hc2.2) hqb, ?_⟩
          rw [h.ass _ _ _ ha0 hc1 (h.cl _ _ hci hb0), ← h.ass _ _ _ hc1 hci hb0, hcc, h.left b0 hb0, hab]
        · rw [decide_eq_true_eq]; exact e1
      · obtain ⟨hc1, _⟩ := List.mem_filter.1 hc
        obtain ⟨hd1, _⟩ := List.mem_filter.1 hd
        exact h.can ha0 hc1 hd1 (Nat.add_left_cancel hcd)
      · obtain ⟨hy1, hy2⟩ := List.mem_filter.1 hy
        obtain ⟨_, hy3⟩ := List.mem_filter.1 hy1
        rw [decide_eq_true_eq] at hy2
        simp only [Bool.and_eq_true, decide_eq_true_eq, List.any_eq_true] at hy3
        rw [hy2] at hy3
        obtain ⟨_, h4, h5, b, hb, h6, h7⟩ := hy3
        obtain ⟨ai, hai, haa, haa'⟩ := h.inv a0 ha0
        obtain ⟨bi, hbi, hbb, _⟩ := h.inv b hb
        have h10 : m ai (y % N) = m b0 bi := by
          have : m (y % N) b = m a0 b0 := by rw [h7, hab]
          have h11 : m ai (m (m (y % N) b) bi) = m ai (m (m a0 b0) bi) := by rw [this]
          rw [h.ass _ _ _ h4 hb hbi, hbb, h.right _ h4, h.ass _ _ _ ha0 hb0 hbi, ← h.ass _ _ _ hai ha0 (h.cl _ _ hb0 hbi), haa', h.left _ (h.cl _ _ hb0 hbi)] at h11
          exact h11
        refine ⟨m ai (y % N), List.mem_filter.2 ⟨h.cl _ _ hai h4, ?_⟩, ?_⟩
        · simp only [Bool.and_eq_true]
          exact ⟨S.mul ai _ hai h4 (S.inv h ha0 hai haa hpa) h5, by rw [h10]; exact T.mul b0 bi hb0 hbi hqb (T.inv h hb hbi hbb h6)⟩
        · show x * N + m a0 (m ai (y % N)) = y
          rw [← h.ass _ _ _ ha0 hai h4, haa, h.left _ h4, ← hy2, Nat.mul_comm]
          exact Nat.div_add_mod y N)
  have key2 := fib_len (fun c => c % N) (l.filter q).length (l.filter p) ((List.range (N * N)).filter fun c => decide (c / N ∈ l) && (decide (c % N ∈ l) && (p (c % N) && l.any fun b => q b && decide (m (c % N) b = c / N)))) nd2
    (fun c hc => by
      obtain ⟨_, h2⟩ := List.mem_filter.1 hc
      simp only [Bool.and_eq_true, decide_eq_true_eq, List.any_eq_true] at h2
      exact List.mem_filter.2 ⟨h2.2.1, h2.2.2.1⟩)
    (fun a ha => by
      obtain ⟨ha1, ha2⟩ := List.mem_filter.1 ha
      symm
      refine bij_len (fun b => m a b * N + a) (h.nd.filter _) (((List.nodup_range).filter _).filter _) (fun b hb => ?_) (fun b d hb hd hbd => ?_) (fun y hy => ?_)
      · obtain ⟨hb1, hb2⟩ := List.mem_filter.1 hb
        have hm := h.cl _ _ ha1 hb1
        obtain ⟨e1, e2⟩ := pair_code (x := m a b) (hN _ ha1)
        refine List.mem_filter.2 ⟨List.mem_filter.2 ⟨List.mem_range.2 ?_, ?_⟩, ?_⟩
        · have h8 : (m a b + 1) * N ≤ N * N := Nat.mul_le_mul_right N (hN _ hm)
          have h9 := hN _ ha1
          rw [Nat.add_mul] at h8; omega
        · simp only [Bool.and_eq_true, decide_eq_true_eq, List.any_eq_true]
          rw [e1, e2]
          exact ⟨hm, ha1, ha2, b, hb1, hb2, rfl⟩
        · rw [decide_eq_true_eq]; exact e2
      · obtain ⟨hb1, _⟩ := List.mem_filter.1 hb
        obtain ⟨hd1, _⟩ := List.mem_filter.1 hd
        have h1 := (pair_code (x := m a b) (hN _ ha1)).1
        have h2 := (pair_code (x := m a d) (hN _ ha1)).1
        have hbd' : m a b * N + a = m a d * N + a := hbd
        rw [hbd'] at h1
        exact h.can ha1 hb1 hd1 (by rw [← h1, h2])
      · obtain ⟨hy1, hy2⟩ := List.mem_filter.1 hy
        obtain ⟨_, hy3⟩ := List.mem_filter.1 hy1
        rw [decide_eq_true_eq] at hy2
        simp only [Bool.and_eq_true, decide_eq_true_eq, List.any_eq_true] at hy3
        rw [hy2] at hy3
        obtain ⟨_, _, _, b, hb, h6, h7⟩ := hy3
        refine ⟨b, List.mem_filter.2 ⟨hb, h6⟩, ?_⟩
        show m a b * N + a = y
        rw [h7, ← hy2, Nat.mul_comm]
        exact Nat.div_add_mod y N)
  rw [← key1, ← key2]
end Go.Proofs.YtmgengplfebmjaaDoor.Fin
