/- Subgroups as math, on: conjugates, normal ones, core, closure, normaliser, centre, commutators; greatest subgroups and what no set needs. No condition. -/
import Derived.Test.YtmgengplfebmjaaDoorSubm
namespace Go.Proofs.YtmgengplfebmjaaDoor.Fin
variable {l : List Nat} {m : Nat → Nat → Nat} {e : Nat} {iv : Nat → Nat}

/-- A function that gives inverses. -/
def Iv (l : List Nat) (m : Nat → Nat → Nat) (e : Nat) (iv : Nat → Nat) : Prop := ∀ a, a ∈ l → iv a ∈ l ∧ m a (iv a) = e ∧ m (iv a) a = e
/-- x conjugated by a. -/
def cj (m : Nat → Nat → Nat) (iv : Nat → Nat) (x a : Nat) : Nat := m (iv a) (m x a)
theorem cj_mem (h : Fg l m e) (V : Iv l m e iv) {x a : Nat} (hx : x ∈ l) (ha : a ∈ l) : cj m iv x a ∈ l := h.cl _ _ (V a ha).1 (h.cl _ _ hx ha)
/-- a times the conjugate is x times a. -/
theorem cj_eq (h : Fg l m e) (V : Iv l m e iv) {x a : Nat} (hx : x ∈ l) (ha : a ∈ l) : m a (cj m iv x a) = m x a := by
  obtain ⟨hi, h1, _⟩ := V a ha
  unfold cj
  rw [← h.ass _ _ _ ha hi (h.cl _ _ hx ha), h1, h.left _ (h.cl _ _ hx ha)]
theorem cj_unique (h : Fg l m e) (V : Iv l m e iv) {x y a : Nat} (hx : x ∈ l) (hy : y ∈ l) (ha : a ∈ l) (hc : m a y = m x a) : cj m iv x a = y :=
  h.can ha (cj_mem h V hx ha) hy (by rw [cj_eq h V hx ha, hc])
theorem cj_mul (h : Fg l m e) (V : Iv l m e iv) {x y a : Nat} (hx : x ∈ l) (hy : y ∈ l) (ha : a ∈ l) : cj m iv (m x y) a = m (cj m iv x a) (cj m iv y a) := by
  have hcx := cj_mem h V hx ha
  have hcy := cj_mem h V hy ha
  refine cj_unique h V (h.cl _ _ hx hy) (h.cl _ _ hcx hcy) ha ?_
  rw [← h.ass _ _ _ ha hcx hcy, cj_eq h V hx ha, h.ass _ _ _ hx ha hcy, cj_eq h V hy ha, ← h.ass _ _ _ hx hy ha]
theorem cj_one (h : Fg l m e) (V : Iv l m e iv) {a : Nat} (ha : a ∈ l) : cj m iv e a = e := cj_unique h V h.one h.one ha (by rw [h.left a ha, h.right a ha])
theorem cj_id (h : Fg l m e) (V : Iv l m e iv) {x : Nat} (hx : x ∈ l) : cj m iv x e = x := cj_unique h V hx hx h.one (by rw [h.left x hx, h.right x hx])
theorem cj_cj (h : Fg l m e) (V : Iv l m e iv) {x a b : Nat} (hx : x ∈ l) (ha : a ∈ l) (hb : b ∈ l) : cj m iv (cj m iv x a) b = cj m iv x (m a b) := by
  have hc := cj_mem h V hx ha
  have hm := h.cl _ _ ha hb
  have hcm := cj_mem h V hx hm
  refine cj_unique h V hc hcm hb ?_
  apply h.can ha (h.cl _ _ hb hcm) (h.cl _ _ hc hb)
  rw [← h.ass _ _ _ ha hb hcm, cj_eq h V hx hm, ← h.ass _ _ _ ha hc hb, cj_eq h V hx ha, h.ass _ _ _ hx ha hb]
theorem cj_back (h : Fg l m e) (V : Iv l m e iv) {x a : Nat} (hx : x ∈ l) (ha : a ∈ l) : cj m iv (cj m iv x a) (iv a) = x ∧ cj m iv (cj m iv x (iv a)) a = x := by
  obtain ⟨hi, h1, h2⟩ := V a ha
  constructor
  · rw [cj_cj h V hx ha hi, h1, cj_id h V hx]
  · rw [cj_cj h V hx hi ha, h2, cj_id h V hx]
/-- Normal: it stays, whatever it is conjugated by. -/
def Nm (l : List Nat) (m : Nat → Nat → Nat) (iv : Nat → Nat) (P : Nat → Prop) : Prop := ∀ x a, x ∈ l → a ∈ l → P x → P (cj m iv x a)

/-- The core. -/
def Core (l : List Nat) (m : Nat → Nat → Nat) (iv : Nat → Nat) (P : Nat → Prop) (y : Nat) : Prop := ∀ a, a ∈ l → P (cj m iv y a)
theorem core_sg (h : Fg l m e) (V : Iv l m e iv) {P : Nat → Prop} (S : Sg l m e P) : Sg l m e (Core l m iv P) :=
  ⟨fun a ha => by rw [cj_one h V ha]; exact S.one, fun x y hx hy h1 h2 a ha => by rw [cj_mul h V hx hy ha]; exact S.mul _ _ (cj_mem h V hx ha) (cj_mem h V hy ha) (h1 a ha) (h2 a ha)⟩
theorem core_nm (h : Fg l m e) (V : Iv l m e iv) {P : Nat → Prop} : Nm l m iv (Core l m iv P) := fun x a hx ha hc b hb => by rw [cj_cj h V hx ha hb]; exact hc _ (h.cl _ _ ha hb)
theorem core_in (h : Fg l m e) (V : Iv l m e iv) {P : Nat → Prop} {x : Nat} (hx : x ∈ l) (hc : Core l m iv P x) : P x := by have := hc e h.one; rwa [cj_id h V hx] at this
theorem core_all {P : Nat → Prop} (hN : Nm l m iv P) {x : Nat} (hx : x ∈ l) (hp : P x) : Core l m iv P x := fun a ha => hN x a hx ha hp

/-- The closure: what all conjugates make. -/
def Conj (l : List Nat) (m : Nat → Nat → Nat) (iv : Nat → Nat) (X : Nat → Prop) (y : Nat) : Prop := ∃ x a, x ∈ l ∧ a ∈ l ∧ X x ∧ cj m iv x a = y
theorem gen_nm (h : Fg l m e) (V : Iv l m e iv) {X : Nat → Prop} (hX : Nm l m iv X) : Nm l m iv (Gen l m e X) := by
  intro x a hx ha hg
  have S : Sg l m e (fun y => y ∈ l → Gen l m e X (cj m iv y a)) := by
    refine ⟨fun _ => by rw [cj_one h V ha]; exact (Gen.sg X).one, fun u v hu hv h1 h2 _ => ?_⟩
    rw [cj_mul h V hu hv ha]
    exact (Gen.sg X).mul _ _ (cj_mem h V hu ha) (cj_mem h V hv ha) (h1 hu) (h2 hv)
  exact Gen.least S (fun y hy hXy _ => Gen.base (cj_mem h V hy ha) (hX y a hy ha hXy)) hg hx
theorem conj_nm (h : Fg l m e) (V : Iv l m e iv) {X : Nat → Prop} : Nm l m iv (Conj l m iv X) := by
  rintro y b _ hb ⟨x, a, hx, ha, hX, rfl⟩
  exact ⟨x, m a b, hx, h.cl _ _ ha hb, hX, (cj_cj h V hx ha hb).symm⟩
theorem clos_nm (h : Fg l m e) (V : Iv l m e iv) {X : Nat → Prop} : Nm l m iv (Gen l m e (Conj l m iv X)) := gen_nm h V (conj_nm h V)
theorem clos_has (h : Fg l m e) (V : Iv l m e iv) {X : Nat → Prop} {x : Nat} (hx : x ∈ l) (hX : X x) : Gen l m e (Conj l m iv X) x := Gen.base hx ⟨x, e, hx, h.one, hX, cj_id h V hx⟩
theorem clos_least {X P : Nat → Prop} (S : Sg l m e P) (hN : Nm l m iv P) (hP : ∀ x, x ∈ l → X x → P x) {a : Nat} (hc : Gen l m e (Conj l m iv X) a) : P a :=
  Gen.least S (fun y _ ⟨x, b, hx, hb, hX, hy⟩ => by rw [← hy]; exact hN x b hx hb (hP x hx hX)) hc

/-- The normaliser: by which a set, conjugated, is itself. -/
def Nor (l : List Nat) (m : Nat → Nat → Nat) (iv : Nat → Nat) (P : Nat → Prop) (a : Nat) : Prop := ∀ y, y ∈ l → ((∃ x, x ∈ l ∧ P x ∧ cj m iv x a = y) ↔ P y)
theorem nor_of (h : Fg l m e) (V : Iv l m e iv) {P : Nat → Prop} {a : Nat} (ha : a ∈ l) (h1 : ∀ x, x ∈ l → P x → P (cj m iv x a)) (h2 : ∀ x, x ∈ l → P x → P (cj m iv x (iv a))) : Nor l m iv P a := fun y hy =>
  ⟨fun ⟨x, hx, hp, hc⟩ => by rw [← hc]; exact h1 x hx hp, fun hp => ⟨cj m iv y (iv a), cj_mem h V hy (V a ha).1, h2 y hy hp, (cj_back h V hy ha).2⟩⟩
theorem nor_sub (h : Fg l m e) (V : Iv l m e iv) {P : Nat → Prop} (S : Sg l m e P) {a : Nat} (ha : a ∈ l) (hp : P a) : Nor l m iv P a := by
  obtain ⟨hi, h1, h2⟩ := V a ha
  have hpi : P (iv a) := S.inv h ha hi h1 hp
  obtain ⟨hii, h3, _⟩ := V (iv a) hi
  have hpii : P (iv (iv a)) := S.inv h hi hii h3 hpi
  exact nor_of h V ha (fun x hx hx' => S.mul _ _ hi (h.cl _ _ hx ha) hpi (S.mul _ _ hx ha hx' hp)) (fun x hx hx' => S.mul _ _ hii (h.cl _ _ hx hi) hpii (S.mul _ _ hx hi hx' hpi))
theorem nor_all (h : Fg l m e) (V : Iv l m e iv) {P : Nat → Prop} : (∀ a, a ∈ l → Nor l m iv P a) ↔ Nm l m iv P :=
  ⟨fun hn x a hx ha hp => (hn a ha _ (cj_mem h V hx ha)).1 ⟨x, hx, hp, rfl⟩, fun hn a ha => nor_of h V ha (fun x hx hp => hn x a hx ha hp) (fun x hx hp => hn x (iv a) hx (V a ha).1 hp)⟩

/-- The centre. -/
def Cen' (l : List Nat) (m : Nat → Nat → Nat) (a : Nat) : Prop := ∀ x, x ∈ l → m a x = m x a
theorem cen_sg (h : Fg l m e) : Sg l m e (Cen' l m) :=
  ⟨fun x hx => by rw [h.left x hx, h.right x hx], fun a b ha hb h1 h2 x hx => by rw [h.ass _ _ _ ha hb hx, h2 x hx, ← h.ass _ _ _ ha hx hb, h1 x hx, h.ass _ _ _ hx ha hb]⟩
theorem cen_cj (h : Fg l m e) (V : Iv l m e iv) {z a : Nat} (hz : z ∈ l) (ha : a ∈ l) (hc : Cen' l m z) : cj m iv z a = z := cj_unique h V hz hz ha (hc a ha).symm
theorem cen_nm (h : Fg l m e) (V : Iv l m e iv) : Nm l m iv (Cen' l m) := fun z a hz ha hc => by rw [cen_cj h V hz ha hc]; exact hc
theorem cen_nor (h : Fg l m e) (V : Iv l m e iv) {P : Nat → Prop} {z : Nat} (hz : z ∈ l) (hc : Cen' l m z) : Nor l m iv P z := by
  have hf : ∀ x, x ∈ l → cj m iv x z = x := fun x hx => cj_unique h V hx hx hz (hc x hx)
  exact fun y _ => ⟨fun ⟨x, hx, hp, hxy⟩ => by rw [hf x hx] at hxy; rw [← hxy]; exact hp, fun hp => ⟨y, ‹y ∈ l›, hp, hf y ‹y ∈ l›⟩⟩

/-- Commutators. -/
def cm (m : Nat → Nat → Nat) (iv : Nat → Nat) (a b : Nat) : Nat := m (m (iv a) (iv b)) (m a b)
theorem cm_mem (h : Fg l m e) (V : Iv l m e iv) {a b : Nat} (ha : a ∈ l) (hb : b ∈ l) : cm m iv a b ∈ l := h.cl _ _ (h.cl _ _ (V a ha).1 (V b hb).1) (h.cl _ _ ha hb)
theorem cm_eq (h : Fg l m e) (V : Iv l m e iv) {a b : Nat} (ha : a ∈ l) (hb : b ∈ l) : m (m b a) (cm m iv a b) = m a b := by
  obtain ⟨hi, h1, _⟩ := V a ha
  obtain ⟨hj, h2, _⟩ := V b hb
  unfold cm
  rw [← h.ass _ _ _ (h.cl _ _ hb ha) (h.cl _ _ hi hj) (h.cl _ _ ha hb), h.ass _ _ _ hb ha (h.cl _ _ hi hj), ← h.ass _ _ _ ha hi hj, h1, h.left _ hj, h2, h.left _ (h.cl _ _ ha hb)]
theorem cm_one (h : Fg l m e) (V : Iv l m e iv) {a b : Nat} (ha : a ∈ l) (hb : b ∈ l) : cm m iv a b = e ↔ m a b = m b a := by
  have h1 := cm_eq h V ha hb
  constructor
  · intro h2
    rw [h2, h.right _ (h.cl _ _ hb ha)] at h1
    exact h1.symm
  · intro h2
    exact h.can (h.cl _ _ hb ha) (cm_mem h V ha hb) h.one (by rw [h1, h.right _ (h.cl _ _ hb ha), h2])
theorem cm_cj (h : Fg l m e) (V : Iv l m e iv) {a b c : Nat} (ha : a ∈ l) (hb : b ∈ l) (hc : c ∈ l) : cj m iv (cm m iv a b) c = cm m iv (cj m iv a c) (cj m iv b c) := by
  have hac := cj_mem h V ha hc
  have hbc := cj_mem h V hb hc
  apply h.can (h.cl _ _ hbc hac) (cj_mem h V (cm_mem h V ha hb) hc) (cm_mem h V hac hbc)
  rw [cm_eq h V hac hbc, ← cj_mul h V hb ha hc, ← cj_mul h V (h.cl _ _ hb ha) (cm_mem h V ha hb) hc, cm_eq h V ha hb, cj_mul h V ha hb hc]
def Cms (l : List Nat) (m : Nat → Nat → Nat) (iv : Nat → Nat) (y : Nat) : Prop := ∃ a b, a ∈ l ∧ b ∈ l ∧ cm m iv a b = y
theorem cms_nm (h : Fg l m e) (V : Iv l m e iv) : Nm l m iv (Cms l m iv) := by
  rintro y c _ hc ⟨a, b, ha, hb, rfl⟩
  exact ⟨_, _, cj_mem h V ha hc, cj_mem h V hb hc, (cm_cj h V ha hb hc).symm⟩
theorem der_nm (h : Fg l m e) (V : Iv l m e iv) : Nm l m iv (Gen l m e (Cms l m iv)) := gen_nm h V (cms_nm h V)
theorem der_one (h : Fg l m e) (V : Iv l m e iv) : (∀ a, a ∈ l → Gen l m e (Cms l m iv) a → a = e) ↔ ∀ a b, a ∈ l → b ∈ l → m a b = m b a := by
  constructor
  · intro h1 a b ha hb
    exact (cm_one h V ha hb).1 (h1 _ (cm_mem h V ha hb) (Gen.base (cm_mem h V ha hb) ⟨a, b, ha, hb, rfl⟩))
  · intro h1 a _ hg
    exact Gen.least (P := fun a => a = e) ⟨rfl, fun a b _ _ h2 h3 => by rw [h2, h3, h.left e h.one]⟩ (fun x _ ⟨a, b, ha, hb, hx⟩ => by rw [← hx]; exact (cm_one h V ha hb).2 (h1 a b ha hb)) hg

/-- A test for what is so. -/
theorem test_of (P : Nat → Prop) : ∃ q : Nat → Bool, ∀ a, q a = true ↔ P a := ⟨fun a => @decide (P a) (Classical.propDecidable _), fun a => by simp⟩
/-- A subgroup that is not all lies in a greatest such one. -/
structure Mx (l : List Nat) (m : Nat → Nat → Nat) (e : Nat) (M : Nat → Prop) : Prop where
  sg : Sg l m e M
  less : ∃ x, x ∈ l ∧ ¬ M x
  top : ∀ P : Nat → Prop, Sg l m e P → (∀ x, x ∈ l → M x → P x) → (∃ x, x ∈ l ∧ P x ∧ ¬ M x) → ∀ x, x ∈ l → P x
theorem mx_over (h : Fg l m e) : ∀ (k : Nat) (p : Nat → Bool), Sg l m e (fun a => p a = true) → (∃ x, x ∈ l ∧ ¬ p x = true) → l.length - (l.filter p).length ≤ k → ∃ M : Nat → Prop, Mx l m e M ∧ ∀ x, x ∈ l → p x = true → M x
  | 0, p, _, ⟨x, hx, hn⟩, hk => by
    exfalso
    have h1 : (l.filter p).length < l.length := List.length_filter_lt_length_iff_exists.2 ⟨x, hx, hn⟩
    omega
  | k + 1, p, S, hl, hk => by
    rcases Classical.em (∃ P : Nat → Prop, Sg l m e P ∧ (∀ x, x ∈ l → p x = true → P x) ∧ (∃ x, x ∈ l ∧ P x ∧ ¬ p x = true) ∧ ∃ x, x ∈ l ∧ ¬ P x) with ⟨P, SP, h1, ⟨y, hy, hy1, hy2⟩, hz⟩ | hno
    · obtain ⟨q, hq⟩ := test_of P
      have Sq : Sg l m e (fun a => q a = true) := ⟨(hq e).2 SP.one, fun a b ha hb h3 h4 => (hq _).2 (SP.mul a b ha hb ((hq a).1 h3) ((hq b).1 h4))⟩
      have hlt : (l.filter p).length < (l.filter q).length := by
        have e1 : l.filter p = (l.filter q).filter p := by
          rw [List.filter_filter]
          apply filter_eq
          intro x hx
          cases hpx : p x with
          | false => simp
          | true => simp [(hq x).2 (h1 x hx hpx)]
        rw [e1]
        exact List.length_filter_lt_length_iff_exists.2 ⟨y, List.mem_filter.2 ⟨hy, (hq y).2 hy1⟩, hy2⟩
      obtain ⟨M, hM, hin⟩ := mx_over h k q Sq (by obtain ⟨x, hx, hx2⟩ := hz; exact ⟨x, hx, fun h5 => hx2 ((hq x).1 h5)⟩) (by
        have := List.length_filter_le q l
        omega)
      exact ⟨M, hM, fun x hx hpx => hin x hx ((hq x).2 (h1 x hx hpx))⟩
    · refine ⟨fun a => p a = true, ⟨S, hl, fun P SP h1 h2 x hx => ?_⟩, fun _ _ hp => hp⟩
      rcases Classical.em (P x) with h3 | h3
      · exact h3
      · exact absurd ⟨P, SP, h1, h2, x, hx, h3⟩ hno
/-- What is in all greatest subgroups. -/
def Frat (l : List Nat) (m : Nat → Nat → Nat) (e : Nat) (x : Nat) : Prop := ∀ M : Nat → Prop, Mx l m e M → M x
theorem frat_sg : Sg l m e (Frat l m e) := ⟨fun _ hM => hM.sg.one, fun a b ha hb h1 h2 M hM => hM.sg.mul a b ha hb (h1 M hM) (h2 M hM)⟩
/-- FRATTINI: what is in it can be left away. -/
theorem frat_needless (h : Fg l m e) {X : Nat → Prop} (hX : ∀ a, a ∈ l → Gen l m e X a) : ∀ a, a ∈ l → Gen l m e (fun x => X x ∧ ¬ Frat l m e x) a := by
  intro a ha
  rcases Classical.em (∃ x, x ∈ l ∧ ¬ Gen l m e (fun x => X x ∧ ¬ Frat l m e x) x) with ⟨x, hx, hn⟩ | hno
  · exfalso
    obtain ⟨q, hq⟩ := test_of (Gen l m e (fun x => X x ∧ ¬ Frat l m e x))
    have G := Gen.sg (l := l) (m := m) (e := e) (fun x => X x ∧ ¬ Frat l m e x)
    obtain ⟨M, hM, hin⟩ := mx_over h l.length q ⟨(hq e).2 G.one, fun a b ha hb h3 h4 => (hq _).2 (G.mul a b ha hb ((hq a).1 h3) ((hq b).1 h4))⟩ ⟨x, hx, fun h5 => hn ((hq x).1 h5)⟩ (by omega)
    obtain ⟨y, hy, hy2⟩ := hM.less
    apply hy2
    refine Gen.least hM.sg (fun z hz hXz => ?_) (hX y hy)
    rcases Classical.em (Frat l m e z) with h6 | h6
    · exact h6 M hM
    · exact hin z hz ((hq z).2 (Gen.base hz ⟨hXz, h6⟩))
  · rcases Classical.em (Gen l m e (fun x => X x ∧ ¬ Frat l m e x) a) with h1 | h1
    · exact h1
    · exact absurd ⟨a, ha, h1⟩ hno
/-- In it is what with no subgroup that is not all makes all. -/
theorem frat_iff (h : Fg l m e) {x : Nat} (hx : x ∈ l) : Frat l m e x ↔ ∀ p : Nat → Bool, Sg l m e (fun a => p a = true) → (∃ y, y ∈ l ∧ ¬ p y = true) → ∃ z, z ∈ l ∧ ¬ Gen l m e (fun a => p a = true ∨ a = x) z := by
  constructor
  · intro hf p S hl
    obtain ⟨M, hM, hin⟩ := mx_over h l.length p S hl (by omega)
    obtain ⟨z, hz, hz2⟩ := hM.less
    refine ⟨z, hz, fun hg => hz2 (Gen.least hM.sg (fun y hy hp => ?_) hg)⟩
    rcases hp with hp | rfl
    · exact hin y hy hp
    · exact hf M hM
  · intro hp M hM
    rcases Classical.em (M x) with h1 | h1
    · exact h1
    · exfalso
      obtain ⟨q, hq⟩ := test_of M
      obtain ⟨y, hy, hy2⟩ := hM.less
      obtain ⟨z, hz, hz2⟩ := hp q ⟨(hq e).2 hM.sg.one, fun a b ha hb h3 h4 => (hq _).2 (hM.sg.mul a b ha hb ((hq a).1 h3) ((hq b).1 h4))⟩ ⟨y, hy, fun h5 => hy2 ((hq y).1 h5)⟩
      apply hz2
      refine hM.top (Gen l m e (fun a => q a = true ∨ a = x)) (Gen.sg _) (fun u hu hMu => Gen.base hu (.inl ((hq u).2 hMu))) ⟨x, hx, Gen.base hx (.inr rfl), h1⟩ z hz
end Go.Proofs.YtmgengplfebmjaaDoor.Fin
