/- The sets that package sub's subgroups finds: mathematics. -/
import Derived.Test.YtmgengplfebmjaaDoorSg1
import Derived.Test.YtmgengplfebmjaaDoorApi1
namespace Go.Proofs.YtmgengplfebmjaaDoor
open Go Go.RowKit

/-- A set that is made of another one and one thing more. -/
def Mks (n : Nat) (zs : List Int) (e : Nat) (q : Nat → Bool) (b : Nat) (p : Nat → Bool) : Prop := ∀ x, x < n → (p x = true ↔ Mkd n zs e (fun y => q y || decide (y = b)) x)
/-- What is so of the sets that are found, when k of them were made more, and the next with a things. -/
structure SInv (n : Nat) (zs : List Int) (e : Nat) (P : List (Nat → Bool)) (k a : Nat) : Prop where
  sub : ∀ p, p ∈ P → subT n zs e p = true
  nd : (bits n P).Nodup
  one : bs (fun x => decide (x = e)) n ∈ bits n P
  cl : ∀ i q, P[i]? = some q → ∀ b, b < n → (i < k ∨ i = k ∧ b < a) → ∃ p, p ∈ P ∧ Mks n zs e q b p
theorem mks_sub {n e b : Nat} {zs : List Int} {q p : Nat → Bool} (h : Mks n zs e q b p) (he : e < n) (hm : ∀ a b, a < n → b < n → tm n zs a b < n) : subT n zs e p = true := by
  rw [subT_iff]
  refine ⟨(h e he).2 (Fin.Gen.sg _).one, fun x y hx hy h1 h2 => ?_⟩
  have hxn := List.mem_range.1 hx
  have hyn := List.mem_range.1 hy
  exact (h _ (hm x y hxn hyn)).2 ((Fin.Gen.sg _).mul x y hx hy ((h x hxn).1 h1) ((h y hyn).1 h2))
/-- The list, with a set that is put to it, where it is not there yet. -/
def put (n : Nat) (P : List (Nat → Bool)) (p : Nat → Bool) : List (Nat → Bool) := if bs p n ∈ bits n P then P else P ++ [p]
theorem put_get {n i : Nat} {P : List (Nat → Bool)} {q : Nat → Bool} (p : Nat → Bool) (h : P[i]? = some q) : (put n P p)[i]? = some q := by
  unfold put
  split
  · exact h
  · rw [List.getElem?_append_left (List.getElem?_eq_some_iff.1 h).1]; exact h
theorem put_mem {n : Nat} {P : List (Nat → Bool)} {p : Nat → Bool} : ∃ p', p' ∈ put n P p ∧ bs p' n = bs p n := by
  unfold put
  by_cases h : bs p n ∈ bits n P
  · rw [if_pos h]
    unfold bits at h
    obtain ⟨p', h1, h2⟩ := List.mem_map.1 h
    exact ⟨p', h1, h2⟩
  · rw [if_neg h]
    exact ⟨p, by simp, rfl⟩
theorem put_sub {n : Nat} {P : List (Nat → Bool)} {p q : Nat → Bool} (h : q ∈ P) : q ∈ put n P p := by
  unfold put; split
  · exact h
  · simp [h]
theorem SInv.start {n e : Nat} {zs : List Int} (g : IsGrp n zs e) : SInv n zs e [fun x => decide (x = e)] 0 0 where
  sub := fun p hp => by
    rw [List.mem_singleton] at hp
    subst hp
    rw [subT_iff]
    refine ⟨by simp, fun x y _ _ h1 h2 => ?_⟩
    have h1 : x = e := by simpa using h1
    have h2 : y = e := by simpa using h2
    subst h1
    rw [h2]
    simpa using g.left x g.elt
  nd := by simp [bits]
  one := by simp [bits]
  cl := fun i q _ b _ h => by omega
theorem SInv.step {n e k a : Nat} {zs : List Int} {P : List (Nat → Bool)} {q p : Nat → Bool} (g : IsGrp n zs e) (h : SInv n zs e P k a) (hq : P[k]? = some q) (hp : Mks n zs e q a p) : SInv n zs e (put n P p) k (a + 1) := by
  have hps := mks_sub hp g.elt (fun a b ha hb => tm_lt g.tab ha hb)
  refine ⟨fun r hr => ?_, ?_, ?_, fun i r hi b hb hc => ?_⟩
  · unfold put at hr
    by_cases h9 : bs p n ∈ bits n P
    · rw [if_pos h9] at hr; exact h.sub r hr
    · rw [if_neg h9] at hr
      rcases List.mem_append.1 hr with hr | hr
      · exact h.sub r hr
      · rw [List.mem_singleton] at hr; subst hr; exact hps
  · unfold put
    by_cases h9 : bs p n ∈ bits n P
    · rw [if_pos h9]; exact h.nd
    · rw [if_neg h9, bits_snoc, List.nodup_append]
      refine ⟨h.nd, by simp, fun x hx y hy => ?_⟩
      rw [List.mem_singleton] at hy
      subst hy
      intro e9
      subst e9
      exact h9 hx
  · unfold put
    by_cases h9 : bs p n ∈ bits n P
    · rw [if_pos h9]; exact h.one
    · rw [if_neg h9, bits_snoc, List.mem_append]; exact .inl h.one
  · by_cases hiP : i < P.length
    · have hri : P[i]? = some r := by
        have := put_get (n := n) p (List.getElem?_eq_getElem hiP)
        rw [this] at hi
        rw [← hi]
        exact List.getElem?_eq_getElem hiP
      by_cases hn9 : i = k ∧ b = a
      · obtain ⟨rfl, rfl⟩ := hn9
        rw [hq] at hri
        injection hri with hri
        subst hri
        obtain ⟨p', h1, h2⟩ := put_mem (n := n) (P := P) (p := p)
        exact ⟨p', h1, fun x hx => by rw [bs_inj h2 x hx]; exact hp x hx⟩
      · obtain ⟨p', h1, h2⟩ := h.cl i r hri b hb (by omega)
        exact ⟨p', put_sub h1, h2⟩
    · have := (List.getElem?_eq_some_iff.1 hq).1
      omega
theorem SInv.next {n e k : Nat} {zs : List Int} {P : List (Nat → Bool)} (h : SInv n zs e P k n) : SInv n zs e P (k + 1) 0 :=
  ⟨h.sub, h.nd, h.one, fun i q hi b hb hc => h.cl i q hi b hb (by omega)⟩
theorem SInv.len {n e k a : Nat} {zs : List Int} {P : List (Nat → Bool)} (h : SInv n zs e P k a) (hn : n ≤ 24) : P.length ≤ 16777216 := by
  rw [← bits_len n P]
  refine nodup_fits h.nd fun x hx => ?_
  unfold bits at hx
  obtain ⟨p, _, rfl⟩ := List.mem_map.1 hx
  exact Nat.lt_of_lt_of_le (bs_lt p n) (Nat.le_trans (Nat.pow_le_pow_right (by omega) hn) (by decide))
/-- Each subgroup is found. -/
theorem SInv.all {n e k : Nat} {zs : List Int} {P : List (Nat → Bool)} (g : IsGrp n zs e) (h : SInv n zs e P k 0) (hk : P.length ≤ k) {t : Nat → Bool} (ht : subT n zs e t = true) : bs t n ∈ bits n P := by
  have hS := subT_iff.1 ht
  have key : ∀ j, j ≤ n → ∃ p, p ∈ P ∧ ∀ x, x < n → (p x = true ↔ Mkd n zs e (fun y => t y && decide (y < j)) x) := by
    intro j
    induction j with
    | zero =>
      intro _
      have h1 := h.one
      unfold bits at h1
      obtain ⟨p, hp, he⟩ := List.mem_map.1 h1
      refine ⟨p, hp, fun x hx => ?_⟩
      rw [bs_inj he x hx, decide_eq_true_eq]
      constructor
      · rintro rfl; exact (Fin.Gen.sg _).one
      · intro hg
        refine Fin.Gen.least (P := fun x => x = e) ⟨rfl, fun a b _ _ h1 h2 => ?_⟩ (fun x _ hx => ?_) hg
        · show tm n zs a b = e
          rw [show a = e from h1, show b = e from h2]
          exact g.left e g.elt
        · simp at hx
    | succ j ih =>
      intro hj
      obtain ⟨p, hp, he⟩ := ih (by omega)
      cases htj : t j with
      | false =>
        refine ⟨p, hp, fun x hx => ?_⟩
        rw [he x hx]
        have : (fun y => t y && decide (y < j)) = fun y => t y && decide (y < j + 1) := by
          funext y
          by_cases e9 : y = j
          · subst e9; simp [htj]
          · have : decide (y < j) = decide (y < j + 1) := by rw [Bool.eq_iff_iff, decide_eq_true_eq, decide_eq_true_eq]; omega
            rw [this]
        rw [this]
      | true =>
        obtain ⟨i, hi, hpi⟩ := List.mem_iff_getElem.1 hp
        obtain ⟨p', hp', he'⟩ := h.cl i p (by rw [List.getElem?_eq_getElem hi, hpi]) j (by omega) (by omega)
        refine ⟨p', hp', fun x hx => ?_⟩
        rw [he' x hx]
        constructor
        · intro hg
          refine Fin.Gen.least (Fin.Gen.sg _) (fun y hy hy2 => ?_) hg
          have hyn := List.mem_range.1 hy
          rcases Bool.or_eq_true_iff.1 hy2 with h1 | h1
          · refine Fin.Gen.mono (fun z _ hz => ?_) ((he y hyn).1 h1)
            simp only [Bool.and_eq_true, decide_eq_true_eq] at hz ⊢
            exact ⟨hz.1, by omega⟩
          · have : y = j := by simpa using h1
            subst this
            exact Fin.Gen.base hy (by simp [htj])
        · intro hg
          refine Fin.Gen.mono (fun z hz hz2 => ?_) hg
          have hzn := List.mem_range.1 hz
          simp only [Bool.and_eq_true, decide_eq_true_eq] at hz2
          by_cases e9 : z = j
          · simp [e9]
          · have : p z = true := (he z hzn).2 (Fin.Gen.base hz (by simp [hz2.1]; omega))
            simp [this]
  obtain ⟨p, hp, he⟩ := key n (Nat.le_refl _)
  unfold bits
  refine List.mem_map.2 ⟨p, hp, bs_ext fun x hx => ?_⟩
  rw [Bool.eq_iff_iff, he x hx]
  constructor
  · intro hg
    refine Fin.Gen.least hS (fun y _ hy => ?_) hg
    simp only [Bool.and_eq_true] at hy
    exact hy.1
  · intro htx
    exact Fin.Gen.base (List.mem_range.2 hx) (by simp [htx, hx])
end Go.Proofs.YtmgengplfebmjaaDoor
