/- Subgroups of a table that is a group: what is found by products closes up; inverses as a function. No condition. -/
import Derived.Test.YtmgengplfebmjaaDoorSubn
import Derived.Test.YtmgengplfebmjaaDoorGrp
namespace Go.Proofs.YtmgengplfebmjaaDoor
open _root_.Go.Proofs.YtmgengplfebmjaaDoor.Fin

/-- A group, as a finite group on its numbers. -/
theorem grp_fg {n e : Nat} {zs : List Int} (g : IsGrp n zs e) : Fg (List.range n) (tm n zs) e where
  nd := List.nodup_range
  one := List.mem_range.2 g.elt
  cl := fun a b ha hb => List.mem_range.2 (tm_lt g.tab (List.mem_range.1 ha) (List.mem_range.1 hb))
  ass := fun a b c ha hb hc => g.ass a b c (List.mem_range.1 ha) (List.mem_range.1 hb) (List.mem_range.1 hc)
  left := fun a ha => g.left a (List.mem_range.1 ha)
  right := fun a ha => g.right a (List.mem_range.1 ha)
  inv := fun a ha => by
    obtain ⟨b, hb, hab⟩ := g.inv a (List.mem_range.1 ha)
    exact ⟨b, List.mem_range.2 hb, hab, inv_both g.tab g.elt g.left g.right g.ass (List.mem_range.1 ha) hb hab⟩
/-- What is closed under products with the makers, and has the one, has all that they make. -/
theorem closed_gen {l : List Nat} {m : Nat → Nat → Nat} {e : Nat} (h : Fg l m e) {X P : Nat → Prop} (he : P e) (hcl : ∀ y x, y ∈ l → x ∈ l → P y → X x → P (m y x)) {a : Nat} (ha : a ∈ l) (hg : Gen l m e X a) : P a := by
  have S : Sg l m e (fun x => x ∈ l → ∀ y, y ∈ l → P y → P (m y x)) :=
    ⟨fun _ y hy hp => by rw [h.right y hy]; exact hp, fun a b ha hb h1 h2 _ y hy hp => by
      rw [← h.ass y a b hy ha hb]; exact h2 hb _ (h.cl _ _ hy ha) (h1 ha y hy hp)⟩
  have := hg _ S (fun x hx hX _ y hy hp => hcl y x hy hx hp hX) ha e h.one he
  rwa [h.left a ha] at this
/-- A set that is a subgroup is all that it makes. -/
theorem gen_self {l : List Nat} {m : Nat → Nat → Nat} {e : Nat} {P : Nat → Prop} (S : Sg l m e P) {a : Nat} (h : Gen l m e P a) : P a := h P S (fun _ _ hp => hp)

/-- The inverse of a thing. -/
def iv (n : Nat) (zs : List Int) (e : Nat) (a : Nat) : Nat := (invL n zs e a).toNat
theorem iv_spec {n e : Nat} {zs : List Int} (g : IsGrp n zs e) {a : Nat} (ha : a < n) : iv n zs e a < n ∧ tm n zs a (iv n zs e a) = e ∧ tm n zs (iv n zs e a) a = e ∧ invL n zs e a = (iv n zs e a : Int) := by
  obtain ⟨b, hb, hab⟩ := g.inv a ha
  unfold iv invL
  rcases least_cases n (fun b => decide ((tm n zs a b : Int) = (e : Int))) with ⟨k, hk, hp, _, he⟩ | ⟨hno, _⟩
  · rw [he, Int.toNat_natCast]
    have hp' : tm n zs a k = e := by simp at hp; omega
    exact ⟨hk, hp', inv_both g.tab g.elt g.left g.right g.ass ha hk hp', rfl⟩
  · have := hno b hb
    simp [hab] at this
theorem grp_iv {n e : Nat} {zs : List Int} (g : IsGrp n zs e) : Iv (List.range n) (tm n zs) e (iv n zs e) := fun a ha => by
  obtain ⟨h1, h2, h3, _⟩ := iv_spec g (List.mem_range.1 ha)
  exact ⟨List.mem_range.2 h1, h2, h3⟩
/-- The only thing whose product with a is the one. -/
theorem iv_only {n e : Nat} {zs : List Int} (g : IsGrp n zs e) {a b : Nat} (ha : a < n) (hb : b < n) (h : tm n zs a b = e) : b = iv n zs e a := by
  obtain ⟨h1, h2, _, _⟩ := iv_spec g ha
  exact (grp_fg g).can (List.mem_range.2 ha) (List.mem_range.2 hb) (List.mem_range.2 h1) (by rw [h, h2])
/-- How many of the first k entries are no. -/
theorem nodup_fits {n : Nat} {F : List Nat} (hnd : F.Nodup) (hlt : ∀ x, x ∈ F → x < n) : F.length ≤ n := by
  have := (List.nodup_range (n := n)).sublist (List.filter_sublist (p := fun x => decide (x ∈ F)))
  have h2 := filter_mem_len (List.nodup_range (n := n)) hnd (fun x hx => List.mem_range.2 (hlt x hx)) (fun x => decide (x ∈ F)) (fun x _ => by simp)
  rw [← h2]
  exact Nat.le_trans (List.length_filter_le _ _) (by simp)
/-- A test that says what a property says. -/
theorem test_at (P : Nat → Prop) : ∃ q : Nat → Bool, ∀ a, q a = true ↔ P a := test_of P
end Go.Proofs.YtmgengplfebmjaaDoor
