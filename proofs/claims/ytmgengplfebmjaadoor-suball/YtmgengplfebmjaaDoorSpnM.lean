/- The document's way to what a set makes: products of two until nothing is new, as math. No condition. -/
import Derived.Test.YtmgengplfebmjaaDoorPrd
namespace Go.Proofs.YtmgengplfebmjaaDoor
open Go

/-- Answers below n, as a list. -/
def bm (n : Nat) (p : Nat → Bool) : List Bool := (List.range n).map p
theorem bm_len (n : Nat) (p : Nat → Bool) : (bm n p).length = n := by simp [bm]
theorem bm_get {n a : Nat} {p : Nat → Bool} (ha : a < n) : (bm n p)[a]?.getD false = p a := by simp [bm, ha]
theorem bm_set {n y : Nat} {p : Nat → Bool} : (bm n p).set y true = bm n (fun a => p a || decide (a = y)) := by
  apply List.ext_getElem
  · simp [bm]
  · intro i h1 h2
    simp [bm] at h1
    rw [List.getElem_set]
    simp only [bm, List.getElem_map, List.getElem_range]
    by_cases e : y = i
    · subst e; simp
    · simp [e, Ne.symm e]
theorem bm_none (n : Nat) : bm n (fun _ => false) = List.replicate n false := by
  apply List.ext_getElem <;> simp [bm]
/-- How many below n are not in. -/
def nob (n : Nat) (p : Nat → Bool) : Nat := ((List.range n).filter fun a => !p a).length
theorem nob_set {n y : Nat} {p : Nat → Bool} (hy : y < n) (hp : p y = false) : nob n (fun a => p a || decide (a = y)) < nob n p := by
  unfold nob
  have h1 : ((List.range n).filter fun a => !(p a || decide (a = y))) = ((List.range n).filter fun a => !p a).filter fun a => !decide (a = y) := by
    rw [List.filter_filter]
    refine List.filter_congr fun a _ => ?_
    cases p a <;> cases decide (a = y) <;> rfl
  rw [h1]
  refine List.length_filter_lt_length_iff_exists.2 ⟨y, ?_, by simp⟩
  rw [List.mem_filter]
  exact ⟨List.mem_range.2 hy, by simp [hp]⟩
/-- How the document's search stands: what it has is made, and has what it began with; with 'again' it has become more, without it nothing has changed, and all pairs that it looked at are closed. -/
structure Spn (n : Nat) (zs : List Int) (e : Nat) (q p0 p : Nat → Bool) (again : Bool) (a b : Nat) : Prop where
  one : p e = true
  base : ∀ x, x < n → q x = true → p x = true
  made : ∀ x, x < n → p x = true → Mkd n zs e q x
  more : again = true → nob n p < nob n p0
  same : again = false → ∀ x, x < n → p x = p0 x
  done : again = false → ∀ x y, x < n → y < n → (x < a ∨ (x = a ∧ y < b)) → p x = true → p y = true → p (tm n zs x y) = true
variable {n e : Nat} {zs : List Int} {q p0 p : Nat → Bool} {again : Bool} {a b : Nat}
theorem Spn.start (h1 : p e = true) (h2 : ∀ x, x < n → q x = true → p x = true) (h3 : ∀ x, x < n → p x = true → Mkd n zs e q x) : Spn n zs e q p p false 0 0 :=
  ⟨h1, h2, h3, fun h => (by cases h), fun _ _ _ => rfl, fun _ _ _ _ _ h => by omega⟩
theorem Spn.skip (h : Spn n zs e q p0 p again a b) (hno : p a = true → p b = true → p (tm n zs a b) = true) : Spn n zs e q p0 p again a (b + 1) :=
  ⟨h.one, h.base, h.made, h.more, h.same, fun hag x y hx hy hxy h1 h2 => by
    by_cases e9 : x = a ∧ y = b
    · obtain ⟨rfl, rfl⟩ := e9; exact hno h1 h2
    · exact h.done hag x y hx hy (by omega) h1 h2⟩
theorem Spn.hit (g : IsGrp n zs e) (h : Spn n zs e q p0 p again a b) (ha : a < n) (hb : b < n) (h1 : p a = true) (h2 : p b = true) (h3 : p (tm n zs a b) = false) : Spn n zs e q p0 (fun x => p x || decide (x = tm n zs a b)) true a (b + 1) := by
  have hm : Mkd n zs e q (tm n zs a b) := (Fin.Gen.sg _).mul a b (List.mem_range.2 ha) (List.mem_range.2 hb) (h.made a ha h1) (h.made b hb h2)
  refine ⟨by simp [h.one], fun x hx hq => by simp [h.base x hx hq], fun x hx hp => ?_, fun _ => ?_, fun h => (by cases h), fun h => by cases h⟩
  · simp only [Bool.or_eq_true, decide_eq_true_eq] at hp
    rcases hp with hp | rfl
    · exact h.made x hx hp
    · exact hm
  · have hl := nob_set (n := n) (tm_lt g.tab ha hb) h3
    cases hag : again
    · have : nob n p = nob n p0 := by
        unfold nob
        rw [List.filter_congr fun x hx => by rw [h.same hag x (List.mem_range.1 hx)]]
      omega
    · have := h.more hag; omega
theorem Spn.row (h : Spn n zs e q p0 p again a b) (hb : n ≤ b) : Spn n zs e q p0 p again (a + 1) 0 :=
  ⟨h.one, h.base, h.made, h.more, h.same, fun hag x y hx hy hxy h1 h2 => h.done hag x y hx hy (by omega) h1 h2⟩
theorem Spn.fin (h : Spn n zs e q p0 p false a b) (ha : n ≤ a) : ∀ x, x < n → (p x = true ↔ Mkd n zs e q x) := by
  intro x hx
  refine ⟨h.made x hx, fun hm => ?_⟩
  have S : Fin.Sg (List.range n) (tm n zs) e (fun y => y ∈ List.range n → p y = true) := ⟨fun _ => h.one, fun u v hu hv h1 h2 _ => h.done rfl u v (List.mem_range.1 hu) (List.mem_range.1 hv) (by have := List.mem_range.1 hu; omega) (h1 hu) (h2 hv)⟩
  exact hm _ S (fun y hy hq _ => h.base y (List.mem_range.1 hy) hq) (List.mem_range.2 hx)
end Go.Proofs.YtmgengplfebmjaaDoor
