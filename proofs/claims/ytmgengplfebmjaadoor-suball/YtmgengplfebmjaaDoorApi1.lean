/- What package sub's Made and Is answer, and its openedSubgroup: at every table and every list. Condition: the library's table of places lies as its text lays it. -/
import Derived.Test.YtmgengplfebmjaaDoorOps
namespace Go.Proofs.YtmgengplfebmjaaDoor
open Go Go.RowKit

/-- Is a set a subgroup? -/
def subT (n : Nat) (zs : List Int) (e : Nat) (q : Nat → Bool) : Bool := q e && (List.range n).all fun a => (List.range n).all fun b => !(q a && q b) || q (tm n zs a b)
theorem subT_iff {n : Nat} {zs : List Int} {e : Nat} {q : Nat → Bool} : subT n zs e q = true ↔ Fin.Sg (List.range n) (tm n zs) e (fun a => q a = true) := by
  unfold subT
  simp only [Bool.and_eq_true, List.all_eq_true]
  constructor
  · rintro ⟨h1, h2⟩
    refine ⟨h1, fun a b ha hb hqa hqb => ?_⟩
    have := h2 a ha b hb
    simpa [hqa, hqb] using this
  · rintro ⟨h1, h2⟩
    refine ⟨h1, fun a ha b hb => ?_⟩
    have := h2 a b ha hb
    cases hqa : q a <;> cases hqb : q b <;> simp_all
/-- A set is a subgroup just where it is all that it makes. -/
theorem subT_made {n : Nat} {zs : List Int} {e : Nat} {q p : Nat → Bool} (hp : ∀ a, a < n → (p a = true ↔ Mkd n zs e q a)) (he : e < n) (hm : ∀ a b, a < n → b < n → tm n zs a b < n) : subT n zs e q = decide (bs p n = bs q n) := by
  rw [Bool.eq_iff_iff, subT_iff, decide_eq_true_eq]
  constructor
  · intro S
    refine bs_ext fun a ha => ?_
    rw [Bool.eq_iff_iff, hp a ha]
    exact ⟨fun h => gen_self S h, fun h => Fin.Gen.base (List.mem_range.2 ha) h⟩
  · intro h
    have h1 := bs_inj h
    have S := Fin.Gen.sg (l := List.range n) (m := tm n zs) (e := e) (fun x => q x = true)
    refine ⟨?_, fun a b ha hb hqa hqb => ?_⟩
    · rw [← h1 e he, hp e he]; exact S.one
    · have ha := List.mem_range.1 ha
      have hb := List.mem_range.1 hb
      rw [← h1 _ (hm a b ha hb), hp _ (hm a b ha hb)]
      exact S.mul a b (List.mem_range.2 ha) (List.mem_range.2 hb) ((hp a ha).1 (by rw [h1 a ha]; exact hqa)) ((hp b hb).1 (by rw [h1 b hb]; exact hqb))
theorem mkd_test (n : Nat) (zs : List Int) (e : Nat) (q : Nat → Bool) : ∃ p : Nat → Bool, ∀ a, a < n → (p a = true ↔ Mkd n zs e q a) := by
  obtain ⟨p, hp⟩ := Fin.test_of (Mkd n zs e q)
  exact ⟨p, fun a _ => hp a⟩
/-- What is wrong with a table, then with a list as its set, then with that as a subgroup. -/
def ufault (N : Int) (zs ls : List Int) : Int × Int := if (sfault N zs ls).1 ≠ 0 then sfault N zs ls else if subT N.toNat zs (one N.toNat zs).toNat (pset ls) then (0, 0) else (7, 0)
theorem ufault_s {N : Int} {zs ls : List Int} (h : (sfault N zs ls).1 ≠ 0) : ufault N zs ls = sfault N zs ls := if_pos h
theorem ufault_u {n e : Nat} {zs ls : List Int} (g : IsGrp n zs e) (h : lfault n ls = (0, 0)) : ufault n zs ls = if subT n zs e (pset ls) then (0, 0) else (7, 0) := by
  unfold ufault
  rw [sfault_l g, h, if_neg (by simp), Int.toNat_natCast, g.one, Int.toNat_natCast]
theorem ufault_cases (N : Int) (zs ls : List Int) (h : (ufault N zs ls).1 ≠ 0) : ((sfault N zs ls).1 ≠ 0 ∧ ufault N zs ls = sfault N zs ls) ∨ ∃ n e : Nat, N = n ∧ IsGrp n zs e ∧ lfault n ls = (0, 0) ∧ subT n zs e (pset ls) = false ∧ ufault N zs ls = (7, 0) := by
  by_cases hs : (sfault N zs ls).1 = 0
  · obtain ⟨n, e, rfl, hg, hl, _⟩ := sfault_zero hs
    rw [ufault_u hg hl] at h ⊢
    cases hb : subT n zs e (pset ls)
    · exact .inr ⟨n, e, rfl, hg, hl, hb, rfl⟩
    · rw [hb] at h; simp at h
  · exact .inl ⟨hs, ufault_s hs⟩
theorem ufault_zero {N : Int} {zs ls : List Int} (h : (ufault N zs ls).1 = 0) : ∃ n e : Nat, N = n ∧ IsGrp n zs e ∧ lfault n ls = (0, 0) ∧ subT n zs e (pset ls) = true ∧ ufault N zs ls = (0, 0) := by
  by_cases hs : (sfault N zs ls).1 = 0
  · obtain ⟨n, e, rfl, hg, hl, _⟩ := sfault_zero hs
    rw [ufault_u hg hl] at h ⊢
    cases hb : subT n zs e (pset ls)
    · rw [hb] at h; simp at h
    · exact ⟨n, e, rfl, hg, hl, hb, rfl⟩
  · rw [ufault_s hs] at h
    exact absurd h hs

end Go.Proofs.YtmgengplfebmjaaDoor
