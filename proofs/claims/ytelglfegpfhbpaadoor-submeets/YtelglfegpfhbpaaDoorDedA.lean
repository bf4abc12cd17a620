/- What the law SubDedekind answers: true, at every table and every three lists. Condition: the library's table of places lies as its text lays it. -/
import Derived.Test.YtelglfegpfhbpaaDoorProdW
namespace Go.Proofs.YtelglfegpfhbpaaDoor
open Go Go.RowKit

/-- DEDEKIND'S LAW, of tests. -/
theorem dedekind_math {n e : Nat} {zs : List Int} (g : IsGrp n zs e) {p q r : Nat → Bool} (Sp : Fin.Sg (List.range n) (tm n zs) e (fun a => p a = true)) (Sr : Fin.Sg (List.range n) (tm n zs) e (fun a => r a = true)) (hpr : ∀ a, a < n → p a = true → r a = true) :
    lst n (prq n zs e (lst n p) (lst n fun a => q a && r a)) = lst n (fun a => prq n zs e (lst n p) (lst n q) a && r a) := by
  refine lst_congr fun x hx => ?_
  rw [Bool.eq_iff_iff, Bool.and_eq_true, prq_iff g hx, prq_iff g hx]
  constructor
  · rintro ⟨a, b, ha, hb, hpa, hqb, he⟩
    simp only [Bool.and_eq_true] at hqb
    refine ⟨⟨a, b, ha, hb, hpa, hqb.1, he⟩, ?_⟩
    rw [← he]
    exact Sr.mul a b ha hb (hpr a (List.mem_range.1 ha) hpa) hqb.2
  · rintro ⟨⟨a, b, ha, hb, hpa, hqb, he⟩, hrx⟩
    refine ⟨a, b, ha, hb, hpa, ?_, he⟩
    simp only [Bool.and_eq_true]
    refine ⟨hqb, ?_⟩
    have ha' := List.mem_range.1 ha
    have hb' := List.mem_range.1 hb
    obtain ⟨h1, h2, h3, _⟩ := iv_spec g ha'
    have h4 : b = tm n zs (iv n zs e a) x := by rw [← he, ← g.ass _ _ _ h1 ha' hb', h3, g.left b hb']
    rw [h4]
    exact Sr.mul _ _ (List.mem_range.2 h1) (List.mem_range.2 hx) (hpr _ h1 (Sp.inv (grp_fg g) ha (List.mem_range.2 h1) h2 hpa)) hrx
theorem both_li {n : Nat} {p q : Nat → Bool} : (li (lst n p)).filter (fun a => decide (a ∈ li (lst n q))) = li (lst n fun a => p a && q a) := by
  unfold li
  rw [List.filter_map]
  congr 1
  unfold lst
  rw [List.filter_filter]
  refine List.filter_congr fun a ha => ?_
  have h9 := mem_li (xs := lst n q) (a := a)
  unfold li lst at h9
  show (decide ((a : Int) ∈ List.map (fun (x : Nat) => (x : Int)) ((List.range n).filter q)) && p a) = (p a && q a)
  rw [Bool.and_comm]
  congr 1
  rw [Bool.eq_iff_iff, decide_eq_true_eq, h9, List.mem_filter]
  exact ⟨fun h => h.2, fun h => ⟨ha, h⟩⟩
end Go.Proofs.YtelglfegpfhbpaaDoor
