/- Products of two subgroups, told by the laws' own searches; lists and their sets. -/
import Derived.Test.YtmgengplfebmjaaDoorRf2
import Derived.Test.YtmgengplfebmjaaDoorSqr
namespace Go.Proofs.YtmgengplfebmjaaDoor
open Go Go.RowKit

theorem mem_li {xs : List Nat} {a : Nat} : (a : Int) ∈ li xs ↔ a ∈ xs := by
  unfold li
  rw [List.mem_map]
  constructor
  · rintro ⟨x, hx, he⟩
    have : x = a := by omega
    rwa [← this]
  · intro h
    exact ⟨a, h, rfl⟩
theorem pset_lst {n : Nat} {p : Nat → Bool} {a : Nat} (ha : a < n) : pset (li (lst n p)) a = p a := by
  unfold pset
  rw [Bool.eq_iff_iff, decide_eq_true_eq, mem_li, mem_lst]
  simp [ha]
theorem lst_congr {n : Nat} {p q : Nat → Bool} (h : ∀ a, a < n → p a = q a) : lst n p = lst n q :=
  List.filter_congr fun a ha => h a (List.mem_range.1 ha)
theorem lst_pset (n : Nat) (p : Nat → Bool) : lst n (pset (li (lst n p))) = lst n p := lst_congr fun _ ha => pset_lst ha
/-- Nothing is wrong with a list of a set. -/
theorem lst_fault (n : Nat) (p : Nat → Bool) : lfault n (li (lst n p)) = (0, 0) := by
  refine lfault_ok (by rw [li_len]; exact lst_len n p) fun t ht => ?_
  rw [li_len] at ht
  have h0 := mem_lst.1 (List.getElem_mem ht)
  have h2 : rbad n (li (lst n p)) t = false := by unfold rbad; rw [li_get ht]; simp; omega
  have h3 : fbad (li (lst n p)) t = false := by
    unfold fbad
    rw [decide_eq_false_iff_not]
    rintro ⟨h4, h5⟩
    have h6 : t - 1 < (lst n p).length := by omega
    rw [li_get ht, li_get h6] at h5
    have h7 := List.pairwise_iff_getElem.1 (lst_rise n p) (t - 1) t h6 ht (by omega)
    omega
  rw [h2, h3]; rfl
theorem subT_congr {n e : Nat} {zs : List Int} {p q : Nat → Bool} (g : IsGrp n zs e) (h : ∀ a, a < n → p a = q a) : subT n zs e p = subT n zs e q := by
  rw [Bool.eq_iff_iff, subT_iff, subT_iff]
  constructor
  · rintro ⟨h1, h2⟩
    exact ⟨by rw [← h e g.elt]; exact h1, fun a b ha hb h3 h4 => by
      have ha' := List.mem_range.1 ha
      have hb' := List.mem_range.1 hb
      rw [← h _ (tm_lt g.tab ha' hb')]
      exact h2 a b ha hb (by rw [h a ha']; exact h3) (by rw [h b hb']; exact h4)⟩
  · rintro ⟨h1, h2⟩
    exact ⟨by rw [h e g.elt]; exact h1, fun a b ha hb h3 h4 => by
      have ha' := List.mem_range.1 ha
      have hb' := List.mem_range.1 hb
      rw [h _ (tm_lt g.tab ha' hb')]
      exact h2 a b ha hb (by rw [← h a ha']; exact h3) (by rw [← h b hb']; exact h4)⟩
/-- What is made, as a test, is a subgroup. -/
theorem made_sg {n e : Nat} {zs : List Int} {q p : Nat → Bool} (g : IsGrp n zs e) (hp : ∀ a, a < n → (p a = true ↔ Mkd n zs e q a)) : Fin.Sg (List.range n) (tm n zs) e (fun a => p a = true) := by
  have S := Fin.Gen.sg (l := List.range n) (m := tm n zs) (e := e) (fun x => q x = true)
  refine ⟨(hp e g.elt).2 S.one, fun a b ha hb h1 h2 => ?_⟩
  have ha' := List.mem_range.1 ha
  have hb' := List.mem_range.1 hb
  exact (hp _ (tm_lt g.tab ha' hb')).2 (S.mul a b ha hb ((hp a ha').1 h1) ((hp b hb').1 h2))
/-- The document's inverse. -/
theorem Iiv_ok (n a e : Nat) (v : Value) (zs : List Int) (w : World) (g : IsGrp n zs e) (hv : Sl w v zs) (ha : a < n) :
    Calls Tryd.prog 60 #[.agg #[.int .i64 n, v], .int .i64 a] w fun x w' => x = .returned (.int .i64 (iv n zs e a)) ∧ Below w.heap.size w w' := by
  have h := I_ok n a v zs w g.tab hv ha
  rw [invR_eq g.tab (by rw [g.one]; omega) (fun t ht => assB_iff.2 fun b c hb hc => g.ass t b c ht hb hc) ha, g.one, (iv_spec g ha).2.2.2] at h
  exact h
/-- Products of things of two lists. -/
def prq (n : Nat) (zs : List Int) (e : Nat) (xs ys : List Nat) (x : Nat) : Bool := xs.any fun a => decide (tm n zs (iv n zs e a) x ∈ ys)
theorem prq_iff {n e : Nat} {zs : List Int} {p q : Nat → Bool} (g : IsGrp n zs e) {x : Nat} (hx : x < n) : prq n zs e (lst n p) (lst n q) x = true ↔ ∃ a b, a ∈ List.range n ∧ b ∈ List.range n ∧ p a = true ∧ q b = true ∧ tm n zs a b = x := by
  unfold prq
  simp only [List.any_eq_true, decide_eq_true_eq, mem_lst]
  constructor
  · rintro ⟨a, ⟨ha, hpa⟩, hb, hqb⟩
    obtain ⟨h1, h2, _, _⟩ := iv_spec g ha
    exact ⟨a, _, List.mem_range.2 ha, List.mem_range.2 hb, hpa, hqb, by rw [← g.ass _ _ _ ha h1 hx, h2, g.left x hx]⟩
  · rintro ⟨a, b, ha, hb, hpa, hqb, rfl⟩
    have ha := List.mem_range.1 ha
    have hb := List.mem_range.1 hb
    obtain ⟨h1, _, h3, _⟩ := iv_spec g ha
    refine ⟨a, ⟨ha, hpa⟩, ?_⟩
    rw [← g.ass _ _ _ h1 ha hb, h3, g.left b hb]
    exact ⟨hb, hqb⟩

end Go.Proofs.YtmgengplfebmjaaDoor
