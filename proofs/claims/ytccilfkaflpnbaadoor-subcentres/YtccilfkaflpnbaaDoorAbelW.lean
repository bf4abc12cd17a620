/- What the law SubAbelian answers: true, at every table. Condition: the library's table of places lies as its text lays it. -/
import Derived.Test.YtccilfkaflpnbaaDoorSqr
import Derived.Test.YtccilfkaflpnbaaDoorCmm
namespace Go.Proofs.YtccilfkaflpnbaaDoor
open Go Go.RowKit

/-- All numbers below n, as a set. -/
theorem full_fault (n : Nat) : lfault n (li (List.range n)) = (0, 0) := by
  refine lfault_ok (by simp [li]) fun t ht => ?_
  have ht : t < n := by simpa [li] using ht
  have h1 : (li (List.range n))[t]?.getD 0 = (t : Int) := by simp [li, ht]
  have h2 : rbad n (li (List.range n)) t = false := by unfold rbad; rw [h1]; simp; omega
  have h3 : fbad (li (List.range n)) t = false := by
    unfold fbad
    rw [h1, decide_eq_false_iff_not]
    rintro ⟨h4, h5⟩
    have h6 : t - 1 < n := by omega
    have h7 : (li (List.range n))[t - 1]?.getD 0 = ((t - 1 : Nat) : Int) := by simp [li, h6]
    rw [h7] at h5; omega
  rw [h2, h3]; rfl
theorem full_pset (n : Nat) : lst n (pset (li (List.range n))) = List.range n := by
  unfold lst
  rw [List.filter_eq_self]
  intro a ha
  unfold pset
  rw [decide_eq_true_eq]
  exact List.mem_map.2 ⟨a, ha, rfl⟩
/-- The commutators of all things make what Fin.Cms makes. -/
theorem cms_iff {n e : Nat} {zs : List Int} (a : Nat) : Mkd n zs e (cmq n zs e (List.range n) (List.range n)) a ↔ Fin.Gen (List.range n) (tm n zs) e (Fin.Cms (List.range n) (tm n zs) (iv n zs e)) a := by
  have h : ∀ x, (cmq n zs e (List.range n) (List.range n) x = true ↔ Fin.Cms (List.range n) (tm n zs) (iv n zs e) x) := fun x => by
    unfold cmq Fin.Cms
    simp only [List.any_eq_true, decide_eq_true_eq]
    exact ⟨fun ⟨a, ha, b, hb, hc⟩ => ⟨a, b, ha, hb, hc⟩, fun ⟨a, b, ha, hb, hc⟩ => ⟨a, ha, b, hb, hc⟩⟩
  exact ⟨fun hg => Fin.Gen.mono (fun x _ hx => (h x).1 hx) hg, fun hg => Fin.Gen.mono (fun x _ hx => (h x).2 hx) hg⟩
theorem stays_sl (n : Nat) (w : World) (hn : n ≤ 60) (h0 : 0 < w.heap.size) :
    Calls Tryd.prog 76 #[.int .i64 n] w fun x w' => ∃ r, x = .returned r ∧ Sl w' r (li (List.range n)) ∧ Below w.heap.size w w' := by
  refine (stays_ok n w hn).mono ?_
  rintro x w' ⟨r, h1, h2, h3⟩
  exact ⟨r, h1, row_sl h2 (Nat.lt_of_lt_of_le h0 h3.size), h3⟩
/-- All commute just where the centre is all. -/
theorem cen_all {n : Nat} {zs : List Int} : comB n zs = decide ((lst n (cenq n zs fun _ => true)).length = n) := by
  have hl : lst n (fun _ => true) = List.range n := by unfold lst; simp
  rw [Bool.eq_iff_iff, decide_eq_true_eq, comB_iff]
  have hlen : (lst n (cenq n zs fun _ => true)).length = n ↔ ∀ a, a < n → cenq n zs (fun _ => true) a = true := by
    unfold lst
    have := List.length_filter_eq_length_iff (l := List.range n) (p := cenq n zs fun _ => true)
    rw [List.length_range] at this
    rw [this]
    exact ⟨fun h a ha => h a (List.mem_range.2 ha), fun h a ha => h a (List.mem_range.1 ha)⟩
  rw [hlen]
  constructor
  · intro h a ha
    unfold cenq
    rw [hl, List.all_eq_true]
    intro x hx
    simpa using h a x ha (List.mem_range.1 hx)
  · intro h a b ha hb
    have := h a ha
    unfold cenq at this
    rw [hl, List.all_eq_true] at this
    simpa using this b (List.mem_range.2 hb)
/-- All commute just where the commutators make the one alone. -/
theorem der_all {n e : Nat} {zs : List Int} (g : IsGrp n zs e) {p : Nat → Bool} (hp : ∀ a, a < n → (p a = true ↔ Mkd n zs e (cmq n zs e (List.range n) (List.range n)) a)) : comB n zs = decide ((lst n p).length = 1) := by
  rw [Bool.eq_iff_iff, decide_eq_true_eq, comB_iff]
  have hd := Fin.der_one (grp_fg g) (grp_iv g)
  have he : p e = true := (hp e g.elt).2 ((Fin.Gen.sg _).one)
  have hem : e ∈ lst n p := mem_lst.2 ⟨g.elt, he⟩
  have h1 : (∀ a b, a < n → b < n → tm n zs a b = tm n zs b a) ↔ ∀ a, a < n → p a = true → a = e := by
    constructor
    · intro h a ha hpa
      exact hd.2 (fun a b ha hb => h a b (List.mem_range.1 ha) (List.mem_range.1 hb)) a (List.mem_range.2 ha) ((cms_iff a).1 ((hp a ha).1 hpa))
    · intro h a b ha hb
      exact hd.1 (fun a ha hg => h a (List.mem_range.1 ha) ((hp a (List.mem_range.1 ha)).2 ((cms_iff a).2 hg))) a b (List.mem_range.2 ha) (List.mem_range.2 hb)
  rw [h1]
  constructor
  · intro h
    have : lst n p = [e] := rise_eq (lst_rise n p) (by simp) fun a => by
      rw [mem_lst, List.mem_singleton]
      exact ⟨fun ⟨h1, h2⟩ => h a h1 h2, fun h1 => by subst h1; exact ⟨g.elt, he⟩⟩
    rw [this]; rfl
  · intro h a ha hpa
    obtain ⟨x, hx⟩ := List.length_eq_one_iff.1 h
    have h2 : a ∈ lst n p := mem_lst.2 ⟨ha, hpa⟩
    rw [hx, List.mem_singleton] at h2 hem
    rw [h2, hem]

end Go.Proofs.YtccilfkaflpnbaaDoor
