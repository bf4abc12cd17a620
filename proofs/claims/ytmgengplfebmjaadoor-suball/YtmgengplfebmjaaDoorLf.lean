/- What is wrong with a list as a set of a group of n things: the program's answer and the document's. -/
import Derived.Test.YtmgengplfebmjaaDoorOpn
namespace Go.Proofs.YtmgengplfebmjaaDoor
open Go Go.RowKit

def rbad (n : Nat) (ls : List Int) (i : Nat) : Bool := decide (ls[i]?.getD 0 < 0 ∨ (n : Int) ≤ ls[i]?.getD 0)
def fbad (ls : List Int) (i : Nat) : Bool := decide (0 < i ∧ ls[i]?.getD 0 ≤ ls[i - 1]?.getD 0)
/-- What is wrong with a list as a set. -/
def lfault (n : Nat) (ls : List Int) : Int × Int :=
  if n < ls.length then (2, 0)
  else if least ls.length (fun i => rbad n ls i || fbad ls i) = -1 then (0, 0)
  else (if rbad n ls (least ls.length (fun i => rbad n ls i || fbad ls i)).toNat then 3 else 5, least ls.length (fun i => rbad n ls i || fbad ls i))
/-- The set of a list. -/
def pset (ls : List Int) (a : Nat) : Bool := decide ((a : Int) ∈ ls)
theorem lfault_many {n : Nat} {ls : List Int} (h : n < ls.length) : lfault n ls = (2, 0) := if_pos h
theorem lfault_ok {n : Nat} {ls : List Int} (h : ls.length ≤ n) (hno : ∀ t, t < ls.length → (rbad n ls t || fbad ls t) = false) : lfault n ls = (0, 0) := by
  unfold lfault
  rw [if_neg (by omega), least_none hno, if_pos rfl]
theorem lfault_r {n k : Nat} {ls : List Int} (h : ls.length ≤ n) (hk : k < ls.length) (hno : ∀ t, t < k → (rbad n ls t || fbad ls t) = false) (hb : rbad n ls k = true) : lfault n ls = (3, (k : Int)) := by
  unfold lfault
  rw [if_neg (by omega), least_at hk (by simp [hb]) hno, if_neg (by omega), Int.toNat_natCast, if_pos hb]
theorem lfault_f {n k : Nat} {ls : List Int} (h : ls.length ≤ n) (hk : k < ls.length) (hno : ∀ t, t < k → (rbad n ls t || fbad ls t) = false) (hb : rbad n ls k = false) (hf : fbad ls k = true) : lfault n ls = (5, (k : Int)) := by
  unfold lfault
  rw [if_neg (by omega), least_at hk (by simp [hf]) hno, if_neg (by omega), Int.toNat_natCast, if_neg (by simp [hb])]
theorem lfault_zero {n : Nat} {ls : List Int} (h : (lfault n ls).1 = 0) : lfault n ls = (0, 0) ∧ ls.length ≤ n ∧ ∀ t, t < ls.length → (rbad n ls t || fbad ls t) = false := by
  unfold lfault at h ⊢
  by_cases h1 : n < ls.length
  · rw [if_pos h1] at h; cases h
  · rw [if_neg h1] at h ⊢
    by_cases h2 : least ls.length (fun i => rbad n ls i || fbad ls i) = -1
    · rw [if_pos h2]
      exact ⟨rfl, by omega, least_neg.1 h2⟩
    · rw [if_neg h2] at h
      exfalso
      revert h
      split <;> simp
/-- Lists that rise, and have the same numbers, are the same. -/
theorem rise_eq : ∀ {xs ys : List Nat}, xs.Pairwise (· < ·) → ys.Pairwise (· < ·) → (∀ a, a ∈ xs ↔ a ∈ ys) → xs = ys
  | [], ys, _, _, h => (List.eq_nil_iff_forall_not_mem.2 fun a ha => by have := (h a).2 ha; simp at this).symm
  | x :: xs, [], _, _, h => by have := (h x).1 (by simp); simp at this
  | x :: xs, y :: ys, hx, hy, h => by
    rw [List.pairwise_cons] at hx hy
    have h1 := (h x).1 (by simp)
    have h2 := (h y).2 (by simp)
    have e : x = y := by
      rcases List.mem_cons.1 h1 with h3 | h3
      · exact h3
      · rcases List.mem_cons.1 h2 with h4 | h4
        · exact h4.symm
        · have := hx.1 y h4
          have := hy.1 x h3
          omega
    subst e
    congr 1
    refine rise_eq hx.2 hy.2 fun a => ⟨fun ha => ?_, fun ha => ?_⟩
    · rcases List.mem_cons.1 ((h a).1 (List.mem_cons_of_mem _ ha)) with h3 | h3
      · subst h3; have := hx.1 a ha; omega
      · exact h3
    · rcases List.mem_cons.1 ((h a).2 (List.mem_cons_of_mem _ ha)) with h3 | h3
      · subst h3; have := hy.1 a ha; omega
      · exact h3
theorem lst_rise (n : Nat) (p : Nat → Bool) : (lst n p).Pairwise (· < ·) := (List.pairwise_lt_range).sublist (List.filter_sublist)
/-- A list with which nothing is wrong is the list of its set. -/
theorem set_lst {n : Nat} {ls : List Int} (h : (lfault n ls).1 = 0) : ls = li (lst n (pset ls)) := by
  obtain ⟨_, hl, hno⟩ := lfault_zero h
  have hno' : ∀ t, t < ls.length → rbad n ls t = false ∧ fbad ls t = false := fun t ht => by have := hno t ht; simpa using this
  have hr : ∀ t, (ht : t < ls.length) → 0 ≤ ls[t] ∧ ls[t] < n := fun t ht => by
    have := (hno' t ht).1
    unfold rbad at this
    rw [decide_eq_false_iff_not] at this
    simp [ht] at this; omega
  have hf : ∀ t, (ht : t + 1 < ls.length) → ls[t] < ls[t + 1] := fun t ht => by
    have := (hno' (t + 1) ht).2
    unfold fbad at this
    rw [decide_eq_false_iff_not] at this
    have h2 : t < ls.length := by omega
    simp [ht, h2] at this; omega
  have hmono : ∀ d t, (ht : t + d + 1 < ls.length) → ls[t] < ls[t + d + 1] := fun d => by
    induction d with
    | zero => exact fun t ht => hf t ht
    | succ d ih =>
      intro t ht
      have h1 := ih t (by omega)
      have h2 := hf (t + d + 1) (by omega)
      have : t + (d + 1) + 1 = t + d + 1 + 1 := by omega
      simp only [this]
      omega
  have hxs : ls = li (ls.map Int.toNat) := by
    unfold li
    rw [List.map_map]
    conv => lhs; rw [← List.map_id ls]
    apply List.map_congr_left
    intro z hz
    obtain ⟨t, ht, rfl⟩ := List.mem_iff_getElem.1 hz
    have := hr t ht
    show ls[t] = ((ls[t].toNat : Nat) : Int)
    omega
  rw [hxs]
  congr 1
  refine rise_eq ?_ (lst_rise _ _) fun a => ?_
  · rw [List.pairwise_iff_getElem]
    intro i j hi hj hij
    simp only [List.length_map] at hi hj
    simp only [List.getElem_map]
    obtain ⟨d, rfl⟩ : ∃ d, j = i + d + 1 := ⟨j - i - 1, by omega⟩
    have h1 := hmono d i hj
    have h2 := hr i hi
    omega
  · rw [mem_lst]
    unfold pset
    rw [decide_eq_true_eq, ← hxs, List.mem_map]
    constructor
    · rintro ⟨z, hz, rfl⟩
      obtain ⟨t, ht, rfl⟩ := List.mem_iff_getElem.1 hz
      have h1 := hr t ht
      refine ⟨by omega, ?_⟩
      rw [show ((ls[t].toNat : Nat) : Int) = ls[t] by omega]
      exact hz
    · rintro ⟨_, h2⟩
      exact ⟨(a : Int), h2, by simp⟩

/-- A number that goes with a fault: none where there is one. -/
def okN (c : Int) (x : Nat) : Nat := if c = 0 then x else 0

end Go.Proofs.YtmgengplfebmjaaDoor
