/- Lists of lists that rise, what is put into them at its place, and what products of permutations make. Plain mathematics; no condition. -/
import Derived.Test.YtgphcfmiamiojaaPmm
import Derived.Test.YtgphcfmiamiojaaCml
namespace Go.Proofs.Ytgphcfmiamiojaa
open Pm

/-- Each list is less than those behind it. -/
def RiseL (L : List (List Int)) : Prop := L.Pairwise (fun a b => cmpL a b < 0)
theorem cmpL_refl (a : List Int) : cmpL a a = 0 := (cmpL_zero a a).2 rfl
theorem RiseL.nodup {L : List (List Int)} (h : RiseL L) : L.Nodup := List.Pairwise.imp (fun {a b} h e => by subst e; rw [cmpL_refl] at h; omega) h
theorem RiseL.unique {L M : List (List Int)} (hL : RiseL L) (hM : RiseL M) (h : ∀ p, p ∈ L ↔ p ∈ M) : L = M := by
  refine List.Perm.eq_of_pairwise (le := fun a b => cmpL a b < 0) (fun a b _ _ h1 h2 => ?_) hL hM ((List.perm_ext_iff_of_nodup hL.nodup hM.nodup).2 h)
  rw [cmpL_neg] at h2
  omega
/-- p's place in L: those ahead are less, those from there on are not. -/
def AtL (L : List (List Int)) (p : List Int) (i : Nat) : Prop := i ≤ L.length ∧ (∀ j, j < i → cmpL (L[j]?.getD []) p < 0) ∧ ∀ j, i ≤ j → j < L.length → ¬ cmpL (L[j]?.getD []) p < 0
def insL (L : List (List Int)) (i : Nat) (p : List Int) : List (List Int) := L.take i ++ p :: L.drop i
theorem insL_len {L : List (List Int)} {i : Nat} (p : List Int) (h : i ≤ L.length) : (insL L i p).length = L.length + 1 := by
  unfold insL; simp; omega
theorem insL_mem {L : List (List Int)} {i : Nat} {p q : List Int} : q ∈ insL L i p ↔ q = p ∨ q ∈ L := by
  have h := List.take_append_drop i L
  unfold insL
  constructor
  · intro hq
    rcases List.mem_append.1 hq with h1 | h1
    · exact .inr (List.mem_of_mem_take h1)
    · rcases List.mem_cons.1 h1 with h2 | h2
      · exact .inl h2
      · exact .inr (List.mem_of_mem_drop h2)
  · rintro (rfl | hq)
    · simp
    · rw [← h] at hq
      rcases List.mem_append.1 hq with h1 | h1
      · exact List.mem_append.2 (.inl h1)
      · exact List.mem_append.2 (.inr (List.mem_cons_of_mem _ h1))
theorem AtL.found {L : List (List Int)} {p : List Int} {i : Nat} (hL : RiseL L) (h : AtL L p i) : p ∈ L ↔ i < L.length ∧ L[i]?.getD [] = p := by
  obtain ⟨h0, h1, h2⟩ := h
  constructor
  · intro hp
    obtain ⟨j, hj, e⟩ := List.mem_iff_getElem.1 hp
    have ej : L[j]?.getD [] = p := by rw [List.getElem?_eq_getElem hj]; exact e
    have hij : ¬ j < i := fun hh => by have := h1 j hh; rw [ej, cmpL_refl] at this; omega
    refine ⟨by omega, ?_⟩
    rcases Nat.lt_or_ge i j with hlt | hge
    · have h3 := h2 i (Nat.le_refl _) (by omega)
      have h4 := List.pairwise_iff_getElem.1 hL i j (by omega) hj hlt
      rw [List.getElem?_eq_getElem (by omega)] at h3
      rw [e] at h4
      exact absurd h4 h3
    · rw [show i = j by omega]; exact ej
  · rintro ⟨hi, e⟩
    rw [← e, List.getElem?_eq_getElem hi]
    exact List.getElem_mem hi
theorem RiseL.ins {L : List (List Int)} {p : List Int} {i : Nat} (hL : RiseL L) (h : AtL L p i) (hp : p ∉ L) : RiseL (insL L i p) := by
  obtain ⟨h0, h1, h2⟩ := h
  unfold RiseL insL
  rw [List.pairwise_append]
  refine ⟨hL.sublist (List.take_sublist _ _), ?_, ?_⟩
  · rw [List.pairwise_cons]
    refine ⟨fun q hq => ?_, hL.sublist (List.drop_sublist _ _)⟩
    obtain ⟨j, hj, e⟩ := List.mem_iff_getElem.1 hq
    have hjl : i + j < L.length := by simp at hj; omega
    have e2 : L[i + j]?.getD [] = q := by rw [List.getElem?_eq_getElem hjl]; rw [← e, List.getElem_drop]; rfl
    have h3 := h2 (i + j) (by omega) hjl
    rw [e2] at h3
    have hne : cmpL q p ≠ 0 := fun e3 => hp (by rw [← (cmpL_zero q p).1 e3]; exact List.mem_of_mem_drop hq)
    rw [cmpL_neg]
    omega
  · intro a ha b hb
    obtain ⟨j, hj, e⟩ := List.mem_iff_getElem.1 ha
    have hji : j < i := by simp at hj; omega
    have hjl : j < L.length := by omega
    have ea : L[j]?.getD [] = a := by rw [List.getElem?_eq_getElem hjl]; rw [← e, List.getElem_take]; rfl
    have hap := h1 j hji
    rw [ea] at hap
    rcases List.mem_cons.1 hb with rfl | hb
    · exact hap
    · obtain ⟨k, hk, e3⟩ := List.mem_iff_getElem.1 hb
      have hkl : i + k < L.length := by simp at hk; omega
      have h4 := List.pairwise_iff_getElem.1 hL j (i + k) hjl hkl (by omega)
      rw [List.getElem_take] at e
      rw [List.getElem_drop] at e3
      rw [e, e3] at h4
      exact h4

theorem nodup_sub_len {α : Type} [DecidableEq α] : ∀ (l m : List α), l.Nodup → (∀ z, z ∈ l → z ∈ m) → l.length ≤ m.length
  | [], _, _, _ => by simp
  | a :: l, m, hn, hs => by
    rw [List.nodup_cons] at hn
    have ha := hs a (by simp)
    have h := nodup_sub_len l (m.erase a) hn.2 (fun z hz => by
      have hza : z ≠ a := fun e => hn.1 (e ▸ hz)
      exact (List.mem_erase_of_ne hza).2 (hs z (by simp [hz])))
    rw [List.length_erase_of_mem ha] at h
    have := List.length_pos_of_mem ha
    rw [List.length_cons]; omega
/-- What goes one to one into a finite set goes onto it. -/
theorem onto_of_inj {α : Type} [DecidableEq α] {L : List α} (hn : L.Nodup) {f : α → α} (hf : ∀ x, x ∈ L → f x ∈ L) (hi : ∀ x y, x ∈ L → y ∈ L → f x = f y → x = y) {y : α} (hy : y ∈ L) : ∃ x, x ∈ L ∧ f x = y := by
  by_cases h : y ∈ L.map f
  · obtain ⟨x, hx, e⟩ := List.mem_map.1 h
    exact ⟨x, hx, e⟩
  · have hnd : (y :: L.map f).Nodup := by
      rw [List.nodup_cons]
      refine ⟨h, ?_⟩
      unfold List.Nodup
      rw [List.pairwise_map]
      exact List.Pairwise.imp_of_mem (fun {a b} ha hb hab e => hab (hi a b ha hb e)) hn
    have := nodup_sub_len _ L hnd (fun z hz => by
      rcases List.mem_cons.1 hz with rfl | hz
      · exact hy
      · obtain ⟨x, hx, rfl⟩ := List.mem_map.1 hz
        exact hf x hx)
    rw [List.length_cons, List.length_map] at this
    omega

/-- All products of l's, as the program goes through them. -/
inductive Gen (l : List (List Int)) : List Int → Prop
  | mk {p : List Int} : p ∈ l → Gen l p
  | mul {p q : List Int} : Gen l p → q ∈ l → Gen l (mulL p q)
/-- All products of l's, as the document does: from what stays on. -/
inductive Gd (l : List (List Int)) (n : Nat) : List Int → Prop
  | one : Gd l n (idL n)
  | mul {p q : List Int} : Gd l n p → q ∈ l → Gd l n (mulL p q)
/-- Permutations of n points. -/
def Prms (l : List (List Int)) (n : Nat) : Prop := ∀ p, p ∈ l → IsPerm p ∧ p.length = n
theorem Gen.prm {l : List (List Int)} {n : Nat} (hl : Prms l n) {p : List Int} (h : Gen l p) : IsPerm p ∧ p.length = n := by
  induction h with
  | mk h => exact hl _ h
  | mul _ hq ih => exact ⟨mulL_perm ih.1 (hl _ hq).1 (by rw [ih.2, (hl _ hq).2]), by rw [mulL_len]; exact ih.2⟩
theorem Gd.prm {l : List (List Int)} {n : Nat} (hl : Prms l n) {p : List Int} (h : Gd l n p) : IsPerm p ∧ p.length = n := by
  induction h with
  | one => exact ⟨idL_perm n, idL_len n⟩
  | mul _ hq ih => exact ⟨mulL_perm ih.1 (hl _ hq).1 (by rw [ih.2, (hl _ hq).2]), by rw [mulL_len]; exact ih.2⟩
theorem Gen.gd {l : List (List Int)} {n : Nat} (hl : Prms l n) {p : List Int} (h : Gen l p) : Gd l n p := by
  induction h with
  | @mk q h =>
    have := Gd.mul (Gd.one (l := l) (n := n)) h
    rw [← (hl _ h).2, id_mul] at this
    rwa [(hl _ h).2] at this
  | mul _ hq ih => exact .mul ih hq
theorem mulL_cancel {p r q : List Int} (hp : IsPerm p) (hr : IsPerm r) (hq : IsPerm q) (h1 : p.length = q.length) (h2 : r.length = q.length) (h : mulL p q = mulL r q) : p = r := by
  have e : mulL (mulL p q) (Pm.invL q) = mulL (mulL r q) (Pm.invL q) := by rw [h]
  have k : ∀ x : List Int, IsPerm x → x.length = q.length → mulL (mulL x q) (Pm.invL q) = x := fun x hx hxl => by
    rw [mulL_assoc hx hxl, mul_inv hq, ← hxl]
    apply list_ext (by rw [mulL_len])
    intro i hi
    rw [mulL_len] at hi
    have hb := hx.1 i hi
    rw [mulL_get _ hi, idL_get (by omega)]
    omega
  rwa [k p hp h1, k r hr h2] at e
/-- A list that has all makers, and with each thing its products, has what stays: so it is the document's. -/
theorem closed_all {l L : List (List Int)} {n : Nat} (hl : Prms l n) (hne : l ≠ []) (hn : L.Nodup) (hs : ∀ p, p ∈ L → Gen l p) (hm : ∀ p, p ∈ l → p ∈ L) (hc : ∀ p q, p ∈ L → q ∈ l → mulL p q ∈ L) {p : List Int} : p ∈ L ↔ Gd l n p := by
  constructor
  · intro h; exact (hs p h).gd hl
  · intro h
    induction h with
    | one =>
      obtain ⟨q, hq⟩ := List.exists_mem_of_ne_nil l hne
      obtain ⟨hqp, hql⟩ := hl q hq
      obtain ⟨x, hx, e⟩ := onto_of_inj hn (f := fun x => mulL x q) (fun x hx => hc x q hx hq) (fun x y hx hy e => by
        have h1 := (hs x hx).prm hl
        have h2 := (hs y hy).prm hl
        exact mulL_cancel h1.1 h2.1 hqp (by rw [h1.2, hql]) (by rw [h2.2, hql]) e) (hm q hq)
      have h1 := (hs x hx).prm hl
      have hid : x = idL n := mulL_cancel h1.1 (idL_perm n) hqp (by rw [h1.2, hql]) (by rw [idL_len, hql]) (by
        show mulL x q = mulL (idL n) q
        rw [show mulL x q = q from e, ← hql, id_mul])
      rw [← hid]; exact hx
    | mul _ hq ih => exact hc _ _ ih hq
/-- The group that l makes, in its order. -/
def AllP (l : List (List Int)) (n : Nat) (T : List (List Int)) : Prop := RiseL T ∧ ∀ p, p ∈ T ↔ Gd l n p
theorem AllP.unique {l T S : List (List Int)} {n : Nat} (h1 : AllP l n T) (h2 : AllP l n S) : T = S := h1.1.unique h2.1 fun p => by rw [h1.2, h2.2]
/-- Some sixty and one things are too many. -/
theorem AllP.much {l T L : List (List Int)} {n : Nat} (h : AllP l n T) (hn : L.Nodup) (hs : ∀ p, p ∈ L → Gd l n p) : L.length ≤ T.length :=
  nodup_sub_len L T hn fun z hz => (h.2 z).2 (hs z hz)
end Go.Proofs.Ytgphcfmiamiojaa
