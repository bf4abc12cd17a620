/- Package quot: numbers, group, Quotient; the law's question whether a group is the quotient; the chapter's example. -/
import Derived.Test.YtmgengplfebmjaaDoorCsa
import Derived.Test.YtmgengplfebmjaaDoorDw
import Derived.Test.YtmgengplfebmjaaDoorQa
import Derived.Maps.OwnOps
import Derived.Deep.AppendLies
import Derived.Deep.RegionLaw
namespace Go.Proofs.YtmgengplfebmjaaDoor
open Go Go.RowKit

section
variable {n : Nat} {f : Nat → Nat → Bool}
/-- The least thing of a thing's set. -/
theorem prts_rep (h : Prts n f) {a : Nat} (ha : a < n) : ∃ r, r < n ∧ f a r = true ∧ r ∈ fsts n f n ∧ ((List.range n).find? fun b => decide (bs (f b) n = bs (f a) n)) = some r ∧ num n f a = (fsts n f r).length := by
  have hs : ((List.range n).find? fun b => decide (bs (f b) n = bs (f a) n)).isSome = true := by
    rw [List.find?_isSome]
    exact ⟨a, List.mem_range.2 ha, by simp⟩
  obtain ⟨r, hr⟩ := Option.isSome_iff_exists.1 hs
  obtain ⟨h1, h2, h3⟩ := List.find?_range_eq_some.1 hr
  have hrn := List.mem_range.1 h2
  have h1 : bs (f r) n = bs (f a) n := by simpa using h1
  have hfr : f a r = true := by rw [← bs_inj h1 r hrn]; exact h.refl r hrn
  refine ⟨r, hrn, hfr, ?_, hr, by unfold num; rw [hr]; rfl⟩
  unfold fsts
  rw [List.mem_filter, List.mem_range]
  refine ⟨hrn, List.all_eq_true.2 fun b hb => ?_⟩
  have := h3 b (List.mem_range.1 hb)
  rw [h1]
  simpa using this
theorem fsts_take (n : Nat) (f : Nat → Nat → Bool) {r j : Nat} (h : r ≤ j) : fsts n f r = (fsts n f j).filter fun a => decide (a < r) := by
  unfold fsts
  rw [List.filter_filter]
  have : List.range r = (List.range j).filter fun a => decide (a < r) := by
    induction j with
    | zero => have : r = 0 := by omega
              subst this; rfl
    | succ j ih =>
      by_cases e : r = j + 1
      · subst e
        rw [List.filter_eq_self.2]
        intro a ha
        simpa using ha
      · rw [List.range_succ, List.filter_append, ← ih (by omega)]
        simp; omega
  rw [this, List.filter_filter]
  exact List.filter_congr fun a _ => Bool.and_comm _ _
theorem sorted_idx : ∀ (l : List Nat), l.Pairwise (· < ·) → ∀ i, (h : i < l.length) → (l.filter fun a => decide (a < l[i])).length = i
  | [], _, i, h => by simp at h
  | x :: t, hp, i, h => by
    rw [List.pairwise_cons] at hp
    cases i with
    | zero =>
      simp only [List.getElem_cons_zero]
      rw [List.filter_cons, if_neg (by simp)]
      rw [List.filter_eq_nil_iff.2]
      · rfl
      · intro a ha
        have := hp.1 a ha
        simp; omega
    | succ i =>
      simp only [List.getElem_cons_succ, List.length_cons] at h ⊢
      have hx := hp.1 (t[i]'(by omega)) (List.getElem_mem _)
      rw [List.filter_cons, if_pos (by simpa using hx), List.length_cons, sorted_idx t hp.2 i (by omega)]
theorem fsts_sorted (n : Nat) (f : Nat → Nat → Bool) (j : Nat) : (fsts n f j).Pairwise (· < ·) := List.Pairwise.sublist List.filter_sublist List.pairwise_lt_range
/-- The number of the set that stands at a place. -/
theorem prts_num_at (_h : Prts n f) {i : Nat} (hi : i < (fsts n f n).length) : num n f (fsts n f n)[i] = i := by
  have hm := List.getElem_mem hi
  generalize hc : (fsts n f n)[i] = c at *
  have hcn : c < n := by unfold fsts at hm; exact List.mem_range.1 (List.mem_filter.1 hm).1
  have hal : (List.range c).all (fun b => decide (bs (f b) n ≠ bs (f c) n)) = true := by unfold fsts at hm; exact (List.mem_filter.1 hm).2
  rw [num_new hcn hal, fsts_take n f (Nat.le_of_lt hcn), ← hc]
  exact sorted_idx _ (fsts_sorted n f n) i hi
theorem prts_num_lt (h : Prts n f) {a : Nat} (ha : a < n) : num n f a < (fsts n f n).length ∧ ∀ hl : num n f a < (fsts n f n).length, f a ((fsts n f n)[num n f a]) = true := by
  obtain ⟨r, hr, hf, hm, hfd, hnum⟩ := prts_rep h ha
  obtain ⟨i, hi, he⟩ := List.mem_iff_getElem.1 hm
  have h1 := prts_num_at h hi
  have h2 : num n f r = num n f a := by
    refine num_same (bs_ext fun x hx => ?_)
    exact (h.same a r ha hr hf x hx).symm
  rw [he, h2] at h1
  refine ⟨by omega, fun hl => ?_⟩
  have : (fsts n f n)[num n f a] = r := by simp only [h1]; exact he
  rw [this]
  exact hf
theorem prts_num_eq (h : Prts n f) {a b : Nat} (ha : a < n) (hb : b < n) : num n f a = num n f b ↔ f a b = true := by
  constructor
  · intro e
    obtain ⟨h1, h2⟩ := prts_num_lt h ha
    obtain ⟨h3, h4⟩ := prts_num_lt h hb
    have h5 := h2 h1
    have h6 := h4 h3
    simp only [← e] at h6
    have hm := List.getElem_mem h1
    generalize (fsts n f n)[num n f a] = c at *
    have hcn : c < n := by unfold fsts at hm; exact List.mem_range.1 (List.mem_filter.1 hm).1
    rw [h.same a c ha hcn h5 b hb, ← h.same b c hb hcn h6 b hb]
    exact h.refl b hb
  · intro e
    exact num_same (bs_ext fun x hx => h.same a b ha hb e x hx)
/-- The document's number of a thing's set. -/
theorem prts_which (h : Prts n f) {a : Nat} (ha : a < n) : whichI (csl n f n) a = (num n f a : Int) := by
  obtain ⟨h1, h2⟩ := prts_num_lt h ha
  have hget : ∀ t, t < (fsts n f n).length → ∀ hl : t < (fsts n f n).length, (csl n f n)[t]?.getD [] = li (lst n (f (fsts n f n)[t])) := fun t _ hl => by unfold csl; simp [hl]
  have hmem : ∀ t (hl : t < (fsts n f n).length), (a : Int) ∈ (csl n f n)[t]?.getD [] ↔ num n f a = t := fun t hl => by
    rw [hget t hl hl, mem_li, mem_lst]
    have hm := List.getElem_mem hl
    have hcn : (fsts n f n)[t] < n := by unfold fsts at hm; exact List.mem_range.1 (List.mem_filter.1 hm).1
    have h3 := prts_num_at h hl
    rw [← prts_num_eq h hcn ha, h3]
    exact ⟨fun h4 => h4.2.symm, fun h4 => ⟨ha, h4.symm⟩⟩
  refine whichI_at (by rw [csl_len]; exact h1) ((hmem _ h1).2 rfl) fun t ht => ?_
  rw [hmem t (by omega)]
  omega
end
section
variable {n e : Nat} {zs : List Int} {q : Nat → Bool}
theorem fst_lt {f : Nat → Nat → Bool} {i : Nat} (hi : i < (fsts n f n).length) : (fsts n f n)[i] < n := by
  have hm := List.getElem_mem hi
  unfold fsts at hm ⊢
  exact List.mem_range.1 (List.mem_filter.1 hm).1
/-- A right coset, moved. -/
theorem rgt_mul (g : IsGrp n zs e) {a b c : Nat} (ha : a < n) (hb : b < n) (hc : c < n) : rgtq n zs (lst n q) (tm n zs a c) (tm n zs b c) = rgtq n zs (lst n q) a b := by
  obtain ⟨c1, c2, _, _⟩ := iv_spec g hc
  obtain ⟨a1, _, _, _⟩ := iv_spec g ha
  rw [rgt_iff g (tm_lt g.tab ha hc) (tm_lt g.tab hb hc), rgt_iff g ha hb]
  have : tm n zs (tm n zs b c) (iv n zs e (tm n zs a c)) = tm n zs b (iv n zs e a) := by
    have h1 : iv n zs e (tm n zs a c) = tm n zs (iv n zs e c) (iv n zs e a) := by
      refine (iv_only g (tm_lt g.tab ha hc) (tm_lt g.tab c1 a1) ?_).symm
      obtain ⟨_, a2, _, _⟩ := iv_spec g ha
      rw [g.ass a c _ ha hc (tm_lt g.tab c1 a1), ← g.ass c _ _ hc c1 a1, c2, g.left _ a1, a2]
    rw [h1, g.ass b c _ hb hc (tm_lt g.tab c1 a1), ← g.ass c _ _ hc c1 a1, c2, g.left _ a1]
  rw [this]
theorem csl_get {f : Nat → Nat → Bool} {t : Nat} (ht : t < (fsts n f n).length) : (csl n f n)[t]?.getD [] = li (lst n (f (fsts n f n)[t])) := by unfold csl; simp [ht]
/-- What stands in the lists. -/
theorem csl_at {f : Nat → Nat → Bool} (h : Prts n f) (t : Nat) (x : Int) : x ∈ (csl n f n)[t]?.getD [] ↔ ∃ a : Nat, a < n ∧ x = (a : Int) ∧ num n f a = t := by
  by_cases ht : t < (fsts n f n).length
  · rw [csl_get ht]
    have hcn := fst_lt ht
    constructor
    · intro hx
      unfold li at hx
      obtain ⟨a, ha, rfl⟩ := List.mem_map.1 hx
      obtain ⟨h1, h2⟩ := mem_lst.1 ha
      refine ⟨a, h1, rfl, ?_⟩
      rw [← (prts_num_eq h hcn h1).2 h2, prts_num_at h ht]
    · rintro ⟨a, ha, rfl, hnum⟩
      rw [mem_li, mem_lst]
      refine ⟨ha, (prts_num_eq h hcn ha).1 ?_⟩
      rw [prts_num_at h ht, hnum]
  · rw [List.getElem?_eq_none (by rw [csl_len]; omega)]
    constructor
    · intro hx; simp at hx
    · rintro ⟨a, ha, _, hnum⟩
      have := (prts_num_lt h ha).1
      omega
theorem csl_head {f : Nat → Nat → Bool} (h : Prts n f) {t : Nat} (ht : t < (fsts n f n).length) : ∃ s, (csl n f n)[t]?.getD [] = (((fsts n f n)[t]?.getD 0 : Nat) : Int) :: s := by
  rw [csl_get ht, List.getElem?_eq_getElem ht, Option.getD_some]
  have hm := List.getElem_mem ht
  generalize (fsts n f n)[t] = c at *
  rw [h.fsts, List.mem_filter, decide_eq_true_eq] at hm
  obtain ⟨_, hm⟩ := hm
  cases hl : lst n (f c) with
  | nil => rw [hl] at hm; simp at hm
  | cons z s => rw [hl] at hm; simp at hm; subst hm; exact ⟨li s, rfl⟩
theorem csl_len_le {f : Nat → Nat → Bool} (t : Nat) : ((csl n f n)[t]?.getD []).length ≤ n := by
  by_cases ht : t < (fsts n f n).length
  · rw [csl_get ht, li_len]
    unfold lst
    exact Nat.le_trans (List.length_filter_le _ _) (by simp)
  · rw [List.getElem?_eq_none (by rw [csl_len]; omega)]
    simp
/-- Of each thing the number of its set. -/
def ontoL (n : Nat) (f : Nat → Nat → Bool) : List Int := (List.range n).map fun a => (num n f a : Int)
theorem ontoL_len (n : Nat) (f : Nat → Nat → Bool) : (ontoL n f).length = n := by simp [ontoL]
theorem ontoL_get {f : Nat → Nat → Bool} {a : Nat} (ha : a < n) : (ontoL n f)[a]?.getD 0 = (num n f a : Int) := by simp [ontoL, ha]
/-- The first numbers, and noughts. -/
def ontoU (n : Nat) (f : Nat → Nat → Bool) (k : Nat) : List Int := (List.range n).map fun a => if a < k then (num n f a : Int) else 0
theorem ontoU_len (n : Nat) (f : Nat → Nat → Bool) (k : Nat) : (ontoU n f k).length = n := by simp [ontoU]
theorem ontoU_zero (n : Nat) (f : Nat → Nat → Bool) : ontoU n f 0 = List.replicate n 0 := by
  unfold ontoU
  apply List.ext_getElem <;> simp
theorem ontoU_all (n : Nat) (f : Nat → Nat → Bool) : ontoU n f n = ontoL n f := by
  unfold ontoU ontoL
  exact List.map_congr_left fun a ha => if_pos (List.mem_range.1 ha)
theorem ontoU_set {f : Nat → Nat → Bool} {k : Nat} : ontoU n f (k + 1) = (ontoU n f k).set k (num n f k : Int) := by
  apply List.ext_getElem
  · simp [ontoU]
  · intro i h1 h2
    rw [List.getElem_set]
    simp only [ontoU, List.getElem_map, List.getElem_range]
    by_cases e : k = i
    · subst e
      rw [if_pos (by omega), if_pos rfl]
    · rw [if_neg e]
      by_cases h3 : i < k
      · rw [if_pos (by omega), if_pos h3]
      · rw [if_neg (by omega), if_neg h3]
/-- Products of numbers. -/
def quoF (n : Nat) (zs : List Int) (f : Nat → Nat → Bool) (i j : Nat) : Nat := num n f (tm n zs ((fsts n f n)[i]?.getD 0) ((fsts n f n)[j]?.getD 0))
theorem rgt_both (g : IsGrp n zs e) (hs : subT n zs e q = true) (hN : nrmq n zs e q = true) {a b c d : Nat} (ha : a < n) (hb : b < n) (hc : c < n) (hd : d < n)
    (h1 : rgtq n zs (lst n q) a c = true) (h2 : rgtq n zs (lst n q) b d = true) : rgtq n zs (lst n q) (tm n zs a b) (tm n zs c d) = true := by
  obtain ⟨x, hx, rfl⟩ := mem_rgt.1 h1
  obtain ⟨y, hy, rfl⟩ := mem_rgt.1 h2
  obtain ⟨hxn, hqx⟩ := mem_lst.1 hx
  obtain ⟨hyn, hqy⟩ := mem_lst.1 hy
  obtain ⟨a1, a2, a3, _⟩ := iv_spec g ha
  have hcj := (nrm_iff g).1 hN y (iv n zs e a) (List.mem_range.2 hyn) (List.mem_range.2 a1) hqy
  unfold Fin.cj at hcj
  rw [show iv n zs e (iv n zs e a) = a from (iv_only g a1 ha a3).symm] at hcj
  have hz := tm_lt g.tab a1 hyn
  refine mem_rgt.2 ⟨tm n zs x (tm n zs (tm n zs a y) (iv n zs e a)), mem_lst.2 ⟨?_, ?_⟩, ?_⟩
  · exact tm_lt g.tab hxn (tm_lt g.tab (tm_lt g.tab ha hyn) a1)
  · refine sub_mul hs hxn (tm_lt g.tab (tm_lt g.tab ha hyn) a1) hqx ?_
    first
      | exact hcj
      | (rw [g.ass a y _ ha hyn a1]; exact hcj)
  · have hay := tm_lt g.tab ha hyn
    have hab := tm_lt g.tab ha hb
    rw [g.ass x _ _ hxn (tm_lt g.tab hay a1) hab, g.ass (tm n zs a y) _ _ hay a1 hab, ← g.ass _ a b a1 ha hb, a3, g.left b hb, g.ass a y b ha hyn hb, g.ass x a _ hxn ha (tm_lt g.tab hyn hb)]
theorem quo_hom (g : IsGrp n zs e) (hs : subT n zs e q = true) (hN : nrmq n zs e q = true) {a b : Nat} (ha : a < n) (hb : b < n) :
    quoF n zs (rgtq n zs (lst n q)) (num n (rgtq n zs (lst n q)) a) (num n (rgtq n zs (lst n q)) b) = num n (rgtq n zs (lst n q)) (tm n zs a b) := by
  have P := rgt_parts g hs
  obtain ⟨a1, a2⟩ := prts_num_lt P ha
  obtain ⟨b1, b2⟩ := prts_num_lt P hb
  have a3 := a2 a1
  have b3 := b2 b1
  have ha9 := fst_lt a1
  have hb9 := fst_lt b1
  unfold quoF
  rw [List.getElem?_eq_getElem a1, List.getElem?_eq_getElem b1, Option.getD_some, Option.getD_some]
  exact ((prts_num_eq P (tm_lt g.tab ha hb) (tm_lt g.tab ha9 hb9)).2 (rgt_both g hs hN ha hb ha9 hb9 a3 b3)).symm
theorem quo_grp (g : IsGrp n zs e) (hs : subT n zs e q = true) (hN : nrmq n zs e q = true) :
    IsGrp (fsts n (rgtq n zs (lst n q)) n).length (mkT (fsts n (rgtq n zs (lst n q)) n).length (quoF n zs (rgtq n zs (lst n q)))) (num n (rgtq n zs (lst n q)) e) := by
  have P := rgt_parts g hs
  refine grp_image g (Nat.le_trans (fsts_len _ _ _) g.tab.le) (fun a ha => (prts_num_lt P ha).1) (fun i hi => ⟨_, fst_lt hi, prts_num_at P hi⟩) (fun a b ha hb => quo_hom g hs hN ha hb)
end
end Go.Proofs.YtmgengplfebmjaaDoor

namespace Go.Proofs.YtmgengplfebmjaaDoor
open Go Go.RowKit Go.Maps

theorem law3 : Keyed Tryd.prog 3 := int_keyed und3'
/-- What the map has of the first i lists, and of the first k numbers of the next. -/
structure MLs (ls : List (List Int)) (i k : Nat) (D : DataW Unit) : Prop where
  old : ∀ t, t < i → ∀ a, a ∈ ls[t]?.getD [] → D.atKey (.int .i64 a) (.lit (.int .i64 0)) = .lit (.int .i64 (t : Nat))
  new : ∀ a, a ∈ (ls[i]?.getD []).take k → D.atKey (.int .i64 a) (.lit (.int .i64 0)) = .lit (.int .i64 (i : Nat))
theorem MLs.step {ls : List (List Int)} {i k : Nat} {D : DataW Unit} (h : MLs ls i k D) (hD : IsMap D) (hd : ∀ (s t : Nat) (a : Int), a ∈ ls[s]?.getD [] → a ∈ ls[t]?.getD [] → s = t) (hk : k < (ls[i]?.getD []).length) :
    MLs ls i (k + 1) (D.put (.int .i64 ((ls[i]?.getD [])[k]?.getD 0)) (.lit (.int .i64 (i : Nat)))) := by
  have hx : (ls[i]?.getD [])[k]?.getD 0 ∈ ls[i]?.getD [] := by simp [hk]
  generalize hxe : (ls[i]?.getD [])[k]?.getD 0 = x at *
  constructor
  · intro t ht a ha
    have hne : a ≠ x := fun e => by
      subst e
      have := hd t i a ha hx
      omega
    rw [atKey_put_other (fun h9 => hne (by injection h9))]
    exact h.old t ht a ha
  · intro a ha
    by_cases e : a = x
    · subst e
      rw [atKey_put_same hD (by trivial)]
    · rw [atKey_put_other (fun h9 => e (by injection h9))]
      refine h.new a ?_
      rw [List.take_add_one, List.mem_append] at ha
      rcases ha with ha | ha
      · exact ha
      · rw [List.getElem?_eq_getElem hk] at ha hxe
        simp at ha hxe
        exact absurd (ha.trans hxe) e
theorem MLs.done {ls : List (List Int)} {i : Nat} {D : DataW Unit} (h : MLs ls i (ls[i]?.getD []).length D) : MLs ls (i + 1) 0 D := by
  constructor
  · intro t ht a ha
    by_cases e : t = i
    · subst e
      exact h.new a (by rw [List.take_length]; exact ha)
    · exact h.old t (by omega) a ha
  · intro a ha
    simp at ha
theorem map_le {P : Program} {k : TypeId} {R : Value → Option (DataW Unit × List MemPlace)} {w : World} {b n m : Nat} {D : DataW Unit} (h : w.ownsMap P k R b n D) (hm : n ≤ m) : w.ownsMap P k R b m D := by
  obtain ⟨d, rfl⟩ := Nat.exists_eq_add_of_le hm
  clear hm
  induction d with
  | zero => exact h
  | succ d ih => exact map_more ih
end Go.Proofs.YtmgengplfebmjaaDoor

namespace Go.Proofs.YtmgengplfebmjaaDoor
open Go Go.RowKit Go.Maps

end Go.Proofs.YtmgengplfebmjaaDoor

namespace Go.Proofs.YtmgengplfebmjaaDoor
open Go Go.RowKit Go.Maps

/-- What a function that answers a group and a fault begins with. -/
structure BegQ (w w0 : World) (N : Int) (v : Value) : Prop where
  eq : w0 = ((w.alloc (.cells #[.int .i64 N, v] 24)).alloc (.cells #[.int .i64 0, .slice none 0 0] 24)).alloc (.cells #[.int .i64 0, .int .i64 0] 27)
  bel : Below w.heap.size w w0
  box : BoxG w0 w.heap.size N v
  grp : Blk w0 (w.heap.size + 1) 24 [.int .i64 0, .slice none 0 0]
  res : Blk w0 (w.heap.size + 1 + 1) 27 [.int .i64 0, .int .i64 0]
  siz : w0.heap.size = w.heap.size + 1 + 1 + 1
theorem BegQ.new (w : World) (N : Int) (v : Value) : ∃ w0, BegQ w w0 N v := by
  refine ⟨_, rfl, ((balloc w _).alloc (by simp) _).alloc (by simp; omega) _, ((blk0 (w := w) (T := 24) _ _).alloc _).alloc _, ?_, ?_, by simp⟩
  · have h := (blk0 (w := w.alloc (.cells #[.int .i64 N, v] 24)) (T := 24) (.int .i64 0) (.slice none 0 0)).alloc (.cells #[.int .i64 0, .int .i64 0] 27)
    rw [World.size_alloc] at h
    exact h
  · have h := blk0 (w := (w.alloc (.cells #[.int .i64 N, v] 24)).alloc (.cells #[.int .i64 0, .slice none 0 0] 24)) (T := 27) (.int .i64 0) (.int .i64 0)
    rw [World.size_alloc, World.size_alloc] at h
    exact h
end Go.Proofs.YtmgengplfebmjaaDoor

namespace Go.Proofs.YtmgengplfebmjaaDoor
open Go Go.RowKit

theorem sq_l : lfault 8 [0, 2] = (0, 0) := by decide +kernel
theorem sq_s : subT 8 sqT 0 (pset [0, 2]) = true := by decide +kernel
theorem sq_n : nrmq 8 sqT 0 (pset [0, 2]) = true := by decide +kernel
theorem sq_k : (fsts 8 (rgtq 8 sqT (lst 8 (pset [0, 2]))) 8).length = 4 := by decide +kernel
theorem sq_o : ontoL 8 (rgtq 8 sqT (lst 8 (pset [0, 2]))) = [0, 1, 0, 1, 2, 3, 2, 3] := by decide +kernel
theorem sq_e : num 8 (rgtq 8 sqT (lst 8 (pset [0, 2]))) 0 = 0 := by decide +kernel
def sqQ : List Int := mkT 4 (quoF 8 sqT (rgtq 8 sqT (lst 8 (pset [0, 2]))))
theorem sq_g : IsGrp 4 sqQ 0 := by
  have h := quo_grp (q := pset [0, 2]) sqT_grp sq_s sq_n
  rw [sq_k, sq_e] at h
  exact h
theorem sq_p : pz 4 sqQ 0 1 2 = 0 := by decide +kernel
end Go.Proofs.YtmgengplfebmjaaDoor

namespace Go.Proofs.YtmgengplfebmjaaDoor
open Go Go.RowKit

end Go.Proofs.YtmgengplfebmjaaDoor
