/- Package quot: numbers, group, Quotient; the law's question whether a group is the quotient; the chapter's example. -/
import Derived.Test.YtodabkjadejekaaDoorCsa
import Derived.Test.YtodabkjadejekaaDoorDw
import Derived.Test.YtodabkjadejekaaDoorQa
import Derived.Maps.OwnOps
import Derived.Deep.AppendLies
import Derived.Deep.RegionLaw
namespace Go.Proofs.YtodabkjadejekaaDoor
open Go Go.RowKit

section
variable {n : Nat} {f : Nat → Nat → Bool}
/-- The least thing of a thing's set. -/
theorem prts_rep (h : Prts n f) {a : Nat} (ha : a < n) : ∃ r, r < n ∧ f a r = true ∧ r ∈ fsts n f n ∧ ((List.range n).find? fun b => decide (bs (f b) n = bs (f a) n)) = some r ∧ num n f a = (fsts n f r).length := by
  have hs : ((List.range n).find? fun b => decide (bs (f b) n = bs (f a) n)).isSome = true := by
    rw [List.find?_isSome]
    exact ⟨a, List.mem_range.2 ha, by simp⟩
  obtain ⟨r, hr⟩ := Option.isSome_iff_exists.1 hs
  obtain ⟨h1, h2, h3⟩ := List.find?_range_eq_some.1 hr
  have hrn := List.mem_range.1 h2
  have h1 : bs (f r) n = bs (f a) n := by simpa using h1
  have hfr : f a r = true := by rw [← bs_inj h1 r hrn]; exact h.refl r hrn
  refine ⟨r, hrn, hfr, ?_, hr, by unfold num; rw [hr]; rfl⟩
  unfold fsts
  rw [List.mem_filter, List.mem_range]
  refine ⟨hrn, List.all_eq_true.2 fun b hb => ?_⟩
  have := h3 b (List.mem_range.1 hb)
  rw [h1]
  simpa using this
theorem fsts_take (n : Nat) (f : Nat → Nat → Bool) {r j : Nat} (h : r ≤ j) : fsts n f r = (fsts n f j).filter fun a => decide (a < r) := by
  unfold fsts
  rw [List.filter_filter]
  have : List.range r = (List.range j).filter fun a => decide (a < r) := by
    induction j with
    | zero => have : r = 0 := by omega
              subst this; rfl
    | succ j ih =>
      by_cases e : r = j + 1
      · subst e
        rw [List.filter_eq_self.2]
        intro a ha
        simpa using ha
      · rw [List.range_succ, List.filter_append, ← ih (by omega)]
        simp; omega
  rw [this, List.filter_filter]
  exact List.filter_congr fun a _ => Bool.and_comm _ _
theorem sorted_idx : ∀ (l : List Nat), l.Pairwise (· < ·) → ∀ i, (h : i < l.length) → (l.filter fun a => decide (a < l[i])).length = i
  | [], _, i, h => by simp at h
  | x :: t, hp, i, h => by
    rw [List.pairwise_cons] at hp
    cases i with
    | zero =>
      simp only [List.getElem_cons_zero]
      rw [List.filter_cons, if_neg (by simp)]
      rw [List.filter_eq_nil_iff.2]
      · rfl
      · intro a ha
        have := hp.1 a ha
        simp; omega
    | succ i =>
      simp only [List.getElem_cons_succ, List.length_cons] at h ⊢
      have hx := hp.1 (t[i]'(by omega)) (List.getElem_mem _)
      rw [List.filter_cons, if_pos (by simpa using hx), List.length_cons, sorted_idx t hp.2 i (by omega)]
theorem fsts_sorted (n : Nat) (f : Nat → Nat → Bool) (j : Nat) : (fsts n f j).Pairwise (· < ·) := List.Pairwise.sublist List.filter_sublist List.pairwise_lt_range
/-- The number of the set that stands at a place. -/
theorem prts_num_at (_h : Prts n f) {i : Nat} (hi : i < (fsts n f n).length) : num n f (fsts n f n)[i] = i := by
  have hm := List.getElem_mem hi
  generalize hc : (fsts n f n)[i] = c at *
  have hcn : c < n := by unfold fsts at hm; exact List.mem_range.1 (List.mem_filter.1 hm).1
  have hal : (List.range c).all (fun b => decide (bs (f b) n ≠ bs (f c) n)) = true := by unfold fsts at hm; exact (List.mem_filter.1 hm).2
  rw [num_new hcn hal, fsts_take n f (Nat.le_of_lt hcn), ← hc]
  exact sorted_idx _ (fsts_sorted n f n) i hi
theorem prts_num_lt (h : Prts n f) {a : Nat} (ha : a < n) : num n f a < (fsts n f n).length ∧ ∀ hl : num n f a < (fsts n f n).length, f a ((fsts n f n)[num n f a]) = true := by
  obtain ⟨r, hr, hf, hm, hfd, hnum⟩ := prts_rep h ha
  obtain ⟨i, hi, he⟩ := List.mem_iff_getElem.1 hm
  have h1 := prts_num_at h hi
  have h2 : num n f r = num n f a := by
    refine num_same (bs_ext fun x hx => ?_)
    exact (h.same a r ha hr hf x hx).symm
  rw [he, h2] at h1
  refine ⟨by omega, fun hl => ?_⟩
  have : (fsts n f n)[num n f a] = r := by simp only [h1]; exact he
  rw [this]
  exact hf
theorem prts_num_eq (h : Prts n f) {a b : Nat} (ha : a < n) (hb : b < n) : num n f a = num n f b ↔ f a b = true := by
  constructor
  · intro e
    obtain ⟨h1, h2⟩ := prts_num_lt h ha
    obtain ⟨h3, h4⟩ := prts_num_lt h hb
    have h5 := h2 h1
    have h6 := h4 h3
    simp only [← e] at h6
    have hm := List.getElem_mem h1
    generalize (fsts n f n)[num n f a] = c at *
    have hcn : c < n := by unfold fsts at hm; exact List.mem_range.1 (List.mem_filter.1 hm).1
    rw [h.same a c ha hcn h5 b hb, ← h.same b c hb hcn h6 b hb]
    exact h.refl b hb
  · intro e
    exact num_same (bs_ext fun x hx => h.same a b ha hb e x hx)
/-- The document's number of a thing's set. -/
theorem prts_which (h : Prts n f) {a : Nat} (ha : a < n) : whichI (csl n f n) a = (num n f a : Int) := by
  obtain ⟨h1, h2⟩ := prts_num_lt h ha
  have hget : ∀ t, t < (fsts n f n).length → ∀ hl : t < (fsts n f n).length, (csl n f n)[t]?.getD [] = li (lst n (f (fsts n f n)[t])) := fun t _ hl => by unfold csl; simp [hl]
  have hmem : ∀ t (hl : t < (fsts n f n).length), (a : Int) ∈ (csl n f n)[t]?.getD [] ↔ num n f a = t := fun t hl => by
    rw [hget t hl hl, mem_li, mem_lst]
    have hm := List.getElem_mem hl
    have hcn : (fsts n f n)[t] < n := by unfold fsts at hm; exact List.mem_range.1 (List.mem_filter.1 hm).1
    have h3 := prts_num_at h hl
    rw [← prts_num_eq h hcn ha, h3]
    exact ⟨fun h4 => h4.2.symm, fun h4 => ⟨ha, h4.symm⟩⟩
  refine whichI_at (by rw [csl_len]; exact h1) ((hmem _ h1).2 rfl) fun t ht => ?_
  rw [hmem t (by omega)]
  omega
end
section
variable {n e : Nat} {zs : List Int} {q : Nat → Bool}
theorem fst_lt {f : Nat → Nat → Bool} {i : Nat} (hi : i < (fsts n f n).length) : (fsts n f n)[i] < n := by
  have hm := List.getElem_mem hi
  unfold fsts at hm ⊢
  exact List.mem_range.1 (List.mem_filter.1 hm).1
/-- A right coset, moved. -/
theorem rgt_mul (g : IsGrp n zs e) {a b c : Nat} (ha : a < n) (hb : b < n) (hc : c < n) : rgtq n zs (lst n q) (tm n zs a c) (tm n zs b c) = rgtq n zs (lst n q) a b := by
  obtain ⟨c1, c2, _, _⟩ := iv_spec g hc
  obtain ⟨a1, _, _, _⟩ := iv_spec g ha
  rw [rgt_iff g (tm_lt g.tab ha hc) (tm_lt g.tab hb hc), rgt_iff g ha hb]
  have : tm n zs (tm n zs b c) (iv n zs e (tm n zs a c)) = tm n zs b (iv n zs e a) := by
    have h1 : iv n zs e (tm n zs a c) = tm n zs (iv n zs e c) (iv n zs e a) := by
      refine (iv_only g (tm_lt g.tab ha hc) (tm_lt g.tab c1 a1) ?_).symm
      obtain ⟨_, a2, _, _⟩ := iv_spec g ha
      rw [g.ass a c _ ha hc (tm_lt g.tab c1 a1), ← g.ass c _ _ hc c1 a1, c2, g.left _ a1, a2]
    rw [h1, g.ass b c _ hb hc (tm_lt g.tab c1 a1), ← g.ass c _ _ hc c1 a1, c2, g.left _ a1]
  rw [this]
theorem csl_get {f : Nat → Nat → Bool} {t : Nat} (ht : t < (fsts n f n).length) : (csl n f n)[t]?.getD [] = li (lst n (f (fsts n f n)[t])) := by unfold csl; simp [ht]
/-- What stands in the lists. -/
theorem csl_at {f : Nat → Nat → Bool} (h : Prts n f) (t : Nat) (x : Int) : x ∈ (csl n f n)[t]?.getD [] ↔ ∃ a : Nat, a < n ∧ x = (a : Int) ∧ num n f a = t := by
  by_cases ht : t < (fsts n f n).length
  · rw [csl_get ht]
    have hcn := fst_lt ht
    constructor
    · intro hx
      unfold li at hx
      obtain ⟨a, ha, rfl⟩ := List.mem_map.1 hx
      obtain ⟨h1, h2⟩ := mem_lst.1 ha
      refine ⟨a, h1, rfl, ?_⟩
      rw [← (prts_num_eq h hcn h1).2 h2, prts_num_at h ht]
    · rintro ⟨a, ha, rfl, hnum⟩
      rw [mem_li, mem_lst]
      refine ⟨ha, (prts_num_eq h hcn ha).1 ?_⟩
      rw [prts_num_at h ht, hnum]
  · rw [List.getElem?_eq_none (by rw [csl_len]; omega)]
    constructor
    · intro hx; simp at hx
    · rintro ⟨a, ha, _, hnum⟩
      have := (prts_num_lt h ha).1
      omega
theorem csl_head {f : Nat → Nat → Bool} (h : Prts n f) {t : Nat} (ht : t < (fsts n f n).length) : ∃ s, (csl n f n)[t]?.getD [] = (((fsts n f n)[t]?.getD 0 : Nat) : Int) :: s := by
  rw [csl_get ht, List.getElem?_eq_getElem ht, Option.getD_some]
  have hm := List.getElem_mem ht
  generalize (fsts n f n)[t] = c at *
  rw [h.fsts, List.mem_filter, decide_eq_true_eq] at hm
  obtain ⟨_, hm⟩ := hm
  cases hl : lst n (f c) with
  | nil => rw [hl] at hm; simp at hm
  | cons z s => rw [hl] at hm; simp at hm; subst hm; exact ⟨li s, rfl⟩
theorem csl_len_le {f : Nat → Nat → Bool} (t : Nat) : ((csl n f n)[t]?.getD []).length ≤ n := by
  by_cases ht : t < (fsts n f n).length
  · rw [csl_get ht, li_len]
    unfold lst
    exact Nat.le_trans (List.length_filter_le _ _) (by simp)
  · rw [List.getElem?_eq_none (by rw [csl_len]; omega)]
    simp
/-- Of each thing the number of its set. -/
def ontoL (n : Nat) (f : Nat → Nat → Bool) : List Int := (List.range n).map fun a => (num n f a : Int)
theorem ontoL_len (n : Nat) (f : Nat → Nat → Bool) : (ontoL n f).length = n := by simp [ontoL]
theorem ontoL_get {f : Nat → Nat → Bool} {a : Nat} (ha : a < n) : (ontoL n f)[a]?.getD 0 = (num n f a : Int) := by simp [ontoL, ha]
/-- The first numbers, and noughts. -/
def ontoU (n : Nat) (f : Nat → Nat → Bool) (k : Nat) : List Int := (List.range n).map fun a => if a < k then (num n f a : Int) else 0
theorem ontoU_len (n : Nat) (f : Nat → Nat → Bool) (k : Nat) : (ontoU n f k).length = n := by simp [ontoU]
theorem ontoU_zero (n : Nat) (f : Nat → Nat → Bool) : ontoU n f 0 = List.replicate n 0 := by
  unfold ontoU
  apply List.ext_getElem <;> simp
theorem ontoU_all (n : Nat) (f : Nat → Nat → Bool) : ontoU n f n = ontoL n f := by
  unfold ontoU ontoL
  exact List.map_congr_left fun a ha => if_pos (List.mem_range.1 ha)
theorem ontoU_set {f : Nat → Nat → Bool} {k : Nat} : ontoU n f (k + 1) = (ontoU n f k).set k (num n f k : Int) := by
  apply List.ext_getElem
  · simp [ontoU]
  · intro i h1 h2
    rw [List.getElem_set]
    simp only [ontoU, List.getElem_map, List.getElem_range]
    by_cases e : k = i
    · subst e
      rw [if_pos (by omega), if_pos rfl]
    · rw [if_neg e]
      by_cases h3 : i < k
      · rw [if_pos (by omega), if_pos h3]
      · rw [if_neg (by omega), if_neg h3]
/-- Products of numbers. -/
def quoF (n : Nat) (zs : List Int) (f : Nat → Nat → Bool) (i j : Nat) : Nat := num n f (tm n zs ((fsts n f n)[i]?.getD 0) ((fsts n f n)[j]?.getD 0))
theorem rgt_both (g : IsGrp n zs e) (hs : subT n zs e q = true) (hN : nrmq n zs e q = true) {a b c d : Nat} (ha : a < n) (hb : b < n) (hc : c < n) (hd : d < n)
    (h1 : rgtq n zs (lst n q) a c = true) (h2 : rgtq n zs (lst n q) b d = true) : rgtq n zs (lst n q) (tm n zs a b) (tm n zs c d) = true := by
  obtain ⟨x, hx, rfl⟩ := mem_rgt.1 h1
  obtain ⟨y, hy, rfl⟩ := mem_rgt.1 h2
  obtain ⟨hxn, hqx⟩ := mem_lst.1 hx
  obtain ⟨hyn, hqy⟩ := mem_lst.1 hy
  obtain ⟨a1, a2, a3, _⟩ := iv_spec g ha
  have hcj := (nrm_iff g).1 hN y (iv n zs e a) (List.mem_range.2 hyn) (List.mem_range.2 a1) hqy
  unfold Fin.cj at hcj
  rw [show iv n zs e (iv n zs e a) = a from (iv_only g a1 ha a3).symm] at hcj
  have hz := tm_lt g.tab a1 hyn
  refine mem_rgt.2 ⟨tm n zs x (tm n zs (tm n zs a y) (iv n zs e a)), mem_lst.2 ⟨?_, ?_⟩, ?_⟩
  · exact tm_lt g.tab hxn (tm_lt g.tab (tm_lt g.tab ha hyn) a1)
  · refine sub_mul hs hxn (tm_lt g.tab (tm_lt g.tab ha hyn) a1) hqx ?_
    first
      | exact hcj
      | (rw [g.ass a y _ ha hyn a1]; exact hcj)
  · have hay := tm_lt g.tab ha hyn
    have hab := tm_lt g.tab ha hb
    rw [g.ass x _ _ hxn (tm_lt g.tab hay a1) hab, g.ass (tm n zs a y) _ _ hay a1 hab, ← g.ass _ a b a1 ha hb, a3, g.left b hb, g.ass a y b ha hyn hb, g.ass x a _ hxn ha (tm_lt g.tab hyn hb)]
theorem quo_hom (g : IsGrp n zs e) (hs : subT n zs e q = true) (hN : nrmq n zs e q = true) {a b : Nat} (ha : a < n) (hb : b < n) :
    quoF n zs (rgtq n zs (lst n q)) (num n (rgtq n zs (lst n q)) a) (num n (rgtq n zs (lst n q)) b) = num n (rgtq n zs (lst n q)) (tm n zs a b) := by
  have P := rgt_parts g hs
  obtain ⟨a1, a2⟩ := prts_num_lt P ha
  obtain ⟨b1, b2⟩ := prts_num_lt P hb
  have a3 := a2 a1
  have b3 := b2 b1
  have ha9 := fst_lt a1
  have hb9 := fst_lt b1
  unfold quoF
  rw [List.getElem?_eq_getElem a1, List.getElem?_eq_getElem b1, Option.getD_some, Option.getD_some]
  exact ((prts_num_eq P (tm_lt g.tab ha hb) (tm_lt g.tab ha9 hb9)).2 (rgt_both g hs hN ha hb ha9 hb9 a3 b3)).symm
theorem quo_grp (g : IsGrp n zs e) (hs : subT n zs e q = true) (hN : nrmq n zs e q = true) :
    IsGrp (fsts n (rgtq n zs (lst n q)) n).length (mkT (fsts n (rgtq n zs (lst n q)) n).length (quoF n zs (rgtq n zs (lst n q)))) (num n (rgtq n zs (lst n q)) e) := by
  have P := rgt_parts g hs
  refine grp_image g (Nat.le_trans (fsts_len _ _ _) g.tab.le) (fun a ha => (prts_num_lt P ha).1) (fun i hi => ⟨_, fst_lt hi, prts_num_at P hi⟩) (fun a b ha hb => quo_hom g hs hN ha hb)
end
end Go.Proofs.YtodabkjadejekaaDoor

namespace Go.Proofs.YtodabkjadejekaaDoor
open Go Go.RowKit Go.Maps

theorem und89 : Tryd.prog.underlying 89 = some (.map 3 3) := by kernel_rfl
theorem law3 : Keyed Tryd.prog 3 := int_keyed und3'
/-- What the map has of the first i lists, and of the first k numbers of the next. -/
structure MLs (ls : List (List Int)) (i k : Nat) (D : DataW Unit) : Prop where
  old : ∀ t, t < i → ∀ a, a ∈ ls[t]?.getD [] → D.atKey (.int .i64 a) (.lit (.int .i64 0)) = .lit (.int .i64 (t : Nat))
  new : ∀ a, a ∈ (ls[i]?.getD []).take k → D.atKey (.int .i64 a) (.lit (.int .i64 0)) = .lit (.int .i64 (i : Nat))
theorem MLs.step {ls : List (List Int)} {i k : Nat} {D : DataW Unit} (h : MLs ls i k D) (hD : IsMap D) (hd : ∀ (s t : Nat) (a : Int), a ∈ ls[s]?.getD [] → a ∈ ls[t]?.getD [] → s = t) (hk : k < (ls[i]?.getD []).length) :
    MLs ls i (k + 1) (D.put (.int .i64 ((ls[i]?.getD [])[k]?.getD 0)) (.lit (.int .i64 (i : Nat)))) := by
  have hx : (ls[i]?.getD [])[k]?.getD 0 ∈ ls[i]?.getD [] := by simp [hk]
  generalize hxe : (ls[i]?.getD [])[k]?.getD 0 = x at *
  constructor
  · intro t ht a ha
    have hne : a ≠ x := fun e => by
      subst e
      have := hd t i a ha hx
      omega
    rw [atKey_put_other (fun h9 => hne (by injection h9))]
    exact h.old t ht a ha
  · intro a ha
    by_cases e : a = x
    · subst e
      rw [atKey_put_same hD (by trivial)]
    · rw [atKey_put_other (fun h9 => e (by injection h9))]
      refine h.new a ?_
      rw [List.take_add_one, List.mem_append] at ha
      rcases ha with ha | ha
      · exact ha
      · rw [List.getElem?_eq_getElem hk] at ha hxe
        simp at ha hxe
        exact absurd (ha.trans hxe) e
theorem MLs.done {ls : List (List Int)} {i : Nat} {D : DataW Unit} (h : MLs ls i (ls[i]?.getD []).length D) : MLs ls (i + 1) 0 D := by
  constructor
  · intro t ht a ha
    by_cases e : t = i
    · subst e
      exact h.new a (by rw [List.take_length]; exact ha)
    · exact h.old t (by omega) a ha
  · intro a ha
    simp at ha
theorem map_le {P : Program} {k : TypeId} {R : Value → Option (DataW Unit × List MemPlace)} {w : World} {b n m : Nat} {D : DataW Unit} (h : w.ownsMap P k R b n D) (hm : n ≤ m) : w.ownsMap P k R b m D := by
  obtain ⟨d, rfl⟩ := Nat.exists_eq_add_of_le hm
  clear hm
  induction d with
  | zero => exact h
  | succ d ih => exact map_more ih
set_option maxRecDepth 100000 in
set_option maxHeartbeats 8000000 in
theorem numbers_ok (v : Value) (ls : List (List Int)) (w : World) (hv : SlL w v ls) (hn : ls.length ≤ 60) (hl : ∀ t, t < ls.length → (ls[t]?.getD []).length ≤ 60)
    (hr : ∀ (t : Nat) (a : Int), a ∈ ls[t]?.getD [] → 0 ≤ a ∧ a < 60) (hd : ∀ (s t : Nat) (a : Int), a ∈ ls[s]?.getD [] → a ∈ ls[t]?.getD [] → s = t) :
    Calls Tryd.prog 71 #[v] w fun x w' => ∃ D, x = .returned (.map (some w.heap.size)) ∧ w'.ownsMap Tryd.prog 3 (plainElem Tryd.prog 3) w.heap.size 3600 D ∧ MLs ls ls.length 0 D ∧ Below w.heap.size w w' := by
  obtain ⟨va, vc, vb, vo, rfl, v1, v2, v3, v4, v5⟩ := hv
  have HV := hide v2
  have HV1 := hide v1
  have HL := hide hl
  have HR := hide hr
  have HD := hide hd
  clear v1 v2 v5 hl hr hd
  have hmm := @run_makeMap Tryd.prog
  go_enter Tryd.func71, Tryd.ntmps71
  go_wp2
  clear hmm
  go_loopw [11] (fun i wr => ∃ (j c : Nat) (D : DataW Unit), j ≤ ls.length ∧ i = .int .i64 j ∧ wr.ownsMap Tryd.prog 3 (plainElem Tryd.prog 3) w.heap.size c D ∧ c ≤ j * 60 ∧ MLs ls j 0 D ∧ Below w.heap.size w wr) (fun i _ => ls.length - (intOf i).toNat)
  case atStart => exact ⟨0, 0, .map [], Nat.zero_le _, rfl, World.ownsMap_made _ _ _ _, Nat.le_refl _, ⟨fun t ht => by omega, fun a ha => by simp at ha⟩, balloc w _⟩
  case round =>
    obtain ⟨j, c, D, hj, rfl, hmap, hc, hM, hB⟩ := hrel
    by_cases hlt : j < ls.length
    · have hji : (j : Int) < (ls.length : Int) := by omega
      obtain rfl := HV1.out (by omega)
      obtain ⟨y, cy, hy⟩ := HV.out j hlt
      have hll := HL.out j hlt
      have cy := below_cell hB cy
      have HD' := hide (fun (D' : DataW Unit) (k : Nat) (h : MLs ls j k D') (hm : IsMap D') (hk : k < (ls[j]?.getD []).length) => h.step hm HD.out hk)
      have HE := hide (fun (D' : DataW Unit) (h : MLs ls j (ls[j]?.getD []).length D') => h.done)
      have HRR := hide (fun a (h : a ∈ ls[j]?.getD []) => HR.out j a h)
      obtain ⟨ya, ycap, yb, yo, rfl, hyr, hyb, _, _⟩ := hy
      generalize hlj : ls[j]?.getD [] = lj at *
      have HLJ := hide hlj
      clear hlj
      have HY := hide hyr
      clear hyr
      have hcap : lj.length ≤ 60 := hll
      go_wp2
      go_loopw [18] (fun i wi => ∃ (k c : Nat) (D : DataW Unit), k ≤ lj.length ∧ i = .int .i64 k ∧ wi.ownsMap Tryd.prog 3 (plainElem Tryd.prog 3) w.heap.size c D ∧ c ≤ j * 60 + k ∧ MLs ls j k D ∧ Below w.heap.size w wi) (fun i _ => lj.length - (intOf i).toNat)
      case atStart => exact ⟨0, c, D, Nat.zero_le _, rfl, hmap, by omega, hM, hB⟩
      case round =>
        obtain ⟨k, c2, D2, hk, rfl, hmap2, hc2, hM2, hB2⟩ := hrel
        have hY2 := HY.out.below hB2 hyb
        by_cases hlt2 : k < lj.length
        · have hki : (k : Int) < (lj.length : Int) := by omega
          obtain rfl := hY2.at_ (by omega)
          have hcx := hY2.cell k hlt2
          obtain ⟨hx0, hx1⟩ := HRR.out (lj[k]?.getD 0) (by simp [hlt2])
          have HST := hide (HD'.out D2 k hM2 (map_is hmap2) hlt2)
          generalize lj[k]?.getD 0 = x at *
          have hkw : (Lit.int .i64 x).wf = true := WalkArith.wf_i64 (by omega)
          have hkey := keyOf_int_mk und3' hkw
          go_wp2_with (first
            | (at_mapUpdate; refine wpList_mapUpdate_own _ rfl _ _ _ 89 rfl 3 3 law3 und89 _ w.heap.size _ D2 rfl hmap2 (by unfold maxLen; omega) _ _ _ rfl rfl hkey _ [] (plainElem_int und3' (WalkArith.wf_i64 (by omega))) ?_; intro w2 hmap3 hgrow2))
          have hB3 := hB2.grown hgrow2 hB2.size (fun k hk => by cases hk; exact Nat.le_refl _)
          go_roundw
          case rel => exact ⟨k + 1, c2 + 1, _, by omega, by go_num, hmap3, by omega, HST.out, hB3⟩
          case measure => simp [intOf]; omega
        · have hki : ¬ (k : Int) < (lj.length : Int) := by omega
          have hke : k = lj.length := by omega
          have HEN := hide (HE.out D2 (by rw [← hke]; exact hM2))
          clear hke
          go_wp2
          go_roundw
          case rel => exact ⟨j + 1, c2, D2, by omega, by go_num, hmap2, by omega, HEN.out, hB2⟩
          case measure => simp [intOf]; omega
    · have hji : ¬ (j : Int) < (ls.length : Int) := by omega
      have hje : j = ls.length := by omega
      have HM := hide (show MLs ls ls.length 0 D by rw [← hje]; exact hM)
      clear hje
      go_wp2
      go_ret
      exact ⟨rfl, D, map_le hmap (by omega), HM.out, hB⟩
end Go.Proofs.YtodabkjadejekaaDoor

namespace Go.Proofs.YtodabkjadejekaaDoor
open Go Go.RowKit Go.Maps

theorem look_int {D : DataW Unit} {W : World} {mb c : Nat} {x q : Nat} (h : W.ownsMap Tryd.prog 3 (plainElem Tryd.prog 3) mb c D) (hx : x < 60) (hN : D.atKey (.int .i64 (x : Nat)) (.lit (.int .i64 0)) = .lit (.int .i64 (q : Nat))) :
    (Instr.lookup 89 (.map (some mb)) (.int .i64 (x : Nat)) false).run Tryd.prog W = .ok (.int .i64 (q : Nat)) W := by
  have hkw : (Lit.int .i64 (x : Nat)).wf = true := WalkArith.wf_i64 (by omega)
  obtain ⟨c, h1, h2, _⟩ := h.lookup_int law3 und89 und3' (zero3 _) (keyOf_int_mk und3' hkw)
  rw [hN] at h2
  cases h2
  exact h1
set_option maxRecDepth 100000 in
set_option maxHeartbeats 8000000 in
theorem group_ok (n K : Nat) (v lv : Value) (zs : List Int) (ls : List (List Int)) (hs : Nat → Nat) (F : Nat → Nat → Nat) (mb c : Nat) (D : DataW Unit) (w : World) (ht : IsTab n zs) (hv : Sl w v zs) (hL : SlL w lv ls) (hK : ls.length = K) (hK6 : K ≤ 60)
    (hh : ∀ i, i < K → ∃ t, ls[i]?.getD [] = (hs i : Int) :: t ∧ hs i < n) (hmap : w.ownsMap Tryd.prog 3 (plainElem Tryd.prog 3) mb c D)
    (hF : ∀ i j, i < K → j < K → D.atKey (.int .i64 (tm n zs (hs i) (hs j) : Nat)) (.lit (.int .i64 0)) = .lit (.int .i64 (F i j : Nat))) (hF6 : ∀ i j, i < K → j < K → F i j ≤ 60) :
    Calls Tryd.prog 72 #[.agg #[.int .i64 n, v], lv, .map (some mb)] w fun x w' => ∃ r, x = .returned (.agg #[.int .i64 K, r]) ∧ Row w' w.heap.size r (mkT K F) ∧ Below w.heap.size w w' := by
  obtain ⟨i0, hi, hz0, hz1, hz2⟩ := info_parts info3b
  obtain ⟨va, vl, vc, rfl⟩ := hv.isSlice
  obtain ⟨la, lc, lb, lo, rfl, l1, l2, l3, l4, l5⟩ := hL
  obtain ⟨T, hT⟩ : ∃ T, T = mkT K F := ⟨_, rfl⟩
  have HTL := hide (show T.length = K * K by rw [hT]; exact mkT_len K F)
  have HTG := hide (fun a b (ha : a < K) (hb : b < K) => show T[a * K + b]?.getD 0 = (F a b : Int) by
    obtain ⟨e1, e2⟩ := dm' (a := a) hb
    rw [hT, mkT_get (place_lt ha hb), e1, e2])
  rw [← hT]
  clear hT
  rw [hK] at *
  have HL1 := hide l1
  have HL2 := hide l2
  have HH := hide hh
  have HF := hide hF
  have HF6 := hide hF6
  have HMP := hide hmap
  have HV := hide hv
  have hn := ht.le
  clear l1 l2 l5 hh hF hF6 hmap hK hv
  obtain ⟨w0, hw0⟩ : ∃ w0, w0 = ((w.alloc (.cells #[.int .i64 n, .slice va vl vc] 24)).alloc (.cells #[.int .i64 0, .slice none 0 0] 24)).alloc (.cells #[.int .i64 K, .slice none 0 0] 24) := ⟨_, rfl⟩
  have hB0 : Below w.heap.size w w0 := by rw [hw0]; exact ((balloc w _).alloc (by simp) _).alloc (by simp; omega) _
  have hG0 : BoxG w0 w.heap.size n (.slice va vl vc) := by rw [hw0]; exact ((blk0 (w := w) (T := 24) _ _).alloc _).alloc _
  have hR0 : Blk w0 (w.heap.size + 1) 24 [.int .i64 0, .slice none 0 0] := by
    have := (blk0 (w := w.alloc (.cells #[.int .i64 n, .slice va vl vc] 24)) (T := 24) (.int .i64 0) (.slice none 0 0)).alloc (.cells #[.int .i64 K, .slice none 0 0] 24)
    rw [World.size_alloc] at this
    rw [hw0]; exact this
  have hX0 : Blk w0 (w.heap.size + 1 + 1) 24 [.int .i64 K, .slice none 0 0] := by
    have := blk0 (w := (w.alloc (.cells #[.int .i64 n, .slice va vl vc] 24)).alloc (.cells #[.int .i64 0, .slice none 0 0] 24)) (T := 24) (.int .i64 K) (.slice none 0 0)
    rw [World.size_alloc, World.size_alloc] at this
    rw [hw0]; exact this
  go_enter Tryd.func72, Tryd.ntmps72
  go_wp2
  rw [← hw0]
  clear hw0
  go_loopw [17] (fun i wr => ∃ (a : Nat) (r : Value), a ≤ K ∧ i = .int .i64 a ∧ Row wr (w.heap.size + 1 + 1 + 1) r (T.take (a * K)) ∧ BoxG wr w.heap.size n (.slice va vl vc) ∧ Blk wr (w.heap.size + 1) 24 [.int .i64 0, .slice none 0 0] ∧ Blk wr (w.heap.size + 1 + 1) 24 [.int .i64 K, r] ∧ Below w.heap.size w wr) (fun i _ => K - (intOf i).toNat)
  case atStart => exact ⟨0, .slice none 0 0, by omega, rfl, by simpa using nil_row _ _, hG0, hR0, hX0, hB0⟩
  case round =>
    obtain ⟨a, r, ha, rfl, hrow, hG, hR, hX, hB⟩ := hrel
    clear hR0 hX0 hB0 hG0
    by_cases hlta : a < K
    · have hai : (a : Int) < (K : Int) := by omega
      obtain rfl := HL1.out (by omega)
      obtain ⟨ya, cya, hya⟩ := HL2.out a hlta
      obtain ⟨ta, hta, hna⟩ := HH.out a hlta
      have cya := below_cell hB cya
      rw [hta] at hya
      obtain ⟨y1, y2, yb, yo, rfl, hyr, hyb, hyc, hym⟩ := hya
      have hyl : ((hs a : Int) :: ta).length = ta.length + 1 := rfl
      have hcx := hyr.cell 0 (by rw [hyl]; omega)
      rw [show ((hs a : Int) :: ta)[0]?.getD 0 = (hs a : Int) from rfl, Nat.add_zero] at hcx
      obtain rfl := hyr.at_ (by rw [hyl]; omega)
      rw [hyl] at cya hyc
      have hta9 : ta.length + 1 ≤ 9223372036854775807 := by unfold maxLen at hym; omega
      have HCX := hide hcx
      clear hyr hym hta hcx hyl
      go_wp2
      go_loopw [23] (fun i wr => ∃ (b : Nat) (r : Value), b ≤ K ∧ i = .int .i64 b ∧ Row wr (w.heap.size + 1 + 1 + 1) r (T.take (a * K + b)) ∧ BoxG wr w.heap.size n (.slice va vl vc) ∧ Blk wr (w.heap.size + 1) 24 [.int .i64 0, .slice none 0 0] ∧ Blk wr (w.heap.size + 1 + 1) 24 [.int .i64 K, r] ∧ Below w.heap.size w wr) (fun i _ => K - (intOf i).toNat)
      case atStart => exact ⟨0, r, by omega, rfl, hrow, hG, hR, hX, hB⟩
      case round =>
        obtain ⟨b, r', hb, rfl, hrow', hG', hR', hX', hB'⟩ := hrel
        clear hrow hG hR hX hB
        by_cases hltb : b < K
        · have hbi : (b : Int) < (K : Int) := by omega
          obtain ⟨yb9, cyb, hyb9⟩ := HL2.out b hltb
          obtain ⟨tb, htb, hnb⟩ := HH.out b hltb
          have cyb := below_cell hB' cyb
          rw [htb] at hyb9
          obtain ⟨z1, z2, zb, zo, rfl, hzr, hzb, hzc, hzm⟩ := hyb9
          have hzl : ((hs b : Int) :: tb).length = tb.length + 1 := rfl
          have hcz := hzr.cell 0 (by rw [hzl]; omega)
          rw [show ((hs b : Int) :: tb)[0]?.getD 0 = (hs b : Int) from rfl, Nat.add_zero] at hcz
          obtain rfl := hzr.at_ (by rw [hzl]; omega)
          rw [hzl] at cyb hzc
          have htb9 : tb.length + 1 ≤ 9223372036854775807 := by unfold maxLen at hzm; omega
          have HCZ := hide hcz
          clear hcz
          have HVL := hide (HTG.out a b hlta hltb)
          have hpl := place_lt hlta hltb
          have hlen : (T.take (a * K + b)).length = a * K + b := by rw [List.length_take, HTL.out]; omega
          have HSN := hide (show T.take (a * K + (b + 1)) = T.take (a * K + b) ++ [(F a b : Int)] by
            rw [← Nat.add_assoc, take_snoc' (by rw [HTL.out]; exact hpl), HVL.out])
          have hKK : K * K ≤ 3600 := Nat.mul_le_mul hK6 hK6
          have HLL := hide (show (T.take (a * K + b)).length ≤ 3600 by rw [hlen]; omega)
          have hown : wr.ownsRow (w.heap.size + 1 + 1 + 1) 3 1 r' (T.take (a * K + b)).length ((T.take (a * K + b)).map (Value.int .i64)) := hrow'
          have hp : hs a * n + hs b < n * n := place_lt hna hnb
          have hcm : wr.cell? ⟨w.heap.size, 0, none⟩ = some (.int .i64 n) := hG'.two.1
          have hcv : wr.cell? ⟨w.heap.size, 1, none⟩ = some (.slice va vl vc) := hG'.two.2.1
          obtain ⟨xa, xc, xb, xo, hve, hxr, hxb, _, hxm⟩ := HV.out
          injection hve with e1 e2 e3
          subst e1 e2 e3
          have hzn : zs.length = n * n := ht.len
          have hcc := hxr.cell (hs a * n + hs b) (by rw [hzn]; exact hp)
          obtain rfl := hxr.at_ (by rw [hzn]; omega)
          obtain ⟨h9a, h9b⟩ := ht.rng _ hp
          have hce : zs[hs a * n + hs b]?.getD 0 = (tm n zs (hs a) (hs b) : Int) := by unfold tm; omega
          rw [hce] at hcc
          have hq6 := HF6.out a b hlta hltb
          have hd6 : tm n zs (hs a) (hs b) < 60 := by
            have := tm_lt ht hna hnb
            omega
          have HOL := hide (fun (W : World) (h : Below w.heap.size w W) => look_int (W := W) (HMP.out.kept (below_grown h none) (by simp)) hd6 (HF.out a b hlta hltb))
          generalize tm n zs (hs a) (hs b) = d9 at *
          generalize F a b = q9 at *
          have hpi : (hs a : Int) * (n : Int) + (hs b : Int) = ((hs a * n + hs b : Nat) : Int) := by rw [Int.natCast_add, Int.natCast_mul]
          have hpz : ((hs a * n + hs b : Nat) : Int) < (zs.length : Int) := by rw [hzn]; omega
          have hxm9 : zs.length ≤ 9223372036854775807 := by unfold maxLen at hxm; omega
          have hmu : IntKind.i64.wrap ((hs a : Int) * (n : Int)) = (hs a : Int) * (n : Int) := by
            have h1 : hs a * n ≤ 60 * 60 := Nat.mul_le_mul (Nat.le_of_lt (Nat.lt_of_lt_of_le hna hn)) hn
            rw [IntKind.wrap_i64, ← Int.natCast_mul]
            omega
          have hwp : IntKind.i64.wrap ((hs a * n + hs b : Nat) : Int) = ((hs a * n + hs b : Nat) : Int) := by
            have h1 : n * n ≤ 60 * 60 := Nat.mul_le_mul hn hn
            rw [IntKind.wrap_i64]
            omega
          clear hzn hp
          clear hlen hrow' HVL hxr hzr hzm hzl htb hce h9a h9b hxm
          generalize T.take (a * K + b) = xs at *
          generalize hs a * n + hs b = p9 at *
          have HS := hide (fun (W : World) (h : Below w.heap.size w W) (hG : BoxG W w.heap.size n (.slice (some ⟨xb, xo, none⟩) zs.length vc)) => show (Below w.heap.size w W ∧ W.cell? ⟨w.heap.size, 0, none⟩ = some (.int .i64 n) ∧ W.cell? ⟨w.heap.size, 1, none⟩ = some (.slice (some ⟨xb, xo, none⟩) zs.length vc) ∧ W.cell? ⟨yb, yo, none⟩ = some (.int .i64 (hs a : Int)) ∧ W.cell? ⟨zb, zo, none⟩ = some (.int .i64 (hs b : Int)) ∧ W.cell? ⟨xb, xo + p9, none⟩ = some (.int .i64 (d9 : Int)) ∧ Sem.run Tryd.prog (Instr.lookup 89 (.map (some mb)) (.int .i64 (d9 : Int)) false) W = .ok (.int .i64 (q9 : Int)) W) from ⟨h, hG.two.1, hG.two.2.1, below_cell h HCX.out, below_cell h HCZ.out, below_cell h hcc, HOL.out W h⟩)
          clear hcc HOL
          obtain ⟨rx, rcap, rfl⟩ := own_slice hown
          obtain ⟨x0, x1, fx0, fx1⟩ := hX'.two
          have hs2 := hX'.lt
          go_wp2_with fail
          have hS9 : (fun W => Below w.heap.size w W ∧ W.cell? ⟨w.heap.size, 0, none⟩ = some (.int .i64 n) ∧ W.cell? ⟨w.heap.size, 1, none⟩ = some (.slice (some ⟨xb, xo, none⟩) zs.length vc) ∧ W.cell? ⟨yb, yo, none⟩ = some (.int .i64 (hs a : Int)) ∧ W.cell? ⟨zb, zo, none⟩ = some (.int .i64 (hs b : Int)) ∧ W.cell? ⟨xb, xo + p9, none⟩ = some (.int .i64 (d9 : Int)) ∧ Sem.run Tryd.prog (Instr.lookup 89 (.map (some mb)) (.int .i64 (d9 : Int)) false) W = .ok (.int .i64 (q9 : Int)) W) wr.drew := HS.out _ (bdrew hB') hG'
          refine wp_region_held_drew (S := (fun W => Below w.heap.size w W ∧ W.cell? ⟨w.heap.size, 0, none⟩ = some (.int .i64 n) ∧ W.cell? ⟨w.heap.size, 1, none⟩ = some (.slice (some ⟨xb, xo, none⟩) zs.length vc) ∧ W.cell? ⟨yb, yo, none⟩ = some (.int .i64 (hs a : Int)) ∧ W.cell? ⟨zb, zo, none⟩ = some (.int .i64 (hs b : Int)) ∧ W.cell? ⟨xb, xo + p9, none⟩ = some (.int .i64 (d9 : Int)) ∧ Sem.run Tryd.prog (Instr.lookup 89 (.map (some mb)) (.int .i64 (d9 : Int)) false) W = .ok (.int .i64 (q9 : Int)) W)) (by kernel_rfl) hS9 (fun hHeld => ?_)
          refine wpAnyH_take (i := 0) (oi := ({ dst := some 27, op := Go.Op.fieldAddr 24 (Go.Operand.tmp 7) 1, type := 0, pos := _, after := #[], guard := none } : Oper)) (v := ?_) rfl (by kernel_rfl) (by kernel_rfl) (by kernel_rfl) (fun _ _ _ h => h) (Or.inl ⟨by rfl, ?_⟩) (by assumption) ?_
          rotate_left
          · (intro w hSw; (try dsimp only at hSw); go_simp; try with_reducible rfl)
          simp only [Act.put, List.setIfInBounds_toArray, List.set_cons_zero, List.set_cons_succ]
          refine wpAnyH_take (i := 2) (oi := ({ dst := some 29, op := Go.Op.move (Go.Operand.tmp 2), type := 89, pos := _, after := #[], guard := none } : Oper)) (v := ?_) rfl (by kernel_rfl) (by kernel_rfl) (by kernel_rfl) (fun _ _ _ h => h) (Or.inl ⟨by rfl, ?_⟩) (by assumption) ?_
          rotate_left
          · (intro w hSw; (try dsimp only at hSw); go_simp; try with_reducible rfl)
          simp only [Act.put, List.setIfInBounds_toArray, List.set_cons_zero, List.set_cons_succ]
          refine wpAnyH_take (i := 3) (oi := ({ dst := some 30, op := Go.Op.fieldAddr 24 (Go.Operand.tmp 3) 1, type := 0, pos := _, after := #[], guard := none } : Oper)) (v := ?_) rfl (by kernel_rfl) (by kernel_rfl) (by kernel_rfl) (fun _ _ _ h => h) (Or.inl ⟨by rfl, ?_⟩) (by assumption) ?_
          rotate_left
          · (intro w hSw; (try dsimp only at hSw); go_simp; try with_reducible rfl)
          simp only [Act.put, List.setIfInBounds_toArray, List.set_cons_zero, List.set_cons_succ]
          refine wpAnyH_take (i := 4) (oi := ({ dst := some 31, op := Go.Op.load 22 (Go.Operand.tmp 30), type := 22, pos := _, after := #[{ on := 3, ground := Go.Ground.data }], guard := none } : Oper)) (v := ?_) rfl (by kernel_rfl) (by kernel_rfl) (by kernel_rfl) (fun _ _ _ h => h) (Or.inl ⟨by rfl, ?_⟩) (by assumption) ?_
          rotate_left
          · (intro w hSw; (try dsimp only at hSw); go_simp; try with_reducible rfl)
          simp only [Act.put, List.setIfInBounds_toArray, List.set_cons_zero, List.set_cons_succ]
          refine wpAnyH_take (i := 5) (oi := ({ dst := some 32, op := Go.Op.move (Go.Operand.tmp 9), type := 22, pos := _, after := #[], guard := none } : Oper)) (v := ?_) rfl (by kernel_rfl) (by kernel_rfl) (by kernel_rfl) (fun _ _ _ h => h) (Or.inl ⟨by rfl, ?_⟩) (by assumption) ?_
          rotate_left
          · (intro w hSw; (try dsimp only at hSw); go_simp; try with_reducible rfl)
          simp only [Act.put, List.setIfInBounds_toArray, List.set_cons_zero, List.set_cons_succ]
          refine wpAnyH_take (i := 6) (oi := ({ dst := some 33, op := Go.Op.indexAddr 22 (Go.Operand.tmp 32) (Go.Operand.const (Go.Value.int Go.IntKind.i64 0)), type := 0, pos := _, after := #[{ on := 5, ground := Go.Ground.data }], guard := none } : Oper)) (v := ?_) rfl (by kernel_rfl) (by kernel_rfl) (by kernel_rfl) (fun _ _ _ h => h) (Or.inl ⟨by rfl, ?_⟩) (by assumption) ?_
          rotate_left
          · (intro w hSw; (try dsimp only at hSw); go_simp; try with_reducible rfl)
          simp only [Act.put, List.setIfInBounds_toArray, List.set_cons_zero, List.set_cons_succ]
          refine wpAnyH_take (i := 7) (oi := ({ dst := some 34, op := Go.Op.load 3 (Go.Operand.tmp 33), type := 3, pos := _, after := #[{ on := 6, ground := Go.Ground.data }], guard := none } : Oper)) (v := ?_) rfl (by kernel_rfl) (by kernel_rfl) (by kernel_rfl) (fun _ _ _ h => h) (Or.inl ⟨by rfl, ?_⟩) (by assumption) ?_
          rotate_left
          · (intro w hSw; (try dsimp only at hSw); go_simp; try with_reducible rfl)
          simp only [Act.put, List.setIfInBounds_toArray, List.set_cons_zero, List.set_cons_succ]
          refine wpAnyH_take (i := 8) (oi := ({ dst := some 35, op := Go.Op.fieldAddr 24 (Go.Operand.tmp 3) 0, type := 0, pos := _, after := #[], guard := none } : Oper)) (v := ?_) rfl (by kernel_rfl) (by kernel_rfl) (by kernel_rfl) (fun _ _ _ h => h) (Or.inl ⟨by rfl, ?_⟩) (by assumption) ?_
          rotate_left
          · (intro w hSw; (try dsimp only at hSw); go_simp; try with_reducible rfl)
          simp only [Act.put, List.setIfInBounds_toArray, List.set_cons_zero, List.set_cons_succ]
          refine wpAnyH_take (i := 9) (oi := ({ dst := some 36, op := Go.Op.load 3 (Go.Operand.tmp 35), type := 3, pos := _, after := #[{ on := 8, ground := Go.Ground.data }], guard := none } : Oper)) (v := ?_) rfl (by kernel_rfl) (by kernel_rfl) (by kernel_rfl) (fun _ _ _ h => h) (Or.inl ⟨by rfl, ?_⟩) (by assumption) ?_
          rotate_left
          · (intro w hSw; (try dsimp only at hSw); go_simp; try with_reducible rfl)
          simp only [Act.put, List.setIfInBounds_toArray, List.set_cons_zero, List.set_cons_succ]
          refine wpAnyH_take (i := 10) (oi := ({ dst := some 37, op := Go.Op.binOp Go.BinOp.mul 3 (Go.Operand.tmp 34) (Go.Operand.tmp 36) 3, type := 3, pos := _, after := #[{ on := 7, ground := Go.Ground.data }, { on := 9, ground := Go.Ground.data }], guard := none } : Oper)) (v := ?_) rfl (by kernel_rfl) (by kernel_rfl) (by kernel_rfl) (fun _ _ _ h => h) (Or.inl ⟨by rfl, ?_⟩) (by assumption) ?_
          rotate_left
          · (intro w hSw; (try dsimp only at hSw); go_simp; try with_reducible rfl)
          simp only [Act.put, List.setIfInBounds_toArray, List.set_cons_zero, List.set_cons_succ]
          refine wpAnyH_take (i := 11) (oi := ({ dst := some 38, op := Go.Op.move (Go.Operand.tmp 11), type := 22, pos := _, after := #[], guard := none } : Oper)) (v := ?_) rfl (by kernel_rfl) (by kernel_rfl) (by kernel_rfl) (fun _ _ _ h => h) (Or.inl ⟨by rfl, ?_⟩) (by assumption) ?_
          rotate_left
          · (intro w hSw; (try dsimp only at hSw); go_simp; try with_reducible rfl)
          simp only [Act.put, List.setIfInBounds_toArray, List.set_cons_zero, List.set_cons_succ]
          refine wpAnyH_take (i := 12) (oi := ({ dst := some 39, op := Go.Op.indexAddr 22 (Go.Operand.tmp 38) (Go.Operand.const (Go.Value.int Go.IntKind.i64 0)), type := 0, pos := _, after := #[{ on := 11, ground := Go.Ground.data }], guard := none } : Oper)) (v := ?_) rfl (by kernel_rfl) (by kernel_rfl) (by kernel_rfl) (fun _ _ _ h => h) (Or.inl ⟨by rfl, ?_⟩) (by assumption) ?_
          rotate_left
          · (intro w hSw; (try dsimp only at hSw); go_simp; try with_reducible rfl)
          simp only [Act.put, List.setIfInBounds_toArray, List.set_cons_zero, List.set_cons_succ]
          refine wpAnyH_take (i := 13) (oi := ({ dst := some 40, op := Go.Op.load 3 (Go.Operand.tmp 39), type := 3, pos := _, after := #[{ on := 12, ground := Go.Ground.data }], guard := none } : Oper)) (v := ?_) rfl (by kernel_rfl) (by kernel_rfl) (by kernel_rfl) (fun _ _ _ h => h) (Or.inl ⟨by rfl, ?_⟩) (by assumption) ?_
          rotate_left
          · (intro w hSw; (try dsimp only at hSw); go_simp; try with_reducible rfl)
          simp only [Act.put, List.setIfInBounds_toArray, List.set_cons_zero, List.set_cons_succ]
          refine wpAnyH_take (i := 14) (oi := ({ dst := some 41, op := Go.Op.binOp Go.BinOp.add 3 (Go.Operand.tmp 37) (Go.Operand.tmp 40) 3, type := 3, pos := _, after := #[{ on := 10, ground := Go.Ground.data }, { on := 13, ground := Go.Ground.data }], guard := none } : Oper)) (v := ?_) rfl (by kernel_rfl) (by kernel_rfl) (by kernel_rfl) (fun _ _ _ h => h) (Or.inl ⟨by rfl, ?_⟩) (by assumption) ?_
          rotate_left
          · (intro w hSw; (try dsimp only at hSw); go_simp; try with_reducible rfl)
          simp only [Act.put, List.setIfInBounds_toArray, List.set_cons_zero, List.set_cons_succ]
          refine wpAnyH_take (i := 15) (oi := ({ dst := some 42, op := Go.Op.indexAddr 22 (Go.Operand.tmp 31) (Go.Operand.tmp 41), type := 0, pos := _, after := #[{ on := 4, ground := Go.Ground.data }, { on := 14, ground := Go.Ground.data }], guard := none } : Oper)) (v := ?_) rfl (by kernel_rfl) (by kernel_rfl) (by kernel_rfl) (fun _ _ _ h => h) (Or.inl ⟨by rfl, ?_⟩) (by assumption) ?_
          rotate_left
          · (intro w hSw; (try dsimp only at hSw); go_simp; try with_reducible rfl)
          simp only [Act.put, List.setIfInBounds_toArray, List.set_cons_zero, List.set_cons_succ]
          refine wpAnyH_take (i := 16) (oi := ({ dst := some 43, op := Go.Op.load 3 (Go.Operand.tmp 42), type := 3, pos := _, after := #[{ on := 15, ground := Go.Ground.data }], guard := none } : Oper)) (v := ?_) rfl (by kernel_rfl) (by kernel_rfl) (by kernel_rfl) (fun _ _ _ h => h) (Or.inl ⟨by rfl, ?_⟩) (by assumption) ?_
          rotate_left
          · (intro w hSw; (try dsimp only at hSw); go_simp; try with_reducible rfl)
          simp only [Act.put, List.setIfInBounds_toArray, List.set_cons_zero, List.set_cons_succ]
          refine wpAnyH_take (i := 17) (oi := ({ dst := some 44, op := Go.Op.lookup 89 (Go.Operand.tmp 29) (Go.Operand.tmp 43) false, type := 3, pos := _, after := #[{ on := 2, ground := Go.Ground.data }, { on := 16, ground := Go.Ground.data }], guard := none } : Oper)) (v := ?_) rfl (by kernel_rfl) (by kernel_rfl) (by kernel_rfl) (fun _ _ _ h => h) (Or.inl ⟨by rfl, ?_⟩) (by assumption) ?_
          rotate_left
          · (intro w hSw; (try dsimp only at hSw); go_simp; try with_reducible rfl)
          simp only [Act.put, List.setIfInBounds_toArray, List.set_cons_zero, List.set_cons_succ]
          refine wpAnyH_ready (rs := [1, 18]) (by kernel_rfl) (by simp) (AllReadyH.cons (o := ({ dst := some 28, op := Go.Op.load 22 (Go.Operand.tmp 27), type := 22, pos := _, after := #[{ on := 0, ground := Go.Ground.data }], guard := none } : Oper)) rfl (fun KK hK => ?_) (AllReadyH.cons (o := ({ dst := some 45, op := Go.Op.buildSlice 22 1 #[(0, Go.Operand.tmp 44)], type := 22, pos := _, after := #[{ on := 17, ground := Go.Ground.data }], guard := none } : Oper)) rfl (fun KK hK => ?_) AllReadyH.nil))
          · go_simp
            refine hK.out _ _ hHeld (fun hHeld => ?_)
            clear hK
            try simp only [Act.put, List.setIfInBounds_toArray, List.set_cons_zero, List.set_cons_succ]
            refine wpAnyH_ready (rs := [18]) (by kernel_rfl) (by simp) (AllReadyH.cons (o := ({ dst := some 45, op := Go.Op.buildSlice 22 1 #[(0, Go.Operand.tmp 44)], type := 22, pos := _, after := #[{ on := 17, ground := Go.Ground.data }], guard := none } : Oper)) rfl (fun KK hK => ?_) AllReadyH.nil)
            go_simp
            refine hK.out _ _ (HS.out _ ((bdrew hB').alloc (bdrew hB').size _) (Blk.alloc (show Blk wr.drew w.heap.size 24 [.int .i64 n, .slice (some ⟨xb, xo, none⟩) zs.length vc] from hG') _)) (fun hHeld => ?_)
            clear hK
            try simp only [Act.put, List.setIfInBounds_toArray, List.set_cons_zero, List.set_cons_succ]
            refine wpAnyH_ready (rs := [19]) (by kernel_rfl) (by simp) (AllReadyH.cons (o := ({ dst := some 46, op := Go.Op.call { callee := Go.Callee.builtin Go.Builtin.append, args := #[Go.Operand.tmp 28, Go.Operand.tmp 45], argTypes := #[22, 22] }, type := 22, pos := _, after := #[{ on := 1, ground := Go.Ground.data }, { on := 18, ground := Go.Ground.data }], guard := none } : Oper)) rfl (fun KK hK => ?_) AllReadyH.nil)
            refine step_append_lies _ rfl _ _ 22 rfl (w.heap.size + 1 + 1 + 1) 3 i0 (.int .i64 0) 1 8 under22b hi hz0 hz1 hz2 rfl (by decide) _ _ _ rfl (World.ownsRow.alloc hown _) ⟨wr.heap.size, 0, none⟩ 1 1 [.int .i64 q9] rfl rfl (cell_one_new _ _ _) (by simp [Value.oneCell']) (by decide) (by unfold maxLen; have := HLL.out; omega) (by have := HLL.out; omega) (by simp; omega) _ rfl ?_
            intro g9 cap9 w9 hown9 hgrow hloc _
            have hk9 : ∀ k, k < w.heap.size + 1 + 1 + 1 → w9.heap[k]? = wr.heap[k]? := fun k hk => (hgrow.block k (by simp; omega) (fun e9 => by have := owns_ge hown k e9.symm; omega)).trans (Below.heap_alloc _ _ k (show k < wr.heap.size by omega))
            have hX9 : Blk w9 (w.heap.size + 1 + 1) 24 [.int .i64 K, .slice rx xs.length rcap] := hX'.of_eq (hk9 _ (by omega))
            have hcw := hX9.two.2.1
            have hfw := hX9.two.2.2.2
            have hG9 : BoxG w9 w.heap.size n (.slice (some ⟨xb, xo, none⟩) zs.length vc) := hG'.of_eq (hk9 _ (by omega))
            have hB9 : Below w.heap.size w w9 := ((bdrew hB').alloc (bdrew hB').size _).grown hgrow (by have := hB'.size; simp; omega) (fun t e9 => by have := owns_ge hown t e9; omega)
            have hG3 := hG9.other (p := ⟨w.heap.size + 1 + 1, 1, none⟩) (by simp; omega) (.slice (some ⟨g9, 0, none⟩) (xs.length + 1) cap9)
            have hB3 := hB9.setCell (p := ⟨w.heap.size + 1 + 1, 1, none⟩) (by simp; omega) (.slice (some ⟨g9, 0, none⟩) (xs.length + 1) cap9)
            refine hK.out _ _ (HS.out _ hB9 hG9) (fun hHeld => ?_)
            clear hK
            try simp only [Act.put, List.setIfInBounds_toArray, List.set_cons_zero, List.set_cons_succ]
            refine wpAnyH_take (i := 20) (oi := ({ dst := some 47, op := Go.Op.fieldAddr 24 (Go.Operand.tmp 7) 1, type := 0, pos := _, after := #[{ on := 0, ground := Go.Ground.phase }, { on := 1, ground := Go.Ground.phase }, { on := 2, ground := Go.Ground.phase }, { on := 3, ground := Go.Ground.phase }, { on := 4, ground := Go.Ground.phase }, { on := 5, ground := Go.Ground.phase }, { on := 6, ground := Go.Ground.phase }, { on := 7, ground := Go.Ground.phase }, { on := 8, ground := Go.Ground.phase }, { on := 9, ground := Go.Ground.phase }, { on := 10, ground := Go.Ground.phase }, { on := 11, ground := Go.Ground.phase }, { on := 12, ground := Go.Ground.phase }, { on := 13, ground := Go.Ground.phase }, { on := 14, ground := Go.Ground.phase }, { on := 15, ground := Go.Ground.phase }, { on := 16, ground := Go.Ground.phase }, { on := 17, ground := Go.Ground.phase }, { on := 18, ground := Go.Ground.phase }, { on := 19, ground := Go.Ground.phase }], guard := none } : Oper)) (v := ?_) rfl (by kernel_rfl) (by kernel_rfl) (by kernel_rfl) (fun _ _ _ h => h) (Or.inl ⟨by rfl, ?_⟩) (by assumption) ?_
            rotate_left
            · (intro w hSw; (try dsimp only at hSw); go_simp; try with_reducible rfl)
            simp only [Act.put, List.setIfInBounds_toArray, List.set_cons_zero, List.set_cons_succ]
            refine wpAnyH_ready (rs := [21]) (by kernel_rfl) (by simp) (AllReadyH.cons (o := ({ dst := none, op := Go.Op.store 22 (Go.Operand.tmp 47) (Go.Operand.tmp 46), type := 0, pos := _, after := #[{ on := 20, ground := Go.Ground.data }, { on := 19, ground := Go.Ground.data }, { on := 19, ground := Go.Ground.chain }, { on := 0, ground := Go.Ground.phase }, { on := 1, ground := Go.Ground.phase }, { on := 2, ground := Go.Ground.phase }, { on := 3, ground := Go.Ground.phase }, { on := 4, ground := Go.Ground.phase }, { on := 5, ground := Go.Ground.phase }, { on := 6, ground := Go.Ground.phase }, { on := 7, ground := Go.Ground.phase }, { on := 8, ground := Go.Ground.phase }, { on := 9, ground := Go.Ground.phase }, { on := 10, ground := Go.Ground.phase }, { on := 11, ground := Go.Ground.phase }, { on := 12, ground := Go.Ground.phase }, { on := 13, ground := Go.Ground.phase }, { on := 14, ground := Go.Ground.phase }, { on := 15, ground := Go.Ground.phase }, { on := 16, ground := Go.Ground.phase }, { on := 17, ground := Go.Ground.phase }, { on := 18, ground := Go.Ground.phase }, { on := 19, ground := Go.Ground.phase }], guard := none } : Oper)) rfl (fun KK hK => ?_) AllReadyH.nil)
            go_simp
            refine hK.out _ _ (HS.out _ hB3 hG3) (fun hHeld => ?_)
            clear hK
            try simp only [Act.put, List.setIfInBounds_toArray, List.set_cons_zero, List.set_cons_succ]
            refine wpAnyH_done (by kernel_rfl) ?_ _
            have hX3 := hX9.set 1 (.slice (some ⟨g9, 0, none⟩) (xs.length + 1) cap9)
            have hR9 : Blk w9 (w.heap.size + 1) 24 [.int .i64 0, .slice none 0 0] := hR'.of_eq (hk9 _ (by omega))
            have hR3 := hR9.other (p := ⟨w.heap.size + 1 + 1, 1, none⟩) (by simp) (.slice (some ⟨g9, 0, none⟩) (xs.length + 1) cap9)
            have hrow9 : Row w9 (w.heap.size + 1 + 1 + 1) (.slice (some ⟨g9, 0, none⟩) (xs.length + 1) cap9) (T.take (a * K + (b + 1))) := by
              unfold Row
              rw [HSN.out]
              simpa using hown9
            have hrow3 := row_keep (W' := w9.setCell ⟨w.heap.size + 1 + 1, 1, none⟩ (.slice (some ⟨g9, 0, none⟩) (xs.length + 1) cap9)) hrow9 (fun g h1 _ => Below.heap_setCell _ _ _ g (by simp; omega))
            clear hown9 hgrow hown hrow9 hk9 hloc
            go_wp2
            go_roundw
            case rel => exact ⟨b + 1, _, by omega, by go_num, hrow3, hG3, hR3, hX3, hB3⟩
            case measure => simp [intOf]; omega
          · go_simp
            refine hK.out _ _ (HS.out _ ((bdrew hB').alloc (bdrew hB').size _) (Blk.alloc (show Blk wr.drew w.heap.size 24 [.int .i64 n, .slice (some ⟨xb, xo, none⟩) zs.length vc] from hG') _)) (fun hHeld => ?_)
            clear hK
            try simp only [Act.put, List.setIfInBounds_toArray, List.set_cons_zero, List.set_cons_succ]
            refine wpAnyH_ready (rs := [1]) (by kernel_rfl) (by simp) (AllReadyH.cons (o := ({ dst := some 28, op := Go.Op.load 22 (Go.Operand.tmp 27), type := 22, pos := _, after := #[{ on := 0, ground := Go.Ground.data }], guard := none } : Oper)) rfl (fun KK hK => ?_) AllReadyH.nil)
            have x1a := (Blk.alloc (show Blk wr.drew (w.heap.size + 1 + 1) 24 [.int .i64 K, .slice rx xs.length rcap] from hX') (.cells #[.int .i64 q9] 3)).two.2.1
            go_simp
            refine hK.out _ _ hHeld (fun hHeld => ?_)
            clear hK
            try simp only [Act.put, List.setIfInBounds_toArray, List.set_cons_zero, List.set_cons_succ]
            refine wpAnyH_ready (rs := [19]) (by kernel_rfl) (by simp) (AllReadyH.cons (o := ({ dst := some 46, op := Go.Op.call { callee := Go.Callee.builtin Go.Builtin.append, args := #[Go.Operand.tmp 28, Go.Operand.tmp 45], argTypes := #[22, 22] }, type := 22, pos := _, after := #[{ on := 1, ground := Go.Ground.data }, { on := 18, ground := Go.Ground.data }], guard := none } : Oper)) rfl (fun KK hK => ?_) AllReadyH.nil)
            refine step_append_lies _ rfl _ _ 22 rfl (w.heap.size + 1 + 1 + 1) 3 i0 (.int .i64 0) 1 8 under22b hi hz0 hz1 hz2 rfl (by decide) _ _ _ rfl (World.ownsRow.alloc hown _) ⟨wr.heap.size, 0, none⟩ 1 1 [.int .i64 q9] rfl rfl (cell_one_new _ _ _) (by simp [Value.oneCell']) (by decide) (by unfold maxLen; have := HLL.out; omega) (by have := HLL.out; omega) (by simp; omega) _ rfl ?_
            intro g9 cap9 w9 hown9 hgrow hloc _
            have hk9 : ∀ k, k < w.heap.size + 1 + 1 + 1 → w9.heap[k]? = wr.heap[k]? := fun k hk => (hgrow.block k (by simp; omega) (fun e9 => by have := owns_ge hown k e9.symm; omega)).trans (Below.heap_alloc _ _ k (show k < wr.heap.size by omega))
            have hX9 : Blk w9 (w.heap.size + 1 + 1) 24 [.int .i64 K, .slice rx xs.length rcap] := hX'.of_eq (hk9 _ (by omega))
            have hcw := hX9.two.2.1
            have hfw := hX9.two.2.2.2
            have hG9 : BoxG w9 w.heap.size n (.slice (some ⟨xb, xo, none⟩) zs.length vc) := hG'.of_eq (hk9 _ (by omega))
            have hB9 : Below w.heap.size w w9 := ((bdrew hB').alloc (bdrew hB').size _).grown hgrow (by have := hB'.size; simp; omega) (fun t e9 => by have := owns_ge hown t e9; omega)
            have hG3 := hG9.other (p := ⟨w.heap.size + 1 + 1, 1, none⟩) (by simp; omega) (.slice (some ⟨g9, 0, none⟩) (xs.length + 1) cap9)
            have hB3 := hB9.setCell (p := ⟨w.heap.size + 1 + 1, 1, none⟩) (by simp; omega) (.slice (some ⟨g9, 0, none⟩) (xs.length + 1) cap9)
            refine hK.out _ _ (HS.out _ hB9 hG9) (fun hHeld => ?_)
            clear hK
            try simp only [Act.put, List.setIfInBounds_toArray, List.set_cons_zero, List.set_cons_succ]
            refine wpAnyH_take (i := 20) (oi := ({ dst := some 47, op := Go.Op.fieldAddr 24 (Go.Operand.tmp 7) 1, type := 0, pos := _, after := #[{ on := 0, ground := Go.Ground.phase }, { on := 1, ground := Go.Ground.phase }, { on := 2, ground := Go.Ground.phase }, { on := 3, ground := Go.Ground.phase }, { on := 4, ground := Go.Ground.phase }, { on := 5, ground := Go.Ground.phase }, { on := 6, ground := Go.Ground.phase }, { on := 7, ground := Go.Ground.phase }, { on := 8, ground := Go.Ground.phase }, { on := 9, ground := Go.Ground.phase }, { on := 10, ground := Go.Ground.phase }, { on := 11, ground := Go.Ground.phase }, { on := 12, ground := Go.Ground.phase }, { on := 13, ground := Go.Ground.phase }, { on := 14, ground := Go.Ground.phase }, { on := 15, ground := Go.Ground.phase }, { on := 16, ground := Go.Ground.phase }, { on := 17, ground := Go.Ground.phase }, { on := 18, ground := Go.Ground.phase }, { on := 19, ground := Go.Ground.phase }], guard := none } : Oper)) (v := ?_) rfl (by kernel_rfl) (by kernel_rfl) (by kernel_rfl) (fun _ _ _ h => h) (Or.inl ⟨by rfl, ?_⟩) (by assumption) ?_
            rotate_left
            · (intro w hSw; (try dsimp only at hSw); go_simp; try with_reducible rfl)
            simp only [Act.put, List.setIfInBounds_toArray, List.set_cons_zero, List.set_cons_succ]
            refine wpAnyH_ready (rs := [21]) (by kernel_rfl) (by simp) (AllReadyH.cons (o := ({ dst := none, op := Go.Op.store 22 (Go.Operand.tmp 47) (Go.Operand.tmp 46), type := 0, pos := _, after := #[{ on := 20, ground := Go.Ground.data }, { on := 19, ground := Go.Ground.data }, { on := 19, ground := Go.Ground.chain }, { on := 0, ground := Go.Ground.phase }, { on := 1, ground := Go.Ground.phase }, { on := 2, ground := Go.Ground.phase }, { on := 3, ground := Go.Ground.phase }, { on := 4, ground := Go.Ground.phase }, { on := 5, ground := Go.Ground.phase }, { on := 6, ground := Go.Ground.phase }, { on := 7, ground := Go.Ground.phase }, { on := 8, ground := Go.Ground.phase }, { on := 9, ground := Go.Ground.phase }, { on := 10, ground := Go.Ground.phase }, { on := 11, ground := Go.Ground.phase }, { on := 12, ground := Go.Ground.phase }, { on := 13, ground := Go.Ground.phase }, { on := 14, ground := Go.Ground.phase }, { on := 15, ground := Go.Ground.phase }, { on := 16, ground := Go.Ground.phase }, { on := 17, ground := Go.Ground.phase }, { on := 18, ground := Go.Ground.phase }, { on := 19, ground := Go.Ground.phase }], guard := none } : Oper)) rfl (fun KK hK => ?_) AllReadyH.nil)
            go_simp
            refine hK.out _ _ (HS.out _ hB3 hG3) (fun hHeld => ?_)
            clear hK
            try simp only [Act.put, List.setIfInBounds_toArray, List.set_cons_zero, List.set_cons_succ]
            refine wpAnyH_done (by kernel_rfl) ?_ _
            have hX3 := hX9.set 1 (.slice (some ⟨g9, 0, none⟩) (xs.length + 1) cap9)
            have hR9 : Blk w9 (w.heap.size + 1) 24 [.int .i64 0, .slice none 0 0] := hR'.of_eq (hk9 _ (by omega))
            have hR3 := hR9.other (p := ⟨w.heap.size + 1 + 1, 1, none⟩) (by simp) (.slice (some ⟨g9, 0, none⟩) (xs.length + 1) cap9)
            have hrow9 : Row w9 (w.heap.size + 1 + 1 + 1) (.slice (some ⟨g9, 0, none⟩) (xs.length + 1) cap9) (T.take (a * K + (b + 1))) := by
              unfold Row
              rw [HSN.out]
              simpa using hown9
            have hrow3 := row_keep (W' := w9.setCell ⟨w.heap.size + 1 + 1, 1, none⟩ (.slice (some ⟨g9, 0, none⟩) (xs.length + 1) cap9)) hrow9 (fun g h1 _ => Below.heap_setCell _ _ _ g (by simp; omega))
            clear hown9 hgrow hown hrow9 hk9 hloc
            go_wp2
            go_roundw
            case rel => exact ⟨b + 1, _, by omega, by go_num, hrow3, hG3, hR3, hX3, hB3⟩
            case measure => simp [intOf]; omega
        · have hbi : ¬ (b : Int) < (K : Int) := by omega
          have hbe : b = K := by omega
          have hrow' : Row wr (w.heap.size + 1 + 1 + 1) r' (T.take ((a + 1) * K)) := by rw [show (a + 1) * K = a * K + b by rw [Nat.succ_mul, hbe]]; exact hrow'
          clear hbe
          go_wp2
          go_roundw
          case rel => exact ⟨a + 1, r', by omega, by go_num, hrow', hG', hR', hX', hB'⟩
          case measure => simp [intOf]; omega
    · have hai : ¬ (a : Int) < (K : Int) := by omega
      have hae : a = K := by omega
      have hrow : Row wr (w.heap.size + 1 + 1 + 1) r T := by
        have : T.take (a * K) = T := List.take_of_length_le (by rw [HTL.out, hae]; exact Nat.le_refl _)
        rw [← this]; exact hrow
      clear hae
      obtain ⟨rx, rcap, rfl⟩ := own_slice hrow
      obtain ⟨x0, x1, _, _⟩ := hX.two
      obtain ⟨y0, y1, fy0, fy1⟩ := hR.two
      have hR6 := (hR.set 0 (.int .i64 K)).set 1 (.slice rx T.length rcap)
      have hB6 := (hB.setCell (p := ⟨w.heap.size + 1, 0, none⟩) (by simp) (.int .i64 K)).setCell (p := ⟨w.heap.size + 1, 1, none⟩) (by simp) (.slice rx T.length rcap)
      have hrow6 := row_keep (W' := (wr.setCell ⟨w.heap.size + 1, 0, none⟩ (.int .i64 K)).setCell ⟨w.heap.size + 1, 1, none⟩ (.slice rx T.length rcap)) hrow (fun g h1 _ => (Below.heap_setCell _ _ _ g (by simp; omega)).trans (Below.heap_setCell _ _ _ g (by simp; omega)))
      go_wp2
      obtain ⟨z0, z1, _, _⟩ := hR6.two
      exact bodyPost_ret (v := .agg #[.int .i64 K, .slice rx T.length rcap]) (by simp [results, Tryd.results72, go_sem, z0, z1]) rfl ⟨_, rfl, owns_mono hrow6 (by omega), hB6⟩
end Go.Proofs.YtodabkjadejekaaDoor

namespace Go.Proofs.YtodabkjadejekaaDoor
open Go Go.RowKit Go.Maps

/-- What a function that answers a group and a fault begins with. -/
structure BegQ (w w0 : World) (N : Int) (v : Value) : Prop where
  eq : w0 = ((w.alloc (.cells #[.int .i64 N, v] 24)).alloc (.cells #[.int .i64 0, .slice none 0 0] 24)).alloc (.cells #[.int .i64 0, .int .i64 0] 28)
  bel : Below w.heap.size w w0
  box : BoxG w0 w.heap.size N v
  grp : Blk w0 (w.heap.size + 1) 24 [.int .i64 0, .slice none 0 0]
  res : Blk w0 (w.heap.size + 1 + 1) 28 [.int .i64 0, .int .i64 0]
  siz : w0.heap.size = w.heap.size + 1 + 1 + 1
theorem BegQ.new (w : World) (N : Int) (v : Value) : ∃ w0, BegQ w w0 N v := by
  refine ⟨_, rfl, ((balloc w _).alloc (by simp) _).alloc (by simp; omega) _, ((blk0 (w := w) (T := 24) _ _).alloc _).alloc _, ?_, ?_, by simp⟩
  · have h := (blk0 (w := w.alloc (.cells #[.int .i64 N, v] 24)) (T := 24) (.int .i64 0) (.slice none 0 0)).alloc (.cells #[.int .i64 0, .int .i64 0] 28)
    rw [World.size_alloc] at h
    exact h
  · have h := blk0 (w := (w.alloc (.cells #[.int .i64 N, v] 24)).alloc (.cells #[.int .i64 0, .slice none 0 0] 24)) (T := 28) (.int .i64 0) (.int .i64 0)
    rw [World.size_alloc, World.size_alloc] at h
    exact h
set_option maxRecDepth 100000 in
set_option maxHeartbeats 4000000 in
theorem quo_bad (N : Int) (v u : Value) (zs l : List Int) (w : World) (hv : Sl w v zs) (hu : Sl w u l) (hT : Tab w) (hc : (ufault N zs l).1 ≠ 0) :
    Calls Tryd.prog 36 #[.agg #[.int .i64 N, v], u] w fun x w' => x = .returned (.tuple #[.agg #[.int .i64 0, .slice none 0 0], .slice none 0 0, .agg #[.int .i64 (ufault N zs l).1, .int .i64 (ufault N zs l).2]]) ∧ Below w.heap.size w w' := by
  obtain ⟨w0, BG⟩ := BegQ.new w N v
  have HN := hide (nrm_bad N v u zs l w0 (hv.below BG.bel) (hu.below BG.bel) (hT.below BG.bel) hc)
  obtain ⟨c0, c1, _, _⟩ := BG.box.two
  obtain ⟨c, i, hci⟩ : ∃ c i, ufault N zs l = (c, i) := ⟨_, _, rfl⟩
  rw [hci] at HN hc ⊢
  simp only at HN hc ⊢
  clear hci
  have hcb : (c != 0) = true := by simpa using hc
  rw [BG.eq] at c0 c1
  go_enter Tryd.func36, Tryd.ntmps36
  go_wp2_with fail
  rw [← BG.eq]
  clear c0 c1
  refine HN.out.mono ?_
  rintro x w1 ⟨rfl, hb1⟩
  have hb2 := bcat2 hb1 (balloc w1 (.cells #[.int .i64 c, .int .i64 i] 28))
  have hF2 := blk0 (w := w1) (T := 28) (.int .i64 c) (.int .i64 i)
  have hBw := bcat BG.bel hb2 BG.bel.size
  have hG2 := blk_below BG.grp hb2
  have hR2 := blk_below BG.res hb2
  obtain ⟨t0, t1, _, _⟩ := hF2.two
  obtain ⟨y0, y1, fy0, fy1⟩ := hR2.two
  obtain ⟨g0, g1, fg0, fg1⟩ := hG2.two
  obtain ⟨s0, s1⟩ := hG2.self
  obtain ⟨hR6, hB6⟩ := put2 hR2 hBw (by omega) c i
  have hG6 := (hG2.other (p := ⟨w.heap.size + 1 + 1, 0, none⟩) (by simp) (.int .i64 c)).other (p := ⟨w.heap.size + 1 + 1, 1, none⟩) (by simp) (.int .i64 i)
  obtain ⟨g2, g3, fg2, fg3⟩ := hG6.two
  obtain ⟨s2, s3⟩ := hG6.self
  go_wp2_with fail
  go_region
  all_goals (
    go_wp2
    obtain ⟨z0, z1, _, _⟩ := hR6.two
    exact bodyPost_ret (v := .tuple #[.agg #[.int .i64 0, .slice none 0 0], .slice none 0 0, .agg #[.int .i64 c, .int .i64 i]]) (by simp [results, Tryd.results36, go_sem, z0, z1, g2, g3]) rfl ⟨rfl, bdrew hB6⟩)
set_option maxRecDepth 100000 in
set_option maxHeartbeats 4000000 in
theorem quo_odd (n e : Nat) (v u : Value) (zs l : List Int) (w : World) (hv : Sl w v zs) (hg : IsGrp n zs e) (hu : Sl w u l) (hT : Tab w) (hl : lfault n l = (0, 0)) (hsb : subT n zs e (pset l) = true) (hN : nrmq n zs e (pset l) = false) :
    Calls Tryd.prog 36 #[.agg #[.int .i64 n, v], u] w fun x w' => x = .returned (.tuple #[.agg #[.int .i64 0, .slice none 0 0], .slice none 0 0, .agg #[.int .i64 4, .int .i64 0]]) ∧ Below w.heap.size w w' := by
  obtain ⟨w0, BG⟩ := BegQ.new w n v
  have HN := hide (nrm_good n e v u zs l w0 (hv.below BG.bel) hg (hu.below BG.bel) (hT.below BG.bel) hl hsb)
  rw [hN] at HN
  obtain ⟨c0, c1, _, _⟩ := BG.box.two
  rw [BG.eq] at c0 c1
  go_enter Tryd.func36, Tryd.ntmps36
  go_wp2_with fail
  rw [← BG.eq]
  clear c0 c1
  refine HN.out.mono ?_
  rintro x w1 ⟨rfl, hb1⟩
  have hb2 := bcat2 hb1 (balloc w1 (.cells #[.int .i64 0, .int .i64 0] 28))
  have hF2 := blk0 (w := w1) (T := 28) (.int .i64 0) (.int .i64 0)
  have hBw := bcat BG.bel hb2 BG.bel.size
  have hG2 := blk_below BG.grp hb2
  have hR2 := blk_below BG.res hb2
  obtain ⟨t0, t1, _, _⟩ := hF2.two
  obtain ⟨y0, y1, fy0, fy1⟩ := hR2.two
  obtain ⟨g0, g1, fg0, fg1⟩ := hG2.two
  obtain ⟨s0, s1⟩ := hG2.self
  obtain ⟨hR6, hB6⟩ := put2 hR2 hBw (by omega) 4 0
  have hG6 := (hG2.other (p := ⟨w.heap.size + 1 + 1, 0, none⟩) (by simp) (.int .i64 4)).other (p := ⟨w.heap.size + 1 + 1, 1, none⟩) (by simp) (.int .i64 0)
  obtain ⟨g2, g3, fg2, fg3⟩ := hG6.two
  go_wp2
  obtain ⟨z0, z1, _, _⟩ := hR6.two
  exact bodyPost_ret (v := .tuple #[.agg #[.int .i64 0, .slice none 0 0], .slice none 0 0, .agg #[.int .i64 4, .int .i64 0]]) (by simp [results, Tryd.results36, go_sem, z0, z1, g2, g3]) rfl ⟨rfl, hB6⟩
set_option maxRecDepth 100000 in
set_option maxHeartbeats 8000000 in
theorem quo_good (n e : Nat) (v u : Value) (zs l : List Int) (w : World) (hv : Sl w v zs) (hg : IsGrp n zs e) (hu : Sl w u l) (hT : Tab w) (hl : lfault n l = (0, 0)) (hsb : subT n zs e (pset l) = true) (hN : nrmq n zs e (pset l) = true) :
    Calls Tryd.prog 36 #[.agg #[.int .i64 n, v], u] w fun x w' => ∃ r1 r2 r3 s1 s2 s3, x = .returned (.tuple #[.agg #[.int .i64 (fsts n (rgtq n zs (lst n (pset l))) n).length, .slice r1 r2 r3], .slice s1 s2 s3, .agg #[.int .i64 0, .int .i64 0]]) ∧ Sl w' (.slice r1 r2 r3) (mkT (fsts n (rgtq n zs (lst n (pset l))) n).length (quoF n zs (rgtq n zs (lst n (pset l))))) ∧ Sl w' (.slice s1 s2 s3) (ontoL n (rgtq n zs (lst n (pset l)))) ∧ Below w.heap.size w w' := by
  obtain ⟨i0, hi, hz0, hz1, hz2⟩ := info_parts info3b
  have hn := hg.tab.le
  have PP := rgt_parts hg hsb
  obtain ⟨w0, BG⟩ := BegQ.new w n v
  have HN := hide (nrm_good n e v u zs l w0 (hv.below BG.bel) hg (hu.below BG.bel) (hT.below BG.bel) hl hsb)
  rw [hN] at HN
  have HRG := hide (fun W (h : Below w.heap.size w W) => lists_sl (Nat.lt_of_lt_of_le hT.lt h.size) (rgt_good n e v u zs l W (hv.below h) hg (hu.below h) (hT.below h) hl hsb))
  obtain ⟨f, hf⟩ : ∃ f, f = rgtq n zs (lst n (pset l)) := ⟨_, rfl⟩
  rw [← hf] at HRG PP ⊢
  clear hf
  obtain ⟨K, hK⟩ : ∃ K, K = (fsts n f n).length := ⟨_, rfl⟩
  have hK6 : K ≤ 60 := by rw [hK]; exact Nat.le_trans (fsts_len n f n) hn
  have HCL := hide (show (csl n f n).length = K by rw [csl_len, hK])
  have HNUM := hide (fun W v9 (h : SlL W v9 (csl n f n)) => numbers_ok v9 (csl n f n) W h (by rw [HCL.out]; exact hK6) (fun t _ => Nat.le_trans (csl_len_le t) hn) (fun t a ha => by
    obtain ⟨b, hb, rfl, _⟩ := (csl_at PP t a).1 ha
    omega) (fun s t a h1 h2 => by
    obtain ⟨b, hb, rfl, h3⟩ := (csl_at PP s a).1 h1
    obtain ⟨b', hb', he, h4⟩ := (csl_at PP t _).1 h2
    have : b = b' := by omega
    subst this
    omega))
  have HNL := hide (fun a (ha : a < n) => (prts_num_lt PP ha).1)
  rw [← hK] at HNL
  have HAT := hide (fun (D : DataW Unit) (h : MLs (csl n f n) (csl n f n).length 0 D) a (ha : a < n) => h.old (num n f a) (by rw [csl_len]; exact (prts_num_lt PP ha).1) a ((csl_at PP _ _).2 ⟨a, ha, rfl, rfl⟩))
  have HGR := hide (fun W lv mb c (D : DataW Unit) (h : Below w.heap.size w W) (hL : SlL W lv (csl n f n)) (hm : W.ownsMap Tryd.prog 3 (plainElem Tryd.prog 3) mb c D) (hM : MLs (csl n f n) (csl n f n).length 0 D) =>
    group_ok n K v lv zs (csl n f n) (fun i => (fsts n f n)[i]?.getD 0) (quoF n zs f) mb c D W hg.tab (hv.below h) hL HCL.out hK6 (fun i hi => by
      rw [hK] at hi
      obtain ⟨s, hs⟩ := csl_head PP hi
      exact ⟨s, hs, by rw [List.getElem?_eq_getElem hi]; exact fst_lt hi⟩) hm (fun i j hi hj => by
      rw [hK] at hi hj
      have h1 := fst_lt hi
      have h2 := fst_lt hj
      unfold quoF
      simp only [List.getElem?_eq_getElem hi, List.getElem?_eq_getElem hj, Option.getD_some]
      exact HAT.out D hM _ (tm_lt hg.tab h1 h2)) (fun i j hi hj => by
      rw [hK] at hi hj
      unfold quoF
      simp only [List.getElem?_eq_getElem hi, List.getElem?_eq_getElem hj, Option.getD_some]
      have := HNL.out _ (tm_lt hg.tab (fst_lt hi) (fst_lt hj))
      omega))
  rw [← hK]
  have HK := hide hK
  clear hK PP hN
  obtain ⟨c0, c1, _, _⟩ := BG.box.two
  rw [BG.eq] at c0 c1
  go_enter Tryd.func36, Tryd.ntmps36
  go_wp2_with fail
  rw [← BG.eq]
  clear c0 c1
  refine HN.out.mono ?_
  rintro x w1 ⟨rfl, hb1⟩
  have hb2 := bcat2 hb1 (balloc w1 (.cells #[.int .i64 0, .int .i64 0] 28))
  have hF2 := blk0 (w := w1) (T := 28) (.int .i64 0) (.int .i64 0)
  have hBw := bcat BG.bel hb2 BG.bel.size
  have hX2 := blk_below BG.box hb2
  have hG2 := blk_below BG.grp hb2
  have hR2 := blk_below BG.res hb2
  obtain ⟨t0, t1, _, _⟩ := hF2.two
  obtain ⟨c0, c1, _, _⟩ := hX2.two
  go_wp2_with fail
  generalize w1.alloc (.cells #[.int .i64 0, .int .i64 0] 28) = w2 at *
  clear t0 t1 c0 c1 hb1 hb2
  refine (HRG.out _ hBw).mono ?_
  rintro x w3 ⟨r1, r2, r3, rfl, hr, hb3⟩
  have hF3 := blk_below hF2 hb3
  have hX3 := blk_below hX2 hb3
  have hG3 := blk_below hG2 hb3
  have hR3 := blk_below hR2 hb3
  have hBw3 := bcat2 hBw hb3
  obtain ⟨t0, t1, ft0, ft1⟩ := hF3.two
  obtain ⟨s0, s1⟩ := hF3.self
  go_wp2_with fail
  clear t0 t1 ft0 ft1 s0 s1
  refine (HNUM.out _ _ hr).mono ?_
  rintro x w4 ⟨D, rfl, hmap, hML, hb4⟩
  have hX4 := blk_below hX3 hb4
  have hG4 := blk_below hG3 hb4
  have hR4 := blk_below hR3 hb4
  have hr4 := hr.below hb4
  have hBw4 := bcat2 hBw3 hb4
  obtain ⟨k0, k1, _, _⟩ := hX4.two
  clear hX2 hX3 hG2 hG3 hR2 hR3 hF2 hF3 hr hBw hBw3 HNUM HRG HN
  go_wp2_with (first
    | (at_make; refine wpList_make_full _ rfl _ _ 22 rfl w4.heap.size 3 i0 (.int .i64 0) 1 under22b hi hz0 hz1 _ _ _ _ n rfl rfl rfl rfl (by rw [hz2]; omega) (by unfold maxLen; omega) (by simp) ?_))
  intro w5 hown hgr
  have hM5 : Blk w5 w4.heap.size 3 ((ontoU n f 0).map (Value.int .i64)) := by
    have := Blk.of_owns hown
    rw [made_rep] at this
    rw [ontoU_zero, List.map_replicate]; exact this
  have hb5 : Below w4.heap.size w4 w5 := (Below.refl _ w4).grown hgr (Nat.le_refl _) (by simp)
  clear hown hgr k0 k1
  have hw34 := hb4.size
  have HMP := hide hmap
  clear hmap
  go_wp2
  go_loopw [46] (fun i wr => ∃ a : Nat, a ≤ n ∧ i = .int .i64 a ∧ Blk wr w4.heap.size 3 ((ontoU n f a).map (Value.int .i64)) ∧ Below w4.heap.size w4 wr) (fun i _ => n - (intOf i).toNat)
  case atStart => exact ⟨0, Nat.zero_le _, rfl, hM5, hb5⟩
  case round =>
    obtain ⟨a, ha, rfl, hMa, hBa⟩ := hrel
    clear hM5 hb5
    by_cases hlt : a < n
    · have hai : (a : Int) < (n : Int) := by omega
      have hlk := look_int (HMP.out.kept (below_grown hBa none) (by simp)) (show a < 60 by omega) (HAT.out D hML a hlt)
      have hMc := hMa.int (y := a) (by rw [ontoU_len]; exact hlt)
      have hMf := hMa.frozen a
      have hM6 := hMa.setInt a (num n f a : Int)
      rw [← ontoU_set] at hM6
      have hB6 := hBa.setCell (p := ⟨w4.heap.size, a, none⟩) (Nat.le_refl _) (.int .i64 (num n f a : Int))
      go_wp2
      go_roundw
      case rel => exact ⟨a + 1, by omega, by go_num, hM6, hB6⟩
      case measure => simp [intOf]; omega
    · have hai : ¬ (a : Int) < (n : Int) := by omega
      have han : a = n := by omega
      rw [han, ontoU_all] at hMa
      clear han
      have hXr := blk_below hX4 hBa
      have hGr := blk_below hG4 hBa
      have hRr := blk_below hR4 hBa
      have hBr := bcat2 hBw4 hBa
      obtain ⟨k0, k1, _, _⟩ := hXr.two
      go_wp2_with fail
      clear k0 k1
      refine (HGR.out wr _ _ _ D hBr (hr4.below hBa) (HMP.out.kept (below_grown hBa none) (by simp)) hML).mono ?_
      rintro x w6 ⟨r, rfl, hrow, hb6⟩
      obtain ⟨T, hTe⟩ : ∃ T, T = mkT K (quoF n zs f) := ⟨_, rfl⟩
      rw [← hTe] at hrow
      have HTE := hide hTe
      clear hTe
      obtain ⟨rx, rcap, rfl⟩ := own_slice hrow
      have hMl := hMa.lt
      have hRl := hRr.lt
      have hGl := hGr.lt
      have hG6 := blk_below hGr hb6
      have hR6 := blk_below hRr hb6
      have hM6 := blk_below hMa hb6
      have hB6 := bcat2 hBr hb6
      obtain ⟨g0, g1, fg0, fg1⟩ := hG6.two
      have hG7 := (hG6.set 0 (.int .i64 K)).set 1 (.slice rx T.length rcap)
      have hR7 := (hR6.other (p := ⟨w.heap.size + 1, 0, none⟩) (by simp) (.int .i64 K)).other (p := ⟨w.heap.size + 1, 1, none⟩) (by simp) (.slice rx T.length rcap)
      have hMne : w4.heap.size ≠ w.heap.size + 1 := by have := hG4.lt; omega
      have hM7 := (hM6.other (p := ⟨w.heap.size + 1, 0, none⟩) (by simpa using hMne) (.int .i64 K)).other (p := ⟨w.heap.size + 1, 1, none⟩) (by simpa using hMne) (.slice rx T.length rcap)
      have hB7 := (hB6.setCell (p := ⟨w.heap.size + 1, 0, none⟩) (by simp) (.int .i64 K)).setCell (p := ⟨w.heap.size + 1, 1, none⟩) (by simp) (.slice rx T.length rcap)
      have hrow7 := row_keep (W' := (w6.setCell ⟨w.heap.size + 1, 0, none⟩ (.int .i64 K)).setCell ⟨w.heap.size + 1, 1, none⟩ (.slice rx T.length rcap)) hrow (fun g h1 _ => (Below.heap_setCell _ _ _ g (by simp; omega)).trans (Below.heap_setCell _ _ _ g (by simp; omega)))
      obtain ⟨y0, y1, fy0, fy1⟩ := hR7.two
      obtain ⟨s0, s1⟩ := hR7.self
      obtain ⟨v0, v1, fv0, fv1⟩ := hR6.two
      obtain ⟨z0, z1, _, _⟩ := hG7.two
      have hse := Sl.of_blk hM7 (ontoL_len n f).symm (by rw [ontoL_len]; omega)
      go_wp2
      exact bodyPost_ret (v := .tuple #[.agg #[.int .i64 K, .slice rx T.length rcap], .slice (some ⟨w4.heap.size, 0, none⟩) n n, .agg #[.int .i64 0, .int .i64 0]]) (by simp [results, Tryd.results36, go_sem, z0, z1, y0, y1]) rfl ⟨_, _, _, _, _, _, rfl, by rw [← HTE.out]; exact row_sl hrow7 (by rw [size_set, size_set]; have := hb6.size; omega), hse, hB7⟩
end Go.Proofs.YtodabkjadejekaaDoor

namespace Go.Proofs.YtodabkjadejekaaDoor
open Go Go.RowKit

theorem sq_l : lfault 8 [0, 2] = (0, 0) := by decide +kernel
theorem sq_s : subT 8 sqT 0 (pset [0, 2]) = true := by decide +kernel
theorem sq_n : nrmq 8 sqT 0 (pset [0, 2]) = true := by decide +kernel
theorem sq_k : (fsts 8 (rgtq 8 sqT (lst 8 (pset [0, 2]))) 8).length = 4 := by decide +kernel
theorem sq_o : ontoL 8 (rgtq 8 sqT (lst 8 (pset [0, 2]))) = [0, 1, 0, 1, 2, 3, 2, 3] := by decide +kernel
theorem sq_e : num 8 (rgtq 8 sqT (lst 8 (pset [0, 2]))) 0 = 0 := by decide +kernel
def sqQ : List Int := mkT 4 (quoF 8 sqT (rgtq 8 sqT (lst 8 (pset [0, 2]))))
theorem sq_g : IsGrp 4 sqQ 0 := by
  have h := quo_grp (q := pset [0, 2]) sqT_grp sq_s sq_n
  rw [sq_k, sq_e] at h
  exact h
theorem sq_p : pz 4 sqQ 0 1 2 = 0 := by decide +kernel
set_option maxRecDepth 100000 in
set_option maxHeartbeats 4000000 in
theorem quotBegun_any (w : World) (hT : Tab w) : Calls Tryd.prog 38 #[] w fun x w' => x = .returned (.bool true) ∧ Below w.heap.size w w' := by
  have HQ := hide (fun W v u (hv : Sl W v sqT) (hu : Sl W u [0, 2]) (hT : Tab W) => quo_good 8 0 v u sqT [0, 2] W hv sqT_grp hu hT sq_l sq_s sq_n)
  rw [sq_k, sq_o] at HQ
  have HP := hide (fun W v (hv : Sl W v sqQ) => P_ok sq_g (a := 1) (by decide) 2 v W hv)
  rw [sq_p] at HP
  go_enter Tryd.func38, Tryd.ntmps38
  go_wp2_with fail
  refine (square_ok w).mono ?_
  rintro x w1 ⟨r, rfl, hrow, hb1⟩
  obtain ⟨rx, rcap, rfl⟩ := own_slice hrow
  have hs1 := row_sl hrow (Nat.lt_of_lt_of_le hT.lt hb1.size)
  have hT1 := hT.below hb1
  have hsz := hb1.size
  go_wp2_with fail
  have hb2 := balloc w1 (.cells #[.int .i64 0, .int .i64 2] 3)
  have hu2 : Sl (w1.alloc (.cells #[.int .i64 0, .int .i64 2] 3)) (.slice (some ⟨w1.heap.size, 0, none⟩) 2 2) [0, 2] := Sl.of_blk (g := w1.heap.size) (zs := [0, 2]) (blk0 _ _) rfl (by simp)
  have hs2 := hs1.below hb2
  have hT2 := hT1.below hb2
  have hBw := bcat2 hb1 hb2
  generalize w1.alloc (.cells #[.int .i64 0, .int .i64 2] 3) = w2 at *
  refine (HQ.out w2 _ _ hs2 hu2 hT2).mono ?_
  rintro x w3 ⟨r1, r2, r3, s1, s2, s3, rfl, hq, hm, hb3⟩
  obtain ⟨W, hW⟩ : ∃ W, W = (w3.alloc (.cells #[.int .i64 4, .slice r1 r2 r3] 24)).alloc (.cells #[.int .i64 0, .int .i64 0] 28) := ⟨_, rfl⟩
  have hbW : Below w3.heap.size w3 W := by rw [hW]; exact (balloc w3 _).alloc (by simp) _
  have hG : BoxG W w3.heap.size 4 (.slice r1 r2 r3) := by rw [hW]; exact (blk0 (w := w3) (T := 24) _ _).alloc _
  have hF : Blk W (w3.heap.size + 1) 28 [.int .i64 0, .int .i64 0] := by
    have := blk0 (w := w3.alloc (.cells #[.int .i64 4, .slice r1 r2 r3] 24)) (T := 28) (.int .i64 0) (.int .i64 0)
    rw [World.size_alloc] at this
    rw [hW]; exact this
  have hBW := bcat2 (bcat2 hBw hb3) hbW
  have hqW := hq.below hbW
  have hmW := hm.below hbW
  obtain ⟨f0, f1, _, _⟩ := hF.two
  obtain ⟨g0, g1, _, _⟩ := hG.two
  rw [hW] at f0 f1 g0 g1
  go_wp2_with fail
  rw [← hW] at f0 f1 g0 g1 ⊢
  have hsW : W.heap.size = w3.heap.size + 1 + 1 := by rw [hW]; simp
  rw [← hsW]
  clear hW
  have hb8 := balloc W (.cells #[.int .i64 0, .int .i64 1, .int .i64 0, .int .i64 1, .int .i64 2, .int .i64 3, .int .i64 2, .int .i64 3] 3)
  have h8 : Sl (W.alloc (.cells #[.int .i64 0, .int .i64 1, .int .i64 0, .int .i64 1, .int .i64 2, .int .i64 3, .int .i64 2, .int .i64 3] 3)) (.slice (some ⟨W.heap.size, 0, none⟩) 8 8) [0, 1, 0, 1, 2, 3, 2, 3] := Sl.of_blk (g := W.heap.size) (zs := [0, 1, 0, 1, 2, 3, 2, 3]) (World.alloc_heap_new W _) rfl (by simp)
  have hG8 := blk_below hG hb8
  have hq8 := hqW.below hb8
  have hm8 := hmW.below hb8
  have hB8 := bcat2 hBW hb8
  generalize W.alloc (.cells #[.int .i64 0, .int .i64 1, .int .i64 0, .int .i64 1, .int .i64 2, .int .i64 3, .int .i64 2, .int .i64 3] 3) = V at *
  have HI := ints_any _ _ _ _ V hm8 h8
  rw [decide_eq_true rfl] at HI
  refine HI.mono ?_
  rintro x w9 ⟨rfl, hb9⟩
  have hG9 := blk_below hG8 hb9
  have hq9 := hq8.below hb9
  have hB9 := bcat2 hB8 hb9
  clear f0 f1 g0 g1
  obtain ⟨g0, g1, _, _⟩ := hG9.two
  go_wp2_with fail
  refine (HP.out _ _ hq9).mono ?_
  rintro x w10 ⟨rfl, hb10⟩
  have hB10 := bcat2 hB9 hb10
  go_wp2
  go_ret
  exact ⟨rfl, hB10⟩
end Go.Proofs.YtodabkjadejekaaDoor

namespace Go.Proofs.YtodabkjadejekaaDoor
open Go Go.RowKit

set_option maxRecDepth 100000 in
set_option maxHeartbeats 8000000 in
theorem quoIs_ok (n e K : Nat) (v u qv mv : Value) (zs ys ms : List Int) (xs : List Nat) (cs : List (List Int)) (φ : Nat → Nat) (w : World) (hg : IsGrp n zs e) (hv : Sl w v zs) (hu : Sl w u (li xs)) (hq : Sl w qv ys) (hm : Sl w mv ms)
    (hcs : rcs n (fun a b => decide (tm n zs b (iv n zs e a) ∈ xs)) n = cs) (hK : cs.length = K) (hY : IsTab K ys) (hms : ms.length = n) (h1 : ∀ a, a < n → ms[a]?.getD 0 = (φ a : Int)) (h2 : ∀ a, a < n → φ a < K)
    (h3 : ∀ a, a < n → whichI cs a = (φ a : Int)) (h4 : ∀ a b, a < n → b < n → tm K ys (φ a) (φ b) = φ (tm n zs a b)) :
    Calls Tryd.prog 41 #[.agg #[.int .i64 n, v], u, .agg #[.int .i64 K, qv], mv] w fun x w' => x = .returned (.bool true) ∧ Below w.heap.size w w' := by
  have hn := hg.tab.le
  have hKle := hY.le
  have hyl := hY.len
  obtain ⟨va, vl, vc, rfl⟩ := hv.isSlice
  obtain ⟨w0, hw0⟩ : ∃ w0, w0 = (w.alloc (.cells #[.int .i64 n, .slice va vl vc] 24)).alloc (.cells #[.int .i64 K, qv] 24) := ⟨_, rfl⟩
  have hB0 : Below w.heap.size w w0 := by rw [hw0]; exact (balloc w _).alloc (by simp) _
  have hG0 : BoxG w0 w.heap.size n (.slice va vl vc) := by rw [hw0]; exact (blk0 (w := w) (T := 24) _ _).alloc _
  have hQ0 : BoxG w0 (w.heap.size + 1) K qv := by
    have := blk0 (w := w.alloc (.cells #[.int .i64 n, .slice va vl vc] 24)) (T := 24) (.int .i64 K) qv
    rw [World.size_alloc] at this
    rw [hw0]; exact this
  have HRO := hide (rof_ok n e (.slice va vl vc) u zs xs w0 hg (hv.below hB0) (hu.below hB0))
  rw [hcs] at HRO
  have HW := hide (fun W c9 a (h : SlL W c9 cs) => which_ok c9 cs a W h)
  have HMG := hide (fun W a b (h : Below w.heap.size w W) (ha : a < n) (hb : b < n) => M_ok n (.slice va vl vc) zs a b W hg.tab (hv.below h) ha hb)
  have HMQ := hide (fun W a b (h : Below w.heap.size w W) (ha : a < K) (hb : b < K) => M_ok K qv ys a b W hY (hq.below h) ha hb)
  have HTL := hide (fun a b (ha : a < n) (hb : b < n) => tm_lt hg.tab ha hb)
  have H1 := hide h1
  have H2 := hide h2
  have H3 := hide h3
  have H4 := hide h4
  obtain ⟨ma, mc, mb, mo, rfl, hmr, hmb, _, hmm⟩ := hm
  obtain ⟨qa, qc, qb, qo, rfl, hqr, hqb, _, hqm⟩ := hq
  have HMA := hide (fun (h : 0 < n) => hmr.at_ (by omega))
  have HMC := hide (fun a (ha : a < n) => hmr.cell a (by omega))
  rw [hms] at *
  rw [hyl] at *
  clear h1 h2 h3 h4 hmr hqr hmm hqm hcs hyl hms
  have hKK : K * K ≤ 3600 := Nat.mul_le_mul hKle hKle
  have hkk : IntKind.i64.wrap ((K : Int) * (K : Int)) = ((K * K : Nat) : Int) := by
    rw [← Int.natCast_mul, IntKind.wrap_i64]
    omega
  obtain ⟨c0, c1, _, _⟩ := hG0.two
  rw [hw0] at c0 c1
  go_enter Tryd.func41, Tryd.ntmps41
  go_wp2_with fail
  rw [← hw0]
  clear hw0 c0 c1
  refine HRO.out.mono ?_
  rintro x w1 ⟨r, rfl, hr, hb1⟩
  have hB1 := bcat2 hB0 hb1
  have hG1 := blk_below hG0 hb1
  have hQ1 := blk_below hQ0 hb1
  have HR := hide hr
  obtain ⟨ca, cc, cb, co, rfl, _, _, _, _, _⟩ := hr
  rw [hK] at *
  have HK := hide hK
  clear hK
  obtain ⟨g0, g1, _, _⟩ := hG1.two
  obtain ⟨q0, q1, _, _⟩ := hQ1.two
  have hS : ∀ W, Below w1.heap.size w1 W → (Below w1.heap.size w1 W ∧ W.cell? ⟨w.heap.size, 0, none⟩ = some (.int .i64 n) ∧ W.cell? ⟨w.heap.size, 1, none⟩ = some (.slice va vl vc) ∧ W.cell? ⟨w.heap.size + 1, 0, none⟩ = some (.int .i64 K) ∧ W.cell? ⟨w.heap.size + 1, 1, none⟩ = some (.slice qa (K * K) qc)) := fun W h => ⟨h, below_cell h g0, below_cell h g1, below_cell h q0, below_cell h q1⟩
  go_wp2
  go_loopw [10] (fun i wr => ∃ a : Nat, a ≤ n ∧ i = .int .i64 a ∧ Below w1.heap.size w1 wr) (fun i _ => n - (intOf i).toNat)
  case atStart => exact ⟨0, Nat.zero_le _, rfl, Below.refl _ _⟩
  case round =>
    obtain ⟨a, ha, rfl, hB⟩ := hrel
    obtain ⟨_, g0, g1, q0, q1⟩ := hS _ hB
    by_cases hlt : a < n
    · have hai : (a : Int) < (n : Int) := by omega
      obtain rfl := HMA.out (by omega)
      have cm := below_cell (bcat2 hB1 hB) (HMC.out a hlt)
      rw [H1.out a hlt] at cm
      have HWA := hide (fun W (h : Below w1.heap.size w1 W) => HW.out W _ (a : Int) (HR.out.below h))
      rw [H3.out a hlt] at HWA
      have hS0 := hS _ (bdrew hB)
      have hS' : ∀ W, Below wr.heap.size wr W → (Below wr.heap.size wr W ∧ W.cell? ⟨mb, mo + a, none⟩ = some (.int .i64 (φ a : Int))) := fun W h => ⟨h, below_cell h cm⟩
      have hS1 := hS' _ (bdrew (Below.refl _ wr))
      generalize φ a = fa at *
      go_wp2_with fail
      go_region_held3 (fun W => Below wr.heap.size wr W ∧ W.cell? ⟨mb, mo + a, none⟩ = some (.int .i64 (fa : Int)))
        (first | exact hS1 | assumption | exact hS' _ (bcat2 (And.left ‹_›) hl1))
        (first | (go_at_call 76; refine (HWA.out _ (bcat2 hB (And.left ‹_›))).mono ?_; rintro e1 U1 ⟨rfl, hl1⟩))
      all_goals (
        have hB9 := bcat2 hB (And.left ‹Below wr.heap.size wr U1 ∧ _›)
        go_wp2
        go_roundw
        case rel => exact ⟨a + 1, by omega, by go_num, hB9⟩
        case measure => simp [intOf]; omega)
    · have hai : ¬ (a : Int) < (n : Int) := by omega
      clear hlt ha
      obtain ⟨wo, rfl⟩ : ∃ wo, wo = wr := ⟨_, rfl⟩
      go_wp2
      go_loopw [11] (fun i wr => ∃ a : Nat, a ≤ n ∧ i = .int .i64 a ∧ Below w1.heap.size w1 wr) (fun i _ => n - (intOf i).toNat)
      case atStart => exact ⟨0, Nat.zero_le _, rfl, hB⟩
      case round =>
        clear g0 g1 q0 q1 hB
        obtain ⟨a, ha, rfl, hB⟩ := hrel
        obtain ⟨_, g0, g1, q0, q1⟩ := hS _ hB
        by_cases hlt : a < n
        · have hai : (a : Int) < (n : Int) := by omega
          go_wp2
          go_loopw [12] (fun i wr => ∃ b : Nat, b ≤ n ∧ i = .int .i64 b ∧ Below w1.heap.size w1 wr) (fun i _ => n - (intOf i).toNat)
          case atStart => exact ⟨0, Nat.zero_le _, rfl, hB⟩
          case round =>
            clear g0 g1 q0 q1 hB
            obtain ⟨b, hb, rfl, hB⟩ := hrel
            obtain ⟨_, g0, g1, q0, q1⟩ := hS _ hB
            by_cases hltb : b < n
            · have hbi : (b : Int) < (n : Int) := by omega
              obtain rfl := HMA.out (by omega)
              have hab := HTL.out a b hlt hltb
              have hBw := bcat2 hB1 hB
              have cm := below_cell hBw (HMC.out a hlt)
              have cb := below_cell hBw (HMC.out b hltb)
              have cab := below_cell hBw (HMC.out (tm n zs a b) hab)
              rw [H1.out a hlt] at cm
              rw [H1.out b hltb] at cb
              rw [H1.out _ hab] at cab
              have HA := hide (fun W (h : Below w.heap.size w W) => HMG.out W a b h hlt hltb)
              have HQ := hide (fun W (h : Below w.heap.size w W) => HMQ.out W (φ a) (φ b) h (H2.out a hlt) (H2.out b hltb))
              rw [H4.out a b hlt hltb] at HQ
              generalize φ (tm n zs a b) = fab at *
              generalize φ a = fa at *
              generalize φ b = fb at *
              generalize tm n zs a b = d9 at *
              have hdi : (d9 : Int) < (n : Int) := by omega
              have hS' : ∀ W, Below wr.heap.size wr W → (Below wr.heap.size wr W ∧ W.cell? ⟨mb, mo + a, none⟩ = some (.int .i64 (fa : Int)) ∧ W.cell? ⟨mb, mo + b, none⟩ = some (.int .i64 (fb : Int)) ∧ W.cell? ⟨mb, mo + d9, none⟩ = some (.int .i64 (fab : Int)) ∧ W.cell? ⟨w.heap.size, 0, none⟩ = some (.int .i64 n) ∧ W.cell? ⟨w.heap.size, 1, none⟩ = some (.slice va vl vc) ∧ W.cell? ⟨w.heap.size + 1, 0, none⟩ = some (.int .i64 K) ∧ W.cell? ⟨w.heap.size + 1, 1, none⟩ = some (.slice qa (K * K) qc)) := fun W h => ⟨h, below_cell h cm, below_cell h cb, below_cell h cab, below_cell h g0, below_cell h g1, below_cell h q0, below_cell h q1⟩
              have hS1 := hS' _ (bdrew (Below.refl _ wr))
              have hk1 : Hid True := trivial
              go_wp2_with fail
              go_region_held3 (fun W => Below wr.heap.size wr W ∧ W.cell? ⟨mb, mo + a, none⟩ = some (.int .i64 (fa : Int)) ∧ W.cell? ⟨mb, mo + b, none⟩ = some (.int .i64 (fb : Int)) ∧ W.cell? ⟨mb, mo + d9, none⟩ = some (.int .i64 (fab : Int)) ∧ W.cell? ⟨w.heap.size, 0, none⟩ = some (.int .i64 n) ∧ W.cell? ⟨w.heap.size, 1, none⟩ = some (.slice va vl vc) ∧ W.cell? ⟨w.heap.size + 1, 0, none⟩ = some (.int .i64 K) ∧ W.cell? ⟨w.heap.size + 1, 1, none⟩ = some (.slice qa (K * K) qc))
                (first | exact hS1 | assumption | exact hS' _ (bcat2 (And.left ‹_›) hl1))
                (first
                  | (go_at_call 45; clear hk1; refine (HQ.out _ (bcat2 hBw (And.left ‹_›))).mono ?_; rintro e1 U1 ⟨rfl, hl1⟩)
                  | (go_at_call 45; refine (HA.out _ (bcat2 hBw (And.left ‹_›))).mono ?_; rintro e2 U2 ⟨rfl, hl1⟩))
              all_goals (
                have hB9 := bcat2 hB (And.left ‹Below wr.heap.size wr U2 ∧ _›)
                go_wp2
                go_roundw
                case rel => exact ⟨b + 1, by omega, by go_num, hB9⟩
                case measure => simp [intOf]; omega)
            · have hbi : ¬ (b : Int) < (n : Int) := by omega
              go_wp2
              go_roundw
              case rel => exact ⟨a + 1, by omega, by go_num, hB⟩
              case measure => simp [intOf]; omega
        · have hai : ¬ (a : Int) < (n : Int) := by omega
          go_wp2
          go_ret
          exact ⟨rfl, bcat2 hB1 hB⟩
end Go.Proofs.YtodabkjadejekaaDoor
