/- Sums and products of classes, as mathematics: they commute, and group as one likes. No condition. What package class's Times answers. Condition: the library's table of places lies as its text lays it. The law ClassTimes. Condition: the library's table of places lies as its text lays it. The law ClassSums. Condition: the library's table of places lies as its text lays it. The frame that all rows of this family share: how a table that came in reads. The frame that all rows of this family share: what the listed table gives a walk; how a list of ints that came in reads. -/
import Derived.Test.YtobnfbnholbfoaaDoorZ7
import Derived.Test.YtobnfbnholbfoaaDoorRows
import Derived.Test.YtobnfbnholbfoaaDoorZ1
import Derived.ProofKit
import Derived.OpenShut
import Derived.ChangeOld
import Derived.Below
import Derived.SizedLaws
import Derived.LaidMore
import Derived.Stop.Joined
import Derived.Stop.LaidErr
import Derived.Lib.LaidTab
namespace Go.Proofs.YtobnfbnholbfoaaDoor
open Go Go.RowKit Go.Maps

section
variable {n e : Nat} {zs : List Int}
theorem fgr (g : IsGrp n zs e) : Fin.Fg (List.range n) (tm n zs) e := grp_fg g
theorem mulL (g : IsGrp n zs e) {a x : Nat} (ha : a < n) (hx : x < n) : tm n zs a (tm n zs (iv n zs e a) x) = x ∧ tm n zs (iv n zs e a) (tm n zs a x) = x := by
  obtain ⟨hi, h1, h2, _⟩ := iv_spec g ha
  exact ⟨by rw [← g.ass _ _ _ ha hi hx, h1, g.left x hx], by rw [← g.ass _ _ _ hi ha hx, h2, g.left x hx]⟩
theorem iv_mul (g : IsGrp n zs e) {a b x : Nat} (ha : a < n) (hb : b < n) (hx : x < n) : tm n zs (iv n zs e (tm n zs a b)) x = tm n zs (iv n zs e b) (tm n zs (iv n zs e a) x) := by
  have hab := tm_lt g.tab ha hb
  have hia := (iv_spec g ha).1
  have hib := (iv_spec g hb).1
  have hy := tm_lt g.tab hib (tm_lt g.tab hia hx)
  refine grp_cancel g hab (tm_lt g.tab (iv_spec g hab).1 hx) hy ?_
  rw [(mulL g hab hx).1, g.ass _ _ _ ha hb hy, (mulL g hb (tm_lt g.tab hia hx)).1, (mulL g ha hx).1]
theorem num_cj (g : IsGrp n zs e) {x s : Nat} (hx : x < n) (hs : s < n) : num n (clq n zs e) (Fin.cj (tm n zs) (iv n zs e) x s) = num n (clq n zs e) x := by
  have hc : Fin.cj (tm n zs) (iv n zs e) x s < n := List.mem_range.1 (Fin.cj_mem (grp_fg g) (grp_iv g) (List.mem_range.2 hx) (List.mem_range.2 hs))
  exact (clq_parts g).num_in hx hc (clq_iff.2 ⟨s, hs, rfl⟩)
/-- The things that tmk counts. -/
def tml (n : Nat) (zs : List Int) (e i j x : Nat) : List Nat := (List.range n).filter fun a => decide (num n (clq n zs e) a = i) && decide (num n (clq n zs e) (tm n zs (iv n zs e a) x) = j)
theorem mem_tml {i j x a : Nat} : a ∈ tml n zs e i j x ↔ a < n ∧ num n (clq n zs e) a = i ∧ num n (clq n zs e) (tm n zs (iv n zs e a) x) = j := by
  unfold tml
  rw [List.mem_filter, List.mem_range, Bool.and_eq_true, decide_eq_true_eq, decide_eq_true_eq]
theorem tml_nd {i j x : Nat} : (tml n zs e i j x).Nodup := List.nodup_range.filter _
theorem tmk_tml {i j x : Nat} : tmk n zs e i j x n = (tml n zs e i j x).length := rfl
/-- What is counted hangs on the class alone. -/
theorem tmk_cj (g : IsGrp n zs e) {i j x s : Nat} (hx : x < n) (hs : s < n) : tmk n zs e i j (Fin.cj (tm n zs) (iv n zs e) x s) n = tmk n zs e i j x n := by
  have F := grp_fg g
  have V := grp_iv g
  have hx' := List.mem_range.2 hx
  have hs' := List.mem_range.2 hs
  have hi := (iv_spec g hs).1
  have hi' := List.mem_range.2 hi
  have hc := List.mem_range.1 (Fin.cj_mem F V hx' hs')
  have key : ∀ y t, y < n → t < n → ∀ a, a < n → tm n zs (iv n zs e (Fin.cj (tm n zs) (iv n zs e) a t)) (Fin.cj (tm n zs) (iv n zs e) y t) = Fin.cj (tm n zs) (iv n zs e) (tm n zs (iv n zs e a) y) t := fun y t hy ht a ha => by
    have ha' := List.mem_range.2 ha
    have ht' := List.mem_range.2 ht
    have hy' := List.mem_range.2 hy
    have hia := (iv_spec g ha).1
    have hca := List.mem_range.1 (Fin.cj_mem F V ha' ht')
    have hcy := List.mem_range.1 (Fin.cj_mem F V hy' ht')
    have hz := tm_lt g.tab hia hy
    have hcz := List.mem_range.1 (Fin.cj_mem F V (List.mem_range.2 hz) ht')
    refine grp_cancel g hca (tm_lt g.tab (iv_spec g hca).1 hcy) hcz ?_
    rw [(mulL g hca hcy).1, ← Fin.cj_mul F V ha' (List.mem_range.2 hz) ht', (mulL g ha hy).1]
  rw [tmk_tml, tmk_tml]
  symm
  refine Fin.bij_len (fun a => Fin.cj (tm n zs) (iv n zs e) a s) tml_nd tml_nd (fun a ha => ?_) (fun a b ha hb hab => ?_) (fun b hb => ?_)
  · obtain ⟨h1, h2, h3⟩ := mem_tml.1 ha
    have hca := List.mem_range.1 (Fin.cj_mem F V (List.mem_range.2 h1) hs')
    refine mem_tml.2 ⟨hca, by rw [num_cj g h1 hs]; exact h2, ?_⟩
    rw [key x s hx hs a h1, num_cj g (tm_lt g.tab (iv_spec g h1).1 hx) hs]; exact h3
  · have h1 := (mem_tml.1 ha).1
    have h2 := (mem_tml.1 hb).1
    have e1 := (Fin.cj_back F V (List.mem_range.2 h1) hs').1
    have e2 := (Fin.cj_back F V (List.mem_range.2 h2) hs').1
    rw [← e1, ← e2, hab]
  · obtain ⟨h1, h2, h3⟩ := mem_tml.1 hb
    have hcb := List.mem_range.1 (Fin.cj_mem F V (List.mem_range.2 h1) hi')
    refine ⟨Fin.cj (tm n zs) (iv n zs e) b (iv n zs e s), mem_tml.2 ⟨hcb, by rw [num_cj g h1 hi]; exact h2, ?_⟩, (Fin.cj_back F V (List.mem_range.2 h1) hs').2⟩
    have e3 := key (Fin.cj (tm n zs) (iv n zs e) x s) (iv n zs e s) hc hi b h1
    rw [(Fin.cj_back F V hx' hs').1] at e3
    rw [e3, num_cj g (tm_lt g.tab (iv_spec g h1).1 hc) hi]; exact h3
theorem tmk_num (g : IsGrp n zs e) {i j y : Nat} (hy : y < n) : tmk n zs e i j y n = tmk n zs e i j (lda n (clq n zs e) (num n (clq n zs e) y)) n := by
  have h := clq_parts g
  obtain ⟨h1, h2, _, _⟩ := lda_num h (num_rcs h hy)
  obtain ⟨s, hs, h3⟩ := clq_iff.1 ((cls_num h (num_rcs h hy) hy).1 rfl)
  rw [← h3, tmk_cj g h1 hs, h3]
/-- Products of classes are the same either way. -/
theorem tmk_comm (g : IsGrp n zs e) {i j x : Nat} (hx : x < n) : tmk n zs e i j x n = tmk n zs e j i x n := by
  have F := grp_fg g
  have V := grp_iv g
  rw [tmk_tml, tmk_tml]
  have half : ∀ i j, (tml n zs e i j x).length ≤ (tml n zs e j i x).length := fun i j => by
    have hmap : ((tml n zs e i j x).map fun a => Fin.cj (tm n zs) (iv n zs e) (tm n zs (iv n zs e a) x) (iv n zs e a)).Nodup := by
      refine map_nodup tml_nd fun a b ha hb hab => ?_
      obtain ⟨a1, _, _⟩ := mem_tml.1 ha
      obtain ⟨b1, _, _⟩ := mem_tml.1 hb
      have ea : ∀ a, a < n → Fin.cj (tm n zs) (iv n zs e) (tm n zs (iv n zs e a) x) (iv n zs e a) = tm n zs x (iv n zs e a) := fun a a1 => by
        have ia := (iv_spec g a1).1
        refine Fin.cj_unique F V (List.mem_range.2 (tm_lt g.tab ia hx)) (List.mem_range.2 (tm_lt g.tab hx ia)) (List.mem_range.2 ia) ?_
        rw [← g.ass _ _ _ ia hx ia]
      rw [ea a a1, ea b b1] at hab
      have e2 := grp_cancel g hx (iv_spec g a1).1 (iv_spec g b1).1 hab
      have e3 := (iv_spec g a1).2.1
      rw [e2] at e3
      exact grp_cancel_right g (iv_spec g b1).1 a1 b1 (e3.trans (iv_spec g b1).2.1.symm)
    have h2 := nodup_len _ (tml n zs e j i x) hmap (fun z hz => by
      obtain ⟨a, ha, rfl⟩ := List.mem_map.1 hz
      obtain ⟨a1, a2, a3⟩ := mem_tml.1 ha
      have ia := (iv_spec g a1).1
      have hb := tm_lt g.tab ia hx
      have ea : Fin.cj (tm n zs) (iv n zs e) (tm n zs (iv n zs e a) x) (iv n zs e a) = tm n zs x (iv n zs e a) := by
        refine Fin.cj_unique F V (List.mem_range.2 hb) (List.mem_range.2 (tm_lt g.tab hx ia)) (List.mem_range.2 ia) ?_
        rw [← g.ass _ _ _ ia hx ia]
      have hxa := tm_lt g.tab hx ia
      refine mem_tml.2 ⟨by rw [ea]; exact hxa, by rw [num_cj g hb ia]; exact a3, ?_⟩
      rw [ea]
      have e4 : tm n zs (iv n zs e (tm n zs x (iv n zs e a))) x = a := by
        refine grp_cancel g hxa (tm_lt g.tab (iv_spec g hxa).1 hx) a1 ?_
        rw [(mulL g hxa hx).1, g.ass _ _ _ hx ia a1, (iv_spec g a1).2.2.1, g.right x hx]
      rw [e4]; exact a2)
    rwa [List.length_map] at h2
  exact Nat.le_antisymm (half i j) (half j i)
/-- A sum over the numbers below n. -/
def sm (n : Nat) (F : Nat → Nat) : Nat := ((List.range n).map F).sum
theorem sm_succ (k : Nat) (F : Nat → Nat) : sm (k + 1) F = sm k F + F k := by
  unfold sm
  rw [List.range_succ, List.map_append, List.sum_append]
  simp
theorem sm_congr {k : Nat} {F G : Nat → Nat} (h : ∀ a, a < k → F a = G a) : sm k F = sm k G := by
  unfold sm
  rw [List.map_congr_left fun a ha => h a (List.mem_range.1 ha)]
theorem sm_zero (k : Nat) : sm k (fun _ => 0) = 0 := by
  induction k with
  | zero => rfl
  | succ k ih => rw [sm_succ, ih]
theorem sm_add (k : Nat) (F G : Nat → Nat) : sm k (fun a => F a + G a) = sm k F + sm k G := by
  induction k with
  | zero => rfl
  | succ k ih => rw [sm_succ, sm_succ, sm_succ, ih]; omega
theorem sm_swap (k l : Nat) (F : Nat → Nat → Nat) : sm k (fun a => sm l (fun b => F a b)) = sm l (fun b => sm k (fun a => F a b)) := by
  induction k with
  | zero => exact (sm_zero l).symm
  | succ k ih =>
    rw [sm_succ, ih, ← sm_add]
    exact sm_congr fun b _ => (sm_succ k _).symm
theorem sm_mul (k c : Nat) (F : Nat → Nat) : c * sm k F = sm k (fun a => c * F a) := by
  induction k with
  | zero => rfl
  | succ k ih => rw [sm_succ, sm_succ, Nat.mul_add, ih]
theorem sm_one {k d : Nat} (F : Nat → Nat) (hd : d < k) : sm k (fun c => if c = d then F c else 0) = F d := by
  induction k with
  | zero => omega
  | succ k ih =>
    rw [sm_succ]
    by_cases e : k = d
    · subst e
      rw [if_pos rfl, sm_congr (G := fun _ => 0) (fun a ha => if_neg (by omega)), sm_zero, Nat.zero_add]
    · rw [if_neg e, ih (by omega), Nat.add_zero]
theorem len_sm (k : Nat) (p : Nat → Bool) : ((List.range k).filter p).length = sm k (fun a => if p a then 1 else 0) := (sum_ite (List.range k) p).symm
/-- A sum over classes is one over things. -/
theorem cls_sm {k m : Nat} (f G : Nat → Nat) (P : Nat → Bool) (hg : ∀ u, u < k → G u < m) : sm m (fun c => f c * ((List.range k).filter fun u => decide (G u = c) && P u).length) = sm k (fun u => if P u then f (G u) else 0) := by
  have h1 : sm m (fun c => f c * ((List.range k).filter fun u => decide (G u = c) && P u).length) = sm m (fun c => sm k (fun u => f c * if decide (G u = c) && P u then 1 else 0)) := sm_congr fun c _ => by rw [len_sm, sm_mul]
  rw [h1, sm_swap]
  refine sm_congr fun u hu => ?_
  cases hP : P u with
  | false =>
    rw [sm_congr (G := fun _ => 0) (fun c _ => by simp), sm_zero]
    simp
  | true =>
    rw [sm_congr (G := fun c => if c = G u then f c else 0) (fun c _ => by
      by_cases h : G u = c
      · simp [h]
      · have h2 : ¬ c = G u := fun h9 => h h9.symm
        simp [h, h2]), sm_one f (hg u hu)]
    simp
/-- The things of class j, moved from the left. -/
theorem left_len (g : IsGrp n zs e) {a : Nat} (ha : a < n) (P : Nat → Bool) : ((List.range n).filter fun u => P (tm n zs (iv n zs e a) u)).length = ((List.range n).filter P).length := by
  have ia := (iv_spec g ha).1
  refine Fin.bij_len (fun u => tm n zs (iv n zs e a) u) (List.nodup_range.filter _) (List.nodup_range.filter _) (fun u hu => ?_) (fun u w hu hw h => ?_) (fun b hb => ?_)
  · rw [List.mem_filter, List.mem_range] at hu
    rw [List.mem_filter, List.mem_range]
    exact ⟨tm_lt g.tab ia hu.1, hu.2⟩
  · rw [List.mem_filter, List.mem_range] at hu hw
    exact grp_cancel g ia hu.1 hw.1 h
  · rw [List.mem_filter, List.mem_range] at hb
    refine ⟨tm n zs a b, ?_, (mulL g ha hb.1).2⟩
    rw [List.mem_filter, List.mem_range, (mulL g ha hb.1).2]
    exact ⟨tm_lt g.tab ha hb.1, hb.2⟩
theorem cls_len (g : IsGrp n zs e) {c : Nat} (hc : c < (rcs n (clq n zs e) n).length) : (lst n (clq n zs e (lda n (clq n zs e) c))).length = ((List.range n).filter fun u => decide (num n (clq n zs e) u = c)).length := by
  unfold lst
  refine congrArg List.length (List.filter_congr fun u hu => ?_)
  rw [Bool.eq_iff_iff, decide_eq_true_eq]
  exact (cls_num (clq_parts g) hc (List.mem_range.1 hu)).symm
/-- All ways are as many as pairs of things. -/
theorem tmk_sum (g : IsGrp n zs e) {i j : Nat} (hi : i < (rcs n (clq n zs e) n).length) (hj : j < (rcs n (clq n zs e) n).length) : sm (rcs n (clq n zs e) n).length (fun c => tmk n zs e i j (lda n (clq n zs e) c) n * (lst n (clq n zs e (lda n (clq n zs e) c))).length) = (lst n (clq n zs e (lda n (clq n zs e) i))).length * (lst n (clq n zs e (lda n (clq n zs e) j))).length := by
  have h := clq_parts g
  have h1 : sm (rcs n (clq n zs e) n).length (fun c => tmk n zs e i j (lda n (clq n zs e) c) n * (lst n (clq n zs e (lda n (clq n zs e) c))).length) = sm (rcs n (clq n zs e) n).length (fun c => tmk n zs e i j (lda n (clq n zs e) c) n * ((List.range n).filter fun u => decide (num n (clq n zs e) u = c) && true).length) := sm_congr fun c hc => by
    rw [cls_len g hc]
    simp
  rw [h1, cls_sm (fun c => tmk n zs e i j (lda n (clq n zs e) c) n) (num n (clq n zs e)) (fun _ => true) (fun u hu => num_rcs h hu)]
  have h2 : sm n (fun u => if true = true then tmk n zs e i j (lda n (clq n zs e) (num n (clq n zs e) u)) n else 0) = sm n (fun u => sm n (fun a => if decide (num n (clq n zs e) a = i) && decide (num n (clq n zs e) (tm n zs (iv n zs e a) u) = j) then 1 else 0)) := sm_congr fun u hu => by
    rw [if_pos rfl, ← tmk_num g hu]
    exact len_sm n _
  rw [h2, sm_swap, cls_len g hi, cls_len g hj, Nat.mul_comm, len_sm n (fun u => decide (num n (clq n zs e) u = i)), sm_mul]
  refine sm_congr fun a ha => ?_
  have h3 := left_len g ha (fun u => decide (num n (clq n zs e) u = j))
  by_cases hc : num n (clq n zs e) a = i
  · rw [decide_eq_true hc, if_pos rfl, Nat.mul_one, ← h3, len_sm]
    exact sm_congr fun u _ => by simp
  · rw [decide_eq_false hc]
    rw [sm_congr (G := fun _ => 0) (fun u _ => by simp), sm_zero]
    simp
/-- Products of classes group as one likes. -/
theorem tmk_ass (g : IsGrp n zs e) {i j k x : Nat} (hx : x < n) : sm (rcs n (clq n zs e) n).length (fun c => tmk n zs e i j (lda n (clq n zs e) c) n * tmk n zs e c k x n) = sm (rcs n (clq n zs e) n).length (fun c => tmk n zs e j k (lda n (clq n zs e) c) n * tmk n zs e i c x n) := by
  have h := clq_parts g
  have hL : sm (rcs n (clq n zs e) n).length (fun c => tmk n zs e i j (lda n (clq n zs e) c) n * tmk n zs e c k x n) = sm n (fun u => if decide (num n (clq n zs e) (tm n zs (iv n zs e u) x) = k) then tmk n zs e i j (lda n (clq n zs e) (num n (clq n zs e) u)) n else 0) := cls_sm (fun c => tmk n zs e i j (lda n (clq n zs e) c) n) (num n (clq n zs e)) (fun u => decide (num n (clq n zs e) (tm n zs (iv n zs e u) x) = k)) (fun u hu => num_rcs h hu)
  have hR : sm (rcs n (clq n zs e) n).length (fun c => tmk n zs e j k (lda n (clq n zs e) c) n * tmk n zs e i c x n) = sm n (fun a => if decide (num n (clq n zs e) a = i) then tmk n zs e j k (lda n (clq n zs e) (num n (clq n zs e) (tm n zs (iv n zs e a) x))) n else 0) := by
    rw [← cls_sm (m := (rcs n (clq n zs e) n).length) (fun c => tmk n zs e j k (lda n (clq n zs e) c) n) (fun a => num n (clq n zs e) (tm n zs (iv n zs e a) x)) (fun a => decide (num n (clq n zs e) a = i)) (fun u hu => num_rcs h (tm_lt g.tab (iv_spec g hu).1 hx))]
    refine sm_congr fun c _ => ?_
    congr 1
    unfold tmk
    refine congrArg List.length (List.filter_congr fun a _ => ?_)
    rw [Bool.and_comm]
  rw [hL, hR]
  have h1 : sm n (fun u => if decide (num n (clq n zs e) (tm n zs (iv n zs e u) x) = k) then tmk n zs e i j (lda n (clq n zs e) (num n (clq n zs e) u)) n else 0) = sm n (fun u => sm n (fun a => if decide (num n (clq n zs e) a = i) && (decide (num n (clq n zs e) (tm n zs (iv n zs e a) u) = j) && decide (num n (clq n zs e) (tm n zs (iv n zs e u) x) = k)) then 1 else 0)) := sm_congr fun u hu => by
    rw [← tmk_num g hu]
    by_cases hc : num n (clq n zs e) (tm n zs (iv n zs e u) x) = k
    · rw [if_pos (decide_eq_true hc)]
      unfold tmk
      rw [len_sm]
      exact sm_congr fun a _ => by rw [decide_eq_true hc, Bool.and_true]
    · rw [if_neg (fun h9 => hc (of_decide_eq_true h9))]
      rw [sm_congr (G := fun _ => 0) (fun a _ => by rw [decide_eq_false hc]; simp), sm_zero]
  rw [h1, sm_swap]
  refine sm_congr fun a ha => ?_
  have ia := (iv_spec g ha).1
  have hax := tm_lt g.tab ia hx
  by_cases hc : num n (clq n zs e) a = i
  · rw [if_pos (decide_eq_true hc), ← tmk_num g hax]
    unfold tmk
    rw [← left_len g ha (fun b => decide (num n (clq n zs e) b = j) && decide (num n (clq n zs e) (tm n zs (iv n zs e b) (tm n zs (iv n zs e a) x)) = k)), len_sm]
    refine sm_congr fun u hu => ?_
    have e1 : tm n zs (iv n zs e (tm n zs (iv n zs e a) u)) (tm n zs (iv n zs e a) x) = tm n zs (iv n zs e u) x := by
      have hau := tm_lt g.tab ia hu
      have e2 := iv_mul g ha hau hx
      rw [(mulL g ha hu).1] at e2
      exact e2.symm
    rw [e1, decide_eq_true hc, Bool.true_and]
  · rw [if_neg (fun h9 => hc (of_decide_eq_true h9))]
    rw [sm_congr (G := fun _ => 0) (fun u _ => by rw [decide_eq_false hc]; simp), sm_zero]
end
end Go.Proofs.YtobnfbnholbfoaaDoor

namespace Go.Proofs.YtobnfbnholbfoaaDoor
open Go Go.RowKit Go.Maps

set_option maxRecDepth 100000 in
set_option maxHeartbeats 4000000 in
theorem tim_bad (N : Int) (v : Value) (zs : List Int) (w : World) (hv : Sl w v zs) (hc : (gfault N zs).1 ≠ 0) :
    Calls Tryd.prog 17 #[.agg #[.int .i64 N, v]] w fun x w' => x = .returned (.tuple #[.slice none 0 0, .agg #[.int .i64 (gfault N zs).1, .int .i64 (gfault N zs).2]]) ∧ Below w.heap.size w w' := by
  obtain ⟨w0, BG⟩ := Beg.new w N v
  have HCK := hide (kop_bad N v zs w0 (hv.below BG.bel) hc)
  obtain ⟨c0, c1, _, _⟩ := BG.box.two
  have hcb : ((gfault N zs).1 != 0) = true := by simpa using hc
  generalize (gfault N zs).1 = c at *
  generalize (gfault N zs).2 = i at *
  rw [BG.eq] at c0 c1
  go_enter Tryd.func17, Tryd.ntmps17
  go_wp2_with fail
  rw [← BG.eq]
  refine HCK.out.mono ?_
  rintro x w1 ⟨rfl, hb1⟩
  clear c0 c1
  obtain ⟨w2, hw2⟩ : ∃ w2, w2 = (w1.alloc (.cells #[.int .i64 0, .slice none 0 0, .int .i64 0, .slice none 0 0, .slice none 0 0, .slice none 0 0] 65)).alloc (.cells #[.int .i64 c, .int .i64 i] 27) := ⟨_, rfl⟩
  have hB1 : Below w0.heap.size w0 w2 := by rw [hw2]; exact bcat2 hb1 ((balloc w1 _).alloc (by simp) _)
  have hF1 : Blk w2 (w1.heap.size + 1) 27 [.int .i64 c, .int .i64 i] := by
    rw [hw2]
    have := blk0 (w := w1.alloc (.cells #[.int .i64 0, .slice none 0 0, .int .i64 0, .slice none 0 0, .slice none 0 0, .slice none 0 0] 65)) (T := 27) (.int .i64 c) (.int .i64 i)
    rwa [World.size_alloc] at this
  have hR1 := blk_below BG.res hB1
  have hBw := bcat BG.bel hB1 BG.bel.size
  obtain ⟨y0, y1, fy0, fy1⟩ := hR1.two
  obtain ⟨t0, t1, _, _⟩ := hF1.two
  rw [hw2] at t0 t1
  go_wp2_with fail
  rw [← hw2]
  rw [← hw2] at t0 t1
  clear hw2
  go_region
  all_goals (
    go_wp2
    obtain ⟨hR6, hB6⟩ := put2 hR1 hBw (by omega) c i
    have hB7 := bdrew hB6
    have hR7 : Blk ((w2.setCell ⟨w.heap.size + 1, 0, none⟩ (.int .i64 c)).setCell ⟨w.heap.size + 1, 1, none⟩ (.int .i64 i)).drew (w.heap.size + 1) 27 [.int .i64 c, .int .i64 i] := hR6
    generalize ((w2.setCell ⟨w.heap.size + 1, 0, none⟩ (.int .i64 c)).setCell ⟨w.heap.size + 1, 1, none⟩ (.int .i64 i)).drew = W at hR7 hB7 ⊢
    obtain ⟨z0, z1, _, _⟩ := hR7.two
    exact bodyPost_ret (v := .tuple #[.slice none 0 0, .agg #[.int .i64 c, .int .i64 i]]) (by simp [results, Tryd.results17, go_sem, z0, z1]) rfl ⟨rfl, hB7⟩)
set_option maxRecDepth 100000 in
set_option maxHeartbeats 4000000 in
theorem tim_many (n e : Nat) (v : Value) (zs : List Int) (w : World) (hv : Sl w v zs) (hg : IsGrp n zs e) (hT : Tab w) (hmany : 24 < (rcs n (clq n zs e) n).length) :
    Calls Tryd.prog 17 #[.agg #[.int .i64 n, v]] w fun x w' => x = .returned (.tuple #[.slice none 0 0, .agg #[.int .i64 2, .int .i64 0]]) ∧ Below w.heap.size w w' := by
  obtain ⟨va, vl, vc, rfl⟩ := hv.isSlice
  obtain ⟨w0, BG⟩ := Beg.new w n (.slice va vl vc)
  have HCK := hide (kop_good n e (.slice va vl vc) zs w0 (hv.below BG.bel) hg (hT.below BG.bel))
  obtain ⟨c0, c1, _, _⟩ := BG.box.two
  have hz0 : w.heap.size + 1 < w0.heap.size := BG.res.lt
  rw [BG.eq] at c0 c1
  go_enter Tryd.func17, Tryd.ntmps17
  go_wp2_with fail
  rw [← BG.eq]
  refine HCK.out.mono ?_
  rintro x w1 ⟨u, cv, nv, vs, rfl, hu, hrow, hls, hnv, hb1⟩
  obtain ⟨ia, il, ic, rfl⟩ := hu.isSlice
  obtain ⟨na, nl, nc, rfl⟩ := hnv.isSlice
  have h01 : 0 < w1.heap.size := Nat.lt_of_lt_of_le (hT.below BG.bel).lt hb1.size
  have hL := SlL.of_own hrow hls h01
  obtain ⟨la, ll, lc, rfl⟩ := hL.isSlice
  clear c0 c1 hrow hls
  obtain ⟨w2, hw2⟩ : ∃ w2, w2 = (w1.alloc (.cells #[.int .i64 n, .slice va vl vc, .int .i64 e, .slice ia il ic, .slice la ll lc, .slice na nl nc] 65)).alloc (.cells #[.int .i64 0, .int .i64 0] 27) := ⟨_, rfl⟩
  have hb2 : Below w1.heap.size w1 w2 := by rw [hw2]; exact (balloc w1 _).alloc (by simp) _
  have hB1 : Below w0.heap.size w0 w2 := bcat2 hb1 hb2
  have hF1 : Blk w2 (w1.heap.size + 1) 27 [.int .i64 0, .int .i64 0] := by
    rw [hw2]
    have := blk0 (w := w1.alloc (.cells #[.int .i64 n, .slice va vl vc, .int .i64 e, .slice ia il ic, .slice la ll lc, .slice na nl nc] 65)) (T := 27) (.int .i64 0) (.int .i64 0)
    rwa [World.size_alloc] at this
  have hO1 : Blk w2 w1.heap.size 65 [.int .i64 n, .slice va vl vc, .int .i64 e, .slice ia il ic, .slice la ll lc, .slice na nl nc] := by
    rw [hw2]
    have h : Blk (w1.alloc (.cells #[.int .i64 n, .slice va vl vc, .int .i64 e, .slice ia il ic, .slice la ll lc, .slice na nl nc] 65)) _ 65 [.int .i64 n, .slice va vl vc, .int .i64 e, .slice ia il ic, .slice la ll lc, .slice na nl nc] := World.alloc_heap_new _ _
    exact h.alloc _
  have hR1 := blk_below BG.res hB1
  have hBw := bcat BG.bel hB1 BG.bel.size
  have hL2 := hL.below hb2
  have hnv2 := hnv.below hb2
  have hu2 := hu.below hb2
  obtain ⟨_, y0, y1, fy0, fy1, s0, s1⟩ := Two.mk' hR1
  obtain ⟨t0, t1, _, _⟩ := hF1.two
  obtain ⟨_, o0, o1, o2, o3, o4, o5, _⟩ := Six.mk' hO1
  have hrl := rcs_len n (clq n zs e) n
  have hn := hg.tab.le
  obtain ⟨_, _, _, _, hle, _⟩ := hL2
  injection hle with e1 e2 e3
  subst e1 e2 e3
  clear hL
  generalize hrn : (rcs n (clq n zs e) n).length = rn at *
  have hmi : (24 : Int) < (rn : Int) := by omega
  obtain ⟨hR6, hB6⟩ := put2 hR1 hBw (by omega) 2 0
  rw [hw2] at t0 t1 o4 y0 y1 fy0 fy1 s0 s1
  go_wp2
  rw [← hw2]
  clear hw2
  generalize (w2.setCell ⟨w.heap.size + 1, 0, none⟩ (.int .i64 2)).setCell ⟨w.heap.size + 1, 1, none⟩ (.int .i64 0) = W at hR6 hB6 ⊢
  obtain ⟨z0, z1, _, _⟩ := hR6.two
  exact bodyPost_ret (v := .tuple #[.slice none 0 0, .agg #[.int .i64 2, .int .i64 0]]) (by simp [results, Tryd.results17, go_sem, z0, z1]) rfl ⟨rfl, hB6⟩
set_option maxRecDepth 100000 in
set_option maxHeartbeats 4000000 in
theorem tim_good (n e : Nat) (v : Value) (zs : List Int) (w : World) (hv : Sl w v zs) (hg : IsGrp n zs e) (hT : Tab w) (hfew : (rcs n (clq n zs e) n).length ≤ 24) :
    Calls Tryd.prog 17 #[.agg #[.int .i64 n, v]] w fun x w' => ∃ S, x = .returned (.tuple #[.slice (some ⟨S, 0, none⟩) (rcs n (clq n zs e) n).length (rcs n (clq n zs e) n).length, .agg #[.int .i64 0, .int .i64 0]]) ∧ Cub w' S (rcs n (clq n zs e) n).length (fun i j k => (tmk n zs e i j (lda n (clq n zs e) k) n : Nat)) ∧ Below w.heap.size w w' := by
  obtain ⟨va, vl, vc, rfl⟩ := hv.isSlice
  obtain ⟨w0, BG⟩ := Beg.new w n (.slice va vl vc)
  have HCK := hide (kop_good n e (.slice va vl vc) zs w0 (hv.below BG.bel) hg (hT.below BG.bel))
  obtain ⟨c0, c1, _, _⟩ := BG.box.two
  have hz0 : w.heap.size + 1 < w0.heap.size := BG.res.lt
  rw [BG.eq] at c0 c1
  go_enter Tryd.func17, Tryd.ntmps17
  go_wp2_with fail
  rw [← BG.eq]
  refine HCK.out.mono ?_
  rintro x w1 ⟨u, cv, nv, vs, rfl, hu, hrow, hls, hnv, hb1⟩
  obtain ⟨ia, il, ic, rfl⟩ := hu.isSlice
  obtain ⟨na, nl, nc, rfl⟩ := hnv.isSlice
  have h01 : 0 < w1.heap.size := Nat.lt_of_lt_of_le (hT.below BG.bel).lt hb1.size
  have hL := SlL.of_own hrow hls h01
  obtain ⟨la, ll, lc, rfl⟩ := hL.isSlice
  clear c0 c1 hrow hls
  obtain ⟨w2, hw2⟩ : ∃ w2, w2 = (w1.alloc (.cells #[.int .i64 n, .slice va vl vc, .int .i64 e, .slice ia il ic, .slice la ll lc, .slice na nl nc] 65)).alloc (.cells #[.int .i64 0, .int .i64 0] 27) := ⟨_, rfl⟩
  have hb2 : Below w1.heap.size w1 w2 := by rw [hw2]; exact (balloc w1 _).alloc (by simp) _
  have hB1 : Below w0.heap.size w0 w2 := bcat2 hb1 hb2
  have hF1 : Blk w2 (w1.heap.size + 1) 27 [.int .i64 0, .int .i64 0] := by
    rw [hw2]
    have := blk0 (w := w1.alloc (.cells #[.int .i64 n, .slice va vl vc, .int .i64 e, .slice ia il ic, .slice la ll lc, .slice na nl nc] 65)) (T := 27) (.int .i64 0) (.int .i64 0)
    rwa [World.size_alloc] at this
  have hO1 : Blk w2 w1.heap.size 65 [.int .i64 n, .slice va vl vc, .int .i64 e, .slice ia il ic, .slice la ll lc, .slice na nl nc] := by
    rw [hw2]
    have h : Blk (w1.alloc (.cells #[.int .i64 n, .slice va vl vc, .int .i64 e, .slice ia il ic, .slice la ll lc, .slice na nl nc] 65)) _ 65 [.int .i64 n, .slice va vl vc, .int .i64 e, .slice ia il ic, .slice la ll lc, .slice na nl nc] := World.alloc_heap_new _ _
    exact h.alloc _
  have hR1 := blk_below BG.res hB1
  have hBw := bcat BG.bel hB1 BG.bel.size
  have hL2 := hL.below hb2
  have hnv2 := hnv.below hb2
  have hu2 := hu.below hb2
  obtain ⟨_, y0, y1, fy0, fy1, s0, s1⟩ := Two.mk' hR1
  obtain ⟨t0, t1, _, _⟩ := hF1.two
  obtain ⟨_, o0, o1, o2, o3, o4, o5, _⟩ := Six.mk' hO1
  have hrl := rcs_len n (clq n zs e) n
  have hn := hg.tab.le
  have HTM := hide (tms_ok n e (.slice va vl vc) (.slice ia il ic) (.slice la ll lc) (.slice na nl nc) zs w2 hg (hv.below hBw) hu2 hL2 hnv2)
  obtain ⟨_, _, _, _, hle, _⟩ := hL2
  injection hle with e1 e2 e3
  subst e1 e2 e3
  clear hL
  generalize hrn : (rcs n (clq n zs e) n).length = rn at *
  have hmi : ¬ (24 : Int) < (rn : Int) := by omega
  rw [hw2] at t0 t1 o0 o1 o2 o3 o4 o5
  go_wp2_with fail
  rw [← hw2]
  clear hw2 t0 t1 o0 o1 o2 o3 o4 o5
  refine HTM.out.mono ?_
  rintro x w3 ⟨S, rfl, hC, hb3⟩
  obtain ⟨_, y0, y1, fy0, fy1, s0, s1⟩ := Two.mk' (blk_below hR1 hb3)
  go_wp2
  exact bodyPost_ret (v := .tuple #[.slice (some ⟨S, 0, none⟩) rn rn, .agg #[.int .i64 0, .int .i64 0]]) (by simp [results, Tryd.results17, go_sem, y0, y1]) rfl ⟨S, by rw [hrn], by rw [hrn]; exact hC, bcat2 hBw hb3⟩
end Go.Proofs.YtobnfbnholbfoaaDoor

namespace Go.Proofs.YtobnfbnholbfoaaDoor
open Go Go.RowKit Go.Maps

set_option maxRecDepth 100000 in
set_option maxHeartbeats 4000000 in
theorem cltim_bad (N : Int) (v : Value) (zs : List Int) (w : World) (hv : Sl w v zs) (hT : Tab w) (hb8 : zs.length * 8 ≤ 140737488355328) (hc : (gfault N zs).1 ≠ 0) :
    Calls Tryd.prog 4 #[.agg #[.int .i64 N, v]] w fun x w' => x = .returned (.bool true) ∧ Below w.heap.size w w' := by
  have hB0 : Below w.heap.size w (w.alloc (.cells #[.int .i64 N, v] 24)) := balloc w _
  have hX0 : BoxG (w.alloc (.cells #[.int .i64 N, v] 24)) w.heap.size N v := blk0 _ _
  obtain ⟨w0, hw0⟩ : ∃ w0, w0 = w.alloc (.cells #[.int .i64 N, v] 24) := ⟨_, rfl⟩
  rw [← hw0] at hB0 hX0
  obtain ⟨c0, c1, _, _⟩ := hX0.two
  rw [hw0] at c0 c1
  go_enter Tryd.func4, Tryd.ntmps4
  go_wp2_with fail
  rw [← hw0]
  clear hw0 c0 c1
  refine (ownGroup_any N v zs w0 (hv.below hB0) hb8).mono ?_
  rintro x w1 ⟨u, rfl, hu, hb1⟩
  have hT1 := hT.below (bcat2 hB0 hb1)
  go_wp2_with fail
  refine (tim_bad N u zs w1 hu hc).mono ?_
  rintro x w2 ⟨rfl, hb2⟩
  have HGF := hide (fun W (h : Below w.heap.size w W) => groupFault_any N v zs W (hv.below h))
  have hcb : ((gfault N zs).1 != 0) = true := by simpa using hc
  have hc0 : ¬ (gfault N zs).1 = 0 := hc
  generalize (gfault N zs).1 = c at *
  generalize (gfault N zs).2 = i at *
  have hb3 := balloc w2 (.cells #[.int .i64 c, .int .i64 i] 27)
  have hF3 := blk0 (w := w2) (T := 27) (.int .i64 c) (.int .i64 i)
  have hB3 := bcat2 (bcat2 (bcat2 hB0 hb1) hb2) hb3
  have hX3 := blk_below hX0 (bcat2 (bcat2 hb1 hb2) hb3)
  obtain ⟨c0, c1, _, _⟩ := hX3.two
  obtain ⟨t0, t1, _, _⟩ := hF3.two
  go_wp2_with fail
  generalize w2.alloc (.cells #[.int .i64 c, .int .i64 i] 27) = w3 at *
  clear c0 c1 t0 t1
  refine (HGF.out _ hB3).mono ?_
  rintro x w4 ⟨rfl, hb4⟩
  have hb5 := balloc w4 (.cells #[.int .i64 c, .int .i64 i] 27)
  have hF5 := blk0 (w := w4) (T := 27) (.int .i64 c) (.int .i64 i)
  have hB5 := bcat2 (bcat2 hB3 hb4) hb5
  have hX5 := blk_below hX3 (bcat2 hb4 hb5)
  have hG5 := blk_below hF3 (bcat2 hb4 hb5)
  obtain ⟨s0, s1, s2, s3⟩ := hF5.two
  obtain ⟨c0, c1, _, _⟩ := hX5.two
  go_wp2_with fail
  generalize w4.alloc (.cells #[.int .i64 c, .int .i64 i] 27) = w5 at *
  clear s0 s1 s2 s3 c0 c1
  refine (classBegun_any w5 (hT.below hB5)).mono ?_
  rintro x w6 ⟨rfl, hb6⟩
  obtain ⟨s0, s1, _, _⟩ := (blk_below hF5 hb6).two
  obtain ⟨t0, t1, _, _⟩ := (blk_below hG5 hb6).two
  go_wp2
  go_ret
  exact ⟨rfl, bcat2 hB5 hb6⟩
set_option maxRecDepth 100000 in
set_option maxHeartbeats 4000000 in
theorem cltim_many (n e : Nat) (v : Value) (zs : List Int) (w : World) (hv : Sl w v zs) (hT : Tab w) (hb8 : zs.length * 8 ≤ 140737488355328) (hg : IsGrp n zs e) (hmany : 24 < (rcs n (clq n zs e) n).length) :
    Calls Tryd.prog 4 #[.agg #[.int .i64 n, v]] w fun x w' => x = .returned (.bool true) ∧ Below w.heap.size w w' := by
  have hB0 : Below w.heap.size w (w.alloc (.cells #[.int .i64 n, v] 24)) := balloc w _
  have hX0 : BoxG (w.alloc (.cells #[.int .i64 n, v] 24)) w.heap.size n v := blk0 _ _
  obtain ⟨w0, hw0⟩ : ∃ w0, w0 = w.alloc (.cells #[.int .i64 n, v] 24) := ⟨_, rfl⟩
  rw [← hw0] at hB0 hX0
  obtain ⟨c0, c1, _, _⟩ := hX0.two
  rw [hw0] at c0 c1
  go_enter Tryd.func4, Tryd.ntmps4
  go_wp2_with fail
  rw [← hw0]
  clear hw0 c0 c1
  refine (ownGroup_any n v zs w0 (hv.below hB0) hb8).mono ?_
  rintro x w1 ⟨u, rfl, hu, hb1⟩
  have hT1 := hT.below (bcat2 hB0 hb1)
  go_wp2_with fail
  refine (tim_many n e u zs w1 hu hg hT1 hmany).mono ?_
  rintro x w2 ⟨rfl, hb2⟩
  have HGF := hide (fun W (h : Below w.heap.size w W) => groupFault_any n v zs W (hv.below h))
  rw [grp_fault hg] at HGF
  simp only at HGF
  have hb3 := balloc w2 (.cells #[.int .i64 2, .int .i64 0] 27)
  have hF3 := blk0 (w := w2) (T := 27) (.int .i64 2) (.int .i64 0)
  have hB3 := bcat2 (bcat2 (bcat2 hB0 hb1) hb2) hb3
  have hX3 := blk_below hX0 (bcat2 (bcat2 hb1 hb2) hb3)
  obtain ⟨c0, c1, _, _⟩ := hX3.two
  obtain ⟨t0, t1, _, _⟩ := hF3.two
  go_wp2_with fail
  generalize w2.alloc (.cells #[.int .i64 2, .int .i64 0] 27) = w3 at *
  clear c0 c1 t0 t1
  refine (HGF.out _ hB3).mono ?_
  rintro x w4 ⟨rfl, hb4⟩
  have hb5 := balloc w4 (.cells #[.int .i64 0, .int .i64 0] 27)
  have hF5 := blk0 (w := w4) (T := 27) (.int .i64 0) (.int .i64 0)
  have hB5 := bcat2 (bcat2 hB3 hb4) hb5
  have hX5 := blk_below hX3 (bcat2 hb4 hb5)
  have hG5 := blk_below hF3 (bcat2 hb4 hb5)
  obtain ⟨s0, s1, s2, s3⟩ := hF5.two
  obtain ⟨c0, c1, _, _⟩ := hX5.two
  go_wp2_with fail
  generalize w4.alloc (.cells #[.int .i64 0, .int .i64 0] 27) = w5 at *
  clear s0 s1 s2 s3 c0 c1
  refine (rcl_ok n e v zs w5 hg (hv.below hB5)).mono ?_
  rintro x w6 ⟨r, vs, rfl, hrow, hls, hb6⟩
  have hL := SlL.of_own hrow hls (Nat.lt_of_lt_of_le hT.lt (bcat2 hB5 hb6).size)
  obtain ⟨_, _, _, _, rfl, _⟩ := hL
  have hmi : (24 : Int) < ((rcs n (clq n zs e) n).length : Int) := by omega
  generalize (rcs n (clq n zs e) n).length = rn at *
  go_wp2_with fail
  refine (f_any 2 0 w6).mono ?_
  rintro x w7 ⟨rfl, hb7⟩
  have hb57 := bcat2 hb6 hb7
  have hB7 := bcat2 hB5 hb57
  have hF7 := blk_below hF5 hb57
  have hG7 := blk_below hG5 hb57
  obtain ⟨s0, s1, s2, s3⟩ := hF7.two
  obtain ⟨q0, q1⟩ := hF7.self
  have hfw : w.heap.size ≤ w4.heap.size := (bcat2 hB3 hb4).size
  have hgl := hG5.lt
  have hne : w2.heap.size ≠ w4.heap.size := by
    have := hF3.lt
    have := hb4.size
    omega
  obtain ⟨hF8, hB8⟩ := put2 hF7 hB7 hfw 2 0
  have hG8 := (hG7.other (p := ⟨w4.heap.size, 0, none⟩) hne (.int .i64 2)).other (p := ⟨w4.heap.size, 1, none⟩) hne (.int .i64 0)
  go_wp2_with fail
  generalize (w7.setCell ⟨w4.heap.size, 0, none⟩ (.int .i64 2)).setCell ⟨w4.heap.size, 1, none⟩ (.int .i64 0) = w8 at *
  refine (classBegun_any w8 (hT.below hB8)).mono ?_
  rintro x w9 ⟨rfl, hb9⟩
  clear s0 s1 s2 s3 q0 q1
  obtain ⟨s0, s1, _, _⟩ := (blk_below hF8 hb9).two
  obtain ⟨t0, t1, _, _⟩ := (blk_below hG8 hb9).two
  go_wp2
  go_ret
  exact ⟨rfl, bcat2 hB8 hb9⟩
/-- What a list of classes holds, cell by cell. -/
theorem cls_cells {n e m lb lo lc : Nat} {zs : List Int} {W : World} (g : IsGrp n zs e) (hL : SlL W (.slice (some ⟨lb, lo, none⟩) m lc) (rcs n (clq n zs e) n)) (hm : (rcs n (clq n zs e) n).length = m) (i : Nat) (hi : i < m) :
    ∃ qb qo qc, W.cell? ⟨lb, lo + i, none⟩ = some (.slice (some ⟨qb, qo, none⟩) (lst n (clq n zs e (lda n (clq n zs e) i))).length qc) ∧ 0 < (lst n (clq n zs e (lda n (clq n zs e) i))).length ∧ W.cell? ⟨qb, qo, none⟩ = some (.int .i64 (lda n (clq n zs e) i)) ∧ ∀ a (h : a < (lst n (clq n zs e (lda n (clq n zs e) i))).length), W.cell? ⟨qb, qo + a, none⟩ = some (.int .i64 ((lst n (clq n zs e (lda n (clq n zs e) i)))[a] : Nat)) := by
  obtain ⟨la, lcap, lb', lo', hle, hl1, hl2, _⟩ := hL
  injection hle with e1 e2 e3
  have hl1' := hl1 (by omega)
  rw [hl1'] at e1
  injection e1 with e1
  injection e1 with e4 e5
  subst e4 e5
  obtain ⟨h1, h2, h3, h4⟩ := lda_num (clq_parts g) (show i < (rcs n (clq n zs e) n).length by omega)
  obtain ⟨xx, cx, hSx⟩ := hl2 i (by omega)
  rw [h4, Option.getD_some] at hSx
  obtain ⟨qa, qc, qb, qo, rfl, hq, _⟩ := hSx
  have hp : 0 < (lst n (clq n zs e (lda n (clq n zs e) i))).length := List.length_pos_of_mem (mem_lst.2 ⟨h1, (clq_parts g).refl _ h1⟩)
  have hli : (li (lst n (clq n zs e (lda n (clq n zs e) i)))).length = (lst n (clq n zs e (lda n (clq n zs e) i))).length := by simp [li]
  obtain rfl := hq.at_ (by rw [hli]; exact hp)
  rw [li_len] at cx
  have hc : ∀ a (h : a < (lst n (clq n zs e (lda n (clq n zs e) i))).length), W.cell? ⟨qb, qo + a, none⟩ = some (.int .i64 ((lst n (clq n zs e (lda n (clq n zs e) i)))[a] : Nat)) := fun a h => by
    have := hq.cell a (by rw [hli]; exact h)
    rwa [li_get h] at this
  refine ⟨qb, qo, qc, cx, hp, ?_, hc⟩
  have h0 := hc 0 hp
  rw [Nat.add_zero] at h0
  rw [h0]
  congr 2
  have h5 : (lst n (clq n zs e (lda n (clq n zs e) i)))[0]? = some (lda n (clq n zs e) i) := by rw [← h3, List.head?_eq_getElem?]
  rw [List.getElem?_eq_getElem hp] at h5
  injection h5 with h5
  rw [h5]
/-- The document's count, while it is made. -/
def wnt (n : Nat) (zs : List Int) (xd : Nat → Nat) (K L : List Nat) (s : Nat) (M : List Nat) (t r c : Nat) : Int := ((cA n zs (xd c) K L + cB n zs s (xd c) M + if c < r ∧ tm n zs s t = xd c then 1 else 0 : Nat) : Int)
theorem wnt_zero (n : Nat) (zs : List Int) (xd : Nat → Nat) (K L : List Nat) (s : Nat) (M : List Nat) (t c : Nat) : wnt n zs xd K L s M t 0 c = ((cA n zs (xd c) K L + cB n zs s (xd c) M : Nat) : Int) := by
  unfold wnt
  rw [if_neg (fun h => absurd h.1 (Nat.not_lt_zero _)), Nat.add_zero]
theorem wnt_hit {n m : Nat} {zs : List Int} {xd : Nat → Nat} {K L : List Nat} {s : Nat} {M : List Nat} {t r : Nat} (h : tm n zs s t = xd r) : ((List.range m).map (wnt n zs xd K L s M t r)).set r (((cA n zs (xd r) K L + cB n zs s (xd r) M : Nat) : Int) + 1) = (List.range m).map (wnt n zs xd K L s M t (r + 1)) := by
  rw [map_set]
  refine List.map_congr_left fun c _ => ?_
  unfold wnt
  by_cases e : c = r
  · subst e
    rw [if_pos rfl, if_pos ⟨Nat.lt_succ_self _, h⟩]
    omega
  · rw [if_neg e]
    by_cases h2 : c < r ∧ tm n zs s t = xd c
    · rw [if_pos h2, if_pos ⟨by omega, h2.2⟩]
    · rw [if_neg h2, if_neg (fun h9 => h2 ⟨by omega, h9.2⟩)]
theorem wnt_miss {n m : Nat} {zs : List Int} {xd : Nat → Nat} {K L : List Nat} {s : Nat} {M : List Nat} {t r : Nat} (h : ¬ tm n zs s t = xd r) : (List.range m).map (wnt n zs xd K L s M t r) = (List.range m).map (wnt n zs xd K L s M t (r + 1)) := by
  refine List.map_congr_left fun c _ => ?_
  unfold wnt
  by_cases e : c = r
  · subst e
    rw [if_neg (fun h9 => h h9.2), if_neg (fun h9 => h h9.2)]
  · by_cases h2 : c < r ∧ tm n zs s t = xd c
    · rw [if_pos h2, if_pos ⟨by omega, h2.2⟩]
    · rw [if_neg h2, if_neg (fun h9 => h2 ⟨by omega, h9.2⟩)]
theorem wnt_all {n m : Nat} {zs : List Int} {xd : Nat → Nat} {K L : List Nat} {s : Nat} {M : List Nat} {t : Nat} : (List.range m).map (wnt n zs xd K L s M t m) = (List.range m).map (fun c => ((cA n zs (xd c) K L + cB n zs s (xd c) (M ++ [t]) : Nat) : Int)) := by
  refine List.map_congr_left fun c hc => ?_
  have hc := List.mem_range.1 hc
  unfold wnt
  rw [cB_snoc]
  by_cases h : tm n zs s t = xd c
  · rw [if_pos ⟨hc, h⟩, if_pos h]; omega
  · rw [if_neg (fun h9 => h h9.2), if_neg h, Nat.add_zero, Nat.add_zero]
theorem wnt_at {n m : Nat} {zs : List Int} {xd : Nat → Nat} {K L : List Nat} {s : Nat} {M : List Nat} {t r : Nat} (hr : r < m) : ((List.range m).map (wnt n zs xd K L s M t r))[r]?.getD 0 = ((cA n zs (xd r) K L + cB n zs s (xd r) M : Nat) : Int) := by
  rw [List.getElem?_map, List.getElem?_range hr]
  simp [wnt]
set_option maxRecDepth 100000 in
set_option maxHeartbeats 8000000 in
theorem cltim_good (n e : Nat) (v : Value) (zs : List Int) (w : World) (hv : Sl w v zs) (hT : Tab w) (hb8 : zs.length * 8 ≤ 140737488355328) (hg : IsGrp n zs e) (hfew : (rcs n (clq n zs e) n).length ≤ 24) :
    Calls Tryd.prog 4 #[.agg #[.int .i64 n, v]] w fun x w' => x = .returned (.bool true) ∧ Below w.heap.size w w' := by
  obtain ⟨j0, gi, gz0, gz1, gz2⟩ := info_parts info3b
  have hB0 : Below w.heap.size w (w.alloc (.cells #[.int .i64 n, v] 24)) := balloc w _
  have hX0 : BoxG (w.alloc (.cells #[.int .i64 n, v] 24)) w.heap.size n v := blk0 _ _
  obtain ⟨w0, hw0⟩ : ∃ w0, w0 = w.alloc (.cells #[.int .i64 n, v] 24) := ⟨_, rfl⟩
  rw [← hw0] at hB0 hX0
  obtain ⟨c0, c1, _, _⟩ := hX0.two
  rw [hw0] at c0 c1
  go_enter Tryd.func4, Tryd.ntmps4
  go_wp2_with fail
  rw [← hw0]
  clear hw0 c0 c1
  refine (ownGroup_any n v zs w0 (hv.below hB0) hb8).mono ?_
  rintro x w1 ⟨u, rfl, hu, hb1⟩
  have hT1 := hT.below (bcat2 hB0 hb1)
  go_wp2_with fail
  refine (tim_good n e u zs w1 hu hg hT1 hfew).mono ?_
  rintro x w2 ⟨S, rfl, hC2, hb2⟩
  have HGF := hide (fun W (h : Below w.heap.size w W) => groupFault_any n v zs W (hv.below h))
  rw [grp_fault hg] at HGF
  simp only at HGF
  have hb3 := balloc w2 (.cells #[.int .i64 0, .int .i64 0] 27)
  have hF3 := blk0 (w := w2) (T := 27) (.int .i64 0) (.int .i64 0)
  have hB3 := bcat2 (bcat2 (bcat2 hB0 hb1) hb2) hb3
  have hX3 := blk_below hX0 (bcat2 (bcat2 hb1 hb2) hb3)
  obtain ⟨c0, c1, _, _⟩ := hX3.two
  obtain ⟨t0, t1, _, _⟩ := hF3.two
  go_wp2_with fail
  generalize w2.alloc (.cells #[.int .i64 0, .int .i64 0] 27) = w3 at *
  clear c0 c1 t0 t1
  refine (HGF.out _ hB3).mono ?_
  rintro x w4 ⟨rfl, hb4⟩
  have hb5 := balloc w4 (.cells #[.int .i64 0, .int .i64 0] 27)
  have hF5 := blk0 (w := w4) (T := 27) (.int .i64 0) (.int .i64 0)
  have hB5 := bcat2 (bcat2 hB3 hb4) hb5
  have hX5 := blk_below hX3 (bcat2 hb4 hb5)
  have hG5 := blk_below hF3 (bcat2 hb4 hb5)
  obtain ⟨s0, s1, s2, s3⟩ := hF5.two
  obtain ⟨c0, c1, _, _⟩ := hX5.two
  have hC5 := hC2.below (bcat2 (bcat2 hb3 hb4) hb5)
  go_wp2_with fail
  generalize w4.alloc (.cells #[.int .i64 0, .int .i64 0] 27) = w5 at *
  clear s0 s1 s2 s3 c0 c1
  refine (rcl_ok n e v zs w5 hg (hv.below hB5)).mono ?_
  rintro x w6 ⟨r, vs, rfl, hrow, hls, hb6⟩
  have hL := SlL.of_own hrow hls (Nat.lt_of_lt_of_le hT.lt (bcat2 hB5 hb6).size)
  have hp0 : 0 < (rcs n (clq n zs e) n).length := Nat.lt_of_le_of_lt (Nat.zero_le _) (num_rcs (clq_parts hg) hg.tab.pos)
  obtain ⟨la, lc, lb, lo, hr9, hl1, _⟩ := id hL
  obtain rfl := hl1 hp0
  subst hr9
  have HCC := hide (cls_cells hg hL rfl)
  have HEQ := hide (fun i j (hi : i < (rcs n (clq n zs e) n).length) (hj : j < (rcs n (clq n zs e) n).length) => show (List.range (rcs n (clq n zs e) n).length).map (fun c => ((cA n zs (lda n (clq n zs e) c) (lst n (clq n zs e (lda n (clq n zs e) i))) (lst n (clq n zs e (lda n (clq n zs e) j))) : Nat) : Int)) = (List.range (rcs n (clq n zs e) n).length).map (fun c => ((tmk n zs e i j (lda n (clq n zs e) c) n : Nat) : Int)) from List.map_congr_left fun c hc => by
    rw [cA_tmk hg hi hj (lda_num (clq_parts hg) (List.mem_range.1 hc)).1])
  have HLT := hide (fun x a (h : a ∈ lst n (clq n zs e x)) => (mem_lst.1 h).1)
  have HLL := hide (fun x => lst_len n (clq n zs e x))
  have hmi : ¬ (24 : Int) < ((rcs n (clq n zs e) n).length : Int) := by omega
  have hn := hg.tab.le
  clear hl1 hL hrow hls
  generalize hm : (rcs n (clq n zs e) n).length = m at *
  generalize lda n (clq n zs e) = xd at *
  go_wp2_with fail
  refine (classBegun_any w6 (hT.below (bcat2 hB5 hb6))).mono ?_
  rintro x w7 ⟨rfl, hb7⟩
  have hb57 := bcat2 hb6 hb7
  have hB7 := bcat2 hB5 hb57
  have hX7 := blk_below hX5 hb57
  have hC7 := hC5.below hb57
  obtain ⟨s0, s1, _, _⟩ := (blk_below hF5 hb57).two
  obtain ⟨t0, t1, _, _⟩ := (blk_below hG5 hb57).two
  clear hC5 hX5 hF5 hG5 hC2 hX3 hF3 hu
  go_wp2
  clear s0 s1 t0 t1
  go_loopw [7] (fun i wr => ∃ k : Nat, k ≤ m ∧ i = .int .i64 k ∧ Below w7.heap.size w7 wr) (fun i _ => m - (intOf i).toNat)
  case atStart => exact ⟨0, Nat.zero_le _, rfl, Below.refl _ _⟩
  case round =>
    obtain ⟨i, hi9, rfl, hB⟩ := hrel
    by_cases hi : i < m
    · have hii : (i : Int) < (m : Int) := by omega
      have tc : wr.cell? ⟨S, i, none⟩ = some (.slice (some ⟨pos S m i 0, 0, none⟩) m m) := ((hC7.below hB).top.cell i).trans (hdL_at hi hi)
      obtain ⟨ib, io, ic, ci0, hi0, _, ci1⟩ := HCC.out i hi
      have HII := hide (fun W (h : Below w7.heap.size w7 W) => below_cell (bcat2 hb7 h) ci0)
      have HIC := hide (fun p (hp : p < (lst n (clq n zs e (xd i))).length) W (h : Below w7.heap.size w7 W) => below_cell (bcat2 hb7 h) (ci1 p hp))
      have hKl := HLL.out (xd i)
      have HKM := hide (HLT.out (xd i))
      have HEI := hide (fun j (hj : j < m) => HEQ.out i j hi hj)
      clear ci0 ci1
      generalize lst n (clq n zs e (xd i)) = K at *
      go_wp2
      clear tc
      go_loopw [8] (fun j wr => ∃ k : Nat, k ≤ m ∧ j = .int .i64 k ∧ Below w7.heap.size w7 wr) (fun j _ => m - (intOf j).toNat)
      case atStart => exact ⟨0, Nat.zero_le _, rfl, hB⟩
      case round =>
        clear hB
        obtain ⟨j, hj9, rfl, hB⟩ := hrel
        by_cases hj : j < m
        · have hji : (j : Int) < (m : Int) := by omega
          obtain ⟨jb, jo, jc, cj0, hj0, _, cj1⟩ := HCC.out j hj
          have HJJ := hide (fun W (h : Below w7.heap.size w7 W) => below_cell (bcat2 hb7 h) cj0)
          have HJC := hide (fun p (hp : p < (lst n (clq n zs e (xd j))).length) W (h : Below w7.heap.size w7 W) => below_cell (bcat2 hb7 h) (cj1 p hp))
          have hLl := HLL.out (xd j)
          have HLM := hide (HLT.out (xd j))
          have HEJ := hide (HEI.out j hj)
          clear cj0 cj1
          generalize lst n (clq n zs e (xd j)) = L at *
          obtain ⟨W0, rfl⟩ : ∃ W0, W0 = wr := ⟨_, rfl⟩
          have hW1 : Below W0.heap.size W0 (W0.alloc (.cells (madeCells #[.int .i64 0] m) 3)) := balloc W0 _
          have hWb1 : Blk (W0.alloc (.cells (madeCells #[.int .i64 0] m) 3)) W0.heap.size 3 (((List.range m).map fun c => ((cA n zs (xd c) (K.take 0) L : Nat) : Int)).map (Value.int .i64)) := by
            rw [show (List.range m).map (fun c => ((cA n zs (xd c) (K.take 0) L : Nat) : Int)) = List.replicate m 0 from by apply List.ext_getElem <;> simp [cA]]
            exact make_blk m W0
          go_wp2_with (first
            | (at_make; refine wpList_make_at _ rfl _ _ 22 rfl 3 j0 (.int .i64 0) under22b gi gz0 gz1 .i64 .i64 m rfl rfl (by rw [gz2]; omega) (by unfold maxLen; omega) ?_))
          generalize W0.alloc (.cells (madeCells #[.int .i64 0] m) 3) = W1 at *
          go_loopw [10] (fun a wr => ∃ p : Nat, p ≤ K.length ∧ a = .int .i64 p ∧ Blk wr W0.heap.size 3 (((List.range m).map fun c => ((cA n zs (xd c) (K.take p) L : Nat) : Int)).map (Value.int .i64)) ∧ Below W0.heap.size W0 wr) (fun a _ => K.length - (intOf a).toNat)
          case atStart => exact ⟨0, Nat.zero_le _, rfl, hWb1, hW1⟩
          case round =>
            clear hWb1 hW1
            obtain ⟨p, hp9, rfl, hWb, hBw⟩ := hrel
            have ci := HII.out _ (bcat2 hB hBw)
            by_cases hp : p < K.length
            · have hpi : (p : Int) < (K.length : Int) := by omega
              obtain ⟨s, hs⟩ : ∃ s, K[p] = s := ⟨_, rfl⟩
              have hsn : s < n := by rw [← hs]; exact HKM.out _ (List.getElem_mem hp)
              have HTK := hide (show K.take (p + 1) = K.take p ++ [s] by rw [List.take_succ_eq_append_getElem hp, hs])
              have HIP := hide (HIC.out p hp)
              rw [hs] at HIP
              clear hs
              have hWb2 : Blk wr W0.heap.size 3 (((List.range m).map fun c => ((cA n zs (xd c) (K.take p) L + cB n zs s (xd c) (L.take 0) : Nat) : Int)).map (Value.int .i64)) := by
                rw [show (List.range m).map (fun c => ((cA n zs (xd c) (K.take p) L + cB n zs s (xd c) (L.take 0) : Nat) : Int)) = (List.range m).map (fun c => ((cA n zs (xd c) (K.take p) L : Nat) : Int)) from List.map_congr_left fun c _ => by simp [cB]]
                exact hWb
              clear hWb
              go_wp2
              clear ci
              go_loopw [11] (fun b wr => ∃ q : Nat, q ≤ L.length ∧ b = .int .i64 q ∧ Blk wr W0.heap.size 3 (((List.range m).map fun c => ((cA n zs (xd c) (K.take p) L + cB n zs s (xd c) (L.take q) : Nat) : Int)).map (Value.int .i64)) ∧ Below W0.heap.size W0 wr) (fun b _ => L.length - (intOf b).toNat)
              case atStart => exact ⟨0, Nat.zero_le _, rfl, hWb2, hBw⟩
              case round =>
                clear hWb2 hBw
                obtain ⟨q, hq9, rfl, hWb, hBw⟩ := hrel
                have cj := HJJ.out _ (bcat2 hB hBw)
                by_cases hq : q < L.length
                · have hqi : (q : Int) < (L.length : Int) := by omega
                  obtain ⟨t, ht⟩ : ∃ t, L[q] = t := ⟨_, rfl⟩
                  have htn : t < n := by rw [← ht]; exact HLM.out _ (List.getElem_mem hq)
                  have HTL := hide (show L.take (q + 1) = L.take q ++ [t] by rw [List.take_succ_eq_append_getElem hq, ht])
                  have HJQ := hide (HJC.out q hq)
                  rw [ht] at HJQ
                  clear ht
                  have hWb2 : Blk wr W0.heap.size 3 (((List.range m).map (wnt n zs xd (K.take p) L s (L.take q) t 0)).map (Value.int .i64)) := by
                    rw [show (List.range m).map (wnt n zs xd (K.take p) L s (L.take q) t 0) = (List.range m).map (fun c => ((cA n zs (xd c) (K.take p) L + cB n zs s (xd c) (L.take q) : Nat) : Int)) from List.map_congr_left fun c _ => wnt_zero n zs xd (K.take p) L s (L.take q) t c]
                    exact hWb
                  clear hWb
                  go_wp2
                  clear cj
                  go_loopw [12] (fun c wr => ∃ r : Nat, r ≤ m ∧ c = .int .i64 r ∧ Blk wr W0.heap.size 3 (((List.range m).map (wnt n zs xd (K.take p) L s (L.take q) t r)).map (Value.int .i64)) ∧ Below W0.heap.size W0 wr) (fun c _ => m - (intOf c).toNat)
                  case atStart => exact ⟨0, Nat.zero_le _, rfl, hWb2, hBw⟩
                  case round =>
                    clear hWb2 hBw
                    obtain ⟨r, hr9, rfl, hWb, hBw⟩ := hrel
                    by_cases hr : r < m
                    · have hri : (r : Int) < (m : Int) := by omega
                      obtain ⟨rb, ro, rc, cr0, hr0, cr1, cr2⟩ := HCC.out r hr
                      clear cr2
                      have HM := hide (fun W (h : Below W0.heap.size W0 W) => M_ok n v zs s t W hg.tab (hv.below (bcat2 hB7 (bcat2 hB h))) hsn htn)
                      generalize (lst n (clq n zs e (xd r))).length = rl at *
                      have hS : ∀ W, Below W0.heap.size W0 W → (Below W0.heap.size W0 W ∧ W.cell? ⟨w.heap.size, 0, none⟩ = some (.int .i64 n) ∧ W.cell? ⟨w.heap.size, 1, none⟩ = some v ∧ W.cell? ⟨lb, lo + i, none⟩ = some (.slice (some ⟨ib, io, none⟩) K.length ic) ∧ W.cell? ⟨ib, io + p, none⟩ = some (.int .i64 s) ∧ W.cell? ⟨lb, lo + j, none⟩ = some (.slice (some ⟨jb, jo, none⟩) L.length jc) ∧ W.cell? ⟨jb, jo + q, none⟩ = some (.int .i64 t) ∧ W.cell? ⟨lb, lo + r, none⟩ = some (.slice (some ⟨rb, ro, none⟩) rl rc) ∧ W.cell? ⟨rb, ro, none⟩ = some (.int .i64 (xd r))) := fun W h => by
                        have hw := bcat2 hB h
                        obtain ⟨c0, c1, _, _⟩ := (blk_below hX7 hw).two
                        exact ⟨h, c0, c1, HII.out _ hw, HIP.out _ hw, HJJ.out _ hw, HJQ.out _ hw, below_cell (bcat2 hb7 hw) cr0, below_cell (bcat2 hb7 hw) cr1⟩
                      clear cr0 cr1
                      have hcA := cA_le n zs (xd r) (K.take p) L
                      have hcA2 : (K.take p).length * L.length ≤ 60 * 60 := Nat.mul_le_mul (by rw [List.length_take]; omega) (by omega)
                      have hcB := cB_le n zs s (xd r) (L.take q)
                      have hcB2 : (L.take q).length ≤ 60 := by rw [List.length_take]; omega
                      have hBc : Below W0.heap.size W0 wr.drew := bdrew hBw
                      replace hWb : Blk wr.drew W0.heap.size 3 _ := hWb
                      go_wp2_with fail
                      go_cut [117] (fun s117 wx => s117 = .bool (((tm n zs s t : Nat) : Int) == ((xd r : Nat) : Int)) ∧ Blk wx W0.heap.size 3 (((List.range m).map (wnt n zs xd (K.take p) L s (L.take q) t r)).map (Value.int .i64)) ∧ Below W0.heap.size W0 wx)
                      case first =>
                        refine wp_region_held_drew (S := fun W => Below W0.heap.size W0 W ∧ W.cell? ⟨w.heap.size, 0, none⟩ = some (.int .i64 n) ∧ W.cell? ⟨w.heap.size, 1, none⟩ = some v ∧ W.cell? ⟨lb, lo + i, none⟩ = some (.slice (some ⟨ib, io, none⟩) K.length ic) ∧ W.cell? ⟨ib, io + p, none⟩ = some (.int .i64 s) ∧ W.cell? ⟨lb, lo + j, none⟩ = some (.slice (some ⟨jb, jo, none⟩) L.length jc) ∧ W.cell? ⟨jb, jo + q, none⟩ = some (.int .i64 t) ∧ W.cell? ⟨lb, lo + r, none⟩ = some (.slice (some ⟨rb, ro, none⟩) rl rc) ∧ W.cell? ⟨rb, ro, none⟩ = some (.int .i64 (xd r))) (by kernel_rfl) (hS _ hBc) (fun hHeld => ?_)
                        generalize wr.drew = wd at *
                        refine wpAnyH_take (i := 0) (oi := ({ dst := some 95, op := Go.Op.load 24 (Go.Operand.tmp 1), type := 24, pos := _, after := _, guard := none } : Oper)) (v := ?_) rfl (by kernel_rfl) (by kernel_rfl) (by kernel_rfl) (fun _ _ _ h => h) (Or.inl ⟨by rfl, ?_⟩) (by assumption) ?_
                        rotate_left
                        · (intro w hSw; (try dsimp only at hSw); go_simp; try with_reducible rfl)
                        simp only [Act.put, List.setIfInBounds_toArray, List.set_cons_zero, List.set_cons_succ]
                        refine wpAnyH_take (i := 1) (oi := ({ dst := some 96, op := Go.Op.move (Go.Operand.tmp 6), type := 25, pos := _, after := _, guard := none } : Oper)) (v := ?_) rfl (by kernel_rfl) (by kernel_rfl) (by kernel_rfl) (fun _ _ _ h => h) (Or.inl ⟨by rfl, ?_⟩) (by assumption) ?_
                        rotate_left
                        · (intro w hSw; (try dsimp only at hSw); go_simp; try with_reducible rfl)
                        simp only [Act.put, List.setIfInBounds_toArray, List.set_cons_zero, List.set_cons_succ]
                        refine wpAnyH_take (i := 2) (oi := ({ dst := some 97, op := Go.Op.move (Go.Operand.tmp 7), type := 3, pos := _, after := _, guard := none } : Oper)) (v := ?_) rfl (by kernel_rfl) (by kernel_rfl) (by kernel_rfl) (fun _ _ _ h => h) (Or.inl ⟨by rfl, ?_⟩) (by assumption) ?_
                        rotate_left
                        · (intro w hSw; (try dsimp only at hSw); go_simp; try with_reducible rfl)
                        simp only [Act.put, List.setIfInBounds_toArray, List.set_cons_zero, List.set_cons_succ]
                        refine wpAnyH_take (i := 3) (oi := ({ dst := some 98, op := Go.Op.indexAddr 25 (Go.Operand.tmp 96) (Go.Operand.tmp 97), type := 0, pos := _, after := _, guard := none } : Oper)) (v := ?_) rfl (by kernel_rfl) (by kernel_rfl) (by kernel_rfl) (fun _ _ _ h => h) (Or.inl ⟨by rfl, ?_⟩) (by assumption) ?_
                        rotate_left
                        · (intro w hSw; (try dsimp only at hSw); go_simp; try with_reducible rfl)
                        simp only [Act.put, List.setIfInBounds_toArray, List.set_cons_zero, List.set_cons_succ]
                        refine wpAnyH_take (i := 4) (oi := ({ dst := some 99, op := Go.Op.load 22 (Go.Operand.tmp 98), type := 22, pos := _, after := _, guard := none } : Oper)) (v := ?_) rfl (by kernel_rfl) (by kernel_rfl) (by kernel_rfl) (fun _ _ _ h => h) (Or.inl ⟨by rfl, ?_⟩) (by assumption) ?_
                        rotate_left
                        · (intro w hSw; (try dsimp only at hSw); go_simp; try with_reducible rfl)
                        simp only [Act.put, List.setIfInBounds_toArray, List.set_cons_zero, List.set_cons_succ]
                        refine wpAnyH_take (i := 5) (oi := ({ dst := some 100, op := Go.Op.move (Go.Operand.tmp 10), type := 3, pos := _, after := _, guard := none } : Oper)) (v := ?_) rfl (by kernel_rfl) (by kernel_rfl) (by kernel_rfl) (fun _ _ _ h => h) (Or.inl ⟨by rfl, ?_⟩) (by assumption) ?_
                        rotate_left
                        · (intro w hSw; (try dsimp only at hSw); go_simp; try with_reducible rfl)
                        simp only [Act.put, List.setIfInBounds_toArray, List.set_cons_zero, List.set_cons_succ]
                        refine wpAnyH_take (i := 6) (oi := ({ dst := some 101, op := Go.Op.indexAddr 22 (Go.Operand.tmp 99) (Go.Operand.tmp 100), type := 0, pos := _, after := _, guard := none } : Oper)) (v := ?_) rfl (by kernel_rfl) (by kernel_rfl) (by kernel_rfl) (fun _ _ _ h => h) (Or.inl ⟨by rfl, ?_⟩) (by assumption) ?_
                        rotate_left
                        · (intro w hSw; (try dsimp only at hSw); go_simp; try with_reducible rfl)
                        simp only [Act.put, List.setIfInBounds_toArray, List.set_cons_zero, List.set_cons_succ]
                        refine wpAnyH_take (i := 7) (oi := ({ dst := some 102, op := Go.Op.load 3 (Go.Operand.tmp 101), type := 3, pos := _, after := _, guard := none } : Oper)) (v := ?_) rfl (by kernel_rfl) (by kernel_rfl) (by kernel_rfl) (fun _ _ _ h => h) (Or.inl ⟨by rfl, ?_⟩) (by assumption) ?_
                        rotate_left
                        · (intro w hSw; (try dsimp only at hSw); go_simp; try with_reducible rfl)
                        simp only [Act.put, List.setIfInBounds_toArray, List.set_cons_zero, List.set_cons_succ]
                        refine wpAnyH_take (i := 8) (oi := ({ dst := some 103, op := Go.Op.move (Go.Operand.tmp 6), type := 25, pos := _, after := _, guard := none } : Oper)) (v := ?_) rfl (by kernel_rfl) (by kernel_rfl) (by kernel_rfl) (fun _ _ _ h => h) (Or.inl ⟨by rfl, ?_⟩) (by assumption) ?_
                        rotate_left
                        · (intro w hSw; (try dsimp only at hSw); go_simp; try with_reducible rfl)
                        simp only [Act.put, List.setIfInBounds_toArray, List.set_cons_zero, List.set_cons_succ]
                        refine wpAnyH_take (i := 9) (oi := ({ dst := some 104, op := Go.Op.move (Go.Operand.tmp 8), type := 3, pos := _, after := _, guard := none } : Oper)) (v := ?_) rfl (by kernel_rfl) (by kernel_rfl) (by kernel_rfl) (fun _ _ _ h => h) (Or.inl ⟨by rfl, ?_⟩) (by assumption) ?_
                        rotate_left
                        · (intro w hSw; (try dsimp only at hSw); go_simp; try with_reducible rfl)
                        simp only [Act.put, List.setIfInBounds_toArray, List.set_cons_zero, List.set_cons_succ]
                        refine wpAnyH_take (i := 10) (oi := ({ dst := some 105, op := Go.Op.indexAddr 25 (Go.Operand.tmp 103) (Go.Operand.tmp 104), type := 0, pos := _, after := _, guard := none } : Oper)) (v := ?_) rfl (by kernel_rfl) (by kernel_rfl) (by kernel_rfl) (fun _ _ _ h => h) (Or.inl ⟨by rfl, ?_⟩) (by assumption) ?_
                        rotate_left
                        · (intro w hSw; (try dsimp only at hSw); go_simp; try with_reducible rfl)
                        simp only [Act.put, List.setIfInBounds_toArray, List.set_cons_zero, List.set_cons_succ]
                        refine wpAnyH_take (i := 11) (oi := ({ dst := some 106, op := Go.Op.load 22 (Go.Operand.tmp 105), type := 22, pos := _, after := _, guard := none } : Oper)) (v := ?_) rfl (by kernel_rfl) (by kernel_rfl) (by kernel_rfl) (fun _ _ _ h => h) (Or.inl ⟨by rfl, ?_⟩) (by assumption) ?_
                        rotate_left
                        · (intro w hSw; (try dsimp only at hSw); go_simp; try with_reducible rfl)
                        simp only [Act.put, List.setIfInBounds_toArray, List.set_cons_zero, List.set_cons_succ]
                        refine wpAnyH_take (i := 12) (oi := ({ dst := some 107, op := Go.Op.move (Go.Operand.tmp 11), type := 3, pos := _, after := _, guard := none } : Oper)) (v := ?_) rfl (by kernel_rfl) (by kernel_rfl) (by kernel_rfl) (fun _ _ _ h => h) (Or.inl ⟨by rfl, ?_⟩) (by assumption) ?_
                        rotate_left
                        · (intro w hSw; (try dsimp only at hSw); go_simp; try with_reducible rfl)
                        simp only [Act.put, List.setIfInBounds_toArray, List.set_cons_zero, List.set_cons_succ]
                        refine wpAnyH_take (i := 13) (oi := ({ dst := some 108, op := Go.Op.indexAddr 22 (Go.Operand.tmp 106) (Go.Operand.tmp 107), type := 0, pos := _, after := _, guard := none } : Oper)) (v := ?_) rfl (by kernel_rfl) (by kernel_rfl) (by kernel_rfl) (fun _ _ _ h => h) (Or.inl ⟨by rfl, ?_⟩) (by assumption) ?_
                        rotate_left
                        · (intro w hSw; (try dsimp only at hSw); go_simp; try with_reducible rfl)
                        simp only [Act.put, List.setIfInBounds_toArray, List.set_cons_zero, List.set_cons_succ]
                        refine wpAnyH_take (i := 14) (oi := ({ dst := some 109, op := Go.Op.load 3 (Go.Operand.tmp 108), type := 3, pos := _, after := _, guard := none } : Oper)) (v := ?_) rfl (by kernel_rfl) (by kernel_rfl) (by kernel_rfl) (fun _ _ _ h => h) (Or.inl ⟨by rfl, ?_⟩) (by assumption) ?_
                        rotate_left
                        · (intro w hSw; (try dsimp only at hSw); go_simp; try with_reducible rfl)
                        simp only [Act.put, List.setIfInBounds_toArray, List.set_cons_zero, List.set_cons_succ]
                        refine wpAnyH_take (i := 16) (oi := ({ dst := some 111, op := Go.Op.move (Go.Operand.tmp 6), type := 25, pos := _, after := _, guard := none } : Oper)) (v := ?_) rfl (by kernel_rfl) (by kernel_rfl) (by kernel_rfl) (fun _ _ _ h => h) (Or.inl ⟨by rfl, ?_⟩) (by assumption) ?_
                        rotate_left
                        · (intro w hSw; (try dsimp only at hSw); go_simp; try with_reducible rfl)
                        simp only [Act.put, List.setIfInBounds_toArray, List.set_cons_zero, List.set_cons_succ]
                        refine wpAnyH_take (i := 17) (oi := ({ dst := some 112, op := Go.Op.move (Go.Operand.tmp 12), type := 3, pos := _, after := _, guard := none } : Oper)) (v := ?_) rfl (by kernel_rfl) (by kernel_rfl) (by kernel_rfl) (fun _ _ _ h => h) (Or.inl ⟨by rfl, ?_⟩) (by assumption) ?_
                        rotate_left
                        · (intro w hSw; (try dsimp only at hSw); go_simp; try with_reducible rfl)
                        simp only [Act.put, List.setIfInBounds_toArray, List.set_cons_zero, List.set_cons_succ]
                        refine wpAnyH_take (i := 18) (oi := ({ dst := some 113, op := Go.Op.indexAddr 25 (Go.Operand.tmp 111) (Go.Operand.tmp 112), type := 0, pos := _, after := _, guard := none } : Oper)) (v := ?_) rfl (by kernel_rfl) (by kernel_rfl) (by kernel_rfl) (fun _ _ _ h => h) (Or.inl ⟨by rfl, ?_⟩) (by assumption) ?_
                        rotate_left
                        · (intro w hSw; (try dsimp only at hSw); go_simp; try with_reducible rfl)
                        simp only [Act.put, List.setIfInBounds_toArray, List.set_cons_zero, List.set_cons_succ]
                        refine wpAnyH_take (i := 19) (oi := ({ dst := some 114, op := Go.Op.load 22 (Go.Operand.tmp 113), type := 22, pos := _, after := _, guard := none } : Oper)) (v := ?_) rfl (by kernel_rfl) (by kernel_rfl) (by kernel_rfl) (fun _ _ _ h => h) (Or.inl ⟨by rfl, ?_⟩) (by assumption) ?_
                        rotate_left
                        · (intro w hSw; (try dsimp only at hSw); go_simp; try with_reducible rfl)
                        simp only [Act.put, List.setIfInBounds_toArray, List.set_cons_zero, List.set_cons_succ]
                        refine wpAnyH_take (i := 20) (oi := ({ dst := some 115, op := Go.Op.indexAddr 22 (Go.Operand.tmp 114) (Go.Operand.const (Go.Value.int Go.IntKind.i64 0)), type := 0, pos := _, after := _, guard := none } : Oper)) (v := ?_) rfl (by kernel_rfl) (by kernel_rfl) (by kernel_rfl) (fun _ _ _ h => h) (Or.inl ⟨by rfl, ?_⟩) (by assumption) ?_
                        rotate_left
                        · (intro w hSw; (try dsimp only at hSw); go_simp; try with_reducible rfl)
                        simp only [Act.put, List.setIfInBounds_toArray, List.set_cons_zero, List.set_cons_succ]
                        refine wpAnyH_take (i := 21) (oi := ({ dst := some 116, op := Go.Op.load 3 (Go.Operand.tmp 115), type := 3, pos := _, after := _, guard := none } : Oper)) (v := ?_) rfl (by kernel_rfl) (by kernel_rfl) (by kernel_rfl) (fun _ _ _ h => h) (Or.inl ⟨by rfl, ?_⟩) (by assumption) ?_
                        rotate_left
                        · (intro w hSw; (try dsimp only at hSw); go_simp; try with_reducible rfl)
                        simp only [Act.put, List.setIfInBounds_toArray, List.set_cons_zero, List.set_cons_succ]
                        refine wpAnyH_ready (rs := [15]) (by kernel_rfl) (by simp) (AllReadyH.cons (o := ({ dst := some 110, op := Go.Op.call { callee := Go.Callee.value (Go.Operand.func 19), args := #[Go.Operand.tmp 95, Go.Operand.tmp 102, Go.Operand.tmp 109], argTypes := #[24, 3, 3] }, type := 3, pos := _, after := _, guard := none } : Oper)) rfl (fun KK hK => ?_) AllReadyH.nil)
                        go_simp
                        refine (HM.out _ hBc).mono ?_
                        rintro x1 W1 ⟨rfl, hl1⟩
                        replace hBc := bcat2 hBc hl1
                        replace hWb := blk_below hWb hl1
                        try go_wp2_with fail
                        refine hK.out _ _ (hS _ hBc) (fun hHeld => ?_)
                        clear hK
                        try simp only [Act.put, List.setIfInBounds_toArray, List.set_cons_zero, List.set_cons_succ]
                        refine wpAnyH_take (i := 22) (oi := ({ dst := some 117, op := Go.Op.binOp Go.BinOp.eql 3 (Go.Operand.tmp 110) (Go.Operand.tmp 116) 3, type := 4, pos := _, after := _, guard := none } : Oper)) (v := ?_) rfl (by kernel_rfl) (by kernel_rfl) (by kernel_rfl) (fun _ _ _ h => h) (Or.inl ⟨by rfl, ?_⟩) (by assumption) ?_
                        rotate_left
                        · (intro w hSw; (try dsimp only at hSw); go_simp; try with_reducible rfl)
                        simp only [Act.put, List.setIfInBounds_toArray, List.set_cons_zero, List.set_cons_succ]
                        refine wpAnyH_done (by kernel_rfl) ?_ _
                        go_wp2
                        go_meet
                        exact ⟨rfl, hWb, hBc⟩
                      case rest =>
                        clear hWb hBc hBw
                        obtain ⟨rfl, hWb, hBw⟩ := hcut
                        by_cases htt : tm n zs s t = xd r
                        · have hbt2 : (((tm n zs s t : Nat) : Int) == ((xd r : Nat) : Int)) = true := by rw [htt]; simp
                          rw [hbt2]
                          clear hbt2
                          have wc9 := hWb.int (y := r) (by simp; exact hr)
                          rw [wnt_at hr] at wc9
                          have wf9 := hWb.frozen r
                          have HN := hide (hWb.setInt r (((cA n zs (xd r) (K.take p) L + cB n zs s (xd r) (L.take q) : Nat) : Int) + 1))
                          rw [wnt_hit htt] at HN
                          have hB9 := hBw.setCell (p := ⟨W0.heap.size, r, none⟩) (Nat.le_refl _) (.int .i64 (((cA n zs (xd r) (K.take p) L + cB n zs s (xd r) (L.take q) : Nat) : Int) + 1))
                          have hX9 : cA n zs (xd r) (K.take p) L + cB n zs s (xd r) (L.take q) ≤ 3660 := by omega
                          clear htt hWb hcA hcB
                          generalize cA n zs (xd r) (K.take p) L + cB n zs s (xd r) (L.take q) = X at *
                          go_wp2
                          go_roundw
                          case rel => exact ⟨r + 1, by omega, by go_num, HN.out, hB9⟩
                          case measure => simp [intOf]; omega
                        · have hbt2 : (((tm n zs s t : Nat) : Int) == ((xd r : Nat) : Int)) = false := by rw [beq_eq_false_iff_ne]; omega
                          rw [hbt2]
                          clear hbt2
                          rw [wnt_miss htt] at hWb
                          go_wp2
                          go_roundw
                          case rel => exact ⟨r + 1, by omega, by go_num, hWb, hBw⟩
                          case measure => simp [intOf]; omega
                    · have hri : ¬ (r : Int) < (m : Int) := by omega
                      obtain rfl : r = m := by omega
                      rw [wnt_all, ← HTL.out] at hWb
                      go_wp2
                      go_roundw
                      case rel => exact ⟨q + 1, by omega, by go_num, hWb, hBw⟩
                      case measure => simp [intOf]; omega
                · have hqi : ¬ (q : Int) < (L.length : Int) := by omega
                  obtain rfl : q = L.length := by omega
                  rw [List.take_length] at hWb
                  have hWb2 : Blk wr W0.heap.size 3 (((List.range m).map fun c => ((cA n zs (xd c) (K.take (p + 1)) L : Nat) : Int)).map (Value.int .i64)) := by
                    rw [HTK.out, show (List.range m).map (fun c => ((cA n zs (xd c) (K.take p ++ [s]) L : Nat) : Int)) = (List.range m).map (fun c => ((cA n zs (xd c) (K.take p) L + cB n zs s (xd c) L : Nat) : Int)) from List.map_congr_left fun c _ => by rw [cA_snoc]]
                    exact hWb
                  go_wp2
                  go_roundw
                  case rel => exact ⟨p + 1, by omega, by go_num, hWb2, hBw⟩
                  case measure => simp [intOf]; omega
            · have hpi : ¬ (p : Int) < (K.length : Int) := by omega
              obtain rfl : p = K.length := by omega
              rw [List.take_length, HEJ.out] at hWb
              have hBB := bcat2 hB hBw
              have hCr := hC7.below hBB
              have tc : wr.cell? ⟨S, i, none⟩ = some (.slice (some ⟨pos S m i 0, 0, none⟩) m m) := (hCr.top.cell i).trans (hdL_at hi hi)
              have rc : wr.cell? ⟨pos S m i 0, j, none⟩ = some (.slice (some ⟨pos S m i (j + 1), 0, none⟩) m m) := ((hCr.row i hi).row.cell j).trans (hdL_at hj hj)
              have HIA := hide (ints_any (.slice (some ⟨pos S m i (j + 1), 0, none⟩) m m) (.slice (some ⟨W0.heap.size, 0, none⟩) m m) _ _ wr (Sl.of_blk ((hCr.row i hi).cel j hj) (by simp) (by simp; omega)) (Sl.of_blk hWb (by simp) (by simp; omega)))
              rw [decide_eq_true rfl] at HIA
              go_wp2_with fail
              refine HIA.out.mono ?_
              rintro x9 w9 ⟨rfl, hb9⟩
              go_wp2
              go_roundw
              case rel => exact ⟨j + 1, by omega, by go_num, bcat2 hBB hb9⟩
              case measure => simp [intOf]; omega
        · have hji : ¬ (j : Int) < (m : Int) := by omega
          go_wp2
          go_roundw
          case rel => exact ⟨i + 1, by omega, by go_num, hB⟩
          case measure => simp [intOf]; omega
    · have hii : ¬ (i : Int) < (m : Int) := by omega
      go_wp2
      go_ret
      exact ⟨rfl, bcat2 hB7 hB⟩
theorem cltim_law (N : Int) (v : Value) (zs : List Int) (w : World) (hv : Sl w v zs) (hT : Tab w) (hb8 : zs.length * 8 ≤ 140737488355328) :
    Calls Tryd.prog 4 #[.agg #[.int .i64 N, v]] w fun x w' => x = .returned (.bool true) ∧ Below w.heap.size w w' := by
  by_cases hc : (gfault N zs).1 = 0
  · obtain ⟨n, e, rfl, hg, _⟩ := gfault_grp hc
    by_cases hm : 24 < (rcs n (clq n zs e) n).length
    · exact cltim_many n e v zs w hv hT hb8 hg hm
    · exact cltim_good n e v zs w hv hT hb8 hg (by omega)
  · exact cltim_bad N v zs w hv hT hb8 hc
end Go.Proofs.YtobnfbnholbfoaaDoor

namespace Go.Proofs.YtobnfbnholbfoaaDoor
open Go Go.RowKit Go.Maps

set_option maxRecDepth 100000 in
set_option maxHeartbeats 4000000 in
theorem clsum_bad (N I J K : Int) (v : Value) (zs : List Int) (w : World) (hv : Sl w v zs) (hT : Tab w) (hc : (gfault N zs).1 ≠ 0) :
    Calls Tryd.prog 6 #[.agg #[.int .i64 N, v], .int .i64 I, .int .i64 J, .int .i64 K] w fun x w' => x = .returned (.bool true) ∧ Below w.heap.size w w' := by
  have HAL := hide (fun W (h : Below w.heap.size w W) => cla_bad N v zs W (hv.below h) hc)
  have HTI := hide (fun W (h : Below w.heap.size w W) => tim_bad N v zs W (hv.below h) hc)
  have hcb : ((gfault N zs).1 != 0) = true := by simpa using hc
  generalize (gfault N zs).1 = c at *
  generalize (gfault N zs).2 = i at *
  have hB0 : Below w.heap.size w (w.alloc (.cells #[.int .i64 N, v] 24)) := balloc w _
  have hX0 : BoxG (w.alloc (.cells #[.int .i64 N, v] 24)) w.heap.size N v := blk0 _ _
  obtain ⟨w0, hw0⟩ : ∃ w0, w0 = w.alloc (.cells #[.int .i64 N, v] 24) := ⟨_, rfl⟩
  rw [← hw0] at hB0 hX0
  go_enter Tryd.func6, Tryd.ntmps6
  go_wp2_with fail
  rw [← hw0]
  clear hw0
  refine (classBegun_any w0 (hT.below hB0)).mono ?_
  rintro x w1 ⟨rfl, hb1⟩
  have hB1 := bcat2 hB0 hb1
  have hX1 := blk_below hX0 hb1
  obtain ⟨c0, c1, _, _⟩ := hX1.two
  go_wp2_with fail
  clear c0 c1
  refine (HAL.out _ hB1).mono ?_
  rintro x w2 ⟨rfl, hb2⟩
  have hb3 := balloc w2 (.cells #[.int .i64 c, .int .i64 i] 27)
  have hF3 := blk0 (w := w2) (T := 27) (.int .i64 c) (.int .i64 i)
  have hB3 := bcat2 (bcat2 hB1 hb2) hb3
  have hX3 := blk_below hX1 (bcat2 hb2 hb3)
  obtain ⟨c0, c1, _, _⟩ := hX3.two
  obtain ⟨t0, t1, _, _⟩ := hF3.two
  go_wp2_with fail
  generalize w2.alloc (.cells #[.int .i64 c, .int .i64 i] 27) = w3 at *
  clear c0 c1 t0 t1
  refine (HTI.out _ hB3).mono ?_
  rintro x w4 ⟨rfl, hb4⟩
  have hb5 := balloc w4 (.cells #[.int .i64 c, .int .i64 i] 27)
  have hF5 := blk0 (w := w4) (T := 27) (.int .i64 c) (.int .i64 i)
  have hB5 := bcat2 (bcat2 hB3 hb4) hb5
  obtain ⟨s0, s1, _, _⟩ := hF5.two
  obtain ⟨t0, t1, _, _⟩ := (blk_below hF3 (bcat2 hb4 hb5)).two
  go_wp2
  go_ret
  exact ⟨rfl, hB5⟩
set_option maxRecDepth 100000 in
set_option maxHeartbeats 4000000 in
theorem clsum_many (n e : Nat) (I J K : Int) (v : Value) (zs : List Int) (w : World) (hv : Sl w v zs) (hT : Tab w) (hg : IsGrp n zs e) (hmany : 24 < (rcs n (clq n zs e) n).length) :
    Calls Tryd.prog 6 #[.agg #[.int .i64 n, v], .int .i64 I, .int .i64 J, .int .i64 K] w fun x w' => x = .returned (.bool true) ∧ Below w.heap.size w w' := by
  have hB0 : Below w.heap.size w (w.alloc (.cells #[.int .i64 n, v] 24)) := balloc w _
  have hX0 : BoxG (w.alloc (.cells #[.int .i64 n, v] 24)) w.heap.size n v := blk0 _ _
  obtain ⟨w0, hw0⟩ : ∃ w0, w0 = w.alloc (.cells #[.int .i64 n, v] 24) := ⟨_, rfl⟩
  rw [← hw0] at hB0 hX0
  go_enter Tryd.func6, Tryd.ntmps6
  go_wp2_with fail
  rw [← hw0]
  clear hw0
  refine (classBegun_any w0 (hT.below hB0)).mono ?_
  rintro x w1 ⟨rfl, hb1⟩
  have hB1 := bcat2 hB0 hb1
  have hX1 := blk_below hX0 hb1
  obtain ⟨c0, c1, _, _⟩ := hX1.two
  go_wp2_with fail
  clear c0 c1
  refine (cla_sl n e v zs w1 (hv.below hB1) hg (hT.below hB1)).mono ?_
  rintro x w2 ⟨r1, r2, r3, rfl, hL, hb2⟩
  have hb3 := balloc w2 (.cells #[.int .i64 0, .int .i64 0] 27)
  have hF3 := blk0 (w := w2) (T := 27) (.int .i64 0) (.int .i64 0)
  have hB3 := bcat2 (bcat2 hB1 hb2) hb3
  have hX3 := blk_below hX1 (bcat2 hb2 hb3)
  obtain ⟨c0, c1, _, _⟩ := hX3.two
  obtain ⟨t0, t1, _, _⟩ := hF3.two
  go_wp2_with fail
  generalize w2.alloc (.cells #[.int .i64 0, .int .i64 0] 27) = w3 at *
  clear c0 c1 t0 t1
  refine (tim_many n e v zs w3 (hv.below hB3) hg (hT.below hB3) hmany).mono ?_
  rintro x w4 ⟨rfl, hb4⟩
  have hb5 := balloc w4 (.cells #[.int .i64 2, .int .i64 0] 27)
  have hF5 := blk0 (w := w4) (T := 27) (.int .i64 2) (.int .i64 0)
  have hB5 := bcat2 (bcat2 hB3 hb4) hb5
  obtain ⟨s0, s1, _, _⟩ := hF5.two
  obtain ⟨t0, t1, _, _⟩ := (blk_below hF3 (bcat2 hb4 hb5)).two
  go_wp2
  go_ret
  exact ⟨rfl, hB5⟩
/-- What lies at three places. -/
theorem Cub.at {W : World} {S m : Nat} {F : Nat → Nat → Nat → Int} (h : Cub W S m F) {i j k : Nat} (hi : i < m) (hj : j < m) (hk : k < m) : W.cell? ⟨S, i, none⟩ = some (.slice (some ⟨pos S m i 0, 0, none⟩) m m) ∧ W.cell? ⟨pos S m i 0, j, none⟩ = some (.slice (some ⟨pos S m i (j + 1), 0, none⟩) m m) ∧ W.cell? ⟨pos S m i (j + 1), k, none⟩ = some (.int .i64 (F i j k)) := by
  refine ⟨(h.top.cell i).trans (hdL_at hi hi), ((h.row i hi).row.cell j).trans (hdL_at hj hj), ?_⟩
  have h1 := ((h.row i hi).cel j hj).int (y := k) (by simp; exact hk)
  rwa [show ((List.range m).map (F i j))[k]?.getD 0 = F i j k by simp [hk]] at h1
theorem sm_le {k b : Nat} {F : Nat → Nat} (h : ∀ a, a < k → F a ≤ b) : sm k F ≤ k * b := by
  induction k with
  | zero => simp [sm]
  | succ k ih =>
    rw [sm_succ, Nat.add_mul, Nat.one_mul]
    exact Nat.add_le_add (ih fun a ha => h a (by omega)) (h k (by omega))
set_option maxRecDepth 100000 in
set_option maxHeartbeats 8000000 in
theorem clsum_good (n e : Nat) (I J K : Int) (v : Value) (zs : List Int) (w : World) (hv : Sl w v zs) (hT : Tab w) (hg : IsGrp n zs e) (hfew : (rcs n (clq n zs e) n).length ≤ 24) :
    Calls Tryd.prog 6 #[.agg #[.int .i64 n, v], .int .i64 I, .int .i64 J, .int .i64 K] w fun x w' => x = .returned (.bool true) ∧ Below w.heap.size w w' := by
  have hB0 : Below w.heap.size w (w.alloc (.cells #[.int .i64 n, v] 24)) := balloc w _
  have hX0 : BoxG (w.alloc (.cells #[.int .i64 n, v] 24)) w.heap.size n v := blk0 _ _
  obtain ⟨w0, hw0⟩ : ∃ w0, w0 = w.alloc (.cells #[.int .i64 n, v] 24) := ⟨_, rfl⟩
  rw [← hw0] at hB0 hX0
  go_enter Tryd.func6, Tryd.ntmps6
  go_wp2_with fail
  rw [← hw0]
  clear hw0
  refine (classBegun_any w0 (hT.below hB0)).mono ?_
  rintro x w1 ⟨rfl, hb1⟩
  have hB1 := bcat2 hB0 hb1
  have hX1 := blk_below hX0 hb1
  obtain ⟨c0, c1, _, _⟩ := hX1.two
  go_wp2_with fail
  clear c0 c1
  refine (cla_sl n e v zs w1 (hv.below hB1) hg (hT.below hB1)).mono ?_
  rintro x w2 ⟨r1, r2, r3, rfl, hL, hb2⟩
  have hb3 := balloc w2 (.cells #[.int .i64 0, .int .i64 0] 27)
  have hF3 := blk0 (w := w2) (T := 27) (.int .i64 0) (.int .i64 0)
  have hB3 := bcat2 (bcat2 hB1 hb2) hb3
  have hX3 := blk_below hX1 (bcat2 hb2 hb3)
  obtain ⟨c0, c1, _, _⟩ := hX3.two
  obtain ⟨t0, t1, _, _⟩ := hF3.two
  go_wp2_with fail
  generalize w2.alloc (.cells #[.int .i64 0, .int .i64 0] 27) = w3 at *
  clear c0 c1 t0 t1
  refine (tim_good n e v zs w3 (hv.below hB3) hg (hT.below hB3) hfew).mono ?_
  rintro x w4 ⟨S, rfl, hC, hb4⟩
  have hb5 := balloc w4 (.cells #[.int .i64 0, .int .i64 0] 27)
  have hF5 := blk0 (w := w4) (T := 27) (.int .i64 0) (.int .i64 0)
  have hB5 := bcat2 (bcat2 hB3 hb4) hb5
  obtain ⟨s0, s1, _, _⟩ := hF5.two
  obtain ⟨t0, t1, _, _⟩ := (blk_below hF3 (bcat2 hb4 hb5)).two
  have hC5 := hC.below hb5
  have hL5 := hL.below (bcat2 (bcat2 hb3 hb4) hb5)
  have hp0 : 0 < (rcs n (clq n zs e) n).length := Nat.lt_of_le_of_lt (Nat.zero_le _) (num_rcs (clq_parts hg) hg.tab.pos)
  obtain ⟨la, lc, lb, lo, hr9, hl1, _⟩ := id hL5
  obtain rfl := hl1 hp0
  injection hr9 with e1 e2 e3
  subst e1 e2 e3
  have HCC := hide (fun i (hi : i < (rcs n (clq n zs e) n).length) => show ∃ qb qo qc, _ from by
    obtain ⟨qb, qo, qc, h1, _⟩ := cls_cells hg hL5 rfl i hi
    exact ⟨qb, qo, qc, h1⟩)
  have HLE := hide (fun (i j x : Nat) => tmk_le n zs e i j x n)
  have HLL := hide (fun x => lst_len n (clq n zs e x))
  have HCO := hide (fun i j c (hc : c < (rcs n (clq n zs e) n).length) => tmk_comm hg (i := i) (j := j) (lda_num (clq_parts hg) hc).1)
  have HAS := hide (fun i j k c (hc : c < (rcs n (clq n zs e) n).length) => tmk_ass hg (i := i) (j := j) (k := k) (lda_num (clq_parts hg) hc).1)
  have HSU := hide (fun i j (hi : i < (rcs n (clq n zs e) n).length) (hj : j < (rcs n (clq n zs e) n).length) => tmk_sum hg hi hj)
  have hn := hg.tab.le
  clear hl1 hL hL5 hC
  generalize hm : (rcs n (clq n zs e) n).length = m at *
  generalize lda n (clq n zs e) = xd at *
  by_cases hI0 : I < 0
  · go_wp2
    go_ret
    exact ⟨rfl, hB5⟩
  by_cases hI1 : (m : Int) ≤ I
  · go_wp2
    go_ret
    exact ⟨rfl, hB5⟩
  by_cases hJ0 : J < 0
  · go_wp2
    go_ret
    exact ⟨rfl, hB5⟩
  by_cases hJ1 : (m : Int) ≤ J
  · go_wp2
    go_ret
    exact ⟨rfl, hB5⟩
  by_cases hK0 : K < 0
  · go_wp2
    go_ret
    exact ⟨rfl, hB5⟩
  by_cases hK1 : (m : Int) ≤ K
  · go_wp2
    go_ret
    exact ⟨rfl, hB5⟩
  obtain ⟨i, rfl⟩ : ∃ i : Nat, I = i := ⟨I.toNat, by omega⟩
  obtain ⟨j, rfl⟩ : ∃ j : Nat, J = j := ⟨J.toNat, by omega⟩
  obtain ⟨k, rfl⟩ : ∃ k : Nat, K = k := ⟨K.toNat, by omega⟩
  have hi : i < m := by omega
  have hj : j < m := by omega
  have hk : k < m := by omega
  have hii : (i : Int) < (m : Int) := by omega
  have hji : (j : Int) < (m : Int) := by omega
  have hki : (k : Int) < (m : Int) := by omega
  go_wp2
  generalize w4.alloc (.cells #[.int .i64 0, .int .i64 0] 27) = w5 at *
  clear s0 s1 t0 t1
  go_loopw [14] (fun a wr => ∃ a9 : Nat, a9 ≤ m ∧ a = .int .i64 a9 ∧ Below w5.heap.size w5 wr) (fun a _ => m - (intOf a).toNat)
  case atStart => exact ⟨0, Nat.zero_le _, rfl, Below.refl _ _⟩
  case round =>
    obtain ⟨a, ha9, rfl, hB⟩ := hrel
    by_cases ha : a < m
    · have hai : (a : Int) < (m : Int) := by omega
      obtain ⟨tc, _, _⟩ := (hC5.below hB).at ha ha ha
      go_wp2
      clear tc
      go_loopw [15] (fun b wr => ∃ b9 : Nat, b9 ≤ m ∧ b = .int .i64 b9 ∧ Below w5.heap.size w5 wr) (fun b _ => m - (intOf b).toNat)
      case atStart => exact ⟨0, Nat.zero_le _, rfl, hB⟩
      case round =>
        clear hB
        obtain ⟨b, hb9, rfl, hB⟩ := hrel
        by_cases hb : b < m
        · have hbi : (b : Int) < (m : Int) := by omega
          obtain ⟨tc, rc, _⟩ := (hC5.below hB).at ha hb ha
          go_wp2
          go_roundw
          case rel => exact ⟨b + 1, by omega, by go_num, hB⟩
          case measure => simp [intOf]; omega
        · have hbi : ¬ (b : Int) < (m : Int) := by omega
          go_wp2
          go_roundw
          case rel => exact ⟨a + 1, by omega, by go_num, hB⟩
          case measure => simp [intOf]; omega
    · have hai : ¬ (a : Int) < (m : Int) := by omega
      clear ha9
      go_wp2
      clear hai
      go_loopw [16, 17] (fun s c wr => ∃ c9 : Nat, c9 ≤ m ∧ c = .int .i64 c9 ∧ s = .int .i64 (sm c9 (fun c => tmk n zs e i j (xd c) n * (lst n (clq n zs e (xd c))).length) : Nat) ∧ Below w5.heap.size w5 wr) (fun _ c _ => m - (intOf c).toNat)
      case atStart => exact ⟨0, Nat.zero_le _, rfl, rfl, hB⟩
      case round =>
        clear hB
        obtain ⟨c, hc9, rfl, rfl, hB⟩ := hrel
        by_cases hc : c < m
        · have hci : (c : Int) < (m : Int) := by omega
          obtain ⟨qb, qo, qc, cq0⟩ := HCC.out c hc
          have hCr := hC5.below hB
          obtain ⟨a1, a2, a3⟩ := hCr.at hi hj hc
          obtain ⟨b1, b2, b3⟩ := hCr.at hj hi hc
          rw [← HCO.out i j c hc] at b3
          have hX := HLE.out i j (xd c)
          have hcl := HLL.out (xd c)
          have hsm : sm c (fun c => tmk n zs e i j (xd c) n * (lst n (clq n zs e (xd c))).length) ≤ c * (60 * 60) := sm_le fun d _ => Nat.mul_le_mul (Nat.le_trans (HLE.out i j (xd d)) hn) (Nat.le_trans (HLL.out (xd d)) hn)
          have hsm2 : c * (60 * 60) ≤ 24 * (60 * 60) := Nat.mul_le_mul_right _ (by omega)
          have HSS := hide (sm_succ c (fun c => tmk n zs e i j (xd c) n * (lst n (clq n zs e (xd c))).length))
          generalize sm c (fun c => tmk n zs e i j (xd c) n * (lst n (clq n zs e (xd c))).length) = Y at *
          obtain ⟨X, hXe⟩ : ∃ X, tmk n zs e i j (xd c) n = X := ⟨_, rfl⟩
          obtain ⟨Q, hQe⟩ : ∃ Q, (lst n (clq n zs e (xd c))).length = Q := ⟨_, rfl⟩
          simp only [hXe, hQe] at a3 b3 hX hcl HSS cq0
          clear hXe hQe
          have hXQ : X * Q ≤ 60 * 60 := Nat.mul_le_mul (by omega) (by omega)
          have hwm : IntKind.i64.wrap ((X : Int) * (Q : Int)) = ((X * Q : Nat) : Int) := by rw [IntKind.wrap_i64, ← Int.natCast_mul]; omega
          have hws : IntKind.i64.wrap ((Y : Int) + ((X * Q : Nat) : Int)) = ((Y + X * Q : Nat) : Int) := by rw [IntKind.wrap_i64]; omega
          go_wp2_with fail
          go_quiet (fail)
          have hbq : Below wr.heap.size wr (wr.drewN nq) := bdrewN (Below.refl _ wr) nq
          generalize wr.drewN nq = wq at hbq ⊢
          have cq := below_cell (bcat2 hB hbq) cq0
          replace a1 := below_cell hbq a1
          replace a2 := below_cell hbq a2
          replace a3 := below_cell hbq a3
          clear b1 b2 b3 cq0
          go_wp2_with fail
          go_quiet (fail)
          have hbq2 : Below wq.heap.size wq (wq.drewN nq) := bdrewN (Below.refl _ wq) nq
          generalize wq.drewN nq = wp at hbq2 ⊢
          have hBp := bcat2 (bcat2 hB hbq) hbq2
          clear a1 a2 a3 cq hB hbq hbq2 hCr
          go_wp2
          go_loopw [18, 19, 20] (fun x y d wr => ∃ d9 : Nat, d9 ≤ m ∧ d = .int .i64 d9 ∧ x = .int .i64 (sm d9 (fun d => tmk n zs e i j (xd d) n * tmk n zs e d k (xd c) n) : Nat) ∧ y = .int .i64 (sm d9 (fun d => tmk n zs e j k (xd d) n * tmk n zs e i d (xd c) n) : Nat) ∧ Below w5.heap.size w5 wr) (fun _ _ d _ => m - (intOf d).toNat)
          case atStart => exact ⟨0, Nat.zero_le _, rfl, rfl, rfl, hBp⟩
          case round =>
            clear hBp
            obtain ⟨d, hd9, rfl, rfl, rfl, hB⟩ := hrel
            by_cases hd : d < m
            · have hdi : (d : Int) < (m : Int) := by omega
              have hCr := hC5.below hB
              obtain ⟨a1, a2, a3⟩ := hCr.at hi hj hd
              obtain ⟨b1, b2, b3⟩ := hCr.at hd hk hc
              obtain ⟨d1, d2, d3⟩ := hCr.at hj hk hd
              obtain ⟨_, e2, e3⟩ := hCr.at hi hd hc
              have q1 := HLE.out i j (xd d)
              have q2 := HLE.out d k (xd c)
              have q3 := HLE.out j k (xd d)
              have q4 := HLE.out i d (xd c)
              have hs1 : sm d (fun d => tmk n zs e i j (xd d) n * tmk n zs e d k (xd c) n) ≤ d * (60 * 60) := sm_le fun d _ => Nat.mul_le_mul (Nat.le_trans (HLE.out i j (xd d)) hn) (Nat.le_trans (HLE.out d k (xd c)) hn)
              have hs2 : sm d (fun d => tmk n zs e j k (xd d) n * tmk n zs e i d (xd c) n) ≤ d * (60 * 60) := sm_le fun d _ => Nat.mul_le_mul (Nat.le_trans (HLE.out j k (xd d)) hn) (Nat.le_trans (HLE.out i d (xd c)) hn)
              have hs3 : d * (60 * 60) ≤ 24 * (60 * 60) := Nat.mul_le_mul_right _ (by omega)
              have H1 := hide (sm_succ d (fun d => tmk n zs e i j (xd d) n * tmk n zs e d k (xd c) n))
              have H2 := hide (sm_succ d (fun d => tmk n zs e j k (xd d) n * tmk n zs e i d (xd c) n))
              generalize sm d (fun d => tmk n zs e i j (xd d) n * tmk n zs e d k (xd c) n) = U at *
              generalize sm d (fun d => tmk n zs e j k (xd d) n * tmk n zs e i d (xd c) n) = V at *
              obtain ⟨P1, hP1⟩ : ∃ X, tmk n zs e i j (xd d) n = X := ⟨_, rfl⟩
              obtain ⟨P2, hP2⟩ : ∃ X, tmk n zs e d k (xd c) n = X := ⟨_, rfl⟩
              obtain ⟨P3, hP3⟩ : ∃ X, tmk n zs e j k (xd d) n = X := ⟨_, rfl⟩
              obtain ⟨P4, hP4⟩ : ∃ X, tmk n zs e i d (xd c) n = X := ⟨_, rfl⟩
              simp only [hP1, hP2, hP3, hP4] at a3 b3 d3 e3 q1 q2 q3 q4 H1 H2
              clear hP1 hP2 hP3 hP4
              have r1 : P1 * P2 ≤ 60 * 60 := Nat.mul_le_mul (by omega) (by omega)
              have r2 : P3 * P4 ≤ 60 * 60 := Nat.mul_le_mul (by omega) (by omega)
              have hw1 : IntKind.i64.wrap ((P1 : Int) * (P2 : Int)) = ((P1 * P2 : Nat) : Int) := by rw [IntKind.wrap_i64, ← Int.natCast_mul]; omega
              have hw2 : IntKind.i64.wrap ((U : Int) + ((P1 * P2 : Nat) : Int)) = ((U + P1 * P2 : Nat) : Int) := by rw [IntKind.wrap_i64]; omega
              have hw3 : IntKind.i64.wrap ((P3 : Int) * (P4 : Int)) = ((P3 * P4 : Nat) : Int) := by rw [IntKind.wrap_i64, ← Int.natCast_mul]; omega
              have hw4 : IntKind.i64.wrap ((V : Int) + ((P3 * P4 : Nat) : Int)) = ((V + P3 * P4 : Nat) : Int) := by rw [IntKind.wrap_i64]; omega
              go_wp2_with fail
              go_quiet (fail)
              have hbq : Below wr.heap.size wr (wr.drewN nq) := bdrewN (Below.refl _ wr) nq
              generalize wr.drewN nq = wq at hbq ⊢
              replace a1 := below_cell hbq a1
              replace d1 := below_cell hbq d1
              replace d2 := below_cell hbq d2
              replace d3 := below_cell hbq d3
              replace e2 := below_cell hbq e2
              replace e3 := below_cell hbq e3
              clear a2 a3 b1 b2 b3 hCr
              go_wp2_with fail
              go_quiet (fail)
              have hbq2 : Below wq.heap.size wq (wq.drewN nq) := bdrewN (Below.refl _ wq) nq
              generalize wq.drewN nq = wp at hbq2 ⊢
              clear a1 d1 d2 d3 e2 e3
              have hBp := bcat2 (bcat2 hB hbq) hbq2
              go_wp2
              go_roundw
              case rel => exact ⟨d + 1, by omega, by go_num, by rw [H1.out]; simp, by rw [H2.out]; simp, hBp⟩
              case measure => simp [intOf]; omega
            · have hdi : ¬ (d : Int) < (m : Int) := by omega
              obtain rfl : d = m := by omega
              rw [HAS.out i j k c hc]
              generalize sm d (fun d => tmk n zs e j k (xd d) n * tmk n zs e i d (xd c) n) = V at *
              go_wp2
              go_roundw
              case rel => exact ⟨c + 1, by omega, by go_num, by rw [HSS.out]; simp, hB⟩
              case measure => simp [intOf]; omega
        · have hci : ¬ (c : Int) < (m : Int) := by omega
          obtain rfl : c = m := by omega
          rw [HSU.out i j hi hj]
          obtain ⟨ib, io, ic, ci0⟩ := HCC.out i hi
          obtain ⟨jb, jo, jc, cj0⟩ := HCC.out j hj
          have ci := below_cell hB ci0
          have cj := below_cell hB cj0
          have hKl := HLL.out (xd i)
          have hLl := HLL.out (xd j)
          clear ci0 cj0 HSU
          generalize (lst n (clq n zs e (xd i))).length = A at *
          generalize (lst n (clq n zs e (xd j))).length = B at *
          have hAB : A * B ≤ 60 * 60 := Nat.mul_le_mul (by omega) (by omega)
          have hwm : IntKind.i64.wrap ((A : Int) * (B : Int)) = ((A * B : Nat) : Int) := by rw [IntKind.wrap_i64, ← Int.natCast_mul]; omega
          go_wp2_with fail
          go_quiet (fail)
          have hbq : Below wr.heap.size wr (wr.drewN nq) := bdrewN (Below.refl _ wr) nq
          generalize wr.drewN nq = wq at hbq ⊢
          go_wp2
          go_ret
          exact ⟨rfl, bcat2 hB5 (bcat2 hB hbq)⟩
theorem clsum_law (N I J K : Int) (v : Value) (zs : List Int) (w : World) (hv : Sl w v zs) (hT : Tab w) :
    Calls Tryd.prog 6 #[.agg #[.int .i64 N, v], .int .i64 I, .int .i64 J, .int .i64 K] w fun x w' => x = .returned (.bool true) ∧ Below w.heap.size w w' := by
  by_cases hc : (gfault N zs).1 = 0
  · obtain ⟨n, e, rfl, hg, _⟩ := gfault_grp hc
    by_cases hm : 24 < (rcs n (clq n zs e) n).length
    · exact clsum_many n e I J K v zs w hv hT hg hm
    · exact clsum_good n e I J K v zs w hv hT hg (by omega)
  · exact clsum_bad N I J K v zs w hv hT hc
end Go.Proofs.YtobnfbnholbfoaaDoor

namespace Go.Proofs.YtobnfbnholbfoaaDoor
open Go.ChangeShapes Go.WideShapes Go.ChangeAt Go.RowKit

theorem own : ownKnob Tryd.prog.godebug = none := by kernel_rfl
theorem laidOut : laidOutB Tryd.prog = true := by kernel_rfl

/-- A slice of ints that reads as zs; where nothing is in it, nothing is told of the memory. -/
def SlA (w : World) (v : Value) (zs : List Int) : Prop := ∃ a cap pb po, v = .slice a zs.length cap ∧ Reads w a pb po zs ∧ (0 < zs.length → pb < w.heap.size) ∧ zs.length ≤ cap ∧ cap ≤ maxLen
theorem SlA.up {w w' : World} {v : Value} {zs : List Int} (h : SlA w v zs) (hb : Below w.heap.size w w') (h0 : 0 < w'.heap.size) : Sl w' v zs := by
  obtain ⟨a, cap, pb, po, hv, hr, hp, h1, h2⟩ := h
  rcases Nat.eq_zero_or_pos zs.length with hz | hz
  · exact ⟨a, cap, 0, 0, hv, ⟨fun h => by omega, fun j hj => by omega⟩, h0, h1, h2⟩
  · exact ⟨a, cap, pb, po, hv, hr.below hb (hp hz), Nat.lt_of_lt_of_le (hp hz) hb.size, h1, h2⟩
theorem SlA.of {w : World} {v : Value} {zs : List Int} (h : Sl w v zs) : SlA w v zs := by
  obtain ⟨a, cap, pb, po, hv, hr, hp, h1, h2⟩ := h
  exact ⟨a, cap, pb, po, hv, hr, fun _ => hp, h1, h2⟩

theorem und24 : ∃ f0 f1 : Field, Tryd.prog.underlying 24 = some (.struct #[f0, f1]) ∧ f0.type = 3 ∧ f1.type = 22 ∧ f0.offset = 0 ∧ f1.offset = 1 := ⟨_, _, Tryd.underlying24, rfl, rfl, rfl, rfl⟩
theorem und3 : Tryd.prog.underlying 3 = some (.int .i64) := by kernel_rfl
theorem und22 : Tryd.prog.underlying 22 = some (.slice 3) := by kernel_rfl
theorem und4 : Tryd.prog.underlying 4 = some .bool := by kernel_rfl

set_option maxRecDepth 100000 in
/-- What is told of a table that came in. -/
theorem open_group {H : Type} {enc : TypeId × Value → H} {W : World} {b0 : Nat} {v : Value} {d : DataW H} {ps : List MemPlace} (hval : Value.okWide Tryd.prog W .any b0 24 v)
    (hd : DataW.Trod enc Tryd.prog W 0 (fun _ => true) true 24 v d ps) :
    ∃ N u zs, v = .agg #[.int .i64 N, u] ∧ SlA W u zs ∧ (Lit.int .i64 N).wf = true ∧ ((d.weights Tryd.prog 24).all (· ≤ reachBytes) = true → zs.length * 8 ≤ 140737488355328) := by
  obtain ⟨f0, f1, hu, ht0, ht1, ho0, ho1⟩ := und24
  obtain ⟨cs, rfl, hsz⟩ := okWide_struct hu hval
  rw [show Tryd.prog.cellsOf 24 = 2 by kernel_rfl] at hsz
  obtain ⟨l⟩ := cs
  match l, hsz with
  | [c0, c1], _ =>
  obtain ⟨fuel, hf⟩ := hd
  obtain ⟨y0, y1, m, hx, _, hy0, hy1⟩ := trod_struct2 hu hf
  rw [ht0, ho0, show Tryd.prog.cellsOf 3 = 1 by kernel_rfl] at hy0
  rw [ht1, ho1, show Tryd.prog.cellsOf 22 = 1 by kernel_rfl] at hy1
  obtain ⟨N, e0, rfl, wN⟩ := DataW.trod_int und3 hy0
  simp [Value.cells] at e0
  subst e0
  simp [Value.cells] at hy1
  rcases open_ints und22 und3 (by kernel_rfl) hy1 with ⟨hcs, _⟩ | ⟨x, l, c, zs, hcs, _, hl, hm, hz, heq, hcell, hwz⟩
  · simp at hcs
    subst hcs
    exact ⟨N, _, [], rfl, ⟨none, 0, 0, 0, rfl, ⟨by simp, by simp⟩, by simp, by simp, by unfold maxLen; omega⟩, wN, fun _ => by simp⟩
  · simp at hcs
    subst hcs
    have hzc : zs.length = c := by simpa using hz
    have hlen : (zs.take l).length = l := by rw [List.length_take]; omega
    refine ⟨N, _, zs.take l, rfl, ?_, wN, fun hw => ?_⟩
    · by_cases hpos : 0 < c
      · obtain ⟨b, o, rfl, hc'⟩ := ints_at hcell (by omega)
        refine ⟨some ⟨b, o, none⟩, c, b, o, by rw [hlen], ⟨fun _ => rfl, fun j hj => ?_⟩, fun _ => World.block_lt_of_cell? W _ (hc' 0 (by omega)), by omega, hm⟩
        rw [hlen] at hj
        rw [hc' j (by omega), List.getElem?_take, if_pos hj, List.getD_eq_getElem?_getD]
      · have : l = 0 := by omega
        subst this
        exact ⟨some x, c, 0, 0, by simp, ⟨by simp, by simp⟩, by simp, by simp, hm⟩
    · have hd : d = .agg [.lit (.int .i64 N), .slice (lits .i64 (zs.take l)) (lits .i64 (zs.drop l))] := by
        have h1 := congrArg Prod.fst hx
        simp only [heq] at h1
        exact h1
      have hw2 := List.all_eq_true.1 hw (((lits (H := H) .i64 (zs.take l)).length + (lits (H := H) .i64 (zs.drop l)).length) * Tryd.prog.bytesOf 3) (by
        rw [hd]; simp [DataW.weights, DataW.weightsEach, hu, ht0, ht1])
      rw [show Tryd.prog.bytesOf 3 = 8 by kernel_rfl] at hw2
      simp only [lits, List.length_map, decide_eq_true_eq] at hw2
      unfold reachBytes at hw2
      omega
end Go.Proofs.YtobnfbnholbfoaaDoor

namespace Go.Proofs.YtobnfbnholbfoaaDoor
open Go.ChangeShapes Go.WideShapes Go.ChangeAt Go.RowKit

/-- What the rows list. -/
def laid1 : List (String × DataW Unit) := Rows.classAllRow.laid
def tabZ : List Int := Lib.deBruijn64tab.map fun (x : Nat) => (x : Int)
theorem tab_data : (Rows.laid_math_bits_deBruijn64tab : DataW Unit) = Lib.tabData .u8 tabZ := by kernel_rfl
/-- The door's own heap meets the condition. -/
theorem door_met (os : Os) (args : Array Value) : laidMetH Tryd.prog laid1 ((World.doorLaid Tryd.prog 400 os).forCall (fun _ _ => 0) ⟨#[], args, []⟩).memory :=
  laidMetH_of_parts3 (fuel := 8) (laidMet_of_run' 8 (by kernel_rfl) (by kernel_rfl)) (by kernel_rfl) (by kernel_rfl)
theorem tab_of_laid {W : World} (h : laidMetH Tryd.prog laid1 W) : Tab W := by
  rw [MakeChecks.laidMetH_plain _ _ _ (by kernel_rfl)] at h
  have h2 : laidMet Tryd.prog [("math/bits.deBruijn64tab", (Rows.laid_math_bits_deBruijn64tab : DataW Unit))] W := h
  rw [tab_data] at h2
  have hg : Tryd.prog.globalNamed "math/bits.deBruijn64tab" = some 0 := by kernel_rfl
  have hT := Lib.tabIs_of_head hg (t := 108) (e := 5) (n := 64) (by kernel_rfl) (by kernel_rfl) (by kernel_rfl) (by kernel_rfl) (by kernel_rfl) h2
  intro j hj
  have hj' : j < tabZ.length := by simpa [tabZ] using hj
  have hc := hT.cell hg j hj'
  rw [hc]
  simp [tabZ, hj]
set_option maxRecDepth 100000 in
/-- A list of ints that came in: its value, what it reads as, and its size. -/
theorem open_list {H : Type} {enc : TypeId × Value → H} {W : World} {b0 : Nat} {v : Value} {d : DataW H} {ps : List MemPlace} (hval : Value.okWide Tryd.prog W .any b0 22 v)
    (hd : DataW.Trod enc Tryd.prog W 0 (fun _ => true) true 22 v d ps) (h0 : 0 < W.heap.size) :
    ∃ zs, Sl W v zs ∧ ((d.weights Tryd.prog 22).all (· ≤ reachBytes) = true → zs.length * 8 ≤ 140737488355328) := by
  obtain ⟨a, len, cap, rfl⟩ := okWide_slice und22 hval
  obtain ⟨fuel, hf⟩ := hd
  rcases open_ints und22 und3 (by kernel_rfl) hf with ⟨hcs, _⟩ | ⟨x, l, c, zs, hcs, _, hl, hm, hz, heq, hcell, hwz⟩
  · simp [Value.cells] at hcs
    obtain ⟨rfl, rfl, rfl⟩ := hcs
    exact ⟨[], Sl.nil h0, fun _ => by simp⟩
  · simp [Value.cells] at hcs
    obtain ⟨rfl, rfl, rfl⟩ := hcs
    have hzc : zs.length = cap := by simpa using hz
    have hlen : (zs.take len).length = len := by rw [List.length_take]; omega
    refine ⟨zs.take len, ?_, fun hw => ?_⟩
    · by_cases hpos : 0 < cap
      · obtain ⟨b, o, rfl, hc'⟩ := ints_at hcell (by omega)
        refine ⟨some ⟨b, o, none⟩, cap, b, o, by rw [hlen], ⟨fun _ => rfl, fun j hj => ?_⟩, World.block_lt_of_cell? W _ (hc' 0 (by omega)), by omega, hm⟩
        rw [hlen] at hj
        rw [hc' j (by omega), List.getElem?_take, if_pos hj, List.getD_eq_getElem?_getD]
      · have : len = 0 := by omega
        subst this
        exact ⟨some x, cap, 0, 0, by simp, ⟨by simp, by simp⟩, h0, by simp, hm⟩
    · simp only [Prod.mk.injEq] at heq
      have hw2 := List.all_eq_true.1 hw (((lits (H := H) .i64 (zs.take len)).length + (lits (H := H) .i64 (zs.drop len)).length) * Tryd.prog.bytesOf 3) (by
        rw [heq.1]; simp [DataW.weights])
      rw [show Tryd.prog.bytesOf 3 = 8 by kernel_rfl] at hw2
      simp only [lits, List.length_map, decide_eq_true_eq] at hw2
      unfold reachBytes at hw2
      omega
end Go.Proofs.YtobnfbnholbfoaaDoor
