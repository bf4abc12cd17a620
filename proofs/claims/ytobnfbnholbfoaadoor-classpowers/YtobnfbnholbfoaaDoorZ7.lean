/- A group of a power of p things that moves things: what does not stay is a multiple of p; orbits and what stays. No condition. Package sub's Central at a group and one thing; the class equation. Condition: the library's table of places lies as its text lays it. What package class's Powers and Pairs answer. Condition: the library's table of places lies as its text lays it. Pairs that commute; the closures of the law ClassPowers. Condition: the library's table of places lies as its text lays it. The law ClassPowers. Condition: the library's table of places lies as its text lays it. The frame that all rows of this family share: how a table that came in reads. The frame that all rows of this family share: what the listed table gives a walk; how a list of ints that came in reads. -/
import Derived.Test.YtobnfbnholbfoaaDoorZ5
import Derived.Test.YtobnfbnholbfoaaDoorZ1
import Derived.Test.YtobnfbnholbfoaaDoorZ6
import Derived.Test.YtobnfbnholbfoaaDoorRows
import Derived.ProofKit
import Derived.OpenShut
import Derived.ChangeOld
import Derived.Below
import Derived.SizedLaws
import Derived.LaidMore
import Derived.Stop.Joined
import Derived.Stop.LaidErr
import Derived.Lib.LaidTab
namespace Go.Proofs.YtobnfbnholbfoaaDoor
theorem dvd_pw {p : Nat} (hp : 2 ≤ p ∧ ∀ d, d ∣ p → d = 1 ∨ d = p) : ∀ (k d : Nat), d ∣ p ^ k → isPw d p
  | 0, d, h => ⟨0, Nat.dvd_one.1 h⟩
  | k + 1, d, h => by
    by_cases hd : p ∣ d
    · obtain ⟨c, rfl⟩ := hd
      rw [Nat.pow_succ, Nat.mul_comm (p ^ k)] at h
      obtain ⟨j, hj⟩ := dvd_pw hp k c (Nat.dvd_of_mul_dvd_mul_left (by omega) h)
      exact ⟨j + 1, by rw [hj, Nat.pow_succ, Nat.mul_comm]⟩
    · have hco : Nat.Coprime d p := by
        rcases hp.2 _ (Nat.gcd_dvd_right d p) with h1 | h1
        · exact h1
        · exact absurd (h1 ▸ Nat.gcd_dvd_left d p) hd
      rw [Nat.pow_succ] at h
      exact dvd_pw hp k d (hco.dvd_of_dvd_mul_right h)
namespace Fin
variable {P X : List Nat} {m t : Nat → Nat → Nat} {e : Nat}
/-- A group that moves the things of a list. -/
structure Mv (P X : List Nat) (m : Nat → Nat → Nat) (e : Nat) (t : Nat → Nat → Nat) : Prop where
  mem : ∀ c x, c ∈ X → x ∈ P → t c x ∈ X
  one : ∀ c, c ∈ X → t c e = c
  mul : ∀ c x y, c ∈ X → x ∈ P → y ∈ P → t (t c x) y = t c (m x y)
def fixB (P : List Nat) (t : Nat → Nat → Nat) (c : Nat) : Bool := P.all fun x => decide (t c x = c)
def orbB (P : List Nat) (t : Nat → Nat → Nat) (c d : Nat) : Bool := P.any fun x => decide (t c x = d)
theorem orbB_iff {c d : Nat} : orbB P t c d = true ↔ ∃ x, x ∈ P ∧ t c x = d := by unfold orbB; simp
theorem fixB_iff {c : Nat} : fixB P t c = true ↔ ∀ x, x ∈ P → t c x = c := by unfold fixB; simp
theorem orb_back (F : Fg P m e) (M : Mv P X m e t) {c x : Nat} (hc : c ∈ X) (hx : x ∈ P) : ∃ y, y ∈ P ∧ t (t c x) y = c := by
  obtain ⟨y, hy, h1, _⟩ := F.inv x hx
  exact ⟨y, hy, by rw [M.mul c x y hc hx hy, h1, M.one c hc]⟩
theorem orb_same (F : Fg P m e) (M : Mv P X m e t) {c d z : Nat} (hc : c ∈ X) (hd : d ∈ X) (h : orbB P t c d = true) : orbB P t c z = orbB P t d z := by
  obtain ⟨x, hx, rfl⟩ := orbB_iff.1 h
  rw [Bool.eq_iff_iff, orbB_iff, orbB_iff]
  obtain ⟨y, hy, hb⟩ := orb_back F M hc hx
  constructor
  · rintro ⟨u, hu, rfl⟩
    exact ⟨m y u, F.cl _ _ hy hu, by rw [← M.mul _ _ _ hd hy hu, hb]⟩
  · rintro ⟨u, hu, rfl⟩
    exact ⟨m x u, F.cl _ _ hx hu, (M.mul _ _ _ hc hx hu).symm⟩
theorem orb_len (F : Fg P m e) (M : Mv P X m e t) (hX : X.Nodup) {c : Nat} (hc : c ∈ X) : P.length = (X.filter (orbB P t c)).length * (P.filter fun x => decide (t c x = c)).length := by
  refine fib_len (fun x => t c x) _ _ _ (hX.filter _) (fun x hx => List.mem_filter.2 ⟨M.mem c x hc hx, orbB_iff.2 ⟨x, hx, rfl⟩⟩) (fun k hk => ?_)
  obtain ⟨hk1, hk2⟩ := List.mem_filter.1 hk
  obtain ⟨x, hx, rfl⟩ := orbB_iff.1 hk2
  symm
  refine bij_len (fun y => m y x) (F.nd.filter _) (F.nd.filter _) (fun y hy => ?_) (fun y z hy hz h => F.canR hx (List.mem_filter.1 hy).1 (List.mem_filter.1 hz).1 h) (fun z hz => ?_)
  · obtain ⟨h1, h2⟩ := List.mem_filter.1 hy
    refine List.mem_filter.2 ⟨F.cl _ _ h1 hx, decide_eq_true ?_⟩
    rw [← M.mul c y x hc h1 hx, of_decide_eq_true h2]
  · obtain ⟨h1, h2⟩ := List.mem_filter.1 hz
    obtain ⟨y, hy, i1, i2⟩ := F.inv x hx
    refine ⟨m z y, List.mem_filter.2 ⟨F.cl _ _ h1 hy, decide_eq_true ?_⟩, ?_⟩
    · rw [← M.mul c z y hc h1 hy, of_decide_eq_true h2, M.mul c x y hc hx hy, i1, M.one c hc]
    · show m (m z y) x = z
      rw [F.ass _ _ _ h1 hy hx, i2, F.right z h1]
theorem fix_dvd {p : Nat} (hp : 2 ≤ p ∧ ∀ d, d ∣ p → d = 1 ∨ d = p) (F : Fg P m e) (M : Mv P X m e t) (hX : X.Nodup) (hP : isPw P.length p) : p ∣ (X.filter fun c => !fixB P t c).length := by
  obtain ⟨k, hk⟩ := hP
  refine part_dvd p (orbB P t) _ _ (Nat.le_refl _) (fun c hc => ?_) (fun c d z hc hd hz h => ?_) (fun c hc => ?_)
  · exact orbB_iff.2 ⟨e, F.one, M.one c (List.mem_filter.1 hc).1⟩
  · exact orb_same F M (List.mem_filter.1 hc).1 (List.mem_filter.1 hd).1 h
  · obtain ⟨h1, h2⟩ := List.mem_filter.1 hc
    have hsame : (X.filter fun c => !fixB P t c).filter (orbB P t c) = X.filter (orbB P t c) := by
      rw [List.filter_filter]
      refine filter_eq fun z hz => ?_
      cases ho : orbB P t c z with
      | false => simp
      | true =>
        have hno : fixB P t z = false := by
          rw [Bool.eq_false_iff]
          intro hf
          obtain ⟨x, hx, hxz⟩ := orbB_iff.1 ho
          obtain ⟨y, hy, hb⟩ := orb_back F M h1 hx
          rw [hxz, fixB_iff.1 hf y hy] at hb
          rw [hb] at hf
          simp [hf] at h2
        simp [hno]
    rw [hsame]
    have hl := orb_len F M hX h1
    have hd : (X.filter (orbB P t c)).length ∣ p ^ k := hk ▸ ⟨_, hl⟩
    obtain ⟨j, hj⟩ := dvd_pw hp k _ hd
    cases j with
    | zero =>
      exfalso
      have hfx : fixB P t c = true := fixB_iff.2 fun x hx => by
        have m1 : c ∈ X.filter (orbB P t c) := List.mem_filter.2 ⟨h1, orbB_iff.2 ⟨e, F.one, M.one c h1⟩⟩
        have m2 : t c x ∈ X.filter (orbB P t c) := List.mem_filter.2 ⟨M.mem c x h1 hx, orbB_iff.2 ⟨x, hx, rfl⟩⟩
        obtain ⟨d, hd1⟩ := List.length_eq_one_iff.1 hj
        rw [hd1, List.mem_singleton] at m1 m2
        exact m2.trans m1.symm
      simp [hfx] at h2
    | succ j => rw [hj, Nat.pow_succ]; exact ⟨p ^ j, Nat.mul_comm _ _⟩
theorem fix_mod {p : Nat} (hp : 2 ≤ p ∧ ∀ d, d ∣ p → d = 1 ∨ d = p) (F : Fg P m e) (M : Mv P X m e t) (hX : X.Nodup) (hP : isPw P.length p) : X.length % p = (X.filter (fixB P t)).length % p := by
  obtain ⟨c, hc⟩ := fix_dvd hp F M hX hP
  rw [split_len (fixB P t) X, hc, Nat.add_mul_mod_self_left]
end Fin
end Go.Proofs.YtobnfbnholbfoaaDoor

namespace Go.Proofs.YtobnfbnholbfoaaDoor
open Go Go.RowKit Go.Maps

theorem cj_mv {n e : Nat} {zs : List Int} (g : IsGrp n zs e) : Fin.Mv (List.range n) (List.range n) (tm n zs) e (Fin.cj (tm n zs) (iv n zs e)) where
  mem _ _ hc hx := Fin.cj_mem (grp_fg g) (grp_iv g) hc hx
  one _ hc := Fin.cj_id (grp_fg g) (grp_iv g) hc
  mul _ _ _ hc hx hy := Fin.cj_cj (grp_fg g) (grp_iv g) hc hx hy
theorem cj_stay {n e x a : Nat} {zs : List Int} (g : IsGrp n zs e) (hx : x < n) (ha : a < n) : Fin.cj (tm n zs) (iv n zs e) x a = x ↔ tm n zs a x = tm n zs x a := by
  have h1 := Fin.cj_eq (grp_fg g) (grp_iv g) (List.mem_range.2 hx) (List.mem_range.2 ha)
  constructor
  · intro h; rw [h] at h1; exact h1
  · intro h; exact Fin.cj_unique (grp_fg g) (grp_iv g) (List.mem_range.2 hx) (List.mem_range.2 hx) (List.mem_range.2 ha) h
theorem cls_cent {n e x : Nat} {zs : List Int} (g : IsGrp n zs e) (hx : x < n) : (lst n (cenq n zs (pset [(x : Int)]))).length * (lst n (clq n zs e x)).length = n := by
  have h := Fin.orb_len (grp_fg g) (cj_mv g) List.nodup_range (List.mem_range.2 hx)
  rw [List.length_range] at h
  have h1 : (List.range n).filter (Fin.orbB (List.range n) (Fin.cj (tm n zs) (iv n zs e)) x) = lst n (clq n zs e x) := rfl
  have hs : lst n (pset [(x : Int)]) = [x] := by
    have h0 : lfault n [(x : Int)] = (0, 0) := lfault_ok (by simp; omega) (fun t ht => by
      have : t = 0 := by simp at ht; exact ht
      subst this
      simp [rbad, fbad]; omega)
    have h9 := set_lst (n := n) (ls := [(x : Int)]) (by rw [h0])
    have h10 : li [x] = li (lst n (pset [(x : Int)])) := h9
    exact (li_inj h10).symm
  have h2 : ((List.range n).filter fun a => decide (Fin.cj (tm n zs) (iv n zs e) x a = x)) = lst n (cenq n zs (pset [(x : Int)])) := by
    unfold lst
    refine List.filter_congr fun a ha => ?_
    have ha := List.mem_range.1 ha
    unfold cenq
    rw [hs]
    simp [cj_stay g hx ha]
  rw [h1, h2] at h
  rw [Nat.mul_comm]; exact h.symm
theorem lf_one {n x : Nat} (hx : x < n) : lfault n [(x : Int)] = (0, 0) := lfault_ok (by simp; omega) (fun t ht => by
      have : t = 0 := by simp at ht; exact ht
      subst this
      simp [rbad, fbad]; omega)
theorem len_or (l : List Nat) (p q : Nat → Bool) (h : ∀ y, y ∈ l → ¬ (p y = true ∧ q y = true)) : (l.filter fun y => p y || q y).length = (l.filter p).length + (l.filter q).length := by
  induction l with
  | nil => rfl
  | cons a l ih =>
    have h1 := ih fun y hy => h y (List.mem_cons_of_mem _ hy)
    have h2 := h a (List.mem_cons_self ..)
    rw [List.filter_cons, List.filter_cons, List.filter_cons]
    cases hp : p a <;> cases hq : q a <;> simp_all <;> omega
/-- All things of the sets that are told so far. -/
theorem Prts.sum_len {n : Nat} {f : Nat → Nat → Bool} (h : Prts n f) : ∀ k, k ≤ n → ((rcs n f k).map List.length).sum = (lst n (mt f k)).length
  | 0, _ => by
    show 0 = ((List.range n).filter fun _ => false).length
    rw [List.filter_eq_nil_iff.2 (by simp)]
    rfl
  | k + 1, hk => by
    have ih := h.sum_len k (by omega)
    have hlt : k < n := by omega
    cases hm : mt f k k with
    | true =>
      rw [rcs_no (fun h9 => by have := (h.mt_head hlt).2 h9; rw [hm] at this; cases this), ih]
      exact congrArg List.length (lst_congr fun y hy => (h.mt_old hlt hy hm).symm)
    | false =>
      rw [rcs_yes ((h.mt_head hlt).1 hm), List.map_append, List.sum_append, ih]
      have h1 : lst n (mt f (k + 1)) = (List.range n).filter fun y => mt f k y || f k y := lst_congr fun y _ => mt_succ
      rw [h1, len_or _ _ _ (fun y hy h2 => ?_)]
      · simp [li, lst]
      · have hy := List.mem_range.1 hy
        obtain ⟨a, ha, h3⟩ := mt_iff.1 h2.1
        have h4 : f a k = true := by
          rw [h.same a y (by omega) hy h3 k hlt]
          exact h.symm hlt hy h2.2
        rw [mt_iff.2 ⟨a, ha, h4⟩] at hm
        cases hm
theorem Prts.sum_all {n : Nat} {f : Nat → Nat → Bool} (h : Prts n f) : ((rcs n f n).map List.length).sum = n := by
  rw [h.sum_len n (Nat.le_refl _)]
  have h1 : lst n (mt f n) = List.range n := by
    unfold lst
    rw [List.filter_eq_self]
    intro a ha
    exact mt_iff.2 ⟨a, List.mem_range.1 ha, h.refl a (List.mem_range.1 ha)⟩
  rw [h1, List.length_range]
/-- What stands at a place of the sets. -/
theorem rcs_at {n t : Nat} {f : Nat → Nat → Bool} (ht : t < (rcs n f n).length) : ∃ x, x < n ∧ (lst n (f x)).head? = some x ∧ (rcs n f n)[t]? = some (li (lst n (f x))) := by
  have h1 : (rcs n f n)[t] ∈ rcs n f n := List.getElem_mem ht
  unfold rcs at h1
  obtain ⟨x, hx, h2⟩ := List.mem_map.1 h1
  rw [List.mem_filter, List.mem_range, decide_eq_true_eq] at hx
  refine ⟨x, hx.1, hx.2, ?_⟩
  rw [List.getElem?_eq_getElem ht]
  exact congrArg some h2.symm

set_option maxRecDepth 100000 in
set_option maxHeartbeats 4000000 in
theorem cenl_good (n e : Nat) (v u : Value) (zs ls : List Int) (w : World) (hv : Sl w v zs) (hg : IsGrp n zs e) (hu : Sl w u ls) (hc : lfault n ls = (0, 0)) (hT : Tab w) :
    Calls Tryd.prog 16 #[.agg #[.int .i64 n, v], u] w fun x w' => ∃ r, x = .returned (.tuple #[r, .agg #[.int .i64 0, .int .i64 0]]) ∧ Sl w' r (li (lst n (cenq n zs (pset ls)))) ∧ Below w.heap.size w w' := by
  obtain ⟨va, vl, vc, rfl⟩ := hv.isSlice
  obtain ⟨w0, BG⟩ := Beg.new w n (.slice va vl vc)
  have hv0 := hv.below BG.bel
  obtain ⟨c0, c1, _, _⟩ := BG.box.two
  have HCK := hide (oset_good n e (.slice va vl vc) u zs ls w0 hv0 hg (hu.below BG.bel) hc)
  rw [BG.eq] at c0 c1
  go_enter Tryd.func16, Tryd.ntmps16
  go_wp2_with fail
  rw [← BG.eq]
  refine HCK.out.mono ?_
  rintro x w1 ⟨iv9, rfl, hSI, hb1⟩
  obtain ⟨ia, il, ic, rfl⟩ := hSI.sl.isSlice
  clear c0 c1 HCK
  obtain ⟨w2, hw2⟩ : ∃ w2, w2 = (w1.alloc (.cells #[.int .i64 n, (.slice va vl vc), .int .i64 e, (.slice ia il ic)] 63)).alloc (.cells #[.int .i64 0, .int .i64 0] 27) := ⟨_, rfl⟩
  have hb2 : Below w1.heap.size w1 w2 := by rw [hw2]; exact (balloc w1 _).alloc (by simp) _
  have hB1 : Below w0.heap.size w0 w2 := bcat2 hb1 hb2
  have hF1 : Blk w2 (w1.heap.size + 1) 27 [.int .i64 0, .int .i64 0] := by
    rw [hw2]
    have := blk0 (w := w1.alloc (.cells #[.int .i64 n, (.slice va vl vc), .int .i64 e, (.slice ia il ic)] 63)) (T := 27) (.int .i64 0) (.int .i64 0)
    rwa [World.size_alloc] at this
  have hH2 : Blk w2 w1.heap.size 63 [.int .i64 n, (.slice va vl vc), .int .i64 e, (.slice ia il ic)] := by
    rw [hw2]; exact (blk4 _ _ _ _).alloc _
  have hBw2 := bcat BG.bel hB1 BG.bel.size
  have hR2 := blk_below BG.res hB1
  have hT2 := hT.below hBw2
  have hGA2 : GA w2 n (.slice va vl vc) e (.slice ia il ic) zs := ⟨hg, hv.below hBw2, (hSI.below hb2).sl⟩
  obtain ⟨t0, t1, _, _⟩ := hF1.two
  obtain ⟨_, h0, h1, h2, h3, _⟩ := Four.mk' hH2
  have HC := hide (central_ok n (.slice va vl vc) (.slice ia il ic) zs e (pset ls) w2 hGA2 hT2)
  have HL := hide (fun W (h : Below w2.heap.size w2 W) => list_ok n (cenq n zs (pset ls)) W hg.tab.le (hT2.below h))
  generalize bs (cenq n zs (pset ls)) n = C at *
  rw [hw2] at t0 t1 h0 h1 h2 h3
  go_wp2_with fail
  rw [← hw2]
  clear hw2 t0 t1 h0 h1 h2 h3
  refine HC.out.mono ?_
  rintro x w3 ⟨rfl, hb3⟩
  go_wp2_with fail
  refine (HL.out _ hb3).mono ?_
  rintro x w4 ⟨r, rfl, hr, hb4⟩
  have hb24 := bcat2 hb3 hb4
  have hR4 := blk_below hR2 hb24
  have hB4 := bcat2 hBw2 hb24
  obtain ⟨_, y0, y1, fy0, fy1, s0, s1⟩ := Two.mk' hR4
  have hr4 := hr.sl
  obtain ⟨ra, rl, rc, rfl⟩ := hr4.isSlice
  go_wp2
  exact bodyPost_ret (v := .tuple #[.slice ra rl rc, .agg #[.int .i64 0, .int .i64 0]]) (by simp [results, Tryd.results16, go_sem, y0, y1]) rfl ⟨_, rfl, hr4, hB4⟩
end Go.Proofs.YtobnfbnholbfoaaDoor

namespace Go.Proofs.YtobnfbnholbfoaaDoor
open Go Go.RowKit Go.Maps

set_option maxRecDepth 100000 in
set_option maxHeartbeats 4000000 in
theorem pai_bad (N : Int) (v : Value) (zs : List Int) (w : World) (hv : Sl w v zs) (hc : (gfault N zs).1 ≠ 0) :
    Calls Tryd.prog 22 #[.agg #[.int .i64 N, v]] w fun x w' => x = .returned (.tuple #[.int .i64 0, .agg #[.int .i64 (gfault N zs).1, .int .i64 (gfault N zs).2]]) ∧ Below w.heap.size w w' := by
  obtain ⟨w0, BG⟩ := Beg.new w N v
  have HCK := hide (kop_bad N v zs w0 (hv.below BG.bel) hc)
  obtain ⟨c0, c1, _, _⟩ := BG.box.two
  have hcb : ((gfault N zs).1 != 0) = true := by simpa using hc
  generalize (gfault N zs).1 = c at *
  generalize (gfault N zs).2 = i at *
  rw [BG.eq] at c0 c1
  go_enter Tryd.func22, Tryd.ntmps22
  go_wp2_with fail
  rw [← BG.eq]
  refine HCK.out.mono ?_
  rintro x w1 ⟨rfl, hb1⟩
  clear c0 c1
  obtain ⟨w2, hw2⟩ : ∃ w2, w2 = (w1.alloc (.cells #[.int .i64 0, .slice none 0 0, .int .i64 0, .slice none 0 0, .slice none 0 0, .slice none 0 0] 65)).alloc (.cells #[.int .i64 c, .int .i64 i] 27) := ⟨_, rfl⟩
  have hB1 : Below w0.heap.size w0 w2 := by rw [hw2]; exact bcat2 hb1 ((balloc w1 _).alloc (by simp) _)
  have hF1 : Blk w2 (w1.heap.size + 1) 27 [.int .i64 c, .int .i64 i] := by
    rw [hw2]
    have := blk0 (w := w1.alloc (.cells #[.int .i64 0, .slice none 0 0, .int .i64 0, .slice none 0 0, .slice none 0 0, .slice none 0 0] 65)) (T := 27) (.int .i64 c) (.int .i64 i)
    rwa [World.size_alloc] at this
  have hR1 := blk_below BG.res hB1
  have hBw := bcat BG.bel hB1 BG.bel.size
  obtain ⟨y0, y1, fy0, fy1⟩ := hR1.two
  obtain ⟨t0, t1, _, _⟩ := hF1.two
  rw [hw2] at t0 t1
  go_wp2_with fail
  rw [← hw2]
  rw [← hw2] at t0 t1
  clear hw2
  go_region
  all_goals (
    go_wp2
    obtain ⟨hR6, hB6⟩ := put2 hR1 hBw (by omega) c i
    have hB7 := bdrew hB6
    have hR7 : Blk ((w2.setCell ⟨w.heap.size + 1, 0, none⟩ (.int .i64 c)).setCell ⟨w.heap.size + 1, 1, none⟩ (.int .i64 i)).drew (w.heap.size + 1) 27 [.int .i64 c, .int .i64 i] := hR6
    generalize ((w2.setCell ⟨w.heap.size + 1, 0, none⟩ (.int .i64 c)).setCell ⟨w.heap.size + 1, 1, none⟩ (.int .i64 i)).drew = W at hR7 hB7 ⊢
    obtain ⟨z0, z1, _, _⟩ := hR7.two
    exact bodyPost_ret (v := .tuple #[.int .i64 0, .agg #[.int .i64 c, .int .i64 i]]) (by simp [results, Tryd.results22, go_sem, z0, z1]) rfl ⟨rfl, hB7⟩)
set_option maxRecDepth 100000 in
set_option maxHeartbeats 4000000 in
theorem pwr_bad (N : Int) (z : Int) (v : Value) (zs : List Int) (w : World) (hv : Sl w v zs) (hc : (gfault N zs).1 ≠ 0) :
    Calls Tryd.prog 21 #[.agg #[.int .i64 N, v], .int .i64 z] w fun x w' => x = .returned (.tuple #[.slice none 0 0, .agg #[.int .i64 (gfault N zs).1, .int .i64 (gfault N zs).2]]) ∧ Below w.heap.size w w' := by
  obtain ⟨w0, BG⟩ := Beg.new w N v
  have HCK := hide (kop_bad N v zs w0 (hv.below BG.bel) hc)
  obtain ⟨c0, c1, _, _⟩ := BG.box.two
  have hcb : ((gfault N zs).1 != 0) = true := by simpa using hc
  generalize (gfault N zs).1 = c at *
  generalize (gfault N zs).2 = i at *
  rw [BG.eq] at c0 c1
  go_enter Tryd.func21, Tryd.ntmps21
  go_wp2_with fail
  rw [← BG.eq]
  refine HCK.out.mono ?_
  rintro x w1 ⟨rfl, hb1⟩
  clear c0 c1
  obtain ⟨w2, hw2⟩ : ∃ w2, w2 = (w1.alloc (.cells #[.int .i64 0, .slice none 0 0, .int .i64 0, .slice none 0 0, .slice none 0 0, .slice none 0 0] 65)).alloc (.cells #[.int .i64 c, .int .i64 i] 27) := ⟨_, rfl⟩
  have hB1 : Below w0.heap.size w0 w2 := by rw [hw2]; exact bcat2 hb1 ((balloc w1 _).alloc (by simp) _)
  have hF1 : Blk w2 (w1.heap.size + 1) 27 [.int .i64 c, .int .i64 i] := by
    rw [hw2]
    have := blk0 (w := w1.alloc (.cells #[.int .i64 0, .slice none 0 0, .int .i64 0, .slice none 0 0, .slice none 0 0, .slice none 0 0] 65)) (T := 27) (.int .i64 c) (.int .i64 i)
    rwa [World.size_alloc] at this
  have hR1 := blk_below BG.res hB1
  have hBw := bcat BG.bel hB1 BG.bel.size
  obtain ⟨y0, y1, fy0, fy1⟩ := hR1.two
  obtain ⟨t0, t1, _, _⟩ := hF1.two
  rw [hw2] at t0 t1
  go_wp2_with fail
  rw [← hw2]
  rw [← hw2] at t0 t1
  clear hw2
  go_region
  all_goals (
    go_wp2
    obtain ⟨hR6, hB6⟩ := put2 hR1 hBw (by omega) c i
    have hB7 := bdrew hB6
    have hR7 : Blk ((w2.setCell ⟨w.heap.size + 1, 0, none⟩ (.int .i64 c)).setCell ⟨w.heap.size + 1, 1, none⟩ (.int .i64 i)).drew (w.heap.size + 1) 27 [.int .i64 c, .int .i64 i] := hR6
    generalize ((w2.setCell ⟨w.heap.size + 1, 0, none⟩ (.int .i64 c)).setCell ⟨w.heap.size + 1, 1, none⟩ (.int .i64 i)).drew = W at hR7 hB7 ⊢
    obtain ⟨z0, z1, _, _⟩ := hR7.two
    exact bodyPost_ret (v := .tuple #[.slice none 0 0, .agg #[.int .i64 c, .int .i64 i]]) (by simp [results, Tryd.results21, go_sem, z0, z1]) rfl ⟨rfl, hB7⟩)
set_option maxRecDepth 100000 in
set_option maxHeartbeats 4000000 in
theorem pai_good (n e : Nat) (v : Value) (zs : List Int) (w : World) (hv : Sl w v zs) (hg : IsGrp n zs e) (hT : Tab w) :
    Calls Tryd.prog 22 #[.agg #[.int .i64 n, v]] w fun x w' => x = .returned (.tuple #[.int .i64 (n * (rcs n (clq n zs e) n).length : Nat), .agg #[.int .i64 0, .int .i64 0]]) ∧ Below w.heap.size w w' := by
  obtain ⟨va, vl, vc, rfl⟩ := hv.isSlice
  obtain ⟨w0, BG⟩ := Beg.new w n (.slice va vl vc)
  have HCK := hide (kop_good n e (.slice va vl vc) zs w0 (hv.below BG.bel) hg (hT.below BG.bel))
  obtain ⟨c0, c1, _, _⟩ := BG.box.two
  have hz0 : w.heap.size + 1 < w0.heap.size := BG.res.lt
  rw [BG.eq] at c0 c1
  go_enter Tryd.func22, Tryd.ntmps22
  go_wp2_with fail
  rw [← BG.eq]
  refine HCK.out.mono ?_
  rintro x w1 ⟨u, cv, nv, vs, rfl, hu, hrow, hls, hnv, hb1⟩
  obtain ⟨ia, il, ic, rfl⟩ := hu.isSlice
  obtain ⟨na, nl, nc, rfl⟩ := hnv.isSlice
  have h01 : 0 < w1.heap.size := Nat.lt_of_lt_of_le (hT.below BG.bel).lt hb1.size
  have hL := SlL.of_own hrow hls h01
  obtain ⟨la, ll, lc, rfl⟩ := hL.isSlice
  clear c0 c1 hu hrow hls
  obtain ⟨w2, hw2⟩ : ∃ w2, w2 = (w1.alloc (.cells #[.int .i64 n, .slice va vl vc, .int .i64 e, .slice ia il ic, .slice la ll lc, .slice na nl nc] 65)).alloc (.cells #[.int .i64 0, .int .i64 0] 27) := ⟨_, rfl⟩
  have hb2 : Below w1.heap.size w1 w2 := by rw [hw2]; exact (balloc w1 _).alloc (by simp) _
  have hB1 : Below w0.heap.size w0 w2 := bcat2 hb1 hb2
  have hF1 : Blk w2 (w1.heap.size + 1) 27 [.int .i64 0, .int .i64 0] := by
    rw [hw2]
    have := blk0 (w := w1.alloc (.cells #[.int .i64 n, .slice va vl vc, .int .i64 e, .slice ia il ic, .slice la ll lc, .slice na nl nc] 65)) (T := 27) (.int .i64 0) (.int .i64 0)
    rwa [World.size_alloc] at this
  have hO1 : Blk w2 w1.heap.size 65 [.int .i64 n, .slice va vl vc, .int .i64 e, .slice ia il ic, .slice la ll lc, .slice na nl nc] := by
    rw [hw2]
    have h : Blk (w1.alloc (.cells #[.int .i64 n, .slice va vl vc, .int .i64 e, .slice ia il ic, .slice la ll lc, .slice na nl nc] 65)) _ 65 [.int .i64 n, .slice va vl vc, .int .i64 e, .slice ia il ic, .slice la ll lc, .slice na nl nc] := World.alloc_heap_new _ _
    exact h.alloc _
  have hR1 := blk_below BG.res hB1
  have hBw := bcat BG.bel hB1 BG.bel.size
  have hL2 := hL.below hb2
  have hnv2 := hnv.below hb2
  obtain ⟨_, y0, y1, fy0, fy1, s0, s1⟩ := Two.mk' hR1
  obtain ⟨t0, t1, _, _⟩ := hF1.two
  have o0 : w2.cell? ⟨w1.heap.size, 0, none⟩ = some (.int .i64 n) := hO1.cell 0
  have o4 : w2.cell? ⟨w1.heap.size, 4, none⟩ = some (.slice la ll lc) := hO1.cell 4
  have hrl := rcs_len n (clq n zs e) n
  have hn := hg.tab.le
  obtain ⟨_, _, _, _, hle, _⟩ := hL2
  injection hle with e1 e2 e3
  subst e1 e2 e3
  clear hL
  generalize hrn : (rcs n (clq n zs e) n).length = rn at *
  have hmul : n * rn ≤ 60 * 60 := Nat.mul_le_mul hn (by omega)
  have hwm : IntKind.i64.wrap ((n : Int) * (rn : Int)) = ((n * rn : Nat) : Int) := by rw [IntKind.wrap_i64, ← Int.natCast_mul]; omega
  rw [hw2] at t0 t1 o0 o4 y0 y1 fy0 fy1 s0 s1
  go_wp2
  rw [← hw2]
  rw [← hw2] at y0 y1
  clear hw2
  exact bodyPost_ret (v := .tuple #[.int .i64 (n * rn : Nat), .agg #[.int .i64 0, .int .i64 0]]) (by simp [results, Tryd.results22, go_sem, y0, y1]) rfl ⟨by rw [hrn], hBw⟩
/-- The first thing of the class at a place. -/
def lda (n : Nat) (f : Nat → Nat → Bool) (t : Nat) : Nat := ((((rcs n f n)[t]?.getD []).head?).getD 0).toNat
theorem lda_eq {n t x : Nat} {f : Nat → Nat → Bool} (hh : (lst n (f x)).head? = some x) (h : (rcs n f n)[t]? = some (li (lst n (f x)))) : lda n f t = x := by
  unfold lda
  rw [h, Option.getD_some]
  unfold li
  rw [List.head?_map, hh]
  simp
/-- A list that is written place by place. -/
def plU (F : Nat → Int) (m k : Nat) : List Int := (List.range m).map fun i => if i < k then F i else 0
theorem plU_len (F : Nat → Int) (m k : Nat) : (plU F m k).length = m := by simp [plU]
theorem plU_zero (F : Nat → Int) (m : Nat) : plU F m 0 = List.replicate m 0 := by
  apply List.ext_getElem <;> simp [plU]
theorem plU_set (F : Nat → Int) (m k : Nat) : (plU F m k).set k (F k) = plU F m (k + 1) := by
  unfold plU
  rw [map_set]
  refine List.map_congr_left fun y _ => ?_
  by_cases e : y = k
  · subst e; simp
  · rw [if_neg e]
    by_cases h : y < k
    · rw [if_pos h, if_pos (by omega)]
    · rw [if_neg h, if_neg (by omega)]
theorem plU_all (F : Nat → Int) (m : Nat) : plU F m m = (List.range m).map F := List.map_congr_left fun _ hy => if_pos (List.mem_range.1 hy)
/-- What Powers tells. -/
def pwl (n : Nat) (zs : List Int) (e : Nat) (z : Int) (i : Nat) : Int := (num n (clq n zs e) (pz n zs e (lda n (clq n zs e) i) z) : Nat)
set_option maxRecDepth 100000 in
set_option maxHeartbeats 4000000 in
theorem pwr_good (n e : Nat) (z : Int) (v : Value) (zs : List Int) (w : World) (hv : Sl w v zs) (hg : IsGrp n zs e) (hT : Tab w) :
    Calls Tryd.prog 21 #[.agg #[.int .i64 n, v], .int .i64 z] w fun x w' => ∃ r1 r2 r3, x = .returned (.tuple #[.slice r1 r2 r3, .agg #[.int .i64 0, .int .i64 0]]) ∧ Sl w' (.slice r1 r2 r3) ((List.range (rcs n (clq n zs e) n).length).map (pwl n zs e z)) ∧ Below w.heap.size w w' := by
  obtain ⟨va, vl, vc, rfl⟩ := hv.isSlice
  obtain ⟨w0, BG⟩ := Beg.new w n (.slice va vl vc)
  have HCK := hide (kop_good n e (.slice va vl vc) zs w0 (hv.below BG.bel) hg (hT.below BG.bel))
  obtain ⟨c0, c1, _, _⟩ := BG.box.two
  have hz0 : w.heap.size + 1 < w0.heap.size := BG.res.lt
  rw [BG.eq] at c0 c1
  go_enter Tryd.func21, Tryd.ntmps21
  go_wp2_with fail
  rw [← BG.eq]
  refine HCK.out.mono ?_
  rintro x w1 ⟨u, cv, nv, vs, rfl, hu, hrow, hls, hnv, hb1⟩
  obtain ⟨ia, il, ic, rfl⟩ := hu.isSlice
  obtain ⟨na, nl, nc, rfl⟩ := hnv.isSlice
  have h01 : 0 < w1.heap.size := Nat.lt_of_lt_of_le (hT.below BG.bel).lt hb1.size
  have hL := SlL.of_own hrow hls h01
  obtain ⟨la, ll, lc, rfl⟩ := hL.isSlice
  clear c0 c1 hu hrow hls
  obtain ⟨w2, hw2⟩ : ∃ w2, w2 = (w1.alloc (.cells #[.int .i64 n, .slice va vl vc, .int .i64 e, .slice ia il ic, .slice la ll lc, .slice na nl nc] 65)).alloc (.cells #[.int .i64 0, .int .i64 0] 27) := ⟨_, rfl⟩
  have hb2 : Below w1.heap.size w1 w2 := by rw [hw2]; exact (balloc w1 _).alloc (by simp) _
  have hB1 : Below w0.heap.size w0 w2 := bcat2 hb1 hb2
  have hF1 : Blk w2 (w1.heap.size + 1) 27 [.int .i64 0, .int .i64 0] := by
    rw [hw2]
    have := blk0 (w := w1.alloc (.cells #[.int .i64 n, .slice va vl vc, .int .i64 e, .slice ia il ic, .slice la ll lc, .slice na nl nc] 65)) (T := 27) (.int .i64 0) (.int .i64 0)
    rwa [World.size_alloc] at this
  have hO1 : Blk w2 w1.heap.size 65 [.int .i64 n, .slice va vl vc, .int .i64 e, .slice ia il ic, .slice la ll lc, .slice na nl nc] := by
    rw [hw2]
    have h : Blk (w1.alloc (.cells #[.int .i64 n, .slice va vl vc, .int .i64 e, .slice ia il ic, .slice la ll lc, .slice na nl nc] 65)) _ 65 [.int .i64 n, .slice va vl vc, .int .i64 e, .slice ia il ic, .slice la ll lc, .slice na nl nc] := World.alloc_heap_new _ _
    exact h.alloc _
  have hR1 := blk_below BG.res hB1
  have hBw := bcat BG.bel hB1 BG.bel.size
  have hL2 := hL.below hb2
  have hnv2 := hnv.below hb2
  obtain ⟨_, y0, y1, fy0, fy1, s0, s1⟩ := Two.mk' hR1
  obtain ⟨t0, t1, _, _⟩ := hF1.two
  have o0 : w2.cell? ⟨w1.heap.size, 0, none⟩ = some (.int .i64 n) := hO1.cell 0
  have o4 : w2.cell? ⟨w1.heap.size, 4, none⟩ = some (.slice la ll lc) := hO1.cell 4
  have hrl := rcs_len n (clq n zs e) n
  have hn := hg.tab.le
  obtain ⟨la', lcap, lb, lo, hle, hl1, hl2, hl3, hl4, hl5⟩ := hL2
  injection hle with e1 e2 e3
  subst e1 e2 e3
  obtain ⟨na', ncap, nb, no, hne, hnr, hn1, hn2, hn3⟩ := hnv2
  injection hne with e1 e2 e3
  have hnl : (li ((List.range n).map (num n (clq n zs e)))).length = n := by simp [li]
  rw [hnl] at e2 hn2
  subst e1 e3
  obtain rfl := e2.symm
  obtain rfl := hnr.at_ (by rw [hnl]; exact hg.tab.pos)
  have hp0 : 0 < (rcs n (clq n zs e) n).length := by
    have h1 := (clq_parts hg).sum_all
    have h2 := hg.tab.pos
    cases h : rcs n (clq n zs e) n with
    | nil => rw [h] at h1; simp at h1; omega
    | cons a t => simp
  obtain rfl := hl1 hp0
  obtain ⟨i0, hi, hz0', hz1, hz2⟩ := info_parts info3b
  have HL2 := hide hl2
  have HNR := hide hnr
  have HNL := hide hnl
  clear hL hl1 hl2 hnr hnv hnl
  have hs2 : w2.heap.size = w1.heap.size + 1 + 1 := by rw [hw2]; simp
  rw [hw2] at t0 t1 o0 o4
  go_wp2_with (first
    | (at_make; refine wpList_make_full _ rfl _ _ 22 rfl _ 3 i0 (.int .i64 0) 1 under22b hi hz0' hz1 _ _ _ _ (rcs n (clq n zs e) n).length rfl rfl rfl rfl (by rw [hz2]; omega) (by unfold maxLen; omega) (Nat.le_refl _) ?_))
  rw [← hw2]
  rw [← hw2] at o4
  clear hw2 t0 t1 o0
  intro w3 hown hgr
  try rw [← hs2] at hown
  rw [← hs2]
  clear hs2
  have hM : Blk w3 w2.heap.size 3 ((plU (pwl n zs e z) (rcs n (clq n zs e) n).length 0).map (Value.int .i64)) := by
    have := Blk.of_owns hown
    rw [made_rep] at this
    rw [plU_zero, List.map_replicate]; simpa using this
  have hB3 : Below w2.heap.size w2 w3 := (Below.refl _ w2).grown hgr (Nat.le_refl _) (by simp)
  have o43 := below_cell hB3 o4
  clear hown hgr o4
  generalize w1.heap.size = ob at *
  go_wp2
  clear o43
  go_loopw [27] (fun i wr => ∃ k : Nat, k ≤ (rcs n (clq n zs e) n).length ∧ i = .int .i64 k ∧ Blk wr w2.heap.size 3 ((plU (pwl n zs e z) (rcs n (clq n zs e) n).length k).map (Value.int .i64)) ∧ Below w2.heap.size w2 wr) (fun i _ => (rcs n (clq n zs e) n).length - (intOf i).toNat)
  case atStart => exact ⟨0, Nat.zero_le _, rfl, hM, hB3⟩
  case round =>
    clear hM hB3
    obtain ⟨k, hk, rfl, hM, hB⟩ := hrel
    by_cases hlt : k < (rcs n (clq n zs e) n).length
    · obtain ⟨x, hx, hhd, hat⟩ := rcs_at hlt
      have hkl : (k : Int) < ((rcs n (clq n zs e) n).length : Int) := by omega
      obtain ⟨xx, cx, hSx⟩ := HL2.out k hlt
      rw [hat, Option.getD_some] at hSx
      have HPU := hide (show (plU (pwl n zs e z) (rcs n (clq n zs e) n).length k).set k (num n (clq n zs e) (pz n zs e x z) : Nat) = plU (pwl n zs e z) (rcs n (clq n zs e) n).length (k + 1) by
        rw [← plU_set]
        congr 1
        unfold pwl
        rw [lda_eq hhd hat])
      obtain ⟨tl, htl⟩ : ∃ tl, lst n (clq n zs e x) = x :: tl := by
        cases hl : lst n (clq n zs e x) with
        | nil => rw [hl] at hhd; simp at hhd
        | cons y t => rw [hl] at hhd; simp at hhd; exact ⟨t, by rw [hhd]⟩
      obtain ⟨qa, qc, qb, qo, rfl, hq, hq1, hq2, hq3⟩ := hSx
      have hqc := hq.cell 0 (by rw [htl]; simp [li])
      obtain rfl := hq.at_ (by rw [htl]; simp [li])
      have hq0 : (li (lst n (clq n zs e x)))[0]?.getD 0 = (x : Int) := by rw [htl]; simp [li]
      rw [hq0, Nat.add_zero] at hqc
      have hqp : 0 < (lst n (clq n zs e x)).length := by rw [htl]; simp
      rw [li_len] at cx
      have hzl := pz_lt hg hx z
      have hnc := HNR.out.cell (pz n zs e x z) (by rw [HNL.out]; exact hzl)
      have hng : (li ((List.range n).map (num n (clq n zs e))))[pz n zs e x z]?.getD 0 = ((num n (clq n zs e) (pz n zs e x z) : Nat) : Int) := by simp [li, hzl]
      rw [hng] at hnc
      have HPO := hide (fun W (h : Below w2.heap.size w2 W) => kpow_ok hg hx z (.slice va vl vc) (.slice ia il ic) (.slice (some ⟨lb, lo, none⟩) (rcs n (clq n zs e) n).length lc) (.slice (some ⟨nb, no, none⟩) n nc) W (hv.below (bcat2 hBw h)))
      have hzi : ((pz n zs e x z : Nat) : Int) < (n : Int) := by omega
      have hS : ∀ W, Below w2.heap.size w2 W → (Below w2.heap.size w2 W ∧ W.cell? ⟨ob, 0, none⟩ = some (.int .i64 n) ∧ W.cell? ⟨ob, 1, none⟩ = some (.slice va vl vc) ∧ W.cell? ⟨ob, 2, none⟩ = some (.int .i64 e) ∧ W.cell? ⟨ob, 3, none⟩ = some (.slice ia il ic) ∧ W.cell? ⟨ob, 4, none⟩ = some (.slice (some ⟨lb, lo, none⟩) (rcs n (clq n zs e) n).length lc) ∧ W.cell? ⟨ob, 5, none⟩ = some (.slice (some ⟨nb, no, none⟩) n nc) ∧ W.cell? ⟨qb, qo, none⟩ = some (.int .i64 x) ∧ W.cell? ⟨nb, no + pz n zs e x z, none⟩ = some (.int .i64 (num n (clq n zs e) (pz n zs e x z) : Nat))) := fun W h => by
        have hO := blk_below hO1 h
        exact ⟨h, hO.cell 0, hO.cell 1, hO.cell 2, hO.cell 3, hO.cell 4, hO.cell 5, below_cell h hqc, below_cell h hnc⟩
      have hBc : Below w2.heap.size w2 wr.drew := bdrew hB
      have hS0 := hS _ hBc
      replace hM : Blk wr.drew w2.heap.size 3 _ := hM
      have cx' := below_cell hB cx
      have o4' : wr.cell? ⟨ob, 4, none⟩ = some (.slice (some ⟨lb, lo, none⟩) (rcs n (clq n zs e) n).length lc) := (blk_below hO1 hB).cell 4
      clear htl hq hq0 hhd hat hq2 hng cx hqc hnc
      generalize (lst n (clq n zs e x)).length = ql at *
      go_wp2_with fail
      clear cx' o4'
      refine wp_region_held_drew (S := fun W => Below w2.heap.size w2 W ∧ W.cell? ⟨ob, 0, none⟩ = some (.int .i64 n) ∧ W.cell? ⟨ob, 1, none⟩ = some (.slice va vl vc) ∧ W.cell? ⟨ob, 2, none⟩ = some (.int .i64 e) ∧ W.cell? ⟨ob, 3, none⟩ = some (.slice ia il ic) ∧ W.cell? ⟨ob, 4, none⟩ = some (.slice (some ⟨lb, lo, none⟩) (rcs n (clq n zs e) n).length lc) ∧ W.cell? ⟨ob, 5, none⟩ = some (.slice (some ⟨nb, no, none⟩) n nc) ∧ W.cell? ⟨qb, qo, none⟩ = some (.int .i64 x) ∧ W.cell? ⟨nb, no + pz n zs e x z, none⟩ = some (.int .i64 (num n (clq n zs e) (pz n zs e x z) : Nat))) (by kernel_rfl) hS0 (fun hHeld => ?_)
      generalize wr.drew = wd at *
      refine wpAnyH_take (i := 0) (oi := ({ dst := some 32, op := Go.Op.move (Go.Operand.tmp 8), type := 22, pos := _, after := _, guard := none } : Oper)) (v := ?_) rfl (by kernel_rfl) (by kernel_rfl) (by kernel_rfl) (fun _ _ _ h => h) (Or.inl ⟨by rfl, ?_⟩) (by assumption) ?_
      rotate_left
      · (intro w hSw; (try dsimp only at hSw); go_simp; try with_reducible rfl)
      simp only [Act.put, List.setIfInBounds_toArray, List.set_cons_zero, List.set_cons_succ]
      refine wpAnyH_take (i := 1) (oi := ({ dst := some 33, op := Go.Op.move (Go.Operand.tmp 9), type := 3, pos := _, after := _, guard := none } : Oper)) (v := ?_) rfl (by kernel_rfl) (by kernel_rfl) (by kernel_rfl) (fun _ _ _ h => h) (Or.inl ⟨by rfl, ?_⟩) (by assumption) ?_
      rotate_left
      · (intro w hSw; (try dsimp only at hSw); go_simp; try with_reducible rfl)
      simp only [Act.put, List.setIfInBounds_toArray, List.set_cons_zero, List.set_cons_succ]
      refine wpAnyH_take (i := 2) (oi := ({ dst := some 34, op := Go.Op.fieldAddr 65 (Go.Operand.tmp 6) 2, type := 0, pos := _, after := _, guard := none } : Oper)) (v := ?_) rfl (by kernel_rfl) (by kernel_rfl) (by kernel_rfl) (fun _ _ _ h => h) (Or.inl ⟨by rfl, ?_⟩) (by assumption) ?_
      rotate_left
      · (intro w hSw; (try dsimp only at hSw); go_simp; try with_reducible rfl)
      simp only [Act.put, List.setIfInBounds_toArray, List.set_cons_zero, List.set_cons_succ]
      refine wpAnyH_take (i := 3) (oi := ({ dst := some 35, op := Go.Op.load 22 (Go.Operand.tmp 34), type := 22, pos := _, after := _, guard := none } : Oper)) (v := ?_) rfl (by kernel_rfl) (by kernel_rfl) (by kernel_rfl) (fun _ _ _ h => h) (Or.inl ⟨by rfl, ?_⟩) (by assumption) ?_
      rotate_left
      · (intro w hSw; (try dsimp only at hSw); go_simp; try with_reducible rfl)
      simp only [Act.put, List.setIfInBounds_toArray, List.set_cons_zero, List.set_cons_succ]
      refine wpAnyH_take (i := 4) (oi := ({ dst := some 36, op := Go.Op.load 65 (Go.Operand.tmp 6), type := 65, pos := _, after := _, guard := none } : Oper)) (v := ?_) rfl (by kernel_rfl) (by kernel_rfl) (by kernel_rfl) (fun _ _ _ h => h) (Or.inl ⟨by rfl, ?_⟩) (by assumption) ?_
      rotate_left
      · (intro w hSw; (try dsimp only at hSw); go_simp; try with_reducible rfl)
      simp only [Act.put, List.setIfInBounds_toArray, List.set_cons_zero, List.set_cons_succ]
      refine wpAnyH_take (i := 5) (oi := ({ dst := some 37, op := Go.Op.move (Go.Operand.tmp 10), type := 22, pos := _, after := _, guard := none } : Oper)) (v := ?_) rfl (by kernel_rfl) (by kernel_rfl) (by kernel_rfl) (fun _ _ _ h => h) (Or.inl ⟨by rfl, ?_⟩) (by assumption) ?_
      rotate_left
      · (intro w hSw; (try dsimp only at hSw); go_simp; try with_reducible rfl)
      simp only [Act.put, List.setIfInBounds_toArray, List.set_cons_zero, List.set_cons_succ]
      refine wpAnyH_take (i := 6) (oi := ({ dst := some 38, op := Go.Op.indexAddr 22 (Go.Operand.tmp 37) (Go.Operand.const (Go.Value.int Go.IntKind.i64 0)), type := 0, pos := _, after := _, guard := none } : Oper)) (v := ?_) rfl (by kernel_rfl) (by kernel_rfl) (by kernel_rfl) (fun _ _ _ h => h) (Or.inl ⟨by rfl, ?_⟩) (by assumption) ?_
      rotate_left
      · (intro w hSw; (try dsimp only at hSw); go_simp; try with_reducible rfl)
      simp only [Act.put, List.setIfInBounds_toArray, List.set_cons_zero, List.set_cons_succ]
      refine wpAnyH_take (i := 7) (oi := ({ dst := some 39, op := Go.Op.load 3 (Go.Operand.tmp 38), type := 3, pos := _, after := _, guard := none } : Oper)) (v := ?_) rfl (by kernel_rfl) (by kernel_rfl) (by kernel_rfl) (fun _ _ _ h => h) (Or.inl ⟨by rfl, ?_⟩) (by assumption) ?_
      rotate_left
      · (intro w hSw; (try dsimp only at hSw); go_simp; try with_reducible rfl)
      simp only [Act.put, List.setIfInBounds_toArray, List.set_cons_zero, List.set_cons_succ]
      refine wpAnyH_take (i := 8) (oi := ({ dst := some 40, op := Go.Op.move (Go.Operand.tmp 1), type := 3, pos := _, after := _, guard := none } : Oper)) (v := ?_) rfl (by kernel_rfl) (by kernel_rfl) (by kernel_rfl) (fun _ _ _ h => h) (Or.inl ⟨by rfl, ?_⟩) (by assumption) ?_
      rotate_left
      · (intro w hSw; (try dsimp only at hSw); go_simp; try with_reducible rfl)
      simp only [Act.put, List.setIfInBounds_toArray, List.set_cons_zero, List.set_cons_succ]
      refine wpAnyH_ready (rs := [9]) (by kernel_rfl) (by simp) (AllReadyH.cons (o := ({ dst := some 41, op := Go.Op.call { callee := Go.Callee.value (Go.Operand.func 49), args := #[Go.Operand.tmp 36, Go.Operand.tmp 39, Go.Operand.tmp 40], argTypes := #[65, 3, 3] }, type := 3, pos := _, after := _, guard := none } : Oper)) rfl (fun KK hK => ?_) AllReadyH.nil)
      go_simp
      refine (HPO.out _ hBc).mono ?_
      rintro x1 W1 ⟨rfl, hl1⟩
      replace hBc := bcat2 hBc hl1
      replace hM := blk_below hM hl1
      try go_wp2_with fail
      refine hK.out _ _ (hS _ hBc) (fun hHeld => ?_)
      clear hK
      try simp only [Act.put, List.setIfInBounds_toArray, List.set_cons_zero, List.set_cons_succ]
      refine wpAnyH_take (i := 10) (oi := ({ dst := some 42, op := Go.Op.indexAddr 22 (Go.Operand.tmp 35) (Go.Operand.tmp 41), type := 0, pos := _, after := _, guard := none } : Oper)) (v := ?_) rfl (by kernel_rfl) (by kernel_rfl) (by kernel_rfl) (fun _ _ _ h => h) (Or.inl ⟨by rfl, ?_⟩) (by assumption) ?_
      rotate_left
      · (intro w hSw; (try dsimp only at hSw); go_simp; try with_reducible rfl)
      simp only [Act.put, List.setIfInBounds_toArray, List.set_cons_zero, List.set_cons_succ]
      refine wpAnyH_take (i := 11) (oi := ({ dst := some 43, op := Go.Op.load 3 (Go.Operand.tmp 42), type := 3, pos := _, after := _, guard := none } : Oper)) (v := ?_) rfl (by kernel_rfl) (by kernel_rfl) (by kernel_rfl) (fun _ _ _ h => h) (Or.inl ⟨by rfl, ?_⟩) (by assumption) ?_
      rotate_left
      · (intro w hSw; (try dsimp only at hSw); go_simp; try with_reducible rfl)
      simp only [Act.put, List.setIfInBounds_toArray, List.set_cons_zero, List.set_cons_succ]
      refine wpAnyH_take (i := 12) (oi := ({ dst := some 44, op := Go.Op.indexAddr 22 (Go.Operand.tmp 32) (Go.Operand.tmp 33), type := 0, pos := _, after := _, guard := none } : Oper)) (v := ?_) rfl (by kernel_rfl) (by kernel_rfl) (by kernel_rfl) (fun _ _ _ h => h) (Or.inl ⟨by rfl, ?_⟩) (by assumption) ?_
      rotate_left
      · (intro w hSw; (try dsimp only at hSw); go_simp; try with_reducible rfl)
      simp only [Act.put, List.setIfInBounds_toArray, List.set_cons_zero, List.set_cons_succ]
      refine wpAnyH_ready (rs := [13]) (by kernel_rfl) (by simp) (AllReadyH.cons (o := ({ dst := none, op := Go.Op.store 3 (Go.Operand.tmp 44) (Go.Operand.tmp 43), type := 0, pos := _, after := _, guard := none } : Oper)) rfl (fun KK hK => ?_) AllReadyH.nil)
      have mc := hM.int (y := k) (by rw [plU_len]; exact hlt)
      have mf := hM.frozen k
      replace hM := hM.setInt k (num n (clq n zs e) (pz n zs e x z) : Nat)
      replace hBc := hBc.setCell (p := ⟨w2.heap.size, k, none⟩) (Nat.le_refl _) (.int .i64 (num n (clq n zs e) (pz n zs e x z) : Nat))
      go_simp
      refine hK.out _ _ (hS _ hBc) (fun hHeld => ?_)
      clear hK
      try simp only [Act.put, List.setIfInBounds_toArray, List.set_cons_zero, List.set_cons_succ]
      clear mc mf
      refine wpAnyH_done (by kernel_rfl) ?_ _
      rw [HPU.out] at hM
      go_wp2
      go_roundw
      case rel => exact ⟨k + 1, by omega, by go_num, hM, hBc⟩
      case measure => simp [intOf]; omega
    · have hkl : ¬ (k : Int) < ((rcs n (clq n zs e) n).length : Int) := by omega
      obtain rfl : k = (rcs n (clq n zs e) n).length := by omega
      rw [plU_all] at hM
      obtain ⟨_, y0, y1, fy0, fy1, s0, s1⟩ := Two.mk' (blk_below hR1 hB)
      have hSl := Sl.of_blk (n := (rcs n (clq n zs e) n).length) hM (by simp) (by simp; omega)
      have hBz := bcat2 hBw hB
      go_wp2
      exact bodyPost_ret (v := .tuple #[.slice (some ⟨w2.heap.size, 0, none⟩) (rcs n (clq n zs e) n).length (rcs n (clq n zs e) n).length, .agg #[.int .i64 0, .int .i64 0]]) (by simp [results, Tryd.results21, go_sem, y0, y1]) rfl ⟨_, _, _, rfl, hSl, hBz⟩
end Go.Proofs.YtobnfbnholbfoaaDoor

namespace Go.Proofs.YtobnfbnholbfoaaDoor
open Go Go.RowKit Go.Maps

/-- How many things of the first k commute with a. -/
def cnk (n : Nat) (zs : List Int) (a k : Nat) : Nat := ((List.range k).filter fun b => decide (tm n zs a b = tm n zs b a)).length
theorem cnk_le (n : Nat) (zs : List Int) (a k : Nat) : cnk n zs a k ≤ k := Nat.le_trans (List.length_filter_le _ _) (by simp)
theorem cnk_succ (n : Nat) (zs : List Int) (a k : Nat) : cnk n zs a (k + 1) = cnk n zs a k + if tm n zs a k = tm n zs k a then 1 else 0 := by
  unfold cnk
  rw [List.range_succ, List.filter_append, List.length_append]
  by_cases h : tm n zs a k = tm n zs k a <;> simp [h]
theorem cnk_cls {n e a : Nat} {zs : List Int} (g : IsGrp n zs e) (ha : a < n) : cnk n zs a n * (lst n (clq n zs e a)).length = n := by
  have h := Fin.orb_len (grp_fg g) (cj_mv g) List.nodup_range (List.mem_range.2 ha)
  rw [List.length_range] at h
  have h1 : (List.range n).filter (Fin.orbB (List.range n) (Fin.cj (tm n zs) (iv n zs e)) a) = lst n (clq n zs e a) := rfl
  have h2 : ((List.range n).filter fun b => decide (Fin.cj (tm n zs) (iv n zs e) a b = a)).length = cnk n zs a n := by
    unfold cnk
    refine congrArg List.length (List.filter_congr fun b hb => ?_)
    rw [decide_eq_decide, cj_stay g ha (List.mem_range.1 hb)]
    exact eq_comm
  rw [h1, h2] at h
  rw [Nat.mul_comm]; exact h.symm
/-- All things of a list, counted with weights. -/
def wsum (c : Nat → Nat) (l : List Nat) : Nat := (l.map c).sum
theorem wsum_or (c : Nat → Nat) (l : List Nat) (p q : Nat → Bool) (h : ∀ y, y ∈ l → ¬ (p y = true ∧ q y = true)) : wsum c (l.filter fun y => p y || q y) = wsum c (l.filter p) + wsum c (l.filter q) := by
  unfold wsum
  induction l with
  | nil => rfl
  | cons a l ih =>
    have h1 := ih fun y hy => h y (List.mem_cons_of_mem _ hy)
    have h2 := h a (List.mem_cons_self ..)
    rw [List.filter_cons, List.filter_cons, List.filter_cons]
    cases hp : p a <;> cases hq : q a <;> simp_all <;> omega
theorem wsum_const (c : Nat → Nat) (l : List Nat) (m : Nat) (h : ∀ y, y ∈ l → c y = m) : wsum c l = l.length * m := by
  unfold wsum
  induction l with
  | nil => simp
  | cons a l ih =>
    rw [List.map_cons, List.sum_cons, ih fun y hy => h y (List.mem_cons_of_mem _ hy), h a (List.mem_cons_self ..), List.length_cons, Nat.add_mul, Nat.one_mul, Nat.add_comm]
theorem pairs_part {n e : Nat} {zs : List Int} (g : IsGrp n zs e) : ∀ k, k ≤ n → wsum (fun a => cnk n zs a n) (lst n (mt (clq n zs e) k)) = n * (rcs n (clq n zs e) k).length
  | 0, _ => by
    have : lst n (mt (clq n zs e) 0) = [] := by
      show ((List.range n).filter fun _ => false) = []
      rw [List.filter_eq_nil_iff]; simp
    rw [this]; rfl
  | k + 1, hk => by
    have ih := pairs_part g k (by omega)
    have h := clq_parts g
    have hlt : k < n := by omega
    cases hm : mt (clq n zs e) k k with
    | true =>
      rw [rcs_no (fun h9 => by have := (h.mt_head hlt).2 h9; rw [hm] at this; cases this), ← ih]
      exact congrArg _ (lst_congr fun y hy => h.mt_old hlt hy hm)
    | false =>
      rw [rcs_yes ((h.mt_head hlt).1 hm), List.length_append, Nat.mul_add, ← ih]
      have h1 : lst n (mt (clq n zs e) (k + 1)) = (List.range n).filter fun y => mt (clq n zs e) k y || clq n zs e k y := lst_congr fun y _ => mt_succ
      rw [h1, wsum_or _ _ _ _ (fun y hy h2 => ?_)]
      · congr 1
        have hc : ∀ y, y ∈ lst n (clq n zs e k) → cnk n zs y n = cnk n zs k n := fun y hy => by
          obtain ⟨hyn, hyk⟩ := mem_lst.1 hy
          have e1 := cnk_cls g hyn
          have e2 := cnk_cls g hlt
          have e3 : lst n (clq n zs e y) = lst n (clq n zs e k) := lst_congr fun c hc => (h.same k y hlt hyn hyk c hc).symm
          rw [e3] at e1
          exact Nat.eq_of_mul_eq_mul_right (List.length_pos_of_mem hy) (e1.trans e2.symm)
        have h3 := wsum_const (fun a => cnk n zs a n) (lst n (clq n zs e k)) _ hc
        show wsum (fun a => cnk n zs a n) (lst n (clq n zs e k)) = n * [li (lst n (clq n zs e k))].length
        rw [h3, Nat.mul_comm, cnk_cls g hlt]
        simp
      · have hy := List.mem_range.1 hy
        obtain ⟨a, ha, h3⟩ := mt_iff.1 h2.1
        have h4 : clq n zs e a k = true := by
          rw [h.same a y (by omega) hy h3 k hlt]
          exact h.symm hlt hy h2.2
        rw [mt_iff.2 ⟨a, ha, h4⟩] at hm
        cases hm
/-- Pairs that commute are n for each class. -/
theorem pairs_all {n e : Nat} {zs : List Int} (g : IsGrp n zs e) : wsum (fun a => cnk n zs a n) (List.range n) = n * (rcs n (clq n zs e) n).length := by
  rw [← pairs_part g n (Nat.le_refl _)]
  have h := clq_parts g
  have h1 : lst n (mt (clq n zs e) n) = List.range n := by
    unfold lst
    rw [List.filter_eq_self]
    intro a ha
    exact mt_iff.2 ⟨a, List.mem_range.1 ha, h.refl a (List.mem_range.1 ha)⟩
  rw [h1]
theorem wsum_le {n : Nat} {zs : List Int} : ∀ k, wsum (fun a => cnk n zs a n) (List.range k) ≤ k * n
  | 0 => by simp [wsum]
  | k + 1 => by
    have ih := wsum_le (n := n) (zs := zs) k
    have h := cnk_le n zs k n
    unfold wsum at ih ⊢
    rw [List.range_succ, List.map_append, List.sum_append, Nat.add_mul]
    simp only [List.map_cons, List.map_nil, List.sum_cons, List.sum_nil]
    omega
theorem wsum_succ {n k : Nat} {zs : List Int} : wsum (fun a => cnk n zs a n) (List.range (k + 1)) = wsum (fun a => cnk n zs a n) (List.range k) + cnk n zs k n := by
  unfold wsum
  rw [List.range_succ, List.map_append, List.sum_append]
  simp
set_option maxRecDepth 100000 in
set_option maxHeartbeats 8000000 in
theorem nas_bad (k : Nat) (caps : Array Value) (c i : Int) (w : World) (hc : c ≠ 0) :
    Calls Tryd.prog 27 #[.int .i64 0, .agg #[.int .i64 c, .int .i64 i], .agg #[.int .i64 c, .int .i64 i], .func (.func k) #[] caps] w fun x w' => x = .returned (.bool true) ∧ Below w.heap.size w w' := by
  have hcb : (c != 0) = true := by simpa using hc
  have hF1 : Blk ((w.alloc (.cells #[.int .i64 c, .int .i64 i] 27)).alloc (.cells #[.int .i64 c, .int .i64 i] 27)) w.heap.size 27 [.int .i64 c, .int .i64 i] := (blk0 _ _).alloc _
  have hF2 := blk0 (w := w.alloc (.cells #[.int .i64 c, .int .i64 i] 27)) (T := 27) (.int .i64 c) (.int .i64 i)
  rw [World.size_alloc] at hF2
  have hb : Below w.heap.size w ((w.alloc (.cells #[.int .i64 c, .int .i64 i] 27)).alloc (.cells #[.int .i64 c, .int .i64 i] 27)) := (balloc w _).alloc (by simp) _
  obtain ⟨f0, f1, _, _⟩ := hF1.two
  obtain ⟨g0, g1, _, _⟩ := hF2.two
  go_enter Tryd.func27, Tryd.ntmps27
  go_wp2
  go_ret
  exact ⟨rfl, hb⟩
set_option maxRecDepth 100000 in
set_option maxHeartbeats 8000000 in
theorem nas_good (k : Nat) (caps : Array Value) (x : Int) (w : World)
    (hcall : ∀ W, Sem.run Tryd.prog (callFunc k caps) W = .ok (.enter k caps) W)
    (hk : ∀ W, Below w.heap.size w W → Calls Tryd.prog k caps W fun y w' => y = .returned (.int .i64 x) ∧ Below W.heap.size W w') :
    Calls Tryd.prog 27 #[.int .i64 x, .agg #[.int .i64 0, .int .i64 0], .agg #[.int .i64 0, .int .i64 0], .func (.func k) #[] caps] w fun x w' => x = .returned (.bool true) ∧ Below w.heap.size w w' := by
  have hF1 : Blk ((w.alloc (.cells #[.int .i64 0, .int .i64 0] 27)).alloc (.cells #[.int .i64 0, .int .i64 0] 27)) w.heap.size 27 [.int .i64 0, .int .i64 0] := (blk0 _ _).alloc _
  have hF2 := blk0 (w := w.alloc (.cells #[.int .i64 0, .int .i64 0] 27)) (T := 27) (.int .i64 0) (.int .i64 0)
  rw [World.size_alloc] at hF2
  have hb : Below w.heap.size w ((w.alloc (.cells #[.int .i64 0, .int .i64 0] 27)).alloc (.cells #[.int .i64 0, .int .i64 0] 27)) := (balloc w _).alloc (by simp) _
  obtain ⟨f0, f1, _, _⟩ := hF1.two
  obtain ⟨g0, g1, _, _⟩ := hF2.two
  have HK := hide hk
  clear hk
  go_enter Tryd.func27, Tryd.ntmps27
  go_wp2_with fail
  generalize (w.alloc (.cells #[.int .i64 0, .int .i64 0] 27)).alloc (.cells #[.int .i64 0, .int .i64 0] 27) = w0 at *
  refine (HK.out w0 hb).mono ?_
  rintro y w1 ⟨rfl, hb1⟩
  go_wp2
  go_ret
  exact ⟨rfl, bcat2 hb hb1⟩
theorem cl28_call (x : Value) (W : World) : Sem.run Tryd.prog (callFunc 28 #[x]) W = .ok (.enter 28 #[x]) W := by kernel_rfl
set_option maxRecDepth 100000 in
set_option maxHeartbeats 4000000 in
/-- The law's count of pairs. -/
theorem cl28_ok (n e gb : Nat) (v : Value) (zs : List Int) (w : World) (g : IsGrp n zs e) (hv : Sl w v zs) (hX : BoxG w gb n v) :
    Calls Tryd.prog 28 #[.pointer (some ⟨gb, 0, none⟩)] w fun x w' => x = .returned (.int .i64 (n * (rcs n (clq n zs e) n).length : Nat)) ∧ Below w.heap.size w w' := by
  rw [← pairs_all g]
  have hn := g.tab.le
  have HT := hide g.tab
  go_enter Tryd.func28, Tryd.ntmps28
  go_wp2
  go_loopw [2, 3] (fun s i wr => ∃ a : Nat, a ≤ n ∧ i = .int .i64 a ∧ s = .int .i64 (wsum (fun a => cnk n zs a n) (List.range a) : Nat) ∧ Below w.heap.size w wr) (fun _ i _ => n - (intOf i).toNat)
  case atStart => exact ⟨0, Nat.zero_le _, rfl, rfl, Below.refl _ _⟩
  case round =>
    obtain ⟨a, ha, rfl, rfl, hB⟩ := hrel
    obtain ⟨c0, c1, _, _⟩ := (blk_below hX hB).two
    have hwl := wsum_le (n := n) (zs := zs) a
    have hwl2 : a * n ≤ 60 * 60 := Nat.mul_le_mul (by omega) hn
    by_cases hlt : a < n
    · have hai : (a : Int) < (n : Int) := by omega
      have HSU := hide (wsum_succ (n := n) (k := a) (zs := zs))
      generalize wsum (fun a => cnk n zs a n) (List.range a) = S at *
      go_wp2
      clear c0 c1
      go_loopw [2, 4] (fun s i wr => ∃ b : Nat, b ≤ n ∧ i = .int .i64 b ∧ s = .int .i64 (S + cnk n zs a b : Nat) ∧ Below w.heap.size w wr) (fun _ i _ => n - (intOf i).toNat)
      case atStart => exact ⟨0, Nat.zero_le _, rfl, rfl, hB⟩
      case round =>
        clear hB
        obtain ⟨b, hb, rfl, rfl, hB⟩ := hrel
        have hXr := blk_below hX hB
        obtain ⟨c0, c1, _, _⟩ := hXr.two
        have hcl := cnk_le n zs a b
        by_cases hbt : b < n
        · have hbi : (b : Int) < (n : Int) := by omega
          have HM1 := hide (fun W (h : Below wr.heap.size wr W) => M_ok n v zs a b W HT.out (hv.below (bcat2 hB h)) hlt hbt)
          have HM2 := hide (fun W (h : Below wr.heap.size wr W) => M_ok n v zs b a W HT.out (hv.below (bcat2 hB h)) hbt hlt)
          have HCS := hide (cnk_succ n zs a b)
          generalize tm n zs a b = t1 at *
          generalize tm n zs b a = t2 at *
          generalize cnk n zs a b = C at *
          have hS : ∀ W, Below wr.heap.size wr W → (Below wr.heap.size wr W ∧ W.cell? ⟨gb, 0, none⟩ = some (.int .i64 n) ∧ W.cell? ⟨gb, 1, none⟩ = some v) := fun W h => ⟨h, by
            obtain ⟨c0, c1, _, _⟩ := (blk_below hXr h).two
            exact ⟨c0, c1⟩⟩
          have hBc : Below wr.heap.size wr wr.drew := bdrew (Below.refl _ _)
          have hS0 := hS _ hBc
          go_wp2_with fail
          clear c0 c1
          go_cut [25] (fun s25 wx => s25 = .bool ((t1 : Int) == (t2 : Int)) ∧ Below wr.heap.size wr wx)
          case first =>
            refine wp_region_held_drew (S := fun W => Below wr.heap.size wr W ∧ W.cell? ⟨gb, 0, none⟩ = some (.int .i64 n) ∧ W.cell? ⟨gb, 1, none⟩ = some v) (by kernel_rfl) hS0 (fun hHeld => ?_)
            generalize wr.drew = wd at *
            refine wpAnyH_take (i := 0) (oi := ({ dst := some 17, op := Go.Op.load 24 (Go.Operand.tmp 0), type := 24, pos := _, after := _, guard := none } : Oper)) (v := ?_) rfl (by kernel_rfl) (by kernel_rfl) (by kernel_rfl) (fun _ _ _ h => h) (Or.inl ⟨by rfl, ?_⟩) (by assumption) ?_
            rotate_left
            · (intro w hSw; (try dsimp only at hSw); go_simp; try with_reducible rfl)
            simp only [Act.put, List.setIfInBounds_toArray, List.set_cons_zero, List.set_cons_succ]
            refine wpAnyH_take (i := 1) (oi := ({ dst := some 18, op := Go.Op.move (Go.Operand.tmp 3), type := 3, pos := _, after := _, guard := none } : Oper)) (v := ?_) rfl (by kernel_rfl) (by kernel_rfl) (by kernel_rfl) (fun _ _ _ h => h) (Or.inl ⟨by rfl, ?_⟩) (by assumption) ?_
            rotate_left
            · (intro w hSw; (try dsimp only at hSw); go_simp; try with_reducible rfl)
            simp only [Act.put, List.setIfInBounds_toArray, List.set_cons_zero, List.set_cons_succ]
            refine wpAnyH_take (i := 2) (oi := ({ dst := some 19, op := Go.Op.move (Go.Operand.tmp 4), type := 3, pos := _, after := _, guard := none } : Oper)) (v := ?_) rfl (by kernel_rfl) (by kernel_rfl) (by kernel_rfl) (fun _ _ _ h => h) (Or.inl ⟨by rfl, ?_⟩) (by assumption) ?_
            rotate_left
            · (intro w hSw; (try dsimp only at hSw); go_simp; try with_reducible rfl)
            simp only [Act.put, List.setIfInBounds_toArray, List.set_cons_zero, List.set_cons_succ]
            refine wpAnyH_take (i := 4) (oi := ({ dst := some 21, op := Go.Op.load 24 (Go.Operand.tmp 0), type := 24, pos := _, after := _, guard := none } : Oper)) (v := ?_) rfl (by kernel_rfl) (by kernel_rfl) (by kernel_rfl) (fun _ _ _ h => h) (Or.inl ⟨by rfl, ?_⟩) (by assumption) ?_
            rotate_left
            · (intro w hSw; (try dsimp only at hSw); go_simp; try with_reducible rfl)
            simp only [Act.put, List.setIfInBounds_toArray, List.set_cons_zero, List.set_cons_succ]
            refine wpAnyH_take (i := 5) (oi := ({ dst := some 22, op := Go.Op.move (Go.Operand.tmp 4), type := 3, pos := _, after := _, guard := none } : Oper)) (v := ?_) rfl (by kernel_rfl) (by kernel_rfl) (by kernel_rfl) (fun _ _ _ h => h) (Or.inl ⟨by rfl, ?_⟩) (by assumption) ?_
            rotate_left
            · (intro w hSw; (try dsimp only at hSw); go_simp; try with_reducible rfl)
            simp only [Act.put, List.setIfInBounds_toArray, List.set_cons_zero, List.set_cons_succ]
            refine wpAnyH_take (i := 6) (oi := ({ dst := some 23, op := Go.Op.move (Go.Operand.tmp 3), type := 3, pos := _, after := _, guard := none } : Oper)) (v := ?_) rfl (by kernel_rfl) (by kernel_rfl) (by kernel_rfl) (fun _ _ _ h => h) (Or.inl ⟨by rfl, ?_⟩) (by assumption) ?_
            rotate_left
            · (intro w hSw; (try dsimp only at hSw); go_simp; try with_reducible rfl)
            simp only [Act.put, List.setIfInBounds_toArray, List.set_cons_zero, List.set_cons_succ]
            refine wpAnyH_ready (rs := [3]) (by kernel_rfl) (by simp) (AllReadyH.cons (o := ({ dst := some 20, op := Go.Op.call { callee := Go.Callee.value (Go.Operand.func 19), args := #[Go.Operand.tmp 17, Go.Operand.tmp 18, Go.Operand.tmp 19], argTypes := #[24, 3, 3] }, type := 3, pos := _, after := _, guard := none } : Oper)) rfl (fun KK hK => ?_) AllReadyH.nil)
            go_simp
            refine (HM1.out _ hBc).mono ?_
            rintro x1 W1 ⟨rfl, hl1⟩
            replace hBc := bcat2 hBc hl1
            try go_wp2_with fail
            refine hK.out _ _ (hS _ hBc) (fun hHeld => ?_)
            clear hK
            try simp only [Act.put, List.setIfInBounds_toArray, List.set_cons_zero, List.set_cons_succ]
            refine wpAnyH_ready (rs := [7]) (by kernel_rfl) (by simp) (AllReadyH.cons (o := ({ dst := some 24, op := Go.Op.call { callee := Go.Callee.value (Go.Operand.func 19), args := #[Go.Operand.tmp 21, Go.Operand.tmp 22, Go.Operand.tmp 23], argTypes := #[24, 3, 3] }, type := 3, pos := _, after := _, guard := none } : Oper)) rfl (fun KK hK => ?_) AllReadyH.nil)
            go_simp
            refine (HM2.out _ hBc).mono ?_
            rintro x2 W2 ⟨rfl, hl2⟩
            replace hBc := bcat2 hBc hl2
            try go_wp2_with fail
            refine hK.out _ _ (hS _ hBc) (fun hHeld => ?_)
            clear hK
            try simp only [Act.put, List.setIfInBounds_toArray, List.set_cons_zero, List.set_cons_succ]
            refine wpAnyH_take (i := 8) (oi := ({ dst := some 25, op := Go.Op.binOp Go.BinOp.eql 3 (Go.Operand.tmp 20) (Go.Operand.tmp 24) 3, type := 4, pos := _, after := _, guard := none } : Oper)) (v := ?_) rfl (by kernel_rfl) (by kernel_rfl) (by kernel_rfl) (fun _ _ _ h => h) (Or.inl ⟨by rfl, ?_⟩) (by assumption) ?_
            rotate_left
            · (intro w hSw; (try dsimp only at hSw); go_simp; try with_reducible rfl)
            simp only [Act.put, List.setIfInBounds_toArray, List.set_cons_zero, List.set_cons_succ]
            refine wpAnyH_done (by kernel_rfl) ?_ _
            go_wp2
            go_meet
            exact ⟨rfl, hBc⟩
          case rest =>
            obtain ⟨rfl, hbx⟩ := hcut
            have hBx := bcat2 hB hbx
            by_cases htt : t1 = t2
            · rw [if_pos htt, ] at HCS
              have hbt2 : ((t1 : Int) == (t2 : Int)) = true := by rw [htt]; simp
              rw [hbt2]
              clear hbt2 htt
              go_wp2
              go_roundw
              case rel => exact ⟨b + 1, by omega, by go_num, by rw [HCS.out]; go_num, hBx⟩
              case measure => simp [intOf]; omega
            · rw [if_neg htt] at HCS
              have hbt2 : ((t1 : Int) == (t2 : Int)) = false := by rw [beq_eq_false_iff_ne]; omega
              rw [hbt2]
              clear hbt2 htt
              go_wp2
              go_roundw
              case rel => exact ⟨b + 1, by omega, by go_num, by rw [HCS.out, Nat.add_zero], hBx⟩
              case measure => simp [intOf]; omega
        · have hbi : ¬ (b : Int) < (n : Int) := by omega
          obtain rfl : b = n := by omega
          rw [← HSU.out]
          go_wp2
          go_roundw
          case rel => exact ⟨a + 1, by omega, by go_num, rfl, hB⟩
          case measure => simp [intOf]; omega
    · have hai : ¬ (a : Int) < (n : Int) := by omega
      obtain rfl : a = n := by omega
      go_wp2
      go_ret
      exact ⟨rfl, hB⟩
theorem pwl_which {n e t x : Nat} {z : Int} {zs : List Int} (g : IsGrp n zs e) (hx : x < n) (hh : (lst n (clq n zs e x)).head? = some x) (hat : (rcs n (clq n zs e) n)[t]? = some (li (lst n (clq n zs e x)))) : whichI (rcs n (clq n zs e) n) (pz n zs e x z : Nat) = pwl n zs e z t := by
  have h := clq_parts g
  rw [← h.csl_rcs (q := clq n zs e) (fun _ _ _ _ => rfl), prts_which h (pz_lt g hx z)]
  unfold pwl
  rw [lda_eq hh hat]
theorem cl24_call (x y : Value) (W : World) : Sem.run Tryd.prog (callFunc 24 #[x, y]) W = .ok (.enter 24 #[x, y]) W := by kernel_rfl
set_option maxRecDepth 100000 in
set_option maxHeartbeats 4000000 in
/-- The law's powers of classes. -/
theorem cl24_ok (n e gb nb : Nat) (z : Int) (v : Value) (zs : List Int) (w : World) (g : IsGrp n zs e) (hv : Sl w v zs) (hT : Tab w) (hX : BoxG w gb n v) (hZ : Boxed w nb 3 (.int .i64 z)) :
    Calls Tryd.prog 24 #[.pointer (some ⟨gb, 0, none⟩), .pointer (some ⟨nb, 0, none⟩)] w fun x w' => ∃ r, x = .returned r ∧ Sl w' r ((List.range (rcs n (clq n zs e) n).length).map (pwl n zs e z)) ∧ Below w.heap.size w w' := by
  obtain ⟨i0, hi, hz0, hz1, hz2⟩ := info_parts info3b
  obtain ⟨c0, c1, _, _⟩ := hX.two
  have HC := hide (rcl_ok n e v zs w g hv)
  have h0 := hT.lt
  have hn := g.tab.le
  go_enter Tryd.func24, Tryd.ntmps24
  go_wp2_with fail
  refine HC.out.mono ?_
  rintro x w1 ⟨r, vs, rfl, hrow0, hls, hb1⟩
  have hL := SlL.of_own hrow0 hls (Nat.lt_of_lt_of_le h0 hb1.size)
  have h01 : 0 < w1.heap.size := Nat.lt_of_lt_of_le h0 hb1.size
  have hX1 := blk_below hX hb1
  have hZ1 := Boxed.below hZ hb1
  have hrl := rcs_len n (clq n zs e) n
  have HWH0 := hide (fun W a (h : Below w1.heap.size w1 W) => which_ok r (rcs n (clq n zs e) n) a W (hL.below h))
  obtain ⟨la, lc, lb, lo, rfl, hl1, hl2, hl3, hl4, hl5⟩ := hL
  have HL1 := hide hl1
  have HL2 := hide hl2
  clear c0 c1 hrow0 hls hl1 hl2
  go_wp2
  go_loopw [4, 5] (fun o i wr => ∃ k : Nat, k ≤ (rcs n (clq n zs e) n).length ∧ i = .int .i64 k ∧ wr.ownsRow w1.heap.size 3 1 o ((List.range k).map (pwl n zs e z)).length (((List.range k).map (pwl n zs e z)).map (Value.int .i64)) ∧ Below w1.heap.size w1 wr) (fun _ i _ => (rcs n (clq n zs e) n).length - (intOf i).toNat)
  case atStart => exact ⟨0, Nat.zero_le _, rfl, World.ownsRow_nil _ _ _ _, Below.refl _ _⟩
  case round =>
    obtain ⟨k, hk, rfl, hrow, hB⟩ := hrel
    by_cases hlt : k < (rcs n (clq n zs e) n).length
    · obtain ⟨x, hx, hhd, hat⟩ := rcs_at hlt
      have hkl : (k : Int) < ((rcs n (clq n zs e) n).length : Int) := by omega
      obtain ⟨xx, cx, hSx⟩ := HL2.out k hlt
      rw [hat, Option.getD_some] at hSx
      obtain ⟨tl, htl⟩ : ∃ tl, lst n (clq n zs e x) = x :: tl := by
        cases hl : lst n (clq n zs e x) with
        | nil => rw [hl] at hhd; simp at hhd
        | cons y t => rw [hl] at hhd; simp at hhd; exact ⟨t, by rw [hhd]⟩
      obtain ⟨qa, qc, qb, qo, rfl, hq, hq1, hq2, hq3⟩ := hSx
      have hqc := hq.cell 0 (by rw [htl]; simp [li])
      obtain rfl := hq.at_ (by rw [htl]; simp [li])
      have hq0 : (li (lst n (clq n zs e x)))[0]?.getD 0 = (x : Int) := by rw [htl]; simp [li]
      rw [hq0, Nat.add_zero] at hqc
      have hqp : 0 < (lst n (clq n zs e x)).length := by rw [htl]; simp
      rw [li_len] at cx
      obtain rfl := HL1.out (by omega)
      have HPP := hide (fun W (h : Below w1.heap.size w1 W) => P_ok g hx z v W (hv.below (bcat2 hb1 h)))
      have HWH := hide (fun W (h : Below w1.heap.size w1 W) => HWH0.out W (pz n zs e x z : Nat) h)
      rw [pwl_which g hx hhd hat] at HWH
      have HRS := hide (show (List.range (k + 1)).map (pwl n zs e z) = (List.range k).map (pwl n zs e z) ++ [pwl n zs e z k] by rw [List.range_succ, List.map_append]; rfl)
      obtain ⟨ra, rcap, rfl⟩ := own_slice' hrow
      have hvl : ((List.range k).map (pwl n zs e z)).length = k := by simp
      rw [hvl] at hrow
      generalize hc9 : pwl n zs e z k = c9 at *
      generalize pz n zs e x z = px at *
      clear htl hq hq0 hhd hat hq2 hc9
      generalize (lst n (clq n zs e x)).length = ql at *
      have hS : ∀ W, Below w1.heap.size w1 W → (Below w1.heap.size w1 W ∧ W.cell? ⟨gb, 0, none⟩ = some (.int .i64 n) ∧ W.cell? ⟨gb, 1, none⟩ = some v ∧ W.cell? ⟨nb, 0, none⟩ = some (.int .i64 z) ∧ W.cell? ⟨lb, lo + k, none⟩ = some (.slice (some ⟨qb, qo, none⟩) ql qc) ∧ W.cell? ⟨qb, qo, none⟩ = some (.int .i64 x)) := fun W h => by
        obtain ⟨c0, c1, _, _⟩ := (blk_below hX1 h).two
        exact ⟨h, c0, c1, (Boxed.below hZ1 h).cell, below_cell h cx, below_cell h hqc⟩
      have hBc : Below w1.heap.size w1 wr.drew := bdrew hB
      have hS0 := hS _ hBc
      replace hrow : wr.drew.ownsRow w1.heap.size 3 1 (.slice ra k rcap) k (((List.range k).map (pwl n zs e z)).map (Value.int .i64)) := hrow
      rw [hvl]
      go_wp2_with fail
      refine wp_region_held_drew (S := fun W => Below w1.heap.size w1 W ∧ W.cell? ⟨gb, 0, none⟩ = some (.int .i64 n) ∧ W.cell? ⟨gb, 1, none⟩ = some v ∧ W.cell? ⟨nb, 0, none⟩ = some (.int .i64 z) ∧ W.cell? ⟨lb, lo + k, none⟩ = some (.slice (some ⟨qb, qo, none⟩) ql qc) ∧ W.cell? ⟨qb, qo, none⟩ = some (.int .i64 x)) (by kernel_rfl) hS0 (fun hHeld => ?_)
      generalize wr.drew = wd at *
      refine wpAnyH_take (i := 0) (oi := ({ dst := some 14, op := Go.Op.move (Go.Operand.tmp 4), type := 22, pos := _, after := _, guard := none } : Oper)) (v := ?_) rfl (by kernel_rfl) (by kernel_rfl) (by kernel_rfl) (fun _ _ _ h => h) (Or.inl ⟨by rfl, ?_⟩) (by assumption) ?_
      rotate_left
      · (intro w hSw; (try dsimp only at hSw); go_simp; try with_reducible rfl)
      simp only [Act.put, List.setIfInBounds_toArray, List.set_cons_zero, List.set_cons_succ]
      refine wpAnyH_take (i := 1) (oi := ({ dst := some 15, op := Go.Op.move (Go.Operand.tmp 3), type := 25, pos := _, after := _, guard := none } : Oper)) (v := ?_) rfl (by kernel_rfl) (by kernel_rfl) (by kernel_rfl) (fun _ _ _ h => h) (Or.inl ⟨by rfl, ?_⟩) (by assumption) ?_
      rotate_left
      · (intro w hSw; (try dsimp only at hSw); go_simp; try with_reducible rfl)
      simp only [Act.put, List.setIfInBounds_toArray, List.set_cons_zero, List.set_cons_succ]
      refine wpAnyH_take (i := 2) (oi := ({ dst := some 16, op := Go.Op.load 24 (Go.Operand.tmp 0), type := 24, pos := _, after := _, guard := none } : Oper)) (v := ?_) rfl (by kernel_rfl) (by kernel_rfl) (by kernel_rfl) (fun _ _ _ h => h) (Or.inl ⟨by rfl, ?_⟩) (by assumption) ?_
      rotate_left
      · (intro w hSw; (try dsimp only at hSw); go_simp; try with_reducible rfl)
      simp only [Act.put, List.setIfInBounds_toArray, List.set_cons_zero, List.set_cons_succ]
      refine wpAnyH_take (i := 3) (oi := ({ dst := some 17, op := Go.Op.move (Go.Operand.tmp 3), type := 25, pos := _, after := _, guard := none } : Oper)) (v := ?_) rfl (by kernel_rfl) (by kernel_rfl) (by kernel_rfl) (fun _ _ _ h => h) (Or.inl ⟨by rfl, ?_⟩) (by assumption) ?_
      rotate_left
      · (intro w hSw; (try dsimp only at hSw); go_simp; try with_reducible rfl)
      simp only [Act.put, List.setIfInBounds_toArray, List.set_cons_zero, List.set_cons_succ]
      refine wpAnyH_take (i := 4) (oi := ({ dst := some 18, op := Go.Op.move (Go.Operand.tmp 5), type := 3, pos := _, after := _, guard := none } : Oper)) (v := ?_) rfl (by kernel_rfl) (by kernel_rfl) (by kernel_rfl) (fun _ _ _ h => h) (Or.inl ⟨by rfl, ?_⟩) (by assumption) ?_
      rotate_left
      · (intro w hSw; (try dsimp only at hSw); go_simp; try with_reducible rfl)
      simp only [Act.put, List.setIfInBounds_toArray, List.set_cons_zero, List.set_cons_succ]
      refine wpAnyH_take (i := 5) (oi := ({ dst := some 19, op := Go.Op.indexAddr 25 (Go.Operand.tmp 17) (Go.Operand.tmp 18), type := 0, pos := _, after := _, guard := none } : Oper)) (v := ?_) rfl (by kernel_rfl) (by kernel_rfl) (by kernel_rfl) (fun _ _ _ h => h) (Or.inl ⟨by rfl, ?_⟩) (by assumption) ?_
      rotate_left
      · (intro w hSw; (try dsimp only at hSw); go_simp; try with_reducible rfl)
      simp only [Act.put, List.setIfInBounds_toArray, List.set_cons_zero, List.set_cons_succ]
      refine wpAnyH_take (i := 6) (oi := ({ dst := some 20, op := Go.Op.load 22 (Go.Operand.tmp 19), type := 22, pos := _, after := _, guard := none } : Oper)) (v := ?_) rfl (by kernel_rfl) (by kernel_rfl) (by kernel_rfl) (fun _ _ _ h => h) (Or.inl ⟨by rfl, ?_⟩) (by assumption) ?_
      rotate_left
      · (intro w hSw; (try dsimp only at hSw); go_simp; try with_reducible rfl)
      simp only [Act.put, List.setIfInBounds_toArray, List.set_cons_zero, List.set_cons_succ]
      refine wpAnyH_take (i := 7) (oi := ({ dst := some 21, op := Go.Op.indexAddr 22 (Go.Operand.tmp 20) (Go.Operand.const (Go.Value.int Go.IntKind.i64 0)), type := 0, pos := _, after := _, guard := none } : Oper)) (v := ?_) rfl (by kernel_rfl) (by kernel_rfl) (by kernel_rfl) (fun _ _ _ h => h) (Or.inl ⟨by rfl, ?_⟩) (by assumption) ?_
      rotate_left
      · (intro w hSw; (try dsimp only at hSw); go_simp; try with_reducible rfl)
      simp only [Act.put, List.setIfInBounds_toArray, List.set_cons_zero, List.set_cons_succ]
      refine wpAnyH_take (i := 8) (oi := ({ dst := some 22, op := Go.Op.load 3 (Go.Operand.tmp 21), type := 3, pos := _, after := _, guard := none } : Oper)) (v := ?_) rfl (by kernel_rfl) (by kernel_rfl) (by kernel_rfl) (fun _ _ _ h => h) (Or.inl ⟨by rfl, ?_⟩) (by assumption) ?_
      rotate_left
      · (intro w hSw; (try dsimp only at hSw); go_simp; try with_reducible rfl)
      simp only [Act.put, List.setIfInBounds_toArray, List.set_cons_zero, List.set_cons_succ]
      refine wpAnyH_take (i := 9) (oi := ({ dst := some 23, op := Go.Op.load 3 (Go.Operand.tmp 1), type := 3, pos := _, after := _, guard := none } : Oper)) (v := ?_) rfl (by kernel_rfl) (by kernel_rfl) (by kernel_rfl) (fun _ _ _ h => h) (Or.inl ⟨by rfl, ?_⟩) (by assumption) ?_
      rotate_left
      · (intro w hSw; (try dsimp only at hSw); go_simp; try with_reducible rfl)
      simp only [Act.put, List.setIfInBounds_toArray, List.set_cons_zero, List.set_cons_succ]
      refine wpAnyH_ready (rs := [10]) (by kernel_rfl) (by simp) (AllReadyH.cons (o := ({ dst := some 24, op := Go.Op.call { callee := Go.Callee.value (Go.Operand.func 26), args := #[Go.Operand.tmp 16, Go.Operand.tmp 22, Go.Operand.tmp 23], argTypes := #[24, 3, 3] }, type := 3, pos := _, after := _, guard := none } : Oper)) rfl (fun KK hK => ?_) AllReadyH.nil)
      go_simp
      refine (HPP.out _ hBc).mono ?_
      rintro x1 W1 ⟨rfl, hl1⟩
      replace hBc := bcat2 hBc hl1
      replace hrow := own_keep' hrow (fun g _ h2 => hl1.block g h2)
      try go_wp2_with fail
      refine hK.out _ _ (hS _ hBc) (fun hHeld => ?_)
      clear hK
      try simp only [Act.put, List.setIfInBounds_toArray, List.set_cons_zero, List.set_cons_succ]
      refine wpAnyH_ready (rs := [11]) (by kernel_rfl) (by simp) (AllReadyH.cons (o := ({ dst := some 25, op := Go.Op.call { callee := Go.Callee.value (Go.Operand.func 25), args := #[Go.Operand.tmp 15, Go.Operand.tmp 24], argTypes := #[25, 3] }, type := 3, pos := _, after := _, guard := none } : Oper)) rfl (fun KK hK => ?_) AllReadyH.nil)
      go_simp
      refine (HWH.out _ hBc).mono ?_
      rintro x2 W2 ⟨rfl, hl2⟩
      replace hBc := bcat2 hBc hl2
      replace hrow := own_keep' hrow (fun g _ h2 => hl2.block g h2)
      try go_wp2_with fail
      refine hK.out _ _ (hS _ hBc) (fun hHeld => ?_)
      clear hK
      try simp only [Act.put, List.setIfInBounds_toArray, List.set_cons_zero, List.set_cons_succ]
      refine wpAnyH_ready (rs := [12]) (by kernel_rfl) (by simp) (AllReadyH.cons (o := ({ dst := some 26, op := Go.Op.buildSlice 22 1 #[(0, Go.Operand.tmp 25)], type := 22, pos := _, after := _, guard := none } : Oper)) rfl (fun KK hK => ?_) AllReadyH.nil)
      have hbs := hBc.size
      have ha3 := balloc (W2) (.cells #[.int .i64 c9] 3)
      replace hBc := bcat2 hBc ha3
      replace hrow := own_keep' hrow (fun g _ h2 => ha3.block g h2)
      have hL9 : Blk ((W2).alloc (.cells #[.int .i64 c9] 3)) (W2).heap.size 3 [.int .i64 c9] := World.alloc_heap_new _ _
      go_simp
      refine hK.out _ _ (hS _ hBc) (fun hHeld => ?_)
      clear hK
      try simp only [Act.put, List.setIfInBounds_toArray, List.set_cons_zero, List.set_cons_succ]
      generalize (W2).alloc (.cells #[.int .i64 c9] 3) = W3 at *
      generalize (W2).heap.size = yb at *
      refine wpAnyH_ready (rs := [13]) (by kernel_rfl) (by simp) (AllReadyH.cons (o := ({ dst := some 27, op := Go.Op.call { callee := Go.Callee.builtin Go.Builtin.append, args := #[Go.Operand.tmp 14, Go.Operand.tmp 26], argTypes := #[22, 22] }, type := 22, pos := _, after := _, guard := none } : Oper)) rfl (fun KK hK => ?_) AllReadyH.nil)
      rw [if_pos (by rfl)]
      refine wp_append_own _ _ _ 22 rfl w1.heap.size 3 i0 (.int .i64 0) 1 8 under22b hi hz0 hz1 hz2 rfl (by decide) _ _ _ rfl hrow ⟨yb, 0, none⟩ 1 1 [.int .i64 c9] rfl rfl ?c1 ?c2 ?c3 ?c4 ?c5 ?_
      case c1 =>
        intro j y hj
        match j, hj with
        | 0, hj => simp at hj; subst hj; exact hL9.cell 0
      case c2 => simp [Value.oneCell']
      case c3 => unfold maxLen; omega
      case c4 => omega
      case c5 => exact hBc.size
      intro v' w7 hown' hgrow hnil
      replace hBc := hBc.grown hgrow hBc.size (fun t e => owns_ge hrow t e)
      clear hrow
      refine hK.out _ _ (hS _ hBc) (fun hHeld => ?_)
      clear hK
      try simp only [Act.put, List.setIfInBounds_toArray, List.set_cons_zero, List.set_cons_succ]
      refine wpAnyH_take (i := 14) (oi := ({ dst := some 4, op := Go.Op.assign (Go.Operand.tmp 27), type := 22, pos := _, after := _, guard := none } : Oper)) (v := ?_) rfl (by kernel_rfl) (by kernel_rfl) (by kernel_rfl) (fun _ _ _ h => h) (Or.inl ⟨by rfl, ?_⟩) (by assumption) ?_
      rotate_left
      · (intro w hSw; (try dsimp only at hSw); go_simp; try with_reducible rfl)
      simp only [Act.put, List.setIfInBounds_toArray, List.set_cons_zero, List.set_cons_succ]
      refine wpAnyH_done (by kernel_rfl) ?_ _
      go_wp2
      go_roundw
      case rel => exact ⟨k + 1, by omega, by go_num, by rw [HRS.out, List.length_append, hvl, List.map_append]; exact hown', hBc⟩
      case measure => simp [intOf]; omega
    · have hkl : ¬ (k : Int) < ((rcs n (clq n zs e) n).length : Int) := by omega
      obtain rfl : k = (rcs n (clq n zs e) n).length := by omega
      have hSl := Sl.of_own hrow (Nat.lt_of_lt_of_le h01 hB.size)
      go_wp2
      go_ret
      exact ⟨_, rfl, hSl, bcat2 hb1 hB⟩
end Go.Proofs.YtobnfbnholbfoaaDoor

namespace Go.Proofs.YtobnfbnholbfoaaDoor
open Go Go.RowKit Go.Maps

set_option maxRecDepth 100000 in
set_option maxHeartbeats 4000000 in
theorem clpow_walk (N z c i kv : Int) (v : Value) (zs : List Int) (w : World) (hT : Tab w) (PS : World → Value → Prop)
    (HPU : Hid (∀ W W' x, PS W x → Below W.heap.size W W' → PS W' x))
    (HPK : Hid (∀ W p1 p2 (p3 : Nat) fb, PS W (.slice p1 p2 p3) → Blk W fb 27 [.int .i64 0, .int .i64 0] → PS ((W.setCell ⟨fb, 0, none⟩ (.int .i64 c)).setCell ⟨fb, 1, none⟩ (.int .i64 i)) (.slice p1 p2 p3)))
    (HOW : Hid (∀ W, Below w.heap.size w W → Calls Tryd.prog 10 #[.agg #[.int .i64 N, v]] W fun x W' => ∃ u, x = .returned (.agg #[.int .i64 N, u]) ∧ Sl W' u zs ∧ Below W.heap.size W W'))
    (HPW : Hid (∀ W u, Below w.heap.size w W → Sl W u zs → Calls Tryd.prog 21 #[.agg #[.int .i64 N, u], .int .i64 z] W fun x W' => ∃ p1 p2 p3, x = .returned (.tuple #[.slice p1 p2 p3, .agg #[.int .i64 c, .int .i64 i]]) ∧ PS W' (.slice p1 p2 p3) ∧ Below W.heap.size W W'))
    (HPA : Hid (∀ W u, Below w.heap.size w W → Sl W u zs → Calls Tryd.prog 22 #[.agg #[.int .i64 N, u]] W fun x W' => x = .returned (.tuple #[.int .i64 kv, .agg #[.int .i64 c, .int .i64 i]]) ∧ Below W.heap.size W W'))
    (HGF : Hid (∀ W, Below w.heap.size w W → Calls Tryd.prog 11 #[.agg #[.int .i64 N, v]] W fun x W' => x = .returned (.agg #[.int .i64 c, .int .i64 i]) ∧ Below W.heap.size W W'))
    (HLA : Hid (∀ W p1 p2 p3 gb nb, Below w.heap.size w W → PS W (.slice p1 p2 p3) → BoxG W gb N v → Boxed W nb 3 (.int .i64 z) → Calls Tryd.prog 23 #[.slice p1 p2 p3, .agg #[.int .i64 c, .int .i64 i], .agg #[.int .i64 c, .int .i64 i], .func (.func 24) #[] #[.pointer (some ⟨gb, 0, none⟩), .pointer (some ⟨nb, 0, none⟩)]] W fun x W' => x = .returned (.bool true) ∧ Below W.heap.size W W'))
    (HNA : Hid (∀ W gb, Below w.heap.size w W → BoxG W gb N v → Calls Tryd.prog 27 #[.int .i64 kv, .agg #[.int .i64 c, .int .i64 i], .agg #[.int .i64 c, .int .i64 i], .func (.func 28) #[] #[.pointer (some ⟨gb, 0, none⟩)]] W fun x W' => x = .returned (.bool true) ∧ Below W.heap.size W W')) :
    Calls Tryd.prog 5 #[.agg #[.int .i64 N, v], .int .i64 z] w fun x w' => x = .returned (.bool true) ∧ Below w.heap.size w w' := by
  obtain ⟨w0, hw0⟩ : ∃ w0, w0 = (w.alloc (.cells #[.int .i64 N, v] 24)).alloc (.cells #[.int .i64 z] 3) := ⟨_, rfl⟩
  have hB0 : Below w.heap.size w w0 := by rw [hw0]; exact (balloc w _).alloc (by simp) _
  have hX0 : BoxG w0 w.heap.size N v := by rw [hw0]; exact (blk0 _ _).alloc _
  have hZ0 : Boxed w0 (w.heap.size + 1) 3 (.int .i64 z) := by
    have h := Boxed.new (w.alloc (.cells #[.int .i64 N, v] 24)) 3 (.int .i64 z)
    rw [World.size_alloc, ← hw0] at h
    exact h
  have hS : ∀ W, Below w0.heap.size w0 W → (Below w0.heap.size w0 W ∧ W.cell? ⟨w.heap.size, 0, none⟩ = some (.int .i64 N) ∧ W.cell? ⟨w.heap.size, 1, none⟩ = some v ∧ W.cell? ⟨w.heap.size + 1, 0, none⟩ = some (.int .i64 z)) := fun W h => by
    obtain ⟨c0, c1, _, _⟩ := (blk_below hX0 h).two
    exact ⟨h, c0, c1, (Boxed.below hZ0 h).cell⟩
  have hBc : Below w0.heap.size w0 w0.drew := bdrew (Below.refl _ _)
  have hS0 := hS _ hBc
  go_enter Tryd.func5, Tryd.ntmps5
  go_wp2_with fail
  rw [← hw0]
  clear hw0
  go_cut [5, 6] (fun s5 s6 wx => ∃ p1 p2 p3 fb, s5 = .slice p1 p2 p3 ∧ s6 = .pointer (some ⟨fb, 0, none⟩) ∧ Blk wx fb 27 [.int .i64 c, .int .i64 i] ∧ PS wx (.slice p1 p2 p3) ∧ Below w0.heap.size w0 wx)
  case first =>
    refine wp_region_held_drew (S := fun W => Below w0.heap.size w0 W ∧ W.cell? ⟨w.heap.size, 0, none⟩ = some (.int .i64 N) ∧ W.cell? ⟨w.heap.size, 1, none⟩ = some v ∧ W.cell? ⟨w.heap.size + 1, 0, none⟩ = some (.int .i64 z)) (by kernel_rfl) hS0 (fun hHeld => ?_)
    generalize w0.drew = wd at *
    refine wpAnyH_take (i := 0) (oi := ({ dst := some 11, op := Go.Op.load 24 (Go.Operand.tmp 2), type := 24, pos := _, after := _, guard := none } : Oper)) (v := ?_) rfl (by kernel_rfl) (by kernel_rfl) (by kernel_rfl) (fun _ _ _ h => h) (Or.inl ⟨by rfl, ?_⟩) (by assumption) ?_
    rotate_left
    · (intro w hSw; (try dsimp only at hSw); go_simp; try with_reducible rfl)
    simp only [Act.put, List.setIfInBounds_toArray, List.set_cons_zero, List.set_cons_succ]
    refine wpAnyH_take (i := 2) (oi := ({ dst := some 13, op := Go.Op.load 3 (Go.Operand.tmp 3), type := 3, pos := _, after := _, guard := none } : Oper)) (v := ?_) rfl (by kernel_rfl) (by kernel_rfl) (by kernel_rfl) (fun _ _ _ h => h) (Or.inl ⟨by rfl, ?_⟩) (by assumption) ?_
    rotate_left
    · (intro w hSw; (try dsimp only at hSw); go_simp; try with_reducible rfl)
    simp only [Act.put, List.setIfInBounds_toArray, List.set_cons_zero, List.set_cons_succ]
    refine wpAnyH_ready (rs := [1, 7]) (by kernel_rfl) (by simp) (AllReadyH.cons (o := ({ dst := some 12, op := Go.Op.call { callee := Go.Callee.value (Go.Operand.func 10), args := #[Go.Operand.tmp 11], argTypes := #[24] }, type := 24, pos := _, after := _, guard := none } : Oper)) rfl (fun KK hK => ?_) (AllReadyH.cons (o := ({ dst := some 6, op := Go.Op.alloc 27, type := 0, pos := _, after := _, guard := none } : Oper)) rfl (fun KK hK => ?_) AllReadyH.nil))
    · go_simp
      refine (HOW.out _ (bcat2 hB0 hBc)).mono ?_
      rintro x1 W1 ⟨u, rfl, hu, hl1⟩
      replace hBc := bcat2 hBc hl1
      try go_wp2_with fail
      refine hK.out _ _ (hS _ hBc) (fun hHeld => ?_)
      clear hK
      try simp only [Act.put, List.setIfInBounds_toArray, List.set_cons_zero, List.set_cons_succ]
      refine wpAnyH_ready (rs := [3, 7]) (by kernel_rfl) (by simp) (AllReadyH.cons (o := ({ dst := some 14, op := Go.Op.call { callee := Go.Callee.value (Go.Operand.func 21), args := #[Go.Operand.tmp 12, Go.Operand.tmp 13], argTypes := #[24, 3] }, type := 36, pos := _, after := _, guard := none } : Oper)) rfl (fun KK hK => ?_) (AllReadyH.cons (o := ({ dst := some 6, op := Go.Op.alloc 27, type := 0, pos := _, after := _, guard := none } : Oper)) rfl (fun KK hK => ?_) AllReadyH.nil))
      · go_simp
        refine (HPW.out _ _ (bcat2 hB0 hBc) hu).mono ?_
        rintro x2 W2 ⟨p1, p2, p3, rfl, hP, hl2⟩
        replace hBc := bcat2 hBc hl2
        replace hu := hu.below hl2
        try go_wp2_with fail
        refine hK.out _ _ (hS _ hBc) (fun hHeld => ?_)
        clear hK
        try simp only [Act.put, List.setIfInBounds_toArray, List.set_cons_zero, List.set_cons_succ]
        refine wpAnyH_take (i := 4) (oi := ({ dst := some 10, op := Go.Op.move (Go.Operand.tmp 14), type := 36, pos := _, after := _, guard := none } : Oper)) (v := ?_) rfl (by kernel_rfl) (by kernel_rfl) (by kernel_rfl) (fun _ _ _ h => h) (Or.inl ⟨by rfl, ?_⟩) (by assumption) ?_
        rotate_left
        · (intro w hSw; (try dsimp only at hSw); go_simp; try with_reducible rfl)
        simp only [Act.put, List.setIfInBounds_toArray, List.set_cons_zero, List.set_cons_succ]
        refine wpAnyH_take (i := 5) (oi := ({ dst := some 15, op := Go.Op.extract (Go.Operand.tmp 10) 0, type := 22, pos := _, after := _, guard := none } : Oper)) (v := ?_) rfl (by kernel_rfl) (by kernel_rfl) (by kernel_rfl) (fun _ _ _ h => h) (Or.inl ⟨by rfl, ?_⟩) (by assumption) ?_
        rotate_left
        · (intro w hSw; (try dsimp only at hSw); go_simp; try with_reducible rfl)
        simp only [Act.put, List.setIfInBounds_toArray, List.set_cons_zero, List.set_cons_succ]
        refine wpAnyH_take (i := 6) (oi := ({ dst := some 16, op := Go.Op.extract (Go.Operand.tmp 10) 1, type := 27, pos := _, after := _, guard := none } : Oper)) (v := ?_) rfl (by kernel_rfl) (by kernel_rfl) (by kernel_rfl) (fun _ _ _ h => h) (Or.inl ⟨by rfl, ?_⟩) (by assumption) ?_
        rotate_left
        · (intro w hSw; (try dsimp only at hSw); go_simp; try with_reducible rfl)
        simp only [Act.put, List.setIfInBounds_toArray, List.set_cons_zero, List.set_cons_succ]
        refine wpAnyH_ready (rs := [7]) (by kernel_rfl) (by simp) (AllReadyH.cons (o := ({ dst := some 6, op := Go.Op.alloc 27, type := 0, pos := _, after := _, guard := none } : Oper)) rfl (fun KK hK => ?_) AllReadyH.nil)
        have hgF : w0.heap.size ≤ (W2).heap.size := hBc.size
        have ha3 := balloc (W2) (.cells #[.int .i64 0, .int .i64 0] 27)
        replace hBc := bcat2 hBc ha3
        replace hP := HPU.out _ _ _ hP ha3
        have hF : Blk ((W2).alloc (.cells #[.int .i64 0, .int .i64 0] 27)) (W2).heap.size 27 [.int .i64 0, .int .i64 0] := blk0 _ _
        go_simp
        refine hK.out _ _ (hS _ hBc) (fun hHeld => ?_)
        clear hK
        try simp only [Act.put, List.setIfInBounds_toArray, List.set_cons_zero, List.set_cons_succ]
        generalize (W2).alloc (.cells #[.int .i64 0, .int .i64 0] 27) = W3 at *
        generalize (W2).heap.size = fb at *
        refine wpAnyH_take (i := 8) (oi := ({ dst := some 5, op := Go.Op.assign (Go.Operand.tmp 15), type := 22, pos := _, after := _, guard := none } : Oper)) (v := ?_) rfl (by kernel_rfl) (by kernel_rfl) (by kernel_rfl) (fun _ _ _ h => h) (Or.inl ⟨by rfl, ?_⟩) (by assumption) ?_
        rotate_left
        · (intro w hSw; (try dsimp only at hSw); go_simp; try with_reducible rfl)
        simp only [Act.put, List.setIfInBounds_toArray, List.set_cons_zero, List.set_cons_succ]
        refine wpAnyH_ready (rs := [9]) (by kernel_rfl) (by simp) (AllReadyH.cons (o := ({ dst := none, op := Go.Op.store 27 (Go.Operand.tmp 6) (Go.Operand.tmp 16), type := 0, pos := _, after := _, guard := none } : Oper)) rfl (fun KK hK => ?_) AllReadyH.nil)
        obtain ⟨k0, k1, k2, k3⟩ := hF.two
        have hP9 := HPK.out _ _ _ _ fb hP hF
        obtain ⟨hF9, hB9⟩ := put2 hF (w := w0) hBc hgF c i
        clear hBc
        have hBc := hB9
        go_simp
        refine hK.out _ _ (hS _ hBc) (fun hHeld => ?_)
        clear hK
        try simp only [Act.put, List.setIfInBounds_toArray, List.set_cons_zero, List.set_cons_succ]
        clear k0 k1 k2 k3
        refine wpAnyH_done (by kernel_rfl) ?_ _
        go_wp2
        go_meet
        exact ⟨p1, p2, p3, fb, rfl, rfl, hF9, hP9, hBc⟩
      have hgF : w0.heap.size ≤ (W1).heap.size := hBc.size
      have ha3 := balloc (W1) (.cells #[.int .i64 0, .int .i64 0] 27)
      replace hBc := bcat2 hBc ha3
      replace hu := hu.below ha3
      have hF : Blk ((W1).alloc (.cells #[.int .i64 0, .int .i64 0] 27)) (W1).heap.size 27 [.int .i64 0, .int .i64 0] := blk0 _ _
      go_simp
      refine hK.out _ _ (hS _ hBc) (fun hHeld => ?_)
      clear hK
      try simp only [Act.put, List.setIfInBounds_toArray, List.set_cons_zero, List.set_cons_succ]
      generalize (W1).alloc (.cells #[.int .i64 0, .int .i64 0] 27) = W3 at *
      generalize (W1).heap.size = fb at *
      refine wpAnyH_ready (rs := [3]) (by kernel_rfl) (by simp) (AllReadyH.cons (o := ({ dst := some 14, op := Go.Op.call { callee := Go.Callee.value (Go.Operand.func 21), args := #[Go.Operand.tmp 12, Go.Operand.tmp 13], argTypes := #[24, 3] }, type := 36, pos := _, after := _, guard := none } : Oper)) rfl (fun KK hK => ?_) AllReadyH.nil)
      go_simp
      refine (HPW.out _ _ (bcat2 hB0 hBc) hu).mono ?_
      rintro x2 W2 ⟨p1, p2, p3, rfl, hP, hl2⟩
      replace hBc := bcat2 hBc hl2
      replace hF := blk_below hF hl2
      replace hu := hu.below hl2
      try go_wp2_with fail
      refine hK.out _ _ (hS _ hBc) (fun hHeld => ?_)
      clear hK
      try simp only [Act.put, List.setIfInBounds_toArray, List.set_cons_zero, List.set_cons_succ]
      refine wpAnyH_take (i := 4) (oi := ({ dst := some 10, op := Go.Op.move (Go.Operand.tmp 14), type := 36, pos := _, after := _, guard := none } : Oper)) (v := ?_) rfl (by kernel_rfl) (by kernel_rfl) (by kernel_rfl) (fun _ _ _ h => h) (Or.inl ⟨by rfl, ?_⟩) (by assumption) ?_
      rotate_left
      · (intro w hSw; (try dsimp only at hSw); go_simp; try with_reducible rfl)
      simp only [Act.put, List.setIfInBounds_toArray, List.set_cons_zero, List.set_cons_succ]
      refine wpAnyH_take (i := 5) (oi := ({ dst := some 15, op := Go.Op.extract (Go.Operand.tmp 10) 0, type := 22, pos := _, after := _, guard := none } : Oper)) (v := ?_) rfl (by kernel_rfl) (by kernel_rfl) (by kernel_rfl) (fun _ _ _ h => h) (Or.inl ⟨by rfl, ?_⟩) (by assumption) ?_
      rotate_left
      · (intro w hSw; (try dsimp only at hSw); go_simp; try with_reducible rfl)
      simp only [Act.put, List.setIfInBounds_toArray, List.set_cons_zero, List.set_cons_succ]
      refine wpAnyH_take (i := 6) (oi := ({ dst := some 16, op := Go.Op.extract (Go.Operand.tmp 10) 1, type := 27, pos := _, after := _, guard := none } : Oper)) (v := ?_) rfl (by kernel_rfl) (by kernel_rfl) (by kernel_rfl) (fun _ _ _ h => h) (Or.inl ⟨by rfl, ?_⟩) (by assumption) ?_
      rotate_left
      · (intro w hSw; (try dsimp only at hSw); go_simp; try with_reducible rfl)
      simp only [Act.put, List.setIfInBounds_toArray, List.set_cons_zero, List.set_cons_succ]
      refine wpAnyH_take (i := 8) (oi := ({ dst := some 5, op := Go.Op.assign (Go.Operand.tmp 15), type := 22, pos := _, after := _, guard := none } : Oper)) (v := ?_) rfl (by kernel_rfl) (by kernel_rfl) (by kernel_rfl) (fun _ _ _ h => h) (Or.inl ⟨by rfl, ?_⟩) (by assumption) ?_
      rotate_left
      · (intro w hSw; (try dsimp only at hSw); go_simp; try with_reducible rfl)
      simp only [Act.put, List.setIfInBounds_toArray, List.set_cons_zero, List.set_cons_succ]
      refine wpAnyH_ready (rs := [9]) (by kernel_rfl) (by simp) (AllReadyH.cons (o := ({ dst := none, op := Go.Op.store 27 (Go.Operand.tmp 6) (Go.Operand.tmp 16), type := 0, pos := _, after := _, guard := none } : Oper)) rfl (fun KK hK => ?_) AllReadyH.nil)
      obtain ⟨k0, k1, k2, k3⟩ := hF.two
      have hP9 := HPK.out _ _ _ _ fb hP hF
      obtain ⟨hF9, hB9⟩ := put2 hF (w := w0) hBc hgF c i
      clear hBc
      have hBc := hB9
      go_simp
      refine hK.out _ _ (hS _ hBc) (fun hHeld => ?_)
      clear hK
      try simp only [Act.put, List.setIfInBounds_toArray, List.set_cons_zero, List.set_cons_succ]
      clear k0 k1 k2 k3
      refine wpAnyH_done (by kernel_rfl) ?_ _
      go_wp2
      go_meet
      exact ⟨p1, p2, p3, fb, rfl, rfl, hF9, hP9, hBc⟩
    have hgF : w0.heap.size ≤ (wd).heap.size := hBc.size
    have ha3 := balloc (wd) (.cells #[.int .i64 0, .int .i64 0] 27)
    replace hBc := bcat2 hBc ha3
    have hF : Blk ((wd).alloc (.cells #[.int .i64 0, .int .i64 0] 27)) (wd).heap.size 27 [.int .i64 0, .int .i64 0] := blk0 _ _
    go_simp
    refine hK.out _ _ (hS _ hBc) (fun hHeld => ?_)
    clear hK
    try simp only [Act.put, List.setIfInBounds_toArray, List.set_cons_zero, List.set_cons_succ]
    generalize (wd).alloc (.cells #[.int .i64 0, .int .i64 0] 27) = W3 at *
    generalize (wd).heap.size = fb at *
    refine wpAnyH_ready (rs := [1]) (by kernel_rfl) (by simp) (AllReadyH.cons (o := ({ dst := some 12, op := Go.Op.call { callee := Go.Callee.value (Go.Operand.func 10), args := #[Go.Operand.tmp 11], argTypes := #[24] }, type := 24, pos := _, after := _, guard := none } : Oper)) rfl (fun KK hK => ?_) AllReadyH.nil)
    go_simp
    refine (HOW.out _ (bcat2 hB0 hBc)).mono ?_
    rintro x1 W1 ⟨u, rfl, hu, hl1⟩
    replace hBc := bcat2 hBc hl1
    replace hF := blk_below hF hl1
    try go_wp2_with fail
    refine hK.out _ _ (hS _ hBc) (fun hHeld => ?_)
    clear hK
    try simp only [Act.put, List.setIfInBounds_toArray, List.set_cons_zero, List.set_cons_succ]
    refine wpAnyH_ready (rs := [3]) (by kernel_rfl) (by simp) (AllReadyH.cons (o := ({ dst := some 14, op := Go.Op.call { callee := Go.Callee.value (Go.Operand.func 21), args := #[Go.Operand.tmp 12, Go.Operand.tmp 13], argTypes := #[24, 3] }, type := 36, pos := _, after := _, guard := none } : Oper)) rfl (fun KK hK => ?_) AllReadyH.nil)
    go_simp
    refine (HPW.out _ _ (bcat2 hB0 hBc) hu).mono ?_
    rintro x2 W2 ⟨p1, p2, p3, rfl, hP, hl2⟩
    replace hBc := bcat2 hBc hl2
    replace hF := blk_below hF hl2
    replace hu := hu.below hl2
    try go_wp2_with fail
    refine hK.out _ _ (hS _ hBc) (fun hHeld => ?_)
    clear hK
    try simp only [Act.put, List.setIfInBounds_toArray, List.set_cons_zero, List.set_cons_succ]
    refine wpAnyH_take (i := 4) (oi := ({ dst := some 10, op := Go.Op.move (Go.Operand.tmp 14), type := 36, pos := _, after := _, guard := none } : Oper)) (v := ?_) rfl (by kernel_rfl) (by kernel_rfl) (by kernel_rfl) (fun _ _ _ h => h) (Or.inl ⟨by rfl, ?_⟩) (by assumption) ?_
    rotate_left
    · (intro w hSw; (try dsimp only at hSw); go_simp; try with_reducible rfl)
    simp only [Act.put, List.setIfInBounds_toArray, List.set_cons_zero, List.set_cons_succ]
    refine wpAnyH_take (i := 5) (oi := ({ dst := some 15, op := Go.Op.extract (Go.Operand.tmp 10) 0, type := 22, pos := _, after := _, guard := none } : Oper)) (v := ?_) rfl (by kernel_rfl) (by kernel_rfl) (by kernel_rfl) (fun _ _ _ h => h) (Or.inl ⟨by rfl, ?_⟩) (by assumption) ?_
    rotate_left
    · (intro w hSw; (try dsimp only at hSw); go_simp; try with_reducible rfl)
    simp only [Act.put, List.setIfInBounds_toArray, List.set_cons_zero, List.set_cons_succ]
    refine wpAnyH_take (i := 6) (oi := ({ dst := some 16, op := Go.Op.extract (Go.Operand.tmp 10) 1, type := 27, pos := _, after := _, guard := none } : Oper)) (v := ?_) rfl (by kernel_rfl) (by kernel_rfl) (by kernel_rfl) (fun _ _ _ h => h) (Or.inl ⟨by rfl, ?_⟩) (by assumption) ?_
    rotate_left
    · (intro w hSw; (try dsimp only at hSw); go_simp; try with_reducible rfl)
    simp only [Act.put, List.setIfInBounds_toArray, List.set_cons_zero, List.set_cons_succ]
    refine wpAnyH_take (i := 8) (oi := ({ dst := some 5, op := Go.Op.assign (Go.Operand.tmp 15), type := 22, pos := _, after := _, guard := none } : Oper)) (v := ?_) rfl (by kernel_rfl) (by kernel_rfl) (by kernel_rfl) (fun _ _ _ h => h) (Or.inl ⟨by rfl, ?_⟩) (by assumption) ?_
    rotate_left
    · (intro w hSw; (try dsimp only at hSw); go_simp; try with_reducible rfl)
    simp only [Act.put, List.setIfInBounds_toArray, List.set_cons_zero, List.set_cons_succ]
    refine wpAnyH_ready (rs := [9]) (by kernel_rfl) (by simp) (AllReadyH.cons (o := ({ dst := none, op := Go.Op.store 27 (Go.Operand.tmp 6) (Go.Operand.tmp 16), type := 0, pos := _, after := _, guard := none } : Oper)) rfl (fun KK hK => ?_) AllReadyH.nil)
    obtain ⟨k0, k1, k2, k3⟩ := hF.two
    have hP9 := HPK.out _ _ _ _ fb hP hF
    obtain ⟨hF9, hB9⟩ := put2 hF (w := w0) hBc hgF c i
    clear hBc
    have hBc := hB9
    go_simp
    refine hK.out _ _ (hS _ hBc) (fun hHeld => ?_)
    clear hK
    try simp only [Act.put, List.setIfInBounds_toArray, List.set_cons_zero, List.set_cons_succ]
    clear k0 k1 k2 k3
    refine wpAnyH_done (by kernel_rfl) ?_ _
    go_wp2
    go_meet
    exact ⟨p1, p2, p3, fb, rfl, rfl, hF9, hP9, hBc⟩
  case rest =>
    obtain ⟨p1, p2, p3, fb, rfl, rfl, hF, hP, hbx⟩ := hcut
    clear hS hS0
    have hB1 := bcat2 hB0 hbx
    have hX1 := blk_below hX0 hbx
    have hZ1 := Boxed.below hZ0 hbx
    obtain ⟨c0, c1, _, _⟩ := hX1.two
    go_wp2_with fail
    clear c0 c1
    refine (HOW.out _ hB1).mono ?_
    rintro x w2 ⟨u, rfl, hu, hb2⟩
    go_wp2_with fail
    refine (HPA.out _ _ (bcat2 hB1 hb2) hu).mono ?_
    rintro x w3 ⟨rfl, hb3⟩
    have hb4 := balloc w3 (.cells #[.int .i64 c, .int .i64 i] 27)
    have hG4 := blk0 (w := w3) (T := 27) (.int .i64 c) (.int .i64 i)
    have hb14 := bcat2 (bcat2 hb2 hb3) hb4
    have hB4 := bcat2 hB1 hb14
    have hX4 := blk_below hX1 hb14
    have hZ4 := Boxed.below hZ1 hb14
    have hF4 := blk_below hF hb14
    have hP4 := HPU.out _ _ _ hP hb14
    obtain ⟨c0, c1, _, _⟩ := hX4.two
    obtain ⟨t0, t1, _, _⟩ := hG4.two
    go_wp2_with fail
    generalize w3.alloc (.cells #[.int .i64 c, .int .i64 i] 27) = w4 at *
    generalize w3.heap.size = hb9 at *
    clear c0 c1 t0 t1
    refine (HGF.out _ hB4).mono ?_
    rintro x w5 ⟨rfl, hb5⟩
    have hb6 := balloc w5 (.cells #[.int .i64 c, .int .i64 i] 27)
    have hH6 := blk0 (w := w5) (T := 27) (.int .i64 c) (.int .i64 i)
    have hb46 := bcat2 hb5 hb6
    have hB6 := bcat2 hB4 hb46
    have hX6 := blk_below hX4 hb46
    have hZ6 := Boxed.below hZ4 hb46
    have hF6 := blk_below hF4 hb46
    have hG6 := blk_below hG4 hb46
    have hP6 := HPU.out _ _ _ hP4 hb46
    obtain ⟨t0, t1, _, _⟩ := hH6.two
    go_wp2_with fail
    generalize w5.alloc (.cells #[.int .i64 c, .int .i64 i] 27) = w6 at *
    generalize w5.heap.size = wb9 at *
    clear t0 t1
    refine (classBegun_any w6 (hT.below hB6)).mono ?_
    rintro x w7 ⟨rfl, hb7⟩
    have hB7 := bcat2 hB6 hb7
    have hX7 := blk_below hX6 hb7
    have hZ7 := Boxed.below hZ6 hb7
    have hP7 := HPU.out _ _ _ hP6 hb7
    obtain ⟨f0, f1, _, _⟩ := (blk_below hF6 hb7).two
    obtain ⟨h0, h1, _, _⟩ := (blk_below hH6 hb7).two
    go_wp2_with fail
    clear f0 f1 h0 h1
    refine (HLA.out _ _ _ _ _ _ hB7 hP7 hX7 hZ7).mono ?_
    rintro x w8 ⟨rfl, hb8⟩
    have hB8 := bcat2 hB7 hb8
    have hX8 := blk_below hX7 hb8
    obtain ⟨f0, f1, _, _⟩ := (blk_below hG6 (bcat2 hb7 hb8)).two
    obtain ⟨h0, h1, _, _⟩ := (blk_below hH6 (bcat2 hb7 hb8)).two
    go_wp2_with fail
    clear f0 f1 h0 h1
    refine (HNA.out _ _ hB8 hX8).mono ?_
    rintro x w9 ⟨rfl, hb9'⟩
    go_wp2
    go_ret
    exact ⟨rfl, bcat2 hB8 hb9'⟩
theorem clpow_law (N z : Int) (v : Value) (zs : List Int) (w : World) (hv : Sl w v zs) (hT : Tab w) (hb8 : zs.length * 8 ≤ 140737488355328) :
    Calls Tryd.prog 5 #[.agg #[.int .i64 N, v], .int .i64 z] w fun x w' => x = .returned (.bool true) ∧ Below w.heap.size w w' := by
  have HOW := hide (fun W (h : Below w.heap.size w W) => ownGroup_any N v zs W (hv.below h) hb8)
  by_cases hc : (gfault N zs).1 = 0
  · obtain ⟨n, e, rfl, hg, _⟩ := gfault_grp hc
    refine clpow_walk n z 0 0 (n * (rcs n (clq n zs e) n).length : Nat) v zs w hT (fun W x => Sl W x ((List.range (rcs n (clq n zs e) n).length).map (pwl n zs e z))) (hide fun W W' x h hb => h.below hb) (hide fun W p1 p2 p3 fb h hF => ?_) HOW (hide fun W u h hu => pwr_good n e z u zs W hu hg (hT.below h)) (hide fun W u h hu => pai_good n e u zs W hu hg (hT.below h)) (hide fun W h => ?_) (hide fun W p1 p2 p3 gb nb h hP hX hZ => ?_) (hide fun W gb h hX => nas_good 28 _ _ W (fun W => cl28_call _ W) (fun W' h' => cl28_ok n e gb v zs W' hg (hv.below (bcat2 h h')) (blk_below hX h')))
    · obtain ⟨h1, h2⟩ := hF.self
      rw [h1, h2]; exact h
    · have h1 := groupFault_any n v zs W (hv.below h)
      rw [grp_fault hg] at h1
      exact h1
    · have h1 := las_good 24 #[.pointer (some ⟨gb, 0, none⟩), .pointer (some ⟨nb, 0, none⟩)] (.slice p1 p2 p3) _ _ W hP (fun W => cl24_call _ _ W) (fun W' h' => cl24_ok n e gb nb z v zs W' hg (hv.below (bcat2 h h')) (hT.below (bcat2 h h')) (blk_below hX h') (Boxed.below hZ h'))
      rw [decide_eq_true rfl] at h1
      exact h1
  · refine clpow_walk N z (gfault N zs).1 (gfault N zs).2 0 v zs w hT (fun _ x => x = .slice none 0 0) (hide fun W W' x h _ => h) (hide fun W p1 p2 p3 fb h _ => h) HOW (hide fun W u h hu => (pwr_bad N z u zs W hu hc).mono ?_) (hide fun W u h hu => pai_bad N u zs W hu hc) (hide fun W h => groupFault_any N v zs W (hv.below h)) (hide fun W p1 p2 p3 gb nb h hP hX hZ => ?_) (hide fun W gb h hX => nas_bad 28 _ _ _ W hc)
    · rintro x W' ⟨rfl, hb⟩
      exact ⟨none, 0, 0, rfl, rfl, hb⟩
    · injection hP with e1 e2 e3
      subst e1 e2 e3
      exact las_bad 24 _ _ _ W hc
end Go.Proofs.YtobnfbnholbfoaaDoor

namespace Go.Proofs.YtobnfbnholbfoaaDoor
open Go.ChangeShapes Go.WideShapes Go.ChangeAt Go.RowKit

theorem own : ownKnob Tryd.prog.godebug = none := by kernel_rfl
theorem laidOut : laidOutB Tryd.prog = true := by kernel_rfl

/-- A slice of ints that reads as zs; where nothing is in it, nothing is told of the memory. -/
def SlA (w : World) (v : Value) (zs : List Int) : Prop := ∃ a cap pb po, v = .slice a zs.length cap ∧ Reads w a pb po zs ∧ (0 < zs.length → pb < w.heap.size) ∧ zs.length ≤ cap ∧ cap ≤ maxLen
theorem SlA.up {w w' : World} {v : Value} {zs : List Int} (h : SlA w v zs) (hb : Below w.heap.size w w') (h0 : 0 < w'.heap.size) : Sl w' v zs := by
  obtain ⟨a, cap, pb, po, hv, hr, hp, h1, h2⟩ := h
  rcases Nat.eq_zero_or_pos zs.length with hz | hz
  · exact ⟨a, cap, 0, 0, hv, ⟨fun h => by omega, fun j hj => by omega⟩, h0, h1, h2⟩
  · exact ⟨a, cap, pb, po, hv, hr.below hb (hp hz), Nat.lt_of_lt_of_le (hp hz) hb.size, h1, h2⟩
theorem SlA.of {w : World} {v : Value} {zs : List Int} (h : Sl w v zs) : SlA w v zs := by
  obtain ⟨a, cap, pb, po, hv, hr, hp, h1, h2⟩ := h
  exact ⟨a, cap, pb, po, hv, hr, fun _ => hp, h1, h2⟩

theorem und24 : ∃ f0 f1 : Field, Tryd.prog.underlying 24 = some (.struct #[f0, f1]) ∧ f0.type = 3 ∧ f1.type = 22 ∧ f0.offset = 0 ∧ f1.offset = 1 := ⟨_, _, Tryd.underlying24, rfl, rfl, rfl, rfl⟩
theorem und3 : Tryd.prog.underlying 3 = some (.int .i64) := by kernel_rfl
theorem und22 : Tryd.prog.underlying 22 = some (.slice 3) := by kernel_rfl
theorem und4 : Tryd.prog.underlying 4 = some .bool := by kernel_rfl

set_option maxRecDepth 100000 in
/-- What is told of a table that came in. -/
theorem open_group {H : Type} {enc : TypeId × Value → H} {W : World} {b0 : Nat} {v : Value} {d : DataW H} {ps : List MemPlace} (hval : Value.okWide Tryd.prog W .any b0 24 v)
    (hd : DataW.Trod enc Tryd.prog W 0 (fun _ => true) true 24 v d ps) :
    ∃ N u zs, v = .agg #[.int .i64 N, u] ∧ SlA W u zs ∧ (Lit.int .i64 N).wf = true ∧ ((d.weights Tryd.prog 24).all (· ≤ reachBytes) = true → zs.length * 8 ≤ 140737488355328) := by
  obtain ⟨f0, f1, hu, ht0, ht1, ho0, ho1⟩ := und24
  obtain ⟨cs, rfl, hsz⟩ := okWide_struct hu hval
  rw [show Tryd.prog.cellsOf 24 = 2 by kernel_rfl] at hsz
  obtain ⟨l⟩ := cs
  match l, hsz with
  | [c0, c1], _ =>
  obtain ⟨fuel, hf⟩ := hd
  obtain ⟨y0, y1, m, hx, _, hy0, hy1⟩ := trod_struct2 hu hf
  rw [ht0, ho0, show Tryd.prog.cellsOf 3 = 1 by kernel_rfl] at hy0
  rw [ht1, ho1, show Tryd.prog.cellsOf 22 = 1 by kernel_rfl] at hy1
  obtain ⟨N, e0, rfl, wN⟩ := DataW.trod_int und3 hy0
  simp [Value.cells] at e0
  subst e0
  simp [Value.cells] at hy1
  rcases open_ints und22 und3 (by kernel_rfl) hy1 with ⟨hcs, _⟩ | ⟨x, l, c, zs, hcs, _, hl, hm, hz, heq, hcell, hwz⟩
  · simp at hcs
    subst hcs
    exact ⟨N, _, [], rfl, ⟨none, 0, 0, 0, rfl, ⟨by simp, by simp⟩, by simp, by simp, by unfold maxLen; omega⟩, wN, fun _ => by simp⟩
  · simp at hcs
    subst hcs
    have hzc : zs.length = c := by simpa using hz
    have hlen : (zs.take l).length = l := by rw [List.length_take]; omega
    refine ⟨N, _, zs.take l, rfl, ?_, wN, fun hw => ?_⟩
    · by_cases hpos : 0 < c
      · obtain ⟨b, o, rfl, hc'⟩ := ints_at hcell (by omega)
        refine ⟨some ⟨b, o, none⟩, c, b, o, by rw [hlen], ⟨fun _ => rfl, fun j hj => ?_⟩, fun _ => World.block_lt_of_cell? W _ (hc' 0 (by omega)), by omega, hm⟩
        rw [hlen] at hj
        rw [hc' j (by omega), List.getElem?_take, if_pos hj, List.getD_eq_getElem?_getD]
      · have : l = 0 := by omega
        subst this
        exact ⟨some x, c, 0, 0, by simp, ⟨by simp, by simp⟩, by simp, by simp, hm⟩
    · have hd : d = .agg [.lit (.int .i64 N), .slice (lits .i64 (zs.take l)) (lits .i64 (zs.drop l))] := by
        have h1 := congrArg Prod.fst hx
        simp only [heq] at h1
        exact h1
      have hw2 := List.all_eq_true.1 hw (((lits (H := H) .i64 (zs.take l)).length + (lits (H := H) .i64 (zs.drop l)).length) * Tryd.prog.bytesOf 3) (by
        rw [hd]; simp [DataW.weights, DataW.weightsEach, hu, ht0, ht1])
      rw [show Tryd.prog.bytesOf 3 = 8 by kernel_rfl] at hw2
      simp only [lits, List.length_map, decide_eq_true_eq] at hw2
      unfold reachBytes at hw2
      omega
end Go.Proofs.YtobnfbnholbfoaaDoor

namespace Go.Proofs.YtobnfbnholbfoaaDoor
open Go.ChangeShapes Go.WideShapes Go.ChangeAt Go.RowKit

/-- What the rows list. -/
def laid1 : List (String × DataW Unit) := Rows.classAllRow.laid
def tabZ : List Int := Lib.deBruijn64tab.map fun (x : Nat) => (x : Int)
theorem tab_data : (Rows.laid_math_bits_deBruijn64tab : DataW Unit) = Lib.tabData .u8 tabZ := by kernel_rfl
/-- The door's own heap meets the condition. -/
theorem door_met (os : Os) (args : Array Value) : laidMetH Tryd.prog laid1 ((World.doorLaid Tryd.prog 400 os).forCall (fun _ _ => 0) ⟨#[], args, []⟩).memory :=
  laidMetH_of_parts3 (fuel := 8) (laidMet_of_run' 8 (by kernel_rfl) (by kernel_rfl)) (by kernel_rfl) (by kernel_rfl)
theorem tab_of_laid {W : World} (h : laidMetH Tryd.prog laid1 W) : Tab W := by
  rw [MakeChecks.laidMetH_plain _ _ _ (by kernel_rfl)] at h
  have h2 : laidMet Tryd.prog [("math/bits.deBruijn64tab", (Rows.laid_math_bits_deBruijn64tab : DataW Unit))] W := h
  rw [tab_data] at h2
  have hg : Tryd.prog.globalNamed "math/bits.deBruijn64tab" = some 0 := by kernel_rfl
  have hT := Lib.tabIs_of_head hg (t := 108) (e := 5) (n := 64) (by kernel_rfl) (by kernel_rfl) (by kernel_rfl) (by kernel_rfl) (by kernel_rfl) h2
  intro j hj
  have hj' : j < tabZ.length := by simpa [tabZ] using hj
  have hc := hT.cell hg j hj'
  rw [hc]
  simp [tabZ, hj]
set_option maxRecDepth 100000 in
/-- A list of ints that came in: its value, what it reads as, and its size. -/
theorem open_list {H : Type} {enc : TypeId × Value → H} {W : World} {b0 : Nat} {v : Value} {d : DataW H} {ps : List MemPlace} (hval : Value.okWide Tryd.prog W .any b0 22 v)
    (hd : DataW.Trod enc Tryd.prog W 0 (fun _ => true) true 22 v d ps) (h0 : 0 < W.heap.size) :
    ∃ zs, Sl W v zs ∧ ((d.weights Tryd.prog 22).all (· ≤ reachBytes) = true → zs.length * 8 ≤ 140737488355328) := by
  obtain ⟨a, len, cap, rfl⟩ := okWide_slice und22 hval
  obtain ⟨fuel, hf⟩ := hd
  rcases open_ints und22 und3 (by kernel_rfl) hf with ⟨hcs, _⟩ | ⟨x, l, c, zs, hcs, _, hl, hm, hz, heq, hcell, hwz⟩
  · simp [Value.cells] at hcs
    obtain ⟨rfl, rfl, rfl⟩ := hcs
    exact ⟨[], Sl.nil h0, fun _ => by simp⟩
  · simp [Value.cells] at hcs
    obtain ⟨rfl, rfl, rfl⟩ := hcs
    have hzc : zs.length = cap := by simpa using hz
    have hlen : (zs.take len).length = len := by rw [List.length_take]; omega
    refine ⟨zs.take len, ?_, fun hw => ?_⟩
    · by_cases hpos : 0 < cap
      · obtain ⟨b, o, rfl, hc'⟩ := ints_at hcell (by omega)
        refine ⟨some ⟨b, o, none⟩, cap, b, o, by rw [hlen], ⟨fun _ => rfl, fun j hj => ?_⟩, World.block_lt_of_cell? W _ (hc' 0 (by omega)), by omega, hm⟩
        rw [hlen] at hj
        rw [hc' j (by omega), List.getElem?_take, if_pos hj, List.getD_eq_getElem?_getD]
      · have : len = 0 := by omega
        subst this
        exact ⟨some x, cap, 0, 0, by simp, ⟨by simp, by simp⟩, h0, by simp, hm⟩
    · simp only [Prod.mk.injEq] at heq
      have hw2 := List.all_eq_true.1 hw (((lits (H := H) .i64 (zs.take len)).length + (lits (H := H) .i64 (zs.drop len)).length) * Tryd.prog.bytesOf 3) (by
        rw [heq.1]; simp [DataW.weights])
      rw [show Tryd.prog.bytesOf 3 = 8 by kernel_rfl] at hw2
      simp only [lits, List.length_map, decide_eq_true_eq] at hw2
      unfold reachBytes at hw2
      omega
end Go.Proofs.YtobnfbnholbfoaaDoor
