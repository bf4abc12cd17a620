/- Sylow's theorems about what All answers: each thing whose order is a power of p is in one of them, all have as many things, and how many things have such an order is a multiple of that. No condition. What the law SylowAll asks of mathematics: of what All answers. No condition. FRATTINI'S ARGUMENT as mathematics: a normal subgroup, and what one of its Sylow subgroups is conjugated by without a change, make all. No condition. Package series' steps: from a set on what a function makes of the last one, as long as it is another one. Conditions: what the function answers, and that it comes to an end. Package series' derived and lower: the subgroups, from all on, that the commutators of the last one, or of it with all, make. Condition: the library's table of places lies as its text lays it. Package series' listed: a series of sets as lists. Conditions: the library's table of places lies as its text lays it; what the function that is handed over answers. Package series' Derived, Lower, ends and Nilpotent. Condition: the library's table of places lies as its text lays it. Package series' Nilpotent; the example of the laws of series: of the square's group the commutators make two things. Condition: the library's table of places lies as its text lays it. What is nilpotent: a subgroup that is not all is less than its normaliser, and each normal subgroup of more than the one has something of the centre. No condition. The law SylowFrattini: its closure, and what it answers at what is wrong. Condition: the library's table of places lies as its text lays it. The law SylowFrattini: its walk at a group, a prime and a set. Condition: the library's table of places lies as its text lays it. The law SylowFrattini: at every table, number and list it returns true. Condition: the library's table of places lies as its text lays it. The frame that all rows of this family share: how a table that came in reads. The frame that all rows of this family share: what the listed table gives a walk; how a list of ints that came in reads. -/
import Derived.Test.YtjiapicknkjhmaaDoorZ7
import Derived.Test.YtjiapicknkjhmaaDoorZ6
import Derived.Laws.OwnMore
import Derived.Maps.AppendAt
import Derived.BigQuiet
import Derived.Deep.AppendLies
import Derived.Test.YtjiapicknkjhmaaDoorRows
import Derived.Test.YtjiapicknkjhmaaDoorZ1
import Derived.ProofKit
import Derived.OpenShut
import Derived.ChangeOld
import Derived.Below
import Derived.SizedLaws
import Derived.LaidMore
import Derived.Stop.Joined
import Derived.Stop.LaidErr
import Derived.Lib.LaidTab
namespace Go.Proofs.YtjiapicknkjhmaaDoor
variable {n e p : Nat} {zs : List Int} {s : Nat → Bool} {A : List Nat} {ms : List (List Int)}

/-- Is the order of a thing a power of p? -/
noncomputable def pwt (n : Nat) (zs : List Int) (e p a : Nat) : Bool := @decide (isPw (ordN n zs e a) p) (Classical.propDecidable _)
theorem pwt_iff {a : Nat} : pwt n zs e p a = true ↔ isPw (ordN n zs e a) p := by unfold pwt; simp
theorem SylA.size (HA : SylA n zs e p s A ms) (g : IsGrp n zs e) {j : Nat} (hj : j < ms.length) : (ms[j]?.getD []).length = (lst n s).length := by
  obtain ⟨a, ha, h⟩ := HA.one hj
  rw [h, li_len, cj_len g (HA.lt a ha)]
theorem SylA.in_one (HA : SylA n zs e p s A ms) {q : Nat → Bool} {a : Nat} (ha : a < n) (h : ∀ x, x < n → q x = true → cjq n zs e s a x = true) : ∃ j b, j < ms.length ∧ b ∈ A ∧ ms[j]?.getD [] = li (lst n (cjq n zs e s b)) ∧ ∀ x, x < n → q x = true → cjq n zs e s b x = true := by
  obtain ⟨b, hb, h1⟩ := List.mem_map.1 (HA.all a ha)
  have h2 : li (lst n (cjq n zs e s b)) ∈ ms := HA.pm.mem_iff.2 (List.mem_map.2 ⟨b, hb, rfl⟩)
  obtain ⟨j, hj, h3⟩ := List.mem_iff_getElem.1 h2
  refine ⟨j, b, hj, hb, by rw [List.getElem?_eq_getElem hj, Option.getD_some, h3], fun x hx hq => ?_⟩
  rw [bs_inj h1 x hx]
  exact h x hx hq
theorem SylA.holds (HA : SylA n zs e p s A ms) (g : IsGrp n zs e) (hpr : primeB p = true) {q : Nat → Bool} (hq : subT n zs e q = true) (hpw : isPw (lst n q).length p) : ∃ j b, j < ms.length ∧ b ∈ A ∧ ms[j]?.getD [] = li (lst n (cjq n zs e s b)) ∧ ∀ x, x < n → q x = true → cjq n zs e s b x = true := by
  obtain ⟨c, a, _, ha, _, h⟩ := syl_in g hpr HA.gr HA.nd HA.hX hq hpw
  exact HA.in_one ha h
theorem SylA.has (HA : SylA n zs e p s A ms) (g : IsGrp n zs e) (hpr : primeB p = true) {a : Nat} (ha : a < n) (h : isPw (ordN n zs e a) p) : ∃ j, j < ms.length ∧ (a : Int) ∈ ms[j]?.getD [] := by
  obtain ⟨j, b, hj, hb, h1, h2⟩ := HA.holds g hpr (q := mk1 n zs e a) (subT_iff.2 (made_sg g (mk1_iff n zs e a))) (by rw [mk1_len g ha]; exact h)
  refine ⟨j, hj, ?_⟩
  rw [h1]
  exact mem_li.2 (mem_lst.2 ⟨ha, h2 a ha ((mk1_iff n zs e a a ha).2 (Fin.Gen.base (List.mem_range.2 ha) (by simp)))⟩)
theorem SylA.cnt (HA : SylA n zs e p s A ms) (g : IsGrp n zs e) (hpr : primeB p = true) : (lst n s).length ∣ (lst n (pwt n zs e p)).length := by
  have hp := prime_of hpr
  obtain ⟨v, hn, hnd⟩ := syl_len g hpr HA.gr HA.nd HA.hX
  obtain ⟨k, hk⟩ := HA.gr.pow
  rw [hk] at hn ⊢
  have hfr := Fin.frob _ _ _ _ (grp_fg g) List.length_range (p ^ k) ⟨_, by rw [Nat.mul_comm]; exact hn⟩
  have hsame : (List.range n).filter (fun x => decide (Fin.po (tm n zs) e x (p ^ k) = e)) = lst n (pwt n zs e p) := Fin.filter_eq fun x hx => by
    have hxl := List.mem_range.1 hx
    rw [Bool.eq_iff_iff, decide_eq_true_eq, pwt_iff, ord_iff g hxl]
    constructor
    · exact fun h => dvd_pw hp k _ h
    · rintro ⟨j, hj⟩
      rw [hj]
      refine pp_dvd hp hnd ?_
      rw [← hn, ← hj, ← mk1_len g hxl]
      exact sub_dvd g (subT_iff.2 (made_sg g (mk1_iff n zs e x)))
  unfold Fin.cnt at hfr
  rw [hsame] at hfr
  exact hfr
theorem lst_up {q : Nat → Bool} {k : Nat} : (lst (k + 1) q).length = (lst k q).length + (if q k = true then 1 else 0) := by
  unfold lst
  rw [List.range_succ, List.filter_append, List.length_append]
  by_cases h : q k = true
  · simp [h]
  · simp [h]
end Go.Proofs.YtjiapicknkjhmaaDoor

namespace Go.Proofs.YtjiapicknkjhmaaDoor
variable {n e p : Nat} {zs : List Int} {s : Nat → Bool} {A : List Nat} {ms : List (List Int)}

theorem nd_list {α : Type} (l : List α) : ∃ k : List α, k.Nodup ∧ ∀ x, x ∈ k ↔ x ∈ l := by
  classical
  induction l with
  | nil => exact ⟨[], List.nodup_nil, fun x => Iff.rfl⟩
  | cons a l ih =>
    obtain ⟨k, h1, h2⟩ := ih
    by_cases ha : a ∈ l
    · exact ⟨k, h1, fun x => by rw [h2, List.mem_cons]; exact ⟨Or.inr, fun h => h.elim (fun h => h ▸ ha) id⟩⟩
    · exact ⟨a :: k, List.nodup_cons.2 ⟨fun h => ha ((h2 a).1 h), h1⟩, fun x => by rw [List.mem_cons, List.mem_cons, h2]⟩
/-- All that have as many things as the greatest power of p. -/
theorem grown_len {v j : Nat} (g : IsGrp n zs e) (hpr : primeB p = true) (hG : Grown n zs e p s) (h : v * p ^ j = n) (hv : ¬ p ∣ v) : (lst n s).length = p ^ j := by
  obtain ⟨X, hnd, hX⟩ := nd_list ((List.range n).map fun a => fc n zs e s a)
  obtain ⟨u, h1, h2⟩ := syl_len g hpr hG hnd (fun c => by
    rw [hX, List.mem_map]
    exact ⟨fun ⟨a, ha, hh⟩ => ⟨a, List.mem_range.1 ha, hh⟩, fun ⟨a, ha, hh⟩ => ⟨a, List.mem_range.2 ha, hh⟩⟩)
  obtain ⟨k, hk⟩ := hG.pow
  rw [hk] at h1 ⊢
  exact pp_only (prime_of hpr) hv h2 (by rw [← h1, h])
theorem SylA.modp (HA : SylA n zs e p s A ms) (g : IsGrp n zs e) (hpr : primeB p = true) : ms.length % p = 1 := by
  have h := syl_mod g hpr HA.gr HA.nd HA.hX
  rwa [List.length_map, ← HA.len] at h
theorem SylA.divs (HA : SylA n zs e p s A ms) (g : IsGrp n zs e) (hpr : primeB p = true) : n / (lst n s).length % ms.length = 0 := by
  obtain ⟨v, hn, _⟩ := syl_len g hpr HA.gr HA.nd HA.hX
  rw [List.length_map, ← HA.len] at hn
  have hL1 : 1 ≤ (lst n s).length := (Fin.sg_fg (grp_fg g) (subT_iff.1 HA.gr.sub)).pos
  have h9 : n / (lst n s).length = ms.length * v := Nat.div_eq_of_eq_mul_left hL1 hn
  rw [h9, Nat.mul_mod_right]
theorem SylA.less (HA : SylA n zs e p s A ms) (i j : Nat) (hij : i < j) (hj : j < ms.length) : cmpL (ms[i]?.getD []) (ms[j]?.getD []) < 0 := by
  have h1 := HA.st i j hij hj
  have hnd : ms.Nodup := by
    refine (HA.pm.nodup_iff).2 ?_
    have hk : (A.map fun a => bs (cjq n zs e s a) n) = (A.map fun a => li (lst n (cjq n zs e s a))).map fun l => bs (pset l) n := by
      rw [List.map_map]
      exact List.map_congr_left fun a _ => (bs_ext fun x hx => pset_lst hx).symm
    have hn2 := HA.nd
    rw [hk] at hn2
    exact (List.pairwise_map.1 hn2).imp fun h9 h8 => h9 (by rw [h8])
  have hne : ms[i]?.getD [] ≠ ms[j]?.getD [] := by
    rw [List.getElem?_eq_getElem (by omega), List.getElem?_eq_getElem hj, Option.getD_some, Option.getD_some]
    intro h
    exact List.pairwise_iff_getElem.1 hnd i j (by omega) hj hij h
  have h2 : cmpL (ms[i]?.getD []) (ms[j]?.getD []) ≠ 0 := fun h => hne ((cmpL_zero _ _).1 h)
  rw [cmpL_neg] at h1
  omega
theorem SylA.at (HA : SylA n zs e p s A ms) {a : Nat} (ha : a < n) : ∃ j, j < ms.length ∧ ms[j]?.getD [] = li (lst n (cjq n zs e s a)) := by
  obtain ⟨b, hb, h1⟩ := List.mem_map.1 (HA.all a ha)
  have h2 : li (lst n (cjq n zs e s b)) ∈ ms := HA.pm.mem_iff.2 (List.mem_map.2 ⟨b, hb, rfl⟩)
  obtain ⟨j, hj, h3⟩ := List.mem_iff_getElem.1 h2
  refine ⟨j, hj, ?_⟩
  rw [List.getElem?_eq_getElem hj, Option.getD_some, h3]
  congr 1
  exact lst_congr fun x hx => bs_inj h1 x hx
/-- What the first of them is, moved. -/
def shd (n : Nat) (zs : List Int) (e : Nat) (xs : List Nat) (a : Nat) : List Int := li (lst n (cjl n zs e xs a))
theorem SylA.moved (HA : SylA n zs e p s A ms) (g : IsGrp n zs e) {xs : List Nat} (h0 : ms[0]?.getD [] = li xs) {a : Nat} (ha : a < n) : ∃ j, j < ms.length ∧ shd n zs e xs a = ms[j]?.getD [] := by
  obtain ⟨b, hb, h1⟩ := HA.one (HA.pos g.elt)
  have hxs : xs = lst n (cjq n zs e s b) := li_inj (h0.symm.trans h1)
  subst hxs
  obtain ⟨j, hj, h2⟩ := HA.at (tm_lt g.tab (HA.lt b hb) ha)
  refine ⟨j, hj, ?_⟩
  rw [h2]
  unfold shd
  congr 1
  exact lst_congr fun x hx => bs_inj (cjq_twice g (HA.lt b hb) ha) x hx
theorem SylA.reach (HA : SylA n zs e p s A ms) (g : IsGrp n zs e) {xs : List Nat} (h0 : ms[0]?.getD [] = li xs) {j : Nat} (hj : j < ms.length) : ∃ a, a < n ∧ shd n zs e xs a = ms[j]?.getD [] := by
  obtain ⟨b, hb, h1⟩ := HA.one (HA.pos g.elt)
  have hxs : xs = lst n (cjq n zs e s b) := li_inj (h0.symm.trans h1)
  subst hxs
  obtain ⟨c, hc, h2⟩ := HA.one hj
  have hbn := HA.lt b hb
  have hcn := HA.lt c hc
  obtain ⟨hi, h3, h4, _⟩ := iv_spec g hbn
  have F := grp_fg g
  refine ⟨tm n zs (iv n zs e b) c, tm_lt g.tab hi hcn, ?_⟩
  rw [h2]
  unfold shd
  congr 1
  refine lst_congr fun x hx => ?_
  have h5 := bs_inj (cjq_twice (q := s) g hbn (tm_lt g.tab hi hcn)) x hx
  have h6 : tm n zs b (tm n zs (iv n zs e b) c) = c := by
    rw [← F.ass b (iv n zs e b) c (List.mem_range.2 hbn) (List.mem_range.2 hi) (List.mem_range.2 hcn), h3, F.left c (List.mem_range.2 hcn)]
  rw [h6] at h5
  exact h5
theorem lst_full {q r : Nat → Bool} (h : ∀ x, x < n → q x = true → r x = true) (hl : (lst n q).length = (lst n r).length) : ∀ x, x < n → r x = true → q x = true := fun x hx hr => by
  have h1 : (lst n q).Sublist (lst n r) := by
    have : lst n q = (lst n r).filter q := by
      unfold lst
      rw [List.filter_filter]
      exact Fin.filter_eq fun y hy => by
        cases hq : q y with
        | false => simp
        | true => simp [h y (List.mem_range.1 hy) hq]
    rw [this]
    exact List.filter_sublist
  have h2 := h1.eq_of_length hl
  have h3 : x ∈ lst n q := by rw [h2]; exact mem_lst.2 ⟨hx, hr⟩
  exact (mem_lst.1 h3).2
/-- What is in all of them is what Core answers. -/
theorem SylA.core (HA : SylA n zs e p s A ms) (g : IsGrp n zs e) (hpr : primeB p = true) {s' : Nat → Bool} {A' : List Nat} (hG : Grown n zs e p s') (hA : ∀ a, a ∈ A' → a < n) (hall : ∀ a, a < n → bs (cjq n zs e s' a) n ∈ A'.map fun a => bs (cjq n zs e s' a) n) {x : Nat} (hx : x < n) : cin n zs e s' A' x = true ↔ ∀ j, j < ms.length → (x : Int) ∈ ms[j]?.getD [] := by
  obtain ⟨v, b, hvb, hv⟩ := strip (p := p) (prime_of hpr).1 n (Fin.Fg.pos (grp_fg g) |> fun h => by simpa using h)
  have l1 := grown_len g hpr HA.gr hvb.symm hv
  have l2 := grown_len g hpr hG hvb.symm hv
  obtain ⟨X, hnd, hX0⟩ := nd_list ((List.range n).map fun a => fc n zs e s' a)
  have hX : ∀ c, c ∈ X ↔ ∃ a, a < n ∧ fc n zs e s' a = c := fun c => by
    rw [hX0, List.mem_map]
    exact ⟨fun ⟨a, ha, hh⟩ => ⟨a, List.mem_range.1 ha, hh⟩, fun ⟨a, ha, hh⟩ => ⟨a, List.mem_range.2 ha, hh⟩⟩
  unfold cin
  rw [List.all_eq_true]
  constructor
  · intro h j hj
    obtain ⟨c, hc, h1⟩ := HA.one hj
    have hcn := HA.lt c hc
    rw [h1, mem_li, mem_lst]
    refine ⟨hx, ?_⟩
    obtain ⟨_, a, _, ha, _, h2⟩ := syl_in g hpr hG hnd hX (cj_sg g HA.gr.sub hcn) (by rw [cj_len g hcn]; exact HA.gr.pow)
    refine lst_full h2 (by rw [cj_len g hcn, cj_len g ha, l1, l2]) x hx ?_
    obtain ⟨a', ha', h3⟩ := List.mem_map.1 (hall a ha)
    rw [← bs_inj h3 x hx]
    exact h a' ha'
  · intro h a ha
    have han := hA a ha
    obtain ⟨j, c, hj, hc, h1, h2⟩ := HA.holds g hpr (cj_sg g hG.sub han) (by rw [cj_len g han]; exact hG.pow)
    have hcn := HA.lt c hc
    refine lst_full h2 (by rw [cj_len g hcn, cj_len g han, l1, l2]) x hx ?_
    have h3 := h j hj
    rw [h1, mem_li, mem_lst] at h3
    exact h3.2
end Go.Proofs.YtjiapicknkjhmaaDoor

namespace Go.Proofs.YtjiapicknkjhmaaDoor
open Go Go.RowKit Go.Maps

section
variable {n e : Nat} {zs : List Int} {q r : Nat → Bool}
/-- A set of a part, as one of the whole. -/
def upt (n : Nat) (q r : Nat → Bool) (x : Nat) : Bool := q x && r (place (lst n q) x)
theorem thing_lt {i : Nat} (hi : i < (lst n q).length) : thing (lst n q) i < n := (mem_lst.1 (thing_mem hi)).1
theorem thing_in {i : Nat} (hi : i < (lst n q).length) : q (thing (lst n q) i) = true := (mem_lst.1 (thing_mem hi)).2
theorem upt_iff {x : Nat} (hx : x < n) : upt n q r x = true ↔ ∃ i, i < (lst n q).length ∧ r i = true ∧ thing (lst n q) i = x := by
  unfold upt
  rw [Bool.and_eq_true]
  constructor
  · rintro ⟨h1, h2⟩
    have hm : x ∈ lst n q := mem_lst.2 ⟨hx, h1⟩
    exact ⟨_, (place_at hm).1, h2, thing_place hm⟩
  · rintro ⟨i, hi, h1, rfl⟩
    exact ⟨thing_in hi, by rw [place_thing (lst_nd n q) hi]; exact h1⟩
theorem upt_at {i : Nat} (hi : i < (lst n q).length) : upt n q r (thing (lst n q) i) = r i := by
  unfold upt
  rw [thing_in hi, place_thing (lst_nd n q) hi, Bool.true_and]
theorem thing_mono {i j : Nat} (hj : j < (lst n q).length) (h : i < j) : thing (lst n q) i < thing (lst n q) j := by
  rw [thing_eq hj, thing_eq (Nat.lt_trans h hj)]
  exact List.pairwise_iff_getElem.1 (lst_rise n q) i j _ hj h
theorem upt_lst : (lst (lst n q).length r).map (thing (lst n q)) = lst n (upt n q r) := by
  refine rise_eq ?_ (lst_rise n _) (fun a => ?_)
  · rw [List.pairwise_map]
    refine List.Pairwise.imp_of_mem (fun {i j} _ hj h => ?_) (lst_rise (lst n q).length r)
    exact thing_mono (mem_lst.1 hj).1 h
  · rw [List.mem_map, mem_lst]
    constructor
    · rintro ⟨i, hi, rfl⟩
      obtain ⟨h1, h2⟩ := mem_lst.1 hi
      exact ⟨thing_lt h1, by rw [upt_at h1]; exact h2⟩
    · rintro ⟨h1, h2⟩
      obtain ⟨i, hi, h3, h4⟩ := (upt_iff h1).1 h2
      exact ⟨i, mem_lst.2 ⟨hi, h3⟩, h4⟩
theorem upt_len : (lst n (upt n q r)).length = (lst (lst n q).length r).length := by rw [← upt_lst, List.length_map]
theorem part_cj (g : IsGrp n zs e) (hs : subT n zs e q = true) {i j : Nat} (hi : i < (lst n q).length) (hj : j < (lst n q).length) :
    thing (lst n q) (Fin.cj (tm (lst n q).length (mkT (lst n q).length (parF n zs (lst n q)))) (iv (lst n q).length (mkT (lst n q).length (parF n zs (lst n q))) (place (lst n q) e)) i j) = Fin.cj (tm n zs) (iv n zs e) (thing (lst n q) i) (thing (lst n q) j) := by
  have h := part_grp g hs
  have hc := List.mem_range.1 (Fin.cj_mem (grp_fg h) (grp_iv h) (List.mem_range.2 hi) (List.mem_range.2 hj))
  refine (Fin.cj_unique (grp_fg g) (grp_iv g) (List.mem_range.2 (thing_lt hi)) (List.mem_range.2 (thing_lt hc)) (List.mem_range.2 (thing_lt hj)) ?_).symm
  rw [← part_mul g hs hj hc, Fin.cj_eq (grp_fg h) (grp_iv h) (List.mem_range.2 hi) (List.mem_range.2 hj), part_mul g hs hi hj]
theorem upt_cj (g : IsGrp n zs e) (hs : subT n zs e q = true) {j : Nat} (hj : j < (lst n q).length) :
    bs (upt n q (cjq (lst n q).length (mkT (lst n q).length (parF n zs (lst n q))) (place (lst n q) e) r j)) n = bs (cjq n zs e (upt n q r) (thing (lst n q) j)) n := by
  have h := part_grp g hs
  refine bs_ext fun x hx => ?_
  rw [Bool.eq_iff_iff, upt_iff hx, cjq_iff]
  constructor
  · rintro ⟨i, hi, h1, rfl⟩
    obtain ⟨k, hk, h2, rfl⟩ := cjq_iff.1 h1
    have hk' := List.mem_range.1 hk
    exact ⟨thing (lst n q) k, List.mem_range.2 (thing_lt hk'), by rw [upt_at hk']; exact h2, (part_cj g hs hk' hj).symm⟩
  · rintro ⟨y, hy, h1, rfl⟩
    obtain ⟨k, hk, h2, rfl⟩ := (upt_iff (List.mem_range.1 hy)).1 h1
    exact ⟨_, List.mem_range.1 (Fin.cj_mem (grp_fg h) (grp_iv h) (List.mem_range.2 hk) (List.mem_range.2 hj)), cjq_iff.2 ⟨k, List.mem_range.2 hk, h2, rfl⟩, part_cj g hs hk hj⟩
theorem part_e (g : IsGrp n zs e) (hs : subT n zs e q = true) : place (lst n q) e < (lst n q).length ∧ thing (lst n q) (place (lst n q) e) = e := by
  have hel : e ∈ lst n q := mem_lst.2 ⟨g.elt, (subT_iff.1 hs).1⟩
  exact ⟨(place_at hel).1, thing_place hel⟩
theorem upt_sub (g : IsGrp n zs e) (hs : subT n zs e q = true) (hr : subT (lst n q).length (mkT (lst n q).length (parF n zs (lst n q))) (place (lst n q) e) r = true) : subT n zs e (upt n q r) = true := by
  have S := subT_iff.1 hr
  obtain ⟨p1, p2⟩ := part_e g hs
  have h := part_grp g hs
  refine subT_iff.2 ⟨(upt_iff g.elt).2 ⟨_, p1, S.one, p2⟩, fun a b ha hb h1 h2 => ?_⟩
  obtain ⟨i, hi, h3, rfl⟩ := (upt_iff (List.mem_range.1 ha)).1 h1
  obtain ⟨j, hj, h4, rfl⟩ := (upt_iff (List.mem_range.1 hb)).1 h2
  have hm := tm_lt h.tab hi hj
  show upt n q r (tm n zs _ _) = true
  rw [← part_mul g hs hi hj, upt_at hm]
  exact S.mul i j (List.mem_range.2 hi) (List.mem_range.2 hj) h3 h4
theorem down_sub {u : Nat → Bool} (g : IsGrp n zs e) (hs : subT n zs e q = true) (hu : subT n zs e u = true) : subT (lst n q).length (mkT (lst n q).length (parF n zs (lst n q))) (place (lst n q) e) (fun i => u (thing (lst n q) i)) = true := by
  have S := subT_iff.1 hu
  obtain ⟨_, p2⟩ := part_e g hs
  refine subT_iff.2 ⟨by show u (thing _ _) = true; rw [p2]; exact S.one, fun i j hi hj h1 h2 => ?_⟩
  have hi' := List.mem_range.1 hi
  have hj' := List.mem_range.1 hj
  show u (thing _ _) = true
  rw [part_mul g hs hi' hj']
  exact S.mul _ _ (List.mem_range.2 (thing_lt hi')) (List.mem_range.2 (thing_lt hj')) h1 h2
theorem up_down {u : Nat → Bool} (hin : ∀ x, x < n → u x = true → q x = true) : bs (upt n q fun i => u (thing (lst n q) i)) n = bs u n := by
  refine bs_ext fun x hx => ?_
  rw [Bool.eq_iff_iff, upt_iff hx]
  constructor
  · rintro ⟨i, _, h1, rfl⟩
    exact h1
  · intro h1
    have hm : x ∈ lst n q := mem_lst.2 ⟨hx, hin x hx h1⟩
    exact ⟨_, (place_at hm).1, by show u _ = true; rw [thing_place hm]; exact h1, thing_place hm⟩
theorem cjq_bs {a : Nat} (h : bs q n = bs r n) : bs (cjq n zs e q a) n = bs (cjq n zs e r a) n := by
  refine bs_ext fun y _ => ?_
  rw [Bool.eq_iff_iff, cjq_iff, cjq_iff]
  have h1 := bs_inj h
  exact ⟨fun ⟨x, hx, h2, h3⟩ => ⟨x, hx, by rw [← h1 x (List.mem_range.1 hx)]; exact h2, h3⟩, fun ⟨x, hx, h2, h3⟩ => ⟨x, hx, by rw [h1 x (List.mem_range.1 hx)]; exact h2, h3⟩⟩
theorem upt_bs {r' : Nat → Bool} (h : bs r (lst n q).length = bs r' (lst n q).length) : bs (upt n q r) n = bs (upt n q r') n := by
  have h1 := bs_inj h
  refine bs_ext fun x hx => ?_
  rw [Bool.eq_iff_iff, upt_iff hx, upt_iff hx]
  exact ⟨fun ⟨i, hi, h2, h3⟩ => ⟨i, hi, by rw [← h1 i hi]; exact h2, h3⟩, fun ⟨i, hi, h2, h3⟩ => ⟨i, hi, by rw [h1 i hi]; exact h2, h3⟩⟩
theorem lst_bs' {a b : Nat → Bool} (h : bs a n = bs b n) : lst n a = lst n b := lst_same fun x hx => by rw [bs_inj h x hx]
variable {p a0 : Nat} {s : Nat → Bool} {A : List Nat} {ms : List (List Int)}
/-- FRATTINI'S ARGUMENT. -/
theorem frat_arg (g : IsGrp n zs e) (hs : subT n zs e q = true) (hN : ∀ x a, x < n → a < n → q x = true → q (Fin.cj (tm n zs) (iv n zs e) x a) = true) (hpr : primeB p = true)
    (HA : SylA (lst n q).length (mkT (lst n q).length (parF n zs (lst n q))) (place (lst n q) e) p s A ms) (ha0 : a0 < (lst n q).length) {x : Nat} (hx : x < n) :
    ∃ u v, u < n ∧ v < n ∧ norq n zs e (upt n q (cjq (lst n q).length (mkT (lst n q).length (parF n zs (lst n q))) (place (lst n q) e) s a0)) u = true ∧ q v = true ∧ tm n zs u v = x := by
  have h := part_grp g hs
  obtain ⟨t, ht⟩ : ∃ t, t = upt n q (cjq (lst n q).length (mkT (lst n q).length (parF n zs (lst n q))) (place (lst n q) e) s a0) := ⟨_, rfl⟩
  rw [← ht]
  have tS : subT n zs e t = true := by rw [ht]; exact upt_sub g hs (cj_sg h HA.gr.sub ha0)
  have tq : ∀ y, y < n → t y = true → q y = true := fun y hy h1 => by
    rw [ht] at h1
    unfold upt at h1
    rw [Bool.and_eq_true] at h1
    exact h1.1
  have cS := cj_sg g tS hx
  have cq : ∀ y, y < n → cjq n zs e t x y = true → q y = true := fun y _ h1 => by
    obtain ⟨z, hz, h2, rfl⟩ := cjq_iff.1 h1
    exact hN z x (List.mem_range.1 hz) hx (tq z (List.mem_range.1 hz) h2)
  have dS := down_sub g hs cS
  have dl : (lst (lst n q).length fun i => cjq n zs e t x (thing (lst n q) i)).length = (lst (lst n q).length s).length := by
    rw [← upt_len, lst_bs' (up_down cq), cj_len g hx, ht, upt_len, cj_len h ha0]
  obtain ⟨j, b, _, hb, _, h4⟩ := HA.holds h hpr dS (by rw [dl]; exact HA.gr.pow)
  have hb' := HA.lt b hb
  have h5 := lst_full h4 (by rw [dl, cj_len h hb'])
  have e1 : bs (fun i => cjq n zs e t x (thing (lst n q) i)) (lst n q).length = bs (cjq (lst n q).length (mkT (lst n q).length (parF n zs (lst n q))) (place (lst n q) e) s b) (lst n q).length := bs_ext fun i hi => by
    rw [Bool.eq_iff_iff]
    exact ⟨h4 i hi, h5 i hi⟩
  obtain ⟨i1, i2, i3, _⟩ := iv_spec h ha0
  have hy0 := tm_lt h.tab i1 hb'
  obtain ⟨y0, ey0⟩ : ∃ y0, y0 = tm (lst n q).length (mkT (lst n q).length (parF n zs (lst n q))) (iv (lst n q).length (mkT (lst n q).length (parF n zs (lst n q))) (place (lst n q) e) a0) b := ⟨_, rfl⟩
  rw [← ey0] at hy0
  have e2 : tm (lst n q).length (mkT (lst n q).length (parF n zs (lst n q))) a0 y0 = b := by rw [ey0, ← h.ass _ _ _ ha0 i1 hb', i2, h.left b hb']
  have e3 : bs (cjq n zs e t (thing (lst n q) y0)) n = bs (cjq n zs e t x) n := by
    rw [ht, ← upt_cj g hs hy0, ← ht, ← up_down cq]
    refine upt_bs ?_
    rw [cjq_twice h ha0 hy0, e2, e1]
  have hy := thing_lt hy0
  obtain ⟨k1, k2, k3, _⟩ := iv_spec g hy
  have hu := tm_lt g.tab hx k1
  refine ⟨tm n zs x (iv n zs e (thing (lst n q) y0)), thing (lst n q) y0, hu, hy, ?_, thing_in hy0, ?_⟩
  · unfold norq
    rw [decide_eq_true_eq, ← cjq_twice g hx k1, ← cjq_bs e3, cjq_twice g hy k1, k2, cjq_e g]
  · rw [g.ass _ _ _ hx k1 hy, k3, g.right x hx]
end
end Go.Proofs.YtjiapicknkjhmaaDoor

namespace Go.Proofs.YtjiapicknkjhmaaDoor
open Go Go.RowKit

/-- What a function makes of a set, again and again. -/
def itr (nx : (Nat → Bool) → Nat → Bool) (q : Nat → Bool) : Nat → Nat → Bool
  | 0 => q
  | i + 1 => nx (itr nx q i)
theorem und108s : Tryd.prog.underlying 99 = some (.slice 52) := by kernel_rfl
theorem info70b : (Tryd.prog.info? 52).map (fun i => (i.zero, i.size, i.bytes)) = some (some (.int .u64 0), 1, 8) := by kernel_rfl
/-- How far steps goes. -/
structure Stp (n : Nat) (nx : (Nat → Bool) → Nat → Bool) (I : (Nat → Bool) → Prop) (M : (Nat → Bool) → Nat) (q0 : Nat → Bool) (K : Nat) : Prop where
  go : ∀ i, i < K → bs (itr nx q0 (i + 1)) n ≠ bs (itr nx q0 i) n
  inv : ∀ i, i ≤ K → I (itr nx q0 i)
  meas : M (itr nx q0 K) + K ≤ 60
def sets (n : Nat) (f : Nat → Nat → Bool) (k : Nat) : List Value := (List.range k).map fun i => Value.int .u64 (bs (f i) n)
theorem sets_len (n : Nat) (f : Nat → Nat → Bool) (k : Nat) : (sets n f k).length = k := by simp [sets]
theorem sets_at {n : Nat} {f : Nat → Nat → Bool} {k i : Nat} (h : i < k) : (sets n f k)[i]? = some (.int .u64 (bs (f i) n)) := by simp [sets, h]
theorem sets_up (n : Nat) (f : Nat → Nat → Bool) (k : Nat) : sets n f (k + 1) = sets n f k ++ [.int .u64 (bs (f k) n)] := by simp [sets, List.range_succ]
set_option maxRecDepth 100000 in
set_option maxHeartbeats 2000000 in
theorem steps_ok (n k : Nat) (caps : Array Value) (nx : (Nat → Bool) → Nat → Bool) (I : (Nat → Bool) → Prop) (M : (Nat → Bool) → Nat) (q0 : Nat → Bool) (w : World)
    (hcall : ∀ x W, Sem.run Tryd.prog (callFunc k (#[.int .u64 x] ++ caps)) W = .ok (.enter k (#[.int .u64 x] ++ caps)) W)
    (hnx : ∀ (W : World) (q : Nat → Bool), Below w.heap.size w W → I q → Calls Tryd.prog k (#[.int .u64 (bs q n)] ++ caps) W fun x W' => x = .returned (.int .u64 (bs (nx q) n)) ∧ Below W.heap.size W W')
    (hI0 : I q0) (hM0 : M q0 ≤ 60) (hI : ∀ q, I q → bs (nx q) n ≠ bs q n → I (nx q) ∧ M (nx q) < M q) :
    Calls Tryd.prog 74 #[.int .u64 (bs q0 n), .func (.func k) #[] caps] w fun x w' => ∃ K g c : Nat, x = .returned (.slice (some ⟨g, 0, none⟩) (K + 1) c) ∧ Stp n nx I M q0 K ∧ bs (itr nx q0 (K + 1)) n = bs (itr nx q0 K) n ∧ w'.ownsRow w.heap.size 52 1 (.slice (some ⟨g, 0, none⟩) (K + 1) c) (K + 1) (sets n (itr nx q0) (K + 1)) ∧ Below w.heap.size w w' := by
  obtain ⟨i0, hi, hz0, hz1, hz2⟩ := info_parts info70b
  have HNX := hide hnx
  have HI := hide hI
  clear hnx hI
  have hrow0 : (w.alloc (.cells #[.int .u64 (bs q0 n)] 52)).ownsRow w.heap.size 52 1 (.slice (some ⟨w.heap.size, 0, none⟩) 1 1) 1 [.int .u64 (bs q0 n)] := World.ownsRow_lit (e := 52) (size := 1) w #[.int .u64 (bs q0 n)] 1 (Nat.le_refl _) (by unfold maxLen; omega) rfl
  have hB0 : Below w.heap.size w (w.alloc (.cells #[.int .u64 (bs q0 n)] 52)) := balloc w _
  go_enter Tryd.func74, Tryd.ntmps74
  go_wp2_with fail
  go_loopw [5] (fun ls wr => ∃ K g c : Nat, ls = .slice (some ⟨g, 0, none⟩) (K + 1) c ∧ Hid (Stp n nx I M q0 K) ∧ wr.ownsRow w.heap.size 52 1 (.slice (some ⟨g, 0, none⟩) (K + 1) c) (K + 1) (sets n (itr nx q0) (K + 1)) ∧ Below w.heap.size w wr) (fun ls _ => 70 - lenOf ls)
  case atStart => exact ⟨0, _, _, rfl, hide ⟨fun i h => by omega, fun i h => by rw [show i = 0 by omega]; exact hI0, hM0⟩, hrow0, hB0⟩
  case round =>
    clear hrow0 hB0 hI0 hM0
    obtain ⟨K, g, c, rfl, HS, hrow, hB⟩ := hrel
    have hK := HS.out.meas
    have hc := hrow.cells (g := g) rfl K _ (sets_at (by omega))
    rw [show (⟨g, 0, none⟩ : Addr).add K = ⟨g, K, none⟩ by unfold Addr.add; split <;> simp_all] at hc
    have hk1 : (((K + 1 : Nat) : Int) - 1) = (K : Int) := by omega
    have HN := hide (fun W (h : Below w.heap.size w W) => HNX.out W (itr nx q0 K) h (HS.out.inv K (Nat.le_refl _)))
    have HE := hide (show itr nx q0 (K + 1) = nx (itr nx q0 K) from rfl)
    rw [← HE.out] at HN
    go_wp2_with fail
    refine (HN.out _ hB).mono ?_
    rintro x w1 ⟨rfl, hb1⟩
    have hB1 := bcat2 hB hb1
    have hrow1 := own_keep2 hrow (fun g9 h1 h2 => hb1.block g9 h2)
    by_cases heq : bs (itr nx q0 (K + 1)) n = bs (itr nx q0 K) n
    · have HQ := hide heq
      rw [heq]
      go_wp2
      go_ret
      exact ⟨K, g, c, rfl, HS.out, HQ.out, hrow1, hB1⟩
    · have hne : ¬ ((bs (itr nx q0 (K + 1)) n : Int) = (bs (itr nx q0 K) n : Int)) := by omega
      have HS2 : Hid (Stp n nx I M q0 (K + 1)) := hide (by
        have h9 := HI.out _ (HS.out.inv K (Nat.le_refl _)) (by rw [← HE.out]; exact heq)
        rw [← HE.out] at h9
        refine ⟨fun i h => ?_, fun i h => ?_, by omega⟩
        · by_cases h1 : i = K
          · rw [h1]; exact heq
          · exact HS.out.go i (by omega)
        · by_cases h1 : i = K + 1
          · rw [h1]; exact h9.1
          · exact HS.out.inv i (by omega))
      have HUP := hide (sets_up n (itr nx q0) (K + 1))
      have hsl := sets_len n (itr nx q0) (K + 1)
      have hb8 := hB1.size
      clear heq hrow hB hb1 hc
      generalize bs (itr nx q0 (K + 1)) n = Y9 at *
      generalize bs (itr nx q0 K) n = X9 at *
      go_wp2_with (first
        | (at_builtin; refine wpList_append_own_at _ rfl _ _ 99 rfl w.heap.size 52 i0 (.int .u64 0) 1 8 und108s hi hz0 hz1 hz2 rfl (by decide) _ _ _ rfl (World.ownsRow.alloc hrow1 _) ⟨w1.heap.size, 0, none⟩ 1 1 [.int .u64 Y9] rfl rfl ?c1 ?c2 ?c3 ?c4 ?c5 ?_))
      case c1 => exact cell_one_new _ _ _
      case c2 => simp [Value.oneCell']
      case c3 => unfold maxLen; omega
      case c4 => omega
      case c5 => simp; omega
      intro v' w8 hown' hgrow hnil hloc
      have hB8 : Below w.heap.size w w8 := (hB1.alloc (by omega) _).grown hgrow (by simp; omega) (fun t e => by have := owns_ge hrow1 t e; omega)
      obtain ⟨g8, c8, rfl⟩ := ownsRow_succ hown'
      have hrow8 : w8.ownsRow w.heap.size 52 1 (.slice (some ⟨g8, 0, none⟩) (K + 1 + 1) c8) (K + 1 + 1) (sets n (itr nx q0) (K + 1 + 1)) := by
        rw [HUP.out]
        simpa using hown'
      clear hown' hgrow hloc hrow1 hB1
      go_wp2
      go_roundw
      case rel => exact ⟨K + 1, g8, c8, rfl, HS2, hrow8, hB8⟩
      case measure => simp [lenOf]; omega
end Go.Proofs.YtjiapicknkjhmaaDoor

namespace Go.Proofs.YtjiapicknkjhmaaDoor
open Go Go.RowKit

section
variable {n e : Nat} {zs : List Int} {q r : Nat → Bool}
/-- What the commutators of two sets make. -/
noncomputable def cmb (n : Nat) (zs : List Int) (e : Nat) (q r : Nat → Bool) : Nat → Bool := (mkd_ex' n zs e (cmq n zs e (lst n q) (lst n r))).choose
theorem cmb_iff (n : Nat) (zs : List Int) (e : Nat) (q r : Nat → Bool) : ∀ a, a < n → (cmb n zs e q r a = true ↔ Mkd n zs e (cmq n zs e (lst n q) (lst n r)) a) := (mkd_ex' n zs e (cmq n zs e (lst n q) (lst n r))).choose_spec
theorem cmq_iff {y : Nat} : cmq n zs e (lst n q) (lst n r) y = true ↔ ∃ a b, a < n ∧ b < n ∧ q a = true ∧ r b = true ∧ Fin.cm (tm n zs) (iv n zs e) a b = y := by
  unfold cmq
  simp only [List.any_eq_true, decide_eq_true_eq, mem_lst]
  exact ⟨fun ⟨a, ⟨h1, h2⟩, b, ⟨h3, h4⟩, h5⟩ => ⟨a, b, h1, h3, h2, h4, h5⟩, fun ⟨a, b, h1, h3, h2, h4, h5⟩ => ⟨a, ⟨h1, h2⟩, b, ⟨h3, h4⟩, h5⟩⟩
theorem cmb_sg (g : IsGrp n zs e) : Fin.Sg (List.range n) (tm n zs) e (fun a => cmb n zs e q r a = true) := made_sg g (cmb_iff n zs e q r)
theorem cmb_in {P : Nat → Prop} (S : Fin.Sg (List.range n) (tm n zs) e P) (h : ∀ a b, a < n → b < n → q a = true → r b = true → P (Fin.cm (tm n zs) (iv n zs e) a b)) {x : Nat} (hx : x < n) (h1 : cmb n zs e q r x = true) : P x :=
  Fin.Gen.least S (fun y _ h2 => by
    obtain ⟨a, b, ha, hb, h3, h4, rfl⟩ := cmq_iff.1 h2
    exact h a b ha hb h3 h4) ((cmb_iff n zs e q r x hx).1 h1)
theorem cm_lt (g : IsGrp n zs e) {a b : Nat} (ha : a < n) (hb : b < n) : Fin.cm (tm n zs) (iv n zs e) a b < n := List.mem_range.1 (Fin.cm_mem (grp_fg g) (grp_iv g) (List.mem_range.2 ha) (List.mem_range.2 hb))
theorem cmb_base (g : IsGrp n zs e) {a b : Nat} (ha : a < n) (hb : b < n) (h1 : q a = true) (h2 : r b = true) : cmb n zs e q r (Fin.cm (tm n zs) (iv n zs e) a b) = true :=
  (cmb_iff n zs e q r _ (cm_lt g ha hb)).2 (Fin.Gen.base (List.mem_range.2 (cm_lt g ha hb)) (cmq_iff.2 ⟨a, b, ha, hb, h1, h2, rfl⟩))
theorem cm_as (g : IsGrp n zs e) {a b : Nat} (ha : a < n) (hb : b < n) : Fin.cm (tm n zs) (iv n zs e) a b = tm n zs (iv n zs e a) (Fin.cj (tm n zs) (iv n zs e) a b) := by
  unfold Fin.cm Fin.cj
  rw [g.ass _ _ _ (iv_spec g ha).1 (iv_spec g hb).1 (tm_lt g.tab ha hb)]
/-- A normal subgroup. -/
structure Nsg (n : Nat) (zs : List Int) (e : Nat) (q : Nat → Bool) : Prop where
  sg : Fin.Sg (List.range n) (tm n zs) e (fun a => q a = true)
  nm : Fin.Nm (List.range n) (tm n zs) (iv n zs e) (fun a => q a = true)
theorem Nsg.cm_in (g : IsGrp n zs e) (h : Nsg n zs e q) {a b : Nat} (ha : a < n) (hb : b < n) (hq : q a = true) : q (Fin.cm (tm n zs) (iv n zs e) a b) = true := by
  have F := grp_fg g
  have V := grp_iv g
  have ha' := List.mem_range.2 ha
  have hb' := List.mem_range.2 hb
  rw [cm_as g ha hb]
  exact h.sg.mul _ _ (V a ha').1 (Fin.cj_mem F V ha' hb') (h.sg.inv F ha' (V a ha').1 (V a ha').2.1 hq) (h.nm a b ha' hb' hq)
theorem Nsg.all : Nsg n zs e (fun _ => true) := ⟨⟨rfl, fun _ _ _ _ _ _ => rfl⟩, fun _ _ _ _ _ => rfl⟩
theorem Nsg.low (g : IsGrp n zs e) (h : Nsg n zs e q) : Nsg n zs e (cmb n zs e q (fun _ => true)) := by
  have F := grp_fg g
  have V := grp_iv g
  refine ⟨cmb_sg g, fun x a hx ha h1 => ?_⟩
  have hm := Fin.cj_mem F V hx ha
  refine (cmb_iff n zs e q _ _ (List.mem_range.1 hm)).2 ?_
  refine Fin.gen_nm F V (X := fun y => cmq n zs e (lst n q) (lst n fun _ => true) y = true) (fun y b hy hb h2 => ?_) x a hx ha ((cmb_iff n zs e q _ x (List.mem_range.1 hx)).1 h1)
  obtain ⟨c, d, hc, hd, h3, _, rfl⟩ := cmq_iff.1 h2
  have hc' := List.mem_range.2 hc
  have hd' := List.mem_range.2 hd
  rw [Fin.cm_cj F V hc' hd' hb]
  exact cmq_iff.2 ⟨_, _, List.mem_range.1 (Fin.cj_mem F V hc' hb), List.mem_range.1 (Fin.cj_mem F V hd' hb), h.nm c b hc' hb h3, rfl, rfl⟩
theorem low_in (g : IsGrp n zs e) (h : Nsg n zs e q) {x : Nat} (hx : x < n) (h1 : cmb n zs e q (fun _ => true) x = true) : q x = true :=
  cmb_in h.sg (fun _ _ ha hb h2 _ => h.cm_in g ha hb h2) hx h1
theorem der_in (g : IsGrp n zs e) (S : Fin.Sg (List.range n) (tm n zs) e (fun a => q a = true)) {x : Nat} (hx : x < n) (h1 : cmb n zs e q q x = true) : q x = true := by
  have F := grp_fg g
  have V := grp_iv g
  refine cmb_in S (fun a b ha hb h2 h3 => ?_) hx h1
  have ha' := List.mem_range.2 ha
  have hb' := List.mem_range.2 hb
  have i1 := S.inv F ha' (V a ha').1 (V a ha').2.1 h2
  have i2 := S.inv F hb' (V b hb').1 (V b hb').2.1 h3
  exact S.mul _ _ (F.cl _ _ (V a ha').1 (V b hb').1) (F.cl _ _ ha' hb') (S.mul _ _ (V a ha').1 (V b hb').1 i1 i2) (S.mul _ _ ha' hb' h2 h3)
theorem less_of (n : Nat) {p q : Nat → Bool} (h : ∀ x, x < n → p x = true → q x = true) (hne : bs p n ≠ bs q n) : (lst n p).length < (lst n q).length :=
  (lst_less h).2 (Classical.byContradiction fun h9 => hne (bs_ext fun x hx => by
    rw [Bool.eq_iff_iff]
    exact ⟨h x hx, fun h1 => Classical.byContradiction fun h2 => h9 ⟨x, hx, h1, h2⟩⟩))
end

theorem own_le {w : World} {B B' n : Nat} {t : TypeId} {v : Value} {xs : List Value} (h : w.ownsRow B t 1 v n xs) (hb : B' ≤ B) : w.ownsRow B' t 1 v n xs := by
  refine ⟨h.1, ?_⟩
  rcases h.2 with h1 | ⟨g, cap, cur, h1, h2, h3⟩
  · exact .inl h1
  · exact .inr ⟨g, cap, cur, h1, by omega, h3⟩
theorem call105 (x : Int) (y : Value) (W : World) : Sem.run Tryd.prog (callFunc 108 (#[.int .u64 x] ++ #[y])) W = .ok (.enter 108 (#[.int .u64 x] ++ #[y])) W := by kernel_rfl
set_option maxRecDepth 100000 in
theorem der1_ok (n : Nat) (v u : Value) (zs : List Int) (e gb : Nat) (q : Nat → Bool) (w : World) (hG : GA w n v e u zs) (hT : Tab w) (hb : Box4 w gb n e v u) :
    Calls Tryd.prog 108 (#[.int .u64 (bs q n)] ++ #[.pointer (some ⟨gb, 0, none⟩)]) w fun x w' => x = .returned (.int .u64 (bs (cmb n zs e q q) n)) ∧ Below w.heap.size w w' := by
  show Calls Tryd.prog 108 #[.int .u64 (bs q n), .pointer (some ⟨gb, 0, none⟩)] w _
  have HC := hide (cmms_ok n v u zs e q q (cmb n zs e q q) w hG hT (cmb_iff n zs e q q))
  obtain ⟨c0, c1, c2, c3⟩ := hb.cells
  go_enter Tryd.func108, Tryd.ntmps108
  go_wp2_with fail
  refine HC.out.mono ?_
  rintro x w1 ⟨rfl, hb1⟩
  go_wp2
  go_ret
  exact ⟨rfl, hb1⟩
/-- What derived and lower answer. -/
def SerA (w w' : World) (n : Nat) (nx : (Nat → Bool) → Nat → Bool) (I : (Nat → Bool) → Prop) (M : (Nat → Bool) → Nat) (q0 : Nat → Bool) (x : Value) : Prop := ∃ K g c : Nat, x = .slice (some ⟨g, 0, none⟩) (K + 1) c ∧ Stp n nx I M q0 K ∧ bs (itr nx q0 (K + 1)) n = bs (itr nx q0 K) n ∧ w'.ownsRow w.heap.size 52 1 (.slice (some ⟨g, 0, none⟩) (K + 1) c) (K + 1) (sets n (itr nx q0) (K + 1))
set_option maxRecDepth 100000 in
theorem derived_ok (n : Nat) (v u : Value) (zs : List Int) (e : Nat) (w : World) (hG : GA w n v e u zs) (hT : Tab w) :
    Calls Tryd.prog 77 #[.agg #[.int .i64 n, v, .int .i64 e, u]] w fun x w' => ∃ y, x = .returned y ∧ SerA w w' n (fun q => cmb n zs e q q) (fun q => Fin.Sg (List.range n) (tm n zs) e (fun a => q a = true)) (fun q => (lst n q).length) (fun _ => true) y ∧ Below w.heap.size w w' := by
  have hg := hG.grp
  have hn := hG.le
  have hB0 : Below w.heap.size w (w.alloc (.cells #[.int .i64 n, v, .int .i64 e, u] 50)) := balloc w _
  have hX0 := Box4.new w n e v u
  obtain ⟨c0, c1, c2, c3⟩ := hX0.cells
  go_enter Tryd.func77, Tryd.ntmps77
  go_wp2_with fail
  clear c0 c1 c2 c3
  generalize w.alloc (.cells #[.int .i64 n, v, .int .i64 e, u] 50) = w0 at *
  refine (all_ok n v u e w0 hn).mono ?_
  rintro x w1 ⟨rfl, hb1⟩
  have hB1 := bcat2 hB0 hb1
  have hX1 := hX0.below hb1
  go_wp2_with fail
  refine (steps_ok n 108 #[.pointer (some ⟨w.heap.size, 0, none⟩)] (fun q => cmb n zs e q q) (fun q => Fin.Sg (List.range n) (tm n zs) e (fun a => q a = true)) (fun q => (lst n q).length) (fun _ => true) w1 (fun x W => call105 x _ W) (fun W q h _ => der1_ok n v u zs e _ q W (hG.below (bcat2 hB1 h)) (hT.below (bcat2 hB1 h)) (hX1.below h)) Nsg.all.sg (Nat.le_trans (lst_len _ _) hn) (fun q h1 h2 => ⟨cmb_sg hg, less_of n (fun x hx h3 => der_in hg h1 hx h3) h2⟩)).mono ?_
  rintro x w2 ⟨K, g, c, rfl, hst, hend, hrow, hb2⟩
  have hrow2 := own_le hrow hB1.size
  have hB2 := bcat2 hB1 hb2
  go_wp2
  go_ret
  exact ⟨_, rfl, ⟨K, g, c, rfl, hst, hend, hrow2⟩, hB2⟩
end Go.Proofs.YtjiapicknkjhmaaDoor

namespace Go.Proofs.YtjiapicknkjhmaaDoor
open Go Go.RowKit

def sls (n : Nat) (f : Nat → Nat → Bool) (k : Nat) : List (List Int) := (List.range k).map fun i => li (lst n (f i))
theorem sls_len (n : Nat) (f : Nat → Nat → Bool) (k : Nat) : (sls n f k).length = k := by simp [sls]
theorem sls_at {n : Nat} {f : Nat → Nat → Bool} {k i : Nat} (h : i < k) : (sls n f k)[i]?.getD [] = li (lst n (f i)) := by simp [sls, h]
theorem sls_up (n : Nat) (f : Nat → Nat → Bool) (k : Nat) : sls n f (k + 1) = sls n f k ++ [li (lst n (f k))] := by simp [sls, List.range_succ]
/-- A row of lists, read. -/
theorem Rws.of_own {w : World} {base B g c : Nat} {vs : List Value} {rs : List (List Int)} (h : w.ownsRow base 22 1 (.slice (some ⟨g, 0, none⟩) vs.length c) vs.length vs) (hl : Lsts w B (.slice (some ⟨g, 0, none⟩) vs.length c) vs rs) : Rws w g rs := fun j hj => by
  have hju : j < vs.length := by have := hl.1; omega
  obtain ⟨a, cap, pb, po, h1, h2, h3, h4, h5, _⟩ := hl.2 j vs[j] rs[j] (List.getElem?_eq_getElem hju) (List.getElem?_eq_getElem hj)
  have hc := h.cells (g := g) rfl j _ (List.getElem?_eq_getElem hju)
  rw [show (⟨g, 0, none⟩ : Addr).add j = ⟨g, j, none⟩ by unfold Addr.add; split <;> simp_all] at hc
  rw [List.getElem?_eq_getElem hj, Option.getD_some]
  rw [h1] at hc
  exact ⟨a, cap, hc, ⟨a, cap, pb, po, rfl, h2, h3, h4, h5⟩⟩
set_option maxRecDepth 100000 in
set_option maxHeartbeats 4000000 in
theorem listed_bad (N : Int) (v f : Value) (zs : List Int) (w : World) (hv : Sl w v zs) (hc : (gfault N zs).1 ≠ 0) :
    Calls Tryd.prog 40 #[.agg #[.int .i64 N, v], f] w fun x w' => x = .returned (.tuple #[.slice none 0 0, .agg #[.int .i64 (gfault N zs).1, .int .i64 (gfault N zs).2]]) ∧ Below w.heap.size w w' := by
  obtain ⟨w0, BG⟩ := Beg.new w N v
  have hv0 := hv.below BG.bel
  obtain ⟨c0, c1, _, _⟩ := BG.box.two
  have hck := opened_bad N v zs w0 hv0 hc
  obtain ⟨c, i, hci⟩ : ∃ c i, gfault N zs = (c, i) := ⟨_, _, rfl⟩
  rw [hci] at hck hc ⊢
  simp only at hc hck
  have HCK := hide hck
  clear hck hci
  have hcb : (c != 0) = true := by simpa using hc
  rw [BG.eq] at c0 c1
  go_enter Tryd.func40, Tryd.ntmps40
  go_wp2_with fail
  rw [← BG.eq]
  refine HCK.out.mono ?_
  rintro x w1 ⟨rfl, hb1⟩
  clear c0 c1
  obtain ⟨w2, hw2⟩ : ∃ w2, w2 = (w1.alloc (.cells #[.int .i64 0, .slice none 0 0, .int .i64 0, .slice none 0 0] 50)).alloc (.cells #[.int .i64 c, .int .i64 i] 27) := ⟨_, rfl⟩
  have hB1 : Below w0.heap.size w0 w2 := by rw [hw2]; exact bcat2 hb1 ((balloc w1 _).alloc (by simp) _)
  have hF1 : Blk w2 (w1.heap.size + 1) 27 [.int .i64 c, .int .i64 i] := by
    rw [hw2]
    have := blk0 (w := w1.alloc (.cells #[.int .i64 0, .slice none 0 0, .int .i64 0, .slice none 0 0] 50)) (T := 27) (.int .i64 c) (.int .i64 i)
    rwa [World.size_alloc] at this
  have hR1 := blk_below BG.res hB1
  have hBw := bcat BG.bel hB1 BG.bel.size
  obtain ⟨y0, y1, fy0, fy1⟩ := hR1.two
  obtain ⟨t0, t1, _, _⟩ := hF1.two
  rw [hw2] at t0 t1
  go_wp2_with fail
  rw [← hw2]
  rw [← hw2] at t0 t1
  clear hw2
  go_region
  all_goals (
    go_wp2
    obtain ⟨hR6, hB6⟩ := put2 hR1 hBw (by omega) c i
    have hB7 := bdrew hB6
    have hR7 : Blk ((w2.setCell ⟨w.heap.size + 1, 0, none⟩ (.int .i64 c)).setCell ⟨w.heap.size + 1, 1, none⟩ (.int .i64 i)).drew (w.heap.size + 1) 27 [.int .i64 c, .int .i64 i] := hR6
    generalize ((w2.setCell ⟨w.heap.size + 1, 0, none⟩ (.int .i64 c)).setCell ⟨w.heap.size + 1, 1, none⟩ (.int .i64 i)).drew = W at hR7 hB7 ⊢
    obtain ⟨z0, z1, _, _⟩ := hR7.two
    exact bodyPost_ret (v := .tuple #[.slice none 0 0, .agg #[.int .i64 c, .int .i64 i]]) (by simp [results, Tryd.results40, go_sem, z0, z1]) rfl ⟨rfl, hB7⟩)
/-- What listed answers. -/
def LisA (w' : World) (n : Nat) (nx : (Nat → Bool) → Nat → Bool) (I : (Nat → Bool) → Prop) (M : (Nat → Bool) → Nat) (q0 : Nat → Bool) (x : Value) : Prop := ∃ K g c : Nat, x = .slice (some ⟨g, 0, none⟩) (K + 1) c ∧ Stp n nx I M q0 K ∧ bs (itr nx q0 (K + 1)) n = bs (itr nx q0 K) n ∧ Rws w' g (sls n (itr nx q0) (K + 1)) ∧ SlL w' (.slice (some ⟨g, 0, none⟩) (K + 1) c) (sls n (itr nx q0) (K + 1))
set_option maxRecDepth 100000 in
set_option maxHeartbeats 4000000 in
theorem listed_good (n e k : Nat) (v : Value) (zs : List Int) (nx : (Nat → Bool) → Nat → Bool) (I : (Nat → Bool) → Prop) (M : (Nat → Bool) → Nat) (q0 : Nat → Bool) (w : World) (hv : Sl w v zs) (hg : IsGrp n zs e) (hT : Tab w)
    (hcall : ∀ x W, Sem.run Tryd.prog (callFunc k #[x]) W = .ok (.enter k #[x]) W)
    (hof : ∀ (W : World) (u : Value), Below w.heap.size w W → GA W n v e u zs → Calls Tryd.prog k #[.agg #[.int .i64 n, v, .int .i64 e, u]] W fun x W' => ∃ y, x = .returned y ∧ SerA W W' n nx I M q0 y ∧ Below W.heap.size W W') :
    Calls Tryd.prog 40 #[.agg #[.int .i64 n, v], .func (.func k) #[] #[]] w fun x w' => ∃ y, x = .returned (.tuple #[y, .agg #[.int .i64 0, .int .i64 0]]) ∧ LisA w' n nx I M q0 y ∧ Below w.heap.size w w' := by
  obtain ⟨va, vl, vc, rfl⟩ := hv.isSlice
  obtain ⟨i0, hi, hz0, hz1, hz2⟩ := info_parts info22b
  have HOF := hide hof
  clear hof
  obtain ⟨w0, BG⟩ := Beg.new w n (.slice va vl vc)
  have hv0 := hv.below BG.bel
  obtain ⟨c0, c1, _, _⟩ := BG.box.two
  have HCK := hide (opened_good n e (.slice va vl vc) zs w0 hv0 hg)
  have HZ0 := hide (show w.heap.size + 2 ≤ w0.heap.size by rw [BG.eq]; simp)
  rw [BG.eq] at c0 c1
  go_enter Tryd.func40, Tryd.ntmps40
  go_wp2_with fail
  rw [← BG.eq]
  refine HCK.out.mono ?_
  rintro x w1 ⟨iv9, rfl, hSI, hb1⟩
  obtain ⟨ia, il, ic, rfl⟩ := hSI.sl.isSlice
  clear c0 c1 HCK
  obtain ⟨w2, hw2⟩ : ∃ w2, w2 = (w1.alloc (.cells #[.int .i64 n, (.slice va vl vc), .int .i64 e, (.slice ia il ic)] 50)).alloc (.cells #[.int .i64 0, .int .i64 0] 27) := ⟨_, rfl⟩
  have hb2 : Below w1.heap.size w1 w2 := by rw [hw2]; exact (balloc w1 _).alloc (by simp) _
  have hB1 : Below w0.heap.size w0 w2 := bcat2 hb1 hb2
  have hF1 : Blk w2 (w1.heap.size + 1) 27 [.int .i64 0, .int .i64 0] := by
    rw [hw2]
    have := blk0 (w := w1.alloc (.cells #[.int .i64 n, (.slice va vl vc), .int .i64 e, (.slice ia il ic)] 50)) (T := 27) (.int .i64 0) (.int .i64 0)
    rwa [World.size_alloc] at this
  have hH2 : Blk w2 w1.heap.size 50 [.int .i64 n, (.slice va vl vc), .int .i64 e, (.slice ia il ic)] := by
    rw [hw2]; exact (blk4 _ _ _ _).alloc _
  have hBw2 := bcat BG.bel hB1 BG.bel.size
  have hR2 := blk_below BG.res hB1
  have hT2 := hT.below hBw2
  have hGA2 : GA w2 n (.slice va vl vc) e (.slice ia il ic) zs := ⟨hg, hv.below hBw2, (hSI.below hb2).sl⟩
  obtain ⟨t0, t1, _, _⟩ := hF1.two
  obtain ⟨_, h0, h1, h2, h3, _⟩ := Four.mk' hH2
  have HZ1 := hide (Nat.le_trans HZ0.out hb1.size)
  have HZ2 := hide hb2.size
  rw [hw2] at t0 t1 h0 h1 h2 h3
  have hn := hg.tab.le
  go_wp2_with fail
  rw [← hw2]
  clear hw2 t0 t1 h0 h1 h2 h3
  refine (HOF.out _ _ hBw2 hGA2).mono ?_
  rintro x w3 ⟨y, rfl, ⟨K, g, c, rfl, HST, HEND, hrow3⟩, hb3⟩
  have HS := hide HST
  have HE := hide HEND
  have hBw3 := bcat2 hBw2 hb3
  have hR3 := blk_below hR2 hb3
  have hT3 := hT2.below hb3
  have hK := HST.meas
  have HC3 := hide (fun i (h : i < K + 1) => (show w3.cell? ⟨g, i, none⟩ = some (.int .u64 (bs (itr nx q0 i) n)) by
    have hc := hrow3.cells (g := g) rfl i _ (sets_at h)
    rwa [show (⟨g, 0, none⟩ : Addr).add i = ⟨g, i, none⟩ by unfold Addr.add; split <;> simp_all] at hc))
  clear HST HEND hrow3 HOF hcall
  have HLS := hide (fun W (p : Nat → Bool) (h : Below w3.heap.size w3 W) => list_ok n p W hn (hT3.below h))
  go_wp2_with fail
  go_loopw [8, 24] (fun ls iv wr => ∃ (i : Nat) (a : Option Addr) (cp : Nat) (vs : List Value), i ≤ K + 1 ∧ iv = .int .i64 i ∧ ls = .slice a vs.length cp ∧ wr.ownsRow w3.heap.size 22 1 (.slice a vs.length cp) vs.length vs ∧ Lsts wr w3.heap.size (.slice a vs.length cp) vs (sls n (itr nx q0) i) ∧ Below w3.heap.size w3 wr) (fun _ iv _ => K + 1 - (intOf iv).toNat)
  case atStart => exact ⟨0, none, 0, [], Nat.zero_le _, rfl, rfl, World.ownsRow_nil _ _ _ _, ⟨by simp [sls], fun t x l h1 _ => by simp at h1⟩, Below.refl _ _⟩
  case round =>
    obtain ⟨i, ra, rcap, vs, hiK, rfl, rfl, hrow, hls, hB⟩ := hrel
    have HVL := hide (show vs.length = i by rw [hls.1, sls_len])
    have hv61 : vs.length ≤ 61 := by rw [HVL.out]; omega
    by_cases hlt : i < K + 1
    · have hci := below_cell hB (HC3.out i hlt)
      have HB9 := hide (HLS.out wr (itr nx q0 i) hB)
      have HST := hide (sls_up n (itr nx q0) i)
      have hl60 : (li (lst n (itr nx q0 i))).length ≤ 60 := by rw [li_len]; exact Nat.le_trans (lst_len _ _) hn
      generalize li (lst n (itr nx q0 i)) = lj at *
      generalize bs (itr nx q0 i) n = s9 at *
      have hii : (i : Int) < (K : Int) + 1 := by omega
      go_wp2_with fail
      clear hci
      refine HB9.out.mono ?_
      rintro x w5 ⟨r9, rfl, hr9, hb5⟩
      have hB5 := bcat2 hB hb5
      have hrow5 := own_keep2 hrow (fun g _ h2 => hb5.block g h2)
      have hls5 : Lsts w5 w3.heap.size (.slice ra vs.length rcap) vs (sls n (itr nx q0) i) := hls.keep hb5.size (fun g _ h2 _ => hb5.block g h2) (.inl rfl)
      have hown2 : ∀ g, (Value.slice ra vs.length rcap).ownBlock = some g → g < wr.heap.size := fun g hg => (hrow.lt g hg).2
      obtain ⟨qa, qcap, qb, qo, rfl, hq, hq1, hq2, hq3, hq4⟩ := hr9
      have hs5 := hb5.size
      have hs3 := hB.size
      have HQ := hide hq
      clear hrow hls hb5 hq hB
      go_wp2_with (first
        | (at_builtin; refine wpList_append_own_at _ rfl _ _ 33 rfl w3.heap.size 22 i0 (.slice none 0 0) 1 24 und38s hi hz0 hz1 hz2 rfl (by decide) _ _ _ rfl (World.ownsRow.alloc hrow5 _) ⟨w5.heap.size, 0, none⟩ 1 1 [.slice qa lj.length qcap] rfl rfl ?c1 ?c2 ?c3 ?c4 ?c5 ?_))
      case c1 => exact cell_one_new _ _ _
      case c2 => simp [Value.oneCell']
      case c3 => unfold maxLen; omega
      case c4 => omega
      case c5 => simp; omega
      intro v' w8 hown' hgrow hnil hloc
      obtain ⟨ra', rcap', rfl⟩ := own_slice' hown'
      have hB8 : Below w3.heap.size w3 w8 := (hB5.alloc (by omega) _).grown hgrow (by simp; omega) (fun t e => by have := owns_ge hrow5 t e; omega)
      have hbl : ∀ g, g < w5.heap.size → (Value.slice ra vs.length rcap).ownBlock ≠ some g → w8.heap[g]? = w5.heap[g]? := fun g h1 h2 => (hgrow.block g (by simp; omega) (fun e => h2 e.symm)).trans (Below.block (balloc w5 _) g h1)
      have hs8 : w5.heap.size < w8.heap.size := by have := hgrow.size; simp at this; omega
      have hlo : (Value.slice ra' (vs.length + 1) rcap').ownBlock = (Value.slice ra vs.length rcap).ownBlock ∨ ∀ g, (Value.slice ra' (vs.length + 1) rcap').ownBlock = some g → w5.heap.size ≤ g := by
        rcases hloc with h | h
        · exact .inl h
        · right; intro g hg; rw [h] at hg; simp at hg; omega
      have hls8 := (hls5.keep (r' := .slice ra' (vs.length + 1) rcap') (by omega) (fun g _ h2 h3 => hbl g h2 h3) hlo).snoc (x := .slice qa lj.length qcap) (l := lj) ⟨qa, qcap, qb, qo, rfl, HQ.out.of_eq (hbl qb hq1 (fun e => by have := hown2 _ e; omega)), by omega, hq2, hq3, by omega, fun g hg e => by
        subst e
        rcases hlo with h | h
        · have := hown2 _ (h ▸ hg); omega
        · have := h _ hg; omega⟩
      have hrow8 : w8.ownsRow w3.heap.size 22 1 (.slice ra' (vs ++ [Value.slice qa lj.length qcap]).length rcap') (vs ++ [Value.slice qa lj.length qcap]).length (vs ++ [Value.slice qa lj.length qcap]) := by simpa using hown'
      have hls9 : Lsts w8 w3.heap.size (.slice ra' (vs ++ [Value.slice qa lj.length qcap]).length rcap') (vs ++ [Value.slice qa lj.length qcap]) (sls n (itr nx q0) (i + 1)) := by
        rw [HST.out]
        simpa using hls8
      clear hown' hgrow hloc hlo hbl hrow5 hls5 hB5 hls8
      go_wp2
      go_roundw
      case rel => exact ⟨i + 1, ra', rcap', _, by omega, by go_num, by simp, hrow8, hls9, hB8⟩
      case measure => simp [intOf]; omega
    · have hik : i = K + 1 := by omega
      subst hik
      have hii : ¬ (((K + 1 : Nat) : Int) < (K : Int) + 1) := by omega
      obtain ⟨g9, rfl⟩ : ∃ g9, ra = some ⟨g9, 0, none⟩ := by
        rcases hrow.2 with ⟨h1, h2⟩ | ⟨g', cap, cur, h1, _⟩
        · have := HVL.out; omega
        · injection h1 with h1; exact ⟨g', h1⟩
      have HRW := hide (Rws.of_own hrow hls)
      have HSL := hide (SlL.of_own hrow hls (Nat.lt_of_lt_of_le hT3.lt hB.size))
      rw [HVL.out] at HSL
      rw [HVL.out]
      have hBz := bcat2 hBw3 hB
      obtain ⟨_, y0, y1, fy0, fy1, s0, s1⟩ := Two.mk' (blk_below hR3 hB)
      clear hrow hls
      go_wp2
      exact bodyPost_ret (v := .tuple #[.slice (some ⟨g9, 0, none⟩) (K + 1) rcap, .agg #[.int .i64 0, .int .i64 0]]) (by simp [results, Tryd.results40, go_sem, y0, y1]) rfl ⟨_, rfl, ⟨K, g9, rcap, rfl, HS.out, HE.out, HRW.out, HSL.out⟩, hBz⟩
end Go.Proofs.YtjiapicknkjhmaaDoor

namespace Go.Proofs.YtjiapicknkjhmaaDoor
open Go Go.RowKit

theorem LisA.below {w w' : World} {n : Nat} {nx : (Nat → Bool) → Nat → Bool} {I : (Nat → Bool) → Prop} {M : (Nat → Bool) → Nat} {q0 : Nat → Bool} {y : Value} (h : LisA w n nx I M q0 y) (hb : Below w.heap.size w w') : LisA w' n nx I M q0 y := by
  obtain ⟨K, g, c, h1, h2, h3, h4, h5⟩ := h
  exact ⟨K, g, c, h1, h2, h3, h4.below hb, h5.below hb⟩
theorem call76 (x : Value) (W : World) : Sem.run Tryd.prog (callFunc 77 #[x]) W = .ok (.enter 77 #[x]) W := by kernel_rfl
set_option maxRecDepth 100000 in
set_option maxHeartbeats 2000000 in
theorem sder_bad (N : Int) (v : Value) (zs : List Int) (w : World) (hv : Sl w v zs) (hc : (gfault N zs).1 ≠ 0) :
    Calls Tryd.prog 46 #[.agg #[.int .i64 N, v]] w fun x w' => x = .returned (.tuple #[.slice none 0 0, .agg #[.int .i64 (gfault N zs).1, .int .i64 (gfault N zs).2]]) ∧ Below w.heap.size w w' := by
  obtain ⟨w0, BG⟩ := Beg.new w N v
  obtain ⟨c0, c1, _, _⟩ := BG.box.two
  have hck := fun f => listed_bad N v f zs w0 (hv.below BG.bel) hc
  obtain ⟨c, i, hci⟩ : ∃ c i, gfault N zs = (c, i) := ⟨_, _, rfl⟩
  rw [hci] at hck hc ⊢
  simp only at hc hck
  have HCK := hide hck
  clear hck hci
  rw [BG.eq] at c0 c1
  go_enter Tryd.func46, Tryd.ntmps46
  go_wp2_with fail
  rw [← BG.eq]
  refine (HCK.out _).mono ?_
  rintro x w1 ⟨rfl, hb1⟩
  clear c0 c1
  have hR1 := blk_below BG.res hb1
  have hBw := bcat BG.bel hb1 BG.bel.size
  obtain ⟨y0, y1, fy0, fy1⟩ := hR1.two
  obtain ⟨hR6, hB6⟩ := put2 hR1 hBw (by omega) c i
  obtain ⟨z0, z1, _, _⟩ := hR6.two
  go_wp2
  exact bodyPost_ret (v := .tuple #[.slice none 0 0, .agg #[.int .i64 c, .int .i64 i]]) (by simp [results, Tryd.results46, go_sem, z0, z1]) rfl ⟨rfl, hB6⟩
set_option maxRecDepth 100000 in
set_option maxHeartbeats 2000000 in
theorem sder_good (n e : Nat) (v : Value) (zs : List Int) (w : World) (hv : Sl w v zs) (hg : IsGrp n zs e) (hT : Tab w) :
    Calls Tryd.prog 46 #[.agg #[.int .i64 n, v]] w fun x w' => ∃ y, x = .returned (.tuple #[y, .agg #[.int .i64 0, .int .i64 0]]) ∧ LisA w' n (fun q => cmb n zs e q q) (fun q => Fin.Sg (List.range n) (tm n zs) e (fun a => q a = true)) (fun q => (lst n q).length) (fun _ => true) y ∧ Below w.heap.size w w' := by
  obtain ⟨w0, BG⟩ := Beg.new w n v
  obtain ⟨c0, c1, _, _⟩ := BG.box.two
  have HCK := hide (listed_good n e 77 v zs (fun q => cmb n zs e q q) (fun q => Fin.Sg (List.range n) (tm n zs) e (fun a => q a = true)) (fun q => (lst n q).length) (fun _ => true) w0 (hv.below BG.bel) hg (hT.below BG.bel) (fun x W => call76 x W) (fun W u h hG => derived_ok n v u zs e W hG ((hT.below BG.bel).below h)))
  rw [BG.eq] at c0 c1
  go_enter Tryd.func46, Tryd.ntmps46
  go_wp2_with fail
  rw [← BG.eq]
  refine HCK.out.mono ?_
  rintro x w1 ⟨y, rfl, hl, hb1⟩
  clear c0 c1
  have hR1 := blk_below BG.res hb1
  have hBw := bcat BG.bel hb1 BG.bel.size
  obtain ⟨_, y0, y1, fy0, fy1, s0, s1⟩ := Two.mk' hR1
  go_wp2
  exact bodyPost_ret (v := .tuple #[y, .agg #[.int .i64 0, .int .i64 0]]) (by simp [results, Tryd.results46, go_sem, y0, y1]) rfl ⟨y, rfl, hl, hBw⟩
end Go.Proofs.YtjiapicknkjhmaaDoor

namespace Go.Proofs.YtjiapicknkjhmaaDoor
open Go Go.RowKit

/-- How the lower series goes, and whether it ends with the one. -/
def NilA (n : Nat) (zs : List Int) (e : Nat) (b : Bool) : Prop := ∃ K : Nat, Stp n (fun q => cmb n zs e q fun _ => true) (Nsg n zs e) (fun q => (lst n q).length) (fun _ => true) K ∧ bs (itr (fun q => cmb n zs e q fun _ => true) (fun _ => true) (K + 1)) n = bs (itr (fun q => cmb n zs e q fun _ => true) (fun _ => true) K) n ∧ (b = true ↔ (lst n (itr (fun q => cmb n zs e q fun _ => true) (fun _ => true) K)).length = 1)
/-- The square's commutators. -/
theorem sq_cm : ∀ a, a < 8 → ∀ b, b < 8 → Fin.cm (tm 8 sqT) (iv 8 sqT 0) a b = 0 ∨ Fin.cm (tm 8 sqT) (iv 8 sqT 0) a b = 2 := by decide +kernel
theorem sq_cm2 : ∃ a, a < 8 ∧ ∃ b, b < 8 ∧ Fin.cm (tm 8 sqT) (iv 8 sqT 0) a b = 2 := by decide +kernel
theorem sq_cm3 : ∀ a, a < 8 → ∀ b, b < 8 → (a = 0 ∨ a = 2) → (b = 0 ∨ b = 2) → Fin.cm (tm 8 sqT) (iv 8 sqT 0) a b = 0 := by decide +kernel
theorem sq_sg : ∀ a, a < 8 → ∀ b, b < 8 → (a = 0 ∨ a = 2) → (b = 0 ∨ b = 2) → (tm 8 sqT a b = 0 ∨ tm 8 sqT a b = 2) := by decide +kernel
theorem sq_one : tm 8 sqT 0 0 = 0 := by decide +kernel
theorem sq_d1 {x : Nat} (hx : x < 8) : cmb 8 sqT 0 (fun _ => true) (fun _ => true) x = true ↔ (x = 0 ∨ x = 2) := by
  constructor
  · exact fun h => cmb_in (P := fun x => x = 0 ∨ x = 2) ⟨.inl rfl, fun a b ha hb h1 h2 => sq_sg a (List.mem_range.1 ha) b (List.mem_range.1 hb) h1 h2⟩ (fun a b ha hb _ _ => sq_cm a ha b hb) hx h
  · rintro (rfl | rfl)
    · exact (cmb_sg sqT_grp).one
    · obtain ⟨a, ha, b, hb, h⟩ := sq_cm2
      have := cmb_base (q := fun _ => true) (r := fun _ => true) sqT_grp ha hb rfl rfl
      rwa [h] at this
theorem sq_d2 {q : Nat → Bool} (hq : ∀ x, x < 8 → q x = true → (x = 0 ∨ x = 2)) {x : Nat} (hx : x < 8) : cmb 8 sqT 0 q q x = true ↔ x = 0 := by
  constructor
  · exact fun h => cmb_in (P := fun x => x = 0) ⟨rfl, fun a b _ _ h1 h2 => by rw [h1, h2]; exact sq_one⟩ (fun a b ha hb h1 h2 => sq_cm3 a ha b hb (hq a ha h1) (hq b hb h2)) hx h
  · rintro rfl
    exact (cmb_sg sqT_grp).one
theorem sq_series {I : (Nat → Bool) → Prop} {M : (Nat → Bool) → Nat} {K : Nat} (h : Stp 8 (fun q => cmb 8 sqT 0 q q) I M (fun _ => true) K) (hend : bs (itr (fun q => cmb 8 sqT 0 q q) (fun _ => true) (K + 1)) 8 = bs (itr (fun q => cmb 8 sqT 0 q q) (fun _ => true) K) 8) : K = 2 ∧ li (lst 8 (itr (fun q => cmb 8 sqT 0 q q) (fun _ => true) 1)) = [0, 2] := by
  have d1 : ∀ x, x < 8 → (itr (fun q => cmb 8 sqT 0 q q) (fun _ => true) 1 x = true ↔ (x = 0 ∨ x = 2)) := fun x hx => sq_d1 hx
  have d2 : ∀ x, x < 8 → (itr (fun q => cmb 8 sqT 0 q q) (fun _ => true) 2 x = true ↔ x = 0) := fun x hx => sq_d2 (fun x hx h => (d1 x hx).1 h) hx
  have d3 : ∀ x, x < 8 → (itr (fun q => cmb 8 sqT 0 q q) (fun _ => true) 3 x = true ↔ x = 0) := fun x hx => sq_d2 (fun x hx h => .inl ((d2 x hx).1 h)) hx
  refine ⟨?_, ?_⟩
  · match K, h, hend with
    | 0, _, hend =>
      have := bs_inj hend 1 (by omega)
      have h1 : itr (fun q => cmb 8 sqT 0 q q) (fun _ => true) 1 1 = true := this
      have := (d1 1 (by omega)).1 h1
      omega
    | 1, _, hend =>
      have h1 : itr (fun q => cmb 8 sqT 0 q q) (fun _ => true) 2 2 = itr (fun q => cmb 8 sqT 0 q q) (fun _ => true) 1 2 := bs_inj hend 2 (by omega)
      rw [(d1 2 (by omega)).2 (.inr rfl)] at h1
      have := (d2 2 (by omega)).1 h1
      omega
    | 2, _, _ => rfl
    | K + 3, h, _ =>
      exact absurd (bs_ext fun x hx => by rw [Bool.eq_iff_iff, d3 x hx, d2 x hx]) (h.go 2 (by omega))
  · rw [lst_congr (q := fun x => decide (x = 0 ∨ x = 2)) fun x hx => by rw [Bool.eq_iff_iff, d1 x hx, decide_eq_true_eq]]
    decide
set_option maxRecDepth 100000 in
set_option maxHeartbeats 2000000 in
theorem seriesBegun_any (w : World) (hT : Tab w) : Calls Tryd.prog 19 #[] w fun x w' => x = .returned (.bool true) ∧ Below w.heap.size w w' := by
  go_enter Tryd.func19, Tryd.ntmps19
  go_wp2_with fail
  refine (square_ok w).mono ?_
  rintro x w1 ⟨r, rfl, hrow, hb1⟩
  have h01 : 0 < w1.heap.size := Nat.lt_of_lt_of_le hT.lt hb1.size
  go_wp2_with fail
  refine (sder_good 8 0 r sqT w1 (row_sl hrow h01) sqT_grp (hT.below hb1)).mono ?_
  rintro x w2 ⟨y, rfl, ⟨K, g, c, rfl, hst, hend, hR, _⟩, hb2⟩
  obtain ⟨rfl, h02⟩ := sq_series hst hend
  have hs1 := sls_at (n := 8) (f := itr (fun q => cmb 8 sqT 0 q q) (fun _ => true)) (k := 3) (i := 1) (by omega)
  rw [h02] at hs1
  obtain ⟨a, cp, hc, hS⟩ := hR 1 (by rw [sls_len]; omega)
  rw [hs1] at hc hS
  clear hst hend hR h02 hs1
  have hb3 := balloc w2 (.cells #[.int .i64 0, .int .i64 0] 27)
  have hF3 := blk0 (w := w2) (T := 27) (.int .i64 0) (.int .i64 0)
  obtain ⟨t0, t1, _, _⟩ := hF3.two
  have hc3 := below_cell hb3 hc
  have hb4 : Below w2.heap.size w2 ((w2.alloc (.cells #[.int .i64 0, .int .i64 0] 27)).alloc (.cells #[.int .i64 0, .int .i64 2] 3)) := hb3.alloc hb3.size _
  have hL4 : Blk ((w2.alloc (.cells #[.int .i64 0, .int .i64 0] 27)).alloc (.cells #[.int .i64 0, .int .i64 2] 3)) (w2.heap.size + 1) 3 (([0, 2] : List Int).map (Value.int .i64)) := by
    have := blk0 (w := w2.alloc (.cells #[.int .i64 0, .int .i64 0] 27)) (T := 3) (.int .i64 0) (.int .i64 2)
    rwa [World.size_alloc] at this
  have hS4 := Sl.of_blk (n := 2) hL4 rfl (by simp)
  go_wp2_with fail
  generalize (w2.alloc (.cells #[.int .i64 0, .int .i64 0] 27)).alloc (.cells #[.int .i64 0, .int .i64 2] 3) = w4 at *
  refine (ints_any _ _ [0, 2] [0, 2] w4 (hS.below hb4) hS4).mono ?_
  rintro x w5 ⟨rfl, hb5⟩
  rw [show decide (([0, 2] : List Int) = ([0, 2] : List Int)) = true from rfl]
  go_wp2
  go_ret
  exact ⟨rfl, bcat2 (bcat2 (bcat2 hb1 hb2) hb4) hb5⟩
end Go.Proofs.YtjiapicknkjhmaaDoor

namespace Go.Proofs.YtjiapicknkjhmaaDoor
variable {n e : Nat} {zs : List Int} {s : Nat → Bool}

theorem last_of {P : Nat → Prop} (h0 : P 0) : ∀ K, ¬ P K → ∃ i, i < K ∧ P i ∧ ¬ P (i + 1)
  | 0, h => absurd h0 h
  | K + 1, h => by
    by_cases hK : P K
    · exact ⟨K, by omega, hK, h⟩
    · obtain ⟨i, h1, h2, h3⟩ := last_of h0 K hK
      exact ⟨i, by omega, h2, h3⟩
theorem one_only (g : IsGrp n zs e) {q : Nat → Bool} (he : q e = true) (h1 : (lst n q).length = 1) {x : Nat} (hx : x < n) (hq : q x = true) : x = e := by
  obtain ⟨d, hd⟩ := List.length_eq_one_iff.1 h1
  have m1 : e ∈ lst n q := mem_lst.2 ⟨g.elt, he⟩
  have m2 : x ∈ lst n q := mem_lst.2 ⟨hx, hq⟩
  rw [hd, List.mem_singleton] at m1 m2
  rw [m1, m2]
theorem two_of (g : IsGrp n zs e) {q : Nat → Bool} (he : q e = true) (h1 : (lst n q).length ≠ 1) : ∃ x, x < n ∧ x ≠ e ∧ q x = true := by
  refine Classical.byContradiction fun h => h1 ?_
  have h2 : lst n q = lst n (fun a => decide (a = e)) := lst_congr fun x hx => by
    rw [Bool.eq_iff_iff, decide_eq_true_eq]
    exact ⟨fun h3 => Classical.byContradiction fun h4 => h ⟨x, hx, h4, h3⟩, fun h3 => by rw [h3]; exact he⟩
  rw [h2, one_lst g.elt]
  rfl
theorem more_of (g : IsGrp n zs e) {q : Nat → Bool} (he : q e = true) {x : Nat} (hx : x < n) (hne : x ≠ e) (hq : q x = true) : 1 < (lst n q).length := by
  have h1 := List.length_pos_of_mem (mem_lst.2 ⟨g.elt, he⟩)
  refine Classical.byContradiction fun h => hne (one_only g he (by omega) hx hq)
theorem cm_flip (g : IsGrp n zs e) {a b : Nat} (ha : a < n) (hb : b < n) : tm n zs (Fin.cm (tm n zs) (iv n zs e) a b) (Fin.cm (tm n zs) (iv n zs e) b a) = e := by
  have F := grp_fg g
  have V := grp_iv g
  have ha' := List.mem_range.2 ha
  have hb' := List.mem_range.2 hb
  have c1 := Fin.cm_mem F V ha' hb'
  have c2 := Fin.cm_mem F V hb' ha'
  have hba := F.cl _ _ hb' ha'
  refine F.can hba (F.cl _ _ c1 c2) F.one ?_
  rw [← F.ass _ _ _ hba c1 c2, Fin.cm_eq F V ha' hb', Fin.cm_eq F V hb' ha', F.right _ hba]
theorem cj_cm (g : IsGrp n zs e) {a b : Nat} (ha : a < n) (hb : b < n) : Fin.cj (tm n zs) (iv n zs e) a b = tm n zs a (Fin.cm (tm n zs) (iv n zs e) a b) := by
  have F := grp_fg g
  have V := grp_iv g
  have ha' := List.mem_range.2 ha
  have hcj := Fin.cj_mem F V ha' (List.mem_range.2 hb)
  rw [cm_as g ha hb, ← F.ass _ _ _ ha' (V a ha').1 hcj, (V a ha').2.1, F.left _ hcj]
/-- The lower series. -/
noncomputable abbrev lo (n : Nat) (zs : List Int) (e i : Nat) : Nat → Bool := itr (fun q => cmb n zs e q fun _ => true) (fun _ => true) i
theorem lo_up (g : IsGrp n zs e) {i a b : Nat} (ha : a < n) (hb : b < n) (h : lo n zs e i a = true) : lo n zs e (i + 1) (Fin.cm (tm n zs) (iv n zs e) a b) = true := cmb_base g ha hb h rfl
theorem nil_grows (g : IsGrp n zs e) {K : Nat} (hin : ∀ i, i ≤ K → Nsg n zs e (lo n zs e i)) (hK : (lst n (lo n zs e K)).length = 1) (hs : subT n zs e s = true) (hno : (lst n s).length ≠ n) : (lst n s).length < (lst n (norq n zs e s)).length := by
  have F := grp_fg g
  have V := grp_iv g
  have S := subT_iff.1 hs
  have h0 : ∃ x, x < n ∧ lo n zs e 0 x = true ∧ ¬ s x = true := Classical.byContradiction fun h => hno (by
    have h1 : lst n s = lst n (fun _ => true) := lst_congr fun x hx => by
      rw [Bool.eq_iff_iff]
      exact ⟨fun _ => rfl, fun _ => Classical.byContradiction fun h2 => h ⟨x, hx, rfl, h2⟩⟩
    rw [h1]
    unfold lst
    rw [List.filter_eq_self.2 (fun _ _ => rfl), List.length_range])
  obtain ⟨i, hi, ⟨x, hx, h1, h2⟩, h3⟩ := last_of (P := fun i => ∃ x, x < n ∧ lo n zs e i x = true ∧ ¬ s x = true) h0 K (by
    rintro ⟨x, hx, h1, h2⟩
    rw [one_only g (hin K (Nat.le_refl _)).sg.one hK hx h1] at h2
    exact h2 S.one)
  have hin1 : ∀ y, y < n → lo n zs e (i + 1) y = true → s y = true := fun y hy h4 => Classical.byContradiction fun h5 => h3 ⟨y, hy, h4, h5⟩
  have key : ∀ z, z < n → lo n zs e i z = true → ∀ y, y ∈ List.range n → s y = true → s (Fin.cj (tm n zs) (iv n zs e) y z) = true := fun z hz hl y hy hsy => by
    have hyl := List.mem_range.1 hy
    have c1 := cm_lt g hz hyl
    have c2 := cm_lt g hyl hz
    have h5 := hin1 _ c1 (lo_up g hz hyl hl)
    have h6 : s (Fin.cm (tm n zs) (iv n zs e) y z) = true := S.inv F (List.mem_range.2 c1) (List.mem_range.2 c2) (cm_flip g hz hyl) h5
    rw [cj_cm g hyl hz]
    exact S.mul _ _ hy (List.mem_range.2 c2) hsy h6
  have hx' := List.mem_range.2 hx
  have hL := (hin i (by omega)).sg
  have hxi := hL.inv F hx' (V x hx').1 (V x hx').2.1 h1
  refine (lst_less (fun y hy h4 => (nor_iff y).2 (Fin.nor_sub F V S (List.mem_range.2 hy) h4))).2 ⟨x, hx, (nor_iff x).2 (Fin.nor_of F V hx' (key x hx h1) (key _ (List.mem_range.1 (V x hx').1) hxi)), h2⟩
theorem nil_meets (g : IsGrp n zs e) {K : Nat} {c : Nat → Bool} (hin : ∀ i, i ≤ K → Nsg n zs e (lo n zs e i)) (hK : (lst n (lo n zs e K)).length = 1) (hc : Nsg n zs e c) (hno : (lst n c).length ≠ 1) : 1 < (lst n (fun a => c a && cenq n zs (fun _ => true) a)).length := by
  have F := grp_fg g
  have V := grp_iv g
  obtain ⟨x0, hx0, hne0, hc0⟩ := two_of g hc.sg.one hno
  obtain ⟨i, hi, ⟨x, hx, hne, h1, h2⟩, h3⟩ := last_of (P := fun i => ∃ x, x < n ∧ x ≠ e ∧ c x = true ∧ lo n zs e i x = true) ⟨x0, hx0, hne0, hc0, rfl⟩ K (by
    rintro ⟨x, hx, h1, h2, h3⟩
    exact h1 (one_only g (hin K (Nat.le_refl _)).sg.one hK hx h3))
  have hcen : ∀ x, x < n → (∀ y, y < n → tm n zs x y = tm n zs y x) → cenq n zs (fun _ => true) x = true := fun x _ h => by
    unfold cenq
    rw [List.all_eq_true]
    exact fun y hy => decide_eq_true (h y (mem_lst.1 hy).1)
  refine more_of g ?_ hx hne ?_
  · rw [Bool.and_eq_true]
    exact ⟨hc.sg.one, hcen e g.elt fun y hy => by rw [F.left y (List.mem_range.2 hy), F.right y (List.mem_range.2 hy)]⟩
  · rw [Bool.and_eq_true]
    refine ⟨h1, hcen x hx fun y hy => (Fin.cm_one F V (List.mem_range.2 hx) (List.mem_range.2 hy)).1 ?_⟩
    exact Classical.byContradiction fun h4 => h3 ⟨_, cm_lt g hx hy, h4, hc.cm_in g hx hy h1, lo_up g hx hy h2⟩
theorem clo_nsg (g : IsGrp n zs e) {q p : Nat → Bool} (hp : ∀ a, a < n → (p a = true ↔ Mkd n zs e (cloq n zs e q n) a)) : Nsg n zs e p := by
  have F := grp_fg g
  have V := grp_iv g
  refine ⟨made_sg g hp, fun x a hx ha h => ?_⟩
  have hm := Fin.cj_mem F V hx ha
  exact (hp _ (List.mem_range.1 hm)).2 ((mkd_clo _).2 (Fin.clos_nm F V x a hx ha ((mkd_clo _).1 ((hp x (List.mem_range.1 hx)).1 h))))
end Go.Proofs.YtjiapicknkjhmaaDoor

namespace Go.Proofs.YtjiapicknkjhmaaDoor
open Go Go.RowKit

set_option maxRecDepth 100000 in
set_option maxHeartbeats 4000000 in
theorem clo_bad (N : Int) (v u0 : Value) (zs l0 : List Int) (w : World) (hv : Sl w v zs) (hu : Sl w u0 l0) (hc : (sfault N zs l0).1 ≠ 0) :
    Calls Tryd.prog 8 #[.agg #[.int .i64 N, v], u0] w fun x w' => x = .returned (.tuple #[.slice none 0 0, .agg #[.int .i64 (sfault N zs l0).1, .int .i64 (sfault N zs l0).2]]) ∧ Below w.heap.size w w' := by
  obtain ⟨w0, BG⟩ := Beg.new w N v
  have hv0 := hv.below BG.bel
  obtain ⟨c0, c1, _, _⟩ := BG.box.two
  have hck := oset_bad N v u0 zs l0 w0 hv0 (hu.below BG.bel) hc
  obtain ⟨c, i, hci⟩ : ∃ c i, sfault N zs l0 = (c, i) := ⟨_, _, rfl⟩
  rw [hci] at hck hc ⊢
  simp only at hc hck
  have HCK := hide hck
  clear hck hci
  have hcb : (c != 0) = true := by simpa using hc
  rw [BG.eq] at c0 c1
  go_enter Tryd.func8, Tryd.ntmps8
  go_wp2_with fail
  rw [← BG.eq]
  refine HCK.out.mono ?_
  rintro x w1 ⟨rfl, hb1⟩
  clear c0 c1
  obtain ⟨w2, hw2⟩ : ∃ w2, w2 = (w1.alloc (.cells #[.int .i64 0, .slice none 0 0, .int .i64 0, .slice none 0 0] 50)).alloc (.cells #[.int .i64 c, .int .i64 i] 27) := ⟨_, rfl⟩
  have hB1 : Below w0.heap.size w0 w2 := by rw [hw2]; exact bcat2 hb1 ((balloc w1 _).alloc (by simp) _)
  have hF1 : Blk w2 (w1.heap.size + 1) 27 [.int .i64 c, .int .i64 i] := by
    rw [hw2]
    have := blk0 (w := w1.alloc (.cells #[.int .i64 0, .slice none 0 0, .int .i64 0, .slice none 0 0] 50)) (T := 27) (.int .i64 c) (.int .i64 i)
    rwa [World.size_alloc] at this
  have hR1 := blk_below BG.res hB1
  have hBw := bcat BG.bel hB1 BG.bel.size
  obtain ⟨y0, y1, fy0, fy1⟩ := hR1.two
  obtain ⟨t0, t1, _, _⟩ := hF1.two
  rw [hw2] at t0 t1
  go_wp2_with fail
  rw [← hw2]
  rw [← hw2] at t0 t1
  clear hw2
  go_region
  all_goals (
    go_wp2
    obtain ⟨hR6, hB6⟩ := put2 hR1 hBw (by omega) c i
    have hB7 := bdrew hB6
    have hR7 : Blk ((w2.setCell ⟨w.heap.size + 1, 0, none⟩ (.int .i64 c)).setCell ⟨w.heap.size + 1, 1, none⟩ (.int .i64 i)).drew (w.heap.size + 1) 27 [.int .i64 c, .int .i64 i] := hR6
    generalize ((w2.setCell ⟨w.heap.size + 1, 0, none⟩ (.int .i64 c)).setCell ⟨w.heap.size + 1, 1, none⟩ (.int .i64 i)).drew = W at hR7 hB7 ⊢
    obtain ⟨z0, z1, _, _⟩ := hR7.two
    exact bodyPost_ret (v := .tuple #[.slice none 0 0, .agg #[.int .i64 c, .int .i64 i]]) (by simp [results, Tryd.results8, go_sem, z0, z1]) rfl ⟨rfl, hB7⟩)
theorem part_of_lst (n e : Nat) (v u : Value) (zs : List Int) (q : Nat → Bool) (w : World) (hv : Sl w v zs) (hg : IsGrp n zs e) (hu : Sl w u (li (lst n q))) (hT : Tab w) (hs : subT n zs e q = true) :
    Calls Tryd.prog 9 #[.agg #[.int .i64 n, v], u] w fun x w' => ∃ r1 r2 r3, x = .returned (.tuple #[.agg #[.int .i64 (lst n q).length, .slice r1 r2 r3], .agg #[.int .i64 0, .int .i64 0]]) ∧ Sl w' (.slice r1 r2 r3) (mkT (lst n q).length (parF n zs (lst n q))) ∧ Below w.heap.size w w' := by
  have h := part_good n e v u zs (li (lst n q)) w hv hg hu hT (lst_fault n q) ((subT_congr hg fun a ha => pset_lst ha).trans hs)
  rwa [lst_pset] at h
theorem pfault_zero {n e : Nat} {zs : List Int} {p : Int} (g : IsGrp n zs e) (h : primeB p = true) : pfault n zs p = (0, 0) := by
  unfold pfault
  rw [h, if_neg (by simp), gfault_of_grp g]
theorem call14 (a x y : Value) (W : World) : Sem.run Tryd.prog (callFunc 14 (#[a] ++ #[x, y])) W = .ok (.enter 14 (#[a] ++ #[x, y])) W := by kernel_rfl
set_option maxRecDepth 100000 in
set_option maxHeartbeats 2000000 in
theorem fra1_ok (hb nb : Nat) (h1 : Option Addr) (h2 h3 : Nat) (n1 : Option Addr) (n2 n3 : Nat) (hl nl : List Int) (a : Int) (w : World) (hH : Boxed w hb 22 (.slice h1 h2 h3)) (hN : Boxed w nb 22 (.slice n1 n2 n3)) (hs : Sl w (.slice h1 h2 h3) hl) (ns : Sl w (.slice n1 n2 n3) nl) :
    Calls Tryd.prog 14 #[.int .i64 a, .pointer (some ⟨hb, 0, none⟩), .pointer (some ⟨nb, 0, none⟩)] w fun x w' => x = .returned (.bool (decide (a ∈ hl) || decide (a ∈ nl))) ∧ w' = w := by
  have c0 := hH.cell
  have c1 := hN.cell
  have HA := hide (rhas_ok (.slice h1 h2 h3) hl a w hs)
  have HB := hide (rhas_ok (.slice n1 n2 n3) nl a w ns)
  cases hh : decide (a ∈ hl) with
  | true =>
    rw [hh] at HA
    go_enter Tryd.func14, Tryd.ntmps14
    go_wp2_with fail
    refine HA.out.mono ?_
    rintro x w1 ⟨rfl, rfl⟩
    go_wp2
    go_ret
    exact ⟨rfl, rfl⟩
  | false =>
    rw [hh] at HA
    cases hn : decide (a ∈ nl) with
    | true =>
      rw [hn] at HB
      go_enter Tryd.func14, Tryd.ntmps14
      go_wp2_with fail
      refine HA.out.mono ?_
      rintro x w1 ⟨rfl, rfl⟩
      go_wp2_with fail
      refine HB.out.mono ?_
      rintro x w2 ⟨rfl, rfl⟩
      go_wp2
      go_ret
      exact ⟨rfl, rfl⟩
    | false =>
      rw [hn] at HB
      go_enter Tryd.func14, Tryd.ntmps14
      go_wp2_with fail
      refine HA.out.mono ?_
      rintro x w1 ⟨rfl, rfl⟩
      go_wp2_with fail
      refine HB.out.mono ?_
      rintro x w2 ⟨rfl, rfl⟩
      go_wp2
      go_ret
      exact ⟨rfl, rfl⟩
/-- What stays true while the law goes on. -/
structure FS (w : World) (n : Nat) (v nv : Value) (b : Nat) (NL : List Int) (W : World) : Prop where
  bel : Below w.heap.size w W
  x : BoxG W w.heap.size n v
  nb : Boxed W b 22 nv
  f : Blk W (b + 1) 27 [.int .i64 0, .int .i64 0]
  sn : Sl W nv NL
theorem FS.below {w : World} {n : Nat} {v nv : Value} {b : Nat} {NL : List Int} {W W' : World} (h : FS w n v nv b NL W) (hb : Below W.heap.size W W') : FS w n v nv b NL W' :=
  ⟨bcat2 h.bel hb, blk_below h.x hb, Boxed.below h.nb hb, blk_below h.f hb, h.sn.below hb⟩
set_option maxRecDepth 100000 in
set_option maxHeartbeats 4000000 in
theorem sfra_bad1 (N p : Int) (v1 : Option Addr) (v2 v3 : Nat) (u : Value) (zs : List Int) (w : World) (hv : Sl w (.slice v1 v2 v3) zs) (hT : Tab w) (hc : (pfault N zs p).1 ≠ 0) :
    Calls Tryd.prog 3 #[.agg #[.int .i64 N, .slice v1 v2 v3], .int .i64 p, u] w fun e w' => e = .returned (.bool true) ∧ Below w.heap.size w w' := by
  have HPF := hide (fun W (h : Below w.heap.size w W) => pf_ok N p (.slice v1 v2 v3) zs W (hv.below h))
  generalize pfault N zs p = pf at *
  obtain ⟨c, i⟩ := pf
  simp only at hc HPF
  have hcb : (c != 0) = true := by simpa using hc
  have hfld : ∀ W, Sem.run Tryd.prog (Instr.field 27 (.agg #[.int .i64 c, .int .i64 i]) 0) W = .ok (.int .i64 c) W := fun W => by kernel_rfl
  have hB0 : Below w.heap.size w (w.alloc (.cells #[.int .i64 N, .slice v1 v2 v3] 24)) := balloc w _
  have hX0 : BoxG (w.alloc (.cells #[.int .i64 N, .slice v1 v2 v3] 24)) w.heap.size N (.slice v1 v2 v3) := blk0 (w := w) (T := 24) _ _
  go_enter Tryd.func3, Tryd.ntmps3
  go_wp2_with fail
  generalize w.alloc (.cells #[.int .i64 N, .slice v1 v2 v3] 24) = w0 at *
  refine (sylowBegun_any _ (hT.below hB0)).mono ?_
  rintro x w1 ⟨rfl, hb1⟩
  have hB1 := bcat2 hB0 hb1
  have hX1 := blk_below hX0 hb1
  obtain ⟨c0, c1, _, _⟩ := hX1.two
  go_wp2_with fail
  clear c0 c1
  refine (HPF.out _ hB1).mono ?_
  rintro x w2 ⟨rfl, hb2⟩
  go_wp2
  go_ret
  exact ⟨rfl, bcat2 hB1 hb2⟩
set_option maxRecDepth 100000 in
set_option maxHeartbeats 4000000 in
theorem sfra_bad2 (n e p : Nat) (v1 : Option Addr) (v2 v3 : Nat) (u : Value) (zs ls : List Int) (w : World) (hv : Sl w (.slice v1 v2 v3) zs) (hu : Sl w u ls) (hg : IsGrp n zs e) (hT : Tab w) (hpr : primeB p = true) (hlf : (lfault n ls).1 ≠ 0) :
    Calls Tryd.prog 3 #[.agg #[.int .i64 n, .slice v1 v2 v3], .int .i64 p, u] w fun e w' => e = .returned (.bool true) ∧ Below w.heap.size w w' := by
  have HPF := hide (fun W (h : Below w.heap.size w W) => pf_ok n p (.slice v1 v2 v3) zs W (hv.below h))
  rw [pfault_zero hg hpr] at HPF
  have HMB := hide (fun W (h : Below w.heap.size w W) => clo_bad n (.slice v1 v2 v3) u zs ls W (hv.below h) (hu.below h) (by rw [sfault_l hg]; exact hlf))
  rw [sfault_l hg] at HMB
  generalize lfault n ls = lf at *
  obtain ⟨c, i⟩ := lf
  simp only at hlf HMB
  have hcb : (c != 0) = true := by simpa using hlf
  have hfld : ∀ W, Sem.run Tryd.prog (Instr.field 27 (.agg #[.int .i64 0, .int .i64 0]) 0) W = .ok (.int .i64 0) W := fun W => by kernel_rfl
  have hB0 : Below w.heap.size w (w.alloc (.cells #[.int .i64 n, .slice v1 v2 v3] 24)) := balloc w _
  have hX0 : BoxG (w.alloc (.cells #[.int .i64 n, .slice v1 v2 v3] 24)) w.heap.size n (.slice v1 v2 v3) := blk0 (w := w) (T := 24) _ _
  go_enter Tryd.func3, Tryd.ntmps3
  go_wp2_with fail
  generalize w.alloc (.cells #[.int .i64 n, .slice v1 v2 v3] 24) = w0 at *
  refine (sylowBegun_any _ (hT.below hB0)).mono ?_
  rintro x w1 ⟨rfl, hb1⟩
  have hB1 := bcat2 hB0 hb1
  have hX1 := blk_below hX0 hb1
  obtain ⟨c0, c1, _, _⟩ := hX1.two
  go_wp2_with fail
  clear c0 c1
  refine (HPF.out _ hB1).mono ?_
  rintro x w2 ⟨rfl, hb2⟩
  have hB2 := bcat2 hB1 hb2
  have hX2 := blk_below hX1 hb2
  obtain ⟨c0, c1, _, _⟩ := hX2.two
  go_wp2_with fail
  clear c0 c1
  refine (HMB.out _ hB2).mono ?_
  rintro x w3 ⟨rfl, hb3⟩
  obtain ⟨w4, hw4⟩ : ∃ w4, w4 = (w3.alloc (.cells #[.slice none 0 0] 22)).alloc (.cells #[.int .i64 c, .int .i64 i] 27) := ⟨_, rfl⟩
  have hbw4 : Below w3.heap.size w3 w4 := by rw [hw4]; exact (balloc w3 _).alloc (by simp) _
  have hF4 : Blk w4 (w3.heap.size + 1) 27 [.int .i64 c, .int .i64 i] := by
    rw [hw4]
    have := blk0 (w := w3.alloc (.cells #[.slice none 0 0] 22)) (T := 27) (.int .i64 c) (.int .i64 i)
    rwa [World.size_alloc] at this
  obtain ⟨f0, f1, _, _⟩ := hF4.two
  rw [hw4] at f0 f1
  go_wp2
  rw [← hw4]
  go_ret
  exact ⟨rfl, bcat2 hB2 (bcat2 hb3 hbw4)⟩
end Go.Proofs.YtjiapicknkjhmaaDoor

namespace Go.Proofs.YtjiapicknkjhmaaDoor
open Go Go.RowKit

theorem li_app (xs ys : List Nat) : li (xs ++ ys) = li xs ++ li ys := by simp [li]
/-- What All answers, as the law reads it. -/
structure FrA (K n : Nat) (cl : List Nat) (G : (Nat → Bool) → Prop) (ms : List (List Int)) (xs : List Nat) (t : Nat → Bool) : Prop where
  pos : 0 < ms.length
  le : ms.length ≤ 60
  at0 : ms[0]?.getD [] = li xs
  lt : ∀ x, x ∈ xs → x < K
  len : xs.length ≤ 60
  map : xs.map (thing cl) = lst n t
  good : G t
set_option maxRecDepth 100000 in
set_option maxHeartbeats 8000000 in
theorem sfra_walk (n p K : Nat) (NL TH : List Int) (cl : List Nat) (G : (Nat → Bool) → Prop) (G2 G3 : List Int → Prop) (v1 : Option Addr) (v2 v3 : Nat) (u1 : Option Addr) (u2 u3 : Nat) (w : World) (hT : Tab w)
    (HK : Hid (NL.length = K)) (HC : Hid (∀ i, i < K → NL[i]?.getD 0 = (thing cl i : Int))) (hK6 : K ≤ 60)
    (HPF : Hid (∀ W, Below w.heap.size w W → Calls Tryd.prog 7 #[.agg #[.int .i64 n, .slice v1 v2 v3], .int .i64 p] W fun x W' => x = .returned (.agg #[.int .i64 0, .int .i64 0]) ∧ Below W.heap.size W W'))
    (HCL : Hid (∀ W, Below w.heap.size w W → Calls Tryd.prog 8 #[.agg #[.int .i64 n, .slice v1 v2 v3], .slice u1 u2 u3] W fun x W' => ∃ r1 r3, x = .returned (.tuple #[.slice r1 K r3, .agg #[.int .i64 0, .int .i64 0]]) ∧ Sl W' (.slice r1 K r3) NL ∧ Below W.heap.size W W'))
    (HPA : Hid (∀ W r1 r3, Below w.heap.size w W → Sl W (.slice r1 K r3) NL → Calls Tryd.prog 9 #[.agg #[.int .i64 n, .slice v1 v2 v3], .slice r1 K r3] W fun x W' => ∃ t1 t2 t3, x = .returned (.tuple #[.agg #[.int .i64 K, .slice t1 t2 t3], .agg #[.int .i64 0, .int .i64 0]]) ∧ Sl W' (.slice t1 t2 t3) TH ∧ Below W.heap.size W W'))
    (HAL : Hid (∀ W t1 t2 t3, Below w.heap.size w W → Sl W (.slice t1 t2 t3) TH → Calls Tryd.prog 10 #[.agg #[.int .i64 K, .slice t1 t2 t3], .int .i64 p] W fun x W' => ∃ (g c : Nat) (ms : List (List Int)) (xs : List Nat) (t : Nat → Bool), x = .returned (.tuple #[.slice (some ⟨g, 0, none⟩) ms.length c, .agg #[.int .i64 0, .int .i64 0]]) ∧ FrA K n cl G ms xs t ∧ Rws W' g ms ∧ Below W.heap.size W W'))
    (HNR : Hid (∀ W u t, Below w.heap.size w W → G t → Sl W u (li (lst n t)) → Calls Tryd.prog 11 #[.agg #[.int .i64 n, .slice v1 v2 v3], u] W fun x W' => ∃ r1 r2 r3 ML, x = .returned (.tuple #[.slice r1 r2 r3, .agg #[.int .i64 0, .int .i64 0]]) ∧ Sl W' (.slice r1 r2 r3) ML ∧ G2 ML ∧ Below W.heap.size W W'))
    (HTH : Hid (∀ W a1 a2 a3 b1 b2 b3 bm bn ML, Below w.heap.size w W → G2 ML → Boxed W bm 22 (.slice a1 a2 a3) → Boxed W bn 22 (.slice b1 b2 b3) → Sl W (.slice a1 a2 a3) ML → Sl W (.slice b1 b2 b3) NL → Calls Tryd.prog 13 #[.agg #[.int .i64 n, .slice v1 v2 v3], .func (.func 14) #[] #[.pointer (some ⟨bm, 0, none⟩), .pointer (some ⟨bn, 0, none⟩)]] W fun x W' => ∃ r1 r2 r3 UL, x = .returned (.slice r1 r2 r3) ∧ Sl W' (.slice r1 r2 r3) UL ∧ G3 UL ∧ Below W.heap.size W W'))
    (HMA : Hid (∀ W r UL, Below w.heap.size w W → G3 UL → Sl W r UL → Calls Tryd.prog 12 #[.agg #[.int .i64 n, .slice v1 v2 v3], r] W fun x W' => ∃ r1 r3, x = .returned (.tuple #[.slice r1 n r3, .agg #[.int .i64 0, .int .i64 0]]) ∧ Below W.heap.size W W')) :
    Calls Tryd.prog 3 #[.agg #[.int .i64 n, .slice v1 v2 v3], .int .i64 p, .slice u1 u2 u3] w fun e w' => e = .returned (.bool true) ∧ Below w.heap.size w w' := by
  obtain ⟨i3, hi3, hy0, hy1, hy2⟩ := info_parts info3b
  have hfld : ∀ W, Sem.run Tryd.prog (Instr.field 27 (.agg #[.int .i64 0, .int .i64 0]) 0) W = .ok (.int .i64 0) W := fun W => by kernel_rfl
  have hB0 : Below w.heap.size w (w.alloc (.cells #[.int .i64 n, .slice v1 v2 v3] 24)) := balloc w _
  have hX0 : BoxG (w.alloc (.cells #[.int .i64 n, .slice v1 v2 v3] 24)) w.heap.size n (.slice v1 v2 v3) := blk0 (w := w) (T := 24) _ _
  go_enter Tryd.func3, Tryd.ntmps3
  go_wp2_with fail
  generalize w.alloc (.cells #[.int .i64 n, .slice v1 v2 v3] 24) = w0 at *
  refine (sylowBegun_any _ (hT.below hB0)).mono ?_
  rintro x w1 ⟨rfl, hb1⟩
  have hB1 := bcat2 hB0 hb1
  have hX1 := blk_below hX0 hb1
  obtain ⟨c0, c1, _, _⟩ := hX1.two
  go_wp2_with fail
  clear c0 c1
  refine (HPF.out _ hB1).mono ?_
  rintro x w2 ⟨rfl, hb2⟩
  have hB2 := bcat2 hB1 hb2
  have hX2 := blk_below hX1 hb2
  obtain ⟨c0, c1, _, _⟩ := hX2.two
  go_wp2_with fail
  clear c0 c1
  refine (HCL.out _ hB2).mono ?_
  rintro x w3 ⟨na, nc, rfl, hr, hb3⟩
  obtain ⟨w4, hw4⟩ : ∃ w4, w4 = (w3.alloc (.cells #[.slice na K nc] 22)).alloc (.cells #[.int .i64 0, .int .i64 0] 27) := ⟨_, rfl⟩
  have hbw4 : Below w3.heap.size w3 w4 := by rw [hw4]; exact (balloc w3 _).alloc (by simp) _
  have hH4 : Boxed w4 w3.heap.size 22 (.slice na K nc) := by rw [hw4]; exact (Boxed.new w3 22 _).alloc _
  have hF4 : Blk w4 (w3.heap.size + 1) 27 [.int .i64 0, .int .i64 0] := by
    rw [hw4]
    have := blk0 (w := w3.alloc (.cells #[.slice na K nc] 22)) (T := 27) (.int .i64 0) (.int .i64 0)
    rwa [World.size_alloc] at this
  have fs4 : FS w n (.slice v1 v2 v3) (.slice na K nc) w3.heap.size NL w4 := ⟨bcat2 hB2 (bcat2 hb3 hbw4), blk_below hX2 (bcat2 hb3 hbw4), hH4, hF4, hr.below hbw4⟩
  have hs3 : w.heap.size ≤ w3.heap.size := by
    have := hB2.size
    have := hb3.size
    omega
  clear hr hH4 hF4 hbw4 hX2 hX1 hX0 hB2 hB1 hB0 hb1 hb2 hb3 HPF HCL
  obtain ⟨c0, c1, _, _⟩ := fs4.x.two
  obtain ⟨f0, f1, _, _⟩ := fs4.f.two
  have g0 := fs4.nb.cell
  rw [hw4] at c0 c1 f0 f1 g0
  go_wp2_with fail
  rw [← hw4]
  clear c0 c1 f0 f1 g0 hw4
  refine (HPA.out _ _ _ fs4.bel fs4.sn).mono ?_
  rintro x w5 ⟨t1, t2, t3, rfl, hst5, hb5⟩
  have fs5 := fs4.below hb5
  clear fs4 hb5 HPA
  obtain ⟨w6, hw6⟩ : ∃ w6, w6 = w5.alloc (.cells #[.int .i64 K, .slice t1 t2 t3] 24) := ⟨_, rfl⟩
  have hb6 : Below w5.heap.size w5 w6 := by rw [hw6]; exact balloc w5 _
  have hY6 : BoxG w6 w5.heap.size K (.slice t1 t2 t3) := by rw [hw6]; exact blk0 (w := w5) (T := 24) _ _
  have fs6 := fs5.below hb6
  have hst6 := hst5.below hb6
  obtain ⟨f0, f1, f2, f3⟩ := fs6.f.two
  obtain ⟨c0, c1, _, _⟩ := hY6.two
  have hst := store_same f0 f1
  rw [hw6] at f0 f1 f2 f3 c0 c1 hst
  go_wp2_with fail
  rw [← hw6]
  clear c0 c1 f0 f1 f2 f3 hst hw6 fs5 hst5 hb6 hY6
  refine (HAL.out _ _ _ _ fs6.bel hst6).mono ?_
  rintro x w7 ⟨lg, lc, ms, xs, t, rfl, HA, hR7, hb7⟩
  have fs7 := fs6.below hb7
  have hpos := HA.pos
  have hfit := HA.le
  have hxl := HA.len
  obtain ⟨m1, m3, hm0, hmS⟩ := hR7 0 hpos
  rw [HA.at0, li_len] at hm0 hmS
  have hlt1 : ¬ ((ms.length : Int) < 1) := by omega
  obtain ⟨f0, f1, _, _⟩ := fs7.f.two
  have hst := store_same f0 f1
  obtain ⟨pa, pcap, pb, po, hse, hsr, hsp, hsq, hsm⟩ := id hmS
  have HSR := hide hsr
  injection hse with hse1 hse2 hse3
  subst hse1 hse3
  have HHA := hide HA
  obtain ⟨na', ncap, nb, no, hne, hnr, hnp, hnq, hnm⟩ := id fs7.sn
  have HNRD := hide hnr
  injection hne with hne1 hne2 hne3
  subst hne1 hne3
  clear fs6 hst6 hb7 HAL HA hR7 hmS hsr hse2 hnr hne2
  go_wp2_with fail
  clear f0 f1 hst
  go_loopw [11, 12] (fun sv iv wr => ∃ (i : Nat) (sa : Option Addr) (sc : Nat), i ≤ xs.length ∧ iv = .int .i64 i ∧ sv = .slice sa (li ((xs.take i).map (thing cl))).length sc ∧ Row wr w7.heap.size (.slice sa (li ((xs.take i).map (thing cl))).length sc) (li ((xs.take i).map (thing cl))) ∧ Below w7.heap.size w7 wr) (fun _ iv _ => xs.length - (intOf iv).toNat)
  case atStart => exact ⟨0, none, 0, Nat.zero_le _, rfl, by simp [li], by simpa [li] using nil_row _ _, Below.refl _ _⟩
  case round =>
    obtain ⟨i, sa, sc, hi, rfl, rfl, hrow, hb⟩ := hrel
    have hm0r := below_cell hb hm0
    by_cases hlt : i < xs.length
    · have hii : (i : Int) < (xs.length : Int) := by omega
      have hck7 := HSR.out.cell i (by rw [li_len]; exact hlt)
      rw [li_get hlt] at hck7
      obtain rfl := HSR.out.at_ (by rw [li_len]; omega)
      obtain ⟨x, hxe⟩ : ∃ x, xs[i] = x := ⟨_, rfl⟩
      have hxK : x < K := by rw [← hxe]; exact HHA.out.lt _ (List.getElem_mem hlt)
      have hsn : xs.take (i + 1) = xs.take i ++ [x] := by rw [List.take_succ_eq_append_getElem hlt, hxe]
      rw [hxe] at hck7
      have hcn7 := HNRD.out.cell x (by rw [HK.out]; exact hxK)
      rw [HC.out x hxK] at hcn7
      obtain rfl := HNRD.out.at_ (by rw [HK.out]; omega)
      have HSJ := hide (show li ((xs.take (i + 1)).map (thing cl)) = li ((xs.take i).map (thing cl)) ++ [((thing cl x : Nat) : Int)] by
        rw [hsn, List.map_append, li_app]
        rfl)
      have HLC := hide (show (li ((xs.take i).map (thing cl))).length ≤ 60 by
        rw [li_len, List.length_map, List.length_take]
        omega)
      clear hsn hxe
      have hck := below_cell hb hck7
      have hcn := below_cell hb hcn7
      have fsr := fs7.below hb
      have g0 := fsr.nb.cell
      have g7 := fs7.nb.cell
      have hx0 : ¬ ((x : Int) < 0) := by omega
      have hx1 : ¬ ((x : Int) ≥ (K : Int)) := by omega
      have hx2 : (x : Int) < (K : Int) := by omega
      generalize thing cl x = t9 at *
      generalize li ((xs.take i).map (thing cl)) = sl at *
      have hown : wr.ownsRow w7.heap.size 3 1 (.slice sa sl.length sc) sl.length (sl.map (Value.int .i64)) := hrow
      have hs4 := hb.size
      have hS : ∀ W, Below w7.heap.size w7 W → (Below w7.heap.size w7 W ∧ W.cell? ⟨lg, 0, none⟩ = some (.slice (some ⟨pb, po, none⟩) xs.length m3) ∧ W.cell? ⟨pb, po + i, none⟩ = some (.int .i64 x) ∧ W.cell? ⟨w3.heap.size, 0, none⟩ = some (.slice (some ⟨nb, no, none⟩) K nc) ∧ W.cell? ⟨nb, no + x, none⟩ = some (.int .i64 t9)) := fun W h => ⟨h, below_cell h hm0, below_cell h hck7, below_cell h g7, below_cell h hcn7⟩
      go_wp2_with fail
      go_quiet (fail)
      go_wp2_with fail
      clear hck7 hcn7 g7 hcn hck g0 hm0r
      have hbq := bdrewN hb nq
      have hownq : (wr.drewN nq).ownsRow w7.heap.size 3 1 (.slice sa sl.length sc) sl.length (sl.map (Value.int .i64)) := own_keep2 hown (fun _ _ _ => rfl)
      clear hown hrow hb hs4
      generalize wr.drewN nq = wq at *
      have hown : wq.drew.ownsRow w7.heap.size 3 1 (.slice sa sl.length sc) sl.length (sl.map (Value.int .i64)) := own_keep2 hownq (fun _ _ _ => rfl)
      have hb := bdrew hbq
      have hS0 := hS _ hb
      have hs4 := hb.size
      go_region_held3 (fun W => Below w7.heap.size w7 W ∧ W.cell? ⟨lg, 0, none⟩ = some (.slice (some ⟨pb, po, none⟩) xs.length m3) ∧ W.cell? ⟨pb, po + i, none⟩ = some (.int .i64 x) ∧ W.cell? ⟨w3.heap.size, 0, none⟩ = some (.slice (some ⟨nb, no, none⟩) K nc) ∧ W.cell? ⟨nb, no + x, none⟩ = some (.int .i64 t9))
        (first | exact hS0 | assumption | exact hS _ (bcat2 (And.left ‹_›) (balloc _ _)) | exact hS _ hB9)
        (first
          | (refine step_append_lies _ rfl _ _ 22 rfl w7.heap.size 3 i3 (.int .i64 0) 1 8 under22b hi3 hy0 hy1 hy2 rfl (by decide) _ _ _ rfl (World.ownsRow.alloc hown _) ⟨_, 0, none⟩ 1 1 [.int .i64 t9] rfl rfl (cell_one_new _ _ _) (by simp [Value.oneCell']) (by decide) (by unfold maxLen; have := HLC.out; omega) (by have := HLC.out; omega) (by have := hbq.size; simp; omega) _ rfl ?_; intro g9 cap9 w9 hown9 hgrow hloc _; have hB9 : Below w7.heap.size w7 w9 := (hb.alloc hb.size _).grown hgrow (by have := hbq.size; simp; omega) (fun t e9 => owns_ge hown t e9)))
      all_goals (
        have hrow9 : Row w9 w7.heap.size (.slice (some ⟨g9, 0, none⟩) (li ((xs.take (i + 1)).map (thing cl))).length cap9) (li ((xs.take (i + 1)).map (thing cl))) := by
          rw [HSJ.out]
          unfold Row
          simpa using hown9
        clear hown9 hgrow hloc hown
        go_wp2
        go_roundw
        case rel => exact ⟨i + 1, some ⟨g9, 0, none⟩, cap9, by omega, by go_num, by rw [HSJ.out]; simp, hrow9, hB9⟩
        case measure => simp [intOf]; omega)
    · have HE := hide (show (xs.take i).map (thing cl) = lst n t by rw [show i = xs.length by omega, List.take_length]; exact HHA.out.map)
      have hii : ¬ ((i : Int) < (xs.length : Int)) := by omega
      rw [HE.out] at hrow ⊢
      have fsr := fs7.below hb
      have hsl := row_sl hrow (Nat.lt_of_le_of_lt (Nat.zero_le _) fsr.x.lt)
      clear hrow hi HSR hsp hsq hsm HNRD hnp hnq hnm
      obtain ⟨c0, c1, _, _⟩ := fsr.x.two
      obtain ⟨SLs, hSL⟩ : ∃ SLs, SLs = li (lst n t) := ⟨_, rfl⟩
      have HSL := hide hSL
      rw [← hSL] at hsl ⊢
      clear hSL
      go_wp2_with fail
      clear c0 c1 hm0r
      refine (HNR.out _ _ t fsr.bel HHA.out.good (by rw [← HSL.out]; exact hsl)).mono ?_
      rintro x w8 ⟨k1, k2, k3, ML, rfl, hml, hg2, hb8⟩
      have fs8 := fsr.below hb8
      clear fsr hb8 hsl HNR
      obtain ⟨w9, hw9⟩ : ∃ w9, w9 = w8.alloc (.cells #[.slice k1 k2 k3] 22) := ⟨_, rfl⟩
      have hb9 : Below w8.heap.size w8 w9 := by rw [hw9]; exact balloc w8 _
      have hM9 : Boxed w9 w8.heap.size 22 (.slice k1 k2 k3) := by rw [hw9]; exact Boxed.new w8 22 _
      have fs9 := fs8.below hb9
      have hml9 := hml.below hb9
      obtain ⟨f0, f1, f2, f3⟩ := fs9.f.two
      have hst := store_same f0 f1
      rw [hw9] at f0 f1 f2 f3 hst
      go_wp2_with fail
      rw [← hw9]
      clear f0 f1 f2 f3 hst hw9 fs8 hml hb9
      obtain ⟨c0, c1, _, _⟩ := fs9.x.two
      obtain ⟨f0, f1, f2, f3⟩ := fs9.f.two
      have hS : ∀ W9, Below w9.heap.size w9 W9 → (Below w9.heap.size w9 W9 ∧ W9.cell? ⟨w.heap.size, 0, none⟩ = some (.int .i64 n) ∧ W9.cell? ⟨w.heap.size, 1, none⟩ = some (.slice v1 v2 v3)) := fun W9 h => ⟨h, below_cell h c0, below_cell h c1⟩
      have hS0 := hS _ (bdrew (Below.refl _ w9))
      have hbox := fs9.f
      go_cut [14] (fun s14 wx => ∃ (a : Option Addr) (cc : Nat), s14 = .slice a n cc ∧ Below w9.heap.size w9 wx)
      case first =>
        clear c0 c1 f0 f1 f2 f3
        go_region_held3 (fun W9 => Below w9.heap.size w9 W9 ∧ W9.cell? ⟨w.heap.size, 0, none⟩ = some (.int .i64 n) ∧ W9.cell? ⟨w.heap.size, 1, none⟩ = some (.slice v1 v2 v3))
          (first | exact hS0 | assumption | exact hS _ (bcat2 (And.left ‹_›) hl6) | exact hS _ (bcat2 (And.left ‹_›) hl5) | (rw [store_same u0 u1]; exact hS _ hU6))
          (first
            | (go_at_call 13; refine (HTH.out _ _ _ _ _ _ _ _ _ _ (bcat2 fs9.bel (And.left ‹_›)) hg2 (Boxed.below hM9 (And.left ‹_›)) (fs9.below (And.left ‹_›)).nb (hml9.below (And.left ‹_›)) (fs9.below (And.left ‹_›)).sn).mono ?_; rintro e5 U5 ⟨a1, a2, a3, UL, rfl, ha5, hg3, hl5⟩; have hU5 := bcat2 (And.left ‹_›) hl5)
            | (go_at_call 12; refine (HMA.out _ _ _ (bcat2 fs9.bel (And.left ‹_›)) hg3 ha5).mono ?_; rintro e6 U6 ⟨q1, q3, rfl, hl6⟩; have hU6 := bcat2 (And.left ‹_›) hl6; have hbu := blk_below hbox hU6; obtain ⟨u0, u1, _, _⟩ := hbu.two))
        all_goals (go_wp2; go_meet)
        all_goals (rw [store_same u0 u1]; exact ⟨q1, q3, rfl, hU6⟩)
      case rest =>
        obtain ⟨qa, qc, rfl, hbx⟩ := hcut
        have fsx := fs9.below hbx
        clear c0 c1 f0 f1 f2 f3
        obtain ⟨c0, c1, _, _⟩ := fsx.x.two
        obtain ⟨f0, f1, f2, f3⟩ := fsx.f.two
        go_wp2
        go_ret
        exact ⟨rfl, fsx.bel⟩
end Go.Proofs.YtjiapicknkjhmaaDoor

namespace Go.Proofs.YtjiapicknkjhmaaDoor
open Go Go.RowKit

theorem slf_at {B : Nat} {W : World} {r : Value} {xs : List Nat} (h : SlF B W r (li xs)) : ∃ r1 r3, r = .slice r1 xs.length r3 ∧ Sl W (.slice r1 xs.length r3) (li xs) := by
  have hs := h.sl
  obtain ⟨a, cap, _, _, rfl, _⟩ := h
  rw [li_len] at hs ⊢
  exact ⟨a, cap, rfl, hs⟩
theorem sfra_good (n e p : Nat) (v1 : Option Addr) (v2 v3 : Nat) (u1 : Option Addr) (u2 u3 : Nat) (zs ls : List Int) (w : World) (hv : Sl w (.slice v1 v2 v3) zs) (hu : Sl w (.slice u1 u2 u3) ls) (hg : IsGrp n zs e) (hT : Tab w) (hpr : primeB p = true) (hl0 : lfault n ls = (0, 0)) :
    Calls Tryd.prog 3 #[.agg #[.int .i64 n, .slice v1 v2 v3], .int .i64 p, .slice u1 u2 u3] w fun e w' => e = .returned (.bool true) ∧ Below w.heap.size w w' := by
  have hn := hg.tab.le
  obtain ⟨c, hc⟩ := mkd_ex' n zs e (cloq n zs e (pset ls) n)
  have hN := clo_nsg hg hc
  have hcs : subT n zs e c = true := subT_iff.2 hN.sg
  have hh := part_grp hg hcs
  have hcl := lst_len n c
  refine sfra_walk n p (lst n c).length (li (lst n c)) (mkT (lst n c).length (parF n zs (lst n c))) (lst n c)
    (fun t => subT n zs e t = true ∧ ∀ x, x < n → ∃ u v, u < n ∧ v < n ∧ norq n zs e t u = true ∧ c v = true ∧ tm n zs u v = x)
    (fun ML => ∃ t : Nat → Bool, ML = li (lst n (norq n zs e t)) ∧ ∀ x, x < n → ∃ u v, u < n ∧ v < n ∧ norq n zs e t u = true ∧ c v = true ∧ tm n zs u v = x)
    (fun UL => ∃ q : Nat → Bool, UL = li (lst n q) ∧ ∀ x, x < n → Mkd n zs e (pset (li (lst n q))) x)
    v1 v2 v3 u1 u2 u3 w hT (hide (li_len _)) (hide fun i hi => ?_) (by omega) (hide fun W h => ?_) (hide fun W h => ?_) (hide fun W r1 r3 h hr => ?_) (hide fun W t1 t2 t3 h ht => ?_) (hide fun W u t h hG hu => ?_) (hide fun W a1 a2 a3 b1 b2 b3 bm bn ML h hG h1 h2 h3 h4 => ?_) (hide fun W r UL h hG hr => ?_)
  · rw [li_get hi, thing_eq hi]
  · have h1 := pf_ok n p (.slice v1 v2 v3) zs W (hv.below h)
    rwa [pfault_zero hg hpr] at h1
  · refine (clo_good n e (.slice v1 v2 v3) (.slice u1 u2 u3) zs ls c W (hv.below h) hg (hu.below h) (hT.below h) hl0 hc).mono ?_
    rintro x W' ⟨r, rfl, hr, hb⟩
    obtain ⟨r1, r3, rfl, hs⟩ := slf_at hr
    exact ⟨r1, r3, rfl, hs, hb⟩
  · exact part_of_lst n e (.slice v1 v2 v3) (.slice r1 (lst n c).length r3) zs c W (hv.below h) hg hr (hT.below h) hcs
  · refine (sall_nice (lst n c).length (place (lst n c) e) p (.slice t1 t2 t3) (mkT (lst n c).length (parF n zs (lst n c))) W ht hh (hT.below h) hpr).mono ?_
    rintro x W' ⟨g, cc, s, A, ms, rfl, HA, hR, hb⟩
    obtain ⟨a0, ha0, hm⟩ := HA.one (HA.pos hh.elt)
    have ha0 := HA.lt a0 ha0
    refine ⟨g, cc, ms, _, _, rfl, ⟨HA.pos hh.elt, ?_, hm, fun x hx => (mem_lst.1 hx).1, ?_, upt_lst, upt_sub hg hcs (cj_sg hh HA.gr.sub ha0), fun x hx => frat_arg hg hcs (fun x a hx ha h => hN.nm x a (List.mem_range.2 hx) (List.mem_range.2 ha) h) hpr HA ha0 hx⟩, hR, hb⟩
    · have := HA.fits
      omega
    · exact Nat.le_trans (lst_len _ _) (by omega)
  · refine (nor_lst n e (.slice v1 v2 v3) u zs t W (hv.below h) hg hu (hT.below h) hG.1).mono ?_
    rintro x W' ⟨a, cc, rfl, hs, hb⟩
    exact ⟨a, _, cc, _, rfl, hs, ⟨t, rfl, hG.2⟩, hb⟩
  · obtain ⟨t, rfl, hG⟩ := hG
    refine (those_sl (Nat.lt_of_lt_of_le hT.lt h.size) (rthose_ok n 14 (.slice v1 v2 v3) #[.pointer (some ⟨bm, 0, none⟩), .pointer (some ⟨bn, 0, none⟩)] (fun a : Nat => decide ((a : Int) ∈ li (lst n (norq n zs e t))) || decide ((a : Int) ∈ li (lst n c))) W hn (fun a W => call14 _ _ _ W) (fun W' a hb _ => ?_))).mono ?_
    · refine (fra1_ok bm bn a1 a2 a3 b1 b2 b3 _ _ a W' (Boxed.below h1 hb) (Boxed.below h2 hb) (h3.below hb) (h4.below hb)).mono ?_
      rintro x W2 ⟨rfl, rfl⟩
      exact ⟨rfl, Below.refl _ _⟩
    · rintro x W' ⟨r1, r2, r3, rfl, hs, hb⟩
      refine ⟨r1, r2, r3, _, rfl, hs, ⟨_, rfl, fun x hx => ?_⟩, hb⟩
      obtain ⟨u, v, hu, hv, h5, h6, rfl⟩ := hG x hx
      refine (Fin.Gen.sg _).mul u v (List.mem_range.2 hu) (List.mem_range.2 hv) (Fin.Gen.base (List.mem_range.2 hu) ?_) (Fin.Gen.base (List.mem_range.2 hv) ?_)
      · rw [pset_lst hu, Bool.or_eq_true, decide_eq_true_eq]
        exact .inl (mem_li.2 (mem_lst.2 ⟨hu, h5⟩))
      · rw [pset_lst hv, Bool.or_eq_true, decide_eq_true_eq]
        exact .inr (by rw [decide_eq_true_eq]; exact mem_li.2 (mem_lst.2 ⟨hv, h6⟩))
  · obtain ⟨q, rfl, hG⟩ := hG
    refine (mde_good n e (.slice v1 v2 v3) r zs (li (lst n q)) (fun _ => true) W (hv.below h) hg hr (hT.below h) (lst_fault n q) (fun a ha => ⟨fun _ => hG a ha, fun _ => rfl⟩)).mono ?_
    rintro x W' ⟨r, rfl, hr, hb⟩
    obtain ⟨r1, r3, rfl, hs⟩ := slf_at hr
    rw [show (lst n fun _ => true).length = n by rw [all_lst, List.length_range]] at hs ⊢
    exact ⟨r1, r3, rfl, hb⟩
theorem sfra_law (N p : Int) (v u : Value) (zs ls : List Int) (w : World) (hv : Sl w v zs) (hu : Sl w u ls) (hT : Tab w) :
    Calls Tryd.prog 3 #[.agg #[.int .i64 N, v], .int .i64 p, u] w fun e w' => e = .returned (.bool true) ∧ Below w.heap.size w w' := by
  obtain ⟨v1, v2, v3, rfl⟩ := hv.isSlice
  obtain ⟨u1, u2, u3, rfl⟩ := hu.isSlice
  by_cases hc : (pfault N zs p).1 = 0
  · obtain ⟨h1, hpr⟩ := pfault_good hc
    obtain ⟨n, e, rfl, hg, h0⟩ := gfault_grp h1
    have hb := of_decide_eq_true hpr
    obtain ⟨q, rfl⟩ : ∃ q : Nat, p = q := ⟨p.toNat, by omega⟩
    by_cases hlf : (lfault n ls).1 = 0
    · exact sfra_good n e q v1 v2 v3 u1 u2 u3 zs ls w hv hu hg hT hpr (lfault_zero hlf).1
    · exact sfra_bad2 n e q v1 v2 v3 (.slice u1 u2 u3) zs ls w hv hu hg hT hpr hlf
  · exact sfra_bad1 N p v1 v2 v3 _ zs w hv hT hc
end Go.Proofs.YtjiapicknkjhmaaDoor

namespace Go.Proofs.YtjiapicknkjhmaaDoor
open Go.ChangeShapes Go.WideShapes Go.ChangeAt Go.RowKit

theorem own : ownKnob Tryd.prog.godebug = none := by kernel_rfl
theorem laidOut : laidOutB Tryd.prog = true := by kernel_rfl

/-- A slice of ints that reads as zs; where nothing is in it, nothing is told of the memory. -/
def SlA (w : World) (v : Value) (zs : List Int) : Prop := ∃ a cap pb po, v = .slice a zs.length cap ∧ Reads w a pb po zs ∧ (0 < zs.length → pb < w.heap.size) ∧ zs.length ≤ cap ∧ cap ≤ maxLen
theorem SlA.up {w w' : World} {v : Value} {zs : List Int} (h : SlA w v zs) (hb : Below w.heap.size w w') (h0 : 0 < w'.heap.size) : Sl w' v zs := by
  obtain ⟨a, cap, pb, po, hv, hr, hp, h1, h2⟩ := h
  rcases Nat.eq_zero_or_pos zs.length with hz | hz
  · exact ⟨a, cap, 0, 0, hv, ⟨fun h => by omega, fun j hj => by omega⟩, h0, h1, h2⟩
  · exact ⟨a, cap, pb, po, hv, hr.below hb (hp hz), Nat.lt_of_lt_of_le (hp hz) hb.size, h1, h2⟩
theorem SlA.of {w : World} {v : Value} {zs : List Int} (h : Sl w v zs) : SlA w v zs := by
  obtain ⟨a, cap, pb, po, hv, hr, hp, h1, h2⟩ := h
  exact ⟨a, cap, pb, po, hv, hr, fun _ => hp, h1, h2⟩

theorem und24 : ∃ f0 f1 : Field, Tryd.prog.underlying 24 = some (.struct #[f0, f1]) ∧ f0.type = 3 ∧ f1.type = 22 ∧ f0.offset = 0 ∧ f1.offset = 1 := ⟨_, _, Tryd.underlying24, rfl, rfl, rfl, rfl⟩
theorem und3 : Tryd.prog.underlying 3 = some (.int .i64) := by kernel_rfl
theorem und22 : Tryd.prog.underlying 22 = some (.slice 3) := by kernel_rfl
theorem und4 : Tryd.prog.underlying 4 = some .bool := by kernel_rfl

set_option maxRecDepth 100000 in
/-- What is told of a table that came in. -/
theorem open_group {H : Type} {enc : TypeId × Value → H} {W : World} {b0 : Nat} {v : Value} {d : DataW H} {ps : List MemPlace} (hval : Value.okWide Tryd.prog W .any b0 24 v)
    (hd : DataW.Trod enc Tryd.prog W 0 (fun _ => true) true 24 v d ps) :
    ∃ N u zs, v = .agg #[.int .i64 N, u] ∧ SlA W u zs ∧ (Lit.int .i64 N).wf = true ∧ ((d.weights Tryd.prog 24).all (· ≤ reachBytes) = true → zs.length * 8 ≤ 140737488355328) := by
  obtain ⟨f0, f1, hu, ht0, ht1, ho0, ho1⟩ := und24
  obtain ⟨cs, rfl, hsz⟩ := okWide_struct hu hval
  rw [show Tryd.prog.cellsOf 24 = 2 by kernel_rfl] at hsz
  obtain ⟨l⟩ := cs
  match l, hsz with
  | [c0, c1], _ =>
  obtain ⟨fuel, hf⟩ := hd
  obtain ⟨y0, y1, m, hx, _, hy0, hy1⟩ := trod_struct2 hu hf
  rw [ht0, ho0, show Tryd.prog.cellsOf 3 = 1 by kernel_rfl] at hy0
  rw [ht1, ho1, show Tryd.prog.cellsOf 22 = 1 by kernel_rfl] at hy1
  obtain ⟨N, e0, rfl, wN⟩ := DataW.trod_int und3 hy0
  simp [Value.cells] at e0
  subst e0
  simp [Value.cells] at hy1
  rcases open_ints und22 und3 (by kernel_rfl) hy1 with ⟨hcs, _⟩ | ⟨x, l, c, zs, hcs, _, hl, hm, hz, heq, hcell, hwz⟩
  · simp at hcs
    subst hcs
    exact ⟨N, _, [], rfl, ⟨none, 0, 0, 0, rfl, ⟨by simp, by simp⟩, by simp, by simp, by unfold maxLen; omega⟩, wN, fun _ => by simp⟩
  · simp at hcs
    subst hcs
    have hzc : zs.length = c := by simpa using hz
    have hlen : (zs.take l).length = l := by rw [List.length_take]; omega
    refine ⟨N, _, zs.take l, rfl, ?_, wN, fun hw => ?_⟩
    · by_cases hpos : 0 < c
      · obtain ⟨b, o, rfl, hc'⟩ := ints_at hcell (by omega)
        refine ⟨some ⟨b, o, none⟩, c, b, o, by rw [hlen], ⟨fun _ => rfl, fun j hj => ?_⟩, fun _ => World.block_lt_of_cell? W _ (hc' 0 (by omega)), by omega, hm⟩
        rw [hlen] at hj
        rw [hc' j (by omega), List.getElem?_take, if_pos hj, List.getD_eq_getElem?_getD]
      · have : l = 0 := by omega
        subst this
        exact ⟨some x, c, 0, 0, by simp, ⟨by simp, by simp⟩, by simp, by simp, hm⟩
    · have hd : d = .agg [.lit (.int .i64 N), .slice (lits .i64 (zs.take l)) (lits .i64 (zs.drop l))] := by
        have h1 := congrArg Prod.fst hx
        simp only [heq] at h1
        exact h1
      have hw2 := List.all_eq_true.1 hw (((lits (H := H) .i64 (zs.take l)).length + (lits (H := H) .i64 (zs.drop l)).length) * Tryd.prog.bytesOf 3) (by
        rw [hd]; simp [DataW.weights, DataW.weightsEach, hu, ht0, ht1])
      rw [show Tryd.prog.bytesOf 3 = 8 by kernel_rfl] at hw2
      simp only [lits, List.length_map, decide_eq_true_eq] at hw2
      unfold reachBytes at hw2
      omega
end Go.Proofs.YtjiapicknkjhmaaDoor

namespace Go.Proofs.YtjiapicknkjhmaaDoor
open Go.ChangeShapes Go.WideShapes Go.ChangeAt Go.RowKit

/-- What the rows list. -/
def laid1 : List (String × DataW Unit) := Rows.sylowFrattiniRow.laid
def tabZ : List Int := Lib.deBruijn64tab.map fun (x : Nat) => (x : Int)
theorem tab_data : (Rows.laid_math_bits_deBruijn64tab : DataW Unit) = Lib.tabData .u8 tabZ := by kernel_rfl
/-- The door's own heap meets the condition. -/
theorem door_met (os : Os) (args : Array Value) : laidMetH Tryd.prog laid1 ((World.doorLaid Tryd.prog 400 os).forCall (fun _ _ => 0) ⟨#[], args, []⟩).memory :=
  laidMetH_of_parts3 (fuel := 8) (laidMet_of_run' 8 (by kernel_rfl) (by kernel_rfl)) (by kernel_rfl) (by kernel_rfl)
theorem tab_of_laid {W : World} (h : laidMetH Tryd.prog laid1 W) : Tab W := by
  rw [MakeChecks.laidMetH_plain _ _ _ (by kernel_rfl)] at h
  have h2 : laidMet Tryd.prog [("math/bits.deBruijn64tab", (Rows.laid_math_bits_deBruijn64tab : DataW Unit))] W := h
  rw [tab_data] at h2
  have hg : Tryd.prog.globalNamed "math/bits.deBruijn64tab" = some 0 := by kernel_rfl
  have hT := Lib.tabIs_of_head hg (t := 112) (e := 5) (n := 64) (by kernel_rfl) (by kernel_rfl) (by kernel_rfl) (by kernel_rfl) (by kernel_rfl) h2
  intro j hj
  have hj' : j < tabZ.length := by simpa [tabZ] using hj
  have hc := hT.cell hg j hj'
  rw [hc]
  simp [tabZ, hj]
set_option maxRecDepth 100000 in
/-- A list of ints that came in: its value, what it reads as, and its size. -/
theorem open_list {H : Type} {enc : TypeId × Value → H} {W : World} {b0 : Nat} {v : Value} {d : DataW H} {ps : List MemPlace} (hval : Value.okWide Tryd.prog W .any b0 22 v)
    (hd : DataW.Trod enc Tryd.prog W 0 (fun _ => true) true 22 v d ps) (h0 : 0 < W.heap.size) :
    ∃ zs, Sl W v zs ∧ ((d.weights Tryd.prog 22).all (· ≤ reachBytes) = true → zs.length * 8 ≤ 140737488355328) := by
  obtain ⟨a, len, cap, rfl⟩ := okWide_slice und22 hval
  obtain ⟨fuel, hf⟩ := hd
  rcases open_ints und22 und3 (by kernel_rfl) hf with ⟨hcs, _⟩ | ⟨x, l, c, zs, hcs, _, hl, hm, hz, heq, hcell, hwz⟩
  · simp [Value.cells] at hcs
    obtain ⟨rfl, rfl, rfl⟩ := hcs
    exact ⟨[], Sl.nil h0, fun _ => by simp⟩
  · simp [Value.cells] at hcs
    obtain ⟨rfl, rfl, rfl⟩ := hcs
    have hzc : zs.length = cap := by simpa using hz
    have hlen : (zs.take len).length = len := by rw [List.length_take]; omega
    refine ⟨zs.take len, ?_, fun hw => ?_⟩
    · by_cases hpos : 0 < cap
      · obtain ⟨b, o, rfl, hc'⟩ := ints_at hcell (by omega)
        refine ⟨some ⟨b, o, none⟩, cap, b, o, by rw [hlen], ⟨fun _ => rfl, fun j hj => ?_⟩, World.block_lt_of_cell? W _ (hc' 0 (by omega)), by omega, hm⟩
        rw [hlen] at hj
        rw [hc' j (by omega), List.getElem?_take, if_pos hj, List.getD_eq_getElem?_getD]
      · have : len = 0 := by omega
        subst this
        exact ⟨some x, cap, 0, 0, by simp, ⟨by simp, by simp⟩, h0, by simp, hm⟩
    · simp only [Prod.mk.injEq] at heq
      have hw2 := List.all_eq_true.1 hw (((lits (H := H) .i64 (zs.take len)).length + (lits (H := H) .i64 (zs.drop len)).length) * Tryd.prog.bytesOf 3) (by
        rw [heq.1]; simp [DataW.weights])
      rw [show Tryd.prog.bytesOf 3 = 8 by kernel_rfl] at hw2
      simp only [lits, List.length_map, decide_eq_true_eq] at hw2
      unfold reachBytes at hw2
      omega
end Go.Proofs.YtjiapicknkjhmaaDoor
