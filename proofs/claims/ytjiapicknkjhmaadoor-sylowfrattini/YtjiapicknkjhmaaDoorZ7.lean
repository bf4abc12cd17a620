/- Sylow's theorems: the conjugates of a subgroup of a power of p things that no thing makes a greater one are, one left out, a multiple of p; each subgroup of a power of p things is in one of them; each has as many things as the greatest power of p in how many there are; and how many they are, times how many things keep one, are all things. No condition. Sylow's subgroups by 2 of the square's group: it is all of it; so sylowBegun answers true. Condition: the library's table of places lies as its text lays it. What package sylow's Cauchy answers: at what is wrong, and at a group and a prime. Condition: the library's table of places lies as its text lays it. What the law SylowCauchy asks besides: listAs, primeFault, and its closures: the things of the order p. What primeFault answers: what is wrong with a table, then with p. The law SylowCauchy, walked: at what is wrong, and at a group and a prime; what it calls stands as premises. Condition: the library's table of places lies as its text lays it. The law SylowCauchy: at every table and every number it returns true. Condition: the library's table of places lies as its text lays it. What the law's powerIn answers: the greatest power of p that divides a number. The law SylowQuotients at what is wrong: true. Condition: the library's table of places lies as its text lays it. What All answers, as laws read it; Normal at a list of a set. Condition: the library's table of places lies as its text lays it. Normaliser at a subgroup. Condition: the library's table of places lies as its text lays it. Package quot's numbers and group: lists that are parts of a group, numbered. Package quot's Part: a subgroup as a group of its own. Condition: the library's table of places lies as its text lays it. A subgroup as a group of its own, as mathematics. -/
import Derived.Test.YtjiapicknkjhmaaDoorZ6
import Derived.Test.YtjiapicknkjhmaaDoorZ3
import Derived.Test.YtjiapicknkjhmaaDoorZ1
import Derived.Deep.DeepCutAuto
import Derived.Test.YtjiapicknkjhmaaDoorZ4
import Derived.Test.YtjiapicknkjhmaaDoorZ5
import Derived.BigQuiet
import Derived.Deep.AppendLies
import Derived.Deep.RegionLaw
import Derived.Laws.EntriesVeiled
import Derived.Maps.AppendAt
import Derived.Maps.Ext
import Derived.Maps.OwnOps
import Derived.Maps.OwnSet
namespace Go.Proofs.YtjiapicknkjhmaaDoor
variable {n e p : Nat} {zs : List Int} {s q : Nat → Bool}

/-- The number of a conjugate, and how a thing moves it. -/
abbrev fc (n : Nat) (zs : List Int) (e : Nat) (s : Nat → Bool) (a : Nat) : Nat := bs (cjq n zs e s a) n
def tq (n : Nat) (zs : List Int) (e : Nat) (c x : Nat) : Nat := bs (cjq n zs e (fun y => c.testBit y) x) n
theorem tq_bs {x : Nat} : tq n zs e (bs q n) x = bs (cjq n zs e q x) n := by
  have h : lst n (fun y => (bs q n).testBit y) = lst n q := lst_congr fun y hy => by rw [bs_bit]; simp [hy]
  unfold tq cjq
  rw [h]
theorem tq_fc (g : IsGrp n zs e) {a x : Nat} (ha : a < n) (hx : x < n) : tq n zs e (fc n zs e s a) x = fc n zs e s (tm n zs a x) := by
  rw [tq_bs]
  exact cjq_twice g ha hx
theorem cjq_e (g : IsGrp n zs e) : bs (cjq n zs e s e) n = bs s n := by
  have F := grp_fg g
  have V := grp_iv g
  refine bs_ext fun y hy => ?_
  rw [Bool.eq_iff_iff, cjq_iff]
  constructor
  · rintro ⟨x, hx, h1, rfl⟩
    rwa [Fin.cj_id F V hx]
  · intro h
    exact ⟨y, List.mem_range.2 hy, h, Fin.cj_id F V (List.mem_range.2 hy)⟩
theorem cj_sg (g : IsGrp n zs e) (hq : subT n zs e q = true) {b : Nat} (hb : b < n) : subT n zs e (cjq n zs e q b) = true := by
  have F := grp_fg g
  have V := grp_iv g
  have S := subT_iff.1 hq
  have hb' := List.mem_range.2 hb
  refine subT_iff.2 ⟨cjq_iff.2 ⟨e, F.one, S.one, Fin.cj_one F V hb'⟩, fun x y hx hy h1 h2 => ?_⟩
  obtain ⟨u, hu, k1, rfl⟩ := cjq_iff.1 h1
  obtain ⟨v, hv, k2, rfl⟩ := cjq_iff.1 h2
  exact cjq_iff.2 ⟨tm n zs u v, F.cl _ _ hu hv, S.mul u v hu hv k1 k2, Fin.cj_mul F V hu hv hb'⟩
theorem lst_nd (n : Nat) (q : Nat → Bool) : (lst n q).Nodup := List.nodup_range.sublist List.filter_sublist
theorem cj_len (g : IsGrp n zs e) {b : Nat} (hb : b < n) : (lst n (cjq n zs e q b)).length = (lst n q).length := by
  have F := grp_fg g
  have V := grp_iv g
  have hb' := List.mem_range.2 hb
  symm
  refine Fin.bij_len (fun x => Fin.cj (tm n zs) (iv n zs e) x b) (lst_nd n q) (lst_nd n _) (fun x hx => ?_) (fun x y hx hy h => ?_) (fun y hy => ?_)
  · obtain ⟨h1, h2⟩ := mem_lst.1 hx
    exact mem_lst.2 ⟨List.mem_range.1 (Fin.cj_mem F V (List.mem_range.2 h1) hb'), cjq_iff.2 ⟨x, List.mem_range.2 h1, h2, rfl⟩⟩
  · have h1 := (Fin.cj_back F V (List.mem_range.2 (mem_lst.1 hx).1) hb').1
    have h2 := (Fin.cj_back F V (List.mem_range.2 (mem_lst.1 hy).1) hb').1
    have h : Fin.cj (tm n zs) (iv n zs e) x b = Fin.cj (tm n zs) (iv n zs e) y b := h
    rw [← h1, h, h2]
  · obtain ⟨h1, h2⟩ := mem_lst.1 hy
    obtain ⟨x, hx, k, rfl⟩ := cjq_iff.1 h2
    exact ⟨x, mem_lst.2 ⟨List.mem_range.1 hx, k⟩, rfl⟩
/-- A subgroup of a power of p things that keeps a greatest one is in it. -/
theorem norm_in (g : IsGrp n zs e) (hpr : primeB p = true) (hG : Grown n zs e p s) (hq : subT n zs e q = true) (hpw : isPw (lst n q).length p)
    (hno : ∀ x, x < n → q x = true → bs (cjq n zs e s x) n = bs s n) {x : Nat} (hx : x < n) (hqx : q x = true) : s x = true := by
  have F := grp_fg g
  have V := grp_iv g
  have S := subT_iff.1 hG.sub
  have Q := subT_iff.1 hq
  obtain ⟨r, hr⟩ := Fin.test_of (fun x => ∃ a b, a ∈ List.range n ∧ b ∈ List.range n ∧ q a = true ∧ s b = true ∧ tm n zs a b = x)
  have hnc : ∀ a b, a ∈ List.range n → b ∈ List.range n → q a = true → s b = true → s (Fin.cj (tm n zs) (iv n zs e) b a) = true := fun a b ha hb h1 h2 => by
    have hm := Fin.cj_mem F V hb ha
    rw [← bs_inj (hno a (List.mem_range.1 ha) h1) _ (List.mem_range.1 hm)]
    exact cjq_iff.2 ⟨b, hb, h2, rfl⟩
  have R : Fin.Sg (List.range n) (tm n zs) e (fun a => r a = true) := by
    refine ⟨(hr e).2 ⟨e, e, F.one, F.one, Q.one, S.one, F.left e F.one⟩, fun y z hy hz h1 h2 => ?_⟩
    obtain ⟨a, b, ha, hb, k1, k2, rfl⟩ := (hr y).1 h1
    obtain ⟨c, d, hc, hd, k3, k4, rfl⟩ := (hr z).1 h2
    have hcm := Fin.cj_mem F V hb hc
    refine (hr _).2 ⟨tm n zs a c, tm n zs (Fin.cj (tm n zs) (iv n zs e) b c) d, F.cl _ _ ha hc, F.cl _ _ hcm hd, Q.mul a c ha hc k1 k3, S.mul _ _ hcm hd (hnc c b hc hb k3 k2) k4, ?_⟩
    rw [F.ass _ _ _ ha hc (F.cl _ _ hcm hd), ← F.ass _ _ _ hc hcm hd, Fin.cj_eq F V hb hc, F.ass _ _ _ hb hc hd, ← F.ass _ _ _ ha hb (F.cl _ _ hc hd)]
  have hlen := Fin.prod_formula F (N := n) (fun x hx => List.mem_range.1 hx) Q S r (fun x _ => hr x)
  obtain ⟨i, hi⟩ := hpw
  obtain ⟨j, hj⟩ := hG.pow
  have hrp : isPw (lst n r).length p := dvd_pw (prime_of hpr) (i + j) _ ⟨_, by rw [Nat.pow_add, ← hi, ← hj]; exact hlen.symm⟩
  obtain ⟨t, ht⟩ := mkd_ex' n zs e (fun y => s y || decide (y = x))
  have T := made_sg g ht
  have h1 : t x = true := (ht x hx).2 (Fin.Gen.base (List.mem_range.2 hx) (by simp))
  rcases hG.top x t hx ht with h2 | h2
  · rw [← bs_inj h2 x hx]; exact h1
  · exfalso
    apply h2
    obtain ⟨k, hk⟩ := hrp
    refine dvd_pw (prime_of hpr) k _ ?_
    rw [← hk]
    refine Fin.lagr (Fin.sg_fg F R) (Fin.sg_fg F T) (fun y hy => ?_)
    obtain ⟨hy1, hy2⟩ := List.mem_filter.1 hy
    refine List.mem_filter.2 ⟨hy1, Fin.Gen.least R (fun z hz h3 => ?_) ((ht y (List.mem_range.1 hy1)).1 hy2)⟩
    simp only [Bool.or_eq_true, decide_eq_true_eq] at h3
    rcases h3 with h3 | h3
    · exact (hr z).2 ⟨e, z, F.one, hz, Q.one, h3, F.left z hz⟩
    · subst h3
      exact (hr z).2 ⟨z, e, hz, F.one, hqx, S.one, F.right z hz⟩
theorem mv_conj (g : IsGrp n zs e) {X : List Nat} (hX : ∀ c, c ∈ X ↔ ∃ a, a < n ∧ fc n zs e s a = c) {P : List Nat} (hP : ∀ x, x ∈ P → x < n) : Fin.Mv P X (tm n zs) e (tq n zs e) where
  mem := fun c x hc hx => by
    obtain ⟨a, ha, rfl⟩ := (hX c).1 hc
    rw [tq_fc g ha (hP x hx)]
    exact (hX _).2 ⟨_, tm_lt g.tab ha (hP x hx), rfl⟩
  one := fun c hc => by
    obtain ⟨a, ha, rfl⟩ := (hX c).1 hc
    rw [tq_fc g ha g.elt, (grp_fg g).right a (List.mem_range.2 ha)]
  mul := fun c x y hc hx hy => by
    obtain ⟨a, ha, rfl⟩ := (hX c).1 hc
    rw [tq_fc g ha (hP x hx), tq_fc g (tm_lt g.tab ha (hP x hx)) (hP y hy), tq_fc g ha (tm_lt g.tab (hP x hx) (hP y hy)), (grp_fg g).ass _ _ _ (List.mem_range.2 ha) (List.mem_range.2 (hP x hx)) (List.mem_range.2 (hP y hy))]
theorem fix_in (g : IsGrp n zs e) (hpr : primeB p = true) (hG : Grown n zs e p s) (hq : subT n zs e q = true) (hpw : isPw (lst n q).length p) {a : Nat} (ha : a < n)
    (hf : Fin.fixB (lst n q) (tq n zs e) (fc n zs e s a) = true) {x : Nat} (hx : x < n) (hqx : q x = true) : cjq n zs e s a x = true := by
  have F := grp_fg g
  have V := grp_iv g
  have ha' := List.mem_range.2 ha
  have hi := (V a ha').1
  have hil := List.mem_range.1 hi
  have h0 := Fin.fixB_iff.1 hf
  have hii : a = iv n zs e (iv n zs e a) := iv_only g hil ha (V a ha').2.2
  have key : ∀ y, y < n → cjq n zs e q (iv n zs e a) y = true → bs (cjq n zs e s y) n = bs s n := fun y hy h1 => by
    obtain ⟨z, hz, k1, rfl⟩ := cjq_iff.1 h1
    have hzl := List.mem_range.1 hz
    have h2 := h0 z (mem_lst.2 ⟨hzl, k1⟩)
    rw [tq_fc g ha hzl] at h2
    have h3 : Fin.cj (tm n zs) (iv n zs e) z (iv n zs e a) = tm n zs (tm n zs a z) (iv n zs e a) := by
      show tm n zs (iv n zs e (iv n zs e a)) (tm n zs z (iv n zs e a)) = _
      rw [← hii, F.ass _ _ _ ha' hz hi]
    rw [h3, ← cjq_twice g (tm_lt g.tab ha hzl) hil, ← tq_bs]
    show tq n zs e (fc n zs e s (tm n zs a z)) _ = _
    rw [h2, tq_fc g ha hil, (V a ha').2.1]
    exact cjq_e g
  have hm := Fin.cj_mem F V (List.mem_range.2 hx) hi
  have h5 := norm_in g hpr hG (cj_sg g hq hil) (by rw [cj_len g hil]; exact hpw) key (List.mem_range.1 hm) (cjq_iff.2 ⟨x, List.mem_range.2 hx, hqx, rfl⟩)
  exact cjq_iff.2 ⟨_, hm, h5, (Fin.cj_back F V (List.mem_range.2 hx) ha').2⟩
theorem syl_mod (g : IsGrp n zs e) (hpr : primeB p = true) (hG : Grown n zs e p s) {X : List Nat} (hnd : X.Nodup) (hX : ∀ c, c ∈ X ↔ ∃ a, a < n ∧ fc n zs e s a = c) : X.length % p = 1 := by
  have F := grp_fg g
  have V := grp_iv g
  have S := subT_iff.1 hG.sub
  have M := mv_conj g hX (P := lst n s) (fun x hx => (mem_lst.1 hx).1)
  rw [Fin.fix_mod (P := lst n s) (prime_of hpr) (Fin.sg_fg F S) M hnd hG.pow]
  have h1 := nodup_len (X.filter (Fin.fixB (lst n s) (tq n zs e))) [bs s n] (hnd.filter _) (fun c hc => by
    obtain ⟨h1, h2⟩ := List.mem_filter.1 hc
    obtain ⟨a, ha, rfl⟩ := (hX c).1 h1
    have h3 : ∀ x, x < n → s x = true → cjq n zs e s a x = true := fun x hx hs => fix_in g hpr hG hG.sub hG.pow ha h2 hx hs
    have h4 := (lst_less h3).2
    rw [cj_len g ha] at h4
    rw [List.mem_singleton]
    refine bs_ext fun x hx => ?_
    rw [Bool.eq_iff_iff]
    refine ⟨fun h5 => Classical.byContradiction fun h6 => ?_, h3 x hx⟩
    exact absurd (h4 ⟨x, hx, h5, h6⟩) (by omega))
  have h2 := nodup_len [bs s n] (X.filter (Fin.fixB (lst n s) (tq n zs e))) (by simp) (fun c hc => by
    rw [List.mem_singleton] at hc
    subst hc
    refine List.mem_filter.2 ⟨(hX _).2 ⟨e, g.elt, cjq_e g⟩, Fin.fixB_iff.2 fun x hx => ?_⟩
    obtain ⟨hx1, hx2⟩ := mem_lst.1 hx
    rw [tq_bs]
    exact of_decide_eq_true ((nor_iff x).2 (Fin.nor_sub F V S (List.mem_range.2 hx1) hx2)))
  have h3 : (X.filter (Fin.fixB (lst n s) (tq n zs e))).length = 1 := by simp at h1 h2 ⊢; omega
  rw [h3]
  exact Nat.mod_eq_of_lt (prime_of hpr).1
theorem syl_in (g : IsGrp n zs e) (hpr : primeB p = true) (hG : Grown n zs e p s) {X : List Nat} (hnd : X.Nodup) (hX : ∀ c, c ∈ X ↔ ∃ a, a < n ∧ fc n zs e s a = c)
    (hq : subT n zs e q = true) (hpw : isPw (lst n q).length p) : ∃ c a, c ∈ X ∧ a < n ∧ fc n zs e s a = c ∧ ∀ x, x < n → q x = true → cjq n zs e s a x = true := by
  have M := mv_conj g hX (P := lst n q) (fun x hx => (mem_lst.1 hx).1)
  have h1 := Fin.fix_mod (P := lst n q) (prime_of hpr) (Fin.sg_fg (grp_fg g) (subT_iff.1 hq)) M hnd hpw
  rw [syl_mod g hpr hG hnd hX] at h1
  have h2 : (X.filter (Fin.fixB (lst n q) (tq n zs e))).length ≠ 0 := fun h => by rw [h, Nat.zero_mod] at h1; omega
  obtain ⟨c, hc⟩ := List.exists_mem_of_length_pos (Nat.pos_of_ne_zero h2)
  obtain ⟨h3, h4⟩ := List.mem_filter.1 hc
  obtain ⟨a, ha, rfl⟩ := (hX c).1 h3
  exact ⟨_, a, h3, ha, rfl, fun x hx h5 => fix_in g hpr hG hq hpw ha h4 hx h5⟩
theorem syl_nor (g : IsGrp n zs e) {X : List Nat} (hnd : X.Nodup) (hX : ∀ c, c ∈ X ↔ ∃ a, a < n ∧ fc n zs e s a = c) {c : Nat} (hc : c < n) : n = X.length * (lst n (norq n zs e (cjq n zs e s c))).length := by
  have F := grp_fg g
  have V := grp_iv g
  have hc' := List.mem_range.2 hc
  have hi := (V c hc').1
  have M := mv_conj g hX (P := List.range n) (fun x hx => List.mem_range.1 hx)
  have h1 := Fin.orb_len F M hnd ((hX _).2 ⟨c, hc, rfl⟩)
  rw [List.length_range] at h1
  have h2 : X.filter (Fin.orbB (List.range n) (tq n zs e) (fc n zs e s c)) = X := List.filter_eq_self.2 fun d hd => by
    obtain ⟨a, ha, rfl⟩ := (hX d).1 hd
    have ha' := List.mem_range.2 ha
    have hm := F.cl _ _ hi ha'
    refine Fin.orbB_iff.2 ⟨tm n zs (iv n zs e c) a, hm, ?_⟩
    rw [tq_fc g hc (List.mem_range.1 hm), ← F.ass _ _ _ hc' hi ha', (V c hc').2.1, F.left a ha']
  have h3 : (List.range n).filter (fun x => decide (tq n zs e (fc n zs e s c) x = fc n zs e s c)) = lst n (norq n zs e (cjq n zs e s c)) := Fin.filter_eq fun x hx => by
    unfold norq
    rw [tq_bs]
  rw [h2, h3] at h1
  exact h1
theorem nor_sgq (g : IsGrp n zs e) : Fin.Sg (List.range n) (tm n zs) e (fun a => norq n zs e s a = true) := by
  refine ⟨decide_eq_true (cjq_e g), fun a b ha hb h1 h2 => decide_eq_true ?_⟩
  have h1 := of_decide_eq_true h1
  have h2 := of_decide_eq_true h2
  rw [← cjq_twice g (List.mem_range.1 ha) (List.mem_range.1 hb), ← tq_bs, h1, tq_bs, h2]
theorem strip (hp : 2 ≤ p) : ∀ k, 0 < k → ∃ v b, k = v * p ^ b ∧ ¬ p ∣ v := by
  intro k
  induction k using Nat.strongRecOn with
  | _ k ih =>
    intro hk
    by_cases h : p ∣ k
    · obtain ⟨c, rfl⟩ := h
      have hc : 0 < c := Nat.pos_of_ne_zero fun h => by subst h; omega
      obtain ⟨v, b, h1, h2⟩ := ih c (by have := Nat.mul_le_mul_right c hp; omega) hc
      exact ⟨v, b + 1, by rw [h1, Nat.pow_succ]; simp [Nat.mul_comm, Nat.mul_left_comm], h2⟩
    · exact ⟨k, 0, by simp, h⟩
theorem pp_dvd (hp : 2 ≤ p ∧ ∀ d, d ∣ p → d = 1 ∨ d = p) {v k b : Nat} (hv : ¬ p ∣ v) (h : p ^ k ∣ v * p ^ b) : p ^ k ∣ p ^ b := by
  have hco : Nat.Coprime v p := by
    rcases hp.2 _ (Nat.gcd_dvd_right v p) with h1 | h1
    · exact h1
    · exact absurd (h1 ▸ Nat.gcd_dvd_left v p) hv
  exact (Nat.Coprime.pow_left k hco.symm).dvd_of_dvd_mul_left h
theorem pp_only (hp : 2 ≤ p ∧ ∀ d, d ∣ p → d = 1 ∨ d = p) {v u k b : Nat} (hv : ¬ p ∣ v) (hu : ¬ p ∣ u) (h : u * p ^ k = v * p ^ b) : p ^ k = p ^ b :=
  Nat.dvd_antisymm (pp_dvd hp hv ⟨u, by rw [← h, Nat.mul_comm]⟩) (pp_dvd hp hu ⟨v, by rw [h, Nat.mul_comm]⟩)
theorem not_dvd_mul (hp : 2 ≤ p ∧ ∀ d, d ∣ p → d = 1 ∨ d = p) {v u : Nat} (hv : ¬ p ∣ v) (hu : ¬ p ∣ u) : ¬ p ∣ u * v := fun h => by
  have hco : Nat.Coprime v p := by
    rcases hp.2 _ (Nat.gcd_dvd_right v p) with h1 | h1
    · exact h1
    · exact absurd (h1 ▸ Nat.gcd_dvd_left v p) hv
  exact hu (hco.symm.dvd_of_dvd_mul_right h)
theorem syl_len (g : IsGrp n zs e) (hpr : primeB p = true) (hG : Grown n zs e p s) {X : List Nat} (hnd : X.Nodup) (hX : ∀ c, c ∈ X ↔ ∃ a, a < n ∧ fc n zs e s a = c) :
    ∃ v, n = X.length * v * (lst n s).length ∧ ¬ p ∣ X.length * v := by
  have F := grp_fg g
  have V := grp_iv g
  have S := subT_iff.1 hG.sub
  have hp := prime_of hpr
  have h0 := syl_nor g hnd hX g.elt
  have hsame : lst n (norq n zs e (cjq n zs e s e)) = lst n (norq n zs e s) := by
    have h1 : lst n (cjq n zs e s e) = lst n s := lst_congr (bs_inj (cjq_e g))
    refine lst_congr fun a _ => ?_
    unfold norq
    rw [cjq_e g]
    unfold cjq at h1 ⊢
    rw [h1]
  rw [hsame] at h0
  have FM := Fin.sg_fg F (nor_sgq (s := s) g)
  obtain ⟨v, b, h1, h2⟩ := strip hp.1 _ FM.pos
  obtain ⟨k, hk⟩ := hG.pow
  have hsM : ∀ x, x ∈ lst n s → x ∈ (List.range n).filter (fun a => norq n zs e s a) := fun x hx => by
    obtain ⟨hx1, hx2⟩ := mem_lst.1 hx
    exact List.mem_filter.2 ⟨List.mem_range.2 hx1, (nor_iff x).2 (Fin.nor_sub F V S (List.mem_range.2 hx1) hx2)⟩
  have hdk : p ^ k ∣ p ^ b := pp_dvd hp h2 (by rw [← h1, ← hk]; exact Fin.lagr FM (Fin.sg_fg F S) hsM)
  have hfr := Fin.frob _ _ _ _ FM rfl (p ^ b) ⟨v, by rw [h1, Nat.mul_comm]⟩
  have hcnt : Fin.cnt ((List.range n).filter fun a => norq n zs e s a) (tm n zs) e (p ^ b) = (lst n s).length := by
    unfold Fin.cnt
    refine Nat.le_antisymm (nodup_len _ _ (FM.nd.filter _) fun x hx => ?_) (nodup_len _ _ (lst_nd n s) fun x hx => ?_)
    · obtain ⟨hx1, hx2⟩ := List.mem_filter.1 hx
      obtain ⟨hx3, hx4⟩ := List.mem_filter.1 hx1
      have hxl := List.mem_range.1 hx3
      have hxo := (ord_iff g hxl _).1 (of_decide_eq_true hx2)
      have hm1 : mk1 n zs e x x = true := (mk1_iff n zs e x x hxl).2 (Fin.Gen.base hx3 (by simp))
      refine mem_lst.2 ⟨hxl, norm_in g hpr hG (subT_iff.2 (made_sg g (mk1_iff n zs e x))) (by rw [mk1_len g hxl]; exact dvd_pw hp b _ hxo) (fun y hy hy1 => ?_) hxl hm1⟩
      have h5 := Fin.Gen.least (nor_sgq (s := s) g) (fun z hz h6 => by
        have h6 : z = x := of_decide_eq_true h6
        rw [h6]; exact hx4) ((mk1_iff n zs e x y hy).1 hy1)
      exact of_decide_eq_true h5
    · obtain ⟨hx1, hx2⟩ := mem_lst.1 hx
      refine List.mem_filter.2 ⟨hsM x hx, decide_eq_true ((ord_iff g hx1 _).2 (Nat.dvd_trans ?_ hdk))⟩
      rw [← hk]
      exact (ord_iff g hx1 _).1 (Fin.po_len (Fin.sg_fg F S) hx)
  rw [hcnt, hk] at hfr
  have hbk := Nat.dvd_antisymm hdk hfr
  refine ⟨v, ?_, ?_⟩
  · rw [hk, hbk, Nat.mul_assoc, ← h1]
    exact h0
  · refine not_dvd_mul hp h2 fun h3 => ?_
    have h4 := syl_mod g hpr hG hnd hX
    rw [Nat.mod_eq_zero_of_dvd h3] at h4
    omega
end Go.Proofs.YtjiapicknkjhmaaDoor

namespace Go.Proofs.YtjiapicknkjhmaaDoor
open Go Go.RowKit

theorem sub_dvd {n e : Nat} {zs : List Int} {p : Nat → Bool} (g : IsGrp n zs e) (h : subT n zs e p = true) : (lst n p).length ∣ n := by
  have S := subT_iff.1 h
  have := Fin.sg_dvd (grp_fg g) S
  rwa [List.length_range] at this
theorem mkd_sub {n e : Nat} {zs : List Int} {q r : Nat → Bool} (g : IsGrp n zs e) (hr : ∀ x, x < n → (r x = true ↔ Mkd n zs e q x)) : subT n zs e r = true :=
  subT_iff.2 ⟨(hr e g.elt).2 (Fin.Gen.sg _).one, fun a b ha hb h1 h2 => (hr _ (tm_lt g.tab (List.mem_range.1 ha) (List.mem_range.1 hb))).2 ((Fin.Gen.sg _).mul a b ha hb ((hr a (List.mem_range.1 ha)).1 h1) ((hr b (List.mem_range.1 hb)).1 h2))⟩
theorem dvd8 : ∀ L, L ≤ 8 → L ∣ 8 → L = 2 ^ 0 ∨ L = 2 ^ 1 ∨ L = 2 ^ 2 ∨ L = 2 ^ 3 := by decide
theorem whole_grown {e : Nat} {zs : List Int} {s : Nat → Bool} (g : IsGrp 8 zs e) (h : Grown 8 zs e 2 s) : ∀ a, a < 8 → s a = true := by
  intro a ha
  refine Classical.byContradiction fun h9 => ?_
  obtain ⟨q, hq⟩ := mkd_ex' 8 zs e (fun y => s y || decide (y = a))
  rcases h.top a q ha hq with h1 | h1
  · have h2 := bs_inj h1 a ha
    rw [(hq a ha).2 (Fin.Gen.base (List.mem_range.2 ha) (by simp))] at h2
    exact h9 h2.symm
  · have h2 := sub_dvd g (mkd_sub g hq)
    rcases dvd8 _ (Nat.le_of_dvd (by omega) h2) h2 with h3 | h3 | h3 | h3
    · exact h1 ⟨_, h3⟩
    · exact h1 ⟨_, h3⟩
    · exact h1 ⟨_, h3⟩
    · exact h1 ⟨_, h3⟩
theorem sq_cj : ∀ a, a < 8 → lst 8 (cjq 8 sqT 0 (fun _ => true) a) = List.range 8 := by decide +kernel
theorem cjq_all {s : Nat → Bool} (h : ∀ a, a < 8 → s a = true) (a : Nat) : cjq 8 sqT 0 s a = cjq 8 sqT 0 (fun _ => true) a := by
  unfold cjq
  rw [lst_congr (q := fun _ => true) (fun x hx => h x hx)]
set_option maxRecDepth 100000 in
set_option maxHeartbeats 4000000 in
theorem sylowBegun_any (w : World) (hT : Tab w) : Calls Tryd.prog 6 #[] w fun x w' => x = .returned (.bool true) ∧ Below w.heap.size w w' := by
  go_enter Tryd.func6, Tryd.ntmps6
  go_wp2_with fail
  refine (square_ok w).mono ?_
  rintro x w1 ⟨r, rfl, hrow, hb1⟩
  obtain ⟨rx, rcap, rfl⟩ := own_slice hrow
  have hs1 := row_sl hrow (Nat.lt_of_lt_of_le hT.lt hb1.size)
  have hT1 := hT.below hb1
  go_wp2_with fail
  refine (sall_good 8 0 2 _ sqT w1 hs1 sqT_grp hT1 (by decide)).mono ?_
  rintro x w2 ⟨r1, r2, r3, s, A, ms, rfl, hgr, hA, hnd, hall, hpm, _, ⟨B, us, hB, hul, hown, hls⟩, hb2⟩
  have hw := whole_grown sqT_grp hgr
  have hsame : ∀ a b, a < 8 → b < 8 → bs (cjq 8 sqT 0 s a) 8 = bs (cjq 8 sqT 0 s b) 8 := fun a b ha hb => by
    rw [cjq_all hw a, cjq_all hw b]
    refine bs_ext fun x hx => ?_
    have h1 : x ∈ lst 8 (cjq 8 sqT 0 (fun _ => true) a) := by rw [sq_cj a ha]; exact List.mem_range.2 hx
    have h2 : x ∈ lst 8 (cjq 8 sqT 0 (fun _ => true) b) := by rw [sq_cj b hb]; exact List.mem_range.2 hx
    rw [(mem_lst.1 h1).2, (mem_lst.1 h2).2]
  obtain ⟨a, hA1, ha⟩ : ∃ a, A = [a] ∧ a < 8 := by
    match A, hA, hnd, hall with
    | [], _, _, hall => exact absurd (hall 0 (by omega)) (by simp)
    | [a], hA, _, _ => exact ⟨a, rfl, hA a (by simp)⟩
    | a :: b :: A, hA, hnd, _ =>
      rw [List.map_cons, List.map_cons, List.nodup_cons] at hnd
      exact absurd (by rw [hsame a b (hA a (by simp)) (hA b (by simp))]; simp) hnd.1
  subst hA1
  have hms : ms = [li (List.range 8)] := by
    rw [List.map_cons, List.map_nil, cjq_all hw a, sq_cj a ha] at hpm
    exact List.perm_singleton.1 hpm
  subst hms
  have hr2 : r2 = 1 := by rw [← hul, hls.1]; rfl
  subst hr2
  obtain ⟨x9, hx9⟩ : ∃ x9, us = [x9] := by
    match us, hul with
    | [x9], _ => exact ⟨x9, rfl⟩
  subst hx9
  obtain ⟨qa, qcap, qb, qo, rfl, _⟩ := hls.2 0 x9 (li (List.range 8)) rfl rfl
  obtain ⟨g, rfl⟩ : ∃ g, r1 = some ⟨g, 0, none⟩ := by
    rcases hown.2 with ⟨h1, h2⟩ | ⟨g', cap, cur, h1, _⟩
    · omega
    · injection h1 with h1; exact ⟨g', h1⟩
  have hc := hown.cells (g := g) rfl 0 _ rfl
  rw [show (⟨g, 0, none⟩ : Addr).add 0 = ⟨g, 0, none⟩ by rfl] at hc
  have hF := blk0 (w := w2) (T := 27) (.int .i64 0) (.int .i64 0)
  have hb3 := balloc w2 (.cells #[.int .i64 0, .int .i64 0] 27)
  have hB3 := bcat2 (bcat2 hb1 hb2) hb3
  have hc3 := below_cell hb3 hc
  have hl8 : (li (List.range 8)).length = 8 := rfl
  rw [hl8] at hc3
  obtain ⟨f0, f1, _, _⟩ := hF.two
  clear hgr hA hnd hall hpm hown hls hw hsame hrow hs1
  go_wp2
  go_ret
  exact ⟨rfl, hB3⟩
end Go.Proofs.YtjiapicknkjhmaaDoor

namespace Go.Proofs.YtjiapicknkjhmaaDoor
open Go Go.RowKit

/-- What lies where Cauchy begins: the table, p, the fault to be answered. -/
structure BegC (w w0 : World) (N p : Int) (v : Value) : Prop where
  eq : w0 = ((w.alloc (.cells #[.int .i64 N, v] 24)).alloc (.cells #[.int .i64 p] 3)).alloc (.cells #[.int .i64 0, .int .i64 0] 27)
  bel : Below w.heap.size w w0
  box : Blk w0 w.heap.size 24 [.int .i64 N, v]
  pri : Boxed w0 (w.heap.size + 1) 3 (.int .i64 p)
  res : Blk w0 (w.heap.size + 2) 27 [.int .i64 0, .int .i64 0]
  size : w0.heap.size = w.heap.size + 3
theorem BegC.new (w : World) (N p : Int) (v : Value) : ∃ w0, BegC w w0 N p v := by
  refine ⟨_, rfl, ((balloc w _).alloc (by simp) _).alloc (by simp; omega) _, ((blk0 _ _).alloc _).alloc _, ?_, ?_, by simp⟩
  · have := (Boxed.new (w.alloc (.cells #[.int .i64 N, v] 24)) 3 (.int .i64 p)).alloc (.cells #[.int .i64 0, .int .i64 0] 27)
    simpa using this
  · have := blk0 (w := (w.alloc (.cells #[.int .i64 N, v] 24)).alloc (.cells #[.int .i64 p] 3)) (T := 27) (.int .i64 0) (.int .i64 0)
    simpa using this
end Go.Proofs.YtjiapicknkjhmaaDoor

namespace Go.Proofs.YtjiapicknkjhmaaDoor
open Go Go.RowKit

/-- What is wrong with a table and a prime. -/
def pfault (N : Int) (zs : List Int) (p : Int) : Int × Int := if (gfault N zs).1 = 0 ∧ primeB p = false then (3, 1) else gfault N zs
end Go.Proofs.YtjiapicknkjhmaaDoor

namespace Go.Proofs.YtjiapicknkjhmaaDoor
open Go Go.RowKit

set_option maxRecDepth 100000 in
set_option maxHeartbeats 4000000 in
theorem pf_ok (N p : Int) (v : Value) (zs : List Int) (w : World) (hv : Sl w v zs) :
    Calls Tryd.prog 7 #[.agg #[.int .i64 N, v], .int .i64 p] w fun x w' => x = .returned (.agg #[.int .i64 (pfault N zs p).1, .int .i64 (pfault N zs p).2]) ∧ Below w.heap.size w w' := by
  obtain ⟨w0, BG⟩ := Beg.new w N v
  have hv0 := hv.below BG.bel
  obtain ⟨c0, c1, _, _⟩ := BG.box.two
  have hgf := groupFault_any N v zs w0 hv0
  have HPF := hide (show pfault N zs p = if (gfault N zs).1 = 0 ∧ primeB p = false then (3, 1) else gfault N zs from rfl)
  generalize pfault N zs p = pf at *
  generalize gfault N zs = gf at *
  obtain ⟨c, i⟩ := gf
  simp only at hgf
  have HGF := hide hgf
  clear hgf
  have HZ0 := hide (show w.heap.size + 2 ≤ w0.heap.size by rw [BG.eq]; simp)
  rw [BG.eq] at c0 c1
  go_enter Tryd.func7, Tryd.ntmps7
  go_wp2_with fail
  rw [← BG.eq]
  refine HGF.out.mono ?_
  rintro x w1 ⟨rfl, hb1⟩
  clear c0 c1 HGF
  obtain ⟨w2, hw2⟩ : ∃ w2, w2 = w1.alloc (.cells #[.int .i64 c, .int .i64 i] 27) := ⟨_, rfl⟩
  have hB2 : Below w0.heap.size w0 w2 := by rw [hw2]; exact bcat2 hb1 (balloc w1 _)
  have hF2 : Blk w2 w1.heap.size 27 [.int .i64 c, .int .i64 i] := by rw [hw2]; exact blk0 _ _
  have hR2 := blk_below BG.res hB2
  have hBw := bcat BG.bel hB2 BG.bel.size
  have hz1 : w.heap.size + 2 ≤ w1.heap.size := Nat.le_trans HZ0.out hb1.size
  obtain ⟨t0, t1, _, _⟩ := hF2.two
  by_cases hc : c = 0
  · subst hc
    cases hpr : primeB p with
    | true =>
      have HPR := hide (lprime_ok p w2)
      rw [hpr] at HPR
      have hpf : pf = (0, i) := by rw [HPF.out, hpr]; simp
      rw [hw2] at t0 t1
      go_wp2_with fail
      rw [← hw2]
      clear hw2 t0 t1
      refine HPR.out.mono ?_
      rintro x w3 ⟨rfl, hb3⟩
      have hF3 := blk_below hF2 hb3
      have hR3 := blk_below hR2 hb3
      have hB3 := bcat2 hBw hb3
      obtain ⟨t0, t1, _, _⟩ := hF3.two
      obtain ⟨y0, y1, fy0, fy1⟩ := hR3.two
      go_wp2
      obtain ⟨hR6, hB6⟩ := put2 hR3 hB3 (by omega) 0 i
      obtain ⟨z0, z1, _, _⟩ := hR6.two
      exact bodyPost_ret (v := .agg #[.int .i64 0, .int .i64 i]) (by simp [results, Tryd.results7, go_sem, z0, z1]) rfl ⟨by rw [hpf], hB6⟩
    | false =>
      have HPR := hide (lprime_ok p w2)
      rw [hpr] at HPR
      have hpf : pf = (3, 1) := by rw [HPF.out, hpr]; simp
      rw [hw2] at t0 t1
      go_wp2_with fail
      rw [← hw2]
      clear hw2 t0 t1
      refine HPR.out.mono ?_
      rintro x w3 ⟨rfl, hb3⟩
      go_wp2_with fail
      refine (f_any 3 1 w3).mono ?_
      rintro x w4 ⟨rfl, hb4⟩
      have hb34 := bcat2 hb3 hb4
      have hF3 := blk_below hF2 hb34
      have hR3 := blk_below hR2 hb34
      have hB3 := bcat2 hBw hb34
      obtain ⟨hF5, hB5⟩ := put2 hF3 hB3 (by omega) 3 1
      have hR5 : Blk ((w4.setCell ⟨w1.heap.size, 0, none⟩ (.int .i64 3)).setCell ⟨w1.heap.size, 1, none⟩ (.int .i64 1)) (w.heap.size + 1) 27 [.int .i64 0, .int .i64 0] := (hR3.other (p := ⟨w1.heap.size, 0, none⟩) (by simp; omega) (.int .i64 3)).other (p := ⟨w1.heap.size, 1, none⟩) (by simp; omega) (.int .i64 1)
      obtain ⟨t0, t1, ft0, ft1⟩ := hF3.two
      obtain ⟨q0, q1, _, _⟩ := hF5.two
      obtain ⟨y0, y1, fy0, fy1⟩ := hR5.two
      go_wp2
      obtain ⟨hR6, hB6⟩ := put2 hR5 hB5 (by omega) 3 1
      obtain ⟨z0, z1, _, _⟩ := hR6.two
      exact bodyPost_ret (v := .agg #[.int .i64 3, .int .i64 1]) (by simp [results, Tryd.results7, go_sem, z0, z1]) rfl ⟨by rw [hpf], hB6⟩
  · have hcb : (c == 0) = false := by simpa using hc
    have hpf : pf = (c, i) := by rw [HPF.out]; simp [hc]
    obtain ⟨y0, y1, fy0, fy1⟩ := hR2.two
    rw [hw2] at t0 t1 y0 y1 fy0 fy1
    go_wp2
    rw [← hw2]
    obtain ⟨hR6, hB6⟩ := put2 hR2 hBw (by omega) c i
    obtain ⟨z0, z1, _, _⟩ := hR6.two
    exact bodyPost_ret (v := .agg #[.int .i64 c, .int .i64 i]) (by simp [results, Tryd.results7, go_sem, z0, z1]) rfl ⟨by rw [hpf], hB6⟩
end Go.Proofs.YtjiapicknkjhmaaDoor

namespace Go.Proofs.YtjiapicknkjhmaaDoor
open Go Go.RowKit

theorem mkA {X U : World} {x y : Value} (k : Below (X.alloc (.cells #[x, y] 27)).heap.size (X.alloc (.cells #[x, y] 27)) U) : Blk U X.heap.size 27 [x, y] := blk_below (blk0 x y) k
theorem undA {W U : World} (k : Below W.drew.heap.size W.drew U) : Below W.heap.size W U := ⟨k.os, k.tape, k.output, k.size, k.block⟩
/-- What lies there behind the first call. -/
def IRel (w0 : World) (C : Int → Int → List Int → Prop) (s5 s6 : Value) (wx : World) : Prop := ∃ (b : Nat) (a : Option Addr) (cp : Nat) (c i : Int) (L : List Int), s5 = .slice a L.length cp ∧ s6 = .pointer (some ⟨b, 0, none⟩) ∧ w0.heap.size ≤ b ∧ Blk wx b 27 [.int .i64 c, .int .i64 i] ∧ Sl wx (.slice a L.length cp) L ∧ C c i L ∧ Below w0.heap.size w0 wx
theorem irel_put {w0 U : World} {C : Int → Int → List Int → Prop} {c i : Int} {L : List Int} {x y : Value} {b : Nat} {a : Option Addr} {cp : Nat} (hb : w0.heap.size ≤ b) (hB : Below w0.heap.size w0 U) (hp : Blk U b 27 [x, y]) (hs : Sl ((U.setCell ⟨b, 0, none⟩ (.int .i64 c)).setCell ⟨b, 1, none⟩ (.int .i64 i)) (.slice a L.length cp) L) (hC : C c i L) : IRel w0 C (.slice a L.length cp) (.pointer (some ⟨b, 0, none⟩)) ((U.setCell ⟨b, 0, none⟩ (.int .i64 c)).setCell ⟨b, 1, none⟩ (.int .i64 i)) :=
  ⟨b, a, cp, c, i, L, rfl, rfl, hb, (hp.set 0 _).set 1 _, hs, hC, bSet (bSet hB hb) hb⟩
theorem irel_new {w0 U : World} {C : Int → Int → List Int → Prop} {c i : Int} {L : List Int} {a : Option Addr} {cp : Nat} (hB : Below w0.heap.size w0 U) (hs : Sl U (.slice a L.length cp) L) (hC : C c i L) : IRel w0 C (.slice a L.length cp) (.pointer (some ⟨U.heap.size, 0, none⟩)) (U.alloc (.cells #[.int .i64 c, .int .i64 i] 27)) :=
  ⟨U.heap.size, a, cp, c, i, L, rfl, rfl, hB.size, blk0 _ _, hs.below (balloc _ _), hC, bcat2 hB (balloc _ _)⟩
end Go.Proofs.YtjiapicknkjhmaaDoor

namespace Go.Proofs.YtjiapicknkjhmaaDoor
open Go Go.RowKit

theorem sopen_any (N p : Int) (v : Value) (zs : List Int) (w : World) (hv : Sl w v zs) (hc : (pfault N zs p).1 ≠ 0) :
    Calls Tryd.prog 33 #[.agg #[.int .i64 N, v], .int .i64 p] w fun x w' => x = .returned (.tuple #[.agg #[.int .i64 0, .slice none 0 0, .int .i64 0, .slice none 0 0], .agg #[.int .i64 (pfault N zs p).1, .int .i64 (pfault N zs p).2]]) ∧ Below w.heap.size w w' := by
  unfold pfault at *
  by_cases h : (gfault N zs).1 = 0 ∧ primeB p = false
  · rw [if_pos h]
    obtain ⟨n, e, rfl, hg, _⟩ := gfault_grp h.1
    exact sopen_range n e p v zs w hv hg h.2
  · rw [if_neg h] at hc ⊢
    exact sopen_bad N p v zs w hv hc
theorem pfault_good {N p : Int} {zs : List Int} (hc : (pfault N zs p).1 = 0) : (gfault N zs).1 = 0 ∧ primeB p = true := by
  unfold pfault at hc
  by_cases h : (gfault N zs).1 = 0 ∧ primeB p = false
  · rw [if_pos h] at hc
    cases hc
  · rw [if_neg h] at hc
    refine ⟨hc, ?_⟩
    cases h9 : primeB p with
    | true => rfl
    | false => exact absurd ⟨hc, h9⟩ h
end Go.Proofs.YtjiapicknkjhmaaDoor

namespace Go.Proofs.YtjiapicknkjhmaaDoor
open Go Go.RowKit

theorem powerIn_pw {n p v j : Nat} (hp : 2 ≤ p) (h : v * p ^ j = n) (hv : ¬ p ∣ v) (hn : isPw n p) : p ^ j = n := by
  obtain ⟨k, hk⟩ := hn
  have h1 := pw_strip hp hv (h.trans hk)
  rw [← h, h1, Nat.one_mul]
end Go.Proofs.YtjiapicknkjhmaaDoor

namespace Go.Proofs.YtjiapicknkjhmaaDoor
open Go Go.RowKit

end Go.Proofs.YtjiapicknkjhmaaDoor

namespace Go.Proofs.YtjiapicknkjhmaaDoor
open Go Go.RowKit

def Rws (W : World) (g : Nat) (ms : List (List Int)) : Prop := ∀ j, j < ms.length → ∃ a c, W.cell? ⟨g, j, none⟩ = some (.slice a (ms[j]?.getD []).length c) ∧ Sl W (.slice a (ms[j]?.getD []).length c) (ms[j]?.getD [])
theorem Rws.below {W W' : World} {g : Nat} {ms : List (List Int)} (h : Rws W g ms) (hb : Below W.heap.size W W') : Rws W' g ms := fun j hj => by
  obtain ⟨a, c, h1, h2⟩ := h j hj
  exact ⟨a, c, below_cell hb h1, h2.below hb⟩
structure SylA (n : Nat) (zs : List Int) (e p : Nat) (s : Nat → Bool) (A : List Nat) (ms : List (List Int)) : Prop where
  gr : Grown n zs e p s
  lt : ∀ a, a ∈ A → a < n
  nd : (A.map fun a => bs (cjq n zs e s a) n).Nodup
  all : ∀ a, a < n → bs (cjq n zs e s a) n ∈ A.map fun a => bs (cjq n zs e s a) n
  pm : ms.Perm (A.map fun a => li (lst n (cjq n zs e s a)))
  st : srt ms
theorem SylA.len {n e p : Nat} {zs : List Int} {s : Nat → Bool} {A : List Nat} {ms : List (List Int)} (h : SylA n zs e p s A ms) : ms.length = A.length := by
  rw [h.pm.length_eq, List.length_map]
theorem SylA.pos {n e p : Nat} {zs : List Int} {s : Nat → Bool} {A : List Nat} {ms : List (List Int)} (h : SylA n zs e p s A ms) (he : e < n) : 0 < ms.length := by
  rw [h.len]
  obtain ⟨a, ha, _⟩ := List.mem_map.1 (h.all e he)
  exact List.length_pos_of_mem ha
theorem SylA.fits {n e p : Nat} {zs : List Int} {s : Nat → Bool} {A : List Nat} {ms : List (List Int)} (h : SylA n zs e p s A ms) : ms.length ≤ n := by
  rw [h.len]
  exact nodup_fits (nd_of_map h.nd) h.lt
theorem SylA.one {n e p : Nat} {zs : List Int} {s : Nat → Bool} {A : List Nat} {ms : List (List Int)} (h : SylA n zs e p s A ms) {j : Nat} (hj : j < ms.length) : ∃ a, a ∈ A ∧ ms[j]?.getD [] = li (lst n (cjq n zs e s a)) := by
  have h1 : ms[j]?.getD [] ∈ ms := by rw [List.getElem?_eq_getElem hj]; exact List.getElem_mem hj
  obtain ⟨a, ha, h2⟩ := List.mem_map.1 (h.pm.mem_iff.1 h1)
  exact ⟨a, ha, h2.symm⟩
theorem SylA.hX {n e p : Nat} {zs : List Int} {s : Nat → Bool} {A : List Nat} {ms : List (List Int)} (h : SylA n zs e p s A ms) : ∀ c, c ∈ A.map (fun a => bs (cjq n zs e s a) n) ↔ ∃ a, a < n ∧ fc n zs e s a = c := fun c => by
  constructor
  · intro hc
    obtain ⟨a, ha, h1⟩ := List.mem_map.1 hc
    exact ⟨a, h.lt a ha, h1⟩
  · rintro ⟨a, ha, rfl⟩
    exact h.all a ha
theorem sall_nice (n e p : Nat) (v : Value) (zs : List Int) (w : World) (hv : Sl w v zs) (hg : IsGrp n zs e) (hT : Tab w) (hpr : primeB p = true) :
    Calls Tryd.prog 10 #[.agg #[.int .i64 n, v], .int .i64 p] w fun x w' => ∃ (g c : Nat) (s : Nat → Bool) (A : List Nat) (ms : List (List Int)), x = .returned (.tuple #[.slice (some ⟨g, 0, none⟩) ms.length c, .agg #[.int .i64 0, .int .i64 0]]) ∧ SylA n zs e p s A ms ∧ Rws w' g ms ∧ Below w.heap.size w w' := by
  refine (sall_good n e p v zs w hv hg hT hpr).mono ?_
  rintro x w2 ⟨r1, r2, r3, s, A, ms, rfl, hgr, hA, hnd, hall, hpm, hsr, ⟨B, us, hB, hul, hown, hls⟩, hb2⟩
  have HA : SylA n zs e p s A ms := ⟨hgr, hA, hnd, hall, hpm, hsr⟩
  have hpos := HA.pos hg.elt
  have hl : us.length = ms.length := hls.1
  have hr2 : r2 = ms.length := by rw [← hul, hl]
  subst hr2
  obtain ⟨g, rfl⟩ : ∃ g, r1 = some ⟨g, 0, none⟩ := by
    rcases hown.2 with ⟨h1, h2⟩ | ⟨g', cap, cur, h1, _⟩
    · omega
    · injection h1 with h1; exact ⟨g', h1⟩
  refine ⟨g, r3, s, A, ms, rfl, HA, fun j hj => ?_, hb2⟩
  have hju : j < us.length := by omega
  obtain ⟨a, cap, pb, po, h1, h2, h3, h4, h5, _⟩ := hls.2 j us[j] ms[j] (List.getElem?_eq_getElem hju) (List.getElem?_eq_getElem hj)
  have hc := hown.cells (g := g) rfl j _ (List.getElem?_eq_getElem hju)
  rw [show (⟨g, 0, none⟩ : Addr).add j = ⟨g, j, none⟩ by unfold Addr.add; split <;> simp_all] at hc
  rw [List.getElem?_eq_getElem hj, Option.getD_some]
  rw [h1] at hc
  exact ⟨a, cap, hc, ⟨a, cap, pb, po, rfl, h2, h3, h4, h5⟩⟩
theorem nrmq_pset {n e : Nat} {zs : List Int} {q : Nat → Bool} : nrmq n zs e (pset (li (lst n q))) = nrmq n zs e q := by
  have h1 : lst n (pset (li (lst n q))) = lst n q := lst_pset n q
  have h2 : bs (pset (li (lst n q))) n = bs q n := bs_ext fun a ha => pset_lst ha
  unfold nrmq norq cjq
  rw [h1, h2]
theorem nrm_lst (n e : Nat) (v u : Value) (zs : List Int) (q : Nat → Bool) (w : World) (hv : Sl w v zs) (hg : IsGrp n zs e) (hu : Sl w u (li (lst n q))) (hT : Tab w) (hs : subT n zs e q = true) :
    Calls Tryd.prog 30 #[.agg #[.int .i64 n, v], u] w fun x w' => x = .returned (.tuple #[.bool (nrmq n zs e q), .agg #[.int .i64 0, .int .i64 0]]) ∧ Below w.heap.size w w' := by
  have h := nrm_good n e v u zs (li (lst n q)) w hv hg hu hT (lst_fault n q) ((subT_congr hg fun a ha => pset_lst ha).trans hs)
  rwa [nrmq_pset] at h
/-- A fault that is stored where it lies. -/
theorem store_same {W : World} {b : Nat} {x y : Value} (h0 : W.cell? ⟨b, 0, none⟩ = some x) (h1 : W.cell? ⟨b, 1, none⟩ = some y) : (W.setCell ⟨b, 0, none⟩ x).setCell ⟨b, 1, none⟩ y = W := by
  rw [set_same W b 0 x h0, set_same W b 1 y h1]
end Go.Proofs.YtjiapicknkjhmaaDoor

namespace Go.Proofs.YtjiapicknkjhmaaDoor
open Go Go.RowKit

set_option maxRecDepth 100000 in
set_option maxHeartbeats 4000000 in
theorem nor_good (n e : Nat) (v u0 : Value) (zs l0 : List Int) (w : World) (hv : Sl w v zs) (hg : IsGrp n zs e) (hu : Sl w u0 l0) (hT : Tab w) (hc : lfault n l0 = (0, 0)) (hs : subT n zs e (pset l0) = true) :
    Calls Tryd.prog 11 #[.agg #[.int .i64 n, v], u0] w fun x w' => ∃ r, x = .returned (.tuple #[r, .agg #[.int .i64 0, .int .i64 0]]) ∧ SlF w.heap.size w' r (li (lst n (norq n zs e (pset l0)))) ∧ Below w.heap.size w w' := by
  obtain ⟨va, vl, vc, rfl⟩ := hv.isSlice
  obtain ⟨w0, BG⟩ := Beg.new w n (.slice va vl vc)
  have hv0 := hv.below BG.bel
  obtain ⟨c0, c1, _, _⟩ := BG.box.two
  have HCK := hide (osub_good n e (.slice va vl vc) u0 zs l0 w0 hv0 hg (hu.below BG.bel) (hT.below BG.bel) hc hs)
  have HZ0 := hide (show w.heap.size + 2 ≤ w0.heap.size by rw [BG.eq]; simp)
  rw [BG.eq] at c0 c1
  go_enter Tryd.func11, Tryd.ntmps11
  go_wp2_with fail
  rw [← BG.eq]
  refine HCK.out.mono ?_
  rintro x w1 ⟨iv9, rfl, hSI, hb1⟩
  obtain ⟨ia, il, ic, rfl⟩ := hSI.sl.isSlice
  clear c0 c1 HCK
  obtain ⟨w2, hw2⟩ : ∃ w2, w2 = (w1.alloc (.cells #[.int .i64 n, (.slice va vl vc), .int .i64 e, (.slice ia il ic)] 50)).alloc (.cells #[.int .i64 0, .int .i64 0] 27) := ⟨_, rfl⟩
  have hb2 : Below w1.heap.size w1 w2 := by rw [hw2]; exact (balloc w1 _).alloc (by simp) _
  have hB1 : Below w0.heap.size w0 w2 := bcat2 hb1 hb2
  have hF1 : Blk w2 (w1.heap.size + 1) 27 [.int .i64 0, .int .i64 0] := by
    rw [hw2]
    have := blk0 (w := w1.alloc (.cells #[.int .i64 n, (.slice va vl vc), .int .i64 e, (.slice ia il ic)] 50)) (T := 27) (.int .i64 0) (.int .i64 0)
    rwa [World.size_alloc] at this
  have hH2 : Blk w2 w1.heap.size 50 [.int .i64 n, (.slice va vl vc), .int .i64 e, (.slice ia il ic)] := by
    rw [hw2]; exact (blk4 _ _ _ _).alloc _
  have hBw2 := bcat BG.bel hB1 BG.bel.size
  have hR2 := blk_below BG.res hB1
  have hT2 := hT.below hBw2
  have hGA2 : GA w2 n (.slice va vl vc) e (.slice ia il ic) zs := ⟨hg, hv.below hBw2, (hSI.below hb2).sl⟩
  obtain ⟨t0, t1, _, _⟩ := hF1.two
  obtain ⟨_, h0, h1, h2, h3, _⟩ := Four.mk' hH2
  have hx2 := blk_below BG.box hB1
  have HZ1 := hide (Nat.le_trans HZ0.out hb1.size)
  have HZ2 := hide hb2.size
  rw [hw2] at t0 t1 h0 h1 h2 h3
  go_wp2_with fail
  rw [← hw2]
  clear hw2 t0 t1 h0 h1 h2 h3
  refine (norm_ok n _ _ zs e (pset l0) w2 hGA2 hT2).mono ?_
  rintro x w3 ⟨rfl, hb3⟩
  go_wp2_with fail
  refine (list_ok n (norq n zs e (pset l0)) w3 hg.tab.le (hT2.below hb3)).mono ?_
  rintro x w4 ⟨r, rfl, hr, hb4⟩
  have hb5 := bcat2 hb3 hb4
  have hB5 := bcat hBw2 hb5 hBw2.size
  obtain ⟨_, y0, y1, fy0, fy1, s0, s1⟩ := Two.mk' (blk_below hR2 hb5)
  have hr9 := hr.mono (show w.heap.size ≤ w3.heap.size from Nat.le_trans hBw2.size hb3.size)
  go_wp2
  exact bodyPost_ret (v := .tuple #[r, .agg #[.int .i64 0, .int .i64 0]]) (by simp [results, Tryd.results11, go_sem, y0, y1]) rfl ⟨_, rfl, hr9, hB5⟩
theorem nor_lst (n e : Nat) (v u : Value) (zs : List Int) (q : Nat → Bool) (w : World) (hv : Sl w v zs) (hg : IsGrp n zs e) (hu : Sl w u (li (lst n q))) (hT : Tab w) (hs : subT n zs e q = true) :
    Calls Tryd.prog 11 #[.agg #[.int .i64 n, v], u] w fun x w' => ∃ (a : Option Addr) (c : Nat), x = .returned (.tuple #[.slice a (lst n (norq n zs e q)).length c, .agg #[.int .i64 0, .int .i64 0]]) ∧ Sl w' (.slice a (lst n (norq n zs e q)).length c) (li (lst n (norq n zs e q))) ∧ Below w.heap.size w w' := by
  have h := nor_good n e v u zs (li (lst n q)) w hv hg hu hT (lst_fault n q) ((subT_congr hg fun a ha => pset_lst ha).trans hs)
  have h1 : lst n (norq n zs e (pset (li (lst n q)))) = lst n (norq n zs e q) := lst_congr fun a _ => by
    have h1 : lst n (pset (li (lst n q))) = lst n q := lst_pset n q
    have h2 : bs (pset (li (lst n q))) n = bs q n := bs_ext fun a ha => pset_lst ha
    unfold norq cjq
    rw [h1, h2]
  rw [h1] at h
  refine h.mono ?_
  rintro x w1 ⟨r, rfl, hr, hb⟩
  have hr := hr.sl
  obtain ⟨a, c, _, _, rfl, _⟩ := id hr
  rw [li_len] at hr ⊢
  exact ⟨a, c, rfl, hr, hb⟩
end Go.Proofs.YtjiapicknkjhmaaDoor

namespace Go.Proofs.YtjiapicknkjhmaaDoor
open Go Go.RowKit Go.Maps

theorem und89 : Tryd.prog.underlying 61 = some (.map 3 3) := by kernel_rfl
set_option maxRecDepth 100000 in
set_option maxHeartbeats 8000000 in
theorem numbers_ok (v : Value) (ls : List (List Int)) (w : World) (hv : SlL w v ls) (hn : ls.length ≤ 60) (hl : ∀ t, t < ls.length → (ls[t]?.getD []).length ≤ 60)
    (hr : ∀ (t : Nat) (a : Int), a ∈ ls[t]?.getD [] → 0 ≤ a ∧ a < 60) (hd : ∀ (s t : Nat) (a : Int), a ∈ ls[s]?.getD [] → a ∈ ls[t]?.getD [] → s = t) :
    Calls Tryd.prog 32 #[v] w fun x w' => ∃ D, x = .returned (.map (some w.heap.size)) ∧ w'.ownsMap Tryd.prog 3 (plainElem Tryd.prog 3) w.heap.size 3600 D ∧ MLs ls ls.length 0 D ∧ Below w.heap.size w w' := by
  obtain ⟨va, vc, vb, vo, rfl, v1, v2, v3, v4, v5⟩ := hv
  have HV := hide v2
  have HV1 := hide v1
  have HL := hide hl
  have HR := hide hr
  have HD := hide hd
  clear v1 v2 v5 hl hr hd
  have hmm := @run_makeMap Tryd.prog
  go_enter Tryd.func32, Tryd.ntmps32
  go_wp2
  clear hmm
  go_loopw [11] (fun i wr => ∃ (j c : Nat) (D : DataW Unit), j ≤ ls.length ∧ i = .int .i64 j ∧ wr.ownsMap Tryd.prog 3 (plainElem Tryd.prog 3) w.heap.size c D ∧ c ≤ j * 60 ∧ MLs ls j 0 D ∧ Below w.heap.size w wr) (fun i _ => ls.length - (intOf i).toNat)
  case atStart => exact ⟨0, 0, .map [], Nat.zero_le _, rfl, World.ownsMap_made _ _ _ _, Nat.le_refl _, ⟨fun t ht => by omega, fun a ha => by simp at ha⟩, balloc w _⟩
  case round =>
    obtain ⟨j, c, D, hj, rfl, hmap, hc, hM, hB⟩ := hrel
    by_cases hlt : j < ls.length
    · have hji : (j : Int) < (ls.length : Int) := by omega
      obtain rfl := HV1.out (by omega)
      obtain ⟨y, cy, hy⟩ := HV.out j hlt
      have hll := HL.out j hlt
      have cy := below_cell hB cy
      have HD' := hide (fun (D' : DataW Unit) (k : Nat) (h : MLs ls j k D') (hm : IsMap D') (hk : k < (ls[j]?.getD []).length) => h.step hm HD.out hk)
      have HE := hide (fun (D' : DataW Unit) (h : MLs ls j (ls[j]?.getD []).length D') => h.done)
      have HRR := hide (fun a (h : a ∈ ls[j]?.getD []) => HR.out j a h)
      obtain ⟨ya, ycap, yb, yo, rfl, hyr, hyb, _, _⟩ := hy
      generalize hlj : ls[j]?.getD [] = lj at *
      have HLJ := hide hlj
      clear hlj
      have HY := hide hyr
      clear hyr
      have hcap : lj.length ≤ 60 := hll
      go_wp2
      go_loopw [18] (fun i wi => ∃ (k c : Nat) (D : DataW Unit), k ≤ lj.length ∧ i = .int .i64 k ∧ wi.ownsMap Tryd.prog 3 (plainElem Tryd.prog 3) w.heap.size c D ∧ c ≤ j * 60 + k ∧ MLs ls j k D ∧ Below w.heap.size w wi) (fun i _ => lj.length - (intOf i).toNat)
      case atStart => exact ⟨0, c, D, Nat.zero_le _, rfl, hmap, by omega, hM, hB⟩
      case round =>
        obtain ⟨k, c2, D2, hk, rfl, hmap2, hc2, hM2, hB2⟩ := hrel
        have hY2 := HY.out.below hB2 hyb
        by_cases hlt2 : k < lj.length
        · have hki : (k : Int) < (lj.length : Int) := by omega
          obtain rfl := hY2.at_ (by omega)
          have hcx := hY2.cell k hlt2
          obtain ⟨hx0, hx1⟩ := HRR.out (lj[k]?.getD 0) (by simp [hlt2])
          have HST := hide (HD'.out D2 k hM2 (map_is hmap2) hlt2)
          generalize lj[k]?.getD 0 = x at *
          have hkw : (Lit.int .i64 x).wf = true := WalkArith.wf_i64 (by omega)
          have hkey := keyOf_int_mk und3' hkw
          go_wp2_with (first
            | (at_mapUpdate; refine wpList_mapUpdate_own _ rfl _ _ _ 61 rfl 3 3 law3 und89 _ w.heap.size _ D2 rfl hmap2 (by unfold maxLen; omega) _ _ _ rfl rfl hkey _ [] (plainElem_int und3' (WalkArith.wf_i64 (by omega))) ?_; intro w2 hmap3 hgrow2))
          have hB3 := hB2.grown hgrow2 hB2.size (fun k hk => by cases hk; exact Nat.le_refl _)
          go_roundw
          case rel => exact ⟨k + 1, c2 + 1, _, by omega, by go_num, hmap3, by omega, HST.out, hB3⟩
          case measure => simp [intOf]; omega
        · have hki : ¬ (k : Int) < (lj.length : Int) := by omega
          have hke : k = lj.length := by omega
          have HEN := hide (HE.out D2 (by rw [← hke]; exact hM2))
          clear hke
          go_wp2
          go_roundw
          case rel => exact ⟨j + 1, c2, D2, by omega, by go_num, hmap2, by omega, HEN.out, hB2⟩
          case measure => simp [intOf]; omega
    · have hji : ¬ (j : Int) < (ls.length : Int) := by omega
      have hje : j = ls.length := by omega
      have HM := hide (show MLs ls ls.length 0 D by rw [← hje]; exact hM)
      clear hje
      go_wp2
      go_ret
      exact ⟨rfl, D, map_le hmap (by omega), HM.out, hB⟩
theorem look_int {D : DataW Unit} {W : World} {mb c : Nat} {x q : Nat} (h : W.ownsMap Tryd.prog 3 (plainElem Tryd.prog 3) mb c D) (hx : x < 60) (hN : D.atKey (.int .i64 (x : Nat)) (.lit (.int .i64 0)) = .lit (.int .i64 (q : Nat))) :
    (Instr.lookup 61 (.map (some mb)) (.int .i64 (x : Nat)) false).run Tryd.prog W = .ok (.int .i64 (q : Nat)) W := by
  have hkw : (Lit.int .i64 (x : Nat)).wf = true := WalkArith.wf_i64 (by omega)
  obtain ⟨c, h1, h2, _⟩ := h.lookup_int law3 und89 und3' (zero3 _) (keyOf_int_mk und3' hkw)
  rw [hN] at h2
  cases h2
  exact h1
set_option maxRecDepth 100000 in
set_option maxHeartbeats 8000000 in
theorem group_ok (n K : Nat) (v lv : Value) (zs : List Int) (ls : List (List Int)) (hs : Nat → Nat) (F : Nat → Nat → Nat) (mb c : Nat) (D : DataW Unit) (w : World) (ht : IsTab n zs) (hv : Sl w v zs) (hL : SlL w lv ls) (hK : ls.length = K) (hK6 : K ≤ 60)
    (hh : ∀ i, i < K → ∃ t, ls[i]?.getD [] = (hs i : Int) :: t ∧ hs i < n) (hmap : w.ownsMap Tryd.prog 3 (plainElem Tryd.prog 3) mb c D)
    (hF : ∀ i j, i < K → j < K → D.atKey (.int .i64 (tm n zs (hs i) (hs j) : Nat)) (.lit (.int .i64 0)) = .lit (.int .i64 (F i j : Nat))) (hF6 : ∀ i j, i < K → j < K → F i j ≤ 60) :
    Calls Tryd.prog 31 #[.agg #[.int .i64 n, v], lv, .map (some mb)] w fun x w' => ∃ r, x = .returned (.agg #[.int .i64 K, r]) ∧ Row w' w.heap.size r (mkT K F) ∧ Below w.heap.size w w' := by
  obtain ⟨i0, hi, hz0, hz1, hz2⟩ := info_parts info3b
  obtain ⟨va, vl, vc, rfl⟩ := hv.isSlice
  obtain ⟨la, lc, lb, lo, rfl, l1, l2, l3, l4, l5⟩ := hL
  obtain ⟨T, hT⟩ : ∃ T, T = mkT K F := ⟨_, rfl⟩
  have HTL := hide (show T.length = K * K by rw [hT]; exact mkT_len K F)
  have HTG := hide (fun a b (ha : a < K) (hb : b < K) => show T[a * K + b]?.getD 0 = (F a b : Int) by
    obtain ⟨e1, e2⟩ := dm' (a := a) hb
    rw [hT, mkT_get (place_lt ha hb), e1, e2])
  rw [← hT]
  clear hT
  rw [hK] at *
  have HL1 := hide l1
  have HL2 := hide l2
  have HH := hide hh
  have HF := hide hF
  have HF6 := hide hF6
  have HMP := hide hmap
  have HV := hide hv
  have hn := ht.le
  clear l1 l2 l5 hh hF hF6 hmap hK hv
  obtain ⟨w0, hw0⟩ : ∃ w0, w0 = ((w.alloc (.cells #[.int .i64 n, .slice va vl vc] 24)).alloc (.cells #[.int .i64 0, .slice none 0 0] 24)).alloc (.cells #[.int .i64 K, .slice none 0 0] 24) := ⟨_, rfl⟩
  have hB0 : Below w.heap.size w w0 := by rw [hw0]; exact ((balloc w _).alloc (by simp) _).alloc (by simp; omega) _
  have hG0 : BoxG w0 w.heap.size n (.slice va vl vc) := by rw [hw0]; exact ((blk0 (w := w) (T := 24) _ _).alloc _).alloc _
  have hR0 : Blk w0 (w.heap.size + 1) 24 [.int .i64 0, .slice none 0 0] := by
    have := (blk0 (w := w.alloc (.cells #[.int .i64 n, .slice va vl vc] 24)) (T := 24) (.int .i64 0) (.slice none 0 0)).alloc (.cells #[.int .i64 K, .slice none 0 0] 24)
    rw [World.size_alloc] at this
    rw [hw0]; exact this
  have hX0 : Blk w0 (w.heap.size + 1 + 1) 24 [.int .i64 K, .slice none 0 0] := by
    have := blk0 (w := (w.alloc (.cells #[.int .i64 n, .slice va vl vc] 24)).alloc (.cells #[.int .i64 0, .slice none 0 0] 24)) (T := 24) (.int .i64 K) (.slice none 0 0)
    rw [World.size_alloc, World.size_alloc] at this
    rw [hw0]; exact this
  go_enter Tryd.func31, Tryd.ntmps31
  go_wp2
  rw [← hw0]
  clear hw0
  go_loopw [17] (fun i wr => ∃ (a : Nat) (r : Value), a ≤ K ∧ i = .int .i64 a ∧ Row wr (w.heap.size + 1 + 1 + 1) r (T.take (a * K)) ∧ BoxG wr w.heap.size n (.slice va vl vc) ∧ Blk wr (w.heap.size + 1) 24 [.int .i64 0, .slice none 0 0] ∧ Blk wr (w.heap.size + 1 + 1) 24 [.int .i64 K, r] ∧ Below w.heap.size w wr) (fun i _ => K - (intOf i).toNat)
  case atStart => exact ⟨0, .slice none 0 0, by omega, rfl, by simpa using nil_row _ _, hG0, hR0, hX0, hB0⟩
  case round =>
    obtain ⟨a, r, ha, rfl, hrow, hG, hR, hX, hB⟩ := hrel
    clear hR0 hX0 hB0 hG0
    by_cases hlta : a < K
    · have hai : (a : Int) < (K : Int) := by omega
      obtain rfl := HL1.out (by omega)
      obtain ⟨ya, cya, hya⟩ := HL2.out a hlta
      obtain ⟨ta, hta, hna⟩ := HH.out a hlta
      have cya := below_cell hB cya
      rw [hta] at hya
      obtain ⟨y1, y2, yb, yo, rfl, hyr, hyb, hyc, hym⟩ := hya
      have hyl : ((hs a : Int) :: ta).length = ta.length + 1 := rfl
      have hcx := hyr.cell 0 (by rw [hyl]; omega)
      rw [show ((hs a : Int) :: ta)[0]?.getD 0 = (hs a : Int) from rfl, Nat.add_zero] at hcx
      obtain rfl := hyr.at_ (by rw [hyl]; omega)
      rw [hyl] at cya hyc
      have hta9 : ta.length + 1 ≤ 9223372036854775807 := by unfold maxLen at hym; omega
      have HCX := hide hcx
      clear hyr hym hta hcx hyl
      go_wp2
      go_loopw [23] (fun i wr => ∃ (b : Nat) (r : Value), b ≤ K ∧ i = .int .i64 b ∧ Row wr (w.heap.size + 1 + 1 + 1) r (T.take (a * K + b)) ∧ BoxG wr w.heap.size n (.slice va vl vc) ∧ Blk wr (w.heap.size + 1) 24 [.int .i64 0, .slice none 0 0] ∧ Blk wr (w.heap.size + 1 + 1) 24 [.int .i64 K, r] ∧ Below w.heap.size w wr) (fun i _ => K - (intOf i).toNat)
      case atStart => exact ⟨0, r, by omega, rfl, hrow, hG, hR, hX, hB⟩
      case round =>
        obtain ⟨b, r', hb, rfl, hrow', hG', hR', hX', hB'⟩ := hrel
        clear hrow hG hR hX hB
        by_cases hltb : b < K
        · have hbi : (b : Int) < (K : Int) := by omega
          obtain ⟨yb9, cyb, hyb9⟩ := HL2.out b hltb
          obtain ⟨tb, htb, hnb⟩ := HH.out b hltb
          have cyb := below_cell hB' cyb
          rw [htb] at hyb9
          obtain ⟨z1, z2, zb, zo, rfl, hzr, hzb, hzc, hzm⟩ := hyb9
          have hzl : ((hs b : Int) :: tb).length = tb.length + 1 := rfl
          have hcz := hzr.cell 0 (by rw [hzl]; omega)
          rw [show ((hs b : Int) :: tb)[0]?.getD 0 = (hs b : Int) from rfl, Nat.add_zero] at hcz
          obtain rfl := hzr.at_ (by rw [hzl]; omega)
          rw [hzl] at cyb hzc
          have htb9 : tb.length + 1 ≤ 9223372036854775807 := by unfold maxLen at hzm; omega
          have HCZ := hide hcz
          clear hcz
          have HVL := hide (HTG.out a b hlta hltb)
          have hpl := place_lt hlta hltb
          have hlen : (T.take (a * K + b)).length = a * K + b := by rw [List.length_take, HTL.out]; omega
          have HSN := hide (show T.take (a * K + (b + 1)) = T.take (a * K + b) ++ [(F a b : Int)] by
            rw [← Nat.add_assoc, take_snoc' (by rw [HTL.out]; exact hpl), HVL.out])
          have hKK : K * K ≤ 3600 := Nat.mul_le_mul hK6 hK6
          have HLL := hide (show (T.take (a * K + b)).length ≤ 3600 by rw [hlen]; omega)
          have hown : wr.ownsRow (w.heap.size + 1 + 1 + 1) 3 1 r' (T.take (a * K + b)).length ((T.take (a * K + b)).map (Value.int .i64)) := hrow'
          have hp : hs a * n + hs b < n * n := place_lt hna hnb
          have hcm : wr.cell? ⟨w.heap.size, 0, none⟩ = some (.int .i64 n) := hG'.two.1
          have hcv : wr.cell? ⟨w.heap.size, 1, none⟩ = some (.slice va vl vc) := hG'.two.2.1
          obtain ⟨xa, xc, xb, xo, hve, hxr, hxb, _, hxm⟩ := HV.out
          injection hve with e1 e2 e3
          subst e1 e2 e3
          have hzn : zs.length = n * n := ht.len
          have hcc := hxr.cell (hs a * n + hs b) (by rw [hzn]; exact hp)
          obtain rfl := hxr.at_ (by rw [hzn]; omega)
          obtain ⟨h9a, h9b⟩ := ht.rng _ hp
          have hce : zs[hs a * n + hs b]?.getD 0 = (tm n zs (hs a) (hs b) : Int) := by unfold tm; omega
          rw [hce] at hcc
          have hq6 := HF6.out a b hlta hltb
          have hd6 : tm n zs (hs a) (hs b) < 60 := by
            have := tm_lt ht hna hnb
            omega
          have HOL := hide (fun (W : World) (h : Below w.heap.size w W) => look_int (W := W) (HMP.out.kept (below_grown h none) (by simp)) hd6 (HF.out a b hlta hltb))
          generalize tm n zs (hs a) (hs b) = d9 at *
          generalize F a b = q9 at *
          have hpi : (hs a : Int) * (n : Int) + (hs b : Int) = ((hs a * n + hs b : Nat) : Int) := by rw [Int.natCast_add, Int.natCast_mul]
          have hpz : ((hs a * n + hs b : Nat) : Int) < (zs.length : Int) := by rw [hzn]; omega
          have hxm9 : zs.length ≤ 9223372036854775807 := by unfold maxLen at hxm; omega
          have hmu : IntKind.i64.wrap ((hs a : Int) * (n : Int)) = (hs a : Int) * (n : Int) := by
            have h1 : hs a * n ≤ 60 * 60 := Nat.mul_le_mul (Nat.le_of_lt (Nat.lt_of_lt_of_le hna hn)) hn
            rw [IntKind.wrap_i64, ← Int.natCast_mul]
            omega
          have hwp : IntKind.i64.wrap ((hs a * n + hs b : Nat) : Int) = ((hs a * n + hs b : Nat) : Int) := by
            have h1 : n * n ≤ 60 * 60 := Nat.mul_le_mul hn hn
            rw [IntKind.wrap_i64]
            omega
          clear hzn hp
          clear hlen hrow' HVL hxr hzr hzm hzl htb hce h9a h9b hxm
          generalize T.take (a * K + b) = xs at *
          generalize hs a * n + hs b = p9 at *
          have HS := hide (fun (W : World) (h : Below w.heap.size w W) (hG : BoxG W w.heap.size n (.slice (some ⟨xb, xo, none⟩) zs.length vc)) => show (Below w.heap.size w W ∧ W.cell? ⟨w.heap.size, 0, none⟩ = some (.int .i64 n) ∧ W.cell? ⟨w.heap.size, 1, none⟩ = some (.slice (some ⟨xb, xo, none⟩) zs.length vc) ∧ W.cell? ⟨yb, yo, none⟩ = some (.int .i64 (hs a : Int)) ∧ W.cell? ⟨zb, zo, none⟩ = some (.int .i64 (hs b : Int)) ∧ W.cell? ⟨xb, xo + p9, none⟩ = some (.int .i64 (d9 : Int)) ∧ Sem.run Tryd.prog (Instr.lookup 61 (.map (some mb)) (.int .i64 (d9 : Int)) false) W = .ok (.int .i64 (q9 : Int)) W) from ⟨h, hG.two.1, hG.two.2.1, below_cell h HCX.out, below_cell h HCZ.out, below_cell h hcc, HOL.out W h⟩)
          clear hcc HOL
          obtain ⟨rx, rcap, rfl⟩ := own_slice hown
          obtain ⟨x0, x1, fx0, fx1⟩ := hX'.two
          have hs2 := hX'.lt
          go_wp2_with fail
          have hS9 : (fun W => Below w.heap.size w W ∧ W.cell? ⟨w.heap.size, 0, none⟩ = some (.int .i64 n) ∧ W.cell? ⟨w.heap.size, 1, none⟩ = some (.slice (some ⟨xb, xo, none⟩) zs.length vc) ∧ W.cell? ⟨yb, yo, none⟩ = some (.int .i64 (hs a : Int)) ∧ W.cell? ⟨zb, zo, none⟩ = some (.int .i64 (hs b : Int)) ∧ W.cell? ⟨xb, xo + p9, none⟩ = some (.int .i64 (d9 : Int)) ∧ Sem.run Tryd.prog (Instr.lookup 61 (.map (some mb)) (.int .i64 (d9 : Int)) false) W = .ok (.int .i64 (q9 : Int)) W) wr.drew := HS.out _ (bdrew hB') hG'
          refine wp_region_held_drew (S := (fun W => Below w.heap.size w W ∧ W.cell? ⟨w.heap.size, 0, none⟩ = some (.int .i64 n) ∧ W.cell? ⟨w.heap.size, 1, none⟩ = some (.slice (some ⟨xb, xo, none⟩) zs.length vc) ∧ W.cell? ⟨yb, yo, none⟩ = some (.int .i64 (hs a : Int)) ∧ W.cell? ⟨zb, zo, none⟩ = some (.int .i64 (hs b : Int)) ∧ W.cell? ⟨xb, xo + p9, none⟩ = some (.int .i64 (d9 : Int)) ∧ Sem.run Tryd.prog (Instr.lookup 61 (.map (some mb)) (.int .i64 (d9 : Int)) false) W = .ok (.int .i64 (q9 : Int)) W)) (by kernel_rfl) hS9 (fun hHeld => ?_)
          refine wpAnyH_take (i := 0) (oi := ({ dst := some 27, op := Go.Op.fieldAddr 24 (Go.Operand.tmp 7) 1, type := 0, pos := _, after := #[], guard := none } : Oper)) (v := ?_) rfl (by kernel_rfl) (by kernel_rfl) (by kernel_rfl) (fun _ _ _ h => h) (Or.inl ⟨by rfl, ?_⟩) (by assumption) ?_
          rotate_left
          · (intro w hSw; (try dsimp only at hSw); go_simp; try with_reducible rfl)
          simp only [Act.put, List.setIfInBounds_toArray, List.set_cons_zero, List.set_cons_succ]
          refine wpAnyH_take (i := 2) (oi := ({ dst := some 29, op := Go.Op.move (Go.Operand.tmp 2), type := 61, pos := _, after := #[], guard := none } : Oper)) (v := ?_) rfl (by kernel_rfl) (by kernel_rfl) (by kernel_rfl) (fun _ _ _ h => h) (Or.inl ⟨by rfl, ?_⟩) (by assumption) ?_
          rotate_left
          · (intro w hSw; (try dsimp only at hSw); go_simp; try with_reducible rfl)
          simp only [Act.put, List.setIfInBounds_toArray, List.set_cons_zero, List.set_cons_succ]
          refine wpAnyH_take (i := 3) (oi := ({ dst := some 30, op := Go.Op.fieldAddr 24 (Go.Operand.tmp 3) 1, type := 0, pos := _, after := #[], guard := none } : Oper)) (v := ?_) rfl (by kernel_rfl) (by kernel_rfl) (by kernel_rfl) (fun _ _ _ h => h) (Or.inl ⟨by rfl, ?_⟩) (by assumption) ?_
          rotate_left
          · (intro w hSw; (try dsimp only at hSw); go_simp; try with_reducible rfl)
          simp only [Act.put, List.setIfInBounds_toArray, List.set_cons_zero, List.set_cons_succ]
          refine wpAnyH_take (i := 4) (oi := ({ dst := some 31, op := Go.Op.load 22 (Go.Operand.tmp 30), type := 22, pos := _, after := #[{ on := 3, ground := Go.Ground.data }], guard := none } : Oper)) (v := ?_) rfl (by kernel_rfl) (by kernel_rfl) (by kernel_rfl) (fun _ _ _ h => h) (Or.inl ⟨by rfl, ?_⟩) (by assumption) ?_
          rotate_left
          · (intro w hSw; (try dsimp only at hSw); go_simp; try with_reducible rfl)
          simp only [Act.put, List.setIfInBounds_toArray, List.set_cons_zero, List.set_cons_succ]
          refine wpAnyH_take (i := 5) (oi := ({ dst := some 32, op := Go.Op.move (Go.Operand.tmp 9), type := 22, pos := _, after := #[], guard := none } : Oper)) (v := ?_) rfl (by kernel_rfl) (by kernel_rfl) (by kernel_rfl) (fun _ _ _ h => h) (Or.inl ⟨by rfl, ?_⟩) (by assumption) ?_
          rotate_left
          · (intro w hSw; (try dsimp only at hSw); go_simp; try with_reducible rfl)
          simp only [Act.put, List.setIfInBounds_toArray, List.set_cons_zero, List.set_cons_succ]
          refine wpAnyH_take (i := 6) (oi := ({ dst := some 33, op := Go.Op.indexAddr 22 (Go.Operand.tmp 32) (Go.Operand.const (Go.Value.int Go.IntKind.i64 0)), type := 0, pos := _, after := #[{ on := 5, ground := Go.Ground.data }], guard := none } : Oper)) (v := ?_) rfl (by kernel_rfl) (by kernel_rfl) (by kernel_rfl) (fun _ _ _ h => h) (Or.inl ⟨by rfl, ?_⟩) (by assumption) ?_
          rotate_left
          · (intro w hSw; (try dsimp only at hSw); go_simp; try with_reducible rfl)
          simp only [Act.put, List.setIfInBounds_toArray, List.set_cons_zero, List.set_cons_succ]
          refine wpAnyH_take (i := 7) (oi := ({ dst := some 34, op := Go.Op.load 3 (Go.Operand.tmp 33), type := 3, pos := _, after := #[{ on := 6, ground := Go.Ground.data }], guard := none } : Oper)) (v := ?_) rfl (by kernel_rfl) (by kernel_rfl) (by kernel_rfl) (fun _ _ _ h => h) (Or.inl ⟨by rfl, ?_⟩) (by assumption) ?_
          rotate_left
          · (intro w hSw; (try dsimp only at hSw); go_simp; try with_reducible rfl)
          simp only [Act.put, List.setIfInBounds_toArray, List.set_cons_zero, List.set_cons_succ]
          refine wpAnyH_take (i := 8) (oi := ({ dst := some 35, op := Go.Op.fieldAddr 24 (Go.Operand.tmp 3) 0, type := 0, pos := _, after := #[], guard := none } : Oper)) (v := ?_) rfl (by kernel_rfl) (by kernel_rfl) (by kernel_rfl) (fun _ _ _ h => h) (Or.inl ⟨by rfl, ?_⟩) (by assumption) ?_
          rotate_left
          · (intro w hSw; (try dsimp only at hSw); go_simp; try with_reducible rfl)
          simp only [Act.put, List.setIfInBounds_toArray, List.set_cons_zero, List.set_cons_succ]
          refine wpAnyH_take (i := 9) (oi := ({ dst := some 36, op := Go.Op.load 3 (Go.Operand.tmp 35), type := 3, pos := _, after := #[{ on := 8, ground := Go.Ground.data }], guard := none } : Oper)) (v := ?_) rfl (by kernel_rfl) (by kernel_rfl) (by kernel_rfl) (fun _ _ _ h => h) (Or.inl ⟨by rfl, ?_⟩) (by assumption) ?_
          rotate_left
          · (intro w hSw; (try dsimp only at hSw); go_simp; try with_reducible rfl)
          simp only [Act.put, List.setIfInBounds_toArray, List.set_cons_zero, List.set_cons_succ]
          refine wpAnyH_take (i := 10) (oi := ({ dst := some 37, op := Go.Op.binOp Go.BinOp.mul 3 (Go.Operand.tmp 34) (Go.Operand.tmp 36) 3, type := 3, pos := _, after := #[{ on := 7, ground := Go.Ground.data }, { on := 9, ground := Go.Ground.data }], guard := none } : Oper)) (v := ?_) rfl (by kernel_rfl) (by kernel_rfl) (by kernel_rfl) (fun _ _ _ h => h) (Or.inl ⟨by rfl, ?_⟩) (by assumption) ?_
          rotate_left
          · (intro w hSw; (try dsimp only at hSw); go_simp; try with_reducible rfl)
          simp only [Act.put, List.setIfInBounds_toArray, List.set_cons_zero, List.set_cons_succ]
          refine wpAnyH_take (i := 11) (oi := ({ dst := some 38, op := Go.Op.move (Go.Operand.tmp 11), type := 22, pos := _, after := #[], guard := none } : Oper)) (v := ?_) rfl (by kernel_rfl) (by kernel_rfl) (by kernel_rfl) (fun _ _ _ h => h) (Or.inl ⟨by rfl, ?_⟩) (by assumption) ?_
          rotate_left
          · (intro w hSw; (try dsimp only at hSw); go_simp; try with_reducible rfl)
          simp only [Act.put, List.setIfInBounds_toArray, List.set_cons_zero, List.set_cons_succ]
          refine wpAnyH_take (i := 12) (oi := ({ dst := some 39, op := Go.Op.indexAddr 22 (Go.Operand.tmp 38) (Go.Operand.const (Go.Value.int Go.IntKind.i64 0)), type := 0, pos := _, after := #[{ on := 11, ground := Go.Ground.data }], guard := none } : Oper)) (v := ?_) rfl (by kernel_rfl) (by kernel_rfl) (by kernel_rfl) (fun _ _ _ h => h) (Or.inl ⟨by rfl, ?_⟩) (by assumption) ?_
          rotate_left
          · (intro w hSw; (try dsimp only at hSw); go_simp; try with_reducible rfl)
          simp only [Act.put, List.setIfInBounds_toArray, List.set_cons_zero, List.set_cons_succ]
          refine wpAnyH_take (i := 13) (oi := ({ dst := some 40, op := Go.Op.load 3 (Go.Operand.tmp 39), type := 3, pos := _, after := #[{ on := 12, ground := Go.Ground.data }], guard := none } : Oper)) (v := ?_) rfl (by kernel_rfl) (by kernel_rfl) (by kernel_rfl) (fun _ _ _ h => h) (Or.inl ⟨by rfl, ?_⟩) (by assumption) ?_
          rotate_left
          · (intro w hSw; (try dsimp only at hSw); go_simp; try with_reducible rfl)
          simp only [Act.put, List.setIfInBounds_toArray, List.set_cons_zero, List.set_cons_succ]
          refine wpAnyH_take (i := 14) (oi := ({ dst := some 41, op := Go.Op.binOp Go.BinOp.add 3 (Go.Operand.tmp 37) (Go.Operand.tmp 40) 3, type := 3, pos := _, after := #[{ on := 10, ground := Go.Ground.data }, { on := 13, ground := Go.Ground.data }], guard := none } : Oper)) (v := ?_) rfl (by kernel_rfl) (by kernel_rfl) (by kernel_rfl) (fun _ _ _ h => h) (Or.inl ⟨by rfl, ?_⟩) (by assumption) ?_
          rotate_left
          · (intro w hSw; (try dsimp only at hSw); go_simp; try with_reducible rfl)
          simp only [Act.put, List.setIfInBounds_toArray, List.set_cons_zero, List.set_cons_succ]
          refine wpAnyH_take (i := 15) (oi := ({ dst := some 42, op := Go.Op.indexAddr 22 (Go.Operand.tmp 31) (Go.Operand.tmp 41), type := 0, pos := _, after := #[{ on := 4, ground := Go.Ground.data }, { on := 14, ground := Go.Ground.data }], guard := none } : Oper)) (v := ?_) rfl (by kernel_rfl) (by kernel_rfl) (by kernel_rfl) (fun _ _ _ h => h) (Or.inl ⟨by rfl, ?_⟩) (by assumption) ?_
          rotate_left
          · (intro w hSw; (try dsimp only at hSw); go_simp; try with_reducible rfl)
          simp only [Act.put, List.setIfInBounds_toArray, List.set_cons_zero, List.set_cons_succ]
          refine wpAnyH_take (i := 16) (oi := ({ dst := some 43, op := Go.Op.load 3 (Go.Operand.tmp 42), type := 3, pos := _, after := #[{ on := 15, ground := Go.Ground.data }], guard := none } : Oper)) (v := ?_) rfl (by kernel_rfl) (by kernel_rfl) (by kernel_rfl) (fun _ _ _ h => h) (Or.inl ⟨by rfl, ?_⟩) (by assumption) ?_
          rotate_left
          · (intro w hSw; (try dsimp only at hSw); go_simp; try with_reducible rfl)
          simp only [Act.put, List.setIfInBounds_toArray, List.set_cons_zero, List.set_cons_succ]
          refine wpAnyH_take (i := 17) (oi := ({ dst := some 44, op := Go.Op.lookup 61 (Go.Operand.tmp 29) (Go.Operand.tmp 43) false, type := 3, pos := _, after := #[{ on := 2, ground := Go.Ground.data }, { on := 16, ground := Go.Ground.data }], guard := none } : Oper)) (v := ?_) rfl (by kernel_rfl) (by kernel_rfl) (by kernel_rfl) (fun _ _ _ h => h) (Or.inl ⟨by rfl, ?_⟩) (by assumption) ?_
          rotate_left
          · (intro w hSw; (try dsimp only at hSw); go_simp; try with_reducible rfl)
          simp only [Act.put, List.setIfInBounds_toArray, List.set_cons_zero, List.set_cons_succ]
          refine wpAnyH_ready (rs := [1, 18]) (by kernel_rfl) (by simp) (AllReadyH.cons (o := ({ dst := some 28, op := Go.Op.load 22 (Go.Operand.tmp 27), type := 22, pos := _, after := #[{ on := 0, ground := Go.Ground.data }], guard := none } : Oper)) rfl (fun KK hK => ?_) (AllReadyH.cons (o := ({ dst := some 45, op := Go.Op.buildSlice 22 1 #[(0, Go.Operand.tmp 44)], type := 22, pos := _, after := #[{ on := 17, ground := Go.Ground.data }], guard := none } : Oper)) rfl (fun KK hK => ?_) AllReadyH.nil))
          · go_simp
            refine hK.out _ _ hHeld (fun hHeld => ?_)
            clear hK
            try simp only [Act.put, List.setIfInBounds_toArray, List.set_cons_zero, List.set_cons_succ]
            refine wpAnyH_ready (rs := [18]) (by kernel_rfl) (by simp) (AllReadyH.cons (o := ({ dst := some 45, op := Go.Op.buildSlice 22 1 #[(0, Go.Operand.tmp 44)], type := 22, pos := _, after := #[{ on := 17, ground := Go.Ground.data }], guard := none } : Oper)) rfl (fun KK hK => ?_) AllReadyH.nil)
            go_simp
            refine hK.out _ _ (HS.out _ ((bdrew hB').alloc (bdrew hB').size _) (Blk.alloc (show Blk wr.drew w.heap.size 24 [.int .i64 n, .slice (some ⟨xb, xo, none⟩) zs.length vc] from hG') _)) (fun hHeld => ?_)
            clear hK
            try simp only [Act.put, List.setIfInBounds_toArray, List.set_cons_zero, List.set_cons_succ]
            refine wpAnyH_ready (rs := [19]) (by kernel_rfl) (by simp) (AllReadyH.cons (o := ({ dst := some 46, op := Go.Op.call { callee := Go.Callee.builtin Go.Builtin.append, args := #[Go.Operand.tmp 28, Go.Operand.tmp 45], argTypes := #[22, 22] }, type := 22, pos := _, after := #[{ on := 1, ground := Go.Ground.data }, { on := 18, ground := Go.Ground.data }], guard := none } : Oper)) rfl (fun KK hK => ?_) AllReadyH.nil)
            refine step_append_lies _ rfl _ _ 22 rfl (w.heap.size + 1 + 1 + 1) 3 i0 (.int .i64 0) 1 8 under22b hi hz0 hz1 hz2 rfl (by decide) _ _ _ rfl (World.ownsRow.alloc hown _) ⟨wr.heap.size, 0, none⟩ 1 1 [.int .i64 q9] rfl rfl (cell_one_new _ _ _) (by simp [Value.oneCell']) (by decide) (by unfold maxLen; have := HLL.out; omega) (by have := HLL.out; omega) (by simp; omega) _ rfl ?_
            intro g9 cap9 w9 hown9 hgrow hloc _
            have hk9 : ∀ k, k < w.heap.size + 1 + 1 + 1 → w9.heap[k]? = wr.heap[k]? := fun k hk => (hgrow.block k (by simp; omega) (fun e9 => by have := owns_ge hown k e9.symm; omega)).trans (Below.heap_alloc _ _ k (show k < wr.heap.size by omega))
            have hX9 : Blk w9 (w.heap.size + 1 + 1) 24 [.int .i64 K, .slice rx xs.length rcap] := hX'.of_eq (hk9 _ (by omega))
            have hcw := hX9.two.2.1
            have hfw := hX9.two.2.2.2
            have hG9 : BoxG w9 w.heap.size n (.slice (some ⟨xb, xo, none⟩) zs.length vc) := hG'.of_eq (hk9 _ (by omega))
            have hB9 : Below w.heap.size w w9 := ((bdrew hB').alloc (bdrew hB').size _).grown hgrow (by have := hB'.size; simp; omega) (fun t e9 => by have := owns_ge hown t e9; omega)
            have hG3 := hG9.other (p := ⟨w.heap.size + 1 + 1, 1, none⟩) (by simp; omega) (.slice (some ⟨g9, 0, none⟩) (xs.length + 1) cap9)
            have hB3 := hB9.setCell (p := ⟨w.heap.size + 1 + 1, 1, none⟩) (by simp; omega) (.slice (some ⟨g9, 0, none⟩) (xs.length + 1) cap9)
            refine hK.out _ _ (HS.out _ hB9 hG9) (fun hHeld => ?_)
            clear hK
            try simp only [Act.put, List.setIfInBounds_toArray, List.set_cons_zero, List.set_cons_succ]
            refine wpAnyH_take (i := 20) (oi := ({ dst := some 47, op := Go.Op.fieldAddr 24 (Go.Operand.tmp 7) 1, type := 0, pos := _, after := #[{ on := 0, ground := Go.Ground.phase }, { on := 1, ground := Go.Ground.phase }, { on := 2, ground := Go.Ground.phase }, { on := 3, ground := Go.Ground.phase }, { on := 4, ground := Go.Ground.phase }, { on := 5, ground := Go.Ground.phase }, { on := 6, ground := Go.Ground.phase }, { on := 7, ground := Go.Ground.phase }, { on := 8, ground := Go.Ground.phase }, { on := 9, ground := Go.Ground.phase }, { on := 10, ground := Go.Ground.phase }, { on := 11, ground := Go.Ground.phase }, { on := 12, ground := Go.Ground.phase }, { on := 13, ground := Go.Ground.phase }, { on := 14, ground := Go.Ground.phase }, { on := 15, ground := Go.Ground.phase }, { on := 16, ground := Go.Ground.phase }, { on := 17, ground := Go.Ground.phase }, { on := 18, ground := Go.Ground.phase }, { on := 19, ground := Go.Ground.phase }], guard := none } : Oper)) (v := ?_) rfl (by kernel_rfl) (by kernel_rfl) (by kernel_rfl) (fun _ _ _ h => h) (Or.inl ⟨by rfl, ?_⟩) (by assumption) ?_
            rotate_left
            · (intro w hSw; (try dsimp only at hSw); go_simp; try with_reducible rfl)
            simp only [Act.put, List.setIfInBounds_toArray, List.set_cons_zero, List.set_cons_succ]
            refine wpAnyH_ready (rs := [21]) (by kernel_rfl) (by simp) (AllReadyH.cons (o := ({ dst := none, op := Go.Op.store 22 (Go.Operand.tmp 47) (Go.Operand.tmp 46), type := 0, pos := _, after := #[{ on := 20, ground := Go.Ground.data }, { on := 19, ground := Go.Ground.data }, { on := 19, ground := Go.Ground.chain }, { on := 0, ground := Go.Ground.phase }, { on := 1, ground := Go.Ground.phase }, { on := 2, ground := Go.Ground.phase }, { on := 3, ground := Go.Ground.phase }, { on := 4, ground := Go.Ground.phase }, { on := 5, ground := Go.Ground.phase }, { on := 6, ground := Go.Ground.phase }, { on := 7, ground := Go.Ground.phase }, { on := 8, ground := Go.Ground.phase }, { on := 9, ground := Go.Ground.phase }, { on := 10, ground := Go.Ground.phase }, { on := 11, ground := Go.Ground.phase }, { on := 12, ground := Go.Ground.phase }, { on := 13, ground := Go.Ground.phase }, { on := 14, ground := Go.Ground.phase }, { on := 15, ground := Go.Ground.phase }, { on := 16, ground := Go.Ground.phase }, { on := 17, ground := Go.Ground.phase }, { on := 18, ground := Go.Ground.phase }, { on := 19, ground := Go.Ground.phase }], guard := none } : Oper)) rfl (fun KK hK => ?_) AllReadyH.nil)
            go_simp
            refine hK.out _ _ (HS.out _ hB3 hG3) (fun hHeld => ?_)
            clear hK
            try simp only [Act.put, List.setIfInBounds_toArray, List.set_cons_zero, List.set_cons_succ]
            refine wpAnyH_done (by kernel_rfl) ?_ _
            have hX3 := hX9.set 1 (.slice (some ⟨g9, 0, none⟩) (xs.length + 1) cap9)
            have hR9 : Blk w9 (w.heap.size + 1) 24 [.int .i64 0, .slice none 0 0] := hR'.of_eq (hk9 _ (by omega))
            have hR3 := hR9.other (p := ⟨w.heap.size + 1 + 1, 1, none⟩) (by simp) (.slice (some ⟨g9, 0, none⟩) (xs.length + 1) cap9)
            have hrow9 : Row w9 (w.heap.size + 1 + 1 + 1) (.slice (some ⟨g9, 0, none⟩) (xs.length + 1) cap9) (T.take (a * K + (b + 1))) := by
              unfold Row
              rw [HSN.out]
              simpa using hown9
            have hrow3 := row_keep (W' := w9.setCell ⟨w.heap.size + 1 + 1, 1, none⟩ (.slice (some ⟨g9, 0, none⟩) (xs.length + 1) cap9)) hrow9 (fun g h1 _ => Below.heap_setCell _ _ _ g (by simp; omega))
            clear hown9 hgrow hown hrow9 hk9 hloc
            go_wp2
            go_roundw
            case rel => exact ⟨b + 1, _, by omega, by go_num, hrow3, hG3, hR3, hX3, hB3⟩
            case measure => simp [intOf]; omega
          · go_simp
            refine hK.out _ _ (HS.out _ ((bdrew hB').alloc (bdrew hB').size _) (Blk.alloc (show Blk wr.drew w.heap.size 24 [.int .i64 n, .slice (some ⟨xb, xo, none⟩) zs.length vc] from hG') _)) (fun hHeld => ?_)
            clear hK
            try simp only [Act.put, List.setIfInBounds_toArray, List.set_cons_zero, List.set_cons_succ]
            refine wpAnyH_ready (rs := [1]) (by kernel_rfl) (by simp) (AllReadyH.cons (o := ({ dst := some 28, op := Go.Op.load 22 (Go.Operand.tmp 27), type := 22, pos := _, after := #[{ on := 0, ground := Go.Ground.data }], guard := none } : Oper)) rfl (fun KK hK => ?_) AllReadyH.nil)
            have x1a := (Blk.alloc (show Blk wr.drew (w.heap.size + 1 + 1) 24 [.int .i64 K, .slice rx xs.length rcap] from hX') (.cells #[.int .i64 q9] 3)).two.2.1
            go_simp
            refine hK.out _ _ hHeld (fun hHeld => ?_)
            clear hK
            try simp only [Act.put, List.setIfInBounds_toArray, List.set_cons_zero, List.set_cons_succ]
            refine wpAnyH_ready (rs := [19]) (by kernel_rfl) (by simp) (AllReadyH.cons (o := ({ dst := some 46, op := Go.Op.call { callee := Go.Callee.builtin Go.Builtin.append, args := #[Go.Operand.tmp 28, Go.Operand.tmp 45], argTypes := #[22, 22] }, type := 22, pos := _, after := #[{ on := 1, ground := Go.Ground.data }, { on := 18, ground := Go.Ground.data }], guard := none } : Oper)) rfl (fun KK hK => ?_) AllReadyH.nil)
            refine step_append_lies _ rfl _ _ 22 rfl (w.heap.size + 1 + 1 + 1) 3 i0 (.int .i64 0) 1 8 under22b hi hz0 hz1 hz2 rfl (by decide) _ _ _ rfl (World.ownsRow.alloc hown _) ⟨wr.heap.size, 0, none⟩ 1 1 [.int .i64 q9] rfl rfl (cell_one_new _ _ _) (by simp [Value.oneCell']) (by decide) (by unfold maxLen; have := HLL.out; omega) (by have := HLL.out; omega) (by simp; omega) _ rfl ?_
            intro g9 cap9 w9 hown9 hgrow hloc _
            have hk9 : ∀ k, k < w.heap.size + 1 + 1 + 1 → w9.heap[k]? = wr.heap[k]? := fun k hk => (hgrow.block k (by simp; omega) (fun e9 => by have := owns_ge hown k e9.symm; omega)).trans (Below.heap_alloc _ _ k (show k < wr.heap.size by omega))
            have hX9 : Blk w9 (w.heap.size + 1 + 1) 24 [.int .i64 K, .slice rx xs.length rcap] := hX'.of_eq (hk9 _ (by omega))
            have hcw := hX9.two.2.1
            have hfw := hX9.two.2.2.2
            have hG9 : BoxG w9 w.heap.size n (.slice (some ⟨xb, xo, none⟩) zs.length vc) := hG'.of_eq (hk9 _ (by omega))
            have hB9 : Below w.heap.size w w9 := ((bdrew hB').alloc (bdrew hB').size _).grown hgrow (by have := hB'.size; simp; omega) (fun t e9 => by have := owns_ge hown t e9; omega)
            have hG3 := hG9.other (p := ⟨w.heap.size + 1 + 1, 1, none⟩) (by simp; omega) (.slice (some ⟨g9, 0, none⟩) (xs.length + 1) cap9)
            have hB3 := hB9.setCell (p := ⟨w.heap.size + 1 + 1, 1, none⟩) (by simp; omega) (.slice (some ⟨g9, 0, none⟩) (xs.length + 1) cap9)
            refine hK.out _ _ (HS.out _ hB9 hG9) (fun hHeld => ?_)
            clear hK
            try simp only [Act.put, List.setIfInBounds_toArray, List.set_cons_zero, List.set_cons_succ]
            refine wpAnyH_take (i := 20) (oi := ({ dst := some 47, op := Go.Op.fieldAddr 24 (Go.Operand.tmp 7) 1, type := 0, pos := _, after := #[{ on := 0, ground := Go.Ground.phase }, { on := 1, ground := Go.Ground.phase }, { on := 2, ground := Go.Ground.phase }, { on := 3, ground := Go.Ground.phase }, { on := 4, ground := Go.Ground.phase }, { on := 5, ground := Go.Ground.phase }, { on := 6, ground := Go.Ground.phase }, { on := 7, ground := Go.Ground.phase }, { on := 8, ground := Go.Ground.phase }, { on := 9, ground := Go.Ground.phase }, { on := 10, ground := Go.Ground.phase }, { on := 11, ground := Go.Ground.phase }, { on := 12, ground := Go.Ground.phase }, { on := 13, ground := Go.Ground.phase }, { on := 14, ground := Go.Ground.phase }, { on := 15, ground := Go.Ground.phase }, { on := 16, ground := Go.Ground.phase }, { on := 17, ground := Go.Ground.phase }, { on := 18, ground := Go.Ground.phase }, { on := 19, ground := Go.Ground.phase }], guard := none } : Oper)) (v := ?_) rfl (by kernel_rfl) (by kernel_rfl) (by kernel_rfl) (fun _ _ _ h => h) (Or.inl ⟨by rfl, ?_⟩) (by assumption) ?_
            rotate_left
            · (intro w hSw; (try dsimp only at hSw); go_simp; try with_reducible rfl)
            simp only [Act.put, List.setIfInBounds_toArray, List.set_cons_zero, List.set_cons_succ]
            refine wpAnyH_ready (rs := [21]) (by kernel_rfl) (by simp) (AllReadyH.cons (o := ({ dst := none, op := Go.Op.store 22 (Go.Operand.tmp 47) (Go.Operand.tmp 46), type := 0, pos := _, after := #[{ on := 20, ground := Go.Ground.data }, { on := 19, ground := Go.Ground.data }, { on := 19, ground := Go.Ground.chain }, { on := 0, ground := Go.Ground.phase }, { on := 1, ground := Go.Ground.phase }, { on := 2, ground := Go.Ground.phase }, { on := 3, ground := Go.Ground.phase }, { on := 4, ground := Go.Ground.phase }, { on := 5, ground := Go.Ground.phase }, { on := 6, ground := Go.Ground.phase }, { on := 7, ground := Go.Ground.phase }, { on := 8, ground := Go.Ground.phase }, { on := 9, ground := Go.Ground.phase }, { on := 10, ground := Go.Ground.phase }, { on := 11, ground := Go.Ground.phase }, { on := 12, ground := Go.Ground.phase }, { on := 13, ground := Go.Ground.phase }, { on := 14, ground := Go.Ground.phase }, { on := 15, ground := Go.Ground.phase }, { on := 16, ground := Go.Ground.phase }, { on := 17, ground := Go.Ground.phase }, { on := 18, ground := Go.Ground.phase }, { on := 19, ground := Go.Ground.phase }], guard := none } : Oper)) rfl (fun KK hK => ?_) AllReadyH.nil)
            go_simp
            refine hK.out _ _ (HS.out _ hB3 hG3) (fun hHeld => ?_)
            clear hK
            try simp only [Act.put, List.setIfInBounds_toArray, List.set_cons_zero, List.set_cons_succ]
            refine wpAnyH_done (by kernel_rfl) ?_ _
            have hX3 := hX9.set 1 (.slice (some ⟨g9, 0, none⟩) (xs.length + 1) cap9)
            have hR9 : Blk w9 (w.heap.size + 1) 24 [.int .i64 0, .slice none 0 0] := hR'.of_eq (hk9 _ (by omega))
            have hR3 := hR9.other (p := ⟨w.heap.size + 1 + 1, 1, none⟩) (by simp) (.slice (some ⟨g9, 0, none⟩) (xs.length + 1) cap9)
            have hrow9 : Row w9 (w.heap.size + 1 + 1 + 1) (.slice (some ⟨g9, 0, none⟩) (xs.length + 1) cap9) (T.take (a * K + (b + 1))) := by
              unfold Row
              rw [HSN.out]
              simpa using hown9
            have hrow3 := row_keep (W' := w9.setCell ⟨w.heap.size + 1 + 1, 1, none⟩ (.slice (some ⟨g9, 0, none⟩) (xs.length + 1) cap9)) hrow9 (fun g h1 _ => Below.heap_setCell _ _ _ g (by simp; omega))
            clear hown9 hgrow hown hrow9 hk9 hloc
            go_wp2
            go_roundw
            case rel => exact ⟨b + 1, _, by omega, by go_num, hrow3, hG3, hR3, hX3, hB3⟩
            case measure => simp [intOf]; omega
        · have hbi : ¬ (b : Int) < (K : Int) := by omega
          have hbe : b = K := by omega
          have hrow' : Row wr (w.heap.size + 1 + 1 + 1) r' (T.take ((a + 1) * K)) := by rw [show (a + 1) * K = a * K + b by rw [Nat.succ_mul, hbe]]; exact hrow'
          clear hbe
          go_wp2
          go_roundw
          case rel => exact ⟨a + 1, r', by omega, by go_num, hrow', hG', hR', hX', hB'⟩
          case measure => simp [intOf]; omega
    · have hai : ¬ (a : Int) < (K : Int) := by omega
      have hae : a = K := by omega
      have hrow : Row wr (w.heap.size + 1 + 1 + 1) r T := by
        have : T.take (a * K) = T := List.take_of_length_le (by rw [HTL.out, hae]; exact Nat.le_refl _)
        rw [← this]; exact hrow
      clear hae
      obtain ⟨rx, rcap, rfl⟩ := own_slice hrow
      obtain ⟨x0, x1, _, _⟩ := hX.two
      obtain ⟨y0, y1, fy0, fy1⟩ := hR.two
      have hR6 := (hR.set 0 (.int .i64 K)).set 1 (.slice rx T.length rcap)
      have hB6 := (hB.setCell (p := ⟨w.heap.size + 1, 0, none⟩) (by simp) (.int .i64 K)).setCell (p := ⟨w.heap.size + 1, 1, none⟩) (by simp) (.slice rx T.length rcap)
      have hrow6 := row_keep (W' := (wr.setCell ⟨w.heap.size + 1, 0, none⟩ (.int .i64 K)).setCell ⟨w.heap.size + 1, 1, none⟩ (.slice rx T.length rcap)) hrow (fun g h1 _ => (Below.heap_setCell _ _ _ g (by simp; omega)).trans (Below.heap_setCell _ _ _ g (by simp; omega)))
      go_wp2
      obtain ⟨z0, z1, _, _⟩ := hR6.two
      exact bodyPost_ret (v := .agg #[.int .i64 K, .slice rx T.length rcap]) (by simp [results, Tryd.results31, go_sem, z0, z1]) rfl ⟨_, rfl, owns_mono hrow6 (by omega), hB6⟩
end Go.Proofs.YtjiapicknkjhmaaDoor

namespace Go.Proofs.YtjiapicknkjhmaaDoor
open Go Go.RowKit Go.Maps

set_option maxRecDepth 100000 in
set_option maxHeartbeats 4000000 in
theorem part_bad (N : Int) (v u : Value) (zs l : List Int) (w : World) (hv : Sl w v zs) (hu : Sl w u l) (hT : Tab w) (hc : (ufault N zs l).1 ≠ 0) :
    Calls Tryd.prog 9 #[.agg #[.int .i64 N, v], u] w fun x w' => x = .returned (.tuple #[.agg #[.int .i64 0, .slice none 0 0], .agg #[.int .i64 (ufault N zs l).1, .int .i64 (ufault N zs l).2]]) ∧ Below w.heap.size w w' := by
  obtain ⟨w0, BG⟩ := BegQ.new w N v
  have HN := hide (nrm_bad N v u zs l w0 (hv.below BG.bel) (hu.below BG.bel) (hT.below BG.bel) hc)
  obtain ⟨c0, c1, _, _⟩ := BG.box.two
  obtain ⟨c, i, hci⟩ : ∃ c i, ufault N zs l = (c, i) := ⟨_, _, rfl⟩
  rw [hci] at HN hc ⊢
  simp only at HN hc ⊢
  clear hci
  have hcb : (c != 0) = true := by simpa using hc
  rw [BG.eq] at c0 c1
  go_enter Tryd.func9, Tryd.ntmps9
  go_wp2_with fail
  rw [← BG.eq]
  clear c0 c1
  refine HN.out.mono ?_
  rintro x w1 ⟨rfl, hb1⟩
  have hb2 := bcat2 hb1 (balloc w1 (.cells #[.int .i64 c, .int .i64 i] 27))
  have hF2 := blk0 (w := w1) (T := 27) (.int .i64 c) (.int .i64 i)
  have hBw := bcat BG.bel hb2 BG.bel.size
  have hG2 := blk_below BG.grp hb2
  have hR2 := blk_below BG.res hb2
  obtain ⟨t0, t1, _, _⟩ := hF2.two
  obtain ⟨y0, y1, fy0, fy1⟩ := hR2.two
  obtain ⟨g0, g1, fg0, fg1⟩ := hG2.two
  obtain ⟨s0, s1⟩ := hG2.self
  obtain ⟨hR6, hB6⟩ := put2 hR2 hBw (by omega) c i
  have hG6 := (hG2.other (p := ⟨w.heap.size + 1 + 1, 0, none⟩) (by simp) (.int .i64 c)).other (p := ⟨w.heap.size + 1 + 1, 1, none⟩) (by simp) (.int .i64 i)
  obtain ⟨g2, g3, fg2, fg3⟩ := hG6.two
  obtain ⟨s2, s3⟩ := hG6.self
  go_wp2_with fail
  go_region
  all_goals (
    go_wp2
    obtain ⟨z0, z1, _, _⟩ := hR6.two
    exact bodyPost_ret (v := .tuple #[.agg #[.int .i64 0, .slice none 0 0], .agg #[.int .i64 c, .int .i64 i]]) (by simp [results, Tryd.results9, go_sem, z0, z1, g2, g3]) rfl ⟨rfl, bdrew hB6⟩)
/-- Lists of one number each. -/
def sgl (l : List Int) : List (List Int) := l.map fun x => [x]
theorem sgl_len (l : List Int) : (sgl l).length = l.length := by simp [sgl]
theorem sgl_get {l : List Int} {i : Nat} (h : i < l.length) : (sgl l)[i]?.getD [] = [l[i]?.getD 0] := by simp [sgl, h]
theorem sgl_succ {l : List Int} {j : Nat} (h : j < l.length) : sgl (l.take (j + 1)) = sgl (l.take j) ++ [[l[j]?.getD 0]] := by
  unfold sgl
  rw [List.take_add_one, List.map_append, List.getElem?_eq_getElem h]
  simp
theorem sgl_mem {l : List Int} {t : Nat} {x : Int} (h : x ∈ (sgl l)[t]?.getD []) : ∃ ht : t < l.length, x = l[t] := by
  by_cases ht : t < l.length
  · refine ⟨ht, ?_⟩
    simp [sgl, ht] at h
    exact h
  · simp [sgl, ht] at h
/-- Where a thing stands in a list. -/
def place (xs : List Nat) (a : Nat) : Nat := xs.findIdx fun b => decide (b = a)
theorem place_at {xs : List Nat} {a : Nat} (h : a ∈ xs) : ∃ hl : place xs a < xs.length, xs[place xs a] = a := by
  have hl : place xs a < xs.length := List.findIdx_lt_length_of_exists ⟨a, h, by simp⟩
  have h9 := List.findIdx_getElem (w := hl)
  exact ⟨hl, of_decide_eq_true h9⟩
/-- Products, by places. -/
def parF (n : Nat) (zs : List Int) (xs : List Nat) (i j : Nat) : Nat := place xs (tm n zs (xs[i]?.getD 0) (xs[j]?.getD 0))
set_option maxRecDepth 100000 in
set_option maxHeartbeats 8000000 in
theorem part_good (n e : Nat) (v u : Value) (zs l : List Int) (w : World) (hv : Sl w v zs) (hg : IsGrp n zs e) (hu : Sl w u l) (hT : Tab w) (hl : lfault n l = (0, 0)) (hsb : subT n zs e (pset l) = true) :
    Calls Tryd.prog 9 #[.agg #[.int .i64 n, v], u] w fun x w' => ∃ r1 r2 r3, x = .returned (.tuple #[.agg #[.int .i64 (lst n (pset l)).length, .slice r1 r2 r3], .agg #[.int .i64 0, .int .i64 0]]) ∧ Sl w' (.slice r1 r2 r3) (mkT (lst n (pset l)).length (parF n zs (lst n (pset l)))) ∧ Below w.heap.size w w' := by
  obtain ⟨i0, hi, hz0, hz1, hz2⟩ := info_parts info22b
  have hn := hg.tab.le
  have hli := set_lst (show (lfault n l).1 = 0 by rw [hl])
  obtain ⟨xs, hxs⟩ : ∃ xs, xs = lst n (pset l) := ⟨_, rfl⟩
  rw [← hxs] at hli ⊢
  have hxl : xs.length ≤ 60 := by
    have : xs.length ≤ n := by rw [hxs]; unfold lst; exact Nat.le_trans (List.length_filter_le _ _) (by simp)
    omega
  have hll : l.length = xs.length := by
    have := congrArg List.length hli
    rw [li_len] at this
    exact this
  have hget : ∀ i, (h : i < xs.length) → l[i]?.getD 0 = (xs[i] : Int) := fun i h => by rw [hli]; simp [li, h]
  have hxn : ∀ i, (h : i < xs.length) → xs[i] < n := fun i h => by
    have := List.getElem_mem h
    generalize xs[i] = y at *
    rw [hxs] at this
    exact (mem_lst.1 this).1
  have hnd : xs.Nodup := by rw [hxs]; exact List.nodup_range.sublist List.filter_sublist
  have hcl : ∀ i j, (h1 : i < xs.length) → (h2 : j < xs.length) → tm n zs xs[i] xs[j] ∈ xs := fun i j h1 h2 => by
    have m1 := List.getElem_mem h1
    have m2 := List.getElem_mem h2
    generalize xs[i] = y at *
    generalize xs[j] = z at *
    rw [hxs] at m1 m2 ⊢
    obtain ⟨a1, a2⟩ := mem_lst.1 m1
    obtain ⟨b1, b2⟩ := mem_lst.1 m2
    exact mem_lst.2 ⟨tm_lt hg.tab a1 b1, sub_mul hsb a1 b1 a2 b2⟩
  have HNUM := hide (fun W v9 (h : SlL W v9 (sgl l)) => numbers_ok v9 (sgl l) W h (by rw [sgl_len, hll]; exact hxl) (fun t ht => by rw [sgl_len] at ht; rw [sgl_get ht]; simp) (fun t a ha => by
    obtain ⟨ht, rfl⟩ := sgl_mem ha
    have h1 := hget t (by omega)
    have h2 := hxn t (by omega)
    rw [List.getElem?_eq_getElem ht, Option.getD_some] at h1
    omega) (fun s t a h1 h2 => by
    obtain ⟨hs, e1⟩ := sgl_mem h1
    obtain ⟨ht, e2⟩ := sgl_mem h2
    have h3 := hget s (by omega)
    have h4 := hget t (by omega)
    rw [List.getElem?_eq_getElem hs, Option.getD_some] at h3
    rw [List.getElem?_eq_getElem ht, Option.getD_some] at h4
    rcases Nat.lt_trichotomy s t with h | h | h
    · exact absurd (show xs[s]'(by omega) = xs[t]'(by omega) by omega) (List.pairwise_iff_getElem.1 hnd s t (by omega) (by omega) h)
    · exact h
    · exact absurd (show xs[t]'(by omega) = xs[s]'(by omega) by omega) (List.pairwise_iff_getElem.1 hnd t s (by omega) (by omega) h)))
  have HAT := hide (fun (D : DataW Unit) (h : MLs (sgl l) (sgl l).length 0 D) a (ha : a ∈ xs) => h.old (place xs a) (by
    obtain ⟨h1, _⟩ := place_at ha
    rw [sgl_len]; omega) a (by
    obtain ⟨h1, h2⟩ := place_at ha
    rw [sgl_get (by omega), hget _ h1, h2]
    simp))
  have HGR := hide (fun W lv mb c (D : DataW Unit) (h : Below w.heap.size w W) (hL : SlL W lv (sgl l)) (hm : W.ownsMap Tryd.prog 3 (plainElem Tryd.prog 3) mb c D) (hM : MLs (sgl l) (sgl l).length 0 D) =>
    group_ok n xs.length v lv zs (sgl l) (fun i => xs[i]?.getD 0) (parF n zs xs) mb c D W hg.tab (hv.below h) hL (by rw [sgl_len]; exact hll) hxl (fun i hi => by
      refine ⟨[], ?_, ?_⟩
      · rw [sgl_get (by omega), hget i hi, List.getElem?_eq_getElem hi]; rfl
      · rw [List.getElem?_eq_getElem hi]; exact hxn i hi) hm (fun i j hi hj => by
      unfold parF
      simp only [List.getElem?_eq_getElem hi, List.getElem?_eq_getElem hj, Option.getD_some]
      exact HAT.out D hM _ (hcl i j hi hj)) (fun i j hi hj => by
      unfold parF
      simp only [List.getElem?_eq_getElem hi, List.getElem?_eq_getElem hj, Option.getD_some]
      obtain ⟨h1, _⟩ := place_at (hcl i j hi hj)
      omega))
  obtain ⟨w0, BG⟩ := BegQ.new w n v
  have HN := hide (nrm_good n e v u zs l w0 (hv.below BG.bel) hg (hu.below BG.bel) (hT.below BG.bel) hl hsb)
  obtain ⟨bb, hbb⟩ : ∃ bb, bb = nrmq n zs e (pset l) := ⟨_, rfl⟩
  rw [← hbb] at HN
  have HU := hide hu
  obtain ⟨ua, uc, ub, uo, rfl, hur, hub, _, hum⟩ := hu
  have HUR := hide hur
  clear hbb hget hxn hnd hcl hur
  have HXS := hide hxs
  have HLI := hide hli
  have HLL := hide hll
  have HXL := hide hxl
  clear hxs hli hll hxl
  have HL6 := hide (show l.length ≤ 60 by rw [HLL.out]; exact HXL.out)
  obtain ⟨c0, c1, _, _⟩ := BG.box.two
  rw [BG.eq] at c0 c1
  go_enter Tryd.func9, Tryd.ntmps9
  go_wp2_with fail
  rw [← BG.eq]
  clear c0 c1
  refine HN.out.mono ?_
  rintro x w1 ⟨rfl, hb1⟩
  have hb2 := bcat2 hb1 (balloc w1 (.cells #[.int .i64 0, .int .i64 0] 27))
  have hF2 := blk0 (w := w1) (T := 27) (.int .i64 0) (.int .i64 0)
  have hBw := bcat BG.bel hb2 BG.bel.size
  have hX2 := blk_below BG.box hb2
  have hG2 := blk_below BG.grp hb2
  have hR2 := blk_below BG.res hb2
  obtain ⟨t0, t1, _, _⟩ := hF2.two
  go_wp2
  generalize w1.alloc (.cells #[.int .i64 0, .int .i64 0] 27) = w2 at *
  clear t0 t1 hb1 hb2 hF2
  have hum9 : l.length ≤ 9223372036854775807 := by unfold maxLen at hum; omega
  go_loopw [8, 24] (fun r i wr => ∃ (j : Nat) (vs : List Value), j ≤ l.length ∧ i = .int .i64 j ∧ wr.ownsRow w2.heap.size 22 1 r vs.length vs ∧ Lsts wr w2.heap.size r vs (sgl (l.take j)) ∧ Below w2.heap.size w2 wr) (fun _ i _ => l.length - (intOf i).toNat)
  case atStart => exact ⟨0, [], Nat.zero_le _, rfl, World.ownsRow_nil _ _ _ _, ⟨rfl, fun t x l h => by simp at h⟩, Below.refl _ _⟩
  case round =>
    obtain ⟨j, vs, hj, rfl, hrow, hls, hB⟩ := hrel
    obtain ⟨ra, rcap, rfl⟩ := own_slice' hrow
    have HVL := hide (show vs.length = j by rw [hls.1, sgl_len, List.length_take]; omega)
    by_cases hlt : j < l.length
    · have hji : (j : Int) < (l.length : Int) := by omega
      obtain rfl := HUR.out.at_ (by omega)
      have cx := below_cell (bcat2 hBw hB) (HUR.out.cell j hlt)
      have HST := hide (sgl_succ hlt)
      generalize l[j]?.getD 0 = x at *
      have hrow9 := (World.ownsRow.alloc (World.ownsRow.alloc hrow (.cells #[.int .i64 x] 3)) (.cells #[.slice (some ⟨wr.heap.size, 0, none⟩) 1 1] 22))
      go_wp2_with (first
        | (at_builtin; refine wpList_append_own_at _ rfl _ _ 33 rfl w2.heap.size 22 i0 (.slice none 0 0) 1 24 under25b hi hz0 hz1 hz2 rfl (by decide) _ _ _ rfl hrow9 ⟨wr.heap.size + 1, 0, none⟩ 1 1 [.slice (some ⟨wr.heap.size, 0, none⟩) 1 1] rfl rfl ?c1 ?c2 ?c3 ?c4 ?c5 ?_))
      case c1 =>
        have h9 := cell_one_new (wr.alloc (.cells #[.int .i64 x] 3)) (.slice (some ⟨wr.heap.size, 0, none⟩) 1 1) 22
        rw [World.size_alloc] at h9
        exact h9
      case c2 => simp [Value.oneCell']
      case c3 => unfold maxLen; have := HVL.out; have := HL6.out; omega
      case c4 => have := HVL.out; have := HL6.out; omega
      case c5 => have := hB.size; simp; omega
      intro v' w4 hown' hgrow hnil hloc
      obtain ⟨ra', rcap', rfl⟩ := own_slice' hown'
      have hB4 : Below w2.heap.size w2 w4 := ((hB.alloc hB.size _).alloc (by have := hB.size; simp; omega) _).grown hgrow (by have := hB.size; simp; omega) (fun t e => by have := owns_ge hrow t e; omega)
      have hown2 : ∀ g, (Value.slice ra vs.length rcap).ownBlock = some g → g < wr.heap.size := fun g hg => by
        rcases hrow.2 with ⟨h1, _⟩ | ⟨g', cap, cur, h1, _, hh9, _⟩
        · rw [h1] at hg; simp [Value.ownBlock] at hg
        · rw [h1] at hg
          simp [Value.ownBlock] at hg
          subst hg
          exact (Array.getElem?_eq_some_iff.1 hh9).1
      have hbl : ∀ g, g < wr.heap.size → (Value.slice ra vs.length rcap).ownBlock ≠ some g → w4.heap[g]? = wr.heap[g]? := fun g h1 h2 => (hgrow.block g (by simp; omega) (fun e => h2 e.symm)).trans ((Below.heap_alloc _ _ g (by simp; omega)).trans (Below.heap_alloc _ _ g h1))
      have hs4 : wr.heap.size + 2 ≤ w4.heap.size := by have := hgrow.size; simp at this; omega
      have hnew : w4.heap[wr.heap.size]? = some (.cells #[.int .i64 x] 3) := ((hgrow.block _ (by simp; omega) (fun e => by have := hown2 _ e.symm; omega)).trans (Below.heap_alloc _ _ _ (by simp))).trans (World.alloc_heap_new wr _)
      have hlo : (Value.slice ra' (vs.length + 1) rcap').ownBlock = (Value.slice ra vs.length rcap).ownBlock ∨ ∀ g, (Value.slice ra' (vs.length + 1) rcap').ownBlock = some g → wr.heap.size + 2 ≤ g := by
        rcases hloc with h | h
        · exact .inl h
        · right; intro g hg; rw [h] at hg; simp at hg; omega
      have hcx : w4.cell? ⟨wr.heap.size, 0 + 0, none⟩ = some (.int .i64 x) := by simp [World.cell?, hnew]
      have hls4 := (hls.keep (r' := .slice ra' (vs.length + 1) rcap') (by omega) (fun g _ h2 h3 => hbl g h2 h3) (hlo.imp id fun h g hg => by have := h g hg; omega)).snoc (x := .slice (some ⟨wr.heap.size, 0, none⟩) 1 1) (l := [x]) ⟨some ⟨wr.heap.size, 0, none⟩, 1, wr.heap.size, 0, rfl, ⟨fun _ => rfl, fun k hk => by
        have : k = 0 := by simp at hk; omega
        subst this
        exact hcx⟩, by omega, by simp, by unfold maxLen; omega, hB.size, fun g hg e => by
        subst e
        rcases hlo with h | h
        · have := hown2 _ (h ▸ hg); omega
        · have := h _ hg; omega⟩
      have hrow4 : w4.ownsRow w2.heap.size 22 1 (.slice ra' (vs.length + 1) rcap') (vs ++ [Value.slice (some ⟨wr.heap.size, 0, none⟩) 1 1]).length (vs ++ [Value.slice (some ⟨wr.heap.size, 0, none⟩) 1 1]) := by simpa using hown'
      clear hown' hgrow hloc hlo hbl hrow hls hrow9 hown2 hnew hcx hs4
      go_wp2
      go_roundw
      case rel => exact ⟨j + 1, _, by omega, by go_num, hrow4, by rw [HST.out]; exact hls4, hB4⟩
      case measure => simp [intOf]; omega
    · have hji : ¬ (j : Int) < (l.length : Int) := by omega
      have hjl : l.take j = l := List.take_of_length_le (by omega)
      rw [hjl] at hls
      have hBr := bcat2 hBw hB
      have hsl := SlL.of_own hrow hls (Nat.lt_of_lt_of_le hT.lt hBr.size)
      have hX := blk_below hX2 hB
      have hG := blk_below hG2 hB
      have hR := blk_below hR2 hB
      have hRl := hR.lt
      clear hjl hrow hls
      have HNW := hide (fun W (h : SlL W (.slice ra vs.length rcap) (sgl l)) => HNUM.out W _ h)
      go_wp2_with fail
      have hS9 : (fun W => W.cell? ⟨w.heap.size, 0, none⟩ = some (.int .i64 n) ∧ W.cell? ⟨w.heap.size, 1, none⟩ = some v) wr.drew := ⟨hX.two.1, hX.two.2.1⟩
      refine wp_region_held_drew (S := (fun W => W.cell? ⟨w.heap.size, 0, none⟩ = some (.int .i64 n) ∧ W.cell? ⟨w.heap.size, 1, none⟩ = some v)) (by kernel_rfl) hS9 (fun hHeld => ?_)
      refine wpAnyH_take (i := 0) (oi := ({ dst := some 34, op := Go.Op.load 24 (Go.Operand.tmp 2), type := 24, pos := _, after := #[], guard := none } : Oper)) (v := ?_) rfl (by kernel_rfl) (by kernel_rfl) (by kernel_rfl) (fun _ _ _ h => h) (Or.inl ⟨by rfl, ?_⟩) (by assumption) ?_
      rotate_left
      · (intro w hSw; (try dsimp only at hSw); go_simp; try with_reducible rfl)
      simp only [Act.put, List.setIfInBounds_toArray, List.set_cons_zero, List.set_cons_succ]
      refine wpAnyH_take (i := 1) (oi := ({ dst := some 35, op := Go.Op.move (Go.Operand.tmp 8), type := 33, pos := _, after := #[], guard := none } : Oper)) (v := ?_) rfl (by kernel_rfl) (by kernel_rfl) (by kernel_rfl) (fun _ _ _ h => h) (Or.inl ⟨by rfl, ?_⟩) (by assumption) ?_
      rotate_left
      · (intro w hSw; (try dsimp only at hSw); go_simp; try with_reducible rfl)
      simp only [Act.put, List.setIfInBounds_toArray, List.set_cons_zero, List.set_cons_succ]
      refine wpAnyH_take (i := 2) (oi := ({ dst := some 36, op := Go.Op.move (Go.Operand.tmp 8), type := 33, pos := _, after := #[], guard := none } : Oper)) (v := ?_) rfl (by kernel_rfl) (by kernel_rfl) (by kernel_rfl) (fun _ _ _ h => h) (Or.inl ⟨by rfl, ?_⟩) (by assumption) ?_
      rotate_left
      · (intro w hSw; (try dsimp only at hSw); go_simp; try with_reducible rfl)
      simp only [Act.put, List.setIfInBounds_toArray, List.set_cons_zero, List.set_cons_succ]
      refine wpAnyH_take (i := 5) (oi := ({ dst := some 39, op := Go.Op.build 27 #[], type := 27, pos := _, after := #[{ on := 6, ground := Go.Ground.gcOnly Go.Departure.lateStores }], guard := none } : Oper)) (v := ?_) rfl (by kernel_rfl) (by kernel_rfl) (by kernel_rfl) (fun _ _ _ h => h) (Or.inl ⟨by rfl, ?_⟩) (by assumption) ?_
      rotate_left
      · (intro w hSw; (try dsimp only at hSw); go_simp; try with_reducible rfl)
      simp only [Act.put, List.setIfInBounds_toArray, List.set_cons_zero, List.set_cons_succ]
      refine wpAnyH_ready (rs := [3]) (by kernel_rfl) (by simp) (AllReadyH.cons (o := ({ dst := some 37, op := Go.Op.call { callee := Go.Callee.value (Go.Operand.func 32), args := #[Go.Operand.tmp 36], argTypes := #[33] }, type := 61, pos := _, after := #[{ on := 2, ground := Go.Ground.data }], guard := none } : Oper)) rfl (fun KK hK => ?_) AllReadyH.nil)
      go_simp
      refine (HNW.out wr.drew (hsl.below (bdrew (Below.refl _ _)))).mono ?_
      rintro x w4 ⟨D, rfl, hmap, hML, hb4⟩
      have hbd := bcat2 (bdrew (Below.refl wr.heap.size wr)) hb4
      have hX4 := blk_below hX hbd
      try go_wp2_with fail
      refine hK.out _ _ ⟨hX4.two.1, hX4.two.2.1⟩ (fun hHeld => ?_)
      clear hK
      try simp only [Act.put, List.setIfInBounds_toArray, List.set_cons_zero, List.set_cons_succ]
      refine wpAnyH_ready (rs := [4]) (by kernel_rfl) (by simp) (AllReadyH.cons (o := ({ dst := some 38, op := Go.Op.call { callee := Go.Callee.value (Go.Operand.func 31), args := #[Go.Operand.tmp 34, Go.Operand.tmp 35, Go.Operand.tmp 37], argTypes := #[24, 33, 61] }, type := 24, pos := _, after := #[{ on := 0, ground := Go.Ground.data }, { on := 1, ground := Go.Ground.data }, { on := 3, ground := Go.Ground.data }, { on := 3, ground := Go.Ground.chain }], guard := none } : Oper)) rfl (fun KK hK => ?_) AllReadyH.nil)
      go_simp
      refine (HGR.out w4 _ _ _ D (bcat2 hBr hbd) (hsl.below hbd) hmap hML).mono ?_
      rintro x w6 ⟨r, rfl, hrow, hb6⟩
      have hb46 := bcat2 hbd hb6
      have hG6 := blk_below hG hb46
      have hR6 := blk_below hR hb46
      have hX6 := blk_below hX hb46
      have hB6 := bcat2 hBr hb46
      try go_wp2_with fail
      refine hK.out _ _ ⟨hX6.two.1, hX6.two.2.1⟩ (fun hHeld => ?_)
      clear hK
      try simp only [Act.put, List.setIfInBounds_toArray, List.set_cons_zero, List.set_cons_succ]
      obtain ⟨T, hTe⟩ : ∃ T, T = mkT xs.length (parF n zs xs) := ⟨_, rfl⟩
      rw [← hTe] at hrow
      have HTE := hide hTe
      clear hTe
      obtain ⟨rx, rcap9, rfl⟩ := own_slice hrow
      obtain ⟨g0, g1, fg0, fg1⟩ := hG6.two
      have hG7 := (hG6.set 0 (.int .i64 xs.length)).set 1 (.slice rx T.length rcap9)
      have hR7 := (hR6.other (p := ⟨w.heap.size + 1, 0, none⟩) (by simp) (.int .i64 xs.length)).other (p := ⟨w.heap.size + 1, 1, none⟩) (by simp) (.slice rx T.length rcap9)
      have hX7 := (hX6.other (p := ⟨w.heap.size + 1, 0, none⟩) (by simp) (.int .i64 xs.length)).other (p := ⟨w.heap.size + 1, 1, none⟩) (by simp) (.slice rx T.length rcap9)
      have hB7 := (hB6.setCell (p := ⟨w.heap.size + 1, 0, none⟩) (by simp) (.int .i64 xs.length)).setCell (p := ⟨w.heap.size + 1, 1, none⟩) (by simp) (.slice rx T.length rcap9)
      have hb4s := hbd.size
      have hrow7 := row_keep (W' := (w6.setCell ⟨w.heap.size + 1, 0, none⟩ (.int .i64 xs.length)).setCell ⟨w.heap.size + 1, 1, none⟩ (.slice rx T.length rcap9)) hrow (fun g h1 _ => (Below.heap_setCell _ _ _ g (by simp; omega)).trans (Below.heap_setCell _ _ _ g (by simp; omega)))
      have hsl7 := row_sl hrow7 (by rw [size_set, size_set]; have := hb6.size; omega)
      refine wpAnyH_ready (rs := [6]) (by kernel_rfl) (by simp) (AllReadyH.cons (o := ({ dst := none, op := Go.Op.store 24 (Go.Operand.tmp 4) (Go.Operand.tmp 38), type := 0, pos := _, after := #[{ on := 4, ground := Go.Ground.data }, { on := 4, ground := Go.Ground.chain }, { on := 0, ground := Go.Ground.phase }, { on := 1, ground := Go.Ground.phase }, { on := 2, ground := Go.Ground.phase }, { on := 3, ground := Go.Ground.phase }, { on := 4, ground := Go.Ground.phase }, { on := 5, ground := Go.Ground.textOnly Go.Departure.lateStores }], guard := none } : Oper)) rfl (fun KK hK => ?_) AllReadyH.nil)
      go_simp
      refine hK.out _ _ ⟨hX7.two.1, hX7.two.2.1⟩ (fun hHeld => ?_)
      clear hK
      try simp only [Act.put, List.setIfInBounds_toArray, List.set_cons_zero, List.set_cons_succ]
      obtain ⟨v0, v1, fv0, fv1⟩ := hR6.two
      obtain ⟨y0, y1, fy0, fy1⟩ := hR7.two
      obtain ⟨s0, s1⟩ := hR7.self
      obtain ⟨z0, z1, _, _⟩ := hG7.two
      generalize (w6.setCell ⟨w.heap.size + 1, 0, none⟩ (.int .i64 xs.length)).setCell ⟨w.heap.size + 1, 1, none⟩ (.slice rx T.length rcap9) = W7 at *
      refine wpAnyH_ready (rs := [7]) (by kernel_rfl) (by simp) (AllReadyH.cons (o := ({ dst := none, op := Go.Op.store 27 (Go.Operand.tmp 5) (Go.Operand.tmp 39), type := 0, pos := _, after := #[{ on := 5, ground := Go.Ground.data }, { on := 6, ground := Go.Ground.chain }, { on := 0, ground := Go.Ground.phase }, { on := 1, ground := Go.Ground.phase }, { on := 2, ground := Go.Ground.phase }, { on := 3, ground := Go.Ground.phase }, { on := 4, ground := Go.Ground.phase }, { on := 5, ground := Go.Ground.phase }, { on := 6, ground := Go.Ground.phase }], guard := none } : Oper)) rfl (fun KK hK => ?_) AllReadyH.nil)
      go_simp
      refine hK.out _ _ ⟨hX7.two.1, hX7.two.2.1⟩ (fun hHeld => ?_)
      clear hK
      try simp only [Act.put, List.setIfInBounds_toArray, List.set_cons_zero, List.set_cons_succ]
      refine wpAnyH_done (by kernel_rfl) ?_ _
      go_wp2
      exact bodyPost_ret (v := .tuple #[.agg #[.int .i64 xs.length, .slice rx T.length rcap9], .agg #[.int .i64 0, .int .i64 0]]) (by simp [results, Tryd.results9, go_sem, z0, z1, y0, y1]) rfl ⟨_, _, _, rfl, by rw [← HTE.out]; exact hsl7, hB7⟩
end Go.Proofs.YtjiapicknkjhmaaDoor

namespace Go.Proofs.YtjiapicknkjhmaaDoor
open Go Go.RowKit Go.Maps

section
variable {n e : Nat} {zs : List Int} {q : Nat → Bool}
theorem iv_one (g : IsGrp n zs e) : iv n zs e e = e := by
  obtain ⟨h1, h2, _, _⟩ := iv_spec g g.elt
  rw [g.left _ h1] at h2
  exact h2
theorem place_get {xs : List Nat} (hnd : xs.Nodup) {i : Nat} (hi : i < xs.length) : place xs xs[i] = i := by
  obtain ⟨hl, h1⟩ := place_at (List.getElem_mem hi)
  exact (List.getElem_inj hnd).1 h1
theorem place_inj {xs : List Nat} {a b : Nat} (ha : a ∈ xs) (hb : b ∈ xs) (h : place xs a = place xs b) : a = b := by
  obtain ⟨h1, h2⟩ := place_at ha
  obtain ⟨h3, h4⟩ := place_at hb
  rw [← h2, ← h4]
  simp only [h]
/-- The thing at a place. -/
def thing (xs : List Nat) (i : Nat) : Nat := xs[i]?.getD 0
theorem thing_eq {xs : List Nat} {i : Nat} (hi : i < xs.length) : thing xs i = xs[i] := by unfold thing; rw [List.getElem?_eq_getElem hi]; rfl
theorem thing_place {xs : List Nat} {a : Nat} (ha : a ∈ xs) : thing xs (place xs a) = a := by
  obtain ⟨h1, h2⟩ := place_at ha
  rw [thing_eq h1, h2]
theorem place_thing {xs : List Nat} (hnd : xs.Nodup) {i : Nat} (hi : i < xs.length) : place xs (thing xs i) = i := by rw [thing_eq hi, place_get hnd hi]
theorem thing_mem {xs : List Nat} {i : Nat} (hi : i < xs.length) : thing xs i ∈ xs := by rw [thing_eq hi]; exact List.getElem_mem hi
theorem sub_mulL (hs : subT n zs e q = true) {a b : Nat} (ha : a ∈ lst n q) (hb : b ∈ lst n q) (g : IsGrp n zs e) : tm n zs a b ∈ lst n q := by
  obtain ⟨a1, a2⟩ := mem_lst.1 ha
  obtain ⟨b1, b2⟩ := mem_lst.1 hb
  exact mem_lst.2 ⟨tm_lt g.tab a1 b1, (subT_iff.1 hs).2 a b (List.mem_range.2 a1) (List.mem_range.2 b1) a2 b2⟩
theorem par_eq {n : Nat} {zs : List Int} {xs : List Nat} (i j : Nat) : parF n zs xs i j = place xs (tm n zs (thing xs i) (thing xs j)) := rfl
theorem par_thing (g : IsGrp n zs e) (hs : subT n zs e q = true) {i j : Nat} (hi : i < (lst n q).length) (hj : j < (lst n q).length) : parF n zs (lst n q) i j < (lst n q).length ∧ thing (lst n q) (parF n zs (lst n q) i j) = tm n zs (thing (lst n q) i) (thing (lst n q) j) := by
  have hm := sub_mulL hs (thing_mem hi) (thing_mem hj) g
  obtain ⟨h1, _⟩ := place_at hm
  rw [par_eq]
  exact ⟨h1, thing_place hm⟩
/-- A part is a group. -/
theorem part_grp (g : IsGrp n zs e) (hs : subT n zs e q = true) : IsGrp (lst n q).length (mkT (lst n q).length (parF n zs (lst n q))) (place (lst n q) e) := by
  have hel : e ∈ lst n q := mem_lst.2 ⟨g.elt, (subT_iff.1 hs).1⟩
  have hnd := lst_nd n q
  obtain ⟨he, _⟩ := place_at hel
  have hlt : ∀ i, i < (lst n q).length → thing (lst n q) i < n := fun i hi => (mem_lst.1 (thing_mem hi)).1
  refine grp_mk (by omega) (Nat.le_trans (lst_len n q) g.tab.le) (fun a b ha hb => (par_thing g hs ha hb).1) he (fun a ha => ?_) (fun a ha => ?_) (fun a b c ha hb hc => ?_) (fun a ha => ?_)
  · rw [par_eq, thing_place hel, g.left _ (hlt a ha), place_thing hnd ha]
  · rw [par_eq, thing_place hel, g.right _ (hlt a ha), place_thing hnd ha]
  · have h1 : parF n zs (lst n q) (parF n zs (lst n q) a b) c = place (lst n q) (tm n zs (tm n zs (thing (lst n q) a) (thing (lst n q) b)) (thing (lst n q) c)) := by rw [par_eq (parF n zs (lst n q) a b) c, (par_thing g hs ha hb).2]
    have h2 : parF n zs (lst n q) a (parF n zs (lst n q) b c) = place (lst n q) (tm n zs (thing (lst n q) a) (tm n zs (thing (lst n q) b) (thing (lst n q) c))) := by rw [par_eq a (parF n zs (lst n q) b c), (par_thing g hs hb hc).2]
    rw [h1, h2, g.ass _ _ _ (hlt a ha) (hlt b hb) (hlt c hc)]
  · obtain ⟨m1, m2⟩ := mem_lst.1 (thing_mem ha)
    obtain ⟨i1, i2⟩ := sub_iv g hs m1 m2
    have hm : iv n zs e (thing (lst n q) a) ∈ lst n q := mem_lst.2 ⟨i1, i2⟩
    refine ⟨place (lst n q) (iv n zs e (thing (lst n q) a)), (place_at hm).1, ?_⟩
    rw [par_eq, thing_place hm, (iv_spec g m1).2.1]
/-- The things of a part stand for those of the group. -/
theorem part_mul (g : IsGrp n zs e) (hs : subT n zs e q = true) {i j : Nat} (hi : i < (lst n q).length) (hj : j < (lst n q).length) : thing (lst n q) (tm (lst n q).length (mkT (lst n q).length (parF n zs (lst n q))) i j) = tm n zs (thing (lst n q) i) (thing (lst n q) j) := by
  rw [tm_mk hi hj]
  exact (par_thing g hs hi hj).2
end
end Go.Proofs.YtjiapicknkjhmaaDoor
