/- Sylow's theorems: the conjugates of a subgroup of a power of p things that no thing makes a greater one are, one left out, a multiple of p; each subgroup of a power of p things is in one of them; each has as many things as the greatest power of p in how many there are; and how many they are, times how many things keep one, are all things. No condition. Package prod: what Complements answers. Condition: the library's table of places lies as its text lays it. Schur and Zassenhaus in a group of at most 24 things: a subgroup whose size and index have nothing in common has a complement. No condition. When a subgroup is a complement: as the program asks, as the document asks, and that there is one. No condition. What the document's Parted answers. What the document's Span, Stays, Commutator, Lists and SameGroup, and listsAs of the laws, answer. The document's Subgroups: its closure (a list is put to those that are there, where it is new). The document's way to all subgroups, as mathematics: cyclic ones, and what each makes with a cyclic one, until nothing is new. The document's Less, and its way to put lists in order, as mathematics. -/
import Derived.Test.YtgejngpioldhpaaGreatDoorZ10
import Derived.Test.YtgejngpioldhpaaGreatDoorZ3
import Derived.Test.YtgejngpioldhpaaGreatDoorZ4
import Derived.Test.YtgejngpioldhpaaGreatDoorZ8
import Derived.Maps.AppendAt
import Derived.Test.YtgejngpioldhpaaGreatDoorZ9
namespace Go.Proofs.YtgejngpioldhpaaGreatDoor
variable {n e p : Nat} {zs : List Int} {s q : Nat → Bool}

/-- The number of a conjugate, and how a thing moves it. -/
abbrev fc (n : Nat) (zs : List Int) (e : Nat) (s : Nat → Bool) (a : Nat) : Nat := bs (cjq n zs e s a) n
def tq (n : Nat) (zs : List Int) (e : Nat) (c x : Nat) : Nat := bs (cjq n zs e (fun y => c.testBit y) x) n
theorem tq_bs {x : Nat} : tq n zs e (bs q n) x = bs (cjq n zs e q x) n := by
  have h : lst n (fun y => (bs q n).testBit y) = lst n q := lst_congr fun y hy => by rw [bs_bit]; simp [hy]
  unfold tq cjq
  rw [h]
theorem tq_fc (g : IsGrp n zs e) {a x : Nat} (ha : a < n) (hx : x < n) : tq n zs e (fc n zs e s a) x = fc n zs e s (tm n zs a x) := by
  rw [tq_bs]
  exact cjq_twice g ha hx
theorem cjq_e (g : IsGrp n zs e) : bs (cjq n zs e s e) n = bs s n := by
  have F := grp_fg g
  have V := grp_iv g
  refine bs_ext fun y hy => ?_
  rw [Bool.eq_iff_iff, cjq_iff]
  constructor
  · rintro ⟨x, hx, h1, rfl⟩
    rwa [Fin.cj_id F V hx]
  · intro h
    exact ⟨y, List.mem_range.2 hy, h, Fin.cj_id F V (List.mem_range.2 hy)⟩
theorem cj_sg (g : IsGrp n zs e) (hq : subT n zs e q = true) {b : Nat} (hb : b < n) : subT n zs e (cjq n zs e q b) = true := by
  have F := grp_fg g
  have V := grp_iv g
  have S := subT_iff.1 hq
  have hb' := List.mem_range.2 hb
  refine subT_iff.2 ⟨cjq_iff.2 ⟨e, F.one, S.one, Fin.cj_one F V hb'⟩, fun x y hx hy h1 h2 => ?_⟩
  obtain ⟨u, hu, k1, rfl⟩ := cjq_iff.1 h1
  obtain ⟨v, hv, k2, rfl⟩ := cjq_iff.1 h2
  exact cjq_iff.2 ⟨tm n zs u v, F.cl _ _ hu hv, S.mul u v hu hv k1 k2, Fin.cj_mul F V hu hv hb'⟩
theorem lst_nd (n : Nat) (q : Nat → Bool) : (lst n q).Nodup := List.nodup_range.sublist List.filter_sublist
theorem cj_len (g : IsGrp n zs e) {b : Nat} (hb : b < n) : (lst n (cjq n zs e q b)).length = (lst n q).length := by
  have F := grp_fg g
  have V := grp_iv g
  have hb' := List.mem_range.2 hb
  symm
  refine Fin.bij_len (fun x => Fin.cj (tm n zs) (iv n zs e) x b) (lst_nd n q) (lst_nd n _) (fun x hx => ?_) (fun x y hx hy h => ?_) (fun y hy => ?_)
  · obtain ⟨h1, h2⟩ := mem_lst.1 hx
    exact mem_lst.2 ⟨List.mem_range.1 (Fin.cj_mem F V (List.mem_range.2 h1) hb'), cjq_iff.2 ⟨x, List.mem_range.2 h1, h2, rfl⟩⟩
  · have h1 := (Fin.cj_back F V (List.mem_range.2 (mem_lst.1 hx).1) hb').1
    have h2 := (Fin.cj_back F V (List.mem_range.2 (mem_lst.1 hy).1) hb').1
    have h : Fin.cj (tm n zs) (iv n zs e) x b = Fin.cj (tm n zs) (iv n zs e) y b := h
    rw [← h1, h, h2]
  · obtain ⟨h1, h2⟩ := mem_lst.1 hy
    obtain ⟨x, hx, k, rfl⟩ := cjq_iff.1 h2
    exact ⟨x, mem_lst.2 ⟨List.mem_range.1 hx, k⟩, rfl⟩
/-- A subgroup of a power of p things that keeps a greatest one is in it. -/
theorem norm_in (g : IsGrp n zs e) (hpr : primeB p = true) (hG : Grown n zs e p s) (hq : subT n zs e q = true) (hpw : isPw (lst n q).length p)
    (hno : ∀ x, x < n → q x = true → bs (cjq n zs e s x) n = bs s n) {x : Nat} (hx : x < n) (hqx : q x = true) : s x = true := by
  have F := grp_fg g
  have V := grp_iv g
  have S := subT_iff.1 hG.sub
  have Q := subT_iff.1 hq
  obtain ⟨r, hr⟩ := Fin.test_of (fun x => ∃ a b, a ∈ List.range n ∧ b ∈ List.range n ∧ q a = true ∧ s b = true ∧ tm n zs a b = x)
  have hnc : ∀ a b, a ∈ List.range n → b ∈ List.range n → q a = true → s b = true → s (Fin.cj (tm n zs) (iv n zs e) b a) = true := fun a b ha hb h1 h2 => by
    have hm := Fin.cj_mem F V hb ha
    rw [← bs_inj (hno a (List.mem_range.1 ha) h1) _ (List.mem_range.1 hm)]
    exact cjq_iff.2 ⟨b, hb, h2, rfl⟩
  have R : Fin.Sg (List.range n) (tm n zs) e (fun a => r a = true) := by
    refine ⟨(hr e).2 ⟨e, e, F.one, F.one, Q.one, S.one, F.left e F.one⟩, fun y z hy hz h1 h2 => ?_⟩
    obtain ⟨a, b, ha, hb, k1, k2, rfl⟩ := (hr y).1 h1
    obtain ⟨c, d, hc, hd, k3, k4, rfl⟩ := (hr z).1 h2
    have hcm := Fin.cj_mem F V hb hc
    refine (hr _).2 ⟨tm n zs a c, tm n zs (Fin.cj (tm n zs) (iv n zs e) b c) d, F.cl _ _ ha hc, F.cl _ _ hcm hd, Q.mul a c ha hc k1 k3, S.mul _ _ hcm hd (hnc c b hc hb k3 k2) k4, ?_⟩
    rw [F.ass _ _ _ ha hc (F.cl _ _ hcm hd), ← F.ass _ _ _ hc hcm hd, Fin.cj_eq F V hb hc, F.ass _ _ _ hb hc hd, ← F.ass _ _ _ ha hb (F.cl _ _ hc hd)]
  have hlen := Fin.prod_formula F (N := n) (fun x hx => List.mem_range.1 hx) Q S r (fun x _ => hr x)
  obtain ⟨i, hi⟩ := hpw
  obtain ⟨j, hj⟩ := hG.pow
  have hrp : isPw (lst n r).length p := dvd_pw (prime_of hpr) (i + j) _ ⟨_, by rw [Nat.pow_add, ← hi, ← hj]; exact hlen.symm⟩
  obtain ⟨t, ht⟩ := mkd_ex' n zs e (fun y => s y || decide (y = x))
  have T := made_sg g ht
  have h1 : t x = true := (ht x hx).2 (Fin.Gen.base (List.mem_range.2 hx) (by simp))
  rcases hG.top x t hx ht with h2 | h2
  · rw [← bs_inj h2 x hx]; exact h1
  · exfalso
    apply h2
    obtain ⟨k, hk⟩ := hrp
    refine dvd_pw (prime_of hpr) k _ ?_
    rw [← hk]
    refine Fin.lagr (Fin.sg_fg F R) (Fin.sg_fg F T) (fun y hy => ?_)
    obtain ⟨hy1, hy2⟩ := List.mem_filter.1 hy
    refine List.mem_filter.2 ⟨hy1, Fin.Gen.least R (fun z hz h3 => ?_) ((ht y (List.mem_range.1 hy1)).1 hy2)⟩
    simp only [Bool.or_eq_true, decide_eq_true_eq] at h3
    rcases h3 with h3 | h3
    · exact (hr z).2 ⟨e, z, F.one, hz, Q.one, h3, F.left z hz⟩
    · subst h3
      exact (hr z).2 ⟨z, e, hz, F.one, hqx, S.one, F.right z hz⟩
theorem mv_conj (g : IsGrp n zs e) {X : List Nat} (hX : ∀ c, c ∈ X ↔ ∃ a, a < n ∧ fc n zs e s a = c) {P : List Nat} (hP : ∀ x, x ∈ P → x < n) : Fin.Mv P X (tm n zs) e (tq n zs e) where
  mem := fun c x hc hx => by
    obtain ⟨a, ha, rfl⟩ := (hX c).1 hc
    rw [tq_fc g ha (hP x hx)]
    exact (hX _).2 ⟨_, tm_lt g.tab ha (hP x hx), rfl⟩
  one := fun c hc => by
    obtain ⟨a, ha, rfl⟩ := (hX c).1 hc
    rw [tq_fc g ha g.elt, (grp_fg g).right a (List.mem_range.2 ha)]
  mul := fun c x y hc hx hy => by
    obtain ⟨a, ha, rfl⟩ := (hX c).1 hc
    rw [tq_fc g ha (hP x hx), tq_fc g (tm_lt g.tab ha (hP x hx)) (hP y hy), tq_fc g ha (tm_lt g.tab (hP x hx) (hP y hy)), (grp_fg g).ass _ _ _ (List.mem_range.2 ha) (List.mem_range.2 (hP x hx)) (List.mem_range.2 (hP y hy))]
theorem fix_in (g : IsGrp n zs e) (hpr : primeB p = true) (hG : Grown n zs e p s) (hq : subT n zs e q = true) (hpw : isPw (lst n q).length p) {a : Nat} (ha : a < n)
    (hf : Fin.fixB (lst n q) (tq n zs e) (fc n zs e s a) = true) {x : Nat} (hx : x < n) (hqx : q x = true) : cjq n zs e s a x = true := by
  have F := grp_fg g
  have V := grp_iv g
  have ha' := List.mem_range.2 ha
  have hi := (V a ha').1
  have hil := List.mem_range.1 hi
  have h0 := Fin.fixB_iff.1 hf
  have hii : a = iv n zs e (iv n zs e a) := iv_only g hil ha (V a ha').2.2
  have key : ∀ y, y < n → cjq n zs e q (iv n zs e a) y = true → bs (cjq n zs e s y) n = bs s n := fun y hy h1 => by
    obtain ⟨z, hz, k1, rfl⟩ := cjq_iff.1 h1
    have hzl := List.mem_range.1 hz
    have h2 := h0 z (mem_lst.2 ⟨hzl, k1⟩)
    rw [tq_fc g ha hzl] at h2
    have h3 : Fin.cj (tm n zs) (iv n zs e) z (iv n zs e a) = tm n zs (tm n zs a z) (iv n zs e a) := by
      show tm n zs (iv n zs e (iv n zs e a)) (tm n zs z (iv n zs e a)) = _
      rw [← hii, F.ass _ _ _ ha' hz hi]
    rw [h3, ← cjq_twice g (tm_lt g.tab ha hzl) hil, ← tq_bs]
    show tq n zs e (fc n zs e s (tm n zs a z)) _ = _
    rw [h2, tq_fc g ha hil, (V a ha').2.1]
    exact cjq_e g
  have hm := Fin.cj_mem F V (List.mem_range.2 hx) hi
  have h5 := norm_in g hpr hG (cj_sg g hq hil) (by rw [cj_len g hil]; exact hpw) key (List.mem_range.1 hm) (cjq_iff.2 ⟨x, List.mem_range.2 hx, hqx, rfl⟩)
  exact cjq_iff.2 ⟨_, hm, h5, (Fin.cj_back F V (List.mem_range.2 hx) ha').2⟩
theorem syl_mod (g : IsGrp n zs e) (hpr : primeB p = true) (hG : Grown n zs e p s) {X : List Nat} (hnd : X.Nodup) (hX : ∀ c, c ∈ X ↔ ∃ a, a < n ∧ fc n zs e s a = c) : X.length % p = 1 := by
  have F := grp_fg g
  have V := grp_iv g
  have S := subT_iff.1 hG.sub
  have M := mv_conj g hX (P := lst n s) (fun x hx => (mem_lst.1 hx).1)
  rw [Fin.fix_mod (P := lst n s) (prime_of hpr) (Fin.sg_fg F S) M hnd hG.pow]
  have h1 := nodup_len (X.filter (Fin.fixB (lst n s) (tq n zs e))) [bs s n] (hnd.filter _) (fun c hc => by
    obtain ⟨h1, h2⟩ := List.mem_filter.1 hc
    obtain ⟨a, ha, rfl⟩ := (hX c).1 h1
    have h3 : ∀ x, x < n → s x = true → cjq n zs e s a x = true := fun x hx hs => fix_in g hpr hG hG.sub hG.pow ha h2 hx hs
    have h4 := (lst_less h3).2
    rw [cj_len g ha] at h4
    rw [List.mem_singleton]
    refine bs_ext fun x hx => ?_
    rw [Bool.eq_iff_iff]
    refine ⟨fun h5 => Classical.byContradiction fun h6 => ?_, h3 x hx⟩
    exact absurd (h4 ⟨x, hx, h5, h6⟩) (by omega))
  have h2 := nodup_len [bs s n] (X.filter (Fin.fixB (lst n s) (tq n zs e))) (by simp) (fun c hc => by
    rw [List.mem_singleton] at hc
    subst hc
    refine List.mem_filter.2 ⟨(hX _).2 ⟨e, g.elt, cjq_e g⟩, Fin.fixB_iff.2 fun x hx => ?_⟩
    obtain ⟨hx1, hx2⟩ := mem_lst.1 hx
    rw [tq_bs]
    exact of_decide_eq_true ((nor_iff x).2 (Fin.nor_sub F V S (List.mem_range.2 hx1) hx2)))
  have h3 : (X.filter (Fin.fixB (lst n s) (tq n zs e))).length = 1 := by simp at h1 h2 ⊢; omega
  rw [h3]
  exact Nat.mod_eq_of_lt (prime_of hpr).1
theorem syl_in (g : IsGrp n zs e) (hpr : primeB p = true) (hG : Grown n zs e p s) {X : List Nat} (hnd : X.Nodup) (hX : ∀ c, c ∈ X ↔ ∃ a, a < n ∧ fc n zs e s a = c)
    (hq : subT n zs e q = true) (hpw : isPw (lst n q).length p) : ∃ c a, c ∈ X ∧ a < n ∧ fc n zs e s a = c ∧ ∀ x, x < n → q x = true → cjq n zs e s a x = true := by
  have M := mv_conj g hX (P := lst n q) (fun x hx => (mem_lst.1 hx).1)
  have h1 := Fin.fix_mod (P := lst n q) (prime_of hpr) (Fin.sg_fg (grp_fg g) (subT_iff.1 hq)) M hnd hpw
  rw [syl_mod g hpr hG hnd hX] at h1
  have h2 : (X.filter (Fin.fixB (lst n q) (tq n zs e))).length ≠ 0 := fun h => by rw [h, Nat.zero_mod] at h1; omega
  obtain ⟨c, hc⟩ := List.exists_mem_of_length_pos (Nat.pos_of_ne_zero h2)
  obtain ⟨h3, h4⟩ := List.mem_filter.1 hc
  obtain ⟨a, ha, rfl⟩ := (hX c).1 h3
  exact ⟨_, a, h3, ha, rfl, fun x hx h5 => fix_in g hpr hG hq hpw ha h4 hx h5⟩
theorem syl_nor (g : IsGrp n zs e) {X : List Nat} (hnd : X.Nodup) (hX : ∀ c, c ∈ X ↔ ∃ a, a < n ∧ fc n zs e s a = c) {c : Nat} (hc : c < n) : n = X.length * (lst n (norq n zs e (cjq n zs e s c))).length := by
  have F := grp_fg g
  have V := grp_iv g
  have hc' := List.mem_range.2 hc
  have hi := (V c hc').1
  have M := mv_conj g hX (P := List.range n) (fun x hx => List.mem_range.1 hx)
  have h1 := Fin.orb_len F M hnd ((hX _).2 ⟨c, hc, rfl⟩)
  rw [List.length_range] at h1
  have h2 : X.filter (Fin.orbB (List.range n) (tq n zs e) (fc n zs e s c)) = X := List.filter_eq_self.2 fun d hd => by
    obtain ⟨a, ha, rfl⟩ := (hX d).1 hd
    have ha' := List.mem_range.2 ha
    have hm := F.cl _ _ hi ha'
    refine Fin.orbB_iff.2 ⟨tm n zs (iv n zs e c) a, hm, ?_⟩
    rw [tq_fc g hc (List.mem_range.1 hm), ← F.ass _ _ _ hc' hi ha', (V c hc').2.1, F.left a ha']
  have h3 : (List.range n).filter (fun x => decide (tq n zs e (fc n zs e s c) x = fc n zs e s c)) = lst n (norq n zs e (cjq n zs e s c)) := Fin.filter_eq fun x hx => by
    unfold norq
    rw [tq_bs]
  rw [h2, h3] at h1
  exact h1
theorem nor_sgq (g : IsGrp n zs e) : Fin.Sg (List.range n) (tm n zs) e (fun a => norq n zs e s a = true) := by
  refine ⟨decide_eq_true (cjq_e g), fun a b ha hb h1 h2 => decide_eq_true ?_⟩
  have h1 := of_decide_eq_true h1
  have h2 := of_decide_eq_true h2
  rw [← cjq_twice g (List.mem_range.1 ha) (List.mem_range.1 hb), ← tq_bs, h1, tq_bs, h2]
theorem strip (hp : 2 ≤ p) : ∀ k, 0 < k → ∃ v b, k = v * p ^ b ∧ ¬ p ∣ v := by
  intro k
  induction k using Nat.strongRecOn with
  | _ k ih =>
    intro hk
    by_cases h : p ∣ k
    · obtain ⟨c, rfl⟩ := h
      have hc : 0 < c := Nat.pos_of_ne_zero fun h => by subst h; omega
      obtain ⟨v, b, h1, h2⟩ := ih c (by have := Nat.mul_le_mul_right c hp; omega) hc
      exact ⟨v, b + 1, by rw [h1, Nat.pow_succ]; simp [Nat.mul_comm, Nat.mul_left_comm], h2⟩
    · exact ⟨k, 0, by simp, h⟩
theorem pp_dvd (hp : 2 ≤ p ∧ ∀ d, d ∣ p → d = 1 ∨ d = p) {v k b : Nat} (hv : ¬ p ∣ v) (h : p ^ k ∣ v * p ^ b) : p ^ k ∣ p ^ b := by
  have hco : Nat.Coprime v p := by
    rcases hp.2 _ (Nat.gcd_dvd_right v p) with h1 | h1
    · exact h1
    · exact absurd (h1 ▸ Nat.gcd_dvd_left v p) hv
  exact (Nat.Coprime.pow_left k hco.symm).dvd_of_dvd_mul_left h
theorem pp_only (hp : 2 ≤ p ∧ ∀ d, d ∣ p → d = 1 ∨ d = p) {v u k b : Nat} (hv : ¬ p ∣ v) (hu : ¬ p ∣ u) (h : u * p ^ k = v * p ^ b) : p ^ k = p ^ b :=
  Nat.dvd_antisymm (pp_dvd hp hv ⟨u, by rw [← h, Nat.mul_comm]⟩) (pp_dvd hp hu ⟨v, by rw [h, Nat.mul_comm]⟩)
theorem not_dvd_mul (hp : 2 ≤ p ∧ ∀ d, d ∣ p → d = 1 ∨ d = p) {v u : Nat} (hv : ¬ p ∣ v) (hu : ¬ p ∣ u) : ¬ p ∣ u * v := fun h => by
  have hco : Nat.Coprime v p := by
    rcases hp.2 _ (Nat.gcd_dvd_right v p) with h1 | h1
    · exact h1
    · exact absurd (h1 ▸ Nat.gcd_dvd_left v p) hv
  exact hu (hco.symm.dvd_of_dvd_mul_right h)
theorem syl_len (g : IsGrp n zs e) (hpr : primeB p = true) (hG : Grown n zs e p s) {X : List Nat} (hnd : X.Nodup) (hX : ∀ c, c ∈ X ↔ ∃ a, a < n ∧ fc n zs e s a = c) :
    ∃ v, n = X.length * v * (lst n s).length ∧ ¬ p ∣ X.length * v := by
  have F := grp_fg g
  have V := grp_iv g
  have S := subT_iff.1 hG.sub
  have hp := prime_of hpr
  have h0 := syl_nor g hnd hX g.elt
  have hsame : lst n (norq n zs e (cjq n zs e s e)) = lst n (norq n zs e s) := by
    have h1 : lst n (cjq n zs e s e) = lst n s := lst_congr (bs_inj (cjq_e g))
    refine lst_congr fun a _ => ?_
    unfold norq
    rw [cjq_e g]
    unfold cjq at h1 ⊢
    rw [h1]
  rw [hsame] at h0
  have FM := Fin.sg_fg F (nor_sgq (s := s) g)
  obtain ⟨v, b, h1, h2⟩ := strip hp.1 _ FM.pos
  obtain ⟨k, hk⟩ := hG.pow
  have hsM : ∀ x, x ∈ lst n s → x ∈ (List.range n).filter (fun a => norq n zs e s a) := fun x hx => by
    obtain ⟨hx1, hx2⟩ := mem_lst.1 hx
    exact List.mem_filter.2 ⟨List.mem_range.2 hx1, (nor_iff x).2 (Fin.nor_sub F V S (List.mem_range.2 hx1) hx2)⟩
  have hdk : p ^ k ∣ p ^ b := pp_dvd hp h2 (by rw [← h1, ← hk]; exact Fin.lagr FM (Fin.sg_fg F S) hsM)
  have hfr := Fin.frob _ _ _ _ FM rfl (p ^ b) ⟨v, by rw [h1, Nat.mul_comm]⟩
  have hcnt : Fin.cnt ((List.range n).filter fun a => norq n zs e s a) (tm n zs) e (p ^ b) = (lst n s).length := by
    unfold Fin.cnt
    refine Nat.le_antisymm (nodup_len _ _ (FM.nd.filter _) fun x hx => ?_) (nodup_len _ _ (lst_nd n s) fun x hx => ?_)
    · obtain ⟨hx1, hx2⟩ := List.mem_filter.1 hx
      obtain ⟨hx3, hx4⟩ := List.mem_filter.1 hx1
      have hxl := List.mem_range.1 hx3
      have hxo := (ord_iff g hxl _).1 (of_decide_eq_true hx2)
      have hm1 : mk1 n zs e x x = true := (mk1_iff n zs e x x hxl).2 (Fin.Gen.base hx3 (by simp))
      refine mem_lst.2 ⟨hxl, norm_in g hpr hG (subT_iff.2 (made_sg g (mk1_iff n zs e x))) (by rw [mk1_len g hxl]; exact dvd_pw hp b _ hxo) (fun y hy hy1 => ?_) hxl hm1⟩
      have h5 := Fin.Gen.least (nor_sgq (s := s) g) (fun z hz h6 => by
        have h6 : z = x := of_decide_eq_true h6
        rw [h6]; exact hx4) ((mk1_iff n zs e x y hy).1 hy1)
      exact of_decide_eq_true h5
    · obtain ⟨hx1, hx2⟩ := mem_lst.1 hx
      refine List.mem_filter.2 ⟨hsM x hx, decide_eq_true ((ord_iff g hx1 _).2 (Nat.dvd_trans ?_ hdk))⟩
      rw [← hk]
      exact (ord_iff g hx1 _).1 (Fin.po_len (Fin.sg_fg F S) hx)
  rw [hcnt, hk] at hfr
  have hbk := Nat.dvd_antisymm hdk hfr
  refine ⟨v, ?_, ?_⟩
  · rw [hk, hbk, Nat.mul_assoc, ← h1]
    exact h0
  · refine not_dvd_mul hp h2 fun h3 => ?_
    have h4 := syl_mod g hpr hG hnd hX
    rw [Nat.mod_eq_zero_of_dvd h3] at h4
    omega
end Go.Proofs.YtgejngpioldhpaaGreatDoor

namespace Go.Proofs.YtgejngpioldhpaaGreatDoor
open Go Go.RowKit

noncomputable def mdq (n : Nat) (zs : List Int) (e : Nat) (q : Nat → Bool) : Nat → Bool := (mkd_ex' n zs e q).choose
theorem mdq_iff (n : Nat) (zs : List Int) (e : Nat) (q : Nat → Bool) : ∀ x, x < n → (mdq n zs e q x = true ↔ Mkd n zs e q x) := (mkd_ex' n zs e q).choose_spec
/-- Has a list the one alone with q, and does it make everything with it? -/
noncomputable def cplB (n : Nat) (zs : List Int) (e : Nat) (q : Nat → Bool) (l : List Int) : Bool := cmpB n e q (pset l) (mdq n zs e (fun a => q a || pset l a))

def vA (us : List Value) (s : Nat) : Option Addr := match us[s]? with | some (.slice a _ _) => a | _ => none
def vL (us : List Value) (s : Nat) : Nat := match us[s]? with | some (.slice _ l _) => l | _ => 0
def vC (us : List Value) (s : Nat) : Nat := match us[s]? with | some (.slice _ _ c) => c | _ => 0
theorem vals_at {W : World} {B : Nat} {r : Value} {us : List Value} {ms : List (List Int)} (h : Lsts W B r us ms) {s : Nat} (hs : s < us.length) : us[s]? = some (.slice (vA us s) (vL us s) (vC us s)) ∧ vL us s = (ms[s]?.getD []).length ∧ ∃ pb po, Reads W (vA us s) pb po (ms[s]?.getD []) ∧ pb < W.heap.size ∧ (ms[s]?.getD []).length ≤ vC us s ∧ vC us s ≤ maxLen ∧ B ≤ pb ∧ ∀ g, r.ownBlock = some g → pb ≠ g := by
  have hl := h.1
  have e1 := List.getElem?_eq_getElem hs
  have e2 : ms[s]? = some ms[s] := List.getElem?_eq_getElem (by omega)
  obtain ⟨a, cap, pb, po, h1, h2, h3, h4, h5, h6, h7⟩ := h.2 s _ _ e1 e2
  rw [h1] at e1
  have hA : vA us s = a := by unfold vA; rw [e1]
  have hL : vL us s = ms[s].length := by unfold vL; rw [e1]
  have hC : vC us s = cap := by unfold vC; rw [e1]
  rw [e2, hA, hL, hC]
  exact ⟨e1, rfl, pb, po, h2, h3, h4, h5, h6, h7⟩
theorem vals_ev {W : World} {B : Nat} {r : Value} {us : List Value} {ms : List (List Int)} (h : Lsts W B r us ms) : ev (vA us) (vL us) (vC us) (List.range us.length) = us := by
  apply List.ext_getElem?
  intro j
  by_cases hj : j < us.length
  · rw [(vals_at h hj).1]
    simp [ev, hj]
  · rw [List.getElem?_eq_none (by simp [ev]; omega), List.getElem?_eq_none (by omega)]
theorem vals_sl {W W' : World} {B g : Nat} {r : Value} {us : List Value} {ms : List (List Int)} (h : Lsts W B r us ms) (hr : r.ownBlock = some g) (hK : ∀ b, b < W.heap.size → b ≠ g → W'.heap[b]? = W.heap[b]?) (hz : W.heap.size ≤ W'.heap.size) {s : Nat} (hs : s < us.length) : Sl W' (.slice (vA us s) (vL us s) (vC us s)) (ms[s]?.getD []) := by
  obtain ⟨_, h2, pb, po, h3, h4, h5, h6, h7, h8⟩ := vals_at h hs
  exact ⟨vA us s, vC us s, pb, po, by rw [h2], h3.of_eq (hK pb h4 (h8 g hr)), Nat.lt_of_lt_of_le h4 hz, h5, h6⟩
theorem SlE.slL {W : World} {r : Value} {A : Nat → Option Addr} {Ln C : Nat → Nat} {xs : List Nat} {f : Nat → List Int} (h : SlE W r A Ln C xs) (hs : ∀ s, s ∈ xs → Sl W (.slice (A s) (Ln s) (C s)) (f s)) : SlL W r (xs.map f) := by
  obtain ⟨a, cap, pb, po, rfl, h1, h2, h3, h4, h5⟩ := h
  refine ⟨a, cap, pb, po, by rw [List.length_map], by rw [List.length_map]; exact h1, fun j hj => ?_, h3, by rw [List.length_map]; exact h4, h5⟩
  rw [List.length_map] at hj
  refine ⟨_, h2 j hj, ?_⟩
  have e1 : xs[j]? = some xs[j] := List.getElem?_eq_getElem hj
  rw [List.getElem?_map, e1]
  exact hs _ (List.getElem_mem hj)
theorem range_filter (ms : List (List Int)) (f : List Int → Bool) : ((List.range ms.length).filter fun s => f (ms[s]?.getD [])).map (fun s => ms[s]?.getD []) = ms.filter f := by
  have h : ms = (List.range ms.length).map (fun s => ms[s]?.getD []) := by
    apply List.ext_getElem?
    intro j
    by_cases hj : j < ms.length
    · simp [hj]
    · rw [List.getElem?_eq_none (by omega), List.getElem?_eq_none (by simp; omega)]
  conv => rhs; rw [h]
  rw [List.filter_map]
  rfl
end Go.Proofs.YtgejngpioldhpaaGreatDoor

namespace Go.Proofs.YtgejngpioldhpaaGreatDoor
open Go Go.RowKit
variable {n e p : Nat} {zs : List Int} {q r s : Nat → Bool}

theorem nd_list {α : Type} (l : List α) : ∃ k : List α, k.Nodup ∧ ∀ x, x ∈ k ↔ x ∈ l := by
  classical
  induction l with
  | nil => exact ⟨[], List.nodup_nil, fun x => Iff.rfl⟩
  | cons a l ih =>
    obtain ⟨k, h1, h2⟩ := ih
    by_cases ha : a ∈ l
    · exact ⟨k, h1, fun x => by rw [h2, List.mem_cons]; exact ⟨Or.inr, fun h => h.elim (fun h => h ▸ ha) id⟩⟩
    · exact ⟨a :: k, List.nodup_cons.2 ⟨fun h => ha ((h2 a).1 h), h1⟩, fun x => by rw [List.mem_cons, List.mem_cons, h2]⟩
/-- All that have as many things as the greatest power of p. -/
theorem grown_len {v j : Nat} (g : IsGrp n zs e) (hpr : primeB p = true) (hG : Grown n zs e p s) (h : v * p ^ j = n) (hv : ¬ p ∣ v) : (lst n s).length = p ^ j := by
  obtain ⟨X, hnd, hX⟩ := nd_list ((List.range n).map fun a => fc n zs e s a)
  obtain ⟨u, h1, h2⟩ := syl_len g hpr hG hnd (fun c => by
    rw [hX, List.mem_map]
    exact ⟨fun ⟨a, ha, hh⟩ => ⟨a, List.mem_range.1 ha, hh⟩, fun ⟨a, ha, hh⟩ => ⟨a, List.mem_range.2 ha, hh⟩⟩)
  obtain ⟨k, hk⟩ := hG.pow
  rw [hk] at h1 ⊢
  exact pp_only (prime_of hpr) hv h2 (by rw [← h1, h])

theorem one_sub9 (g : IsGrp n zs e) : subT n zs e (fun a => decide (a = e)) = true := by
  refine subT_iff.2 ⟨by simp, fun a b ha hb h1 h2 => ?_⟩
  have h1' : a = e := by simpa using h1
  have h2' : b = e := by simpa using h2
  subst h1' h2'
  simpa using (grp_fg g).left b hb
theorem lst_fg (g : IsGrp n zs e) (h : subT n zs e q = true) : Fin.Fg (lst n q) (tm n zs) e := Fin.sg_fg (grp_fg g) (subT_iff.1 h)
theorem sub_div2 (g : IsGrp n zs e) (hq : subT n zs e q = true) (hr : subT n zs e r = true) (h : ∀ a, a < n → q a = true → r a = true) : (lst n q).length ∣ (lst n r).length :=
  Fin.lagr (lst_fg g hr) (lst_fg g hq) fun x hx => by
    obtain ⟨h1, h2⟩ := mem_lst.1 hx
    exact mem_lst.2 ⟨h1, h x h1 h2⟩
theorem lst_all' (n : Nat) : lst n (fun _ => true) = List.range n := List.filter_eq_self.2 fun _ _ => rfl
theorem all_sub (n : Nat) (zs : List Int) (e : Nat) : subT n zs e (fun _ => true) = true := subT_iff.2 ⟨rfl, fun _ _ _ _ _ _ => rfl⟩
theorem lst_nd' (n : Nat) (q : Nat → Bool) : (lst n q).Nodup := List.nodup_range.sublist List.filter_sublist
theorem lst_grow {y : Nat} (h : ∀ a, a < n → q a = true → r a = true) (hy : y < n) (h1 : r y = true) (h2 : ¬ q y = true) : (lst n q).length < (lst n r).length := by
  have := nodup_len (y :: lst n q) (lst n r) (List.nodup_cons.2 ⟨fun h3 => h2 (mem_lst.1 h3).2, lst_nd' n q⟩) (fun z hz => by
    rcases List.mem_cons.1 hz with rfl | hz
    · exact mem_lst.2 ⟨hy, h1⟩
    · obtain ⟨h3, h4⟩ := mem_lst.1 hz
      exact mem_lst.2 ⟨h3, h z h3 h4⟩)
  simp at this
  omega
theorem lst_full (h : n ≤ (lst n q).length) : ∀ a, a < n → q a = true := fun a ha => by
  by_cases hq : q a = true
  · exact hq
  · have h1 : (lst n q).length < (lst n (fun _ => true)).length := lst_grow (fun _ _ _ => rfl) ha rfl hq
    rw [lst_all', List.length_range] at h1
    omega

theorem grown_from (g : IsGrp n zs e) : ∀ (d : Nat) (s : Nat → Bool), subT n zs e s = true → isPw (lst n s).length p → n - (lst n s).length ≤ d → ∃ s, Grown n zs e p s := by
  intro d
  induction d with
  | zero =>
    intro s h1 h2 h3
    refine ⟨s, h1, h2, fun a q ha hq => .inl (bs_ext fun x hx => ?_)⟩
    have hs := lst_full (q := s) (n := n) (by omega)
    rw [hs x hx]
    exact (hq x hx).2 (Fin.Gen.base (List.mem_range.2 hx) (by simp [hs x hx]))
  | succ d ih =>
    intro s h1 h2 h3
    by_cases hG : Grown n zs e p s
    · exact ⟨s, hG⟩
    · have hx : ∃ (a : Nat) (q : Nat → Bool), a < n ∧ (∀ x, x < n → (q x = true ↔ Mkd n zs e (fun y => s y || decide (y = a)) x)) ∧ bs q n ≠ bs s n ∧ isPw (lst n q).length p := by
        apply Classical.byContradiction
        intro hno
        refine hG ⟨h1, h2, fun a q ha hq => ?_⟩
        by_cases hb : bs q n = bs s n
        · exact .inl hb
        · exact .inr fun hp => hno ⟨a, q, ha, hq, hb, hp⟩
      obtain ⟨a, q, ha, hq, hb, hp⟩ := hx
      have hsub : ∀ y, y < n → s y = true → q y = true := fun y hy h => (hq y hy).2 (Fin.Gen.base (List.mem_range.2 hy) (by simp [h]))
      have hy : ∃ y, y < n ∧ q y = true ∧ ¬ s y = true := by
        apply Classical.byContradiction
        intro hno
        refine hb (bs_ext fun y hy => ?_)
        by_cases h5 : s y = true
        · rw [h5, hsub y hy h5]
        · by_cases h6 : q y = true
          · exact absurd ⟨y, hy, h6, h5⟩ hno
          · simp only [Bool.not_eq_true] at h5 h6
            rw [h5, h6]
      obtain ⟨y, hy, h5, h6⟩ := hy
      have hlt := lst_grow hsub hy h5 h6
      exact ih q (subT_iff.2 (made_sg g hq)) hp (by omega)
theorem grown_ex (g : IsGrp n zs e) : ∃ s, Grown n zs e p s :=
  grown_from g n (fun a => decide (a = e)) (one_sub9 g) ⟨0, by rw [one_lst g.elt]; rfl⟩ (Nat.sub_le _ _)

/-- What has the one alone with q, and makes everything with it. -/
structure Cpl (n : Nat) (zs : List Int) (e : Nat) (q r : Nat → Bool) : Prop where
  sub : subT n zs e r = true
  meet : ∀ a, a < n → q a = true → r a = true → a = e
  all : ∀ a, a < n → Mkd n zs e (fun x => q x || r x) a

def smB (c m : Nat) : Bool := !(decide (2 ≤ c) && decide (c * m ≤ 24) && decide (Nat.gcd c m ≤ 1) && decide (1 < m)) || ([2, 3, 5, 7, 11] : List Nat).any fun p => primeB (p : Nat) && (List.range 5).any fun k => decide (m = p ^ k) && decide (c % p ≠ 0)
theorem small_all : ∀ c, c < 25 → ∀ m, m < 13 → smB c m = true := by decide +kernel
theorem small_cases (c : Nat) (h1 : c < 25) (m : Nat) (h2 : m < 13) (h3 : 2 ≤ c) (h4 : c * m ≤ 24) (h5 : Nat.gcd c m ≤ 1) (h6 : 1 < m) : (([2, 3, 5, 7, 11] : List Nat).any fun p => primeB (p : Nat) && (List.range 5).any fun k => decide (m = p ^ k) && decide (c % p ≠ 0)) = true := by
  have h := small_all c h1 m h2
  unfold smB at h
  rw [Bool.or_eq_true] at h
  rcases h with h | h
  · simp [h3, h4, h5, h6] at h
  · exact h

theorem sz (g : IsGrp n zs e) (h24 : n ≤ 24) (hq : subT n zs e q = true) (hc : Nat.gcd (lst n q).length (n / (lst n q).length) ≤ 1) : ∃ r, Cpl n zs e q r := by
  have F := grp_fg g
  have hqF := lst_fg g hq
  have hpos := hqF.pos
  obtain ⟨m, hm⟩ : (lst n q).length ∣ n := by
    have := sub_div2 g hq (all_sub n zs e) (fun _ _ _ => rfl)
    rwa [lst_all', List.length_range] at this
  have hn0 : 0 < n := Nat.lt_of_le_of_lt (Nat.zero_le _) g.elt
  have hm0 : 0 < m := by
    rcases Nat.eq_zero_or_pos m with h | h
    · rw [h] at hm; omega
    · exact h
  rw [show n / (lst n q).length = m by rw [show n / (lst n q).length = ((lst n q).length * m) / (lst n q).length by rw [← hm]]; exact Nat.mul_div_cancel_left m hpos] at hc
  by_cases h1 : (lst n q).length = 1
  · refine ⟨fun _ => true, all_sub n zs e, fun a ha hqa _ => ?_, fun a ha => Fin.Gen.base (List.mem_range.2 ha) (by simp)⟩
    have := nodup_len [a, e]
    by_cases hae : a = e
    · exact hae
    · have h2 := nodup_len [a, e] (lst n q) (by simp [hae]) (fun z hz => by
        rcases List.mem_cons.1 hz with rfl | hz
        · exact mem_lst.2 ⟨ha, hqa⟩
        · obtain rfl : z = e := by simpa using hz
          exact hqF.one)
      simp at h2
      omega
  by_cases h2 : m = 1
  · have hqa : ∀ a, a < n → q a = true := lst_full (by rw [h2] at hm; omega)
    refine ⟨fun a => decide (a = e), one_sub9 g, fun a ha _ h => by simpa using h, fun a ha => Fin.Gen.base (List.mem_range.2 ha) (by simp [hqa a ha])⟩
  have hc2 : 2 ≤ (lst n q).length := by omega
  have hcm : (lst n q).length * m ≤ 24 := by rw [← hm]; exact h24
  have hm13 : m < 13 := by
    have := Nat.mul_le_mul_right m hc2
    omega
  have hc25 : (lst n q).length < 25 := by
    have := Nat.mul_le_mul_left (lst n q).length hm0
    omega
  have hcs := small_cases _ hc25 m hm13 hc2 hcm hc (by omega)
  obtain ⟨p, _, hp⟩ := List.any_eq_true.1 hcs
  rw [Bool.and_eq_true] at hp
  obtain ⟨hpr, hp2⟩ := hp
  obtain ⟨k, _, hk⟩ := List.any_eq_true.1 hp2
  rw [Bool.and_eq_true, decide_eq_true_iff, decide_eq_true_iff] at hk
  obtain ⟨hmk, hpc⟩ := hk
  obtain ⟨s, hG⟩ := grown_ex (p := p) g
  have hnd : ¬ p ∣ (lst n q).length := fun h => hpc (Nat.mod_eq_zero_of_dvd h)
  have hsl : (lst n s).length = m := by
    rw [hmk]
    exact grown_len g hpr hG (by rw [← hmk]; exact hm.symm) hnd
  have hcop : Nat.Coprime (lst n q).length m := by
    have : 0 < Nat.gcd (lst n q).length m := Nat.gcd_pos_of_pos_left _ hpos
    unfold Nat.Coprime
    omega
  refine ⟨s, hG.sub, fun a ha hqa hsa => ?_, ?_⟩
  · have S1 := subT_iff.1 hq
    have S2 := subT_iff.1 hG.sub
    have hI : subT n zs e (fun x => q x && s x) = true := subT_iff.2 ⟨by simp [S1.one, S2.one], fun x y hx hy hx1 hy1 => by
      simp only [Bool.and_eq_true] at hx1 hy1 ⊢
      exact ⟨S1.mul x y hx hy hx1.1 hy1.1, S2.mul x y hx hy hx1.2 hy1.2⟩⟩
    have d1 := sub_div2 g hI hq (fun x _ h => by simp only [Bool.and_eq_true] at h; exact h.1)
    have d2 := sub_div2 g hI hG.sub (fun x _ h => by simp only [Bool.and_eq_true] at h; exact h.2)
    rw [hsl] at d2
    have d3 : (lst n fun x => q x && s x).length ∣ 1 := by rw [← hcop]; exact Nat.dvd_gcd d1 d2
    have d4 : (lst n fun x => q x && s x).length = 1 := Nat.dvd_one.1 d3
    by_cases hae : a = e
    · exact hae
    · have h3 := nodup_len [a, e] (lst n fun x => q x && s x) (by simp [hae]) (fun z hz => by
        rcases List.mem_cons.1 hz with rfl | hz
        · exact mem_lst.2 ⟨ha, by simp [hqa, hsa]⟩
        · obtain rfl : z = e := by simpa using hz
          exact mem_lst.2 ⟨g.elt, by simp [S1.one, S2.one]⟩)
      simp at h3
      omega
  · obtain ⟨t, ht⟩ := mkd_ex' n zs e (fun x => q x || s x)
    have hT : subT n zs e t = true := subT_iff.2 (made_sg g ht)
    have d1 := sub_div2 g hq hT (fun x hx h => (ht x hx).2 (Fin.Gen.base (List.mem_range.2 hx) (by simp [h])))
    have d2 := sub_div2 g hG.sub hT (fun x hx h => (ht x hx).2 (Fin.Gen.base (List.mem_range.2 hx) (by simp [h])))
    rw [hsl] at d2
    have d3 : n ∣ (lst n t).length := by
      obtain ⟨z, hz⟩ := hcop.mul_dvd_of_dvd_of_dvd d1 d2
      exact ⟨z, by rw [hz, ← hm]⟩
    have hall := lst_full (Nat.le_of_dvd (lst_fg g hT).pos d3)
    exact fun a ha => (ht a ha).1 (hall a ha)
end Go.Proofs.YtgejngpioldhpaaGreatDoor

namespace Go.Proofs.YtgejngpioldhpaaGreatDoor
open Go Go.RowKit

theorem cmpB_iff {n e : Nat} {zs : List Int} {q r p : Nat → Bool} (hq : q e = true) (hr : subT n zs e r = true) (hp : ∀ a, a < n → (p a = true ↔ Mkd n zs e (fun a => q a || r a) a)) : cmpB n e q r p = true ↔ Cpl n zs e q r := by
  have hre := subT_one hr
  unfold cmpB
  rw [Bool.and_eq_true, decide_eq_true_eq, decide_eq_true_eq]
  constructor
  · rintro ⟨h1, h2⟩
    refine ⟨hr, fun a ha hqa hra => ?_, fun a ha => (hp a ha).1 (bs_inj h2 a ha)⟩
    have := bs_inj h1 a ha
    rw [hqa, hra] at this
    exact of_decide_eq_true this.symm
  · intro T
    refine ⟨bs_ext fun a ha => ?_, bs_ext fun a ha => (hp a ha).2 (T.all a ha)⟩
    rw [Bool.eq_iff_iff, Bool.and_eq_true, decide_eq_true_eq]
    exact ⟨fun h => T.meet a ha h.1 h.2, fun h => by rw [h]; exact ⟨hq, hre⟩⟩
/-- What the document asks. -/
theorem cpl_iff {n e : Nat} {zs : List Int} {q r p : Nat → Bool} (g : IsGrp n zs e) (hq : q e = true) (hr : subT n zs e r = true) (hp : ∀ a, a < n → (p a = true ↔ Mkd n zs e (fun a => decide (a ∈ lst n r ++ lst n q)) a)) :
    ((lst n fun a => r a && q a).length = 1 ∧ (lst n p).length = n) ↔ Cpl n zs e q r := by
  have hre := subT_one hr
  have hM : ∀ a, Mkd n zs e (fun a => q a || r a) a ↔ Mkd n zs e (fun a => decide (a ∈ lst n r ++ lst n q)) a := by
    intro a
    constructor
    · refine Fin.Gen.mono fun x hx h => ?_
      have hx' := List.mem_range.1 hx
      rw [decide_eq_true_eq, List.mem_append, mem_lst, mem_lst]
      rcases (Bool.or_eq_true _ _).mp h with h | h
      · exact .inr ⟨hx', h⟩
      · exact .inl ⟨hx', h⟩
    · refine Fin.Gen.mono fun x hx h => ?_
      rw [decide_eq_true_eq, List.mem_append, mem_lst, mem_lst] at h
      rcases h with h | h
      · simp [h.2]
      · simp [h.2]
  have he : e ∈ lst n fun a => r a && q a := mem_lst.2 ⟨g.elt, by simp [hq, hre]⟩
  constructor
  · rintro ⟨h1, h2⟩
    refine ⟨hr, fun a ha hqa hra => ?_, fun a ha => (hM a).2 ((hp a ha).1 (lst_full (Nat.le_of_eq h2.symm) a ha))⟩
    obtain ⟨x, hx⟩ := List.length_eq_one_iff.1 h1
    have h4 : a ∈ lst n fun a => r a && q a := mem_lst.2 ⟨ha, by simp [hqa, hra]⟩
    rw [hx, List.mem_singleton] at he h4
    rw [he, h4]
  · intro T
    have h1 : (lst n fun a => r a && q a) = lst n fun a => decide (a = e) := lst_congr fun a ha => by
      rw [Bool.eq_iff_iff, Bool.and_eq_true, decide_eq_true_eq]
      exact ⟨fun h => T.meet a ha h.2 h.1, fun h => by rw [h]; exact ⟨hre, hq⟩⟩
    have h2 : lst n p = lst n fun _ => true := lst_congr fun a ha => (hp a ha).2 ((hM a).1 (T.all a ha))
    rw [h1, one_lst g.elt, h2, lst_all', List.length_range]
    exact ⟨rfl, rfl⟩
end Go.Proofs.YtgejngpioldhpaaGreatDoor

namespace Go.Proofs.YtgejngpioldhpaaGreatDoor
open Go Go.RowKit
set_option maxRecDepth 100000 in
set_option maxHeartbeats 1000000 in
theorem parted_ok (v1 v2 : Value) (zs ys : List Int) (w : World) (h1 : Sl w v1 zs) (h2 : Sl w v2 ys) :
    Calls Tryz.prog 39 #[v1, v2] w fun e w' => e = .returned (.bool (zs.all fun a => decide (a ∈ ys))) ∧ w' = w := by
  obtain ⟨x, cap, pb, po, rfl, hr, hp, hq3, hq4⟩ := h1
  have hm : zs.length ≤ 9223372036854775807 := by unfold maxLen at hq4; omega
  have HR := hide hr
  have HH := hide (fun a => rhas_ok v2 ys a w h2)
  clear hr hq4
  go_enter Tryz.func39, Tryz.ntmps39
  go_wp2
  go_loopw [5] (fun i wr => ∃ k : Nat, k ≤ zs.length ∧ i = .int .i64 k ∧ (∀ t, t < k → zs[t]?.getD 0 ∈ ys) ∧ wr = w) (fun i _ => zs.length - (intOf i).toNat)
  case atStart => exact ⟨0, Nat.zero_le _, rfl, fun t ht => by omega, rfl⟩
  case round =>
    obtain ⟨k, hk, rfl, hno, rfl⟩ := hrel
    have HNO := hide hno
    clear hno
    by_cases hlt : k < zs.length
    · obtain rfl := HR.out.at_ (by omega)
      have hc := HR.out.cell k hlt
      obtain ⟨c, hce⟩ : ∃ c, zs[k]?.getD 0 = c := ⟨_, rfl⟩
      rw [hce] at hc
      have HCE := hide hce
      clear hce
      have HC := hide (HH.out c)
      by_cases hca : c ∈ ys
      · rw [decide_eq_true hca] at HC
        go_wp2_with fail
        refine HC.out.mono ?_
        rintro e1 w1 ⟨rfl, rfl⟩
        go_wp2
        go_roundw
        case rel => exact ⟨k + 1, by omega, by go_num, fun t ht => by
          by_cases e : t = k
          · rw [e, HCE.out]; exact hca
          · exact HNO.out t (by omega), trivial⟩
        case measure => simp [intOf]; omega
      · rw [decide_eq_false hca] at HC
        have HD := hide (show (zs.all fun a => decide (a ∈ ys)) = false by
          rw [List.all_eq_false]
          refine ⟨zs[k], List.getElem_mem hlt, ?_⟩
          have := HCE.out
          simp [hlt] at this
          rw [this]; simpa using hca)
        go_wp2_with fail
        refine HC.out.mono ?_
        rintro e1 w1 ⟨rfl, rfl⟩
        go_wp2
        go_ret
        exact ⟨by rw [HD.out]; rfl, rfl⟩
    · have HD := hide (show (zs.all fun a => decide (a ∈ ys)) = true by
        rw [List.all_eq_true]
        intro z hz
        obtain ⟨t, ht, he⟩ := List.mem_iff_getElem.1 hz
        have := HNO.out t (by omega)
        simp [ht, he] at this
        simpa using this)
      go_wp2
      go_ret
      exact ⟨by rw [HD.out]; rfl, rfl⟩

end Go.Proofs.YtgejngpioldhpaaGreatDoor

namespace Go.Proofs.YtgejngpioldhpaaGreatDoor
open Go Go.RowKit

theorem under72b : Tryz.prog.underlying 66 = some (.slice 4) := by kernel_rfl
theorem callSp (a : Int) (x : Value) (W : World) : Sem.run Tryz.prog (callFunc 44 (#[.int .i64 a] ++ #[x])) W = .ok (.enter 44 (#[.int .i64 a] ++ #[x])) W := by kernel_rfl
set_option maxRecDepth 100000 in
theorem spn1_ok (n a xb ib : Nat) (p : Nat → Bool) (w : World) (ha : a < n) (hx : Boxed w xb 66 (.slice (some ⟨ib, 0, none⟩) n n)) (hb : Blk w ib 4 ((bm n p).map Value.bool)) :
    Calls Tryz.prog 44 (#[.int .i64 a] ++ #[.pointer (some ⟨xb, 0, none⟩)]) w fun y w' => y = .returned (.bool (p a)) ∧ Below w.heap.size w w' := by
  show Calls Tryz.prog 44 #[.int .i64 a, .pointer (some ⟨xb, 0, none⟩)] w _
  have c0 := hx.cell
  have c1 := hb.bool (y := a) (by rw [bm_len]; exact ha)
  rw [bm_get ha] at c1
  have hai : (a : Int) < (n : Int) := by omega
  go_enter Tryz.func44, Tryz.ntmps44
  go_wp2
  go_ret
  exact ⟨rfl, Below.refl _ _⟩
/-- How the search's memory stands. -/
structure SpS (w wr : World) (n : Nat) (v : Value) (xb : Nat) (p : Nat → Bool) : Prop where
  box : BoxG wr w.heap.size n v
  blk : Blk wr (w.heap.size + 1) 4 ((bm n p).map Value.bool)
  ind : Boxed wr xb 66 (.slice (some ⟨w.heap.size + 1, 0, none⟩) n n)
  bel : Below w.heap.size w wr
  xlt : w.heap.size + 1 < xb
theorem SpS.below {w wr W : World} {n xb : Nat} {v : Value} {p : Nat → Bool} (h : SpS w wr n v xb p) (hb : Below wr.heap.size wr W) : SpS w W n v xb p :=
  ⟨blk_below h.box hb, blk_below h.blk hb, Boxed.below h.ind hb, bcat h.bel hb h.bel.size, h.xlt⟩
theorem SpS.put {w wr : World} {n xb y : Nat} {v : Value} {p : Nat → Bool} (h : SpS w wr n v xb p) : SpS w (wr.setCell ⟨w.heap.size + 1, y, none⟩ (.bool true)) n v xb (fun a => p a || decide (a = y)) :=
  ⟨h.box.other (p := ⟨w.heap.size + 1, y, none⟩) (by simp) _, by rw [← bm_set]; exact h.blk.setBool y true, (Below.heap_setCell _ _ _ xb (by have := h.xlt; simp; omega)).trans h.ind, h.bel.setCell (p := ⟨w.heap.size + 1, y, none⟩) (by simp) _, h.xlt⟩
theorem SpS.drew {w wr : World} {n xb : Nat} {v : Value} {p : Nat → Bool} (h : SpS w wr n v xb p) : SpS w wr.drew n v xb p := ⟨h.box, h.blk, h.ind, bdrew h.bel, h.xlt⟩
theorem SpS.drewN {w wr : World} {n xb : Nat} {v : Value} {p : Nat → Bool} (h : SpS w wr n v xb p) (k : Nat) : SpS w (wr.drewN k) n v xb p := ⟨h.box, h.blk, h.ind, bdrewN h.bel k, h.xlt⟩
theorem SpS.cells {w wr : World} {n xb : Nat} {v : Value} {p : Nat → Bool} (h : SpS w wr n v xb p) : wr.cell? ⟨w.heap.size, 0, none⟩ = some (.int .i64 n) ∧ wr.cell? ⟨w.heap.size, 1, none⟩ = some v ∧ wr.cell? ⟨xb, 0, none⟩ = some (.slice (some ⟨w.heap.size + 1, 0, none⟩) n n) := ⟨h.box.two.1, h.box.two.2.1, h.ind.cell⟩
theorem SpS.bit {w wr : World} {n xb y : Nat} {v : Value} {p : Nat → Bool} (h : SpS w wr n v xb p) (hy : y < n) : wr.cell? ⟨w.heap.size + 1, y, none⟩ = some (.bool (p y)) ∧ wr.frozen? ⟨w.heap.size + 1, y, none⟩ = false := by
  refine ⟨?_, h.blk.frozen y⟩
  have := h.blk.bool (y := y) (by rw [bm_len]; exact hy)
  rwa [bm_get hy] at this
set_option maxRecDepth 100000 in
set_option maxHeartbeats 40000000 in
theorem span_ok (n e : Nat) (v u : Value) (zs : List Int) (xs : List Nat) (p : Nat → Bool) (w : World) (hv : Sl w v zs) (hg : IsGrp n zs e) (hu : Sl w u (li xs)) (hx : ∀ x, x ∈ xs → x < n) (hxl : xs.length ≤ 100000) (hp : ∀ a, a < n → (p a = true ↔ Mkd n zs e (fun a => decide (a ∈ xs)) a)) :
    Calls Tryz.prog 15 #[.agg #[.int .i64 n, v], u] w fun x w' => ∃ r, x = .returned r ∧ Row w' w.heap.size r (li (lst n p)) ∧ Below w.heap.size w w' := by
  obtain ⟨i0, hi, hz0, hz1, hz2⟩ := info_parts info4b
  have hn := hg.tab.le
  have hpos := hg.tab.pos
  have hB0 : Below w.heap.size w (w.alloc (.cells #[.int .i64 n, v] 24)) := balloc w _
  have hX0 : BoxG (w.alloc (.cells #[.int .i64 n, v] 24)) w.heap.size n v := blk0 _ _
  obtain ⟨c0, c1, _, _⟩ := hX0.two
  obtain ⟨ua, ucap, upb, upo, rfl, hur, hup, huq, hum⟩ := id hu
  rw [li_len] at huq ⊢
  have HUR := hide hur
  have HUL := hide (li_len xs)
  have HX := hide hx
  have HP := hide hp
  clear hur hx hp hum
  go_enter Tryz.func15, Tryz.ntmps15
  go_wp2_with (first
    | (at_make; refine wpList_make_full _ rfl _ _ 66 rfl (w.heap.size + 1) 4 i0 (.bool false) 1 under72b hi hz0 hz1 _ _ _ _ n rfl rfl rfl rfl (by rw [hz2]; omega) (by unfold maxLen; omega) (by simp) ?_))
  intro w2 hown hgr
  have hM2 : Blk w2 (w.heap.size + 1) 4 ((bm n fun _ => false).map Value.bool) := by
    have := Blk.of_owns hown
    rw [made_rep] at this
    rw [bm_none, List.map_replicate]; exact this
  have hB2 : Below w.heap.size w w2 := hB0.grown hgr hB0.size (by simp)
  have hX2 := hX0.grown hgr (by simp)
  clear hown hgr c0 c1 hX0 hB0
  have hB3 := hB2.alloc hB2.size (.cells #[.slice (some ⟨w.heap.size + 1, 0, none⟩) n n] 66)
  have hX3 := hX2.alloc (.cells #[.slice (some ⟨w.heap.size + 1, 0, none⟩) n n] 66)
  have hM3 := hM2.alloc (.cells #[.slice (some ⟨w.heap.size + 1, 0, none⟩) n n] 66)
  have hI3 := Boxed.new w2 66 (.slice (some ⟨w.heap.size + 1, 0, none⟩) n n)
  have hs2 := hM2.lt
  have hQ3 : SpS w (w2.alloc (.cells #[.slice (some ⟨w.heap.size + 1, 0, none⟩) n n] 66)) n v w2.heap.size (fun _ => false) := ⟨hX3, hM3, hI3, hB3, hs2⟩
  obtain ⟨c0, c1, c2⟩ := hQ3.cells
  have HE := hide (fun W (h : Below w.heap.size w W) => E_ok n v zs W hg.tab (hv.below h))
  rw [hg.one] at HE
  have HM := hide (fun W a b (h : Below w.heap.size w W) (ha : a < n) (hb : b < n) => M_ok n v zs a b W hg.tab (hv.below h) ha hb)
  have helt := hg.elt
  have hei : (e : Int) < (n : Int) := by omega
  go_wp2_with fail
  clear hB3 hX3 hM3 hI3 hM2 hX2 hB2 c0 c1 c2
  generalize w2.alloc (.cells #[.slice (some ⟨w.heap.size + 1, 0, none⟩) n n] 66) = w3 at *
  generalize w2.heap.size = xb at *
  have hS : ∀ U, Below w3.heap.size w3 U → (Below w.heap.size w U ∧ U.cell? ⟨w.heap.size, 0, none⟩ = some (.int .i64 n) ∧ U.cell? ⟨w.heap.size, 1, none⟩ = some v ∧ U.cell? ⟨xb, 0, none⟩ = some (.slice (some ⟨w.heap.size + 1, 0, none⟩) n n)) := fun U hU => ⟨(hQ3.below hU).bel, (hQ3.below hU).cells⟩
  have hS3 : ∀ U, Below w3.heap.size w3 U → (Below w.heap.size w (U.setCell ⟨w.heap.size + 1, e, none⟩ (.bool true)) ∧ (U.setCell ⟨w.heap.size + 1, e, none⟩ (.bool true)).cell? ⟨w.heap.size, 0, none⟩ = some (.int .i64 n) ∧ (U.setCell ⟨w.heap.size + 1, e, none⟩ (.bool true)).cell? ⟨w.heap.size, 1, none⟩ = some v ∧ (U.setCell ⟨w.heap.size + 1, e, none⟩ (.bool true)).cell? ⟨xb, 0, none⟩ = some (.slice (some ⟨w.heap.size + 1, 0, none⟩) n n)) := fun U hU => ⟨((hQ3.below hU).put (y := e)).bel, ((hQ3.below hU).put (y := e)).cells⟩
  have hS0 := hS _ (bdrew (Below.refl _ w3))
  go_region_held3 (fun U => Below w.heap.size w U ∧ U.cell? ⟨w.heap.size, 0, none⟩ = some (.int .i64 n) ∧ U.cell? ⟨w.heap.size, 1, none⟩ = some v ∧ U.cell? ⟨xb, 0, none⟩ = some (.slice (some ⟨w.heap.size + 1, 0, none⟩) n n))
    (first | exact hS0 | assumption | exact hS _ hl2 | exact hS3 _ hl2)
    (first | (go_at_call 41; refine (HE.out _ (And.left ‹_›)).mono ?_; rintro e9 V1 ⟨rfl, hl1⟩; have hl2 := undrew' hl1; have hc1 := ((hQ3.below hl2).bit (y := e) helt).1; have hf1 := ((hQ3.below hl2).bit (y := e) helt).2))
  have hP9 := ((hQ3.below hl2).put (y := e))
  clear hS hS3 hS0 hc1 hf1
  generalize V1.setCell ⟨w.heap.size + 1, e, none⟩ (.bool true) = w4 at *
  go_wp2
  go_loopw [6] (fun i wr => ∃ k : Nat, k ≤ xs.length ∧ i = .int .i64 k ∧ SpS w wr n v xb (fun a => decide (a = e) || decide (a ∈ xs.take k))) (fun i _ => xs.length - (intOf i).toNat)
  case atStart => exact ⟨0, Nat.zero_le _, rfl, by simpa using hP9⟩
  case round =>
    obtain ⟨k, hk, rfl, hSk⟩ := hrel
    clear hP9 hl1 hl2
    obtain ⟨c0, c1, c2⟩ := hSk.cells
    by_cases hlt : k < xs.length
    · have hck := (HUR.out.below hSk.bel hup).cell k (by rw [HUL.out]; exact hlt)
      rw [li_get hlt] at hck
      obtain rfl := HUR.out.at_ (by rw [HUL.out]; omega)
      obtain ⟨x, hxe⟩ : ∃ x, xs[k] = x := ⟨_, rfl⟩
      have hxn : x < n := by rw [← hxe]; exact HX.out _ (List.getElem_mem hlt)
      have HSN := hide (show (fun a => (decide (a = e) || decide (a ∈ xs.take k)) || decide (a = x)) = fun a => decide (a = e) || decide (a ∈ xs.take (k + 1)) by
        funext a
        rw [← hxe]
        simp only [List.take_succ_eq_append_getElem hlt, List.mem_append, List.mem_singleton, Bool.decide_or, Bool.or_assoc])
      rw [hxe] at hck
      clear hxe
      have hxi : (x : Int) < (n : Int) := by omega
      obtain ⟨b0, b1⟩ := hSk.bit hxn
      have hP := (hSk.put (y := x)).drew
      rw [HSN.out] at hP
      go_wp2_with fail
      go_region
      all_goals (
        clear c0 c1 c2 hck b0 b1
        go_wp2
        go_roundw
        case rel => exact ⟨k + 1, by omega, by go_num, hP⟩
        case measure => simp [intOf]; omega)
    · have hkn : k = xs.length := by omega
      subst hkn
      rw [List.take_length] at hSk
      have hst : ∀ q' : Nat → Bool, (∀ a, q' a = (decide (a = e) || decide (a ∈ xs))) → Spn n zs e (fun a => decide (a ∈ xs)) q' q' false 0 0 := fun q' hq => Spn.start (by rw [hq]; simp) (fun a _ h => by rw [hq]; simp at h; simp [h]) (fun a ha h => by
        rw [hq] at h
        simp only [Bool.or_eq_true, decide_eq_true_eq] at h
        rcases h with rfl | h
        · exact (Fin.Gen.sg _).one
        · exact Fin.Gen.base (List.mem_range.2 ha) (by simpa using h))
      have hst0 := hst _ (fun a => rfl)
      clear hst
      generalize (fun a => decide (a = e) || decide (a ∈ xs)) = q0 at hSk hst0
      go_wp2
      go_loopw [7] (fun s7 wr => ∃ (ag : Bool) (q : Nat → Bool), s7 = .bool ag ∧ SpS w wr n v xb q ∧ Spn n zs e (fun a => decide (a ∈ xs)) q q false 0 0 ∧ (ag = false → ∀ a, a < n → (q a = true ↔ Mkd n zs e (fun a => decide (a ∈ xs)) a))) (fun s7 wr => if boolOf s7 then cntB (w.heap.size + 1) wr + 1 else 0)
      case atStart => exact ⟨true, q0, rfl, hSk, hst0, fun h => by cases h⟩
      case round =>
        obtain ⟨ag, q, rfl, hZ0, hN0, hfin⟩ := hrel
        have HCN := hide (cntB_blk hZ0.blk)
        clear c0 c1 c2
        cases ag with
        | false =>
          have HFI := hide (hfin rfl)
          have hlq : lst n q = lst n p := lst_congr fun a ha => by rw [Bool.eq_iff_iff, HFI.out a ha, HP.out a ha]
          obtain ⟨c0, c1, c2⟩ := hZ0.cells
          go_wp2_with fail
          have HTH := hide (rthose_ok n 44 v #[.pointer (some ⟨xb, 0, none⟩)] q wr hn (fun a W => callSp a _ W) (fun W a hW ha => spn1_ok n a xb (w.heap.size + 1) q W ha (hZ0.below hW).ind (hZ0.below hW).blk))
          rw [hlq] at HTH
          refine HTH.out.mono ?_
          rintro x w9 ⟨r, rfl, hr, hb9⟩
          go_wp2
          go_ret
          exact ⟨_, rfl, owns_mono hr hZ0.bel.size, bcat hZ0.bel hb9 hZ0.bel.size⟩
        | true =>
          clear hfin
          go_wp2
          go_loopw [7, 8] (fun s7 s8 wx => ∃ (ag' : Bool) (q' : Nat → Bool) (a : Nat), a ≤ n ∧ s7 = .bool ag' ∧ s8 = .int .i64 a ∧ SpS w wx n v xb q' ∧ Spn n zs e (fun a => decide (a ∈ xs)) q q' ag' a 0) (fun _ s8 _ => n - (intOf s8).toNat)
          case atStart => exact ⟨false, q, 0, by omega, rfl, rfl, hZ0, hN0⟩
          case round =>
            obtain ⟨ag', q', a, ha, rfl, rfl, hZ, hN⟩ := hrel
            obtain ⟨c0, c1, c2⟩ := hZ.cells
            by_cases hla : a < n
            · have hai : (a : Int) < (n : Int) := by omega
              go_wp2
              clear c0 c1 c2
              go_loopw [7, 9] (fun s7 s9 wx => ∃ (ag' : Bool) (q' : Nat → Bool) (b : Nat), b ≤ n ∧ s7 = .bool ag' ∧ s9 = .int .i64 b ∧ SpS w wx n v xb q' ∧ Spn n zs e (fun a => decide (a ∈ xs)) q q' ag' a b) (fun _ s9 _ => n - (intOf s9).toNat)
              case atStart => exact ⟨ag', q', 0, by omega, rfl, rfl, hZ, hN⟩
              case round =>
                clear hZ hN
                obtain ⟨ag', q', b, hb, rfl, rfl, hZ, hN⟩ := hrel
                obtain ⟨c0, c1, c2⟩ := hZ.cells
                by_cases hlb : b < n
                · have hbi : (b : Int) < (n : Int) := by omega
                  obtain ⟨ba, bf1⟩ := hZ.bit hla
                  obtain ⟨bb, bf2⟩ := hZ.bit hlb
                  cases hqa : q' a with
                  | false =>
                    rw [hqa] at ba
                    go_wp2_with fail
                    go_quiet (fail)
                    have hZq := hZ.drewN nq
                    have hNq := hN.skip (fun h1 h2 => by rw [hqa] at h1; cases h1)
                    clear c0 c1 c2 ba bb bf1 bf2
                    generalize wr.drewN nq = wq at *
                    go_wp2
                    go_roundw
                    case rel => exact ⟨ag', q', b + 1, by omega, rfl, by go_num, hZq, hNq⟩
                    case measure => simp [intOf]; omega
                  | true =>
                    rw [hqa] at ba
                    cases hqb : q' b with
                    | false =>
                      rw [hqb] at bb
                      go_wp2_with fail
                      go_quiet (fail)
                      have hZq := hZ.drewN nq
                      have hNq := hN.skip (fun h1 h2 => by rw [hqb] at h2; cases h2)
                      clear c0 c1 c2 ba bb bf1 bf2
                      generalize wr.drewN nq = wq at *
                      go_wp2
                      go_roundw
                      case rel => exact ⟨ag', q', b + 1, by omega, rfl, by go_num, hZq, hNq⟩
                      case measure => simp [intOf]; omega
                    | true =>
                      rw [hqb] at bb
                      have htn := tm_lt hg.tab hla hlb
                      have HMt := hide (fun W (h : Below w.heap.size w W) => HM.out W a b h hla hlb)
                      cases hqt : q' (tm n zs a b) with
                      | true =>
                        have hNs := hN.skip (fun _ _ => hqt)
                        generalize tm n zs a b = t at *
                        have hti : (t : Int) < (n : Int) := by omega
                        obtain ⟨t0, _⟩ := hZ.bit htn
                        rw [hqt] at t0
                        have hS : ∀ W, Below wr.heap.size wr W → (Below wr.heap.size wr W ∧ W.cell? ⟨w.heap.size, 0, none⟩ = some (.int .i64 n) ∧ W.cell? ⟨w.heap.size, 1, none⟩ = some v ∧ W.cell? ⟨xb, 0, none⟩ = some (.slice (some ⟨w.heap.size + 1, 0, none⟩) n n) ∧ W.cell? ⟨w.heap.size + 1, a, none⟩ = some (.bool true) ∧ W.cell? ⟨w.heap.size + 1, b, none⟩ = some (.bool true) ∧ W.cell? ⟨w.heap.size + 1, t, none⟩ = some (.bool true)) := fun W h => by
                          obtain ⟨x0, x1, x2⟩ := (hZ.below h).cells
                          exact ⟨h, x0, x1, x2, below_cell h ba, below_cell h bb, below_cell h t0⟩
                        have hS0 := hS _ (bdrew (Below.refl _ wr))
                        go_wp2_with fail
                        go_region_held3 (fun W => Below wr.heap.size wr W ∧ W.cell? ⟨w.heap.size, 0, none⟩ = some (.int .i64 n) ∧ W.cell? ⟨w.heap.size, 1, none⟩ = some v ∧ W.cell? ⟨xb, 0, none⟩ = some (.slice (some ⟨w.heap.size + 1, 0, none⟩) n n) ∧ W.cell? ⟨w.heap.size + 1, a, none⟩ = some (.bool true) ∧ W.cell? ⟨w.heap.size + 1, b, none⟩ = some (.bool true) ∧ W.cell? ⟨w.heap.size + 1, t, none⟩ = some (.bool true))
                          (first | exact hS0 | assumption | exact hS _ (bcat2 (And.left ‹_›) hl1))
                          (first | (go_at_call 42; refine (HMt.out _ (bcat hZ.bel (And.left ‹_›) hZ.bel.size)).mono ?_; rintro e1 U1 ⟨rfl, hl1⟩))
                        have hBU := And.left ‹Below wr.heap.size wr U1 ∧ _›
                        have hZU := hZ.below hBU
                        clear hS hS0 hl1 c0 c1 c2 ba bb bf1 bf2 t0
                        all_goals (
                          go_wp2
                          go_roundw
                          case rel => exact ⟨ag', q', b + 1, by omega, rfl, by go_num, hZU, hNs⟩
                          case measure => simp [intOf]; omega)
                      | false =>
                        have hNh := hN.hit hg hla hlb hqa hqb hqt
                        generalize tm n zs a b = t at *
                        have hti : (t : Int) < (n : Int) := by omega
                        obtain ⟨t0, _⟩ := hZ.bit htn
                        rw [hqt] at t0
                        have hS : ∀ W, Below wr.heap.size wr W → (Below wr.heap.size wr W ∧ W.cell? ⟨w.heap.size, 0, none⟩ = some (.int .i64 n) ∧ W.cell? ⟨w.heap.size, 1, none⟩ = some v ∧ W.cell? ⟨xb, 0, none⟩ = some (.slice (some ⟨w.heap.size + 1, 0, none⟩) n n) ∧ W.cell? ⟨w.heap.size + 1, a, none⟩ = some (.bool true) ∧ W.cell? ⟨w.heap.size + 1, b, none⟩ = some (.bool true) ∧ W.cell? ⟨w.heap.size + 1, t, none⟩ = some (.bool false)) := fun W h => by
                          obtain ⟨x0, x1, x2⟩ := (hZ.below h).cells
                          exact ⟨h, x0, x1, x2, below_cell h ba, below_cell h bb, below_cell h t0⟩
                        have hS0 := hS _ (bdrew (Below.refl _ wr))
                        go_wp2_with fail
                        go_region_held3 (fun W => Below wr.heap.size wr W ∧ W.cell? ⟨w.heap.size, 0, none⟩ = some (.int .i64 n) ∧ W.cell? ⟨w.heap.size, 1, none⟩ = some v ∧ W.cell? ⟨xb, 0, none⟩ = some (.slice (some ⟨w.heap.size + 1, 0, none⟩) n n) ∧ W.cell? ⟨w.heap.size + 1, a, none⟩ = some (.bool true) ∧ W.cell? ⟨w.heap.size + 1, b, none⟩ = some (.bool true) ∧ W.cell? ⟨w.heap.size + 1, t, none⟩ = some (.bool false))
                          (first | exact hS0 | assumption | exact hS _ (bcat2 (And.left ‹_›) hl1))
                          (first | (go_at_call 42; refine (HMt.out _ (bcat hZ.bel (And.left ‹_›) hZ.bel.size)).mono ?_; rintro e1 U1 ⟨rfl, hl1⟩))
                        have hBU := And.left ‹Below wr.heap.size wr U1 ∧ _›
                        have hZU := hZ.below hBU
                        clear hS hS0 hl1 c0 c1 c2 ba bb bf1 bf2 t0
                        obtain ⟨c0, c1, c2⟩ := hZU.cells
                        go_wp2_with fail
                        clear c0 c1 c2
                        have hS : ∀ U, Below U1.heap.size U1 U → (Below w.heap.size w U ∧ U.cell? ⟨w.heap.size, 0, none⟩ = some (.int .i64 n) ∧ U.cell? ⟨w.heap.size, 1, none⟩ = some v ∧ U.cell? ⟨xb, 0, none⟩ = some (.slice (some ⟨w.heap.size + 1, 0, none⟩) n n)) := fun U hU => ⟨(hZU.below hU).bel, (hZU.below hU).cells⟩
                        have hS3 : ∀ U, Below U1.heap.size U1 U → (Below w.heap.size w (U.setCell ⟨w.heap.size + 1, t, none⟩ (.bool true)) ∧ (U.setCell ⟨w.heap.size + 1, t, none⟩ (.bool true)).cell? ⟨w.heap.size, 0, none⟩ = some (.int .i64 n) ∧ (U.setCell ⟨w.heap.size + 1, t, none⟩ (.bool true)).cell? ⟨w.heap.size, 1, none⟩ = some v ∧ (U.setCell ⟨w.heap.size + 1, t, none⟩ (.bool true)).cell? ⟨xb, 0, none⟩ = some (.slice (some ⟨w.heap.size + 1, 0, none⟩) n n)) := fun U hU => ⟨((hZU.below hU).put (y := t)).bel, ((hZU.below hU).put (y := t)).cells⟩
                        have hS0 := hS _ (bdrew (Below.refl _ U1))
                        go_region_held3 (fun U => Below w.heap.size w U ∧ U.cell? ⟨w.heap.size, 0, none⟩ = some (.int .i64 n) ∧ U.cell? ⟨w.heap.size, 1, none⟩ = some v ∧ U.cell? ⟨xb, 0, none⟩ = some (.slice (some ⟨w.heap.size + 1, 0, none⟩) n n))
                          (first | exact hS0 | assumption | exact hS _ hl2 | exact hS3 _ hl2)
                          (first | (go_at_call 42; refine (HMt.out _ (And.left ‹_›)).mono ?_; rintro e9 V1 ⟨rfl, hl1⟩; have hl2 := undrew' hl1; have hc1 := ((hZU.below hl2).bit (y := t) htn).1; have hf1 := ((hZU.below hl2).bit (y := t) htn).2))
                        have hP9 := ((hZU.below hl2).put (y := t))
                        clear hS hS3 hS0 hc1 hf1
                        generalize V1.setCell ⟨w.heap.size + 1, t, none⟩ (.bool true) = wv at *
                        go_wp2
                        go_roundw
                        case rel => exact ⟨true, _, b + 1, by omega, rfl, by go_num, hP9, hNh⟩
                        case measure => simp [intOf]; omega
                · have hNr := hN.row (by omega)
                  have hbn : b = n := by omega
                  subst hbn
                  clear hN
                  go_wp2
                  go_roundw
                  case rel => exact ⟨ag', q', a + 1, by omega, rfl, by go_num, hZ, hNr⟩
                  case measure => simp [intOf]; omega
            · have hst9 := Spn.start hN.one hN.base hN.made
              have HMO := hide hN.more
              have HFN : Hid (ag' = false → ∀ x, x < n → (q' x = true ↔ Mkd n zs e (fun a => decide (a ∈ xs)) x)) := fun hag => by subst hag; exact hN.fin (by omega)
              have HC9 := hide (cntB_blk hZ.blk)
              go_wp2
              go_roundw
              case rel => exact ⟨ag', q', rfl, hZ, hst9, HFN.out⟩
              case measure =>
                simp only [boolOf, HC9.out, HCN.out]
                cases hag : ag' with
                | false => simp
                | true => have := HMO.out hag; simp; omega
end Go.Proofs.YtgejngpioldhpaaGreatDoor

namespace Go.Proofs.YtgejngpioldhpaaGreatDoor
open Go Go.RowKit

/-- How what is found lies: the group's box, the box of the list, the list. -/
structure SgV (w W : World) (n : Nat) (v : Value) (os : List (List Int)) : Prop where
  bel : Below w.heap.size w W
  box : BoxG W w.heap.size n v
  sz : w.heap.size + 2 ≤ W.heap.size
  ex : ∃ r vs, Boxed W (w.heap.size + 1) 25 r ∧ W.ownsRow (w.heap.size + 2) 22 1 r vs.length vs ∧ Lsts W (w.heap.size + 2) r vs os
theorem SgV.below {w W W' : World} {n : Nat} {v : Value} {os : List (List Int)} (h : SgV w W n v os) (hb : Below W.heap.size W W') : SgV w W' n v os := by
  obtain ⟨r, vs, h1, h2, h3⟩ := h.ex
  exact ⟨bcat2 h.bel hb, blk_below h.box hb, Nat.le_trans h.sz hb.size, r, vs, Boxed.below h1 hb, own_keep' h2 (fun g _ h9 => hb.block g h9), h3.keep hb.size (fun g _ h9 _ => hb.block g h9) (.inl rfl)⟩
theorem SgV.own_lt {w W : World} {n : Nat} {v : Value} {os : List (List Int)} (h : SgV w W n v os) {r : Value} (hr : Boxed W (w.heap.size + 1) 25 r) {t : Nat} (ht : r.ownBlock = some t) : t < W.heap.size := by
  obtain ⟨r9, vs, h1, h2, _⟩ := h.ex
  have h93 := h1.cell
  rw [hr.cell] at h93
  injection h93 with h93
  subst h93
  rcases h2.2 with ⟨h8, _⟩ | ⟨g9, cap9, cur9, h8, h7, h6, _⟩
  · rw [h8] at ht; simp [Value.ownBlock] at ht
  · rw [h8] at ht
    simp [Value.ownBlock] at ht
    subst ht
    exact (Array.getElem?_eq_some_iff.1 h6).1
theorem call62 (a x : Value) (W : World) : Sem.run Tryz.prog (callFunc 37 (#[a] ++ #[x])) W = .ok (.enter 37 (#[a] ++ #[x])) W := by kernel_rfl
/-- The list, with one more where it is new. -/
def putL (os : List (List Int)) (xs : List Int) : List (List Int) := if xs ∈ os then os else os ++ [xs]
theorem addr_add' (g t : Nat) : (⟨g, 0, none⟩ : Addr).add t = ⟨g, t, none⟩ := by unfold Addr.add; split <;> simp_all
set_option maxRecDepth 100000 in
set_option maxHeartbeats 8000000 in
theorem add_ok (n B : Nat) (v lv : Value) (os : List (List Int)) (xs : List Int) (w W : World) (hV : SgV w W n v os) (hl : Row W B lv xs) (hx0 : 0 < xs.length) (hB : w.heap.size + 2 ≤ B) (hown : ∀ r, Boxed W (w.heap.size + 1) 25 r → ∀ t, r.ownBlock = some t → t < B) (hos : os.length ≤ 16777216) :
    Calls Tryz.prog 37 (#[lv] ++ #[.pointer (some ⟨w.heap.size + 1, 0, none⟩)]) W fun x W' => (∃ b, x = .returned (.bool b)) ∧ SgV w W' n v (putL os xs) := by
  show Calls Tryz.prog 37 #[lv, .pointer (some ⟨w.heap.size + 1, 0, none⟩)] W _
  obtain ⟨i2, hi2, hy0, hy1, hy2⟩ := info_parts info22b
  obtain ⟨r, vs, hr1, hr2, hr3⟩ := hV.ex
  have h0W : 0 < W.heap.size := by have := hV.sz; omega
  have hlS := row_sl hl h0W
  obtain ⟨m1, m3, hme⟩ := own_slice hl
  subst hme
  have hLS := SlL.of_own hr2 hr3 h0W
  obtain ⟨ra, rc, hre⟩ := own_slice' hr2
  subst hre
  have hvl := hr3.1
  obtain ⟨oa, oc, opb, opo, hov, hoat, hocell, hop, ho4, ho5⟩ := id hLS
  injection hov with e1 e2 e3
  subst e1 e3
  have HOA := hide hoat
  have HOC := hide hocell
  have HVL := hide hvl
  have HOL := hide (fun t ht => hown _ hr1 t ht)
  have HV := hide hV
  have hvs : vs.length ≤ 16777216 := by omega
  have k0 := hr1.cell
  clear hoat hocell ho4 ho5 e2 hvl hown
  go_enter Tryz.func37, Tryz.ntmps37
  go_wp2
  go_loopw [4] (fun i wr => ∃ k : Nat, k ≤ vs.length ∧ i = .int .i64 k ∧ ¬ xs ∈ os.take k ∧ Below W.heap.size W wr) (fun i _ => vs.length - (intOf i).toNat)
  case atStart => exact ⟨0, Nat.zero_le _, rfl, by simp, Below.refl _ _⟩
  case round =>
    obtain ⟨k, hk, rfl, hno, hBk⟩ := hrel
    have HNO := hide hno
    have k1 := below_cell hBk k0
    clear hno
    by_cases hlt : k < vs.length
    · have hki : (k : Int) < (vs.length : Int) := by omega
      have hko : k < os.length := by have := HVL.out; omega
      obtain rfl := HOA.out (by omega)
      obtain ⟨x, hx, hxs⟩ := HOC.out k hko
      rw [List.getElem?_eq_getElem hko, Option.getD_some] at hxs
      obtain ⟨x1, x2, x3, rfl⟩ := hxs.isSlice
      have hx := below_cell hBk hx
      have HI := hide (ints_any (.slice x1 x2 x3) (.slice m1 xs.length m3) _ _ wr (hxs.below hBk) (hlS.below hBk))
      have htk : os.take (k + 1) = os.take k ++ [os[k]] := List.take_succ_eq_append_getElem hko
      go_wp2_with fail
      clear hx
      refine HI.out.mono ?_
      rintro x w6 ⟨rfl, hb6⟩
      have hB6 := bcat2 hBk hb6
      by_cases he : os[k] = xs
      · rw [decide_eq_true he]
        have hin : xs ∈ os := he ▸ List.getElem_mem hko
        go_wp2
        go_ret
        exact ⟨⟨false, rfl⟩, by unfold putL; rw [if_pos hin]; exact HV.out.below hB6⟩
      · rw [decide_eq_false he]
        have hno2 : ¬ xs ∈ os.take (k + 1) := by
          rw [htk, List.mem_append, List.mem_singleton]
          rintro (h | h)
          · exact HNO.out h
          · exact he h.symm
        clear htk he
        go_wp2
        go_roundw
        case rel => exact ⟨k + 1, by omega, by go_num, hno2, hB6⟩
        case measure => simp [intOf]; omega
    · have hki : ¬ (k : Int) < (vs.length : Int) := by omega
      have hnin : ¬ xs ∈ os := by
        have := HNO.out
        rwa [List.take_of_length_le (by have := HVL.out; omega)] at this
      have hVr := HV.out.below hBk
      have hrr2 := own_keep' hr2 (fun g _ h9 => hBk.block g h9)
      have hrr3 := hr3.keep (r' := .slice ra vs.length rc) hBk.size (fun g _ h9 _ => hBk.block g h9) (.inl rfl)
      have hrr1 := Boxed.below hr1 hBk
      have hlr := row_below hl hBk
      have hszr := hVr.sz
      have HNI := hide hnin
      clear hnin
      go_wp2_with (first
        | (at_builtin; refine wpList_append_own_at _ rfl _ _ 25 rfl (w.heap.size + 2) 22 i2 (.slice none 0 0) 1 24 under25b hi2 hy0 hy1 hy2 rfl (by decide) _ _ _ rfl (World.ownsRow.alloc hrr2 _) ⟨wr.heap.size, 0, none⟩ 1 1 [.slice m1 xs.length m3] rfl rfl (cell_one_new _ _ _) ?c2 ?c3 ?c4 ?c5 ?_))
      case c2 => simp [Value.oneCell']
      case c3 => unfold maxLen; omega
      case c4 => omega
      case c5 => (first | omega | (rw [World.size_alloc]; omega) | (simp; omega))
      intro v' W2 hown' hgrow hnil hloc
      obtain ⟨ra', rcap', rfl⟩ := own_slice' hown'
      have hge := owns_ge hrr2
      have hne : ∀ b, b < w.heap.size + 2 → some b ≠ (Value.slice ra vs.length rc).ownBlock := fun b h1 h2 => by have := hge b h2.symm; omega
      have hO2 : Boxed W2 (w.heap.size + 1) 25 (.slice ra vs.length rc) := (hrr1.alloc _).kept hgrow (hne _ (by omega))
      have hB2 : Below w.heap.size w W2 := (hVr.bel.alloc (by omega) _).grown hgrow (by simp; omega) (fun j e => by have := hge j e; omega)
      have hX2 : BoxG W2 w.heap.size n v := (hVr.box.alloc _).grown hgrow (hne _ (by omega))
      have hszw : wr.heap.size + 1 ≤ W2.heap.size := by have := hgrow.size; simpa using this
      have hkeep : ∀ b, b < wr.heap.size → b ≠ w.heap.size + 1 → (Value.slice ra vs.length rc).ownBlock ≠ some b → (W2.setCell ⟨w.heap.size + 1, 0, none⟩ (.slice ra' (vs.length + 1) rcap')).heap[b]? = wr.heap[b]? := fun b h1 h2 h3 => by
        rw [Below.heap_setCell _ _ _ _ h2, hgrow.block b (by simp; omega) (fun e => h3 e.symm)]
        exact Below.heap_alloc _ _ _ h1
      have hlo : (Value.slice ra' (vs.length + 1) rcap').ownBlock = (Value.slice ra vs.length rc).ownBlock ∨ ∀ g, (Value.slice ra' (vs.length + 1) rcap').ownBlock = some g → wr.heap.size ≤ g := by
        rcases hloc with h | h
        · exact .inl h
        · right; intro g hg; rw [h] at hg; simp at hg; omega
      have hV3 : SgV w (W2.setCell ⟨w.heap.size + 1, 0, none⟩ (.slice ra' (vs.length + 1) rcap')) n v (os ++ [xs]) := by
        refine ⟨hB2.setCell (p := ⟨w.heap.size + 1, 0, none⟩) (by simp) _, hX2.other (p := ⟨w.heap.size + 1, 0, none⟩) (by simp) _, by rw [size_set]; omega, .slice ra' (vs.length + 1) rcap', vs ++ [.slice m1 xs.length m3], hO2.set _, ?_, ?_⟩
        · rw [List.length_append]
          exact own_keep' hown' (fun b h1 h2 => Below.heap_setCell _ _ _ _ (by simp; omega))
        · refine (hrr3.keep (by rw [size_set]; omega) (fun b h1 h2 h3 => hkeep b h2 (by omega) h3) hlo).snoc ?_
          rcases hlr.2 with ⟨h8, h7⟩ | ⟨g9, cap9, cur9, h8, h7, h6, h5, h4, _⟩
          · omega
          · injection h8 with e1 e2 e3
            subst e1 e3
            have hg9 : g9 < wr.heap.size := (Array.getElem?_eq_some_iff.1 h6).1
            have hrd : Reads wr (some ⟨g9, 0, none⟩) g9 0 xs := by
              refine ⟨fun _ => rfl, fun t ht => ?_⟩
              have h3 := hlr.cells (g := g9) rfl t (.int .i64 (xs[t]?.getD 0)) (by simp [ht])
              rw [addr_add'] at h3
              rw [Nat.zero_add]; exact h3
            have hne9 : (Value.slice ra vs.length rc).ownBlock ≠ some g9 := fun e => by have := HOL.out g9 e; omega
            refine ⟨some ⟨g9, 0, none⟩, m3, g9, 0, rfl, hrd.of_eq (hkeep g9 hg9 (by omega) hne9), by rw [size_set]; omega, h5, h4, by omega, fun g hg e => ?_⟩
            subst e
            rcases hlo with h | h
            · exact hne9 (h ▸ hg)
            · have := h _ hg; omega
      have k2 := hO2.cell
      have kf2 := hO2.frozen
      have HV3 := hide hV3
      clear hV3 hlo hkeep hszw hX2 hB2 hO2 hne hge hown' hgrow hnil hloc hVr hrr2 hrr3 hrr1 hlr
      go_wp2
      go_ret
      exact ⟨⟨true, rfl⟩, by unfold putL; rw [if_neg HNI.out]; exact HV3.out⟩
end Go.Proofs.YtgejngpioldhpaaGreatDoor

namespace Go.Proofs.YtgejngpioldhpaaGreatDoor
open Go Go.RowKit

def LL (n : Nat) (P : List (Nat → Bool)) : List (List Int) := P.map fun p => li (lst n p)
theorem lst_bs {n : Nat} {p q : Nat → Bool} : li (lst n p) = li (lst n q) ↔ bs p n = bs q n := by
  constructor
  · intro h
    have h := li_inj h
    refine bs_ext fun a ha => ?_
    have h1 : a ∈ lst n p ↔ a ∈ lst n q := by rw [h]
    rw [mem_lst, mem_lst] at h1
    cases hp : p a <;> cases hq : q a <;> simp_all
  · intro h
    rw [lst_congr (bs_inj h)]
theorem LL_mem {n : Nat} {P : List (Nat → Bool)} {p : Nat → Bool} : li (lst n p) ∈ LL n P ↔ bs p n ∈ bits n P := by
  unfold LL bits
  rw [List.mem_map, List.mem_map]
  constructor
  · rintro ⟨q, hq, h⟩; exact ⟨q, hq, lst_bs.1 h⟩
  · rintro ⟨q, hq, h⟩; exact ⟨q, hq, lst_bs.2 h⟩
theorem putL_put {n : Nat} {P : List (Nat → Bool)} {p : Nat → Bool} : putL (LL n P) (li (lst n p)) = LL n (put n P p) := by
  unfold putL put
  by_cases h : bs p n ∈ bits n P
  · rw [if_pos (LL_mem.2 h), if_pos h]
  · rw [if_neg (fun h9 => h (LL_mem.1 h9)), if_neg h]
    simp [LL]
theorem LL_nodup {n : Nat} {P : List (Nat → Bool)} (h : (bits n P).Nodup) : (LL n P).Nodup := by
  unfold LL bits at *
  rw [List.nodup_iff_pairwise_ne, List.pairwise_map] at *
  exact h.imp fun {p q} h9 h8 => h9 (lst_bs.1 h8)
theorem mkb {n e a : Nat} {zs : List Int} {q : Nat → Bool} (ha : a < n) (h : q a = true) : Mkd n zs e q a := Fin.Gen.base (List.mem_range.2 ha) h
/-- What one thing makes. -/
def CM (n : Nat) (zs : List Int) (e b : Nat) (p : Nat → Bool) : Prop := ∀ x, x < n → (p x = true ↔ Mkd n zs e (fun y => decide (y ∈ [b])) x)
/-- What two sets make. -/
def JM (n : Nat) (zs : List Int) (e : Nat) (q r p : Nat → Bool) : Prop := ∀ x, x < n → (p x = true ↔ Mkd n zs e (fun y => decide (y ∈ lst n q ++ lst n r)) x)
theorem mk_sub {n e : Nat} {zs : List Int} {q p : Nat → Bool} (g : IsGrp n zs e) (h : ∀ x, x < n → (p x = true ↔ Mkd n zs e q x)) : subT n zs e p = true := subT_iff.2 (made_sg g h)
structure DA (n : Nat) (zs : List Int) (e : Nat) (P : List (Nat → Bool)) (c : Nat) : Prop where
  sub : ∀ p, p ∈ P → subT n zs e p = true
  nd : (bits n P).Nodup
  cyc : ∀ b, b < c → ∃ (j : Nat) (p : Nat → Bool), P[j]? = some p ∧ CM n zs e b p
structure DB (n : Nat) (zs : List Int) (e : Nat) (P : List (Nat → Bool)) (few i k : Nat) : Prop where
  sub : ∀ p, p ∈ P → subT n zs e p = true
  nd : (bits n P).Nodup
  cyc : ∀ b, b < n → ∃ (j : Nat) (p : Nat → Bool), j < few ∧ P[j]? = some p ∧ CM n zs e b p
  fl : few ≤ P.length
  cl : ∀ i' q k' r, P[i']? = some q → P[k']? = some r → k' < few → (i' < i ∨ i' = i ∧ k' < k) → ∃ p, p ∈ P ∧ JM n zs e q r p
section
variable {n e : Nat} {zs : List Int} {P : List (Nat → Bool)} {p q r : Nat → Bool}
theorem put_nd (h : (bits n P).Nodup) : (bits n (put n P p)).Nodup := by
  unfold put
  by_cases h9 : bs p n ∈ bits n P
  · rw [if_pos h9]; exact h
  · rw [if_neg h9, bits_snoc, List.nodup_append]
    refine ⟨h, by simp, fun x hx y hy => ?_⟩
    rw [List.mem_singleton] at hy
    subst hy
    intro e9
    subst e9
    exact h9 hx
theorem put_subs (h : ∀ p, p ∈ P → subT n zs e p = true) (hp : subT n zs e p = true) : ∀ r, r ∈ put n P p → subT n zs e r = true := fun r hr => by
  unfold put at hr
  split at hr
  · exact h r hr
  · rcases List.mem_append.1 hr with hr | hr
    · exact h r hr
    · rw [List.mem_singleton] at hr; subst hr; exact hp
theorem put_old {i : Nat} (hi : i < P.length) (h : (put n P p)[i]? = some q) : P[i]? = some q := by
  have := put_get (n := n) p (List.getElem?_eq_getElem hi)
  rw [this] at h
  rw [← h]
  exact List.getElem?_eq_getElem hi
theorem put_len : P.length ≤ (put n P p).length := by unfold put; split <;> simp
theorem bits_fit (h : (bits n P).Nodup) (hn : n ≤ 24) : P.length ≤ 16777216 := by
  rw [← bits_len n P]
  refine nodup_fits h fun x hx => ?_
  unfold bits at hx
  obtain ⟨p, _, rfl⟩ := List.mem_map.1 hx
  exact Nat.lt_of_lt_of_le (bs_lt p n) (Nat.le_trans (Nat.pow_le_pow_right (by omega) hn) (by decide))
theorem DA.start : DA n zs e [] 0 := ⟨fun p hp => by simp at hp, by simp [bits], fun b hb => by omega⟩
theorem DA.step {c : Nat} (g : IsGrp n zs e) (h : DA n zs e P c) (hp : CM n zs e c p) : DA n zs e (put n P p) (c + 1) := by
  refine ⟨put_subs h.sub (mk_sub g hp), put_nd h.nd, fun b hb => ?_⟩
  by_cases hbc : b = c
  · subst hbc
    obtain ⟨p', h1, h2⟩ := put_mem (n := n) (P := P) (p := p)
    obtain ⟨j, hj⟩ := List.mem_iff_getElem?.1 h1
    exact ⟨j, p', hj, fun x hx => by rw [bs_inj h2 x hx]; exact hp x hx⟩
  · obtain ⟨j, p', h1, h2⟩ := h.cyc b (by omega)
    exact ⟨j, p', put_get p h1, h2⟩
theorem DA.on (h : DA n zs e P n) : DB n zs e P P.length 0 0 :=
  ⟨h.sub, h.nd, fun b hb => by
    obtain ⟨j, p, h1, h2⟩ := h.cyc b hb
    exact ⟨j, p, (List.getElem?_eq_some_iff.1 h1).1, h1, h2⟩, Nat.le_refl _, fun i' q k' r _ _ _ h9 => by omega⟩
theorem DB.step {few i k : Nat} (g : IsGrp n zs e) (h : DB n zs e P few i k) (hq : P[i]? = some q) (hr : P[k]? = some r) (hp : JM n zs e q r p) : DB n zs e (put n P p) few i (k + 1) := by
  refine ⟨put_subs h.sub (mk_sub g hp), put_nd h.nd, fun b hb => ?_, Nat.le_trans h.fl put_len, fun i' q' k' r' h1 h2 h3 h4 => ?_⟩
  · obtain ⟨j, p', h1, h2, h3⟩ := h.cyc b hb
    exact ⟨j, p', h1, put_get p h2, h3⟩
  · have hil := (List.getElem?_eq_some_iff.1 hq).1
    have hfl := h.fl
    have h1 := put_old (by omega) h1
    have h2 := put_old (by omega) h2
    by_cases h9 : i' = i ∧ k' = k
    · obtain ⟨rfl, rfl⟩ := h9
      rw [hq] at h1
      rw [hr] at h2
      injection h1 with h1
      injection h2 with h2
      subst h1 h2
      obtain ⟨p', h5, h6⟩ := put_mem (n := n) (P := P) (p := p)
      exact ⟨p', h5, fun x hx => by rw [bs_inj h6 x hx]; exact hp x hx⟩
    · obtain ⟨p', h5, h6⟩ := h.cl i' q' k' r' h1 h2 h3 (by omega)
      exact ⟨p', put_sub h5, h6⟩
theorem mkd_in {x : Nat} (hq : subT n zs e q = true) {t : Nat → Bool} (ht : ∀ y, y < n → t y = true → q y = true) (hm : Mkd n zs e t x) : q x = true :=
  hm _ (subT_iff.1 hq) (fun z hz h => ht z (List.mem_range.1 hz) h)
theorem DB.skip {few i k : Nat} (h : DB n zs e P few i k) (hq : P[i]? = some q) (hr : P[k]? = some r) (hin : ∀ y, y < n → r y = true → q y = true) : DB n zs e P few i (k + 1) :=
  ⟨h.sub, h.nd, h.cyc, h.fl, fun i' q' k' r' h1 h2 h3 h4 => by
    by_cases h9 : i' = i ∧ k' = k
    · obtain ⟨rfl, rfl⟩ := h9
      rw [hq] at h1
      rw [hr] at h2
      injection h1 with h1
      injection h2 with h2
      subst h1 h2
      have hqm := List.mem_of_getElem? hq
      refine ⟨q, hqm, fun x hx => ⟨fun h5 => mkb hx (decide_eq_true (List.mem_append_left _ (mem_lst.2 ⟨hx, h5⟩))), fun h5 => mkd_in (h.sub q hqm) (fun y hy hyt => ?_) h5⟩⟩
      rcases List.mem_append.1 (of_decide_eq_true hyt) with h6 | h6
      · exact (mem_lst.1 h6).2
      · exact hin y hy (mem_lst.1 h6).2
    · exact h.cl i' q' k' r' h1 h2 h3 (by omega)⟩
theorem DB.next {few i k : Nat} (h : DB n zs e P few i k) (hk : few ≤ k) : DB n zs e P few (i + 1) 0 :=
  ⟨h.sub, h.nd, h.cyc, h.fl, fun i' q' k' r' h1 h2 h3 h4 => h.cl i' q' k' r' h1 h2 h3 (by omega)⟩
theorem DB.fin {few i : Nat} (g : IsGrp n zs e) (h : DB n zs e P few i 0) (hi : P.length ≤ i) : SInv n zs e P P.length 0 := by
  refine ⟨h.sub, h.nd, ?_, fun i' q hq b hb _ => ?_⟩
  · obtain ⟨j, p, _, h1, h2⟩ := h.cyc e g.elt
    unfold bits
    refine List.mem_map.2 ⟨p, List.mem_of_getElem? h1, bs_ext fun x hx => ?_⟩
    have hone : subT n zs e (fun x => decide (x = e)) = true := (SInv.start g).sub _ (by simp)
    cases hp : p x
    · symm
      refine decide_eq_false fun h9 => ?_
      subst h9
      have := (h2 x hx).2 ((Fin.Gen.sg _).one)
      rw [hp] at this
      cases this
    · symm
      exact mkd_in (q := fun x => decide (x = e)) hone (fun y _ hyt => by
        have := of_decide_eq_true hyt
        rw [List.mem_singleton] at this
        exact decide_eq_true this) ((h2 x hx).1 hp)
  · obtain ⟨j, c, hj, h1, h2⟩ := h.cyc b hb
    have hil := (List.getElem?_eq_some_iff.1 hq).1
    obtain ⟨p, h3, h4⟩ := h.cl i' q j c hq h1 hj (by omega)
    refine ⟨p, h3, fun x hx => ?_⟩
    rw [h4 x hx]
    have S1 := Fin.Gen.sg (l := List.range n) (m := tm n zs) (e := e) (fun y => (fun y => q y || decide (y = b)) y = true)
    have S2 := Fin.Gen.sg (l := List.range n) (m := tm n zs) (e := e) (fun y => (fun y => decide (y ∈ lst n q ++ lst n c)) y = true)
    constructor
    · intro h5
      refine h5 _ S1 (fun z hz hq9 => ?_)
      rcases List.mem_append.1 (of_decide_eq_true hq9) with h6 | h6
      · exact Fin.Gen.base hz (by simp [(mem_lst.1 h6).2])
      · have h7 := (h2 z (List.mem_range.1 hz)).1 (mem_lst.1 h6).2
        refine h7 _ S1 (fun y hy h8 => ?_)
        have := of_decide_eq_true h8
        rw [List.mem_singleton] at this
        exact Fin.Gen.base hy (by simp [this])
    · intro h5
      refine h5 _ S2 (fun z hz hq9 => ?_)
      have hzn := List.mem_range.1 hz
      by_cases hqz : q z = true
      · exact Fin.Gen.base hz (decide_eq_true (List.mem_append_left _ (mem_lst.2 ⟨hzn, hqz⟩)))
      · have hzb : z = b := by simpa [hqz] using hq9
        exact Fin.Gen.base hz (decide_eq_true (List.mem_append_right _ (mem_lst.2 ⟨hzn, (h2 z hzn).2 (mkb hzn (by simp [hzb]))⟩)))
end
end Go.Proofs.YtgejngpioldhpaaGreatDoor

namespace Go.Proofs.YtgejngpioldhpaaGreatDoor
open Go Go.RowKit

set_option maxRecDepth 100000 in
set_option maxHeartbeats 2000000 in
theorem less_ok (u v : Value) (xs ys : List Int) (w : World) (hu : Sl w u xs) (hv : Sl w v ys) (hl : xs.length = ys.length) :
    Calls Tryz.prog 21 #[u, v] w fun e w' => e = .returned (.bool (decide (cmpL xs ys < 0))) ∧ Below w.heap.size w w' := by
  obtain ⟨a, cap, pb, po, rfl, hr, hp, hc1, hm1⟩ := hu
  obtain ⟨b, cap', qb, qo, rfl, hs, hq, hc2, hm2⟩ := hv
  unfold maxLen at hm1 hm2
  have HL := hide hl
  have hle1 : xs.length ≤ ys.length := by omega
  have hle2 : ys.length ≤ xs.length := by omega
  clear hl
  go_enter Tryz.func21, Tryz.ntmps21
  go_wp2
  go_loopw [5] (fun i wr => ∃ k j : Nat, k ≤ xs.length ∧ i = .int .i64 k ∧ wr = w.drewN j ∧ cmpL xs ys = cmpL (xs.drop k) (ys.drop k)) (fun i _ => xs.length - (intOf i).toNat)
  case atStart => exact ⟨0, 0, Nat.zero_le _, rfl, rfl, by simp⟩
  case round =>
    obtain ⟨k, j, hk, rfl, rfl, hsame⟩ := hrel
    have HS := hide hsame
    clear hsame
    by_cases hlt : k < xs.length
    · have hlu : k < ys.length := by omega
      have hx := hr.cell k hlt
      have hy := hs.cell k hlu
      have HE := hide (cmpL_step hlt hlu)
      rw [List.getElem?_eq_getElem hlt, Option.getD_some] at hx
      rw [List.getElem?_eq_getElem hlu, Option.getD_some] at hy
      obtain rfl := hr.at_ (by omega)
      obtain rfl := hs.at_ (by omega)
      generalize xs[k] = x at *
      generalize ys[k] = y at *
      have hki : (k : Int) < (xs.length : Int) := by omega
      have hkj : (k : Int) < (ys.length : Int) := by omega
      by_cases hxy : x = y
      · have hb : (x != y) = false := by simp [hxy]
        have HN := hide (show cmpL xs ys = cmpL (xs.drop (k + 1)) (ys.drop (k + 1)) by
          rw [HS.out, HE.out, if_neg (by rw [Decidable.not_not]; exact cmpI_zero.2 hxy)])
        clear hxy
        go_wp2
        go_quiet (fail)
        go_wp2
        go_roundw
        case rel => exact ⟨k + 1, _, by omega, by go_num, rfl, HN.out⟩
        case measure => simp [intOf]; omega
      · have hb : (x != y) = true := by simp [hxy]
        have HD := hide (show decide (cmpL xs ys < 0) = decide (x < y) by
          rw [HS.out, HE.out, if_pos (fun h => hxy (cmpI_zero.1 h))]
          rw [Bool.eq_iff_iff, decide_eq_true_eq, decide_eq_true_eq]
          exact cmpI_lt)
        clear hxy
        go_wp2
        go_quiet (fail)
        go_wp2
        go_quiet (fail)
        go_wp2
        go_ret
        exact ⟨by rw [HD.out]; rfl, bdrewN (bdrewN (bdrewN (Below.refl _ w) _) _) _⟩
    · have HD := hide (show decide (cmpL xs ys < 0) = false by
        rw [HS.out, cmpL_end (by omega) (by omega)]; rfl)
      go_wp2
      go_ret
      exact ⟨by rw [HD.out]; rfl, bdrewN (Below.refl _ w) _⟩

/-- Two places, changed. -/
def swA {α : Type} (l : List α) (i k : Nat) (x y : α) : List α := (l.set i y).set k x
theorem swA_len {α : Type} {l : List α} {i k : Nat} {x y : α} : (swA l i k x y).length = l.length := by simp [swA]
theorem swA_perm {α : Type} {l : List α} {i k : Nat} {x y : α} (hi : i < l.length) (hk : k < l.length) (hx : l[i]? = some x) (hy : l[k]? = some y) : (swA l i k x y).Perm l := by
  have h1 := @List.set_set_perm _ l i k hi hk
  rw [List.getElem?_eq_getElem hi] at hx
  rw [List.getElem?_eq_getElem hk] at hy
  injection hx with hx
  injection hy with hy
  rw [hx, hy] at h1
  exact h1
theorem swA_get {α : Type} {l : List α} {i k t : Nat} {x y : α} (hi : i < l.length) (hk : k < l.length) (hik : i ≠ k) : (swA l i k x y)[t]? = if t = k then some x else if t = i then some y else l[t]? := by
  unfold swA
  rw [List.getElem?_set, List.getElem?_set]
  by_cases h1 : t = k
  · subst h1
    rw [if_pos rfl, if_pos rfl, if_pos (by rw [List.length_set]; omega)]
  · rw [if_neg (fun e => h1 e.symm), if_neg h1]
    by_cases h2 : t = i
    · subst h2
      rw [if_pos rfl, if_pos rfl, if_pos hi]
    · rw [if_neg (fun e => h2 e.symm), if_neg h2]
theorem lsts_swA {W : World} {B : Nat} {r : Value} {vs : List Value} {ls : List (List Int)} {i k : Nat} {a b : Value} {x y : List Int} (h : Lsts W B r vs ls) (hi : i < vs.length) (hk : k < vs.length) (hik : i ≠ k) (ha : vs[i]? = some a) (hb : vs[k]? = some b) (hx : ls[i]? = some x) (hy : ls[k]? = some y) : Lsts W B r (swA vs i k a b) (swA ls i k x y) := by
  refine ⟨by rw [swA_len, swA_len]; exact h.1, fun t u l h1 h2 => ?_⟩
  have hl := h.1
  rw [swA_get hi hk hik] at h1
  rw [swA_get (by omega) (by omega) hik] at h2
  by_cases e1 : t = k
  · rw [if_pos e1] at h1 h2
    injection h1 with h1
    injection h2 with h2
    subst h1 h2
    exact h.2 i _ _ ha hx
  · rw [if_neg e1] at h1 h2
    by_cases e2 : t = i
    · rw [if_pos e2] at h1 h2
      injection h1 with h1
      injection h2 with h2
      subst h1 h2
      exact h.2 k _ _ hb hy
    · rw [if_neg e2] at h1 h2
      exact h.2 t u l h1 h2
def srtA (ms : List (List Int)) (i : Nat) : Prop := ∀ a b, a < i → a < b → b < ms.length → ¬ cmpN (ms[b]?.getD []) (ms[a]?.getD []) < 0
structure SrtB (ms : List (List Int)) (i k : Nat) : Prop where
  l : srtA ms i
  r : ∀ b, i < b → b < k → b < ms.length → ¬ cmpN (ms[b]?.getD []) (ms[i]?.getD []) < 0
theorem SrtB.start {ms : List (List Int)} {i : Nat} (h : srtA ms i) : SrtB ms i (i + 1) := ⟨h, fun b h1 h2 => by omega⟩
theorem SrtB.skip {ms : List (List Int)} {i k : Nat} {x y : List Int} (h : SrtB ms i k) (hx : ms[i]? = some x) (hy : ms[k]? = some y) (hn : ¬ cmpN y x < 0) : SrtB ms i (k + 1) :=
  ⟨h.l, fun b h1 h2 h3 => by
    by_cases e : b = k
    · subst e; rw [hx, hy]; exact hn
    · exact h.r b h1 (by omega) h3⟩
theorem SrtB.swap {ms : List (List Int)} {i k : Nat} {x y : List Int} (h : SrtB ms i k) (hik : i < k) (hk : k < ms.length) (hx : ms[i]? = some x) (hy : ms[k]? = some y) (hn : cmpN y x < 0) : SrtB (swA ms i k x y) i (k + 1) := by
  have gx : ms[i]?.getD [] = x := by rw [hx]; rfl
  have gy : ms[k]?.getD [] = y := by rw [hy]; rfl
  have hxy : ¬ cmpN x y < 0 := by have := cmpN_neg y x; omega
  refine ⟨fun a b h1 h2 h3 => ?_, fun b h1 h2 h3 => ?_⟩
  · rw [swA_len] at h3
    rw [swA_get (by omega) hk (by omega), swA_get (by omega) hk (by omega), if_neg (show ¬ a = k by omega), if_neg (show ¬ a = i by omega)]
    by_cases e1 : b = k
    · rw [if_pos e1]
      show ¬ cmpN x _ < 0
      rw [← gx]
      exact h.l a i h1 (by omega) (by omega)
    · rw [if_neg e1]
      by_cases e2 : b = i
      · rw [if_pos e2]
        show ¬ cmpN y _ < 0
        rw [← gy]
        exact h.l a k h1 (by omega) hk
      · rw [if_neg e2]
        exact h.l a b h1 h2 h3
  · rw [swA_len] at h3
    rw [swA_get (by omega) hk (by omega), swA_get (by omega) hk (by omega), if_neg (show ¬ i = k by omega), if_pos rfl]
    by_cases e1 : b = k
    · rw [if_pos e1]; exact hxy
    · rw [if_neg e1, if_neg (show ¬ b = i by omega)]
      have h4 := h.r b h1 (by omega) h3
      rw [gx] at h4
      exact cmpN_ge h4 hxy
theorem SrtB.fin {ms : List (List Int)} {i k : Nat} (h : SrtB ms i k) (hk : ms.length ≤ k) : srtA ms (i + 1) := fun a b h1 h2 h3 => by
  by_cases e : a = i
  · subst e; exact h.r b h2 (by omega) h3
  · exact h.l a b (by omega) h2 h3
/-- How the lists lie while they are put in order. -/
structure SgT (w W : World) (n : Nat) (v : Value) (g K rc : Nat) (us : List Value) (ms : List (List Int)) : Prop where
  bel : Below w.heap.size w W
  sz : w.heap.size + 2 ≤ W.heap.size
  ob : Boxed W (w.heap.size + 1) 25 (.slice (some ⟨g, 0, none⟩) K rc)
  row : W.ownsRow (w.heap.size + 2) 22 1 (.slice (some ⟨g, 0, none⟩) K rc) K us
  ls : Lsts W (w.heap.size + 2) (.slice (some ⟨g, 0, none⟩) K rc) us ms
  ul : us.length = K
theorem SgT.below {w W W' : World} {n : Nat} {v : Value} {g K rc : Nat} {us : List Value} {ms : List (List Int)} (h : SgT w W n v g K rc us ms) (hb : Below W.heap.size W W') : SgT w W' n v g K rc us ms :=
  ⟨bcat2 h.bel hb, Nat.le_trans h.sz hb.size, Boxed.below h.ob hb, own_keep' h.row (fun g _ h9 => hb.block g h9), h.ls.keep hb.size (fun g _ h9 _ => hb.block g h9) (.inl rfl), h.ul⟩
theorem SgT.ge {w W : World} {n : Nat} {v : Value} {g K rc : Nat} {us : List Value} {ms : List (List Int)} (h : SgT w W n v g K rc us ms) : w.heap.size + 2 ≤ g := owns_ge h.row g (by simp [Value.ownBlock])
theorem SgT.swap {w W : World} {n : Nat} {v : Value} {g K rc i k : Nat} {us : List Value} {ms : List (List Int)} {a b : Value} {x y : List Int} (h : SgT w W n v g K rc us ms) (hi : i < K) (hk : k < K) (hik : i ≠ k) (ha : us[i]? = some a) (hb : us[k]? = some b) (hx : ms[i]? = some x) (hy : ms[k]? = some y) : SgT w ((W.setCell ⟨g, i, none⟩ b).setCell ⟨g, k, none⟩ a) n v g K rc (swA us i k a b) (swA ms i k x y) := by
  have hge := h.ge
  have hk9 : ∀ t, t ≠ g → ((W.setCell ⟨g, i, none⟩ b).setCell ⟨g, k, none⟩ a).heap[t]? = W.heap[t]? := fun t ht => by
    rw [Below.heap_setCell _ _ _ _ ht, Below.heap_setCell _ _ _ _ ht]
  have hul := h.ul
  refine ⟨(h.bel.setCell (p := ⟨g, i, none⟩) (by simp; omega) _).setCell (p := ⟨g, k, none⟩) (by simp; omega) _, by rw [size_set, size_set]; exact h.sz, (hk9 _ (by omega)).trans h.ob, ((h.row.stored i b).1.stored k a).1, ?_, by rw [swA_len]; exact h.ul⟩
  refine lsts_swA (h.ls.keep (by rw [size_set, size_set]; exact Nat.le_refl _) (fun t h1 h2 h3 => hk9 t (fun e => h3 (by rw [e]; rfl))) (.inl rfl)) (by omega) (by omega) hik ha hb hx hy
end Go.Proofs.YtgejngpioldhpaaGreatDoor
