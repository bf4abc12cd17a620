/- What one thing makes has as many things as its order. No condition. A conjugate of a set is normal just where it is the only one; what is in all conjugates of a subgroup of a power of p things is a normal subgroup of such a kind. No condition. A group of a power of p things that moves things: what does not stay is a multiple of p; orbits and what stays. No condition. Sylow's theorems: the conjugates of a subgroup of a power of p things that no thing makes a greater one are, one left out, a multiple of p; each subgroup of a power of p things is in one of them; each has as many things as the greatest power of p in how many there are; and how many they are, times how many things keep one, are all things. No condition. Sylow's subgroups by 2 of the square's group: it is all of it; so sylowBegun answers true. Condition: the library's table of places lies as its text lays it. What package sylow's Cauchy answers: at what is wrong, and at a group and a prime. Condition: the library's table of places lies as its text lays it. What the law SylowCauchy asks besides: listAs, primeFault, and its closures: the things of the order p. What primeFault answers: what is wrong with a table, then with p. The law SylowCauchy, walked: at what is wrong, and at a group and a prime; what it calls stands as premises. Condition: the library's table of places lies as its text lays it. The law SylowCauchy: at every table and every number it returns true. Condition: the library's table of places lies as its text lays it. What the law's powerIn answers: the greatest power of p that divides a number. The law SylowQuotients at what is wrong: true. Condition: the library's table of places lies as its text lays it. Package quot: numbers, group, Quotient; the law's question whether a group is the quotient; the chapter's example. What package quot's Simple and Abel answer; the subgroup of commutators, and the quotient by it. Condition: the library's table of places lies as its text lays it. -/
import Derived.Test.YtolbpjjjoafkkaaDoorZ5
import Derived.Test.YtolbpjjjoafkkaaDoorZ4
import Derived.Test.YtolbpjjjoafkkaaDoorZ1
import Derived.Deep.DeepCutAuto
import Derived.Test.YtolbpjjjoafkkaaDoorZ3
import Derived.Maps.OwnOps
import Derived.Deep.AppendLies
import Derived.Deep.RegionLaw
namespace Go.Proofs.YtolbpjjjoafkkaaDoor

theorem po_pw (n : Nat) (zs : List Int) (e a : Nat) : ∀ k, Fin.po (tm n zs) e a k = pw n zs e a k
  | 0 => rfl
  | k + 1 => by
    show tm n zs (Fin.po (tm n zs) e a k) a = tm n zs (pw n zs e a k) a
    rw [po_pw n zs e a k]
theorem ord_iff {n e : Nat} {zs : List Int} (g : IsGrp n zs e) {a : Nat} (ha : a < n) (i : Nat) : Fin.po (tm n zs) e a i = e ↔ ordN n zs e a ∣ i := by
  rw [po_pw]
  refine ⟨fun h => ord_dvd g ha h, ?_⟩
  rintro ⟨q, rfl⟩
  exact pw_ord_mul g ha q
/-- What one thing makes: its powers. -/
theorem mk1_len {n e : Nat} {zs : List Int} (g : IsGrp n zs e) {a : Nat} (ha : a < n) : (lst n (mk1 n zs e a)).length = ordN n zs e a := by
  have hF := Fin.cyc_fg (grp_fg g) (List.mem_range.2 ha) (ord_pos (n := n) (zs := zs) (e := e) a) (ord_iff g ha)
  have hnd1 : (lst n (mk1 n zs e a)).Nodup := List.nodup_range.sublist List.filter_sublist
  have hmem : ∀ x, x ∈ lst n (mk1 n zs e a) ↔ x ∈ (List.range (ordN n zs e a)).map (Fin.po (tm n zs) e a) := fun x => by
    rw [mem_lst]
    constructor
    · rintro ⟨hx, h1⟩
      exact Fin.Gen.least (P := fun x => x ∈ (List.range (ordN n zs e a)).map (Fin.po (tm n zs) e a)) ⟨hF.1.one, fun y z _ _ hy hz => hF.1.cl y z hy hz⟩ (fun y _ hy => by
        have hy : y = a := of_decide_eq_true hy
        rw [hy]
        by_cases h1 : ordN n zs e a = 1
        · have h2 := (ord_iff g ha 1).2 (by rw [h1]; exact Nat.dvd_refl 1)
          have h3 : Fin.po (tm n zs) e a 1 = a := g.left a ha
          rw [h3] at h2
          exact List.mem_map.2 ⟨0, List.mem_range.2 (by omega), h2.symm⟩
        · have h2 := ord_pos (n := n) (zs := zs) (e := e) a
          exact List.mem_map.2 ⟨1, List.mem_range.2 (by omega), g.left a ha⟩) ((mk1_iff n zs e a x hx).1 h1)
    · intro hx
      have hxl := List.mem_range.1 (hF.2 x hx)
      refine ⟨hxl, (mk1_iff n zs e a x hxl).2 ?_⟩
      obtain ⟨i, _, rfl⟩ := List.mem_map.1 hx
      exact Fin.Sg.pow (grp_fg g) (Fin.Gen.sg _) (List.mem_range.2 ha) (Fin.Gen.base (List.mem_range.2 ha) (by simp)) i
  have h1 := nodup_len _ _ hnd1 (fun z hz => (hmem z).1 hz)
  have h2 := nodup_len _ _ hF.1.nd (fun z hz => (hmem z).2 hz)
  rw [List.length_map, List.length_range] at h1 h2
  omega
theorem prime_of {p : Nat} (hpr : primeB p = true) : 2 ≤ p ∧ ∀ d, d ∣ p → d = 1 ∨ d = p := by
  have h := of_decide_eq_true hpr
  have h2 : 2 ≤ p := by omega
  refine ⟨h2, fun d hd => ?_⟩
  have h3 := Nat.le_of_dvd (by omega) hd
  have h4 : d ≠ 0 := fun e => by subst e; have := Nat.eq_zero_of_zero_dvd hd; omega
  by_cases h5 : d = 1
  · exact .inl h5
  · by_cases h6 : d = p
    · exact .inr h6
    · exact absurd (Nat.mod_eq_zero_of_dvd hd) (by have := h.2.2 d (by simp; omega) (by omega); simpa using this)
end Go.Proofs.YtolbpjjjoafkkaaDoor

namespace Go.Proofs.YtolbpjjjoafkkaaDoor

theorem nrmq_iff {n e : Nat} {zs : List Int} {q : Nat → Bool} : nrmq n zs e q = true ↔ ∀ a, a < n → bs (cjq n zs e q a) n = bs q n := by
  unfold nrmq
  rw [decide_eq_true_eq]
  constructor
  · intro h a ha
    have := bs_inj h a ha
    unfold norq at this
    exact of_decide_eq_true this
  · intro h
    exact bs_ext fun a ha => by unfold norq; exact decide_eq_true (h a ha)
theorem cjq_twice {n e : Nat} {zs : List Int} {q : Nat → Bool} (g : IsGrp n zs e) {a b : Nat} (ha : a < n) (hb : b < n) : bs (cjq n zs e (cjq n zs e q a) b) n = bs (cjq n zs e q (tm n zs a b)) n := by
  have F := grp_fg g
  have V := grp_iv g
  have ha' := List.mem_range.2 ha
  have hb' := List.mem_range.2 hb
  refine bs_ext fun y _ => ?_
  rw [Bool.eq_iff_iff, cjq_iff, cjq_iff]
  constructor
  · rintro ⟨x, hx, h1, rfl⟩
    obtain ⟨z, hz, h2, rfl⟩ := cjq_iff.1 h1
    exact ⟨z, hz, h2, (Fin.cj_cj F V hz ha' hb').symm⟩
  · rintro ⟨z, hz, h2, rfl⟩
    exact ⟨Fin.cj (tm n zs) (iv n zs e) z a, Fin.cj_mem F V hz ha', cjq_iff.2 ⟨z, hz, h2, rfl⟩, Fin.cj_cj F V hz ha' hb'⟩
theorem one_conj {n e : Nat} {zs : List Int} {s : Nat → Bool} (g : IsGrp n zs e) {c : Nat} (hc : c < n) : nrmq n zs e (cjq n zs e s c) = true ↔ ∀ a, a < n → bs (cjq n zs e s a) n = bs (cjq n zs e s c) n := by
  have F := grp_fg g
  have V := grp_iv g
  rw [nrmq_iff]
  constructor
  · intro h a ha
    have hc' := List.mem_range.2 hc
    have ha' := List.mem_range.2 ha
    have hi := (V c hc').1
    have hb : tm n zs (iv n zs e c) a < n := List.mem_range.1 (F.cl _ _ hi ha')
    have h1 := h _ hb
    rw [cjq_twice g hc hb, ← F.ass _ _ _ hc' hi ha', (V c hc').2.1, F.left a ha'] at h1
    exact h1
  · intro h b hb
    rw [cjq_twice g hc hb]
    exact h _ (tm_lt g.tab hc hb)
theorem alone_iff {f : Nat → Nat} {n c : Nat} {A : List Nat} (hA : ∀ a, a ∈ A → a < n) (hnd : (A.map f).Nodup) (hall : ∀ a, a < n → f a ∈ A.map f) (hc : c ∈ A) : (∀ a, a < n → f a = f c) ↔ A.length = 1 := by
  constructor
  · intro h
    match A, hA, hnd, hc with
    | [a], _, _, _ => rfl
    | a :: b :: A, hA, hnd, _ =>
      rw [List.map_cons, List.map_cons, List.nodup_cons] at hnd
      exact absurd (by rw [h a (hA a (by simp)), ← h b (hA b (by simp))]; simp) hnd.1
  · intro h a ha
    match A, h, hc with
    | [d], _, hc =>
      have h1 := hall a ha
      rw [List.map_cons, List.map_nil, List.mem_singleton] at h1
      rw [List.mem_singleton.1 hc, h1]
theorem cin_iff {n e : Nat} {zs : List Int} {s : Nat → Bool} {A : List Nat} (hA : ∀ a, a ∈ A → a < n) (hall : ∀ a, a < n → bs (cjq n zs e s a) n ∈ A.map fun a => bs (cjq n zs e s a) n) {x : Nat} (hx : x < n) : cin n zs e s A x = true ↔ ∀ a, a < n → cjq n zs e s a x = true := by
  unfold cin
  rw [List.all_eq_true]
  constructor
  · intro h a ha
    obtain ⟨b, hb, h1⟩ := List.mem_map.1 (hall a ha)
    rw [← bs_inj h1 x hx]
    exact h b hb
  · intro h a ha
    exact h a (hA a ha)
theorem cin_nrm {n e : Nat} {zs : List Int} {s : Nat → Bool} {A : List Nat} (g : IsGrp n zs e) (hA : ∀ a, a ∈ A → a < n) (hall : ∀ a, a < n → bs (cjq n zs e s a) n ∈ A.map fun a => bs (cjq n zs e s a) n) : nrmq n zs e (cin n zs e s A) = true := by
  have F := grp_fg g
  have V := grp_iv g
  rw [nrmq_iff]
  intro b hb
  have hb' := List.mem_range.2 hb
  have hi := (V b hb').1
  have hil := List.mem_range.1 hi
  refine bs_ext fun y hy => ?_
  rw [Bool.eq_iff_iff, cin_iff hA hall hy]
  constructor
  · intro h a ha
    obtain ⟨x, hx, h1, rfl⟩ := cjq_iff.1 h
    have ha' := List.mem_range.2 ha
    have hai : tm n zs a (iv n zs e b) < n := tm_lt g.tab ha hil
    have h2 := (cin_iff hA hall (List.mem_range.1 hx)).1 h1 _ hai
    have h3 := bs_inj (cjq_twice (q := s) g hai hb) _ hy
    rw [F.ass _ _ _ ha' hi hb', (V b hb').2.2, F.right a ha'] at h3
    rw [← h3]
    exact cjq_iff.2 ⟨x, hx, h2, rfl⟩
  · intro h
    have hy' := List.mem_range.2 hy
    have hm := Fin.cj_mem F V hy' hi
    refine cjq_iff.2 ⟨_, hm, (cin_iff hA hall (List.mem_range.1 hm)).2 fun a ha => ?_, (Fin.cj_back F V hy' hb').2⟩
    have ha' := List.mem_range.2 ha
    have hab : tm n zs a b < n := tm_lt g.tab ha hb
    have h3 := bs_inj (cjq_twice (q := s) g hab hil) _ (List.mem_range.1 hm)
    rw [F.ass _ _ _ ha' hb' hi, (V b hb').2.1, F.right a ha'] at h3
    rw [← h3]
    exact cjq_iff.2 ⟨y, hy', h _ hab, rfl⟩
theorem cin_sub {n e : Nat} {zs : List Int} {s : Nat → Bool} {A : List Nat} (g : IsGrp n zs e) (hs : subT n zs e s = true) (hA : ∀ a, a ∈ A → a < n) (hall : ∀ a, a < n → bs (cjq n zs e s a) n ∈ A.map fun a => bs (cjq n zs e s a) n) : subT n zs e (cin n zs e s A) = true := by
  have F := grp_fg g
  have V := grp_iv g
  have S := subT_iff.1 hs
  refine subT_iff.2 ⟨(cin_iff hA hall g.elt).2 fun a ha => cjq_iff.2 ⟨e, F.one, S.one, Fin.cj_one F V (List.mem_range.2 ha)⟩, fun x y hx hy h1 h2 => ?_⟩
  have h1 := (cin_iff hA hall (List.mem_range.1 hx)).1 h1
  have h2 := (cin_iff hA hall (List.mem_range.1 hy)).1 h2
  refine (cin_iff hA hall (tm_lt g.tab (List.mem_range.1 hx) (List.mem_range.1 hy))).2 fun a ha => ?_
  obtain ⟨u, hu, k1, rfl⟩ := cjq_iff.1 (h1 a ha)
  obtain ⟨v, hv, k2, rfl⟩ := cjq_iff.1 (h2 a ha)
  exact cjq_iff.2 ⟨tm n zs u v, F.cl _ _ hu hv, S.mul u v hu hv k1 k2, Fin.cj_mul F V hu hv (List.mem_range.2 ha)⟩
theorem dvd_pw {p : Nat} (hp : 2 ≤ p ∧ ∀ d, d ∣ p → d = 1 ∨ d = p) : ∀ (k d : Nat), d ∣ p ^ k → isPw d p
  | 0, d, h => ⟨0, Nat.dvd_one.1 h⟩
  | k + 1, d, h => by
    by_cases hd : p ∣ d
    · obtain ⟨c, rfl⟩ := hd
      rw [Nat.pow_succ, Nat.mul_comm (p ^ k)] at h
      obtain ⟨j, hj⟩ := dvd_pw hp k c (Nat.dvd_of_mul_dvd_mul_left (by omega) h)
      exact ⟨j + 1, by rw [hj, Nat.pow_succ, Nat.mul_comm]⟩
    · have hco : Nat.Coprime d p := by
        rcases hp.2 _ (Nat.gcd_dvd_right d p) with h1 | h1
        · exact h1
        · exact absurd (h1 ▸ Nat.gcd_dvd_left d p) hd
      rw [Nat.pow_succ] at h
      exact dvd_pw hp k d (hco.dvd_of_dvd_mul_right h)
theorem cin_pw {n e p : Nat} {zs : List Int} {s : Nat → Bool} {A : List Nat} (g : IsGrp n zs e) (hpr : primeB p = true) (hgr : Grown n zs e p s) (hA : ∀ a, a ∈ A → a < n) (hall : ∀ a, a < n → bs (cjq n zs e s a) n ∈ A.map fun a => bs (cjq n zs e s a) n) : isPw (lst n (cin n zs e s A)).length p := by
  have F := grp_fg g
  have V := grp_iv g
  have F1 : Fin.Fg (lst n s) (tm n zs) e := Fin.sg_fg F (subT_iff.1 hgr.sub)
  have F2 : Fin.Fg (lst n (cin n zs e s A)) (tm n zs) e := Fin.sg_fg F (subT_iff.1 (cin_sub g hgr.sub hA hall))
  have h := Fin.lagr F1 F2 (fun x hx => by
    obtain ⟨hxn, h1⟩ := mem_lst.1 hx
    obtain ⟨u, hu, k1, k2⟩ := cjq_iff.1 ((cin_iff hA hall hxn).1 h1 e g.elt)
    rw [Fin.cj_id F V hu] at k2
    rw [← k2]
    exact mem_lst.2 ⟨List.mem_range.1 hu, k1⟩)
  obtain ⟨k, hk⟩ := hgr.pow
  rw [hk] at h
  exact dvd_pw (prime_of hpr) k _ h
end Go.Proofs.YtolbpjjjoafkkaaDoor

namespace Go.Proofs.YtolbpjjjoafkkaaDoor
namespace Fin
variable {P X : List Nat} {m t : Nat → Nat → Nat} {e : Nat}
/-- A group that moves the things of a list. -/
structure Mv (P X : List Nat) (m : Nat → Nat → Nat) (e : Nat) (t : Nat → Nat → Nat) : Prop where
  mem : ∀ c x, c ∈ X → x ∈ P → t c x ∈ X
  one : ∀ c, c ∈ X → t c e = c
  mul : ∀ c x y, c ∈ X → x ∈ P → y ∈ P → t (t c x) y = t c (m x y)
def fixB (P : List Nat) (t : Nat → Nat → Nat) (c : Nat) : Bool := P.all fun x => decide (t c x = c)
def orbB (P : List Nat) (t : Nat → Nat → Nat) (c d : Nat) : Bool := P.any fun x => decide (t c x = d)
theorem orbB_iff {c d : Nat} : orbB P t c d = true ↔ ∃ x, x ∈ P ∧ t c x = d := by unfold orbB; simp
theorem fixB_iff {c : Nat} : fixB P t c = true ↔ ∀ x, x ∈ P → t c x = c := by unfold fixB; simp
theorem orb_back (F : Fg P m e) (M : Mv P X m e t) {c x : Nat} (hc : c ∈ X) (hx : x ∈ P) : ∃ y, y ∈ P ∧ t (t c x) y = c := by
  obtain ⟨y, hy, h1, _⟩ := F.inv x hx
  exact ⟨y, hy, by rw [M.mul c x y hc hx hy, h1, M.one c hc]⟩
theorem orb_same (F : Fg P m e) (M : Mv P X m e t) {c d z : Nat} (hc : c ∈ X) (hd : d ∈ X) (h : orbB P t c d = true) : orbB P t c z = orbB P t d z := by
  obtain ⟨x, hx, rfl⟩ := orbB_iff.1 h
  rw [Bool.eq_iff_iff, orbB_iff, orbB_iff]
  obtain ⟨y, hy, hb⟩ := orb_back F M hc hx
  constructor
  · rintro ⟨u, hu, rfl⟩
    exact ⟨m y u, F.cl _ _ hy hu, by rw [← M.mul _ _ _ hd hy hu, hb]⟩
  · rintro ⟨u, hu, rfl⟩
    exact ⟨m x u, F.cl _ _ hx hu, (M.mul _ _ _ hc hx hu).symm⟩
theorem orb_len (F : Fg P m e) (M : Mv P X m e t) (hX : X.Nodup) {c : Nat} (hc : c ∈ X) : P.length = (X.filter (orbB P t c)).length * (P.filter fun x => decide (t c x = c)).length := by
  refine fib_len (fun x => t c x) _ _ _ (hX.filter _) (fun x hx => List.mem_filter.2 ⟨M.mem c x hc hx, orbB_iff.2 ⟨x, hx, rfl⟩⟩) (fun k hk => ?_)
  obtain ⟨hk1, hk2⟩ := List.mem_filter.1 hk
  obtain ⟨x, hx, rfl⟩ := orbB_iff.1 hk2
  symm
  refine bij_len (fun y => m y x) (F.nd.filter _) (F.nd.filter _) (fun y hy => ?_) (fun y z hy hz h => F.canR hx (List.mem_filter.1 hy).1 (List.mem_filter.1 hz).1 h) (fun z hz => ?_)
  · obtain ⟨h1, h2⟩ := List.mem_filter.1 hy
    refine List.mem_filter.2 ⟨F.cl _ _ h1 hx, decide_eq_true ?_⟩
    rw [← M.mul c y x hc h1 hx, of_decide_eq_true h2]
  · obtain ⟨h1, h2⟩ := List.mem_filter.1 hz
    obtain ⟨y, hy, i1, i2⟩ := F.inv x hx
    refine ⟨m z y, List.mem_filter.2 ⟨F.cl _ _ h1 hy, decide_eq_true ?_⟩, ?_⟩
    · rw [← M.mul c z y hc h1 hy, of_decide_eq_true h2, M.mul c x y hc hx hy, i1, M.one c hc]
    · show m (m z y) x = z
      rw [F.ass _ _ _ h1 hy hx, i2, F.right z h1]
theorem fix_dvd {p : Nat} (hp : 2 ≤ p ∧ ∀ d, d ∣ p → d = 1 ∨ d = p) (F : Fg P m e) (M : Mv P X m e t) (hX : X.Nodup) (hP : isPw P.length p) : p ∣ (X.filter fun c => !fixB P t c).length := by
  obtain ⟨k, hk⟩ := hP
  refine part_dvd p (orbB P t) _ _ (Nat.le_refl _) (fun c hc => ?_) (fun c d z hc hd hz h => ?_) (fun c hc => ?_)
  · exact orbB_iff.2 ⟨e, F.one, M.one c (List.mem_filter.1 hc).1⟩
  · exact orb_same F M (List.mem_filter.1 hc).1 (List.mem_filter.1 hd).1 h
  · obtain ⟨h1, h2⟩ := List.mem_filter.1 hc
    have hsame : (X.filter fun c => !fixB P t c).filter (orbB P t c) = X.filter (orbB P t c) := by
      rw [List.filter_filter]
      refine filter_eq fun z hz => ?_
      cases ho : orbB P t c z with
      | false => simp
      | true =>
        have hno : fixB P t z = false := by
          rw [Bool.eq_false_iff]
          intro hf
          obtain ⟨x, hx, hxz⟩ := orbB_iff.1 ho
          obtain ⟨y, hy, hb⟩ := orb_back F M h1 hx
          rw [hxz, fixB_iff.1 hf y hy] at hb
          rw [hb] at hf
          simp [hf] at h2
        simp [hno]
    rw [hsame]
    have hl := orb_len F M hX h1
    have hd : (X.filter (orbB P t c)).length ∣ p ^ k := hk ▸ ⟨_, hl⟩
    obtain ⟨j, hj⟩ := dvd_pw hp k _ hd
    cases j with
    | zero =>
      exfalso
      have hfx : fixB P t c = true := fixB_iff.2 fun x hx => by
        have m1 : c ∈ X.filter (orbB P t c) := List.mem_filter.2 ⟨h1, orbB_iff.2 ⟨e, F.one, M.one c h1⟩⟩
        have m2 : t c x ∈ X.filter (orbB P t c) := List.mem_filter.2 ⟨M.mem c x h1 hx, orbB_iff.2 ⟨x, hx, rfl⟩⟩
        obtain ⟨d, hd1⟩ := List.length_eq_one_iff.1 hj
        rw [hd1, List.mem_singleton] at m1 m2
        exact m2.trans m1.symm
      simp [hfx] at h2
    | succ j => rw [hj, Nat.pow_succ]; exact ⟨p ^ j, Nat.mul_comm _ _⟩
theorem fix_mod {p : Nat} (hp : 2 ≤ p ∧ ∀ d, d ∣ p → d = 1 ∨ d = p) (F : Fg P m e) (M : Mv P X m e t) (hX : X.Nodup) (hP : isPw P.length p) : X.length % p = (X.filter (fixB P t)).length % p := by
  obtain ⟨c, hc⟩ := fix_dvd hp F M hX hP
  rw [split_len (fixB P t) X, hc, Nat.add_mul_mod_self_left]
end Fin
end Go.Proofs.YtolbpjjjoafkkaaDoor

namespace Go.Proofs.YtolbpjjjoafkkaaDoor
variable {n e p : Nat} {zs : List Int} {s q : Nat → Bool}

/-- The number of a conjugate, and how a thing moves it. -/
abbrev fc (n : Nat) (zs : List Int) (e : Nat) (s : Nat → Bool) (a : Nat) : Nat := bs (cjq n zs e s a) n
def tq (n : Nat) (zs : List Int) (e : Nat) (c x : Nat) : Nat := bs (cjq n zs e (fun y => c.testBit y) x) n
theorem tq_bs {x : Nat} : tq n zs e (bs q n) x = bs (cjq n zs e q x) n := by
  have h : lst n (fun y => (bs q n).testBit y) = lst n q := lst_congr fun y hy => by rw [bs_bit]; simp [hy]
  unfold tq cjq
  rw [h]
theorem tq_fc (g : IsGrp n zs e) {a x : Nat} (ha : a < n) (hx : x < n) : tq n zs e (fc n zs e s a) x = fc n zs e s (tm n zs a x) := by
  rw [tq_bs]
  exact cjq_twice g ha hx
theorem cjq_e (g : IsGrp n zs e) : bs (cjq n zs e s e) n = bs s n := by
  have F := grp_fg g
  have V := grp_iv g
  refine bs_ext fun y hy => ?_
  rw [Bool.eq_iff_iff, cjq_iff]
  constructor
  · rintro ⟨x, hx, h1, rfl⟩
    rwa [Fin.cj_id F V hx]
  · intro h
    exact ⟨y, List.mem_range.2 hy, h, Fin.cj_id F V (List.mem_range.2 hy)⟩
theorem cj_sg (g : IsGrp n zs e) (hq : subT n zs e q = true) {b : Nat} (hb : b < n) : subT n zs e (cjq n zs e q b) = true := by
  have F := grp_fg g
  have V := grp_iv g
  have S := subT_iff.1 hq
  have hb' := List.mem_range.2 hb
  refine subT_iff.2 ⟨cjq_iff.2 ⟨e, F.one, S.one, Fin.cj_one F V hb'⟩, fun x y hx hy h1 h2 => ?_⟩
  obtain ⟨u, hu, k1, rfl⟩ := cjq_iff.1 h1
  obtain ⟨v, hv, k2, rfl⟩ := cjq_iff.1 h2
  exact cjq_iff.2 ⟨tm n zs u v, F.cl _ _ hu hv, S.mul u v hu hv k1 k2, Fin.cj_mul F V hu hv hb'⟩
theorem lst_nd (n : Nat) (q : Nat → Bool) : (lst n q).Nodup := List.nodup_range.sublist List.filter_sublist
theorem cj_len (g : IsGrp n zs e) {b : Nat} (hb : b < n) : (lst n (cjq n zs e q b)).length = (lst n q).length := by
  have F := grp_fg g
  have V := grp_iv g
  have hb' := List.mem_range.2 hb
  symm
  refine Fin.bij_len (fun x => Fin.cj (tm n zs) (iv n zs e) x b) (lst_nd n q) (lst_nd n _) (fun x hx => ?_) (fun x y hx hy h => ?_) (fun y hy => ?_)
  · obtain ⟨h1, h2⟩ := mem_lst.1 hx
    exact mem_lst.2 ⟨List.mem_range.1 (Fin.cj_mem F V (List.mem_range.2 h1) hb'), cjq_iff.2 ⟨x, List.mem_range.2 h1, h2, rfl⟩⟩
  · have h1 := (Fin.cj_back F V (List.mem_range.2 (mem_lst.1 hx).1) hb').1
    have h2 := (Fin.cj_back F V (List.mem_range.2 (mem_lst.1 hy).1) hb').1
    have h : Fin.cj (tm n zs) (iv n zs e) x b = Fin.cj (tm n zs) (iv n zs e) y b := h
    rw [← h1, h, h2]
  · obtain ⟨h1, h2⟩ := mem_lst.1 hy
    obtain ⟨x, hx, k, rfl⟩ := cjq_iff.1 h2
    exact ⟨x, mem_lst.2 ⟨List.mem_range.1 hx, k⟩, rfl⟩
/-- A subgroup of a power of p things that keeps a greatest one is in it. -/
theorem norm_in (g : IsGrp n zs e) (hpr : primeB p = true) (hG : Grown n zs e p s) (hq : subT n zs e q = true) (hpw : isPw (lst n q).length p)
    (hno : ∀ x, x < n → q x = true → bs (cjq n zs e s x) n = bs s n) {x : Nat} (hx : x < n) (hqx : q x = true) : s x = true := by
  have F := grp_fg g
  have V := grp_iv g
  have S := subT_iff.1 hG.sub
  have Q := subT_iff.1 hq
  obtain ⟨r, hr⟩ := Fin.test_of (fun x => ∃ a b, a ∈ List.range n ∧ b ∈ List.range n ∧ q a = true ∧ s b = true ∧ tm n zs a b = x)
  have hnc : ∀ a b, a ∈ List.range n → b ∈ List.range n → q a = true → s b = true → s (Fin.cj (tm n zs) (iv n zs e) b a) = true := fun a b ha hb h1 h2 => by
    have hm := Fin.cj_mem F V hb ha
    rw [← bs_inj (hno a (List.mem_range.1 ha) h1) _ (List.mem_range.1 hm)]
    exact cjq_iff.2 ⟨b, hb, h2, rfl⟩
  have R : Fin.Sg (List.range n) (tm n zs) e (fun a => r a = true) := by
    refine ⟨(hr e).2 ⟨e, e, F.one, F.one, Q.one, S.one, F.left e F.one⟩, fun y z hy hz h1 h2 => ?_⟩
    obtain ⟨a, b, ha, hb, k1, k2, rfl⟩ := (hr y).1 h1
    obtain ⟨c, d, hc, hd, k3, k4, rfl⟩ := (hr z).1 h2
    have hcm := Fin.cj_mem F V hb hc
    refine (hr _).2 ⟨tm n zs a c, tm n zs (Fin.cj (tm n zs) (iv n zs e) b c) d, F.cl _ _ ha hc, F.cl _ _ hcm hd, Q.mul a c ha hc k1 k3, S.mul _ _ hcm hd (hnc c b hc hb k3 k2) k4, ?_⟩
    rw [F.ass _ _ _ ha hc (F.cl _ _ hcm hd), ← F.ass _ _ _ hc hcm hd, Fin.cj_eq F V hb hc, F.ass _ _ _ hb hc hd, ← F.ass _ _ _ ha hb (F.cl _ _ hc hd)]
  have hlen := Fin.prod_formula F (N := n) (fun x hx => List.mem_range.1 hx) Q S r (fun x _ => hr x)
  obtain ⟨i, hi⟩ := hpw
  obtain ⟨j, hj⟩ := hG.pow
  have hrp : isPw (lst n r).length p := dvd_pw (prime_of hpr) (i + j) _ ⟨_, by rw [Nat.pow_add, ← hi, ← hj]; exact hlen.symm⟩
  obtain ⟨t, ht⟩ := mkd_ex' n zs e (fun y => s y || decide (y = x))
  have T := made_sg g ht
  have h1 : t x = true := (ht x hx).2 (Fin.Gen.base (List.mem_range.2 hx) (by simp))
  rcases hG.top x t hx ht with h2 | h2
  · rw [← bs_inj h2 x hx]; exact h1
  · exfalso
    apply h2
    obtain ⟨k, hk⟩ := hrp
    refine dvd_pw (prime_of hpr) k _ ?_
    rw [← hk]
    refine Fin.lagr (Fin.sg_fg F R) (Fin.sg_fg F T) (fun y hy => ?_)
    obtain ⟨hy1, hy2⟩ := List.mem_filter.1 hy
    refine List.mem_filter.2 ⟨hy1, Fin.Gen.least R (fun z hz h3 => ?_) ((ht y (List.mem_range.1 hy1)).1 hy2)⟩
    simp only [Bool.or_eq_true, decide_eq_true_eq] at h3
    rcases h3 with h3 | h3
    · exact (hr z).2 ⟨e, z, F.one, hz, Q.one, h3, F.left z hz⟩
    · subst h3
      exact (hr z).2 ⟨z, e, hz, F.one, hqx, S.one, F.right z hz⟩
theorem mv_conj (g : IsGrp n zs e) {X : List Nat} (hX : ∀ c, c ∈ X ↔ ∃ a, a < n ∧ fc n zs e s a = c) {P : List Nat} (hP : ∀ x, x ∈ P → x < n) : Fin.Mv P X (tm n zs) e (tq n zs e) where
  mem := fun c x hc hx => by
    obtain ⟨a, ha, rfl⟩ := (hX c).1 hc
    rw [tq_fc g ha (hP x hx)]
    exact (hX _).2 ⟨_, tm_lt g.tab ha (hP x hx), rfl⟩
  one := fun c hc => by
    obtain ⟨a, ha, rfl⟩ := (hX c).1 hc
    rw [tq_fc g ha g.elt, (grp_fg g).right a (List.mem_range.2 ha)]
  mul := fun c x y hc hx hy => by
    obtain ⟨a, ha, rfl⟩ := (hX c).1 hc
    rw [tq_fc g ha (hP x hx), tq_fc g (tm_lt g.tab ha (hP x hx)) (hP y hy), tq_fc g ha (tm_lt g.tab (hP x hx) (hP y hy)), (grp_fg g).ass _ _ _ (List.mem_range.2 ha) (List.mem_range.2 (hP x hx)) (List.mem_range.2 (hP y hy))]
theorem fix_in (g : IsGrp n zs e) (hpr : primeB p = true) (hG : Grown n zs e p s) (hq : subT n zs e q = true) (hpw : isPw (lst n q).length p) {a : Nat} (ha : a < n)
    (hf : Fin.fixB (lst n q) (tq n zs e) (fc n zs e s a) = true) {x : Nat} (hx : x < n) (hqx : q x = true) : cjq n zs e s a x = true := by
  have F := grp_fg g
  have V := grp_iv g
  have ha' := List.mem_range.2 ha
  have hi := (V a ha').1
  have hil := List.mem_range.1 hi
  have h0 := Fin.fixB_iff.1 hf
  have hii : a = iv n zs e (iv n zs e a) := iv_only g hil ha (V a ha').2.2
  have key : ∀ y, y < n → cjq n zs e q (iv n zs e a) y = true → bs (cjq n zs e s y) n = bs s n := fun y hy h1 => by
    obtain ⟨z, hz, k1, rfl⟩ := cjq_iff.1 h1
    have hzl := List.mem_range.1 hz
    have h2 := h0 z (mem_lst.2 ⟨hzl, k1⟩)
    rw [tq_fc g ha hzl] at h2
    have h3 : Fin.cj (tm n zs) (iv n zs e) z (iv n zs e a) = tm n zs (tm n zs a z) (iv n zs e a) := by
      show tm n zs (iv n zs e (iv n zs e a)) (tm n zs z (iv n zs e a)) = _
      rw [← hii, F.ass _ _ _ ha' hz hi]
    rw [h3, ← cjq_twice g (tm_lt g.tab ha hzl) hil, ← tq_bs]
    show tq n zs e (fc n zs e s (tm n zs a z)) _ = _
    rw [h2, tq_fc g ha hil, (V a ha').2.1]
    exact cjq_e g
  have hm := Fin.cj_mem F V (List.mem_range.2 hx) hi
  have h5 := norm_in g hpr hG (cj_sg g hq hil) (by rw [cj_len g hil]; exact hpw) key (List.mem_range.1 hm) (cjq_iff.2 ⟨x, List.mem_range.2 hx, hqx, rfl⟩)
  exact cjq_iff.2 ⟨_, hm, h5, (Fin.cj_back F V (List.mem_range.2 hx) ha').2⟩
theorem syl_mod (g : IsGrp n zs e) (hpr : primeB p = true) (hG : Grown n zs e p s) {X : List Nat} (hnd : X.Nodup) (hX : ∀ c, c ∈ X ↔ ∃ a, a < n ∧ fc n zs e s a = c) : X.length % p = 1 := by
  have F := grp_fg g
  have V := grp_iv g
  have S := subT_iff.1 hG.sub
  have M := mv_conj g hX (P := lst n s) (fun x hx => (mem_lst.1 hx).1)
  rw [Fin.fix_mod (P := lst n s) (prime_of hpr) (Fin.sg_fg F S) M hnd hG.pow]
  have h1 := nodup_len (X.filter (Fin.fixB (lst n s) (tq n zs e))) [bs s n] (hnd.filter _) (fun c hc => by
    obtain ⟨h1, h2⟩ := List.mem_filter.1 hc
    obtain ⟨a, ha, rfl⟩ := (hX c).1 h1
    have h3 : ∀ x, x < n → s x = true → cjq n zs e s a x = true := fun x hx hs => fix_in g hpr hG hG.sub hG.pow ha h2 hx hs
    have h4 := (lst_less h3).2
    rw [cj_len g ha] at h4
    rw [List.mem_singleton]
    refine bs_ext fun x hx => ?_
    rw [Bool.eq_iff_iff]
    refine ⟨fun h5 => Classical.byContradiction fun h6 => ?_, h3 x hx⟩
    exact absurd (h4 ⟨x, hx, h5, h6⟩) (by omega))
  have h2 := nodup_len [bs s n] (X.filter (Fin.fixB (lst n s) (tq n zs e))) (by simp) (fun c hc => by
    rw [List.mem_singleton] at hc
    subst hc
    refine List.mem_filter.2 ⟨(hX _).2 ⟨e, g.elt, cjq_e g⟩, Fin.fixB_iff.2 fun x hx => ?_⟩
    obtain ⟨hx1, hx2⟩ := mem_lst.1 hx
    rw [tq_bs]
    exact of_decide_eq_true ((nor_iff x).2 (Fin.nor_sub F V S (List.mem_range.2 hx1) hx2)))
  have h3 : (X.filter (Fin.fixB (lst n s) (tq n zs e))).length = 1 := by simp at h1 h2 ⊢; omega
  rw [h3]
  exact Nat.mod_eq_of_lt (prime_of hpr).1
theorem syl_in (g : IsGrp n zs e) (hpr : primeB p = true) (hG : Grown n zs e p s) {X : List Nat} (hnd : X.Nodup) (hX : ∀ c, c ∈ X ↔ ∃ a, a < n ∧ fc n zs e s a = c)
    (hq : subT n zs e q = true) (hpw : isPw (lst n q).length p) : ∃ c a, c ∈ X ∧ a < n ∧ fc n zs e s a = c ∧ ∀ x, x < n → q x = true → cjq n zs e s a x = true := by
  have M := mv_conj g hX (P := lst n q) (fun x hx => (mem_lst.1 hx).1)
  have h1 := Fin.fix_mod (P := lst n q) (prime_of hpr) (Fin.sg_fg (grp_fg g) (subT_iff.1 hq)) M hnd hpw
  rw [syl_mod g hpr hG hnd hX] at h1
  have h2 : (X.filter (Fin.fixB (lst n q) (tq n zs e))).length ≠ 0 := fun h => by rw [h, Nat.zero_mod] at h1; omega
  obtain ⟨c, hc⟩ := List.exists_mem_of_length_pos (Nat.pos_of_ne_zero h2)
  obtain ⟨h3, h4⟩ := List.mem_filter.1 hc
  obtain ⟨a, ha, rfl⟩ := (hX c).1 h3
  exact ⟨_, a, h3, ha, rfl, fun x hx h5 => fix_in g hpr hG hq hpw ha h4 hx h5⟩
theorem syl_nor (g : IsGrp n zs e) {X : List Nat} (hnd : X.Nodup) (hX : ∀ c, c ∈ X ↔ ∃ a, a < n ∧ fc n zs e s a = c) {c : Nat} (hc : c < n) : n = X.length * (lst n (norq n zs e (cjq n zs e s c))).length := by
  have F := grp_fg g
  have V := grp_iv g
  have hc' := List.mem_range.2 hc
  have hi := (V c hc').1
  have M := mv_conj g hX (P := List.range n) (fun x hx => List.mem_range.1 hx)
  have h1 := Fin.orb_len F M hnd ((hX _).2 ⟨c, hc, rfl⟩)
  rw [List.length_range] at h1
  have h2 : X.filter (Fin.orbB (List.range n) (tq n zs e) (fc n zs e s c)) = X := List.filter_eq_self.2 fun d hd => by
    obtain ⟨a, ha, rfl⟩ := (hX d).1 hd
    have ha' := List.mem_range.2 ha
    have hm := F.cl _ _ hi ha'
    refine Fin.orbB_iff.2 ⟨tm n zs (iv n zs e c) a, hm, ?_⟩
    rw [tq_fc g hc (List.mem_range.1 hm), ← F.ass _ _ _ hc' hi ha', (V c hc').2.1, F.left a ha']
  have h3 : (List.range n).filter (fun x => decide (tq n zs e (fc n zs e s c) x = fc n zs e s c)) = lst n (norq n zs e (cjq n zs e s c)) := Fin.filter_eq fun x hx => by
    unfold norq
    rw [tq_bs]
  rw [h2, h3] at h1
  exact h1
theorem nor_sgq (g : IsGrp n zs e) : Fin.Sg (List.range n) (tm n zs) e (fun a => norq n zs e s a = true) := by
  refine ⟨decide_eq_true (cjq_e g), fun a b ha hb h1 h2 => decide_eq_true ?_⟩
  have h1 := of_decide_eq_true h1
  have h2 := of_decide_eq_true h2
  rw [← cjq_twice g (List.mem_range.1 ha) (List.mem_range.1 hb), ← tq_bs, h1, tq_bs, h2]
theorem strip (hp : 2 ≤ p) : ∀ k, 0 < k → ∃ v b, k = v * p ^ b ∧ ¬ p ∣ v := by
  intro k
  induction k using Nat.strongRecOn with
  | _ k ih =>
    intro hk
    by_cases h : p ∣ k
    · obtain ⟨c, rfl⟩ := h
      have hc : 0 < c := Nat.pos_of_ne_zero fun h => by subst h; omega
      obtain ⟨v, b, h1, h2⟩ := ih c (by have := Nat.mul_le_mul_right c hp; omega) hc
      exact ⟨v, b + 1, by rw [h1, Nat.pow_succ]; simp [Nat.mul_comm, Nat.mul_left_comm], h2⟩
    · exact ⟨k, 0, by simp, h⟩
theorem pp_dvd (hp : 2 ≤ p ∧ ∀ d, d ∣ p → d = 1 ∨ d = p) {v k b : Nat} (hv : ¬ p ∣ v) (h : p ^ k ∣ v * p ^ b) : p ^ k ∣ p ^ b := by
  have hco : Nat.Coprime v p := by
    rcases hp.2 _ (Nat.gcd_dvd_right v p) with h1 | h1
    · exact h1
    · exact absurd (h1 ▸ Nat.gcd_dvd_left v p) hv
  exact (Nat.Coprime.pow_left k hco.symm).dvd_of_dvd_mul_left h
theorem pp_only (hp : 2 ≤ p ∧ ∀ d, d ∣ p → d = 1 ∨ d = p) {v u k b : Nat} (hv : ¬ p ∣ v) (hu : ¬ p ∣ u) (h : u * p ^ k = v * p ^ b) : p ^ k = p ^ b :=
  Nat.dvd_antisymm (pp_dvd hp hv ⟨u, by rw [← h, Nat.mul_comm]⟩) (pp_dvd hp hu ⟨v, by rw [h, Nat.mul_comm]⟩)
theorem not_dvd_mul (hp : 2 ≤ p ∧ ∀ d, d ∣ p → d = 1 ∨ d = p) {v u : Nat} (hv : ¬ p ∣ v) (hu : ¬ p ∣ u) : ¬ p ∣ u * v := fun h => by
  have hco : Nat.Coprime v p := by
    rcases hp.2 _ (Nat.gcd_dvd_right v p) with h1 | h1
    · exact h1
    · exact absurd (h1 ▸ Nat.gcd_dvd_left v p) hv
  exact hu (hco.symm.dvd_of_dvd_mul_right h)
theorem syl_len (g : IsGrp n zs e) (hpr : primeB p = true) (hG : Grown n zs e p s) {X : List Nat} (hnd : X.Nodup) (hX : ∀ c, c ∈ X ↔ ∃ a, a < n ∧ fc n zs e s a = c) :
    ∃ v, n = X.length * v * (lst n s).length ∧ ¬ p ∣ X.length * v := by
  have F := grp_fg g
  have V := grp_iv g
  have S := subT_iff.1 hG.sub
  have hp := prime_of hpr
  have h0 := syl_nor g hnd hX g.elt
  have hsame : lst n (norq n zs e (cjq n zs e s e)) = lst n (norq n zs e s) := by
    have h1 : lst n (cjq n zs e s e) = lst n s := lst_congr (bs_inj (cjq_e g))
    refine lst_congr fun a _ => ?_
    unfold norq
    rw [cjq_e g]
    unfold cjq at h1 ⊢
    rw [h1]
  rw [hsame] at h0
  have FM := Fin.sg_fg F (nor_sgq (s := s) g)
  obtain ⟨v, b, h1, h2⟩ := strip hp.1 _ FM.pos
  obtain ⟨k, hk⟩ := hG.pow
  have hsM : ∀ x, x ∈ lst n s → x ∈ (List.range n).filter (fun a => norq n zs e s a) := fun x hx => by
    obtain ⟨hx1, hx2⟩ := mem_lst.1 hx
    exact List.mem_filter.2 ⟨List.mem_range.2 hx1, (nor_iff x).2 (Fin.nor_sub F V S (List.mem_range.2 hx1) hx2)⟩
  have hdk : p ^ k ∣ p ^ b := pp_dvd hp h2 (by rw [← h1, ← hk]; exact Fin.lagr FM (Fin.sg_fg F S) hsM)
  have hfr := Fin.frob _ _ _ _ FM rfl (p ^ b) ⟨v, by rw [h1, Nat.mul_comm]⟩
  have hcnt : Fin.cnt ((List.range n).filter fun a => norq n zs e s a) (tm n zs) e (p ^ b) = (lst n s).length := by
    unfold Fin.cnt
    refine Nat.le_antisymm (nodup_len _ _ (FM.nd.filter _) fun x hx => ?_) (nodup_len _ _ (lst_nd n s) fun x hx => ?_)
    · obtain ⟨hx1, hx2⟩ := List.mem_filter.1 hx
      obtain ⟨hx3, hx4⟩ := List.mem_filter.1 hx1
      have hxl := List.mem_range.1 hx3
      have hxo := (ord_iff g hxl _).1 (of_decide_eq_true hx2)
      have hm1 : mk1 n zs e x x = true := (mk1_iff n zs e x x hxl).2 (Fin.Gen.base hx3 (by simp))
      refine mem_lst.2 ⟨hxl, norm_in g hpr hG (subT_iff.2 (made_sg g (mk1_iff n zs e x))) (by rw [mk1_len g hxl]; exact dvd_pw hp b _ hxo) (fun y hy hy1 => ?_) hxl hm1⟩
      have h5 := Fin.Gen.least (nor_sgq (s := s) g) (fun z hz h6 => by
        have h6 : z = x := of_decide_eq_true h6
        rw [h6]; exact hx4) ((mk1_iff n zs e x y hy).1 hy1)
      exact of_decide_eq_true h5
    · obtain ⟨hx1, hx2⟩ := mem_lst.1 hx
      refine List.mem_filter.2 ⟨hsM x hx, decide_eq_true ((ord_iff g hx1 _).2 (Nat.dvd_trans ?_ hdk))⟩
      rw [← hk]
      exact (ord_iff g hx1 _).1 (Fin.po_len (Fin.sg_fg F S) hx)
  rw [hcnt, hk] at hfr
  have hbk := Nat.dvd_antisymm hdk hfr
  refine ⟨v, ?_, ?_⟩
  · rw [hk, hbk, Nat.mul_assoc, ← h1]
    exact h0
  · refine not_dvd_mul hp h2 fun h3 => ?_
    have h4 := syl_mod g hpr hG hnd hX
    rw [Nat.mod_eq_zero_of_dvd h3] at h4
    omega
end Go.Proofs.YtolbpjjjoafkkaaDoor

namespace Go.Proofs.YtolbpjjjoafkkaaDoor
open Go Go.RowKit

theorem sub_dvd {n e : Nat} {zs : List Int} {p : Nat → Bool} (g : IsGrp n zs e) (h : subT n zs e p = true) : (lst n p).length ∣ n := by
  have S := subT_iff.1 h
  have := Fin.sg_dvd (grp_fg g) S
  rwa [List.length_range] at this
theorem mkd_sub {n e : Nat} {zs : List Int} {q r : Nat → Bool} (g : IsGrp n zs e) (hr : ∀ x, x < n → (r x = true ↔ Mkd n zs e q x)) : subT n zs e r = true :=
  subT_iff.2 ⟨(hr e g.elt).2 (Fin.Gen.sg _).one, fun a b ha hb h1 h2 => (hr _ (tm_lt g.tab (List.mem_range.1 ha) (List.mem_range.1 hb))).2 ((Fin.Gen.sg _).mul a b ha hb ((hr a (List.mem_range.1 ha)).1 h1) ((hr b (List.mem_range.1 hb)).1 h2))⟩
theorem dvd8 : ∀ L, L ≤ 8 → L ∣ 8 → L = 2 ^ 0 ∨ L = 2 ^ 1 ∨ L = 2 ^ 2 ∨ L = 2 ^ 3 := by decide
theorem whole_grown {e : Nat} {zs : List Int} {s : Nat → Bool} (g : IsGrp 8 zs e) (h : Grown 8 zs e 2 s) : ∀ a, a < 8 → s a = true := by
  intro a ha
  refine Classical.byContradiction fun h9 => ?_
  obtain ⟨q, hq⟩ := mkd_ex' 8 zs e (fun y => s y || decide (y = a))
  rcases h.top a q ha hq with h1 | h1
  · have h2 := bs_inj h1 a ha
    rw [(hq a ha).2 (Fin.Gen.base (List.mem_range.2 ha) (by simp))] at h2
    exact h9 h2.symm
  · have h2 := sub_dvd g (mkd_sub g hq)
    rcases dvd8 _ (Nat.le_of_dvd (by omega) h2) h2 with h3 | h3 | h3 | h3
    · exact h1 ⟨_, h3⟩
    · exact h1 ⟨_, h3⟩
    · exact h1 ⟨_, h3⟩
    · exact h1 ⟨_, h3⟩
theorem sq_cj : ∀ a, a < 8 → lst 8 (cjq 8 sqT 0 (fun _ => true) a) = List.range 8 := by decide +kernel
theorem cjq_all {s : Nat → Bool} (h : ∀ a, a < 8 → s a = true) (a : Nat) : cjq 8 sqT 0 s a = cjq 8 sqT 0 (fun _ => true) a := by
  unfold cjq
  rw [lst_congr (q := fun _ => true) (fun x hx => h x hx)]
set_option maxRecDepth 100000 in
set_option maxHeartbeats 4000000 in
theorem sylowBegun_any (w : World) (hT : Tab w) : Calls Tryd.prog 17 #[] w fun x w' => x = .returned (.bool true) ∧ Below w.heap.size w w' := by
  go_enter Tryd.func17, Tryd.ntmps17
  go_wp2_with fail
  refine (square_ok w).mono ?_
  rintro x w1 ⟨r, rfl, hrow, hb1⟩
  obtain ⟨rx, rcap, rfl⟩ := own_slice hrow
  have hs1 := row_sl hrow (Nat.lt_of_lt_of_le hT.lt hb1.size)
  have hT1 := hT.below hb1
  go_wp2_with fail
  refine (sall_good 8 0 2 _ sqT w1 hs1 sqT_grp hT1 (by decide)).mono ?_
  rintro x w2 ⟨r1, r2, r3, s, A, ms, rfl, hgr, hA, hnd, hall, hpm, _, ⟨B, us, hB, hul, hown, hls⟩, hb2⟩
  have hw := whole_grown sqT_grp hgr
  have hsame : ∀ a b, a < 8 → b < 8 → bs (cjq 8 sqT 0 s a) 8 = bs (cjq 8 sqT 0 s b) 8 := fun a b ha hb => by
    rw [cjq_all hw a, cjq_all hw b]
    refine bs_ext fun x hx => ?_
    have h1 : x ∈ lst 8 (cjq 8 sqT 0 (fun _ => true) a) := by rw [sq_cj a ha]; exact List.mem_range.2 hx
    have h2 : x ∈ lst 8 (cjq 8 sqT 0 (fun _ => true) b) := by rw [sq_cj b hb]; exact List.mem_range.2 hx
    rw [(mem_lst.1 h1).2, (mem_lst.1 h2).2]
  obtain ⟨a, hA1, ha⟩ : ∃ a, A = [a] ∧ a < 8 := by
    match A, hA, hnd, hall with
    | [], _, _, hall => exact absurd (hall 0 (by omega)) (by simp)
    | [a], hA, _, _ => exact ⟨a, rfl, hA a (by simp)⟩
    | a :: b :: A, hA, hnd, _ =>
      rw [List.map_cons, List.map_cons, List.nodup_cons] at hnd
      exact absurd (by rw [hsame a b (hA a (by simp)) (hA b (by simp))]; simp) hnd.1
  subst hA1
  have hms : ms = [li (List.range 8)] := by
    rw [List.map_cons, List.map_nil, cjq_all hw a, sq_cj a ha] at hpm
    exact List.perm_singleton.1 hpm
  subst hms
  have hr2 : r2 = 1 := by rw [← hul, hls.1]; rfl
  subst hr2
  obtain ⟨x9, hx9⟩ : ∃ x9, us = [x9] := by
    match us, hul with
    | [x9], _ => exact ⟨x9, rfl⟩
  subst hx9
  obtain ⟨qa, qcap, qb, qo, rfl, _⟩ := hls.2 0 x9 (li (List.range 8)) rfl rfl
  obtain ⟨g, rfl⟩ : ∃ g, r1 = some ⟨g, 0, none⟩ := by
    rcases hown.2 with ⟨h1, h2⟩ | ⟨g', cap, cur, h1, _⟩
    · omega
    · injection h1 with h1; exact ⟨g', h1⟩
  have hc := hown.cells (g := g) rfl 0 _ rfl
  rw [show (⟨g, 0, none⟩ : Addr).add 0 = ⟨g, 0, none⟩ by rfl] at hc
  have hF := blk0 (w := w2) (T := 27) (.int .i64 0) (.int .i64 0)
  have hb3 := balloc w2 (.cells #[.int .i64 0, .int .i64 0] 27)
  have hB3 := bcat2 (bcat2 hb1 hb2) hb3
  have hc3 := below_cell hb3 hc
  have hl8 : (li (List.range 8)).length = 8 := rfl
  rw [hl8] at hc3
  obtain ⟨f0, f1, _, _⟩ := hF.two
  clear hgr hA hnd hall hpm hown hls hw hsame hrow hs1
  go_wp2
  go_ret
  exact ⟨rfl, hB3⟩
end Go.Proofs.YtolbpjjjoafkkaaDoor

namespace Go.Proofs.YtolbpjjjoafkkaaDoor
open Go Go.RowKit

/-- What lies where Cauchy begins: the table, p, the fault to be answered. -/
structure BegC (w w0 : World) (N p : Int) (v : Value) : Prop where
  eq : w0 = ((w.alloc (.cells #[.int .i64 N, v] 24)).alloc (.cells #[.int .i64 p] 3)).alloc (.cells #[.int .i64 0, .int .i64 0] 27)
  bel : Below w.heap.size w w0
  box : Blk w0 w.heap.size 24 [.int .i64 N, v]
  pri : Boxed w0 (w.heap.size + 1) 3 (.int .i64 p)
  res : Blk w0 (w.heap.size + 2) 27 [.int .i64 0, .int .i64 0]
  size : w0.heap.size = w.heap.size + 3
theorem BegC.new (w : World) (N p : Int) (v : Value) : ∃ w0, BegC w w0 N p v := by
  refine ⟨_, rfl, ((balloc w _).alloc (by simp) _).alloc (by simp; omega) _, ((blk0 _ _).alloc _).alloc _, ?_, ?_, by simp⟩
  · have := (Boxed.new (w.alloc (.cells #[.int .i64 N, v] 24)) 3 (.int .i64 p)).alloc (.cells #[.int .i64 0, .int .i64 0] 27)
    simpa using this
  · have := blk0 (w := (w.alloc (.cells #[.int .i64 N, v] 24)).alloc (.cells #[.int .i64 p] 3)) (T := 27) (.int .i64 0) (.int .i64 0)
    simpa using this
end Go.Proofs.YtolbpjjjoafkkaaDoor

namespace Go.Proofs.YtolbpjjjoafkkaaDoor
open Go Go.RowKit

/-- What is wrong with a table and a prime. -/
def pfault (N : Int) (zs : List Int) (p : Int) : Int × Int := if (gfault N zs).1 = 0 ∧ primeB p = false then (3, 1) else gfault N zs
end Go.Proofs.YtolbpjjjoafkkaaDoor

namespace Go.Proofs.YtolbpjjjoafkkaaDoor
open Go Go.RowKit

set_option maxRecDepth 100000 in
set_option maxHeartbeats 4000000 in
theorem pf_ok (N p : Int) (v : Value) (zs : List Int) (w : World) (hv : Sl w v zs) :
    Calls Tryd.prog 16 #[.agg #[.int .i64 N, v], .int .i64 p] w fun x w' => x = .returned (.agg #[.int .i64 (pfault N zs p).1, .int .i64 (pfault N zs p).2]) ∧ Below w.heap.size w w' := by
  obtain ⟨w0, BG⟩ := Beg.new w N v
  have hv0 := hv.below BG.bel
  obtain ⟨c0, c1, _, _⟩ := BG.box.two
  have hgf := groupFault_any N v zs w0 hv0
  have HPF := hide (show pfault N zs p = if (gfault N zs).1 = 0 ∧ primeB p = false then (3, 1) else gfault N zs from rfl)
  generalize pfault N zs p = pf at *
  generalize gfault N zs = gf at *
  obtain ⟨c, i⟩ := gf
  simp only at hgf
  have HGF := hide hgf
  clear hgf
  have HZ0 := hide (show w.heap.size + 2 ≤ w0.heap.size by rw [BG.eq]; simp)
  rw [BG.eq] at c0 c1
  go_enter Tryd.func16, Tryd.ntmps16
  go_wp2_with fail
  rw [← BG.eq]
  refine HGF.out.mono ?_
  rintro x w1 ⟨rfl, hb1⟩
  clear c0 c1 HGF
  obtain ⟨w2, hw2⟩ : ∃ w2, w2 = w1.alloc (.cells #[.int .i64 c, .int .i64 i] 27) := ⟨_, rfl⟩
  have hB2 : Below w0.heap.size w0 w2 := by rw [hw2]; exact bcat2 hb1 (balloc w1 _)
  have hF2 : Blk w2 w1.heap.size 27 [.int .i64 c, .int .i64 i] := by rw [hw2]; exact blk0 _ _
  have hR2 := blk_below BG.res hB2
  have hBw := bcat BG.bel hB2 BG.bel.size
  have hz1 : w.heap.size + 2 ≤ w1.heap.size := Nat.le_trans HZ0.out hb1.size
  obtain ⟨t0, t1, _, _⟩ := hF2.two
  by_cases hc : c = 0
  · subst hc
    cases hpr : primeB p with
    | true =>
      have HPR := hide (lprime_ok p w2)
      rw [hpr] at HPR
      have hpf : pf = (0, i) := by rw [HPF.out, hpr]; simp
      rw [hw2] at t0 t1
      go_wp2_with fail
      rw [← hw2]
      clear hw2 t0 t1
      refine HPR.out.mono ?_
      rintro x w3 ⟨rfl, hb3⟩
      have hF3 := blk_below hF2 hb3
      have hR3 := blk_below hR2 hb3
      have hB3 := bcat2 hBw hb3
      obtain ⟨t0, t1, _, _⟩ := hF3.two
      obtain ⟨y0, y1, fy0, fy1⟩ := hR3.two
      go_wp2
      obtain ⟨hR6, hB6⟩ := put2 hR3 hB3 (by omega) 0 i
      obtain ⟨z0, z1, _, _⟩ := hR6.two
      exact bodyPost_ret (v := .agg #[.int .i64 0, .int .i64 i]) (by simp [results, Tryd.results16, go_sem, z0, z1]) rfl ⟨by rw [hpf], hB6⟩
    | false =>
      have HPR := hide (lprime_ok p w2)
      rw [hpr] at HPR
      have hpf : pf = (3, 1) := by rw [HPF.out, hpr]; simp
      rw [hw2] at t0 t1
      go_wp2_with fail
      rw [← hw2]
      clear hw2 t0 t1
      refine HPR.out.mono ?_
      rintro x w3 ⟨rfl, hb3⟩
      go_wp2_with fail
      refine (f_any 3 1 w3).mono ?_
      rintro x w4 ⟨rfl, hb4⟩
      have hb34 := bcat2 hb3 hb4
      have hF3 := blk_below hF2 hb34
      have hR3 := blk_below hR2 hb34
      have hB3 := bcat2 hBw hb34
      obtain ⟨hF5, hB5⟩ := put2 hF3 hB3 (by omega) 3 1
      have hR5 : Blk ((w4.setCell ⟨w1.heap.size, 0, none⟩ (.int .i64 3)).setCell ⟨w1.heap.size, 1, none⟩ (.int .i64 1)) (w.heap.size + 1) 27 [.int .i64 0, .int .i64 0] := (hR3.other (p := ⟨w1.heap.size, 0, none⟩) (by simp; omega) (.int .i64 3)).other (p := ⟨w1.heap.size, 1, none⟩) (by simp; omega) (.int .i64 1)
      obtain ⟨t0, t1, ft0, ft1⟩ := hF3.two
      obtain ⟨q0, q1, _, _⟩ := hF5.two
      obtain ⟨y0, y1, fy0, fy1⟩ := hR5.two
      go_wp2
      obtain ⟨hR6, hB6⟩ := put2 hR5 hB5 (by omega) 3 1
      obtain ⟨z0, z1, _, _⟩ := hR6.two
      exact bodyPost_ret (v := .agg #[.int .i64 3, .int .i64 1]) (by simp [results, Tryd.results16, go_sem, z0, z1]) rfl ⟨by rw [hpf], hB6⟩
  · have hcb : (c == 0) = false := by simpa using hc
    have hpf : pf = (c, i) := by rw [HPF.out]; simp [hc]
    obtain ⟨y0, y1, fy0, fy1⟩ := hR2.two
    rw [hw2] at t0 t1 y0 y1 fy0 fy1
    go_wp2
    rw [← hw2]
    obtain ⟨hR6, hB6⟩ := put2 hR2 hBw (by omega) c i
    obtain ⟨z0, z1, _, _⟩ := hR6.two
    exact bodyPost_ret (v := .agg #[.int .i64 c, .int .i64 i]) (by simp [results, Tryd.results16, go_sem, z0, z1]) rfl ⟨by rw [hpf], hB6⟩
end Go.Proofs.YtolbpjjjoafkkaaDoor

namespace Go.Proofs.YtolbpjjjoafkkaaDoor
open Go Go.RowKit

theorem mkA {X U : World} {x y : Value} (k : Below (X.alloc (.cells #[x, y] 27)).heap.size (X.alloc (.cells #[x, y] 27)) U) : Blk U X.heap.size 27 [x, y] := blk_below (blk0 x y) k
theorem undA {W U : World} (k : Below W.drew.heap.size W.drew U) : Below W.heap.size W U := ⟨k.os, k.tape, k.output, k.size, k.block⟩
/-- What lies there behind the first call. -/
def IRel (w0 : World) (C : Int → Int → List Int → Prop) (s5 s6 : Value) (wx : World) : Prop := ∃ (b : Nat) (a : Option Addr) (cp : Nat) (c i : Int) (L : List Int), s5 = .slice a L.length cp ∧ s6 = .pointer (some ⟨b, 0, none⟩) ∧ w0.heap.size ≤ b ∧ Blk wx b 27 [.int .i64 c, .int .i64 i] ∧ Sl wx (.slice a L.length cp) L ∧ C c i L ∧ Below w0.heap.size w0 wx
theorem irel_put {w0 U : World} {C : Int → Int → List Int → Prop} {c i : Int} {L : List Int} {x y : Value} {b : Nat} {a : Option Addr} {cp : Nat} (hb : w0.heap.size ≤ b) (hB : Below w0.heap.size w0 U) (hp : Blk U b 27 [x, y]) (hs : Sl ((U.setCell ⟨b, 0, none⟩ (.int .i64 c)).setCell ⟨b, 1, none⟩ (.int .i64 i)) (.slice a L.length cp) L) (hC : C c i L) : IRel w0 C (.slice a L.length cp) (.pointer (some ⟨b, 0, none⟩)) ((U.setCell ⟨b, 0, none⟩ (.int .i64 c)).setCell ⟨b, 1, none⟩ (.int .i64 i)) :=
  ⟨b, a, cp, c, i, L, rfl, rfl, hb, (hp.set 0 _).set 1 _, hs, hC, bSet (bSet hB hb) hb⟩
theorem irel_new {w0 U : World} {C : Int → Int → List Int → Prop} {c i : Int} {L : List Int} {a : Option Addr} {cp : Nat} (hB : Below w0.heap.size w0 U) (hs : Sl U (.slice a L.length cp) L) (hC : C c i L) : IRel w0 C (.slice a L.length cp) (.pointer (some ⟨U.heap.size, 0, none⟩)) (U.alloc (.cells #[.int .i64 c, .int .i64 i] 27)) :=
  ⟨U.heap.size, a, cp, c, i, L, rfl, rfl, hB.size, blk0 _ _, hs.below (balloc _ _), hC, bcat2 hB (balloc _ _)⟩
end Go.Proofs.YtolbpjjjoafkkaaDoor

namespace Go.Proofs.YtolbpjjjoafkkaaDoor
open Go Go.RowKit

theorem sopen_any (N p : Int) (v : Value) (zs : List Int) (w : World) (hv : Sl w v zs) (hc : (pfault N zs p).1 ≠ 0) :
    Calls Tryd.prog 54 #[.agg #[.int .i64 N, v], .int .i64 p] w fun x w' => x = .returned (.tuple #[.agg #[.int .i64 0, .slice none 0 0, .int .i64 0, .slice none 0 0], .agg #[.int .i64 (pfault N zs p).1, .int .i64 (pfault N zs p).2]]) ∧ Below w.heap.size w w' := by
  unfold pfault at *
  by_cases h : (gfault N zs).1 = 0 ∧ primeB p = false
  · rw [if_pos h]
    obtain ⟨n, e, rfl, hg, _⟩ := gfault_grp h.1
    exact sopen_range n e p v zs w hv hg h.2
  · rw [if_neg h] at hc ⊢
    exact sopen_bad N p v zs w hv hc
theorem pfault_good {N p : Int} {zs : List Int} (hc : (pfault N zs p).1 = 0) : (gfault N zs).1 = 0 ∧ primeB p = true := by
  unfold pfault at hc
  by_cases h : (gfault N zs).1 = 0 ∧ primeB p = false
  · rw [if_pos h] at hc
    cases hc
  · rw [if_neg h] at hc
    refine ⟨hc, ?_⟩
    cases h9 : primeB p with
    | true => rfl
    | false => exact absurd ⟨hc, h9⟩ h
end Go.Proofs.YtolbpjjjoafkkaaDoor

namespace Go.Proofs.YtolbpjjjoafkkaaDoor
open Go Go.RowKit

set_option maxRecDepth 100000 in
set_option maxHeartbeats 4000000 in
theorem powerIn_ok (n p : Nat) (w : World) (hn : 1 ≤ n) (hn6 : n ≤ 60) (hp : 2 ≤ p) (hp1 : p ≤ 100) :
    Calls Tryd.prog 18 #[.int .i64 n, .int .i64 p] w fun x w' => ∃ v j : Nat, x = .returned (.int .i64 ((p ^ j : Nat) : Int)) ∧ v * p ^ j = n ∧ ¬ p ∣ v ∧ Below w.heap.size w w' := by
  have hpz : ¬ ((p : Int) = 0) := by omega
  go_enter Tryd.func18, Tryd.ntmps18
  go_wp2
  go_loopw [0, 5] (fun i k wr => ∃ v j : Nat, 1 ≤ v ∧ v ≤ 60 ∧ i = .int .i64 v ∧ k = .int .i64 ((p ^ j : Nat) : Int) ∧ v * p ^ j = n ∧ Below w.heap.size w wr) (fun i _ _ => (intOf i).toNat)
  case atStart => exact ⟨n, 0, hn, hn6, rfl, rfl, by simp, Below.refl _ _⟩
  case round =>
    obtain ⟨v, j, hv, hv6, rfl, rfl, hvj, hB⟩ := hrel
    have HV := hide hvj
    clear hvj
    have hm := Int.tmod_eq_emod_of_nonneg (a := (v : Int)) (b := (p : Int)) (by omega)
    rw [← Int.natCast_emod] at hm
    have hq := Int.tdiv_eq_ediv_of_nonneg (a := (v : Int)) (b := (p : Int)) (by omega)
    rw [← Int.natCast_ediv] at hq
    by_cases hr : v % p = 0
    · have hdv : p * (v / p) = v := Nat.mul_div_cancel' (Nat.dvd_of_mod_eq_zero hr)
      have hlt : v / p < v := Nat.div_lt_self (by omega) (by omega)
      have h1 : 1 ≤ v / p := Nat.div_pos (Nat.le_of_dvd (by omega) (Nat.dvd_of_mod_eq_zero hr)) (by omega)
      have HE := hide (show (v / p) * p ^ (j + 1) = n by rw [Nat.pow_succ, Nat.mul_comm (p ^ j), ← Nat.mul_assoc, Nat.mul_comm (v / p), hdv, HV.out])
      have hle : p ^ (j + 1) ≤ 60 := by
        have h9 : 1 * p ^ (j + 1) ≤ (v / p) * p ^ (j + 1) := Nat.mul_le_mul_right _ h1
        rw [HE.out, Nat.one_mul] at h9
        omega
      have HK := hide (show ((p ^ j : Nat) : Int) * (p : Int) = ((p ^ (j + 1) : Nat) : Int) by rw [Nat.pow_succ, Int.natCast_mul])
      have hk9 := HK.out
      have hri : ((v % p : Nat) : Int) = 0 := by omega
      rw [hri] at hm
      clear hri hr hdv
      obtain ⟨m2, hm2⟩ : ∃ m2, m2 = p ^ (j + 1) := ⟨_, rfl⟩
      rw [← hm2] at hk9 hle
      have HM2 := hide hm2
      clear hm2
      generalize ((p ^ j : Nat) : Int) = m1 at *
      generalize v / p = u at *
      go_wp2
      go_roundw
      case rel => exact ⟨u, j + 1, h1, by omega, rfl, by rw [HM2.out], HE.out, hB⟩
      case measure => simp [intOf]; omega
    · have hri : ¬ ((v % p : Nat) : Int) = 0 := by omega
      have HR := hide (show ¬ p ∣ v from fun h9 => hr (Nat.mod_eq_zero_of_dvd h9))
      clear hr
      generalize v % p = r at *
      generalize v / p = u at *
      go_wp2
      go_ret
      exact ⟨v, j, rfl, HV.out, HR.out, hB⟩
theorem powerIn_pw {n p v j : Nat} (hp : 2 ≤ p) (h : v * p ^ j = n) (hv : ¬ p ∣ v) (hn : isPw n p) : p ^ j = n := by
  obtain ⟨k, hk⟩ := hn
  have h1 := pw_strip hp hv (h.trans hk)
  rw [← h, h1, Nat.one_mul]
end Go.Proofs.YtolbpjjjoafkkaaDoor

namespace Go.Proofs.YtolbpjjjoafkkaaDoor
open Go Go.RowKit

set_option maxRecDepth 100000 in
set_option maxHeartbeats 8000000 in
theorem squo_bad (N p : Int) (v1 : Option Addr) (v2 v3 : Nat) (zs : List Int) (w : World) (hv : Sl w (.slice v1 v2 v3) zs) (hT : Tab w) (hc : (pfault N zs p).1 ≠ 0) :
    Calls Tryd.prog 6 #[.agg #[.int .i64 N, .slice v1 v2 v3], .int .i64 p] w fun e w' => e = .returned (.bool true) ∧ Below w.heap.size w w' := by
  have HOP := hide (fun W (h : Below w.heap.size w W) => sopen_any N p (.slice v1 v2 v3) zs W (hv.below h) hc)
  have HAL := hide (fun W (h : Below w.heap.size w W) => sall_bad N p _ _ (.slice v1 v2 v3) W hc (fun W9 h9 => HOP.out W9 (bcat2 h h9)))
  have HCO := hide (fun W (h : Below w.heap.size w W) => score_bad N p _ _ (.slice v1 v2 v3) W hc (fun W9 h9 => HOP.out W9 (bcat2 h h9)))
  have HPF := hide (fun W (h : Below w.heap.size w W) => pf_ok N p (.slice v1 v2 v3) zs W (hv.below h))
  generalize pfault N zs p = pf at *
  obtain ⟨c, i⟩ := pf
  simp only at hc HAL HCO HPF
  have hcb : (c != 0) = true := by simpa using hc
  have hB0 : Below w.heap.size w (w.alloc (.cells #[.int .i64 N, .slice v1 v2 v3] 24)) := balloc w _
  have hX0 : BoxG (w.alloc (.cells #[.int .i64 N, .slice v1 v2 v3] 24)) w.heap.size N (.slice v1 v2 v3) := blk0 (w := w) (T := 24) _ _
  go_enter Tryd.func6, Tryd.ntmps6
  go_wp2_with fail
  generalize w.alloc (.cells #[.int .i64 N, .slice v1 v2 v3] 24) = w0 at *
  refine (sylowBegun_any _ (hT.below hB0)).mono ?_
  rintro x w1 ⟨rfl, hb1⟩
  have hB1 := bcat2 hB0 hb1
  have hX1 := blk_below hX0 hb1
  obtain ⟨c0, c1, _, _⟩ := hX1.two
  go_wp2_with fail
  clear c0 c1
  refine (HAL.out _ hB1).mono ?_
  rintro x w2 ⟨rfl, hb2⟩
  obtain ⟨w3, hw3⟩ : ∃ w3, w3 = w2.alloc (.cells #[.int .i64 c, .int .i64 i] 27) := ⟨_, rfl⟩
  have hb3 : Below w2.heap.size w2 w3 := by rw [hw3]; exact balloc w2 _
  have hF3 : Blk w3 w2.heap.size 27 [.int .i64 c, .int .i64 i] := by rw [hw3]; exact blk0 _ _
  have hB3 := bcat2 hB1 (bcat2 hb2 hb3)
  have hX3 := blk_below hX1 (bcat2 hb2 hb3)
  obtain ⟨c0, c1, _, _⟩ := hX3.two
  rw [hw3] at c0 c1
  go_wp2_with fail
  rw [← hw3]
  clear hw3 c0 c1
  refine (HCO.out _ hB3).mono ?_
  rintro x w4 ⟨rfl, hb4⟩
  obtain ⟨w5, hw5⟩ : ∃ w5, w5 = w4.alloc (.cells #[.int .i64 c, .int .i64 i] 27) := ⟨_, rfl⟩
  have hb5 : Below w4.heap.size w4 w5 := by rw [hw5]; exact balloc w4 _
  have hB5 := bcat2 hB3 (bcat2 hb4 hb5)
  have hX5 := blk_below hX3 (bcat2 hb4 hb5)
  have hF5 := blk_below hF3 (bcat2 hb4 hb5)
  obtain ⟨c0, c1, _, _⟩ := hX5.two
  obtain ⟨f0, f1, _, _⟩ := hF5.two
  rw [hw5] at c0 c1 f0 f1
  go_wp2_with fail
  rw [← hw5]
  clear hw5 c0 c1 f0 f1
  refine (HPF.out _ hB5).mono ?_
  rintro x w6 ⟨rfl, hb6⟩
  have hB6 := bcat2 hB5 hb6
  have hfld : ∀ W, Sem.run Tryd.prog (Instr.field 27 (.agg #[.int .i64 c, .int .i64 i]) 0) W = .ok (.int .i64 c) W := fun W => by kernel_rfl
  go_wp2
  go_ret
  exact ⟨by simp, hB6⟩
end Go.Proofs.YtolbpjjjoafkkaaDoor

namespace Go.Proofs.YtolbpjjjoafkkaaDoor
open Go Go.RowKit

section
variable {n : Nat} {f : Nat → Nat → Bool}
/-- The least thing of a thing's set. -/
theorem prts_rep (h : Prts n f) {a : Nat} (ha : a < n) : ∃ r, r < n ∧ f a r = true ∧ r ∈ fsts n f n ∧ ((List.range n).find? fun b => decide (bs (f b) n = bs (f a) n)) = some r ∧ num n f a = (fsts n f r).length := by
  have hs : ((List.range n).find? fun b => decide (bs (f b) n = bs (f a) n)).isSome = true := by
    rw [List.find?_isSome]
    exact ⟨a, List.mem_range.2 ha, by simp⟩
  obtain ⟨r, hr⟩ := Option.isSome_iff_exists.1 hs
  obtain ⟨h1, h2, h3⟩ := List.find?_range_eq_some.1 hr
  have hrn := List.mem_range.1 h2
  have h1 : bs (f r) n = bs (f a) n := by simpa using h1
  have hfr : f a r = true := by rw [← bs_inj h1 r hrn]; exact h.refl r hrn
  refine ⟨r, hrn, hfr, ?_, hr, by unfold num; rw [hr]; rfl⟩
  unfold fsts
  rw [List.mem_filter, List.mem_range]
  refine ⟨hrn, List.all_eq_true.2 fun b hb => ?_⟩
  have := h3 b (List.mem_range.1 hb)
  rw [h1]
  simpa using this
theorem fsts_take (n : Nat) (f : Nat → Nat → Bool) {r j : Nat} (h : r ≤ j) : fsts n f r = (fsts n f j).filter fun a => decide (a < r) := by
  unfold fsts
  rw [List.filter_filter]
  have : List.range r = (List.range j).filter fun a => decide (a < r) := by
    induction j with
    | zero => have : r = 0 := by omega
              subst this; rfl
    | succ j ih =>
      by_cases e : r = j + 1
      · subst e
        rw [List.filter_eq_self.2]
        intro a ha
        simpa using ha
      · rw [List.range_succ, List.filter_append, ← ih (by omega)]
        simp; omega
  rw [this, List.filter_filter]
  exact List.filter_congr fun a _ => Bool.and_comm _ _
theorem sorted_idx : ∀ (l : List Nat), l.Pairwise (· < ·) → ∀ i, (h : i < l.length) → (l.filter fun a => decide (a < l[i])).length = i
  | [], _, i, h => by simp at h
  | x :: t, hp, i, h => by
    rw [List.pairwise_cons] at hp
    cases i with
    | zero =>
      simp only [List.getElem_cons_zero]
      rw [List.filter_cons, if_neg (by simp)]
      rw [List.filter_eq_nil_iff.2]
      · rfl
      · intro a ha
        have := hp.1 a ha
        simp; omega
    | succ i =>
      simp only [List.getElem_cons_succ, List.length_cons] at h ⊢
      have hx := hp.1 (t[i]'(by omega)) (List.getElem_mem _)
      rw [List.filter_cons, if_pos (by simpa using hx), List.length_cons, sorted_idx t hp.2 i (by omega)]
theorem fsts_sorted (n : Nat) (f : Nat → Nat → Bool) (j : Nat) : (fsts n f j).Pairwise (· < ·) := List.Pairwise.sublist List.filter_sublist List.pairwise_lt_range
/-- The number of the set that stands at a place. -/
theorem prts_num_at (_h : Prts n f) {i : Nat} (hi : i < (fsts n f n).length) : num n f (fsts n f n)[i] = i := by
  have hm := List.getElem_mem hi
  generalize hc : (fsts n f n)[i] = c at *
  have hcn : c < n := by unfold fsts at hm; exact List.mem_range.1 (List.mem_filter.1 hm).1
  have hal : (List.range c).all (fun b => decide (bs (f b) n ≠ bs (f c) n)) = true := by unfold fsts at hm; exact (List.mem_filter.1 hm).2
  rw [num_new hcn hal, fsts_take n f (Nat.le_of_lt hcn), ← hc]
  exact sorted_idx _ (fsts_sorted n f n) i hi
theorem prts_num_lt (h : Prts n f) {a : Nat} (ha : a < n) : num n f a < (fsts n f n).length ∧ ∀ hl : num n f a < (fsts n f n).length, f a ((fsts n f n)[num n f a]) = true := by
  obtain ⟨r, hr, hf, hm, hfd, hnum⟩ := prts_rep h ha
  obtain ⟨i, hi, he⟩ := List.mem_iff_getElem.1 hm
  have h1 := prts_num_at h hi
  have h2 : num n f r = num n f a := by
    refine num_same (bs_ext fun x hx => ?_)
    exact (h.same a r ha hr hf x hx).symm
  rw [he, h2] at h1
  refine ⟨by omega, fun hl => ?_⟩
  have : (fsts n f n)[num n f a] = r := by simp only [h1]; exact he
  rw [this]
  exact hf
theorem prts_num_eq (h : Prts n f) {a b : Nat} (ha : a < n) (hb : b < n) : num n f a = num n f b ↔ f a b = true := by
  constructor
  · intro e
    obtain ⟨h1, h2⟩ := prts_num_lt h ha
    obtain ⟨h3, h4⟩ := prts_num_lt h hb
    have h5 := h2 h1
    have h6 := h4 h3
    simp only [← e] at h6
    have hm := List.getElem_mem h1
    generalize (fsts n f n)[num n f a] = c at *
    have hcn : c < n := by unfold fsts at hm; exact List.mem_range.1 (List.mem_filter.1 hm).1
    rw [h.same a c ha hcn h5 b hb, ← h.same b c hb hcn h6 b hb]
    exact h.refl b hb
  · intro e
    exact num_same (bs_ext fun x hx => h.same a b ha hb e x hx)
/-- The document's number of a thing's set. -/
theorem prts_which (h : Prts n f) {a : Nat} (ha : a < n) : whichI (csl n f n) a = (num n f a : Int) := by
  obtain ⟨h1, h2⟩ := prts_num_lt h ha
  have hget : ∀ t, t < (fsts n f n).length → ∀ hl : t < (fsts n f n).length, (csl n f n)[t]?.getD [] = li (lst n (f (fsts n f n)[t])) := fun t _ hl => by unfold csl; simp [hl]
  have hmem : ∀ t (hl : t < (fsts n f n).length), (a : Int) ∈ (csl n f n)[t]?.getD [] ↔ num n f a = t := fun t hl => by
    rw [hget t hl hl, mem_li, mem_lst]
    have hm := List.getElem_mem hl
    have hcn : (fsts n f n)[t] < n := by unfold fsts at hm; exact List.mem_range.1 (List.mem_filter.1 hm).1
    have h3 := prts_num_at h hl
    rw [← prts_num_eq h hcn ha, h3]
    exact ⟨fun h4 => h4.2.symm, fun h4 => ⟨ha, h4.symm⟩⟩
  refine whichI_at (by rw [csl_len]; exact h1) ((hmem _ h1).2 rfl) fun t ht => ?_
  rw [hmem t (by omega)]
  omega
end
section
variable {n e : Nat} {zs : List Int} {q : Nat → Bool}
theorem fst_lt {f : Nat → Nat → Bool} {i : Nat} (hi : i < (fsts n f n).length) : (fsts n f n)[i] < n := by
  have hm := List.getElem_mem hi
  unfold fsts at hm ⊢
  exact List.mem_range.1 (List.mem_filter.1 hm).1
/-- A right coset, moved. -/
theorem rgt_mul (g : IsGrp n zs e) {a b c : Nat} (ha : a < n) (hb : b < n) (hc : c < n) : rgtq n zs (lst n q) (tm n zs a c) (tm n zs b c) = rgtq n zs (lst n q) a b := by
  obtain ⟨c1, c2, _, _⟩ := iv_spec g hc
  obtain ⟨a1, _, _, _⟩ := iv_spec g ha
  rw [rgt_iff g (tm_lt g.tab ha hc) (tm_lt g.tab hb hc), rgt_iff g ha hb]
  have : tm n zs (tm n zs b c) (iv n zs e (tm n zs a c)) = tm n zs b (iv n zs e a) := by
    have h1 : iv n zs e (tm n zs a c) = tm n zs (iv n zs e c) (iv n zs e a) := by
      refine (iv_only g (tm_lt g.tab ha hc) (tm_lt g.tab c1 a1) ?_).symm
      obtain ⟨_, a2, _, _⟩ := iv_spec g ha
      rw [g.ass a c _ ha hc (tm_lt g.tab c1 a1), ← g.ass c _ _ hc c1 a1, c2, g.left _ a1, a2]
    rw [h1, g.ass b c _ hb hc (tm_lt g.tab c1 a1), ← g.ass c _ _ hc c1 a1, c2, g.left _ a1]
  rw [this]
theorem csl_get {f : Nat → Nat → Bool} {t : Nat} (ht : t < (fsts n f n).length) : (csl n f n)[t]?.getD [] = li (lst n (f (fsts n f n)[t])) := by unfold csl; simp [ht]
/-- What stands in the lists. -/
theorem csl_at {f : Nat → Nat → Bool} (h : Prts n f) (t : Nat) (x : Int) : x ∈ (csl n f n)[t]?.getD [] ↔ ∃ a : Nat, a < n ∧ x = (a : Int) ∧ num n f a = t := by
  by_cases ht : t < (fsts n f n).length
  · rw [csl_get ht]
    have hcn := fst_lt ht
    constructor
    · intro hx
      unfold li at hx
      obtain ⟨a, ha, rfl⟩ := List.mem_map.1 hx
      obtain ⟨h1, h2⟩ := mem_lst.1 ha
      refine ⟨a, h1, rfl, ?_⟩
      rw [← (prts_num_eq h hcn h1).2 h2, prts_num_at h ht]
    · rintro ⟨a, ha, rfl, hnum⟩
      rw [mem_li, mem_lst]
      refine ⟨ha, (prts_num_eq h hcn ha).1 ?_⟩
      rw [prts_num_at h ht, hnum]
  · rw [List.getElem?_eq_none (by rw [csl_len]; omega)]
    constructor
    · intro hx; simp at hx
    · rintro ⟨a, ha, _, hnum⟩
      have := (prts_num_lt h ha).1
      omega
theorem csl_head {f : Nat → Nat → Bool} (h : Prts n f) {t : Nat} (ht : t < (fsts n f n).length) : ∃ s, (csl n f n)[t]?.getD [] = (((fsts n f n)[t]?.getD 0 : Nat) : Int) :: s := by
  rw [csl_get ht, List.getElem?_eq_getElem ht, Option.getD_some]
  have hm := List.getElem_mem ht
  generalize (fsts n f n)[t] = c at *
  rw [h.fsts, List.mem_filter, decide_eq_true_eq] at hm
  obtain ⟨_, hm⟩ := hm
  cases hl : lst n (f c) with
  | nil => rw [hl] at hm; simp at hm
  | cons z s => rw [hl] at hm; simp at hm; subst hm; exact ⟨li s, rfl⟩
theorem csl_len_le {f : Nat → Nat → Bool} (t : Nat) : ((csl n f n)[t]?.getD []).length ≤ n := by
  by_cases ht : t < (fsts n f n).length
  · rw [csl_get ht, li_len]
    unfold lst
    exact Nat.le_trans (List.length_filter_le _ _) (by simp)
  · rw [List.getElem?_eq_none (by rw [csl_len]; omega)]
    simp
/-- Of each thing the number of its set. -/
def ontoL (n : Nat) (f : Nat → Nat → Bool) : List Int := (List.range n).map fun a => (num n f a : Int)
theorem ontoL_len (n : Nat) (f : Nat → Nat → Bool) : (ontoL n f).length = n := by simp [ontoL]
theorem ontoL_get {f : Nat → Nat → Bool} {a : Nat} (ha : a < n) : (ontoL n f)[a]?.getD 0 = (num n f a : Int) := by simp [ontoL, ha]
/-- The first numbers, and noughts. -/
def ontoU (n : Nat) (f : Nat → Nat → Bool) (k : Nat) : List Int := (List.range n).map fun a => if a < k then (num n f a : Int) else 0
theorem ontoU_len (n : Nat) (f : Nat → Nat → Bool) (k : Nat) : (ontoU n f k).length = n := by simp [ontoU]
theorem ontoU_zero (n : Nat) (f : Nat → Nat → Bool) : ontoU n f 0 = List.replicate n 0 := by
  unfold ontoU
  apply List.ext_getElem <;> simp
theorem ontoU_all (n : Nat) (f : Nat → Nat → Bool) : ontoU n f n = ontoL n f := by
  unfold ontoU ontoL
  exact List.map_congr_left fun a ha => if_pos (List.mem_range.1 ha)
theorem ontoU_set {f : Nat → Nat → Bool} {k : Nat} : ontoU n f (k + 1) = (ontoU n f k).set k (num n f k : Int) := by
  apply List.ext_getElem
  · simp [ontoU]
  · intro i h1 h2
    rw [List.getElem_set]
    simp only [ontoU, List.getElem_map, List.getElem_range]
    by_cases e : k = i
    · subst e
      rw [if_pos (by omega), if_pos rfl]
    · rw [if_neg e]
      by_cases h3 : i < k
      · rw [if_pos (by omega), if_pos h3]
      · rw [if_neg (by omega), if_neg h3]
/-- Products of numbers. -/
def quoF (n : Nat) (zs : List Int) (f : Nat → Nat → Bool) (i j : Nat) : Nat := num n f (tm n zs ((fsts n f n)[i]?.getD 0) ((fsts n f n)[j]?.getD 0))
theorem rgt_both (g : IsGrp n zs e) (hs : subT n zs e q = true) (hN : nrmq n zs e q = true) {a b c d : Nat} (ha : a < n) (hb : b < n) (hc : c < n) (hd : d < n)
    (h1 : rgtq n zs (lst n q) a c = true) (h2 : rgtq n zs (lst n q) b d = true) : rgtq n zs (lst n q) (tm n zs a b) (tm n zs c d) = true := by
  obtain ⟨x, hx, rfl⟩ := mem_rgt.1 h1
  obtain ⟨y, hy, rfl⟩ := mem_rgt.1 h2
  obtain ⟨hxn, hqx⟩ := mem_lst.1 hx
  obtain ⟨hyn, hqy⟩ := mem_lst.1 hy
  obtain ⟨a1, a2, a3, _⟩ := iv_spec g ha
  have hcj := (nrm_iff g).1 hN y (iv n zs e a) (List.mem_range.2 hyn) (List.mem_range.2 a1) hqy
  unfold Fin.cj at hcj
  rw [show iv n zs e (iv n zs e a) = a from (iv_only g a1 ha a3).symm] at hcj
  have hz := tm_lt g.tab a1 hyn
  refine mem_rgt.2 ⟨tm n zs x (tm n zs (tm n zs a y) (iv n zs e a)), mem_lst.2 ⟨?_, ?_⟩, ?_⟩
  · exact tm_lt g.tab hxn (tm_lt g.tab (tm_lt g.tab ha hyn) a1)
  · refine sub_mul hs hxn (tm_lt g.tab (tm_lt g.tab ha hyn) a1) hqx ?_
    first
      | exact hcj
      | (rw [g.ass a y _ ha hyn a1]; exact hcj)
  · have hay := tm_lt g.tab ha hyn
    have hab := tm_lt g.tab ha hb
    rw [g.ass x _ _ hxn (tm_lt g.tab hay a1) hab, g.ass (tm n zs a y) _ _ hay a1 hab, ← g.ass _ a b a1 ha hb, a3, g.left b hb, g.ass a y b ha hyn hb, g.ass x a _ hxn ha (tm_lt g.tab hyn hb)]
theorem quo_hom (g : IsGrp n zs e) (hs : subT n zs e q = true) (hN : nrmq n zs e q = true) {a b : Nat} (ha : a < n) (hb : b < n) :
    quoF n zs (rgtq n zs (lst n q)) (num n (rgtq n zs (lst n q)) a) (num n (rgtq n zs (lst n q)) b) = num n (rgtq n zs (lst n q)) (tm n zs a b) := by
  have P := rgt_parts g hs
  obtain ⟨a1, a2⟩ := prts_num_lt P ha
  obtain ⟨b1, b2⟩ := prts_num_lt P hb
  have a3 := a2 a1
  have b3 := b2 b1
  have ha9 := fst_lt a1
  have hb9 := fst_lt b1
  unfold quoF
  rw [List.getElem?_eq_getElem a1, List.getElem?_eq_getElem b1, Option.getD_some, Option.getD_some]
  exact ((prts_num_eq P (tm_lt g.tab ha hb) (tm_lt g.tab ha9 hb9)).2 (rgt_both g hs hN ha hb ha9 hb9 a3 b3)).symm
theorem quo_grp (g : IsGrp n zs e) (hs : subT n zs e q = true) (hN : nrmq n zs e q = true) :
    IsGrp (fsts n (rgtq n zs (lst n q)) n).length (mkT (fsts n (rgtq n zs (lst n q)) n).length (quoF n zs (rgtq n zs (lst n q)))) (num n (rgtq n zs (lst n q)) e) := by
  have P := rgt_parts g hs
  refine grp_image g (Nat.le_trans (fsts_len _ _ _) g.tab.le) (fun a ha => (prts_num_lt P ha).1) (fun i hi => ⟨_, fst_lt hi, prts_num_at P hi⟩) (fun a b ha hb => quo_hom g hs hN ha hb)
end
end Go.Proofs.YtolbpjjjoafkkaaDoor

namespace Go.Proofs.YtolbpjjjoafkkaaDoor
open Go Go.RowKit Go.Maps

theorem law3 : Keyed Tryd.prog 3 := int_keyed und3'
/-- What the map has of the first i lists, and of the first k numbers of the next. -/
structure MLs (ls : List (List Int)) (i k : Nat) (D : DataW Unit) : Prop where
  old : ∀ t, t < i → ∀ a, a ∈ ls[t]?.getD [] → D.atKey (.int .i64 a) (.lit (.int .i64 0)) = .lit (.int .i64 (t : Nat))
  new : ∀ a, a ∈ (ls[i]?.getD []).take k → D.atKey (.int .i64 a) (.lit (.int .i64 0)) = .lit (.int .i64 (i : Nat))
theorem MLs.step {ls : List (List Int)} {i k : Nat} {D : DataW Unit} (h : MLs ls i k D) (hD : IsMap D) (hd : ∀ (s t : Nat) (a : Int), a ∈ ls[s]?.getD [] → a ∈ ls[t]?.getD [] → s = t) (hk : k < (ls[i]?.getD []).length) :
    MLs ls i (k + 1) (D.put (.int .i64 ((ls[i]?.getD [])[k]?.getD 0)) (.lit (.int .i64 (i : Nat)))) := by
  have hx : (ls[i]?.getD [])[k]?.getD 0 ∈ ls[i]?.getD [] := by simp [hk]
  generalize hxe : (ls[i]?.getD [])[k]?.getD 0 = x at *
  constructor
  · intro t ht a ha
    have hne : a ≠ x := fun e => by
      subst e
      have := hd t i a ha hx
      omega
    rw [atKey_put_other (fun h9 => hne (by injection h9))]
    exact h.old t ht a ha
  · intro a ha
    by_cases e : a = x
    · subst e
      rw [atKey_put_same hD (by trivial)]
    · rw [atKey_put_other (fun h9 => e (by injection h9))]
      refine h.new a ?_
      rw [List.take_add_one, List.mem_append] at ha
      rcases ha with ha | ha
      · exact ha
      · rw [List.getElem?_eq_getElem hk] at ha hxe
        simp at ha hxe
        exact absurd (ha.trans hxe) e
theorem MLs.done {ls : List (List Int)} {i : Nat} {D : DataW Unit} (h : MLs ls i (ls[i]?.getD []).length D) : MLs ls (i + 1) 0 D := by
  constructor
  · intro t ht a ha
    by_cases e : t = i
    · subst e
      exact h.new a (by rw [List.take_length]; exact ha)
    · exact h.old t (by omega) a ha
  · intro a ha
    simp at ha
theorem map_le {P : Program} {k : TypeId} {R : Value → Option (DataW Unit × List MemPlace)} {w : World} {b n m : Nat} {D : DataW Unit} (h : w.ownsMap P k R b n D) (hm : n ≤ m) : w.ownsMap P k R b m D := by
  obtain ⟨d, rfl⟩ := Nat.exists_eq_add_of_le hm
  clear hm
  induction d with
  | zero => exact h
  | succ d ih => exact map_more ih
end Go.Proofs.YtolbpjjjoafkkaaDoor

namespace Go.Proofs.YtolbpjjjoafkkaaDoor
open Go Go.RowKit Go.Maps

end Go.Proofs.YtolbpjjjoafkkaaDoor

namespace Go.Proofs.YtolbpjjjoafkkaaDoor
open Go Go.RowKit Go.Maps

/-- What a function that answers a group and a fault begins with. -/
structure BegQ (w w0 : World) (N : Int) (v : Value) : Prop where
  eq : w0 = ((w.alloc (.cells #[.int .i64 N, v] 24)).alloc (.cells #[.int .i64 0, .slice none 0 0] 24)).alloc (.cells #[.int .i64 0, .int .i64 0] 27)
  bel : Below w.heap.size w w0
  box : BoxG w0 w.heap.size N v
  grp : Blk w0 (w.heap.size + 1) 24 [.int .i64 0, .slice none 0 0]
  res : Blk w0 (w.heap.size + 1 + 1) 27 [.int .i64 0, .int .i64 0]
  siz : w0.heap.size = w.heap.size + 1 + 1 + 1
theorem BegQ.new (w : World) (N : Int) (v : Value) : ∃ w0, BegQ w w0 N v := by
  refine ⟨_, rfl, ((balloc w _).alloc (by simp) _).alloc (by simp; omega) _, ((blk0 (w := w) (T := 24) _ _).alloc _).alloc _, ?_, ?_, by simp⟩
  · have h := (blk0 (w := w.alloc (.cells #[.int .i64 N, v] 24)) (T := 24) (.int .i64 0) (.slice none 0 0)).alloc (.cells #[.int .i64 0, .int .i64 0] 27)
    rw [World.size_alloc] at h
    exact h
  · have h := blk0 (w := (w.alloc (.cells #[.int .i64 N, v] 24)).alloc (.cells #[.int .i64 0, .slice none 0 0] 24)) (T := 27) (.int .i64 0) (.int .i64 0)
    rw [World.size_alloc, World.size_alloc] at h
    exact h
end Go.Proofs.YtolbpjjjoafkkaaDoor

namespace Go.Proofs.YtolbpjjjoafkkaaDoor
open Go Go.RowKit

theorem sq_l : lfault 8 [0, 2] = (0, 0) := by decide +kernel
theorem sq_s : subT 8 sqT 0 (pset [0, 2]) = true := by decide +kernel
theorem sq_n : nrmq 8 sqT 0 (pset [0, 2]) = true := by decide +kernel
theorem sq_k : (fsts 8 (rgtq 8 sqT (lst 8 (pset [0, 2]))) 8).length = 4 := by decide +kernel
theorem sq_o : ontoL 8 (rgtq 8 sqT (lst 8 (pset [0, 2]))) = [0, 1, 0, 1, 2, 3, 2, 3] := by decide +kernel
theorem sq_e : num 8 (rgtq 8 sqT (lst 8 (pset [0, 2]))) 0 = 0 := by decide +kernel
def sqQ : List Int := mkT 4 (quoF 8 sqT (rgtq 8 sqT (lst 8 (pset [0, 2]))))
theorem sq_g : IsGrp 4 sqQ 0 := by
  have h := quo_grp (q := pset [0, 2]) sqT_grp sq_s sq_n
  rw [sq_k, sq_e] at h
  exact h
theorem sq_p : pz 4 sqQ 0 1 2 = 0 := by decide +kernel
end Go.Proofs.YtolbpjjjoafkkaaDoor

namespace Go.Proofs.YtolbpjjjoafkkaaDoor
open Go Go.RowKit

end Go.Proofs.YtolbpjjjoafkkaaDoor

namespace Go.Proofs.YtolbpjjjoafkkaaDoor
open Go Go.RowKit

theorem one_lsx : ∀ (n a : Nat), a < n → lst n (fun y => decide (y = a)) = [a]
  | 0, a, h => by omega
  | n + 1, a, h => by
    unfold lst
    rw [List.range_succ, List.filter_append]
    by_cases e : a = n
    · subst e
      have : (List.range a).filter (fun y => decide (y = a)) = [] := List.filter_eq_nil_iff.2 fun y hy => by
        have := List.mem_range.1 hy
        simp; omega
      rw [this]
      simp
    · have h9 := one_lsx n a (by omega)
      unfold lst at h9
      rw [h9]
      have : ¬ n = a := fun e9 => e e9.symm
      simp [this]
theorem one_fault {n a : Nat} (h : a < n) : lfault n [(a : Int)] = (0, 0) := by
  have := lst_fault n (fun y => decide (y = a))
  rw [one_lsx n a h] at this
  exact this
theorem lst_le (n : Nat) (p : Nat → Bool) : (lst n p).length ≤ n := by unfold lst; exact Nat.le_trans (List.length_filter_le _ _) (by simp)
/-- Has each thing but the one all, by a number? -/
def smq (n e : Nat) (L : Nat → Nat) : Bool := decide (1 < n) && (List.range n).all fun a => decide (a = e) || !decide (L a < n)
end Go.Proofs.YtolbpjjjoafkkaaDoor

namespace Go.Proofs.YtolbpjjjoafkkaaDoor
open Go Go.RowKit Go.Maps

theorem slF_blk {w : World} {g n B : Nat} {zs : List Int} (h : Blk w g 3 (zs.map (Value.int .i64))) (hn : n = zs.length) (hl : zs.length ≤ 1000000) (hB : B ≤ g) : SlF B w (.slice (some ⟨g, 0, none⟩) n n) zs := by
  subst hn
  exact ⟨some ⟨g, 0, none⟩, zs.length, g, 0, rfl, ⟨fun _ => rfl, fun j hj => by rw [Nat.zero_add]; exact h.int hj⟩, h.lt, Nat.le_refl _, by unfold maxLen; omega, hB⟩
theorem slF_row {w : World} {base B : Nat} {v : Value} {zs : List Int} (h : Row w base v zs) (hB : B ≤ base) (h0 : 0 < zs.length) : SlF B w v zs := by
  rcases h.2 with ⟨_, hz⟩ | ⟨g, cap, cur, rfl, hgb, hh, h1, h2, _⟩
  · omega
  · refine ⟨some ⟨g, 0, none⟩, cap, g, 0, rfl, ⟨fun _ => rfl, fun j hj => ?_⟩, (Array.getElem?_eq_some_iff.1 hh).1, h1, h2, by omega⟩
    have h3 := h.cells (g := g) rfl j (.int .i64 (zs[j]?.getD 0)) (by simp [hj])
    rw [show (⟨g, 0, none⟩ : Addr).add j = ⟨g, j, none⟩ by unfold Addr.add; split <;> simp_all] at h3
    rw [Nat.zero_add]; exact h3
theorem slF_keep {B : Nat} {w w' : World} {v : Value} {zs : List Int} (h : SlF B w v zs) (hs : w.heap.size ≤ w'.heap.size) (hk : ∀ g, B ≤ g → g < w.heap.size → w'.heap[g]? = w.heap[g]?) : Sl w' v zs := by
  obtain ⟨a, cap, pb, po, rfl, h1, h2, h3, h4, h5⟩ := h
  exact ⟨a, cap, pb, po, rfl, h1.of_eq (hk pb h5 h2), Nat.lt_of_lt_of_le h2 hs, h3, h4⟩
end Go.Proofs.YtolbpjjjoafkkaaDoor

namespace Go.Proofs.YtolbpjjjoafkkaaDoor
open Go Go.RowKit

theorem all_lst (n : Nat) : lst n (fun _ => true) = List.range n := by unfold lst; simp
theorem all_pset (n : Nat) : lst n (pset (li (List.range n))) = List.range n := by
  have := lst_pset n (fun _ => true)
  rwa [all_lst] at this
section
variable {n e : Nat} {zs : List Int} {p : Nat → Bool}
theorem der_sub (g : IsGrp n zs e) (hp : ∀ a, a < n → (p a = true ↔ Mkd n zs e (cmq n zs e (List.range n) (List.range n)) a)) : subT n zs e (pset (li (lst n p))) = true :=
  sg_test g (Fin.Gen.sg _) hp
theorem der_nrm (g : IsGrp n zs e) (hp : ∀ a, a < n → (p a = true ↔ Mkd n zs e (cmq n zs e (List.range n) (List.range n)) a)) : nrmq n zs e (pset (li (lst n p))) = true :=
  nm_test g (Fin.der_nm (grp_fg g) (grp_iv g)) (fun a ha => (hp a ha).trans (cms_iff a))
/-- The quotient by the commutators commutes. -/
theorem der_com (g : IsGrp n zs e) (hp : ∀ a, a < n → (p a = true ↔ Mkd n zs e (cmq n zs e (List.range n) (List.range n)) a)) :
    comB (fsts n (rgtq n zs (lst n (pset (li (lst n p))))) n).length (mkT (fsts n (rgtq n zs (lst n (pset (li (lst n p))))) n).length (quoF n zs (rgtq n zs (lst n (pset (li (lst n p))))))) = true := by
  have hs := der_sub g hp
  have hN := der_nrm g hp
  have PP := rgt_parts g hs
  rw [comB_iff]
  intro i j hi hj
  rw [tm_mk hi hj, tm_mk hj hi]
  have ha := fst_lt hi
  have hb := fst_lt hj
  have ea := prts_num_at PP hi
  have eb := prts_num_at PP hj
  generalize (fsts n (rgtq n zs (lst n (pset (li (lst n p))))) n)[i] = a at *
  generalize (fsts n (rgtq n zs (lst n (pset (li (lst n p))))) n)[j] = b at *
  rw [← ea, ← eb, quo_hom g hs hN ha hb, quo_hom g hs hN hb ha]
  have hab := tm_lt g.tab ha hb
  have hba := tm_lt g.tab hb ha
  have hc := List.mem_range.1 (Fin.cm_mem (grp_fg g) (grp_iv g) (List.mem_range.2 ha) (List.mem_range.2 hb))
  have hce := Fin.cm_eq (grp_fg g) (grp_iv g) (List.mem_range.2 ha) (List.mem_range.2 hb)
  have hcp : Fin.cm (tm n zs) (iv n zs e) a b ∈ lst n (pset (li (lst n p))) := by
    rw [lst_pset, mem_lst]
    refine ⟨hc, (hp _ hc).2 ((cms_iff _).2 (Fin.Gen.base (List.mem_range.2 hc) ⟨a, b, List.mem_range.2 ha, List.mem_range.2 hb, rfl⟩))⟩
  generalize Fin.cm (tm n zs) (iv n zs e) a b = c at *
  have h1 : rgtq n zs (lst n (pset (li (lst n p)))) e c = true := mem_rgt.2 ⟨c, hcp, g.right c hc⟩
  have h2 := rgt_both g hs hN hba g.elt hba hc (PP.refl _ hba) h1
  rw [g.right _ hba, hce] at h2
  exact ((prts_num_eq PP hba hab).2 h2).symm
end
end Go.Proofs.YtolbpjjjoafkkaaDoor
