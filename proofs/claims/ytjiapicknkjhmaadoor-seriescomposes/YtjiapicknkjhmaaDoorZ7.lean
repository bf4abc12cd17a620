/- A conjugate of a set is normal just where it is the only one; what is in all conjugates of a subgroup of a power of p things is a normal subgroup of such a kind. No condition. A group of a power of p things that moves things: what does not stay is a multiple of p; orbits and what stays. No condition. Sylow's theorems: the conjugates of a subgroup of a power of p things that no thing makes a greater one are, one left out, a multiple of p; each subgroup of a power of p things is in one of them; each has as many things as the greatest power of p in how many there are; and how many they are, times how many things keep one, are all things. No condition. Sylow's subgroups by 2 of the square's group: it is all of it; so sylowBegun answers true. Condition: the library's table of places lies as its text lays it. What package sylow's Cauchy answers: at what is wrong, and at a group and a prime. Condition: the library's table of places lies as its text lays it. What the law SylowCauchy asks besides: listAs, primeFault, and its closures: the things of the order p. What primeFault answers: what is wrong with a table, then with p. The law SylowCauchy, walked: at what is wrong, and at a group and a prime; what it calls stands as premises. Condition: the library's table of places lies as its text lays it. The law SylowCauchy: at every table and every number it returns true. Condition: the library's table of places lies as its text lays it. What the law's powerIn answers: the greatest power of p that divides a number. The law SylowQuotients at what is wrong: true. Condition: the library's table of places lies as its text lays it. What All answers, as laws read it; Normal at a list of a set. Condition: the library's table of places lies as its text lays it. Package series' listed: a series of sets as lists. Conditions: the library's table of places lies as its text lays it; what the function that is handed over answers. Package series' Derived, Lower, ends and Nilpotent. Condition: the library's table of places lies as its text lays it. Package series' Nilpotent; the example of the laws of series: of the square's group the commutators make two things. Condition: the library's table of places lies as its text lays it. Greatest normal subgroups and composition series of finite groups as mathematics: THE THEOREM OF JORDAN AND HOELDER: all have the same factors. No condition. Package series' greatest: a greatest normal subgroup of a subgroup. Condition: the library's table of places lies as its text lays it. Normaliser at a subgroup. Condition: the library's table of places lies as its text lays it. -/
import Derived.Test.YtjiapicknkjhmaaDoorZ5
import Derived.Test.YtjiapicknkjhmaaDoorZ3
import Derived.Test.YtjiapicknkjhmaaDoorZ6
import Derived.Test.YtjiapicknkjhmaaDoorZ1
import Derived.Deep.DeepCutAuto
import Derived.Test.YtjiapicknkjhmaaDoorZ4
namespace Go.Proofs.YtjiapicknkjhmaaDoor

theorem nrmq_iff {n e : Nat} {zs : List Int} {q : Nat → Bool} : nrmq n zs e q = true ↔ ∀ a, a < n → bs (cjq n zs e q a) n = bs q n := by
  unfold nrmq
  rw [decide_eq_true_eq]
  constructor
  · intro h a ha
    have := bs_inj h a ha
    unfold norq at this
    exact of_decide_eq_true this
  · intro h
    exact bs_ext fun a ha => by unfold norq; exact decide_eq_true (h a ha)
theorem cjq_twice {n e : Nat} {zs : List Int} {q : Nat → Bool} (g : IsGrp n zs e) {a b : Nat} (ha : a < n) (hb : b < n) : bs (cjq n zs e (cjq n zs e q a) b) n = bs (cjq n zs e q (tm n zs a b)) n := by
  have F := grp_fg g
  have V := grp_iv g
  have ha' := List.mem_range.2 ha
  have hb' := List.mem_range.2 hb
  refine bs_ext fun y _ => ?_
  rw [Bool.eq_iff_iff, cjq_iff, cjq_iff]
  constructor
  · rintro ⟨x, hx, h1, rfl⟩
    obtain ⟨z, hz, h2, rfl⟩ := cjq_iff.1 h1
    exact ⟨z, hz, h2, (Fin.cj_cj F V hz ha' hb').symm⟩
  · rintro ⟨z, hz, h2, rfl⟩
    exact ⟨Fin.cj (tm n zs) (iv n zs e) z a, Fin.cj_mem F V hz ha', cjq_iff.2 ⟨z, hz, h2, rfl⟩, Fin.cj_cj F V hz ha' hb'⟩
theorem one_conj {n e : Nat} {zs : List Int} {s : Nat → Bool} (g : IsGrp n zs e) {c : Nat} (hc : c < n) : nrmq n zs e (cjq n zs e s c) = true ↔ ∀ a, a < n → bs (cjq n zs e s a) n = bs (cjq n zs e s c) n := by
  have F := grp_fg g
  have V := grp_iv g
  rw [nrmq_iff]
  constructor
  · intro h a ha
    have hc' := List.mem_range.2 hc
    have ha' := List.mem_range.2 ha
    have hi := (V c hc').1
    have hb : tm n zs (iv n zs e c) a < n := List.mem_range.1 (F.cl _ _ hi ha')
    have h1 := h _ hb
    rw [cjq_twice g hc hb, ← F.ass _ _ _ hc' hi ha', (V c hc').2.1, F.left a ha'] at h1
    exact h1
  · intro h b hb
    rw [cjq_twice g hc hb]
    exact h _ (tm_lt g.tab hc hb)
theorem alone_iff {f : Nat → Nat} {n c : Nat} {A : List Nat} (hA : ∀ a, a ∈ A → a < n) (hnd : (A.map f).Nodup) (hall : ∀ a, a < n → f a ∈ A.map f) (hc : c ∈ A) : (∀ a, a < n → f a = f c) ↔ A.length = 1 := by
  constructor
  · intro h
    match A, hA, hnd, hc with
    | [a], _, _, _ => rfl
    | a :: b :: A, hA, hnd, _ =>
      rw [List.map_cons, List.map_cons, List.nodup_cons] at hnd
      exact absurd (by rw [h a (hA a (by simp)), ← h b (hA b (by simp))]; simp) hnd.1
  · intro h a ha
    match A, h, hc with
    | [d], _, hc =>
      have h1 := hall a ha
      rw [List.map_cons, List.map_nil, List.mem_singleton] at h1
      rw [List.mem_singleton.1 hc, h1]
theorem cin_iff {n e : Nat} {zs : List Int} {s : Nat → Bool} {A : List Nat} (hA : ∀ a, a ∈ A → a < n) (hall : ∀ a, a < n → bs (cjq n zs e s a) n ∈ A.map fun a => bs (cjq n zs e s a) n) {x : Nat} (hx : x < n) : cin n zs e s A x = true ↔ ∀ a, a < n → cjq n zs e s a x = true := by
  unfold cin
  rw [List.all_eq_true]
  constructor
  · intro h a ha
    obtain ⟨b, hb, h1⟩ := List.mem_map.1 (hall a ha)
    rw [← bs_inj h1 x hx]
    exact h b hb
  · intro h a ha
    exact h a (hA a ha)
theorem cin_nrm {n e : Nat} {zs : List Int} {s : Nat → Bool} {A : List Nat} (g : IsGrp n zs e) (hA : ∀ a, a ∈ A → a < n) (hall : ∀ a, a < n → bs (cjq n zs e s a) n ∈ A.map fun a => bs (cjq n zs e s a) n) : nrmq n zs e (cin n zs e s A) = true := by
  have F := grp_fg g
  have V := grp_iv g
  rw [nrmq_iff]
  intro b hb
  have hb' := List.mem_range.2 hb
  have hi := (V b hb').1
  have hil := List.mem_range.1 hi
  refine bs_ext fun y hy => ?_
  rw [Bool.eq_iff_iff, cin_iff hA hall hy]
  constructor
  · intro h a ha
    obtain ⟨x, hx, h1, rfl⟩ := cjq_iff.1 h
    have ha' := List.mem_range.2 ha
    have hai : tm n zs a (iv n zs e b) < n := tm_lt g.tab ha hil
    have h2 := (cin_iff hA hall (List.mem_range.1 hx)).1 h1 _ hai
    have h3 := bs_inj (cjq_twice (q := s) g hai hb) _ hy
    rw [F.ass _ _ _ ha' hi hb', (V b hb').2.2, F.right a ha'] at h3
    rw [← h3]
    exact cjq_iff.2 ⟨x, hx, h2, rfl⟩
  · intro h
    have hy' := List.mem_range.2 hy
    have hm := Fin.cj_mem F V hy' hi
    refine cjq_iff.2 ⟨_, hm, (cin_iff hA hall (List.mem_range.1 hm)).2 fun a ha => ?_, (Fin.cj_back F V hy' hb').2⟩
    have ha' := List.mem_range.2 ha
    have hab : tm n zs a b < n := tm_lt g.tab ha hb
    have h3 := bs_inj (cjq_twice (q := s) g hab hil) _ (List.mem_range.1 hm)
    rw [F.ass _ _ _ ha' hb' hi, (V b hb').2.1, F.right a ha'] at h3
    rw [← h3]
    exact cjq_iff.2 ⟨y, hy', h _ hab, rfl⟩
theorem cin_sub {n e : Nat} {zs : List Int} {s : Nat → Bool} {A : List Nat} (g : IsGrp n zs e) (hs : subT n zs e s = true) (hA : ∀ a, a ∈ A → a < n) (hall : ∀ a, a < n → bs (cjq n zs e s a) n ∈ A.map fun a => bs (cjq n zs e s a) n) : subT n zs e (cin n zs e s A) = true := by
  have F := grp_fg g
  have V := grp_iv g
  have S := subT_iff.1 hs
  refine subT_iff.2 ⟨(cin_iff hA hall g.elt).2 fun a ha => cjq_iff.2 ⟨e, F.one, S.one, Fin.cj_one F V (List.mem_range.2 ha)⟩, fun x y hx hy h1 h2 => ?_⟩
  have h1 := (cin_iff hA hall (List.mem_range.1 hx)).1 h1
  have h2 := (cin_iff hA hall (List.mem_range.1 hy)).1 h2
  refine (cin_iff hA hall (tm_lt g.tab (List.mem_range.1 hx) (List.mem_range.1 hy))).2 fun a ha => ?_
  obtain ⟨u, hu, k1, rfl⟩ := cjq_iff.1 (h1 a ha)
  obtain ⟨v, hv, k2, rfl⟩ := cjq_iff.1 (h2 a ha)
  exact cjq_iff.2 ⟨tm n zs u v, F.cl _ _ hu hv, S.mul u v hu hv k1 k2, Fin.cj_mul F V hu hv (List.mem_range.2 ha)⟩
theorem dvd_pw {p : Nat} (hp : 2 ≤ p ∧ ∀ d, d ∣ p → d = 1 ∨ d = p) : ∀ (k d : Nat), d ∣ p ^ k → isPw d p
  | 0, d, h => ⟨0, Nat.dvd_one.1 h⟩
  | k + 1, d, h => by
    by_cases hd : p ∣ d
    · obtain ⟨c, rfl⟩ := hd
      rw [Nat.pow_succ, Nat.mul_comm (p ^ k)] at h
      obtain ⟨j, hj⟩ := dvd_pw hp k c (Nat.dvd_of_mul_dvd_mul_left (by omega) h)
      exact ⟨j + 1, by rw [hj, Nat.pow_succ, Nat.mul_comm]⟩
    · have hco : Nat.Coprime d p := by
        rcases hp.2 _ (Nat.gcd_dvd_right d p) with h1 | h1
        · exact h1
        · exact absurd (h1 ▸ Nat.gcd_dvd_left d p) hd
      rw [Nat.pow_succ] at h
      exact dvd_pw hp k d (hco.dvd_of_dvd_mul_right h)
theorem cin_pw {n e p : Nat} {zs : List Int} {s : Nat → Bool} {A : List Nat} (g : IsGrp n zs e) (hpr : primeB p = true) (hgr : Grown n zs e p s) (hA : ∀ a, a ∈ A → a < n) (hall : ∀ a, a < n → bs (cjq n zs e s a) n ∈ A.map fun a => bs (cjq n zs e s a) n) : isPw (lst n (cin n zs e s A)).length p := by
  have F := grp_fg g
  have V := grp_iv g
  have F1 : Fin.Fg (lst n s) (tm n zs) e := Fin.sg_fg F (subT_iff.1 hgr.sub)
  have F2 : Fin.Fg (lst n (cin n zs e s A)) (tm n zs) e := Fin.sg_fg F (subT_iff.1 (cin_sub g hgr.sub hA hall))
  have h := Fin.lagr F1 F2 (fun x hx => by
    obtain ⟨hxn, h1⟩ := mem_lst.1 hx
    obtain ⟨u, hu, k1, k2⟩ := cjq_iff.1 ((cin_iff hA hall hxn).1 h1 e g.elt)
    rw [Fin.cj_id F V hu] at k2
    rw [← k2]
    exact mem_lst.2 ⟨List.mem_range.1 hu, k1⟩)
  obtain ⟨k, hk⟩ := hgr.pow
  rw [hk] at h
  exact dvd_pw (prime_of hpr) k _ h
end Go.Proofs.YtjiapicknkjhmaaDoor

namespace Go.Proofs.YtjiapicknkjhmaaDoor
namespace Fin
variable {P X : List Nat} {m t : Nat → Nat → Nat} {e : Nat}
/-- A group that moves the things of a list. -/
structure Mv (P X : List Nat) (m : Nat → Nat → Nat) (e : Nat) (t : Nat → Nat → Nat) : Prop where
  mem : ∀ c x, c ∈ X → x ∈ P → t c x ∈ X
  one : ∀ c, c ∈ X → t c e = c
  mul : ∀ c x y, c ∈ X → x ∈ P → y ∈ P → t (t c x) y = t c (m x y)
def fixB (P : List Nat) (t : Nat → Nat → Nat) (c : Nat) : Bool := P.all fun x => decide (t c x = c)
def orbB (P : List Nat) (t : Nat → Nat → Nat) (c d : Nat) : Bool := P.any fun x => decide (t c x = d)
theorem orbB_iff {c d : Nat} : orbB P t c d = true ↔ ∃ x, x ∈ P ∧ t c x = d := by unfold orbB; simp
theorem fixB_iff {c : Nat} : fixB P t c = true ↔ ∀ x, x ∈ P → t c x = c := by unfold fixB; simp
theorem orb_back (F : Fg P m e) (M : Mv P X m e t) {c x : Nat} (hc : c ∈ X) (hx : x ∈ P) : ∃ y, y ∈ P ∧ t (t c x) y = c := by
  obtain ⟨y, hy, h1, _⟩ := F.inv x hx
  exact ⟨y, hy, by rw [M.mul c x y hc hx hy, h1, M.one c hc]⟩
theorem orb_same (F : Fg P m e) (M : Mv P X m e t) {c d z : Nat} (hc : c ∈ X) (hd : d ∈ X) (h : orbB P t c d = true) : orbB P t c z = orbB P t d z := by
  obtain ⟨x, hx, rfl⟩ := orbB_iff.1 h
  rw [Bool.eq_iff_iff, orbB_iff, orbB_iff]
  obtain ⟨y, hy, hb⟩ := orb_back F M hc hx
  constructor
  · rintro ⟨u, hu, rfl⟩
    exact ⟨m y u, F.cl _ _ hy hu, by rw [← M.mul _ _ _ hd hy hu, hb]⟩
  · rintro ⟨u, hu, rfl⟩
    exact ⟨m x u, F.cl _ _ hx hu, (M.mul _ _ _ hc hx hu).symm⟩
theorem orb_len (F : Fg P m e) (M : Mv P X m e t) (hX : X.Nodup) {c : Nat} (hc : c ∈ X) : P.length = (X.filter (orbB P t c)).length * (P.filter fun x => decide (t c x = c)).length := by
  refine fib_len (fun x => t c x) _ _ _ (hX.filter _) (fun x hx => List.mem_filter.2 ⟨M.mem c x hc hx, orbB_iff.2 ⟨x, hx, rfl⟩⟩) (fun k hk => ?_)
  obtain ⟨hk1, hk2⟩ := List.mem_filter.1 hk
  obtain ⟨x, hx, rfl⟩ := orbB_iff.1 hk2
  symm
  refine bij_len (fun y => m y x) (F.nd.filter _) (F.nd.filter _) (fun y hy => ?_) (fun y z hy hz h => F.canR hx (List.mem_filter.1 hy).1 (List.mem_filter.1 hz).1 h) (fun z hz => ?_)
  · obtain ⟨h1, h2⟩ := List.mem_filter.1 hy
    refine List.mem_filter.2 ⟨F.cl _ _ h1 hx, decide_eq_true ?_⟩
    rw [← M.mul c y x hc h1 hx, of_decide_eq_true h2]
  · obtain ⟨h1, h2⟩ := List.mem_filter.1 hz
    obtain ⟨y, hy, i1, i2⟩ := F.inv x hx
    refine ⟨m z y, List.mem_filter.2 ⟨F.cl _ _ h1 hy, decide_eq_true ?_⟩, ?_⟩
    · rw [← M.mul c z y hc h1 hy, of_decide_eq_true h2, M.mul c x y hc hx hy, i1, M.one c hc]
    · show m (m z y) x = z
      rw [F.ass _ _ _ h1 hy hx, i2, F.right z h1]
theorem fix_dvd {p : Nat} (hp : 2 ≤ p ∧ ∀ d, d ∣ p → d = 1 ∨ d = p) (F : Fg P m e) (M : Mv P X m e t) (hX : X.Nodup) (hP : isPw P.length p) : p ∣ (X.filter fun c => !fixB P t c).length := by
  obtain ⟨k, hk⟩ := hP
  refine part_dvd p (orbB P t) _ _ (Nat.le_refl _) (fun c hc => ?_) (fun c d z hc hd hz h => ?_) (fun c hc => ?_)
  · exact orbB_iff.2 ⟨e, F.one, M.one c (List.mem_filter.1 hc).1⟩
  · exact orb_same F M (List.mem_filter.1 hc).1 (List.mem_filter.1 hd).1 h
  · obtain ⟨h1, h2⟩ := List.mem_filter.1 hc
    have hsame : (X.filter fun c => !fixB P t c).filter (orbB P t c) = X.filter (orbB P t c) := by
      rw [List.filter_filter]
      refine filter_eq fun z hz => ?_
      cases ho : orbB P t c z with
      | false => simp
      | true =>
        have hno : fixB P t z = false := by
          rw [Bool.eq_false_iff]
          intro hf
          obtain ⟨x, hx, hxz⟩ := orbB_iff.1 ho
          obtain ⟨y, hy, hb⟩ := orb_back F M h1 hx
          rw [hxz, fixB_iff.1 hf y hy] at hb
          rw [hb] at hf
          simp [hf] at h2
        simp [hno]
    rw [hsame]
    have hl := orb_len F M hX h1
    have hd : (X.filter (orbB P t c)).length ∣ p ^ k := hk ▸ ⟨_, hl⟩
    obtain ⟨j, hj⟩ := dvd_pw hp k _ hd
    cases j with
    | zero =>
      exfalso
      have hfx : fixB P t c = true := fixB_iff.2 fun x hx => by
        have m1 : c ∈ X.filter (orbB P t c) := List.mem_filter.2 ⟨h1, orbB_iff.2 ⟨e, F.one, M.one c h1⟩⟩
        have m2 : t c x ∈ X.filter (orbB P t c) := List.mem_filter.2 ⟨M.mem c x h1 hx, orbB_iff.2 ⟨x, hx, rfl⟩⟩
        obtain ⟨d, hd1⟩ := List.length_eq_one_iff.1 hj
        rw [hd1, List.mem_singleton] at m1 m2
        exact m2.trans m1.symm
      simp [hfx] at h2
    | succ j => rw [hj, Nat.pow_succ]; exact ⟨p ^ j, Nat.mul_comm _ _⟩
theorem fix_mod {p : Nat} (hp : 2 ≤ p ∧ ∀ d, d ∣ p → d = 1 ∨ d = p) (F : Fg P m e) (M : Mv P X m e t) (hX : X.Nodup) (hP : isPw P.length p) : X.length % p = (X.filter (fixB P t)).length % p := by
  obtain ⟨c, hc⟩ := fix_dvd hp F M hX hP
  rw [split_len (fixB P t) X, hc, Nat.add_mul_mod_self_left]
end Fin
end Go.Proofs.YtjiapicknkjhmaaDoor

namespace Go.Proofs.YtjiapicknkjhmaaDoor
variable {n e p : Nat} {zs : List Int} {s q : Nat → Bool}

/-- The number of a conjugate, and how a thing moves it. -/
abbrev fc (n : Nat) (zs : List Int) (e : Nat) (s : Nat → Bool) (a : Nat) : Nat := bs (cjq n zs e s a) n
def tq (n : Nat) (zs : List Int) (e : Nat) (c x : Nat) : Nat := bs (cjq n zs e (fun y => c.testBit y) x) n
theorem tq_bs {x : Nat} : tq n zs e (bs q n) x = bs (cjq n zs e q x) n := by
  have h : lst n (fun y => (bs q n).testBit y) = lst n q := lst_congr fun y hy => by rw [bs_bit]; simp [hy]
  unfold tq cjq
  rw [h]
theorem tq_fc (g : IsGrp n zs e) {a x : Nat} (ha : a < n) (hx : x < n) : tq n zs e (fc n zs e s a) x = fc n zs e s (tm n zs a x) := by
  rw [tq_bs]
  exact cjq_twice g ha hx
theorem cjq_e (g : IsGrp n zs e) : bs (cjq n zs e s e) n = bs s n := by
  have F := grp_fg g
  have V := grp_iv g
  refine bs_ext fun y hy => ?_
  rw [Bool.eq_iff_iff, cjq_iff]
  constructor
  · rintro ⟨x, hx, h1, rfl⟩
    rwa [Fin.cj_id F V hx]
  · intro h
    exact ⟨y, List.mem_range.2 hy, h, Fin.cj_id F V (List.mem_range.2 hy)⟩
theorem cj_sg (g : IsGrp n zs e) (hq : subT n zs e q = true) {b : Nat} (hb : b < n) : subT n zs e (cjq n zs e q b) = true := by
  have F := grp_fg g
  have V := grp_iv g
  have S := subT_iff.1 hq
  have hb' := List.mem_range.2 hb
  refine subT_iff.2 ⟨cjq_iff.2 ⟨e, F.one, S.one, Fin.cj_one F V hb'⟩, fun x y hx hy h1 h2 => ?_⟩
  obtain ⟨u, hu, k1, rfl⟩ := cjq_iff.1 h1
  obtain ⟨v, hv, k2, rfl⟩ := cjq_iff.1 h2
  exact cjq_iff.2 ⟨tm n zs u v, F.cl _ _ hu hv, S.mul u v hu hv k1 k2, Fin.cj_mul F V hu hv hb'⟩
theorem lst_nd (n : Nat) (q : Nat → Bool) : (lst n q).Nodup := List.nodup_range.sublist List.filter_sublist
theorem cj_len (g : IsGrp n zs e) {b : Nat} (hb : b < n) : (lst n (cjq n zs e q b)).length = (lst n q).length := by
  have F := grp_fg g
  have V := grp_iv g
  have hb' := List.mem_range.2 hb
  symm
  refine Fin.bij_len (fun x => Fin.cj (tm n zs) (iv n zs e) x b) (lst_nd n q) (lst_nd n _) (fun x hx => ?_) (fun x y hx hy h => ?_) (fun y hy => ?_)
  · obtain ⟨h1, h2⟩ := mem_lst.1 hx
    exact mem_lst.2 ⟨List.mem_range.1 (Fin.cj_mem F V (List.mem_range.2 h1) hb'), cjq_iff.2 ⟨x, List.mem_range.2 h1, h2, rfl⟩⟩
  · have h1 := (Fin.cj_back F V (List.mem_range.2 (mem_lst.1 hx).1) hb').1
    have h2 := (Fin.cj_back F V (List.mem_range.2 (mem_lst.1 hy).1) hb').1
    have h : Fin.cj (tm n zs) (iv n zs e) x b = Fin.cj (tm n zs) (iv n zs e) y b := h
    rw [← h1, h, h2]
  · obtain ⟨h1, h2⟩ := mem_lst.1 hy
    obtain ⟨x, hx, k, rfl⟩ := cjq_iff.1 h2
    exact ⟨x, mem_lst.2 ⟨List.mem_range.1 hx, k⟩, rfl⟩
/-- A subgroup of a power of p things that keeps a greatest one is in it. -/
theorem norm_in (g : IsGrp n zs e) (hpr : primeB p = true) (hG : Grown n zs e p s) (hq : subT n zs e q = true) (hpw : isPw (lst n q).length p)
    (hno : ∀ x, x < n → q x = true → bs (cjq n zs e s x) n = bs s n) {x : Nat} (hx : x < n) (hqx : q x = true) : s x = true := by
  have F := grp_fg g
  have V := grp_iv g
  have S := subT_iff.1 hG.sub
  have Q := subT_iff.1 hq
  obtain ⟨r, hr⟩ := Fin.test_of (fun x => ∃ a b, a ∈ List.range n ∧ b ∈ List.range n ∧ q a = true ∧ s b = true ∧ tm n zs a b = x)
  have hnc : ∀ a b, a ∈ List.range n → b ∈ List.range n → q a = true → s b = true → s (Fin.cj (tm n zs) (iv n zs e) b a) = true := fun a b ha hb h1 h2 => by
    have hm := Fin.cj_mem F V hb ha
    rw [← bs_inj (hno a (List.mem_range.1 ha) h1) _ (List.mem_range.1 hm)]
    exact cjq_iff.2 ⟨b, hb, h2, rfl⟩
  have R : Fin.Sg (List.range n) (tm n zs) e (fun a => r a = true) := by
    refine ⟨(hr e).2 ⟨e, e, F.one, F.one, Q.one, S.one, F.left e F.one⟩, fun y z hy hz h1 h2 => ?_⟩
    obtain ⟨a, b, ha, hb, k1, k2, rfl⟩ := (hr y).1 h1
    obtain ⟨c, d, hc, hd, k3, k4, rfl⟩ := (hr z).1 h2
    have hcm := Fin.cj_mem F V hb hc
    refine (hr _).2 ⟨tm n zs a c, tm n zs (Fin.cj (tm n zs) (iv n zs e) b c) d, F.cl _ _ ha hc, F.cl _ _ hcm hd, Q.mul a c ha hc k1 k3, S.mul _ _ hcm hd (hnc c b hc hb k3 k2) k4, ?_⟩
    rw [F.ass _ _ _ ha hc (F.cl _ _ hcm hd), ← F.ass _ _ _ hc hcm hd, Fin.cj_eq F V hb hc, F.ass _ _ _ hb hc hd, ← F.ass _ _ _ ha hb (F.cl _ _ hc hd)]
  have hlen := Fin.prod_formula F (N := n) (fun x hx => List.mem_range.1 hx) Q S r (fun x _ => hr x)
  obtain ⟨i, hi⟩ := hpw
  obtain ⟨j, hj⟩ := hG.pow
  have hrp : isPw (lst n r).length p := dvd_pw (prime_of hpr) (i + j) _ ⟨_, by rw [Nat.pow_add, ← hi, ← hj]; exact hlen.symm⟩
  obtain ⟨t, ht⟩ := mkd_ex' n zs e (fun y => s y || decide (y = x))
  have T := made_sg g ht
  have h1 : t x = true := (ht x hx).2 (Fin.Gen.base (List.mem_range.2 hx) (by simp))
  rcases hG.top x t hx ht with h2 | h2
  · rw [← bs_inj h2 x hx]; exact h1
  · exfalso
    apply h2
    obtain ⟨k, hk⟩ := hrp
    refine dvd_pw (prime_of hpr) k _ ?_
    rw [← hk]
    refine Fin.lagr (Fin.sg_fg F R) (Fin.sg_fg F T) (fun y hy => ?_)
    obtain ⟨hy1, hy2⟩ := List.mem_filter.1 hy
    refine List.mem_filter.2 ⟨hy1, Fin.Gen.least R (fun z hz h3 => ?_) ((ht y (List.mem_range.1 hy1)).1 hy2)⟩
    simp only [Bool.or_eq_true, decide_eq_true_eq] at h3
    rcases h3 with h3 | h3
    · exact (hr z).2 ⟨e, z, F.one, hz, Q.one, h3, F.left z hz⟩
    · subst h3
      exact (hr z).2 ⟨z, e, hz, F.one, hqx, S.one, F.right z hz⟩
theorem mv_conj (g : IsGrp n zs e) {X : List Nat} (hX : ∀ c, c ∈ X ↔ ∃ a, a < n ∧ fc n zs e s a = c) {P : List Nat} (hP : ∀ x, x ∈ P → x < n) : Fin.Mv P X (tm n zs) e (tq n zs e) where
  mem := fun c x hc hx => by
    obtain ⟨a, ha, rfl⟩ := (hX c).1 hc
    rw [tq_fc g ha (hP x hx)]
    exact (hX _).2 ⟨_, tm_lt g.tab ha (hP x hx), rfl⟩
  one := fun c hc => by
    obtain ⟨a, ha, rfl⟩ := (hX c).1 hc
    rw [tq_fc g ha g.elt, (grp_fg g).right a (List.mem_range.2 ha)]
  mul := fun c x y hc hx hy => by
    obtain ⟨a, ha, rfl⟩ := (hX c).1 hc
    rw [tq_fc g ha (hP x hx), tq_fc g (tm_lt g.tab ha (hP x hx)) (hP y hy), tq_fc g ha (tm_lt g.tab (hP x hx) (hP y hy)), (grp_fg g).ass _ _ _ (List.mem_range.2 ha) (List.mem_range.2 (hP x hx)) (List.mem_range.2 (hP y hy))]
theorem fix_in (g : IsGrp n zs e) (hpr : primeB p = true) (hG : Grown n zs e p s) (hq : subT n zs e q = true) (hpw : isPw (lst n q).length p) {a : Nat} (ha : a < n)
    (hf : Fin.fixB (lst n q) (tq n zs e) (fc n zs e s a) = true) {x : Nat} (hx : x < n) (hqx : q x = true) : cjq n zs e s a x = true := by
  have F := grp_fg g
  have V := grp_iv g
  have ha' := List.mem_range.2 ha
  have hi := (V a ha').1
  have hil := List.mem_range.1 hi
  have h0 := Fin.fixB_iff.1 hf
  have hii : a = iv n zs e (iv n zs e a) := iv_only g hil ha (V a ha').2.2
  have key : ∀ y, y < n → cjq n zs e q (iv n zs e a) y = true → bs (cjq n zs e s y) n = bs s n := fun y hy h1 => by
    obtain ⟨z, hz, k1, rfl⟩ := cjq_iff.1 h1
    have hzl := List.mem_range.1 hz
    have h2 := h0 z (mem_lst.2 ⟨hzl, k1⟩)
    rw [tq_fc g ha hzl] at h2
    have h3 : Fin.cj (tm n zs) (iv n zs e) z (iv n zs e a) = tm n zs (tm n zs a z) (iv n zs e a) := by
      show tm n zs (iv n zs e (iv n zs e a)) (tm n zs z (iv n zs e a)) = _
      rw [← hii, F.ass _ _ _ ha' hz hi]
    rw [h3, ← cjq_twice g (tm_lt g.tab ha hzl) hil, ← tq_bs]
    show tq n zs e (fc n zs e s (tm n zs a z)) _ = _
    rw [h2, tq_fc g ha hil, (V a ha').2.1]
    exact cjq_e g
  have hm := Fin.cj_mem F V (List.mem_range.2 hx) hi
  have h5 := norm_in g hpr hG (cj_sg g hq hil) (by rw [cj_len g hil]; exact hpw) key (List.mem_range.1 hm) (cjq_iff.2 ⟨x, List.mem_range.2 hx, hqx, rfl⟩)
  exact cjq_iff.2 ⟨_, hm, h5, (Fin.cj_back F V (List.mem_range.2 hx) ha').2⟩
theorem syl_mod (g : IsGrp n zs e) (hpr : primeB p = true) (hG : Grown n zs e p s) {X : List Nat} (hnd : X.Nodup) (hX : ∀ c, c ∈ X ↔ ∃ a, a < n ∧ fc n zs e s a = c) : X.length % p = 1 := by
  have F := grp_fg g
  have V := grp_iv g
  have S := subT_iff.1 hG.sub
  have M := mv_conj g hX (P := lst n s) (fun x hx => (mem_lst.1 hx).1)
  rw [Fin.fix_mod (P := lst n s) (prime_of hpr) (Fin.sg_fg F S) M hnd hG.pow]
  have h1 := nodup_len (X.filter (Fin.fixB (lst n s) (tq n zs e))) [bs s n] (hnd.filter _) (fun c hc => by
    obtain ⟨h1, h2⟩ := List.mem_filter.1 hc
    obtain ⟨a, ha, rfl⟩ := (hX c).1 h1
    have h3 : ∀ x, x < n → s x = true → cjq n zs e s a x = true := fun x hx hs => fix_in g hpr hG hG.sub hG.pow ha h2 hx hs
    have h4 := (lst_less h3).2
    rw [cj_len g ha] at h4
    rw [List.mem_singleton]
    refine bs_ext fun x hx => ?_
    rw [Bool.eq_iff_iff]
    refine ⟨fun h5 => Classical.byContradiction fun h6 => ?_, h3 x hx⟩
    exact absurd (h4 ⟨x, hx, h5, h6⟩) (by omega))
  have h2 := nodup_len [bs s n] (X.filter (Fin.fixB (lst n s) (tq n zs e))) (by simp) (fun c hc => by
    rw [List.mem_singleton] at hc
    subst hc
    refine List.mem_filter.2 ⟨(hX _).2 ⟨e, g.elt, cjq_e g⟩, Fin.fixB_iff.2 fun x hx => ?_⟩
    obtain ⟨hx1, hx2⟩ := mem_lst.1 hx
    rw [tq_bs]
    exact of_decide_eq_true ((nor_iff x).2 (Fin.nor_sub F V S (List.mem_range.2 hx1) hx2)))
  have h3 : (X.filter (Fin.fixB (lst n s) (tq n zs e))).length = 1 := by simp at h1 h2 ⊢; omega
  rw [h3]
  exact Nat.mod_eq_of_lt (prime_of hpr).1
theorem syl_in (g : IsGrp n zs e) (hpr : primeB p = true) (hG : Grown n zs e p s) {X : List Nat} (hnd : X.Nodup) (hX : ∀ c, c ∈ X ↔ ∃ a, a < n ∧ fc n zs e s a = c)
    (hq : subT n zs e q = true) (hpw : isPw (lst n q).length p) : ∃ c a, c ∈ X ∧ a < n ∧ fc n zs e s a = c ∧ ∀ x, x < n → q x = true → cjq n zs e s a x = true := by
  have M := mv_conj g hX (P := lst n q) (fun x hx => (mem_lst.1 hx).1)
  have h1 := Fin.fix_mod (P := lst n q) (prime_of hpr) (Fin.sg_fg (grp_fg g) (subT_iff.1 hq)) M hnd hpw
  rw [syl_mod g hpr hG hnd hX] at h1
  have h2 : (X.filter (Fin.fixB (lst n q) (tq n zs e))).length ≠ 0 := fun h => by rw [h, Nat.zero_mod] at h1; omega
  obtain ⟨c, hc⟩ := List.exists_mem_of_length_pos (Nat.pos_of_ne_zero h2)
  obtain ⟨h3, h4⟩ := List.mem_filter.1 hc
  obtain ⟨a, ha, rfl⟩ := (hX c).1 h3
  exact ⟨_, a, h3, ha, rfl, fun x hx h5 => fix_in g hpr hG hq hpw ha h4 hx h5⟩
theorem syl_nor (g : IsGrp n zs e) {X : List Nat} (hnd : X.Nodup) (hX : ∀ c, c ∈ X ↔ ∃ a, a < n ∧ fc n zs e s a = c) {c : Nat} (hc : c < n) : n = X.length * (lst n (norq n zs e (cjq n zs e s c))).length := by
  have F := grp_fg g
  have V := grp_iv g
  have hc' := List.mem_range.2 hc
  have hi := (V c hc').1
  have M := mv_conj g hX (P := List.range n) (fun x hx => List.mem_range.1 hx)
  have h1 := Fin.orb_len F M hnd ((hX _).2 ⟨c, hc, rfl⟩)
  rw [List.length_range] at h1
  have h2 : X.filter (Fin.orbB (List.range n) (tq n zs e) (fc n zs e s c)) = X := List.filter_eq_self.2 fun d hd => by
    obtain ⟨a, ha, rfl⟩ := (hX d).1 hd
    have ha' := List.mem_range.2 ha
    have hm := F.cl _ _ hi ha'
    refine Fin.orbB_iff.2 ⟨tm n zs (iv n zs e c) a, hm, ?_⟩
    rw [tq_fc g hc (List.mem_range.1 hm), ← F.ass _ _ _ hc' hi ha', (V c hc').2.1, F.left a ha']
  have h3 : (List.range n).filter (fun x => decide (tq n zs e (fc n zs e s c) x = fc n zs e s c)) = lst n (norq n zs e (cjq n zs e s c)) := Fin.filter_eq fun x hx => by
    unfold norq
    rw [tq_bs]
  rw [h2, h3] at h1
  exact h1
theorem nor_sgq (g : IsGrp n zs e) : Fin.Sg (List.range n) (tm n zs) e (fun a => norq n zs e s a = true) := by
  refine ⟨decide_eq_true (cjq_e g), fun a b ha hb h1 h2 => decide_eq_true ?_⟩
  have h1 := of_decide_eq_true h1
  have h2 := of_decide_eq_true h2
  rw [← cjq_twice g (List.mem_range.1 ha) (List.mem_range.1 hb), ← tq_bs, h1, tq_bs, h2]
theorem strip (hp : 2 ≤ p) : ∀ k, 0 < k → ∃ v b, k = v * p ^ b ∧ ¬ p ∣ v := by
  intro k
  induction k using Nat.strongRecOn with
  | _ k ih =>
    intro hk
    by_cases h : p ∣ k
    · obtain ⟨c, rfl⟩ := h
      have hc : 0 < c := Nat.pos_of_ne_zero fun h => by subst h; omega
      obtain ⟨v, b, h1, h2⟩ := ih c (by have := Nat.mul_le_mul_right c hp; omega) hc
      exact ⟨v, b + 1, by rw [h1, Nat.pow_succ]; simp [Nat.mul_comm, Nat.mul_left_comm], h2⟩
    · exact ⟨k, 0, by simp, h⟩
theorem pp_dvd (hp : 2 ≤ p ∧ ∀ d, d ∣ p → d = 1 ∨ d = p) {v k b : Nat} (hv : ¬ p ∣ v) (h : p ^ k ∣ v * p ^ b) : p ^ k ∣ p ^ b := by
  have hco : Nat.Coprime v p := by
    rcases hp.2 _ (Nat.gcd_dvd_right v p) with h1 | h1
    · exact h1
    · exact absurd (h1 ▸ Nat.gcd_dvd_left v p) hv
  exact (Nat.Coprime.pow_left k hco.symm).dvd_of_dvd_mul_left h
theorem pp_only (hp : 2 ≤ p ∧ ∀ d, d ∣ p → d = 1 ∨ d = p) {v u k b : Nat} (hv : ¬ p ∣ v) (hu : ¬ p ∣ u) (h : u * p ^ k = v * p ^ b) : p ^ k = p ^ b :=
  Nat.dvd_antisymm (pp_dvd hp hv ⟨u, by rw [← h, Nat.mul_comm]⟩) (pp_dvd hp hu ⟨v, by rw [h, Nat.mul_comm]⟩)
theorem not_dvd_mul (hp : 2 ≤ p ∧ ∀ d, d ∣ p → d = 1 ∨ d = p) {v u : Nat} (hv : ¬ p ∣ v) (hu : ¬ p ∣ u) : ¬ p ∣ u * v := fun h => by
  have hco : Nat.Coprime v p := by
    rcases hp.2 _ (Nat.gcd_dvd_right v p) with h1 | h1
    · exact h1
    · exact absurd (h1 ▸ Nat.gcd_dvd_left v p) hv
  exact hu (hco.symm.dvd_of_dvd_mul_right h)
theorem syl_len (g : IsGrp n zs e) (hpr : primeB p = true) (hG : Grown n zs e p s) {X : List Nat} (hnd : X.Nodup) (hX : ∀ c, c ∈ X ↔ ∃ a, a < n ∧ fc n zs e s a = c) :
    ∃ v, n = X.length * v * (lst n s).length ∧ ¬ p ∣ X.length * v := by
  have F := grp_fg g
  have V := grp_iv g
  have S := subT_iff.1 hG.sub
  have hp := prime_of hpr
  have h0 := syl_nor g hnd hX g.elt
  have hsame : lst n (norq n zs e (cjq n zs e s e)) = lst n (norq n zs e s) := by
    have h1 : lst n (cjq n zs e s e) = lst n s := lst_congr (bs_inj (cjq_e g))
    refine lst_congr fun a _ => ?_
    unfold norq
    rw [cjq_e g]
    unfold cjq at h1 ⊢
    rw [h1]
  rw [hsame] at h0
  have FM := Fin.sg_fg F (nor_sgq (s := s) g)
  obtain ⟨v, b, h1, h2⟩ := strip hp.1 _ FM.pos
  obtain ⟨k, hk⟩ := hG.pow
  have hsM : ∀ x, x ∈ lst n s → x ∈ (List.range n).filter (fun a => norq n zs e s a) := fun x hx => by
    obtain ⟨hx1, hx2⟩ := mem_lst.1 hx
    exact List.mem_filter.2 ⟨List.mem_range.2 hx1, (nor_iff x).2 (Fin.nor_sub F V S (List.mem_range.2 hx1) hx2)⟩
  have hdk : p ^ k ∣ p ^ b := pp_dvd hp h2 (by rw [← h1, ← hk]; exact Fin.lagr FM (Fin.sg_fg F S) hsM)
  have hfr := Fin.frob _ _ _ _ FM rfl (p ^ b) ⟨v, by rw [h1, Nat.mul_comm]⟩
  have hcnt : Fin.cnt ((List.range n).filter fun a => norq n zs e s a) (tm n zs) e (p ^ b) = (lst n s).length := by
    unfold Fin.cnt
    refine Nat.le_antisymm (nodup_len _ _ (FM.nd.filter _) fun x hx => ?_) (nodup_len _ _ (lst_nd n s) fun x hx => ?_)
    · obtain ⟨hx1, hx2⟩ := List.mem_filter.1 hx
      obtain ⟨hx3, hx4⟩ := List.mem_filter.1 hx1
      have hxl := List.mem_range.1 hx3
      have hxo := (ord_iff g hxl _).1 (of_decide_eq_true hx2)
      have hm1 : mk1 n zs e x x = true := (mk1_iff n zs e x x hxl).2 (Fin.Gen.base hx3 (by simp))
      refine mem_lst.2 ⟨hxl, norm_in g hpr hG (subT_iff.2 (made_sg g (mk1_iff n zs e x))) (by rw [mk1_len g hxl]; exact dvd_pw hp b _ hxo) (fun y hy hy1 => ?_) hxl hm1⟩
      have h5 := Fin.Gen.least (nor_sgq (s := s) g) (fun z hz h6 => by
        have h6 : z = x := of_decide_eq_true h6
        rw [h6]; exact hx4) ((mk1_iff n zs e x y hy).1 hy1)
      exact of_decide_eq_true h5
    · obtain ⟨hx1, hx2⟩ := mem_lst.1 hx
      refine List.mem_filter.2 ⟨hsM x hx, decide_eq_true ((ord_iff g hx1 _).2 (Nat.dvd_trans ?_ hdk))⟩
      rw [← hk]
      exact (ord_iff g hx1 _).1 (Fin.po_len (Fin.sg_fg F S) hx)
  rw [hcnt, hk] at hfr
  have hbk := Nat.dvd_antisymm hdk hfr
  refine ⟨v, ?_, ?_⟩
  · rw [hk, hbk, Nat.mul_assoc, ← h1]
    exact h0
  · refine not_dvd_mul hp h2 fun h3 => ?_
    have h4 := syl_mod g hpr hG hnd hX
    rw [Nat.mod_eq_zero_of_dvd h3] at h4
    omega
end Go.Proofs.YtjiapicknkjhmaaDoor

namespace Go.Proofs.YtjiapicknkjhmaaDoor
open Go Go.RowKit

theorem sub_dvd {n e : Nat} {zs : List Int} {p : Nat → Bool} (g : IsGrp n zs e) (h : subT n zs e p = true) : (lst n p).length ∣ n := by
  have S := subT_iff.1 h
  have := Fin.sg_dvd (grp_fg g) S
  rwa [List.length_range] at this
theorem mkd_sub {n e : Nat} {zs : List Int} {q r : Nat → Bool} (g : IsGrp n zs e) (hr : ∀ x, x < n → (r x = true ↔ Mkd n zs e q x)) : subT n zs e r = true :=
  subT_iff.2 ⟨(hr e g.elt).2 (Fin.Gen.sg _).one, fun a b ha hb h1 h2 => (hr _ (tm_lt g.tab (List.mem_range.1 ha) (List.mem_range.1 hb))).2 ((Fin.Gen.sg _).mul a b ha hb ((hr a (List.mem_range.1 ha)).1 h1) ((hr b (List.mem_range.1 hb)).1 h2))⟩
theorem dvd8 : ∀ L, L ≤ 8 → L ∣ 8 → L = 2 ^ 0 ∨ L = 2 ^ 1 ∨ L = 2 ^ 2 ∨ L = 2 ^ 3 := by decide
theorem whole_grown {e : Nat} {zs : List Int} {s : Nat → Bool} (g : IsGrp 8 zs e) (h : Grown 8 zs e 2 s) : ∀ a, a < 8 → s a = true := by
  intro a ha
  refine Classical.byContradiction fun h9 => ?_
  obtain ⟨q, hq⟩ := mkd_ex' 8 zs e (fun y => s y || decide (y = a))
  rcases h.top a q ha hq with h1 | h1
  · have h2 := bs_inj h1 a ha
    rw [(hq a ha).2 (Fin.Gen.base (List.mem_range.2 ha) (by simp))] at h2
    exact h9 h2.symm
  · have h2 := sub_dvd g (mkd_sub g hq)
    rcases dvd8 _ (Nat.le_of_dvd (by omega) h2) h2 with h3 | h3 | h3 | h3
    · exact h1 ⟨_, h3⟩
    · exact h1 ⟨_, h3⟩
    · exact h1 ⟨_, h3⟩
    · exact h1 ⟨_, h3⟩
theorem sq_cj : ∀ a, a < 8 → lst 8 (cjq 8 sqT 0 (fun _ => true) a) = List.range 8 := by decide +kernel
theorem cjq_all {s : Nat → Bool} (h : ∀ a, a < 8 → s a = true) (a : Nat) : cjq 8 sqT 0 s a = cjq 8 sqT 0 (fun _ => true) a := by
  unfold cjq
  rw [lst_congr (q := fun _ => true) (fun x hx => h x hx)]
set_option maxRecDepth 100000 in
set_option maxHeartbeats 4000000 in
theorem sylowBegun_any (w : World) (hT : Tab w) : Calls Tryd.prog 6 #[] w fun x w' => x = .returned (.bool true) ∧ Below w.heap.size w w' := by
  go_enter Tryd.func6, Tryd.ntmps6
  go_wp2_with fail
  refine (square_ok w).mono ?_
  rintro x w1 ⟨r, rfl, hrow, hb1⟩
  obtain ⟨rx, rcap, rfl⟩ := own_slice hrow
  have hs1 := row_sl hrow (Nat.lt_of_lt_of_le hT.lt hb1.size)
  have hT1 := hT.below hb1
  go_wp2_with fail
  refine (sall_good 8 0 2 _ sqT w1 hs1 sqT_grp hT1 (by decide)).mono ?_
  rintro x w2 ⟨r1, r2, r3, s, A, ms, rfl, hgr, hA, hnd, hall, hpm, _, ⟨B, us, hB, hul, hown, hls⟩, hb2⟩
  have hw := whole_grown sqT_grp hgr
  have hsame : ∀ a b, a < 8 → b < 8 → bs (cjq 8 sqT 0 s a) 8 = bs (cjq 8 sqT 0 s b) 8 := fun a b ha hb => by
    rw [cjq_all hw a, cjq_all hw b]
    refine bs_ext fun x hx => ?_
    have h1 : x ∈ lst 8 (cjq 8 sqT 0 (fun _ => true) a) := by rw [sq_cj a ha]; exact List.mem_range.2 hx
    have h2 : x ∈ lst 8 (cjq 8 sqT 0 (fun _ => true) b) := by rw [sq_cj b hb]; exact List.mem_range.2 hx
    rw [(mem_lst.1 h1).2, (mem_lst.1 h2).2]
  obtain ⟨a, hA1, ha⟩ : ∃ a, A = [a] ∧ a < 8 := by
    match A, hA, hnd, hall with
    | [], _, _, hall => exact absurd (hall 0 (by omega)) (by simp)
    | [a], hA, _, _ => exact ⟨a, rfl, hA a (by simp)⟩
    | a :: b :: A, hA, hnd, _ =>
      rw [List.map_cons, List.map_cons, List.nodup_cons] at hnd
      exact absurd (by rw [hsame a b (hA a (by simp)) (hA b (by simp))]; simp) hnd.1
  subst hA1
  have hms : ms = [li (List.range 8)] := by
    rw [List.map_cons, List.map_nil, cjq_all hw a, sq_cj a ha] at hpm
    exact List.perm_singleton.1 hpm
  subst hms
  have hr2 : r2 = 1 := by rw [← hul, hls.1]; rfl
  subst hr2
  obtain ⟨x9, hx9⟩ : ∃ x9, us = [x9] := by
    match us, hul with
    | [x9], _ => exact ⟨x9, rfl⟩
  subst hx9
  obtain ⟨qa, qcap, qb, qo, rfl, _⟩ := hls.2 0 x9 (li (List.range 8)) rfl rfl
  obtain ⟨g, rfl⟩ : ∃ g, r1 = some ⟨g, 0, none⟩ := by
    rcases hown.2 with ⟨h1, h2⟩ | ⟨g', cap, cur, h1, _⟩
    · omega
    · injection h1 with h1; exact ⟨g', h1⟩
  have hc := hown.cells (g := g) rfl 0 _ rfl
  rw [show (⟨g, 0, none⟩ : Addr).add 0 = ⟨g, 0, none⟩ by rfl] at hc
  have hF := blk0 (w := w2) (T := 27) (.int .i64 0) (.int .i64 0)
  have hb3 := balloc w2 (.cells #[.int .i64 0, .int .i64 0] 27)
  have hB3 := bcat2 (bcat2 hb1 hb2) hb3
  have hc3 := below_cell hb3 hc
  have hl8 : (li (List.range 8)).length = 8 := rfl
  rw [hl8] at hc3
  obtain ⟨f0, f1, _, _⟩ := hF.two
  clear hgr hA hnd hall hpm hown hls hw hsame hrow hs1
  go_wp2
  go_ret
  exact ⟨rfl, hB3⟩
end Go.Proofs.YtjiapicknkjhmaaDoor

namespace Go.Proofs.YtjiapicknkjhmaaDoor
open Go Go.RowKit

/-- What lies where Cauchy begins: the table, p, the fault to be answered. -/
structure BegC (w w0 : World) (N p : Int) (v : Value) : Prop where
  eq : w0 = ((w.alloc (.cells #[.int .i64 N, v] 24)).alloc (.cells #[.int .i64 p] 3)).alloc (.cells #[.int .i64 0, .int .i64 0] 27)
  bel : Below w.heap.size w w0
  box : Blk w0 w.heap.size 24 [.int .i64 N, v]
  pri : Boxed w0 (w.heap.size + 1) 3 (.int .i64 p)
  res : Blk w0 (w.heap.size + 2) 27 [.int .i64 0, .int .i64 0]
  size : w0.heap.size = w.heap.size + 3
theorem BegC.new (w : World) (N p : Int) (v : Value) : ∃ w0, BegC w w0 N p v := by
  refine ⟨_, rfl, ((balloc w _).alloc (by simp) _).alloc (by simp; omega) _, ((blk0 _ _).alloc _).alloc _, ?_, ?_, by simp⟩
  · have := (Boxed.new (w.alloc (.cells #[.int .i64 N, v] 24)) 3 (.int .i64 p)).alloc (.cells #[.int .i64 0, .int .i64 0] 27)
    simpa using this
  · have := blk0 (w := (w.alloc (.cells #[.int .i64 N, v] 24)).alloc (.cells #[.int .i64 p] 3)) (T := 27) (.int .i64 0) (.int .i64 0)
    simpa using this
end Go.Proofs.YtjiapicknkjhmaaDoor

namespace Go.Proofs.YtjiapicknkjhmaaDoor
open Go Go.RowKit

/-- What is wrong with a table and a prime. -/
def pfault (N : Int) (zs : List Int) (p : Int) : Int × Int := if (gfault N zs).1 = 0 ∧ primeB p = false then (3, 1) else gfault N zs
end Go.Proofs.YtjiapicknkjhmaaDoor

namespace Go.Proofs.YtjiapicknkjhmaaDoor
open Go Go.RowKit

set_option maxRecDepth 100000 in
set_option maxHeartbeats 4000000 in
theorem pf_ok (N p : Int) (v : Value) (zs : List Int) (w : World) (hv : Sl w v zs) :
    Calls Tryd.prog 7 #[.agg #[.int .i64 N, v], .int .i64 p] w fun x w' => x = .returned (.agg #[.int .i64 (pfault N zs p).1, .int .i64 (pfault N zs p).2]) ∧ Below w.heap.size w w' := by
  obtain ⟨w0, BG⟩ := Beg.new w N v
  have hv0 := hv.below BG.bel
  obtain ⟨c0, c1, _, _⟩ := BG.box.two
  have hgf := groupFault_any N v zs w0 hv0
  have HPF := hide (show pfault N zs p = if (gfault N zs).1 = 0 ∧ primeB p = false then (3, 1) else gfault N zs from rfl)
  generalize pfault N zs p = pf at *
  generalize gfault N zs = gf at *
  obtain ⟨c, i⟩ := gf
  simp only at hgf
  have HGF := hide hgf
  clear hgf
  have HZ0 := hide (show w.heap.size + 2 ≤ w0.heap.size by rw [BG.eq]; simp)
  rw [BG.eq] at c0 c1
  go_enter Tryd.func7, Tryd.ntmps7
  go_wp2_with fail
  rw [← BG.eq]
  refine HGF.out.mono ?_
  rintro x w1 ⟨rfl, hb1⟩
  clear c0 c1 HGF
  obtain ⟨w2, hw2⟩ : ∃ w2, w2 = w1.alloc (.cells #[.int .i64 c, .int .i64 i] 27) := ⟨_, rfl⟩
  have hB2 : Below w0.heap.size w0 w2 := by rw [hw2]; exact bcat2 hb1 (balloc w1 _)
  have hF2 : Blk w2 w1.heap.size 27 [.int .i64 c, .int .i64 i] := by rw [hw2]; exact blk0 _ _
  have hR2 := blk_below BG.res hB2
  have hBw := bcat BG.bel hB2 BG.bel.size
  have hz1 : w.heap.size + 2 ≤ w1.heap.size := Nat.le_trans HZ0.out hb1.size
  obtain ⟨t0, t1, _, _⟩ := hF2.two
  by_cases hc : c = 0
  · subst hc
    cases hpr : primeB p with
    | true =>
      have HPR := hide (lprime_ok p w2)
      rw [hpr] at HPR
      have hpf : pf = (0, i) := by rw [HPF.out, hpr]; simp
      rw [hw2] at t0 t1
      go_wp2_with fail
      rw [← hw2]
      clear hw2 t0 t1
      refine HPR.out.mono ?_
      rintro x w3 ⟨rfl, hb3⟩
      have hF3 := blk_below hF2 hb3
      have hR3 := blk_below hR2 hb3
      have hB3 := bcat2 hBw hb3
      obtain ⟨t0, t1, _, _⟩ := hF3.two
      obtain ⟨y0, y1, fy0, fy1⟩ := hR3.two
      go_wp2
      obtain ⟨hR6, hB6⟩ := put2 hR3 hB3 (by omega) 0 i
      obtain ⟨z0, z1, _, _⟩ := hR6.two
      exact bodyPost_ret (v := .agg #[.int .i64 0, .int .i64 i]) (by simp [results, Tryd.results7, go_sem, z0, z1]) rfl ⟨by rw [hpf], hB6⟩
    | false =>
      have HPR := hide (lprime_ok p w2)
      rw [hpr] at HPR
      have hpf : pf = (3, 1) := by rw [HPF.out, hpr]; simp
      rw [hw2] at t0 t1
      go_wp2_with fail
      rw [← hw2]
      clear hw2 t0 t1
      refine HPR.out.mono ?_
      rintro x w3 ⟨rfl, hb3⟩
      go_wp2_with fail
      refine (f_any 3 1 w3).mono ?_
      rintro x w4 ⟨rfl, hb4⟩
      have hb34 := bcat2 hb3 hb4
      have hF3 := blk_below hF2 hb34
      have hR3 := blk_below hR2 hb34
      have hB3 := bcat2 hBw hb34
      obtain ⟨hF5, hB5⟩ := put2 hF3 hB3 (by omega) 3 1
      have hR5 : Blk ((w4.setCell ⟨w1.heap.size, 0, none⟩ (.int .i64 3)).setCell ⟨w1.heap.size, 1, none⟩ (.int .i64 1)) (w.heap.size + 1) 27 [.int .i64 0, .int .i64 0] := (hR3.other (p := ⟨w1.heap.size, 0, none⟩) (by simp; omega) (.int .i64 3)).other (p := ⟨w1.heap.size, 1, none⟩) (by simp; omega) (.int .i64 1)
      obtain ⟨t0, t1, ft0, ft1⟩ := hF3.two
      obtain ⟨q0, q1, _, _⟩ := hF5.two
      obtain ⟨y0, y1, fy0, fy1⟩ := hR5.two
      go_wp2
      obtain ⟨hR6, hB6⟩ := put2 hR5 hB5 (by omega) 3 1
      obtain ⟨z0, z1, _, _⟩ := hR6.two
      exact bodyPost_ret (v := .agg #[.int .i64 3, .int .i64 1]) (by simp [results, Tryd.results7, go_sem, z0, z1]) rfl ⟨by rw [hpf], hB6⟩
  · have hcb : (c == 0) = false := by simpa using hc
    have hpf : pf = (c, i) := by rw [HPF.out]; simp [hc]
    obtain ⟨y0, y1, fy0, fy1⟩ := hR2.two
    rw [hw2] at t0 t1 y0 y1 fy0 fy1
    go_wp2
    rw [← hw2]
    obtain ⟨hR6, hB6⟩ := put2 hR2 hBw (by omega) c i
    obtain ⟨z0, z1, _, _⟩ := hR6.two
    exact bodyPost_ret (v := .agg #[.int .i64 c, .int .i64 i]) (by simp [results, Tryd.results7, go_sem, z0, z1]) rfl ⟨by rw [hpf], hB6⟩
end Go.Proofs.YtjiapicknkjhmaaDoor

namespace Go.Proofs.YtjiapicknkjhmaaDoor
open Go Go.RowKit

theorem mkA {X U : World} {x y : Value} (k : Below (X.alloc (.cells #[x, y] 27)).heap.size (X.alloc (.cells #[x, y] 27)) U) : Blk U X.heap.size 27 [x, y] := blk_below (blk0 x y) k
theorem undA {W U : World} (k : Below W.drew.heap.size W.drew U) : Below W.heap.size W U := ⟨k.os, k.tape, k.output, k.size, k.block⟩
/-- What lies there behind the first call. -/
def IRel (w0 : World) (C : Int → Int → List Int → Prop) (s5 s6 : Value) (wx : World) : Prop := ∃ (b : Nat) (a : Option Addr) (cp : Nat) (c i : Int) (L : List Int), s5 = .slice a L.length cp ∧ s6 = .pointer (some ⟨b, 0, none⟩) ∧ w0.heap.size ≤ b ∧ Blk wx b 27 [.int .i64 c, .int .i64 i] ∧ Sl wx (.slice a L.length cp) L ∧ C c i L ∧ Below w0.heap.size w0 wx
theorem irel_put {w0 U : World} {C : Int → Int → List Int → Prop} {c i : Int} {L : List Int} {x y : Value} {b : Nat} {a : Option Addr} {cp : Nat} (hb : w0.heap.size ≤ b) (hB : Below w0.heap.size w0 U) (hp : Blk U b 27 [x, y]) (hs : Sl ((U.setCell ⟨b, 0, none⟩ (.int .i64 c)).setCell ⟨b, 1, none⟩ (.int .i64 i)) (.slice a L.length cp) L) (hC : C c i L) : IRel w0 C (.slice a L.length cp) (.pointer (some ⟨b, 0, none⟩)) ((U.setCell ⟨b, 0, none⟩ (.int .i64 c)).setCell ⟨b, 1, none⟩ (.int .i64 i)) :=
  ⟨b, a, cp, c, i, L, rfl, rfl, hb, (hp.set 0 _).set 1 _, hs, hC, bSet (bSet hB hb) hb⟩
theorem irel_new {w0 U : World} {C : Int → Int → List Int → Prop} {c i : Int} {L : List Int} {a : Option Addr} {cp : Nat} (hB : Below w0.heap.size w0 U) (hs : Sl U (.slice a L.length cp) L) (hC : C c i L) : IRel w0 C (.slice a L.length cp) (.pointer (some ⟨U.heap.size, 0, none⟩)) (U.alloc (.cells #[.int .i64 c, .int .i64 i] 27)) :=
  ⟨U.heap.size, a, cp, c, i, L, rfl, rfl, hB.size, blk0 _ _, hs.below (balloc _ _), hC, bcat2 hB (balloc _ _)⟩
end Go.Proofs.YtjiapicknkjhmaaDoor

namespace Go.Proofs.YtjiapicknkjhmaaDoor
open Go Go.RowKit

theorem sopen_any (N p : Int) (v : Value) (zs : List Int) (w : World) (hv : Sl w v zs) (hc : (pfault N zs p).1 ≠ 0) :
    Calls Tryd.prog 33 #[.agg #[.int .i64 N, v], .int .i64 p] w fun x w' => x = .returned (.tuple #[.agg #[.int .i64 0, .slice none 0 0, .int .i64 0, .slice none 0 0], .agg #[.int .i64 (pfault N zs p).1, .int .i64 (pfault N zs p).2]]) ∧ Below w.heap.size w w' := by
  unfold pfault at *
  by_cases h : (gfault N zs).1 = 0 ∧ primeB p = false
  · rw [if_pos h]
    obtain ⟨n, e, rfl, hg, _⟩ := gfault_grp h.1
    exact sopen_range n e p v zs w hv hg h.2
  · rw [if_neg h] at hc ⊢
    exact sopen_bad N p v zs w hv hc
theorem pfault_good {N p : Int} {zs : List Int} (hc : (pfault N zs p).1 = 0) : (gfault N zs).1 = 0 ∧ primeB p = true := by
  unfold pfault at hc
  by_cases h : (gfault N zs).1 = 0 ∧ primeB p = false
  · rw [if_pos h] at hc
    cases hc
  · rw [if_neg h] at hc
    refine ⟨hc, ?_⟩
    cases h9 : primeB p with
    | true => rfl
    | false => exact absurd ⟨hc, h9⟩ h
end Go.Proofs.YtjiapicknkjhmaaDoor

namespace Go.Proofs.YtjiapicknkjhmaaDoor
open Go Go.RowKit

theorem powerIn_pw {n p v j : Nat} (hp : 2 ≤ p) (h : v * p ^ j = n) (hv : ¬ p ∣ v) (hn : isPw n p) : p ^ j = n := by
  obtain ⟨k, hk⟩ := hn
  have h1 := pw_strip hp hv (h.trans hk)
  rw [← h, h1, Nat.one_mul]
end Go.Proofs.YtjiapicknkjhmaaDoor

namespace Go.Proofs.YtjiapicknkjhmaaDoor
open Go Go.RowKit

end Go.Proofs.YtjiapicknkjhmaaDoor

namespace Go.Proofs.YtjiapicknkjhmaaDoor
open Go Go.RowKit

def Rws (W : World) (g : Nat) (ms : List (List Int)) : Prop := ∀ j, j < ms.length → ∃ a c, W.cell? ⟨g, j, none⟩ = some (.slice a (ms[j]?.getD []).length c) ∧ Sl W (.slice a (ms[j]?.getD []).length c) (ms[j]?.getD [])
theorem Rws.below {W W' : World} {g : Nat} {ms : List (List Int)} (h : Rws W g ms) (hb : Below W.heap.size W W') : Rws W' g ms := fun j hj => by
  obtain ⟨a, c, h1, h2⟩ := h j hj
  exact ⟨a, c, below_cell hb h1, h2.below hb⟩
structure SylA (n : Nat) (zs : List Int) (e p : Nat) (s : Nat → Bool) (A : List Nat) (ms : List (List Int)) : Prop where
  gr : Grown n zs e p s
  lt : ∀ a, a ∈ A → a < n
  nd : (A.map fun a => bs (cjq n zs e s a) n).Nodup
  all : ∀ a, a < n → bs (cjq n zs e s a) n ∈ A.map fun a => bs (cjq n zs e s a) n
  pm : ms.Perm (A.map fun a => li (lst n (cjq n zs e s a)))
  st : srt ms
theorem SylA.len {n e p : Nat} {zs : List Int} {s : Nat → Bool} {A : List Nat} {ms : List (List Int)} (h : SylA n zs e p s A ms) : ms.length = A.length := by
  rw [h.pm.length_eq, List.length_map]
theorem SylA.pos {n e p : Nat} {zs : List Int} {s : Nat → Bool} {A : List Nat} {ms : List (List Int)} (h : SylA n zs e p s A ms) (he : e < n) : 0 < ms.length := by
  rw [h.len]
  obtain ⟨a, ha, _⟩ := List.mem_map.1 (h.all e he)
  exact List.length_pos_of_mem ha
theorem SylA.fits {n e p : Nat} {zs : List Int} {s : Nat → Bool} {A : List Nat} {ms : List (List Int)} (h : SylA n zs e p s A ms) : ms.length ≤ n := by
  rw [h.len]
  exact nodup_fits (nd_of_map h.nd) h.lt
theorem SylA.one {n e p : Nat} {zs : List Int} {s : Nat → Bool} {A : List Nat} {ms : List (List Int)} (h : SylA n zs e p s A ms) {j : Nat} (hj : j < ms.length) : ∃ a, a ∈ A ∧ ms[j]?.getD [] = li (lst n (cjq n zs e s a)) := by
  have h1 : ms[j]?.getD [] ∈ ms := by rw [List.getElem?_eq_getElem hj]; exact List.getElem_mem hj
  obtain ⟨a, ha, h2⟩ := List.mem_map.1 (h.pm.mem_iff.1 h1)
  exact ⟨a, ha, h2.symm⟩
theorem SylA.hX {n e p : Nat} {zs : List Int} {s : Nat → Bool} {A : List Nat} {ms : List (List Int)} (h : SylA n zs e p s A ms) : ∀ c, c ∈ A.map (fun a => bs (cjq n zs e s a) n) ↔ ∃ a, a < n ∧ fc n zs e s a = c := fun c => by
  constructor
  · intro hc
    obtain ⟨a, ha, h1⟩ := List.mem_map.1 hc
    exact ⟨a, h.lt a ha, h1⟩
  · rintro ⟨a, ha, rfl⟩
    exact h.all a ha
theorem sall_nice (n e p : Nat) (v : Value) (zs : List Int) (w : World) (hv : Sl w v zs) (hg : IsGrp n zs e) (hT : Tab w) (hpr : primeB p = true) :
    Calls Tryd.prog 10 #[.agg #[.int .i64 n, v], .int .i64 p] w fun x w' => ∃ (g c : Nat) (s : Nat → Bool) (A : List Nat) (ms : List (List Int)), x = .returned (.tuple #[.slice (some ⟨g, 0, none⟩) ms.length c, .agg #[.int .i64 0, .int .i64 0]]) ∧ SylA n zs e p s A ms ∧ Rws w' g ms ∧ Below w.heap.size w w' := by
  refine (sall_good n e p v zs w hv hg hT hpr).mono ?_
  rintro x w2 ⟨r1, r2, r3, s, A, ms, rfl, hgr, hA, hnd, hall, hpm, hsr, ⟨B, us, hB, hul, hown, hls⟩, hb2⟩
  have HA : SylA n zs e p s A ms := ⟨hgr, hA, hnd, hall, hpm, hsr⟩
  have hpos := HA.pos hg.elt
  have hl : us.length = ms.length := hls.1
  have hr2 : r2 = ms.length := by rw [← hul, hl]
  subst hr2
  obtain ⟨g, rfl⟩ : ∃ g, r1 = some ⟨g, 0, none⟩ := by
    rcases hown.2 with ⟨h1, h2⟩ | ⟨g', cap, cur, h1, _⟩
    · omega
    · injection h1 with h1; exact ⟨g', h1⟩
  refine ⟨g, r3, s, A, ms, rfl, HA, fun j hj => ?_, hb2⟩
  have hju : j < us.length := by omega
  obtain ⟨a, cap, pb, po, h1, h2, h3, h4, h5, _⟩ := hls.2 j us[j] ms[j] (List.getElem?_eq_getElem hju) (List.getElem?_eq_getElem hj)
  have hc := hown.cells (g := g) rfl j _ (List.getElem?_eq_getElem hju)
  rw [show (⟨g, 0, none⟩ : Addr).add j = ⟨g, j, none⟩ by unfold Addr.add; split <;> simp_all] at hc
  rw [List.getElem?_eq_getElem hj, Option.getD_some]
  rw [h1] at hc
  exact ⟨a, cap, hc, ⟨a, cap, pb, po, rfl, h2, h3, h4, h5⟩⟩
theorem nrmq_pset {n e : Nat} {zs : List Int} {q : Nat → Bool} : nrmq n zs e (pset (li (lst n q))) = nrmq n zs e q := by
  have h1 : lst n (pset (li (lst n q))) = lst n q := lst_pset n q
  have h2 : bs (pset (li (lst n q))) n = bs q n := bs_ext fun a ha => pset_lst ha
  unfold nrmq norq cjq
  rw [h1, h2]
theorem nrm_lst (n e : Nat) (v u : Value) (zs : List Int) (q : Nat → Bool) (w : World) (hv : Sl w v zs) (hg : IsGrp n zs e) (hu : Sl w u (li (lst n q))) (hT : Tab w) (hs : subT n zs e q = true) :
    Calls Tryd.prog 30 #[.agg #[.int .i64 n, v], u] w fun x w' => x = .returned (.tuple #[.bool (nrmq n zs e q), .agg #[.int .i64 0, .int .i64 0]]) ∧ Below w.heap.size w w' := by
  have h := nrm_good n e v u zs (li (lst n q)) w hv hg hu hT (lst_fault n q) ((subT_congr hg fun a ha => pset_lst ha).trans hs)
  rwa [nrmq_pset] at h
/-- A fault that is stored where it lies. -/
theorem store_same {W : World} {b : Nat} {x y : Value} (h0 : W.cell? ⟨b, 0, none⟩ = some x) (h1 : W.cell? ⟨b, 1, none⟩ = some y) : (W.setCell ⟨b, 0, none⟩ x).setCell ⟨b, 1, none⟩ y = W := by
  rw [set_same W b 0 x h0, set_same W b 1 y h1]
end Go.Proofs.YtjiapicknkjhmaaDoor

namespace Go.Proofs.YtjiapicknkjhmaaDoor
open Go Go.RowKit

def sls (n : Nat) (f : Nat → Nat → Bool) (k : Nat) : List (List Int) := (List.range k).map fun i => li (lst n (f i))
theorem sls_len (n : Nat) (f : Nat → Nat → Bool) (k : Nat) : (sls n f k).length = k := by simp [sls]
theorem sls_at {n : Nat} {f : Nat → Nat → Bool} {k i : Nat} (h : i < k) : (sls n f k)[i]?.getD [] = li (lst n (f i)) := by simp [sls, h]
theorem sls_up (n : Nat) (f : Nat → Nat → Bool) (k : Nat) : sls n f (k + 1) = sls n f k ++ [li (lst n (f k))] := by simp [sls, List.range_succ]
/-- A row of lists, read. -/
theorem Rws.of_own {w : World} {base B g c : Nat} {vs : List Value} {rs : List (List Int)} (h : w.ownsRow base 22 1 (.slice (some ⟨g, 0, none⟩) vs.length c) vs.length vs) (hl : Lsts w B (.slice (some ⟨g, 0, none⟩) vs.length c) vs rs) : Rws w g rs := fun j hj => by
  have hju : j < vs.length := by have := hl.1; omega
  obtain ⟨a, cap, pb, po, h1, h2, h3, h4, h5, _⟩ := hl.2 j vs[j] rs[j] (List.getElem?_eq_getElem hju) (List.getElem?_eq_getElem hj)
  have hc := h.cells (g := g) rfl j _ (List.getElem?_eq_getElem hju)
  rw [show (⟨g, 0, none⟩ : Addr).add j = ⟨g, j, none⟩ by unfold Addr.add; split <;> simp_all] at hc
  rw [List.getElem?_eq_getElem hj, Option.getD_some]
  rw [h1] at hc
  exact ⟨a, cap, hc, ⟨a, cap, pb, po, rfl, h2, h3, h4, h5⟩⟩
set_option maxRecDepth 100000 in
set_option maxHeartbeats 4000000 in
theorem listed_bad (N : Int) (v f : Value) (zs : List Int) (w : World) (hv : Sl w v zs) (hc : (gfault N zs).1 ≠ 0) :
    Calls Tryd.prog 40 #[.agg #[.int .i64 N, v], f] w fun x w' => x = .returned (.tuple #[.slice none 0 0, .agg #[.int .i64 (gfault N zs).1, .int .i64 (gfault N zs).2]]) ∧ Below w.heap.size w w' := by
  obtain ⟨w0, BG⟩ := Beg.new w N v
  have hv0 := hv.below BG.bel
  obtain ⟨c0, c1, _, _⟩ := BG.box.two
  have hck := opened_bad N v zs w0 hv0 hc
  obtain ⟨c, i, hci⟩ : ∃ c i, gfault N zs = (c, i) := ⟨_, _, rfl⟩
  rw [hci] at hck hc ⊢
  simp only at hc hck
  have HCK := hide hck
  clear hck hci
  have hcb : (c != 0) = true := by simpa using hc
  rw [BG.eq] at c0 c1
  go_enter Tryd.func40, Tryd.ntmps40
  go_wp2_with fail
  rw [← BG.eq]
  refine HCK.out.mono ?_
  rintro x w1 ⟨rfl, hb1⟩
  clear c0 c1
  obtain ⟨w2, hw2⟩ : ∃ w2, w2 = (w1.alloc (.cells #[.int .i64 0, .slice none 0 0, .int .i64 0, .slice none 0 0] 50)).alloc (.cells #[.int .i64 c, .int .i64 i] 27) := ⟨_, rfl⟩
  have hB1 : Below w0.heap.size w0 w2 := by rw [hw2]; exact bcat2 hb1 ((balloc w1 _).alloc (by simp) _)
  have hF1 : Blk w2 (w1.heap.size + 1) 27 [.int .i64 c, .int .i64 i] := by
    rw [hw2]
    have := blk0 (w := w1.alloc (.cells #[.int .i64 0, .slice none 0 0, .int .i64 0, .slice none 0 0] 50)) (T := 27) (.int .i64 c) (.int .i64 i)
    rwa [World.size_alloc] at this
  have hR1 := blk_below BG.res hB1
  have hBw := bcat BG.bel hB1 BG.bel.size
  obtain ⟨y0, y1, fy0, fy1⟩ := hR1.two
  obtain ⟨t0, t1, _, _⟩ := hF1.two
  rw [hw2] at t0 t1
  go_wp2_with fail
  rw [← hw2]
  rw [← hw2] at t0 t1
  clear hw2
  go_region
  all_goals (
    go_wp2
    obtain ⟨hR6, hB6⟩ := put2 hR1 hBw (by omega) c i
    have hB7 := bdrew hB6
    have hR7 : Blk ((w2.setCell ⟨w.heap.size + 1, 0, none⟩ (.int .i64 c)).setCell ⟨w.heap.size + 1, 1, none⟩ (.int .i64 i)).drew (w.heap.size + 1) 27 [.int .i64 c, .int .i64 i] := hR6
    generalize ((w2.setCell ⟨w.heap.size + 1, 0, none⟩ (.int .i64 c)).setCell ⟨w.heap.size + 1, 1, none⟩ (.int .i64 i)).drew = W at hR7 hB7 ⊢
    obtain ⟨z0, z1, _, _⟩ := hR7.two
    exact bodyPost_ret (v := .tuple #[.slice none 0 0, .agg #[.int .i64 c, .int .i64 i]]) (by simp [results, Tryd.results40, go_sem, z0, z1]) rfl ⟨rfl, hB7⟩)
/-- What listed answers. -/
def LisA (w' : World) (n : Nat) (nx : (Nat → Bool) → Nat → Bool) (I : (Nat → Bool) → Prop) (M : (Nat → Bool) → Nat) (q0 : Nat → Bool) (x : Value) : Prop := ∃ K g c : Nat, x = .slice (some ⟨g, 0, none⟩) (K + 1) c ∧ Stp n nx I M q0 K ∧ bs (itr nx q0 (K + 1)) n = bs (itr nx q0 K) n ∧ Rws w' g (sls n (itr nx q0) (K + 1)) ∧ SlL w' (.slice (some ⟨g, 0, none⟩) (K + 1) c) (sls n (itr nx q0) (K + 1))
set_option maxRecDepth 100000 in
set_option maxHeartbeats 4000000 in
theorem listed_good (n e k : Nat) (v : Value) (zs : List Int) (nx : (Nat → Bool) → Nat → Bool) (I : (Nat → Bool) → Prop) (M : (Nat → Bool) → Nat) (q0 : Nat → Bool) (w : World) (hv : Sl w v zs) (hg : IsGrp n zs e) (hT : Tab w)
    (hcall : ∀ x W, Sem.run Tryd.prog (callFunc k #[x]) W = .ok (.enter k #[x]) W)
    (hof : ∀ (W : World) (u : Value), Below w.heap.size w W → GA W n v e u zs → Calls Tryd.prog k #[.agg #[.int .i64 n, v, .int .i64 e, u]] W fun x W' => ∃ y, x = .returned y ∧ SerA W W' n nx I M q0 y ∧ Below W.heap.size W W') :
    Calls Tryd.prog 40 #[.agg #[.int .i64 n, v], .func (.func k) #[] #[]] w fun x w' => ∃ y, x = .returned (.tuple #[y, .agg #[.int .i64 0, .int .i64 0]]) ∧ LisA w' n nx I M q0 y ∧ Below w.heap.size w w' := by
  obtain ⟨va, vl, vc, rfl⟩ := hv.isSlice
  obtain ⟨i0, hi, hz0, hz1, hz2⟩ := info_parts info22b
  have HOF := hide hof
  clear hof
  obtain ⟨w0, BG⟩ := Beg.new w n (.slice va vl vc)
  have hv0 := hv.below BG.bel
  obtain ⟨c0, c1, _, _⟩ := BG.box.two
  have HCK := hide (opened_good n e (.slice va vl vc) zs w0 hv0 hg)
  have HZ0 := hide (show w.heap.size + 2 ≤ w0.heap.size by rw [BG.eq]; simp)
  rw [BG.eq] at c0 c1
  go_enter Tryd.func40, Tryd.ntmps40
  go_wp2_with fail
  rw [← BG.eq]
  refine HCK.out.mono ?_
  rintro x w1 ⟨iv9, rfl, hSI, hb1⟩
  obtain ⟨ia, il, ic, rfl⟩ := hSI.sl.isSlice
  clear c0 c1 HCK
  obtain ⟨w2, hw2⟩ : ∃ w2, w2 = (w1.alloc (.cells #[.int .i64 n, (.slice va vl vc), .int .i64 e, (.slice ia il ic)] 50)).alloc (.cells #[.int .i64 0, .int .i64 0] 27) := ⟨_, rfl⟩
  have hb2 : Below w1.heap.size w1 w2 := by rw [hw2]; exact (balloc w1 _).alloc (by simp) _
  have hB1 : Below w0.heap.size w0 w2 := bcat2 hb1 hb2
  have hF1 : Blk w2 (w1.heap.size + 1) 27 [.int .i64 0, .int .i64 0] := by
    rw [hw2]
    have := blk0 (w := w1.alloc (.cells #[.int .i64 n, (.slice va vl vc), .int .i64 e, (.slice ia il ic)] 50)) (T := 27) (.int .i64 0) (.int .i64 0)
    rwa [World.size_alloc] at this
  have hH2 : Blk w2 w1.heap.size 50 [.int .i64 n, (.slice va vl vc), .int .i64 e, (.slice ia il ic)] := by
    rw [hw2]; exact (blk4 _ _ _ _).alloc _
  have hBw2 := bcat BG.bel hB1 BG.bel.size
  have hR2 := blk_below BG.res hB1
  have hT2 := hT.below hBw2
  have hGA2 : GA w2 n (.slice va vl vc) e (.slice ia il ic) zs := ⟨hg, hv.below hBw2, (hSI.below hb2).sl⟩
  obtain ⟨t0, t1, _, _⟩ := hF1.two
  obtain ⟨_, h0, h1, h2, h3, _⟩ := Four.mk' hH2
  have HZ1 := hide (Nat.le_trans HZ0.out hb1.size)
  have HZ2 := hide hb2.size
  rw [hw2] at t0 t1 h0 h1 h2 h3
  have hn := hg.tab.le
  go_wp2_with fail
  rw [← hw2]
  clear hw2 t0 t1 h0 h1 h2 h3
  refine (HOF.out _ _ hBw2 hGA2).mono ?_
  rintro x w3 ⟨y, rfl, ⟨K, g, c, rfl, HST, HEND, hrow3⟩, hb3⟩
  have HS := hide HST
  have HE := hide HEND
  have hBw3 := bcat2 hBw2 hb3
  have hR3 := blk_below hR2 hb3
  have hT3 := hT2.below hb3
  have hK := HST.meas
  have HC3 := hide (fun i (h : i < K + 1) => (show w3.cell? ⟨g, i, none⟩ = some (.int .u64 (bs (itr nx q0 i) n)) by
    have hc := hrow3.cells (g := g) rfl i _ (sets_at h)
    rwa [show (⟨g, 0, none⟩ : Addr).add i = ⟨g, i, none⟩ by unfold Addr.add; split <;> simp_all] at hc))
  clear HST HEND hrow3 HOF hcall
  have HLS := hide (fun W (p : Nat → Bool) (h : Below w3.heap.size w3 W) => list_ok n p W hn (hT3.below h))
  go_wp2_with fail
  go_loopw [8, 24] (fun ls iv wr => ∃ (i : Nat) (a : Option Addr) (cp : Nat) (vs : List Value), i ≤ K + 1 ∧ iv = .int .i64 i ∧ ls = .slice a vs.length cp ∧ wr.ownsRow w3.heap.size 22 1 (.slice a vs.length cp) vs.length vs ∧ Lsts wr w3.heap.size (.slice a vs.length cp) vs (sls n (itr nx q0) i) ∧ Below w3.heap.size w3 wr) (fun _ iv _ => K + 1 - (intOf iv).toNat)
  case atStart => exact ⟨0, none, 0, [], Nat.zero_le _, rfl, rfl, World.ownsRow_nil _ _ _ _, ⟨by simp [sls], fun t x l h1 _ => by simp at h1⟩, Below.refl _ _⟩
  case round =>
    obtain ⟨i, ra, rcap, vs, hiK, rfl, rfl, hrow, hls, hB⟩ := hrel
    have HVL := hide (show vs.length = i by rw [hls.1, sls_len])
    have hv61 : vs.length ≤ 61 := by rw [HVL.out]; omega
    by_cases hlt : i < K + 1
    · have hci := below_cell hB (HC3.out i hlt)
      have HB9 := hide (HLS.out wr (itr nx q0 i) hB)
      have HST := hide (sls_up n (itr nx q0) i)
      have hl60 : (li (lst n (itr nx q0 i))).length ≤ 60 := by rw [li_len]; exact Nat.le_trans (lst_len _ _) hn
      generalize li (lst n (itr nx q0 i)) = lj at *
      generalize bs (itr nx q0 i) n = s9 at *
      have hii : (i : Int) < (K : Int) + 1 := by omega
      go_wp2_with fail
      clear hci
      refine HB9.out.mono ?_
      rintro x w5 ⟨r9, rfl, hr9, hb5⟩
      have hB5 := bcat2 hB hb5
      have hrow5 := own_keep2 hrow (fun g _ h2 => hb5.block g h2)
      have hls5 : Lsts w5 w3.heap.size (.slice ra vs.length rcap) vs (sls n (itr nx q0) i) := hls.keep hb5.size (fun g _ h2 _ => hb5.block g h2) (.inl rfl)
      have hown2 : ∀ g, (Value.slice ra vs.length rcap).ownBlock = some g → g < wr.heap.size := fun g hg => (hrow.lt g hg).2
      obtain ⟨qa, qcap, qb, qo, rfl, hq, hq1, hq2, hq3, hq4⟩ := hr9
      have hs5 := hb5.size
      have hs3 := hB.size
      have HQ := hide hq
      clear hrow hls hb5 hq hB
      go_wp2_with (first
        | (at_builtin; refine wpList_append_own_at _ rfl _ _ 33 rfl w3.heap.size 22 i0 (.slice none 0 0) 1 24 und38s hi hz0 hz1 hz2 rfl (by decide) _ _ _ rfl (World.ownsRow.alloc hrow5 _) ⟨w5.heap.size, 0, none⟩ 1 1 [.slice qa lj.length qcap] rfl rfl ?c1 ?c2 ?c3 ?c4 ?c5 ?_))
      case c1 => exact cell_one_new _ _ _
      case c2 => simp [Value.oneCell']
      case c3 => unfold maxLen; omega
      case c4 => omega
      case c5 => simp; omega
      intro v' w8 hown' hgrow hnil hloc
      obtain ⟨ra', rcap', rfl⟩ := own_slice' hown'
      have hB8 : Below w3.heap.size w3 w8 := (hB5.alloc (by omega) _).grown hgrow (by simp; omega) (fun t e => by have := owns_ge hrow5 t e; omega)
      have hbl : ∀ g, g < w5.heap.size → (Value.slice ra vs.length rcap).ownBlock ≠ some g → w8.heap[g]? = w5.heap[g]? := fun g h1 h2 => (hgrow.block g (by simp; omega) (fun e => h2 e.symm)).trans (Below.block (balloc w5 _) g h1)
      have hs8 : w5.heap.size < w8.heap.size := by have := hgrow.size; simp at this; omega
      have hlo : (Value.slice ra' (vs.length + 1) rcap').ownBlock = (Value.slice ra vs.length rcap).ownBlock ∨ ∀ g, (Value.slice ra' (vs.length + 1) rcap').ownBlock = some g → w5.heap.size ≤ g := by
        rcases hloc with h | h
        · exact .inl h
        · right; intro g hg; rw [h] at hg; simp at hg; omega
      have hls8 := (hls5.keep (r' := .slice ra' (vs.length + 1) rcap') (by omega) (fun g _ h2 h3 => hbl g h2 h3) hlo).snoc (x := .slice qa lj.length qcap) (l := lj) ⟨qa, qcap, qb, qo, rfl, HQ.out.of_eq (hbl qb hq1 (fun e => by have := hown2 _ e; omega)), by omega, hq2, hq3, by omega, fun g hg e => by
        subst e
        rcases hlo with h | h
        · have := hown2 _ (h ▸ hg); omega
        · have := h _ hg; omega⟩
      have hrow8 : w8.ownsRow w3.heap.size 22 1 (.slice ra' (vs ++ [Value.slice qa lj.length qcap]).length rcap') (vs ++ [Value.slice qa lj.length qcap]).length (vs ++ [Value.slice qa lj.length qcap]) := by simpa using hown'
      have hls9 : Lsts w8 w3.heap.size (.slice ra' (vs ++ [Value.slice qa lj.length qcap]).length rcap') (vs ++ [Value.slice qa lj.length qcap]) (sls n (itr nx q0) (i + 1)) := by
        rw [HST.out]
        simpa using hls8
      clear hown' hgrow hloc hlo hbl hrow5 hls5 hB5 hls8
      go_wp2
      go_roundw
      case rel => exact ⟨i + 1, ra', rcap', _, by omega, by go_num, by simp, hrow8, hls9, hB8⟩
      case measure => simp [intOf]; omega
    · have hik : i = K + 1 := by omega
      subst hik
      have hii : ¬ (((K + 1 : Nat) : Int) < (K : Int) + 1) := by omega
      obtain ⟨g9, rfl⟩ : ∃ g9, ra = some ⟨g9, 0, none⟩ := by
        rcases hrow.2 with ⟨h1, h2⟩ | ⟨g', cap, cur, h1, _⟩
        · have := HVL.out; omega
        · injection h1 with h1; exact ⟨g', h1⟩
      have HRW := hide (Rws.of_own hrow hls)
      have HSL := hide (SlL.of_own hrow hls (Nat.lt_of_lt_of_le hT3.lt hB.size))
      rw [HVL.out] at HSL
      rw [HVL.out]
      have hBz := bcat2 hBw3 hB
      obtain ⟨_, y0, y1, fy0, fy1, s0, s1⟩ := Two.mk' (blk_below hR3 hB)
      clear hrow hls
      go_wp2
      exact bodyPost_ret (v := .tuple #[.slice (some ⟨g9, 0, none⟩) (K + 1) rcap, .agg #[.int .i64 0, .int .i64 0]]) (by simp [results, Tryd.results40, go_sem, y0, y1]) rfl ⟨_, rfl, ⟨K, g9, rcap, rfl, HS.out, HE.out, HRW.out, HSL.out⟩, hBz⟩
end Go.Proofs.YtjiapicknkjhmaaDoor

namespace Go.Proofs.YtjiapicknkjhmaaDoor
open Go Go.RowKit

theorem LisA.below {w w' : World} {n : Nat} {nx : (Nat → Bool) → Nat → Bool} {I : (Nat → Bool) → Prop} {M : (Nat → Bool) → Nat} {q0 : Nat → Bool} {y : Value} (h : LisA w n nx I M q0 y) (hb : Below w.heap.size w w') : LisA w' n nx I M q0 y := by
  obtain ⟨K, g, c, h1, h2, h3, h4, h5⟩ := h
  exact ⟨K, g, c, h1, h2, h3, h4.below hb, h5.below hb⟩
theorem call76 (x : Value) (W : World) : Sem.run Tryd.prog (callFunc 77 #[x]) W = .ok (.enter 77 #[x]) W := by kernel_rfl
set_option maxRecDepth 100000 in
set_option maxHeartbeats 2000000 in
theorem sder_bad (N : Int) (v : Value) (zs : List Int) (w : World) (hv : Sl w v zs) (hc : (gfault N zs).1 ≠ 0) :
    Calls Tryd.prog 46 #[.agg #[.int .i64 N, v]] w fun x w' => x = .returned (.tuple #[.slice none 0 0, .agg #[.int .i64 (gfault N zs).1, .int .i64 (gfault N zs).2]]) ∧ Below w.heap.size w w' := by
  obtain ⟨w0, BG⟩ := Beg.new w N v
  obtain ⟨c0, c1, _, _⟩ := BG.box.two
  have hck := fun f => listed_bad N v f zs w0 (hv.below BG.bel) hc
  obtain ⟨c, i, hci⟩ : ∃ c i, gfault N zs = (c, i) := ⟨_, _, rfl⟩
  rw [hci] at hck hc ⊢
  simp only at hc hck
  have HCK := hide hck
  clear hck hci
  rw [BG.eq] at c0 c1
  go_enter Tryd.func46, Tryd.ntmps46
  go_wp2_with fail
  rw [← BG.eq]
  refine (HCK.out _).mono ?_
  rintro x w1 ⟨rfl, hb1⟩
  clear c0 c1
  have hR1 := blk_below BG.res hb1
  have hBw := bcat BG.bel hb1 BG.bel.size
  obtain ⟨y0, y1, fy0, fy1⟩ := hR1.two
  obtain ⟨hR6, hB6⟩ := put2 hR1 hBw (by omega) c i
  obtain ⟨z0, z1, _, _⟩ := hR6.two
  go_wp2
  exact bodyPost_ret (v := .tuple #[.slice none 0 0, .agg #[.int .i64 c, .int .i64 i]]) (by simp [results, Tryd.results46, go_sem, z0, z1]) rfl ⟨rfl, hB6⟩
set_option maxRecDepth 100000 in
set_option maxHeartbeats 2000000 in
theorem sder_good (n e : Nat) (v : Value) (zs : List Int) (w : World) (hv : Sl w v zs) (hg : IsGrp n zs e) (hT : Tab w) :
    Calls Tryd.prog 46 #[.agg #[.int .i64 n, v]] w fun x w' => ∃ y, x = .returned (.tuple #[y, .agg #[.int .i64 0, .int .i64 0]]) ∧ LisA w' n (fun q => cmb n zs e q q) (fun q => Fin.Sg (List.range n) (tm n zs) e (fun a => q a = true)) (fun q => (lst n q).length) (fun _ => true) y ∧ Below w.heap.size w w' := by
  obtain ⟨w0, BG⟩ := Beg.new w n v
  obtain ⟨c0, c1, _, _⟩ := BG.box.two
  have HCK := hide (listed_good n e 77 v zs (fun q => cmb n zs e q q) (fun q => Fin.Sg (List.range n) (tm n zs) e (fun a => q a = true)) (fun q => (lst n q).length) (fun _ => true) w0 (hv.below BG.bel) hg (hT.below BG.bel) (fun x W => call76 x W) (fun W u h hG => derived_ok n v u zs e W hG ((hT.below BG.bel).below h)))
  rw [BG.eq] at c0 c1
  go_enter Tryd.func46, Tryd.ntmps46
  go_wp2_with fail
  rw [← BG.eq]
  refine HCK.out.mono ?_
  rintro x w1 ⟨y, rfl, hl, hb1⟩
  clear c0 c1
  have hR1 := blk_below BG.res hb1
  have hBw := bcat BG.bel hb1 BG.bel.size
  obtain ⟨_, y0, y1, fy0, fy1, s0, s1⟩ := Two.mk' hR1
  go_wp2
  exact bodyPost_ret (v := .tuple #[y, .agg #[.int .i64 0, .int .i64 0]]) (by simp [results, Tryd.results46, go_sem, y0, y1]) rfl ⟨y, rfl, hl, hBw⟩
end Go.Proofs.YtjiapicknkjhmaaDoor

namespace Go.Proofs.YtjiapicknkjhmaaDoor
open Go Go.RowKit

/-- How the lower series goes, and whether it ends with the one. -/
def NilA (n : Nat) (zs : List Int) (e : Nat) (b : Bool) : Prop := ∃ K : Nat, Stp n (fun q => cmb n zs e q fun _ => true) (Nsg n zs e) (fun q => (lst n q).length) (fun _ => true) K ∧ bs (itr (fun q => cmb n zs e q fun _ => true) (fun _ => true) (K + 1)) n = bs (itr (fun q => cmb n zs e q fun _ => true) (fun _ => true) K) n ∧ (b = true ↔ (lst n (itr (fun q => cmb n zs e q fun _ => true) (fun _ => true) K)).length = 1)
/-- The square's commutators. -/
theorem sq_cm : ∀ a, a < 8 → ∀ b, b < 8 → Fin.cm (tm 8 sqT) (iv 8 sqT 0) a b = 0 ∨ Fin.cm (tm 8 sqT) (iv 8 sqT 0) a b = 2 := by decide +kernel
theorem sq_cm2 : ∃ a, a < 8 ∧ ∃ b, b < 8 ∧ Fin.cm (tm 8 sqT) (iv 8 sqT 0) a b = 2 := by decide +kernel
theorem sq_cm3 : ∀ a, a < 8 → ∀ b, b < 8 → (a = 0 ∨ a = 2) → (b = 0 ∨ b = 2) → Fin.cm (tm 8 sqT) (iv 8 sqT 0) a b = 0 := by decide +kernel
theorem sq_sg : ∀ a, a < 8 → ∀ b, b < 8 → (a = 0 ∨ a = 2) → (b = 0 ∨ b = 2) → (tm 8 sqT a b = 0 ∨ tm 8 sqT a b = 2) := by decide +kernel
theorem sq_one : tm 8 sqT 0 0 = 0 := by decide +kernel
theorem sq_d1 {x : Nat} (hx : x < 8) : cmb 8 sqT 0 (fun _ => true) (fun _ => true) x = true ↔ (x = 0 ∨ x = 2) := by
  constructor
  · exact fun h => cmb_in (P := fun x => x = 0 ∨ x = 2) ⟨.inl rfl, fun a b ha hb h1 h2 => sq_sg a (List.mem_range.1 ha) b (List.mem_range.1 hb) h1 h2⟩ (fun a b ha hb _ _ => sq_cm a ha b hb) hx h
  · rintro (rfl | rfl)
    · exact (cmb_sg sqT_grp).one
    · obtain ⟨a, ha, b, hb, h⟩ := sq_cm2
      have := cmb_base (q := fun _ => true) (r := fun _ => true) sqT_grp ha hb rfl rfl
      rwa [h] at this
theorem sq_d2 {q : Nat → Bool} (hq : ∀ x, x < 8 → q x = true → (x = 0 ∨ x = 2)) {x : Nat} (hx : x < 8) : cmb 8 sqT 0 q q x = true ↔ x = 0 := by
  constructor
  · exact fun h => cmb_in (P := fun x => x = 0) ⟨rfl, fun a b _ _ h1 h2 => by rw [h1, h2]; exact sq_one⟩ (fun a b ha hb h1 h2 => sq_cm3 a ha b hb (hq a ha h1) (hq b hb h2)) hx h
  · rintro rfl
    exact (cmb_sg sqT_grp).one
theorem sq_series {I : (Nat → Bool) → Prop} {M : (Nat → Bool) → Nat} {K : Nat} (h : Stp 8 (fun q => cmb 8 sqT 0 q q) I M (fun _ => true) K) (hend : bs (itr (fun q => cmb 8 sqT 0 q q) (fun _ => true) (K + 1)) 8 = bs (itr (fun q => cmb 8 sqT 0 q q) (fun _ => true) K) 8) : K = 2 ∧ li (lst 8 (itr (fun q => cmb 8 sqT 0 q q) (fun _ => true) 1)) = [0, 2] := by
  have d1 : ∀ x, x < 8 → (itr (fun q => cmb 8 sqT 0 q q) (fun _ => true) 1 x = true ↔ (x = 0 ∨ x = 2)) := fun x hx => sq_d1 hx
  have d2 : ∀ x, x < 8 → (itr (fun q => cmb 8 sqT 0 q q) (fun _ => true) 2 x = true ↔ x = 0) := fun x hx => sq_d2 (fun x hx h => (d1 x hx).1 h) hx
  have d3 : ∀ x, x < 8 → (itr (fun q => cmb 8 sqT 0 q q) (fun _ => true) 3 x = true ↔ x = 0) := fun x hx => sq_d2 (fun x hx h => .inl ((d2 x hx).1 h)) hx
  refine ⟨?_, ?_⟩
  · match K, h, hend with
    | 0, _, hend =>
      have := bs_inj hend 1 (by omega)
      have h1 : itr (fun q => cmb 8 sqT 0 q q) (fun _ => true) 1 1 = true := this
      have := (d1 1 (by omega)).1 h1
      omega
    | 1, _, hend =>
      have h1 : itr (fun q => cmb 8 sqT 0 q q) (fun _ => true) 2 2 = itr (fun q => cmb 8 sqT 0 q q) (fun _ => true) 1 2 := bs_inj hend 2 (by omega)
      rw [(d1 2 (by omega)).2 (.inr rfl)] at h1
      have := (d2 2 (by omega)).1 h1
      omega
    | 2, _, _ => rfl
    | K + 3, h, _ =>
      exact absurd (bs_ext fun x hx => by rw [Bool.eq_iff_iff, d3 x hx, d2 x hx]) (h.go 2 (by omega))
  · rw [lst_congr (q := fun x => decide (x = 0 ∨ x = 2)) fun x hx => by rw [Bool.eq_iff_iff, d1 x hx, decide_eq_true_eq]]
    decide
set_option maxRecDepth 100000 in
set_option maxHeartbeats 2000000 in
theorem seriesBegun_any (w : World) (hT : Tab w) : Calls Tryd.prog 19 #[] w fun x w' => x = .returned (.bool true) ∧ Below w.heap.size w w' := by
  go_enter Tryd.func19, Tryd.ntmps19
  go_wp2_with fail
  refine (square_ok w).mono ?_
  rintro x w1 ⟨r, rfl, hrow, hb1⟩
  have h01 : 0 < w1.heap.size := Nat.lt_of_lt_of_le hT.lt hb1.size
  go_wp2_with fail
  refine (sder_good 8 0 r sqT w1 (row_sl hrow h01) sqT_grp (hT.below hb1)).mono ?_
  rintro x w2 ⟨y, rfl, ⟨K, g, c, rfl, hst, hend, hR, _⟩, hb2⟩
  obtain ⟨rfl, h02⟩ := sq_series hst hend
  have hs1 := sls_at (n := 8) (f := itr (fun q => cmb 8 sqT 0 q q) (fun _ => true)) (k := 3) (i := 1) (by omega)
  rw [h02] at hs1
  obtain ⟨a, cp, hc, hS⟩ := hR 1 (by rw [sls_len]; omega)
  rw [hs1] at hc hS
  clear hst hend hR h02 hs1
  have hb3 := balloc w2 (.cells #[.int .i64 0, .int .i64 0] 27)
  have hF3 := blk0 (w := w2) (T := 27) (.int .i64 0) (.int .i64 0)
  obtain ⟨t0, t1, _, _⟩ := hF3.two
  have hc3 := below_cell hb3 hc
  have hb4 : Below w2.heap.size w2 ((w2.alloc (.cells #[.int .i64 0, .int .i64 0] 27)).alloc (.cells #[.int .i64 0, .int .i64 2] 3)) := hb3.alloc hb3.size _
  have hL4 : Blk ((w2.alloc (.cells #[.int .i64 0, .int .i64 0] 27)).alloc (.cells #[.int .i64 0, .int .i64 2] 3)) (w2.heap.size + 1) 3 (([0, 2] : List Int).map (Value.int .i64)) := by
    have := blk0 (w := w2.alloc (.cells #[.int .i64 0, .int .i64 0] 27)) (T := 3) (.int .i64 0) (.int .i64 2)
    rwa [World.size_alloc] at this
  have hS4 := Sl.of_blk (n := 2) hL4 rfl (by simp)
  go_wp2_with fail
  generalize (w2.alloc (.cells #[.int .i64 0, .int .i64 0] 27)).alloc (.cells #[.int .i64 0, .int .i64 2] 3) = w4 at *
  refine (ints_any _ _ [0, 2] [0, 2] w4 (hS.below hb4) hS4).mono ?_
  rintro x w5 ⟨rfl, hb5⟩
  rw [show decide (([0, 2] : List Int) = ([0, 2] : List Int)) = true from rfl]
  go_wp2
  go_ret
  exact ⟨rfl, bcat2 (bcat2 (bcat2 hb1 hb2) hb4) hb5⟩
end Go.Proofs.YtjiapicknkjhmaaDoor

namespace Go.Proofs.YtjiapicknkjhmaaDoor.Fin
variable {l : List Nat} {m : Nat → Nat → Nat} {e : Nat} {iv : Nat → Nat}

abbrev SgB (l : List Nat) (m : Nat → Nat → Nat) (e : Nat) (q : Nat → Bool) : Prop := Sg l m e (fun a => q a = true)
/-- Is what the first has in the second? -/
def In (l : List Nat) (p q : Nat → Bool) : Prop := ∀ x, x ∈ l → p x = true → q x = true
/-- How many things. -/
def sz (l : List Nat) (q : Nat → Bool) : Nat := (l.filter q).length
/-- Conjugated by the second, the first stays. -/
def Nb (l : List Nat) (m : Nat → Nat → Nat) (iv : Nat → Nat) (C A : Nat → Bool) : Prop := ∀ x a, x ∈ l → a ∈ l → C x = true → A a = true → C (cj m iv x a) = true
theorem In.refl (p : Nat → Bool) : In l p p := fun _ _ h => h
theorem In.trans {p q r : Nat → Bool} (h1 : In l p q) (h2 : In l q r) : In l p r := fun x hx h => h2 x hx (h1 x hx h)
theorem in_filter {p q : Nat → Bool} (h : In l p q) : l.filter p = (l.filter q).filter p := by
  rw [List.filter_filter]
  apply filter_eq
  intro x hx
  cases hpx : p x with
  | false => simp
  | true => simp [h x hx hpx]
theorem sz_le {p q : Nat → Bool} (h : In l p q) : sz l p ≤ sz l q := by
  unfold sz
  rw [in_filter h]
  exact List.length_filter_le _ _
theorem sz_lt {p q : Nat → Bool} (h : In l p q) (hx : ∃ x, x ∈ l ∧ q x = true ∧ ¬ p x = true) : sz l p < sz l q := by
  obtain ⟨x, hx, h1, h2⟩ := hx
  unfold sz
  rw [in_filter h]
  exact List.length_filter_lt_length_iff_exists.2 ⟨x, List.mem_filter.2 ⟨hx, h1⟩, h2⟩
theorem sz_same {p q : Nat → Bool} (h : In l p q) (h' : In l q p) : sz l p = sz l q := Nat.le_antisymm (sz_le h) (sz_le h')
theorem in_of_sz {p q : Nat → Bool} (h : In l p q) (h1 : sz l p = sz l q) : In l q p := fun x hx hq => Classical.byContradiction fun hn => by
  have := sz_lt h ⟨x, hx, hq, hn⟩
  omega
theorem sz_dvd (F : Fg l m e) {p q : Nat → Bool} (S : SgB l m e p) (T : SgB l m e q) (h : In l p q) : sz l p ∣ sz l q :=
  lagr (sg_fg F T) (sg_fg F S) (fun x hx => by
    obtain ⟨h1, h2⟩ := List.mem_filter.1 hx
    exact List.mem_filter.2 ⟨h1, h x h1 h2⟩)
theorem sz_pos (F : Fg l m e) {p : Nat → Bool} (S : SgB l m e p) : 0 < sz l p := List.length_pos_of_mem (List.mem_filter.2 ⟨F.one, S.one⟩)
theorem sz_one (F : Fg l m e) {p : Nat → Bool} (S : SgB l m e p) : sz l p = 1 ↔ ∀ x, x ∈ l → p x = true → x = e := by
  constructor
  · intro h x hx hp
    obtain ⟨y, hy⟩ := List.length_eq_one_iff.1 h
    have h1 : x ∈ l.filter p := List.mem_filter.2 ⟨hx, hp⟩
    have h2 : e ∈ l.filter p := List.mem_filter.2 ⟨F.one, S.one⟩
    rw [hy, List.mem_singleton] at h1 h2
    rw [h1, h2]
  · intro h
    refine Nat.le_antisymm ?_ (sz_pos F S)
    exact nodup_len (l.filter p) [e] (F.nd.filter _) (fun z hz => by
      obtain ⟨h1, h2⟩ := List.mem_filter.1 hz
      simp [h z h1 h2])

/-- The products of two sets. -/
def prq (l : List Nat) (m : Nat → Nat → Nat) (p q : Nat → Bool) (x : Nat) : Bool := l.any fun a => p a && l.any fun b => q b && decide (m a b = x)
theorem prq_iff {p q : Nat → Bool} {x : Nat} : prq l m p q x = true ↔ ∃ a b, a ∈ l ∧ b ∈ l ∧ p a = true ∧ q b = true ∧ m a b = x := by
  unfold prq
  simp only [List.any_eq_true, Bool.and_eq_true, decide_eq_true_eq]
  exact ⟨fun ⟨a, h1, h2, b, h3, h4, h5⟩ => ⟨a, b, h1, h3, h2, h4, h5⟩, fun ⟨a, b, h1, h3, h2, h4, h5⟩ => ⟨a, h1, h2, b, h3, h4, h5⟩⟩
theorem prq_sg (F : Fg l m e) (V : Iv l m e iv) {p q : Nat → Bool} (S : SgB l m e p) (T : SgB l m e q) (hN : Nb l m iv q p) : SgB l m e (prq l m p q) := by
  refine ⟨prq_iff.2 ⟨e, e, F.one, F.one, S.one, T.one, F.left e F.one⟩, fun x y _ _ hx hy => ?_⟩
  obtain ⟨a, b, ha, hb, h1, h2, rfl⟩ := prq_iff.1 hx
  obtain ⟨c, d, hc, hd, h3, h4, rfl⟩ := prq_iff.1 hy
  have hj := cj_mem F V hb hc
  refine prq_iff.2 ⟨m a c, m (cj m iv b c) d, F.cl _ _ ha hc, F.cl _ _ hj hd, S.mul _ _ ha hc h1 h3, T.mul _ _ hj hd (hN b c hb hc h2 h3) h4, ?_⟩
  rw [F.ass a c _ ha hc (F.cl _ _ hj hd), ← F.ass c _ d hc hj hd, cj_eq F V hb hc, F.ass b c d hb hc hd, F.ass a b _ ha hb (F.cl _ _ hc hd)]
theorem prq_left (F : Fg l m e) {p q : Nat → Bool} (T : SgB l m e q) : In l p (prq l m p q) := fun x hx h => prq_iff.2 ⟨x, e, hx, F.one, h, T.one, F.right x hx⟩
theorem prq_right (F : Fg l m e) {p q : Nat → Bool} (S : SgB l m e p) : In l q (prq l m p q) := fun x hx h => prq_iff.2 ⟨e, x, F.one, hx, S.one, h, F.left x hx⟩
theorem prq_in {p q r : Nat → Bool} (T : SgB l m e r) (h1 : In l p r) (h2 : In l q r) : In l (prq l m p q) r := fun _ _ h => by
  obtain ⟨a, b, ha, hb, h3, h4, rfl⟩ := prq_iff.1 h
  exact T.mul a b ha hb (h1 a ha h3) (h2 b hb h4)
theorem prq_nb (F : Fg l m e) (V : Iv l m e iv) {p q A : Nat → Bool} (h1 : Nb l m iv p A) (h2 : Nb l m iv q A) : Nb l m iv (prq l m p q) A := fun _ c _ hc hx hA => by
  obtain ⟨a, b, ha, hb, h3, h4, rfl⟩ := prq_iff.1 hx
  exact prq_iff.2 ⟨cj m iv a c, cj m iv b c, cj_mem F V ha hc, cj_mem F V hb hc, h1 a c ha hc h3 hA, h2 b c hb hc h4 hA, (cj_mul F V ha hb hc).symm⟩
theorem nb_own (F : Fg l m e) (V : Iv l m e iv) {p : Nat → Bool} (S : SgB l m e p) : Nb l m iv p p := fun _ a hx ha h1 h2 =>
  S.mul _ _ (V a ha).1 (F.cl _ _ hx ha) (S.inv F ha (V a ha).1 (V a ha).2.1 h2) (S.mul _ _ hx ha h1 h2)
theorem Nb.less {p A B : Nat → Bool} (h : Nb l m iv p A) (hB : In l B A) : Nb l m iv p B := fun x a hx ha h1 h2 => h x a hx ha h1 (hB a ha h2)
/-- x, conjugated by c, is x times something that c makes with its conjugates by x. -/
theorem cj_split (F : Fg l m e) (V : Iv l m e iv) {x c : Nat} (hx : x ∈ l) (hc : c ∈ l) : m x (m (cj m iv (iv c) x) c) = cj m iv x c := by
  have hi := (V c hc).1
  have hj := (V x hx).1
  have h1 := cj_mem F V hi hx
  rw [← F.ass x _ c hx h1 hc, cj_eq F V hi hx]
  unfold cj
  rw [F.ass _ x c hi hx hc]

/-- The second one is a greatest normal subgroup of the first one. -/
structure Mxn (l : List Nat) (m : Nat → Nat → Nat) (e : Nat) (iv : Nat → Nat) (A B : Nat → Bool) : Prop where
  sg : SgB l m e B
  sub : In l B A
  nm : Nb l m iv B A
  less : ∃ x, x ∈ l ∧ A x = true ∧ ¬ B x = true
  top : ∀ C : Nat → Bool, SgB l m e C → In l B C → In l C A → Nb l m iv C A → In l C B ∨ In l A C
theorem Mxn.congr {A A' B B' : Nat → Bool} (h : Mxn l m e iv A B) (h1 : ∀ x, x ∈ l → A x = A' x) (h2 : ∀ x, x ∈ l → B x = B' x) (F : Fg l m e) (V : Iv l m e iv) : Mxn l m e iv A' B' where
  sg := ⟨by show B' e = true; rw [← h2 e F.one]; exact h.sg.one, fun a b ha hb h3 h4 => by
    show B' _ = true
    rw [← h2 _ (F.cl _ _ ha hb)]
    exact h.sg.mul a b ha hb (by rw [h2 a ha]; exact h3) (by rw [h2 b hb]; exact h4)⟩
  sub := fun x hx h3 => by rw [← h1 x hx]; exact h.sub x hx (by rw [h2 x hx]; exact h3)
  nm := fun x a hx ha h3 h4 => by rw [← h2 _ (cj_mem F V hx ha)]; exact h.nm x a hx ha (by rw [h2 x hx]; exact h3) (by rw [h1 a ha]; exact h4)
  less := by
    obtain ⟨x, hx, h3, h4⟩ := h.less
    exact ⟨x, hx, by rw [← h1 x hx]; exact h3, by rw [← h2 x hx]; exact h4⟩
  top := fun C hC h3 h4 h5 => by
    rcases h.top C hC (fun x hx h6 => h3 x hx (by rw [← h2 x hx]; exact h6)) (fun x hx h6 => by rw [h1 x hx]; exact h4 x hx h6) (fun x a hx ha h6 h7 => h5 x a hx ha h6 (by rw [← h1 a ha]; exact h7)) with h6 | h6
    · exact .inl fun x hx h7 => by rw [← h2 x hx]; exact h6 x hx h7
    · exact .inr fun x hx h7 => h6 x hx (by rw [h1 x hx]; exact h7)
theorem mxn_over (F : Fg l m e) (V : Iv l m e iv) {A : Nat → Bool} : ∀ (k : Nat) (p : Nat → Bool), SgB l m e p → In l p A → Nb l m iv p A → (∃ x, x ∈ l ∧ A x = true ∧ ¬ p x = true) → sz l A - sz l p ≤ k → ∃ B, Mxn l m e iv A B ∧ In l p B
  | 0, p, _, hin, _, hl, hk => by
    have := sz_lt hin hl
    omega
  | k + 1, p, S, hin, hN, hl, hk => by
    rcases Classical.em (∃ C : Nat → Bool, SgB l m e C ∧ In l p C ∧ In l C A ∧ Nb l m iv C A ∧ (∃ x, x ∈ l ∧ C x = true ∧ ¬ p x = true) ∧ ∃ x, x ∈ l ∧ A x = true ∧ ¬ C x = true) with ⟨C, h1, h2, h3, h4, h5, h6⟩ | hno
    · have h7 := sz_lt h2 h5
      have h8 := sz_lt h3 h6
      obtain ⟨B, h9, h10⟩ := mxn_over F V k C h1 h3 h4 h6 (by omega)
      exact ⟨B, h9, h2.trans h10⟩
    · refine ⟨p, ⟨S, hin, hN, hl, fun C h1 h2 h3 h4 => ?_⟩, In.refl p⟩
      rcases Classical.em (In l C p) with h5 | h5
      · exact .inl h5
      · refine .inr fun x hx hA => Classical.byContradiction fun hn => hno ⟨C, h1, h2, h3, h4, ?_, x, hx, hA, hn⟩
        exact Classical.byContradiction fun h6 => h5 fun y hy hC => Classical.byContradiction fun h7 => h6 ⟨y, hy, hC, h7⟩

/-- A composition series, from the first one on to the one alone. -/
def Cs (l : List Nat) (m : Nat → Nat → Nat) (e : Nat) (iv : Nat → Nat) : (Nat → Bool) → List (Nat → Bool) → Prop
  | A, [] => ∀ x, x ∈ l → A x = true → x = e
  | A, B :: t => Mxn l m e iv A B ∧ Cs l m e iv B t
/-- Its factors. -/
def facs (l : List Nat) : (Nat → Bool) → List (Nat → Bool) → List Nat
  | _, [] => []
  | A, B :: t => sz l A / sz l B :: facs l B t
theorem Cs.congr (F : Fg l m e) (V : Iv l m e iv) {A A' : Nat → Bool} (hA : ∀ x, x ∈ l → A x = A' x) : ∀ {s : List (Nat → Bool)}, Cs l m e iv A s → Cs l m e iv A' s
  | [], h => fun x hx h1 => h x hx (by rw [hA x hx]; exact h1)
  | _ :: _, h => ⟨h.1.congr hA (fun _ _ => rfl) F V, h.2⟩
theorem facs_congr {A A' : Nat → Bool} (h : sz l A = sz l A') : ∀ s, facs l A s = facs l A' s
  | [] => rfl
  | B :: t => by show sz l A / sz l B :: _ = sz l A' / sz l B :: _; rw [h]
theorem one_sgb (F : Fg l m e) : SgB l m e (fun a => decide (a = e)) := ⟨by simp, fun a b _ _ h1 h2 => by
  simp only [decide_eq_true_eq] at h1 h2 ⊢
  rw [h1, h2, F.left e F.one]⟩
theorem cs_exists (F : Fg l m e) (V : Iv l m e iv) : ∀ (k : Nat) (A : Nat → Bool), SgB l m e A → sz l A ≤ k → ∃ s, Cs l m e iv A s
  | 0, A, S, hk => by have := sz_pos F S; omega
  | k + 1, A, S, hk => by
    rcases Classical.em (∀ x, x ∈ l → A x = true → x = e) with h | h
    · exact ⟨[], h⟩
    · obtain ⟨B, hB, _⟩ := mxn_over F V (A := A) (sz l A) (fun a => decide (a = e)) (one_sgb F) (fun x _ hx => by rw [decide_eq_true_eq] at hx; rw [hx]; exact S.one)
        (fun x a _ ha hx _ => by rw [decide_eq_true_eq] at hx; rw [hx, cj_one F V ha]; simp)
        (Classical.byContradiction fun h1 => h fun x hx hA => Classical.byContradiction fun h2 => h1 ⟨x, hx, hA, by simpa using h2⟩) (by omega)
      have h1 := sz_lt hB.sub hB.less
      obtain ⟨s, hs⟩ := cs_exists F V k B hB.sg (by omega)
      exact ⟨B :: s, hB, hs⟩

/-- Two greatest normal subgroups: what both have is one of each. -/
theorem mxn_both (F : Fg l m e) (V : Iv l m e iv) {N : Nat} (hl : ∀ x, x ∈ l → x < N) {A B C : Nat → Bool} (SA : SgB l m e A) (hB : Mxn l m e iv A B) (hC : Mxn l m e iv A C) (hne : ¬ (In l B C ∧ In l C B)) :
    Mxn l m e iv B (fun x => B x && C x) ∧ sz l A * sz l (fun x => B x && C x) = sz l B * sz l C := by
  have hBC : ¬ In l B C := fun h => by
    rcases hB.top C hC.sg h hC.sub hC.nm with h1 | h1
    · exact hne ⟨h, h1⟩
    · obtain ⟨x, hx, h2, h3⟩ := hC.less
      exact h3 (h1 x hx h2)
  have hCB : ¬ In l C B := fun h => by
    rcases hC.top B hB.sg h hB.sub hB.nm with h1 | h1
    · exact hne ⟨h1, h⟩
    · obtain ⟨x, hx, h2, h3⟩ := hB.less
      exact h3 (h1 x hx h2)
  have hall : In l A (prq l m B C) := by
    rcases hB.top _ (prq_sg F V hB.sg hC.sg (hC.nm.less hB.sub)) (prq_left F hC.sg) (prq_in SA hB.sub hC.sub) (prq_nb F V hB.nm hC.nm) with h | h
    · exact absurd ((prq_right F hB.sg).trans h) hCB
    · exact h
  have SD : SgB l m e (fun x => B x && C x) := ⟨by simp [hB.sg.one, hC.sg.one], fun a b ha hb h1 h2 => by
    simp only [Bool.and_eq_true] at h1 h2 ⊢
    exact ⟨hB.sg.mul a b ha hb h1.1 h2.1, hC.sg.mul a b ha hb h1.2 h2.2⟩⟩
  refine ⟨⟨SD, fun x _ h => by simp only [Bool.and_eq_true] at h; exact h.1, fun x a hx ha h1 h2 => ?_, ?_, fun E hE h1 h2 h3 => ?_⟩, ?_⟩
  · simp only [Bool.and_eq_true] at h1 ⊢
    exact ⟨nb_own F V hB.sg x a hx ha h1.1 h2, hC.nm x a hx ha h1.2 (hB.sub a ha h2)⟩
  · exact Classical.byContradiction fun h => hBC fun x hx h1 => Classical.byContradiction fun h2 => h ⟨x, hx, h1, by simp [h1, h2]⟩
  · have hEA := h2.trans hB.sub
    have hnb : Nb l m iv (prq l m E C) A := fun x a hx ha h4 h5 => by
      obtain ⟨y, c, hy, hc, h6, h7, rfl⟩ := prq_iff.1 h4
      obtain ⟨b, d, hb, hd, h8, h9, rfl⟩ := prq_iff.1 (hall a ha h5)
      have hy1 := cj_mem F V hy hb
      have e1 := h3 y b hy hb h6 h8
      have hi := (V d hd).1
      have hk := cj_mem F V hi hy1
      have hCk : C (cj m iv (iv d) (cj m iv y b)) = true := hC.nm _ _ hi hy1 (hC.sg.inv F hd hi (V d hd).2.1 h9) (hEA _ hy1 e1)
      have hcj := cj_mem F V hc ha
      refine prq_iff.2 ⟨cj m iv y b, m (m (cj m iv (iv d) (cj m iv y b)) d) (cj m iv c (m b d)), hy1, F.cl _ _ (F.cl _ _ hk hd) hcj, e1, hC.sg.mul _ _ (F.cl _ _ hk hd) hcj (hC.sg.mul _ _ hk hd hCk h9) (hC.nm c _ hc ha h7 h5), ?_⟩
      rw [← F.ass _ _ _ hy1 (F.cl _ _ hk hd) hcj, cj_split F V hy1 hd, cj_cj F V hy hb hd, ← cj_mul F V hy hc ha]
    rcases hC.top _ (prq_sg F V hE hC.sg (hC.nm.less hEA)) (prq_right F hE) (prq_in SA hEA hC.sub) hnb with h4 | h4
    · refine .inl fun x hx h5 => ?_
      simp only [Bool.and_eq_true]
      exact ⟨h2 x hx h5, h4 x hx (prq_left F hC.sg x hx h5)⟩
    · refine .inr fun x hx h5 => ?_
      obtain ⟨y, c, hy, hc, h6, h7, rfl⟩ := prq_iff.1 (h4 x hx (hB.sub x hx h5))
      have hyi := (V y hy).1
      have hBc : B c = true := by
        have h8 : m (iv y) (m y c) = c := by rw [← F.ass _ _ _ hyi hy hc, (V y hy).2.2, F.left c hc]
        rw [← h8]
        exact hB.sg.mul _ _ hyi hx (hB.sg.inv F hy hyi (V y hy).2.1 (h2 y hy h6)) h5
      exact hE.mul y c hy hc h6 (h1 c hc (by simp [hBc, h7]))
  · have h := prod_formula F hl hB.sg hC.sg (prq l m B C) (fun x _ => prq_iff)
    have h1 : sz l A = sz l (prq l m B C) := sz_same hall (prq_in SA hB.sub hC.sub)
    rw [h1]
    exact h
theorem div_of {a b c d : Nat} (hb : 0 < b) (hd : 0 < d) (h : a * d = b * c) (h1 : d ∣ c) : a / b = c / d := by
  obtain ⟨k, rfl⟩ := h1
  have h2 : a = b * k := Nat.eq_of_mul_eq_mul_right hd (by rw [h, Nat.mul_assoc, Nat.mul_comm k d])
  rw [h2, Nat.mul_div_cancel_left k hb, Nat.mul_div_cancel_left k hd]
/-- THE THEOREM OF JORDAN AND HOELDER (how many things the factors have). -/
theorem jordan (F : Fg l m e) (V : Iv l m e iv) {N : Nat} (hl : ∀ x, x ∈ l → x < N) : ∀ (k : Nat) (A : Nat → Bool) (s t : List (Nat → Bool)), SgB l m e A → sz l A ≤ k → Cs l m e iv A s → Cs l m e iv A t → (facs l A s).Perm (facs l A t)
  | 0, A, _, _, S, hk, _, _ => by have := sz_pos F S; omega
  | k + 1, A, [], [], _, _, _, _ => .refl _
  | k + 1, A, [], B :: _, S, _, h1, h2 => by
    obtain ⟨x, hx, h3, h4⟩ := h2.1.less
    exact absurd (by rw [h1 x hx h3]; exact h2.1.sg.one) h4
  | k + 1, A, B :: _, [], S, _, h2, h1 => by
    obtain ⟨x, hx, h3, h4⟩ := h2.1.less
    exact absurd (by rw [h1 x hx h3]; exact h2.1.sg.one) h4
  | k + 1, A, B :: s, C :: t, S, hk, h1, h2 => by
    have hB := h1.1
    have hC := h2.1
    have lB := sz_lt hB.sub hB.less
    have lC := sz_lt hC.sub hC.less
    rcases Classical.em (In l B C ∧ In l C B) with h | h
    · have e1 : ∀ x, x ∈ l → C x = B x := fun x hx => by
        rw [Bool.eq_iff_iff]
        exact ⟨h.2 x hx, h.1 x hx⟩
      have e2 := sz_same h.1 h.2
      show (sz l A / sz l B :: facs l B s).Perm (sz l A / sz l C :: facs l C t)
      rw [← e2, ← facs_congr e2 t]
      exact (jordan F V hl k B s t hB.sg (by omega) h1.2 (Cs.congr F V e1 h2.2)).cons _
    · obtain ⟨mB, eq⟩ := mxn_both F V hl S hB hC h
      obtain ⟨mC0, _⟩ := mxn_both F V hl S hC hB (fun h3 => h ⟨h3.2, h3.1⟩)
      have mC : Mxn l m e iv C (fun x => B x && C x) := mC0.congr (fun _ _ => rfl) (fun x _ => Bool.and_comm _ _) F V
      obtain ⟨r, hr⟩ := cs_exists F V (sz l fun x => B x && C x) (fun x => B x && C x) mB.sg (Nat.le_refl _)
      have p1 := jordan F V hl k B s (_ :: r) hB.sg (by omega) h1.2 ⟨mB, hr⟩
      have p2 := jordan F V hl k C t (_ :: r) hC.sg (by omega) h2.2 ⟨mC, hr⟩
      have hD := sz_pos F mB.sg
      have e1 : sz l A / sz l B = sz l C / sz l (fun x => B x && C x) := div_of (sz_pos F hB.sg) hD eq (sz_dvd F mC.sg hC.sg mC.sub)
      have e2 : sz l A / sz l C = sz l B / sz l (fun x => B x && C x) := div_of (sz_pos F hC.sg) hD (by rw [eq, Nat.mul_comm]) (sz_dvd F mB.sg hB.sg mB.sub)
      show (sz l A / sz l B :: facs l B s).Perm (sz l A / sz l C :: facs l C t)
      refine ((p1.cons _).trans ?_).trans (p2.cons _).symm
      rw [e1, e2]
      exact List.Perm.swap _ _ _
theorem facs_prod (F : Fg l m e) : ∀ (A : Nat → Bool) (s : List (Nat → Bool)), SgB l m e A → Cs l m e iv A s → (facs l A s).foldl (· * ·) 1 = sz l A
  | A, [], S, h => ((sz_one F S).2 h).symm
  | A, B :: t, S, h => by
    have hp : ∀ (xs : List Nat) (c : Nat), xs.foldl (· * ·) c = c * xs.foldl (· * ·) 1 := by
      intro xs
      induction xs with
      | nil => intro c; simp
      | cons a xs ih => intro c; rw [List.foldl_cons, List.foldl_cons, ih (c * a), ih (1 * a), Nat.one_mul, Nat.mul_assoc]
    show (facs l B t).foldl (· * ·) (1 * (sz l A / sz l B)) = _
    rw [hp, facs_prod F B t h.1.sg h.2, Nat.one_mul]
    exact Nat.div_mul_cancel (sz_dvd F h.1.sg S h.1.sub)
theorem facs_len : ∀ (A : Nat → Bool) (s : List (Nat → Bool)), (facs l A s).length = s.length
  | _, [] => rfl
  | _, _ :: t => by show (_ :: _).length = _; simp [facs_len _ t]
end Go.Proofs.YtjiapicknkjhmaaDoor.Fin

namespace Go.Proofs.YtjiapicknkjhmaaDoor
open Go Go.RowKit

theorem andn_bs (p q : Nat → Bool) {n : Nat} (hn : n ≤ 60) : Go.bits BinOp.andNot IntKind.u64 (bs p n : Int) (bs q n : Int) = (bs (fun a => p a && !q a) n : Int) := by
  have h64 : ∀ r : Nat → Bool, bs r n < 2 ^ 64 := fun r => Nat.lt_of_lt_of_le (bs_64 hn) (by decide)
  have hv : ∀ r : Nat → Bool, (BitVec.ofInt 64 (bs r n : Int)).toNat = bs r n := fun r => by
    rw [BitVec.ofInt_natCast, BitVec.toNat_ofNat]; exact Nat.mod_eq_of_lt (h64 r)
  have hx : (BitVec.ofInt 64 (bs p n : Int) &&& ~~~BitVec.ofInt 64 (bs q n : Int)).toNat = bs (fun a => p a && !q a) n := by
    apply Nat.eq_of_testBit_eq
    intro i
    rw [BitVec.testBit_toNat, BitVec.getLsbD_and, BitVec.getLsbD_not, ← BitVec.testBit_toNat, ← BitVec.testBit_toNat, hv, hv, bs_bit, bs_bit, bs_bit]
    by_cases hi : i < n
    · have : i < 64 := by omega
      simp [hi, this]
    · simp [hi]
  show IntKind.u64.wrap ((BitVec.ofInt 64 (bs p n : Int) &&& ~~~BitVec.ofInt 64 (bs q n : Int)).toNat : Int) = _
  rw [hx, IntKind.wrap_u64]
  have := h64 (fun a => p a && !q a)
  omega
/-- The least subgroup that has a set, and is, conjugated by another one's things, the same. -/
noncomputable def clb (n : Nat) (zs : List Int) (e : Nat) (q r : Nat → Bool) : Nat → Bool := (mkd_ex' n zs e (clx n zs e q (lst n r))).choose
theorem clb_iff (n : Nat) (zs : List Int) (e : Nat) (q r : Nat → Bool) : ∀ a, a < n → (clb n zs e q r a = true ↔ Mkd n zs e (clx n zs e q (lst n r)) a) := (mkd_ex' n zs e (clx n zs e q (lst n r))).choose_spec
/-- With one thing more. -/
def plus (q : Nat → Bool) (a : Nat) : Nat → Bool := fun x => q x || decide (x = a)
/-- Where it goes on from a normal subgroup. -/
noncomputable def grw (n : Nat) (zs : List Int) (e : Nat) (s : Nat → Bool) : Nat → (Nat → Bool) → Nat → Bool
  | 0, q => q
  | k + 1, q => match (lst n fun a => s a && !q a).find? (fun a => decide (bs (clb n zs e (plus q a) s) n ≠ bs s n)) with
    | none => q
    | some a => grw n zs e s k (clb n zs e (plus q a) s)
noncomputable def grt (n : Nat) (zs : List Int) (e : Nat) (s : Nat → Bool) : Nat → Bool := grw n zs e s 60 (fun a => decide (a = e))
section
variable {n e : Nat} {zs : List Int} {s q : Nat → Bool}
theorem clx_iff {n e : Nat} {zs : List Int} {q r : Nat → Bool} {y : Nat} : clx n zs e q (lst n r) y = true ↔ ∃ x a, x < n ∧ a < n ∧ q x = true ∧ r a = true ∧ Fin.cj (tm n zs) (iv n zs e) x a = y := by
  unfold clx
  simp only [List.any_eq_true, mem_lst, cjq_iff, List.mem_range]
  exact ⟨fun ⟨a, ⟨ha, h1⟩, x, hx, h2, h3⟩ => ⟨x, a, hx, ha, h2, h1, h3⟩, fun ⟨x, a, hx, ha, h2, h1, h3⟩ => ⟨a, ⟨ha, h1⟩, x, hx, h2, h3⟩⟩
theorem clb_sg (g : IsGrp n zs e) : Fin.SgB (List.range n) (tm n zs) e (clb n zs e q s) := made_sg g (clb_iff n zs e q s)
theorem clb_has (g : IsGrp n zs e) (hs : s e = true) {x : Nat} (hx : x < n) (h : q x = true) : clb n zs e q s x = true := by
  refine (clb_iff n zs e q s x hx).2 (Fin.Gen.base (List.mem_range.2 hx) (clx_iff.2 ⟨x, e, hx, g.elt, h, hs, ?_⟩))
  exact Fin.cj_id (grp_fg g) (grp_iv g) (List.mem_range.2 hx)
theorem clb_in {r : Nat → Bool} (hr : Fin.SgB (List.range n) (tm n zs) e r) (h1 : ∀ x, x < n → q x = true → r x = true) (h2 : Fin.Nb (List.range n) (tm n zs) (iv n zs e) r s) {x : Nat} (hx : x < n) (h : clb n zs e q s x = true) : r x = true :=
  Fin.Gen.least hr (fun y _ h3 => by
    obtain ⟨z, a, hz, ha, h4, h5, rfl⟩ := clx_iff.1 h3
    exact h2 z a (List.mem_range.2 hz) (List.mem_range.2 ha) (h1 z hz h4) h5) ((clb_iff n zs e q s x hx).1 h)
theorem clb_nb (g : IsGrp n zs e) (hs : Fin.SgB (List.range n) (tm n zs) e s) : Fin.Nb (List.range n) (tm n zs) (iv n zs e) (clb n zs e q s) s := fun x a hx ha h1 h2 => by
  have F := grp_fg g
  have V := grp_iv g
  have hm := Fin.cj_mem F V hx ha
  refine (clb_iff n zs e q s _ (List.mem_range.1 hm)).2 ?_
  have h3 := (clb_iff n zs e q s x (List.mem_range.1 hx)).1 h1
  -- the things whose conjugates by a are made are a subgroup
  refine h3 (fun y => Mkd n zs e (clx n zs e q (lst n s)) (Fin.cj (tm n zs) (iv n zs e) y a)) ⟨?_, fun y z hy hz h4 h5 => ?_⟩ (fun y hy h4 => ?_)
  · show Mkd _ _ _ _ (Fin.cj _ _ _ _)
    rw [Fin.cj_one F V ha]
    exact (Fin.Gen.sg _).one
  · show Mkd _ _ _ _ (Fin.cj _ _ _ _)
    rw [Fin.cj_mul F V hy hz ha]
    exact (Fin.Gen.sg _).mul _ _ (Fin.cj_mem F V hy ha) (Fin.cj_mem F V hz ha) h4 h5
  · obtain ⟨z, b, hz, hb, h5, h6, rfl⟩ := clx_iff.1 h4
    have hb' := List.mem_range.2 hb
    refine Fin.Gen.base (Fin.cj_mem F V hy ha) (clx_iff.2 ⟨z, tm n zs b a, hz, tm_lt g.tab hb (List.mem_range.1 ha), h5, hs.mul b a hb' ha h6 h2, ?_⟩)
    rw [Fin.cj_cj F V (List.mem_range.2 hz) hb' ha]
/-- A normal subgroup of a subgroup that is not all of it. -/
structure Nin (n : Nat) (zs : List Int) (e : Nat) (s q : Nat → Bool) : Prop where
  sg : Fin.SgB (List.range n) (tm n zs) e q
  sub : ∀ x, x < n → q x = true → s x = true
  nb : Fin.Nb (List.range n) (tm n zs) (iv n zs e) q s
theorem Nin.up (g : IsGrp n zs e) (hs : Fin.SgB (List.range n) (tm n zs) e s) (h : Nin n zs e s q) {a : Nat} (ha : s a = true) : Nin n zs e s (clb n zs e (plus q a) s) :=
  ⟨clb_sg g, fun x hx h1 => clb_in hs (fun y hy h2 => by
    unfold plus at h2
    rw [Bool.or_eq_true, decide_eq_true_eq] at h2
    rcases h2 with h2 | rfl
    · exact h.sub y hy h2
    · exact ha) (Fin.nb_own (grp_fg g) (grp_iv g) hs) hx h1, clb_nb g hs⟩
theorem plus_less (g : IsGrp n zs e) (hs : s e = true) {a : Nat} (ha : a < n) (hq : ¬ q a = true) : (lst n q).length < (lst n (clb n zs e (plus q a) s)).length :=
  (lst_less fun x hx h => clb_has g hs hx (by unfold plus; rw [h, Bool.true_or])).2 ⟨a, ha, clb_has g hs ha (by unfold plus; simp), hq⟩
/-- What is found in the end is a greatest one. -/
theorem grw_top (g : IsGrp n zs e) (hs : Fin.SgB (List.range n) (tm n zs) e s) : ∀ (k : Nat) (q : Nat → Bool), Nin n zs e s q → n < (lst n q).length + k → (∃ x, x < n ∧ s x = true ∧ ¬ q x = true) →
    Fin.Mxn (List.range n) (tm n zs) e (iv n zs e) s (grw n zs e s k q)
  | 0, q, _, h, _ => by
    have := lst_len n q
    omega
  | k + 1, q, hq, h, hl => by
    unfold grw
    cases hf : (lst n fun a => s a && !q a).find? (fun a => decide (bs (clb n zs e (plus q a) s) n ≠ bs s n)) with
    | none =>
      rw [List.find?_eq_none] at hf
      show Fin.Mxn (List.range n) (tm n zs) e (iv n zs e) s q
      obtain ⟨x, hx, hx1, hx2⟩ := hl
      refine ⟨hq.sg, fun x hx => hq.sub x (List.mem_range.1 hx), hq.nb, ⟨x, List.mem_range.2 hx, hx1, hx2⟩, fun C hC h1 h2 h3 => ?_⟩
      rcases Classical.em (Fin.In (List.range n) C q) with h4 | h4
      · exact .inl h4
      · refine .inr ?_
        obtain ⟨a, ha, ha1, ha2⟩ : ∃ a, a ∈ List.range n ∧ C a = true ∧ ¬ q a = true := Classical.byContradiction fun h5 => h4 fun y hy hC => Classical.byContradiction fun h6 => h5 ⟨y, hy, hC, h6⟩
        have h5 := hf a (mem_lst.2 ⟨List.mem_range.1 ha, by simp [h2 a ha ha1, ha2]⟩)
        have h5 : bs (clb n zs e (plus q a) s) n = bs s n := by simpa using h5
        intro y hy hy1
        have hy' := List.mem_range.1 hy
        have h6 : clb n zs e (plus q a) s y = true := by rw [bs_inj h5 y hy']; exact hy1
        exact clb_in hC (fun z hz h7 => by
          unfold plus at h7
          rw [Bool.or_eq_true, decide_eq_true_eq] at h7
          rcases h7 with h7 | rfl
          · exact h1 z (List.mem_range.2 hz) h7
          · exact ha1) h3 hy' h6
    | some a =>
      have h1 := List.find?_some hf
      have h2 := mem_lst.1 (List.mem_of_find?_eq_some hf)
      rw [decide_eq_true_eq] at h1
      obtain ⟨ha, h3⟩ := h2
      rw [Bool.and_eq_true] at h3
      have h4 : ¬ q a = true := by have := h3.2; simpa using this
      have hup := hq.up g hs h3.1
      show Fin.Mxn (List.range n) (tm n zs) e (iv n zs e) s (grw n zs e s k (clb n zs e (plus q a) s))
      refine grw_top g hs k _ hup ?_ ?_
      · have := plus_less g hs.one ha h4
        omega
      · exact Classical.byContradiction fun h9 => h1 (bs_ext fun x hx => by
          rw [Bool.eq_iff_iff]
          exact ⟨hup.sub x hx, fun h5 => Classical.byContradiction fun h6 => h9 ⟨x, hx, h5, h6⟩⟩)
theorem nin_one (g : IsGrp n zs e) (hs : Fin.SgB (List.range n) (tm n zs) e s) : Nin n zs e s (fun a => decide (a = e)) :=
  ⟨Fin.one_sgb (grp_fg g), fun x _ h => by rw [decide_eq_true_eq] at h; rw [h]; exact hs.one, fun x a _ ha h _ => by
    rw [decide_eq_true_eq] at h
    rw [h, Fin.cj_one (grp_fg g) (grp_iv g) ha]
    simp⟩
theorem grt_top (g : IsGrp n zs e) (hs : Fin.SgB (List.range n) (tm n zs) e s) (hl : ∃ x, x < n ∧ s x = true ∧ x ≠ e) : Fin.Mxn (List.range n) (tm n zs) e (iv n zs e) s (grt n zs e s) := by
  refine grw_top g hs 60 _ (nin_one g hs) ?_ ?_
  · rw [one_lst g.elt]
    have := g.tab.le
    simp
    omega
  · obtain ⟨x, hx, h1, h2⟩ := hl
    exact ⟨x, hx, h1, by simpa using h2⟩
/-- Of the one alone it is that. -/
theorem grt_one (hs : Fin.SgB (List.range n) (tm n zs) e s) (hl : ∀ x, x < n → s x = true → x = e) : bs (grt n zs e s) n = bs s n := by
  have h1 : grt n zs e s = fun a => decide (a = e) := by
    unfold grt grw
    rw [show (lst n fun a => s a && !decide (a = e)) = [] by
      refine List.eq_nil_iff_forall_not_mem.2 fun a ha => ?_
      obtain ⟨h2, h3⟩ := mem_lst.1 ha
      rw [Bool.and_eq_true] at h3
      rw [hl a h2 h3.1] at h3
      simp at h3]
    rfl
  rw [h1]
  refine bs_ext fun x hx => ?_
  rw [Bool.eq_iff_iff, decide_eq_true_eq]
  exact ⟨fun h => by rw [h]; exact hs.one, hl x hx⟩
end
end Go.Proofs.YtjiapicknkjhmaaDoor

namespace Go.Proofs.YtjiapicknkjhmaaDoor
open Go Go.RowKit

set_option maxRecDepth 100000 in
set_option maxHeartbeats 4000000 in
theorem nor_good (n e : Nat) (v u0 : Value) (zs l0 : List Int) (w : World) (hv : Sl w v zs) (hg : IsGrp n zs e) (hu : Sl w u0 l0) (hT : Tab w) (hc : lfault n l0 = (0, 0)) (hs : subT n zs e (pset l0) = true) :
    Calls Tryd.prog 11 #[.agg #[.int .i64 n, v], u0] w fun x w' => ∃ r, x = .returned (.tuple #[r, .agg #[.int .i64 0, .int .i64 0]]) ∧ SlF w.heap.size w' r (li (lst n (norq n zs e (pset l0)))) ∧ Below w.heap.size w w' := by
  obtain ⟨va, vl, vc, rfl⟩ := hv.isSlice
  obtain ⟨w0, BG⟩ := Beg.new w n (.slice va vl vc)
  have hv0 := hv.below BG.bel
  obtain ⟨c0, c1, _, _⟩ := BG.box.two
  have HCK := hide (osub_good n e (.slice va vl vc) u0 zs l0 w0 hv0 hg (hu.below BG.bel) (hT.below BG.bel) hc hs)
  have HZ0 := hide (show w.heap.size + 2 ≤ w0.heap.size by rw [BG.eq]; simp)
  rw [BG.eq] at c0 c1
  go_enter Tryd.func11, Tryd.ntmps11
  go_wp2_with fail
  rw [← BG.eq]
  refine HCK.out.mono ?_
  rintro x w1 ⟨iv9, rfl, hSI, hb1⟩
  obtain ⟨ia, il, ic, rfl⟩ := hSI.sl.isSlice
  clear c0 c1 HCK
  obtain ⟨w2, hw2⟩ : ∃ w2, w2 = (w1.alloc (.cells #[.int .i64 n, (.slice va vl vc), .int .i64 e, (.slice ia il ic)] 50)).alloc (.cells #[.int .i64 0, .int .i64 0] 27) := ⟨_, rfl⟩
  have hb2 : Below w1.heap.size w1 w2 := by rw [hw2]; exact (balloc w1 _).alloc (by simp) _
  have hB1 : Below w0.heap.size w0 w2 := bcat2 hb1 hb2
  have hF1 : Blk w2 (w1.heap.size + 1) 27 [.int .i64 0, .int .i64 0] := by
    rw [hw2]
    have := blk0 (w := w1.alloc (.cells #[.int .i64 n, (.slice va vl vc), .int .i64 e, (.slice ia il ic)] 50)) (T := 27) (.int .i64 0) (.int .i64 0)
    rwa [World.size_alloc] at this
  have hH2 : Blk w2 w1.heap.size 50 [.int .i64 n, (.slice va vl vc), .int .i64 e, (.slice ia il ic)] := by
    rw [hw2]; exact (blk4 _ _ _ _).alloc _
  have hBw2 := bcat BG.bel hB1 BG.bel.size
  have hR2 := blk_below BG.res hB1
  have hT2 := hT.below hBw2
  have hGA2 : GA w2 n (.slice va vl vc) e (.slice ia il ic) zs := ⟨hg, hv.below hBw2, (hSI.below hb2).sl⟩
  obtain ⟨t0, t1, _, _⟩ := hF1.two
  obtain ⟨_, h0, h1, h2, h3, _⟩ := Four.mk' hH2
  have hx2 := blk_below BG.box hB1
  have HZ1 := hide (Nat.le_trans HZ0.out hb1.size)
  have HZ2 := hide hb2.size
  rw [hw2] at t0 t1 h0 h1 h2 h3
  go_wp2_with fail
  rw [← hw2]
  clear hw2 t0 t1 h0 h1 h2 h3
  refine (norm_ok n _ _ zs e (pset l0) w2 hGA2 hT2).mono ?_
  rintro x w3 ⟨rfl, hb3⟩
  go_wp2_with fail
  refine (list_ok n (norq n zs e (pset l0)) w3 hg.tab.le (hT2.below hb3)).mono ?_
  rintro x w4 ⟨r, rfl, hr, hb4⟩
  have hb5 := bcat2 hb3 hb4
  have hB5 := bcat hBw2 hb5 hBw2.size
  obtain ⟨_, y0, y1, fy0, fy1, s0, s1⟩ := Two.mk' (blk_below hR2 hb5)
  have hr9 := hr.mono (show w.heap.size ≤ w3.heap.size from Nat.le_trans hBw2.size hb3.size)
  go_wp2
  exact bodyPost_ret (v := .tuple #[r, .agg #[.int .i64 0, .int .i64 0]]) (by simp [results, Tryd.results11, go_sem, y0, y1]) rfl ⟨_, rfl, hr9, hB5⟩
theorem nor_lst (n e : Nat) (v u : Value) (zs : List Int) (q : Nat → Bool) (w : World) (hv : Sl w v zs) (hg : IsGrp n zs e) (hu : Sl w u (li (lst n q))) (hT : Tab w) (hs : subT n zs e q = true) :
    Calls Tryd.prog 11 #[.agg #[.int .i64 n, v], u] w fun x w' => ∃ (a : Option Addr) (c : Nat), x = .returned (.tuple #[.slice a (lst n (norq n zs e q)).length c, .agg #[.int .i64 0, .int .i64 0]]) ∧ Sl w' (.slice a (lst n (norq n zs e q)).length c) (li (lst n (norq n zs e q))) ∧ Below w.heap.size w w' := by
  have h := nor_good n e v u zs (li (lst n q)) w hv hg hu hT (lst_fault n q) ((subT_congr hg fun a ha => pset_lst ha).trans hs)
  have h1 : lst n (norq n zs e (pset (li (lst n q)))) = lst n (norq n zs e q) := lst_congr fun a _ => by
    have h1 : lst n (pset (li (lst n q))) = lst n q := lst_pset n q
    have h2 : bs (pset (li (lst n q))) n = bs q n := bs_ext fun a ha => pset_lst ha
    unfold norq cjq
    rw [h1, h2]
  rw [h1] at h
  refine h.mono ?_
  rintro x w1 ⟨r, rfl, hr, hb⟩
  have hr := hr.sl
  obtain ⟨a, c, _, _, rfl, _⟩ := id hr
  rw [li_len] at hr ⊢
  exact ⟨a, c, rfl, hr, hb⟩
end Go.Proofs.YtjiapicknkjhmaaDoor
