/- Frobenius' theorem: of a number that divides how many things a finite group has, so many things are, so many times, the one, as a multiple of it. No condition. Cauchy's theorem: what one thing makes has as many things as its order; how many things have the order p is, where p divides how many things there are, one less than a multiple of p, and else none. No condition. What the law SylowCauchy asks besides: listAs, primeFault, and its closures: the things of the order p. What primeFault answers: what is wrong with a table, then with p. The law SylowCauchy, walked: at what is wrong, and at a group and a prime; what it calls stands as premises. Condition: the library's table of places lies as its text lays it. The law SylowCauchy: at every table and every number it returns true. Condition: the library's table of places lies as its text lays it. The frame that all rows of this family share: how a table that came in reads. The frame that all rows of this family share: what the listed table gives a walk; how a list of ints that came in reads. -/
import Derived.Test.YtpeidjnamajjgaaDoorZ5
import Derived.Test.YtpeidjnamajjgaaDoorZ4
import Derived.Deep.DeepCutAuto
import Derived.Test.YtpeidjnamajjgaaDoorRows
import Derived.Test.YtpeidjnamajjgaaDoorZ1
import Derived.ProofKit
import Derived.OpenShut
import Derived.ChangeOld
import Derived.Below
import Derived.SizedLaws
import Derived.LaidMore
import Derived.Stop.Joined
import Derived.Stop.LaidErr
import Derived.Lib.LaidTab
namespace Go.Proofs.YtpeidjnamajjgaaDoor.Fin
variable {l : List Nat} {m : Nat → Nat → Nat} {e : Nat}

/-- Conjugated by g: g x = x' g. -/
theorem con_mk (h : Fg l m e) {g gi x : Nat} (hg : g ∈ l) (hi : gi ∈ l) (h1 : m gi g = e) (hx : x ∈ l) : m g x = m (m (m g x) gi) g := by
  rw [h.ass _ _ _ (h.cl _ _ hg hx) hi hg, h1, h.right _ (h.cl _ _ hg hx)]
theorem con_e (h : Fg l m e) {g x x' : Nat} (hg : g ∈ l) (hx : x ∈ l) (hx' : x' ∈ l) (hc : m g x = m x' g) (i : Nat) : po m e x i = e ↔ po m e x' i = e := by
  have h1 := po_conj h hg hx hx' hc i
  constructor
  · intro h2
    rw [h2, h.right g hg] at h1
    exact h.canR hg (po_mem h hx' i) h.one (by rw [← h1, h.left g hg])
  · intro h2
    rw [h2, h.left g hg] at h1
    exact h.can hg (po_mem h hx i) h.one (by rw [h1, h.right g hg])
theorem con_back (h : Fg l m e) {g gi x x' : Nat} (hg : g ∈ l) (hi : gi ∈ l) (h1 : m gi g = e) (h2 : m g gi = e) (hx : x ∈ l) (hx' : x' ∈ l) (hc : m g x = m x' g) : m gi x' = m x gi := by
  have h3 : m (m gi (m g x)) gi = m (m gi (m x' g)) gi := by rw [hc]
  rw [← h.ass _ _ _ hi hg hx, h1, h.left x hx, ← h.ass _ _ _ hi hx' hg, h.ass _ _ _ (h.cl _ _ hi hx') hg hi, h2, h.right _ (h.cl _ _ hi hx')] at h3
  exact h3.symm
theorem con_trans (h : Fg l m e) {g k x y z : Nat} (hg : g ∈ l) (hk : k ∈ l) (hx : x ∈ l) (hy : y ∈ l) (hz : z ∈ l) (h1 : m g x = m y g) (h2 : m k y = m z k) : m (m k g) x = m z (m k g) := by
  rw [h.ass _ _ _ hk hg hx, h1, ← h.ass _ _ _ hk hy hg, h2, h.ass _ _ _ hz hk hg]
def con (l : List Nat) (m : Nat → Nat → Nat) (x y : Nat) : Bool := l.any fun g => decide (m g x = m y g)
theorem con_iff {x y : Nat} : con l m x y = true ↔ ∃ g, g ∈ l ∧ m g x = m y g := by unfold con; simp
theorem con_refl (h : Fg l m e) {x : Nat} (hx : x ∈ l) : con l m x x = true := con_iff.2 ⟨e, h.one, by rw [h.left x hx, h.right x hx]⟩
theorem con_symm (h : Fg l m e) {x y : Nat} (hx : x ∈ l) (hy : y ∈ l) (hc : con l m x y = true) : con l m y x = true := by
  obtain ⟨g, hg, h1⟩ := con_iff.1 hc
  obtain ⟨gi, hi, h2, h3⟩ := h.inv g hg
  exact con_iff.2 ⟨gi, hi, con_back h hg hi h3 h2 hx hy h1⟩
theorem con_tr (h : Fg l m e) {x y z : Nat} (hx : x ∈ l) (hy : y ∈ l) (hz : z ∈ l) (h1 : con l m x y = true) (h2 : con l m y z = true) : con l m x z = true := by
  obtain ⟨g, hg, h1⟩ := con_iff.1 h1
  obtain ⟨k, hk, h2⟩ := con_iff.1 h2
  exact con_iff.2 ⟨m k g, h.cl _ _ hk hg, con_trans h hg hk hx hy hz h1 h2⟩
theorem con_same (h : Fg l m e) {x y z : Nat} (hx : x ∈ l) (hy : y ∈ l) (hz : z ∈ l) (h1 : con l m x y = true) : con l m x z = con l m y z := by
  rw [Bool.eq_iff_iff]
  exact ⟨fun k => con_tr h hy hx hz (con_symm h hx hy h1) k, fun k => con_tr h hx hy hz h1 k⟩
/-- All that a thing is conjugate to. -/
def cls (l : List Nat) (m : Nat → Nat → Nat) (y : Nat) : List Nat := l.filter fun z => con l m y z
theorem cls_len (h : Fg l m e) {y : Nat} (hy : y ∈ l) : l.length = (cls l m y).length * (cent l m y).length := by
  have hiv : ∀ g, g ∈ l → m g (po m e g (l.length - 1)) = e ∧ m (po m e g (l.length - 1)) g = e := fun g hg => by
    have hp := h.pos
    have h1 := po_len h hg
    constructor
    · have : po m e g l.length = m (po m e g 1) (po m e g (l.length - 1)) := by rw [← po_add h hg]; congr 1; omega
      rw [po_one h hg] at this
      rw [← this]; exact h1
    · have : po m e g l.length = m (po m e g (l.length - 1)) (po m e g 1) := by rw [← po_add h hg]; congr 1; omega
      rw [po_one h hg] at this
      rw [← this]; exact h1
  have hpm : ∀ g, g ∈ l → po m e g (l.length - 1) ∈ l := fun g hg => po_mem h hg _
  refine fib_len (fun g => m (m g y) (po m e g (l.length - 1))) _ _ _ (h.nd.filter _) (fun g hg => ?_) (fun k hk => ?_)
  · exact List.mem_filter.2 ⟨h.cl _ _ (h.cl _ _ hg hy) (hpm g hg), con_iff.2 ⟨g, hg, con_mk h hg (hpm g hg) (hiv g hg).2 hy⟩⟩
  · obtain ⟨hk1, hk2⟩ := List.mem_filter.1 hk
    obtain ⟨g, hg, hgk⟩ := con_iff.1 hk2
    have fib : ∀ f, f ∈ l → (m (m f y) (po m e f (l.length - 1)) = k ↔ m f y = m k f) := fun f hf => by
      have h1 := con_mk h hf (hpm f hf) (hiv f hf).2 hy
      have hm := h.cl _ _ (h.cl _ _ hf hy) (hpm f hf)
      exact ⟨fun h2 => by rw [h2] at h1; exact h1, fun h2 => h.canR hf hm hk1 (by rw [← h1, h2])⟩
    symm
    refine bij_len (m g) ((h.nd).filter _) (h.nd.filter _) (fun c hc => ?_) (fun a b ha hb hab => ?_) (fun f hf => ?_)
    · obtain ⟨hc1, hc2⟩ := cent_iff.1 hc
      have hm := h.cl _ _ hg hc1
      refine List.mem_filter.2 ⟨hm, ?_⟩
      rw [decide_eq_true_eq, fib _ hm, h.ass _ _ _ hg hc1 hy, hc2, ← h.ass _ _ _ hg hy hc1, hgk, h.ass _ _ _ hk1 hg hc1]
    · exact h.can hg (cent_iff.1 ha).1 (cent_iff.1 hb).1 hab
    · obtain ⟨hf1, hf2⟩ := List.mem_filter.1 hf
      rw [decide_eq_true_eq, fib f hf1] at hf2
      obtain ⟨gi, hi, h2, h3⟩ := h.inv g hg
      have hb := con_back h hg hi h3 h2 hy hk1 hgk
      refine ⟨m gi f, cent_iff.2 ⟨h.cl _ _ hi hf1, ?_⟩, ?_⟩
      · rw [h.ass _ _ _ hi hf1 hy, hf2, ← h.ass _ _ _ hi hk1 hf1, hb, h.ass _ _ _ hy hi hf1]
      · rw [← h.ass _ _ _ hg hi hf1, h2, h.left f hf1]

variable {p k s q a b : Nat}
/-- Things of A with a given part, and what commutes with the part. -/
theorem part_cnt (h : Fg l m e) (P : Parts p k s q a b) {x : Nat} (hA : x ∈ AA l m e q (p ^ k) s) :
    ((AA l m e q (p ^ k) s).filter fun z => decide (po m e z a = po m e x a)).length = cnt (cent l m (po m e x a)) m e s := by
  obtain ⟨hx, h1, h2⟩ := AA_iff.1 hA
  have ho := part_ord h P hA
  have hy := po_mem h hx a
  generalize po m e x a = y at *
  obtain ⟨t, ht⟩ := P.sum
  have hq1 : po m e y q = e := (ho q).2 (Nat.dvd_refl q)
  unfold cnt
  refine bij_len (fun z => po m e z b) ((h.nd.filter _).filter _) ((h.nd.filter _).filter _) (fun z hz => ?_) (fun z w hz hw hzw => ?_) (fun z hz => ?_)
  · obtain ⟨hz1, hz2⟩ := List.mem_filter.1 hz
    rw [decide_eq_true_eq] at hz2
    obtain ⟨hzl, hz3, _⟩ := AA_iff.1 hz1
    refine List.mem_filter.2 ⟨cent_iff.2 ⟨po_mem h hzl b, by rw [← hz2]; exact po_pow_com h hzl b a⟩, ?_⟩
    rw [decide_eq_true_eq, po_mul h hzl]
    obtain ⟨j, hj⟩ := P.qb
    exact po_z' h hzl hz3 ⟨j, by rw [hj]; grind⟩
  · obtain ⟨hz1, hz2⟩ := List.mem_filter.1 hz
    obtain ⟨hw1, hw2⟩ := List.mem_filter.1 hw
    rw [decide_eq_true_eq] at hz2 hw2
    obtain ⟨hzl, hz3, _⟩ := AA_iff.1 hz1
    obtain ⟨hwl, hw3, _⟩ := AA_iff.1 hw1
    have ez : z = po m e z (a + b) := by rw [ht, po_off h hzl hz3, po_one h hzl]
    have ew : w = po m e w (a + b) := by rw [ht, po_off h hwl hw3, po_one h hwl]
    rw [po_add h hzl, hz2] at ez
    rw [po_add h hwl, hw2] at ew
    have hzw' : po m e z b = po m e w b := hzw
    rw [ez, ew, hzw']
  · obtain ⟨hz1, hz2⟩ := List.mem_filter.1 hz
    rw [decide_eq_true_eq] at hz2
    obtain ⟨hzl, hzc⟩ := cent_iff.1 hz1
    have hm := h.cl _ _ hy hzl
    have hpr : ∀ i, po m e (m y z) i = m (po m e y i) (po m e z i) := po_prod h hy hzl hzc.symm
    obtain ⟨i, hi⟩ := P.sa
    obtain ⟨j, hj⟩ := P.qb
    have ya : po m e y a = y := by
      have h3 := Nat.div_add_mod a q
      rw [P.aq, Nat.mod_eq_of_lt (by have := P.q2; omega)] at h3
      rw [← h3, Nat.add_comm, po_off h hy hq1, po_one h hy]
    have za : po m e z a = e := po_z' h hzl hz2 ⟨i, hi⟩
    have yb : po m e y b = e := po_z' h hy hq1 ⟨j, hj⟩
    have zb : po m e z b = z := by
      have h3 := Nat.div_add_mod b s
      rw [P.bs] at h3
      rcases Nat.lt_or_ge 1 s with h4 | h4
      · rw [Nat.mod_eq_of_lt h4] at h3
        rw [← h3, Nat.add_comm, po_off h hzl hz2, po_one h hzl]
      · have hs1 : s = 1 := by have := P.s0; omega
        rw [hs1, po_one h hzl] at hz2
        rw [hz2, po_e h]
    refine ⟨m y z, List.mem_filter.2 ⟨AA_iff.2 ⟨hm, ?_, ?_⟩, ?_⟩, ?_⟩
    · rw [hpr, po_z' h hy hq1 ⟨s, rfl⟩, po_z' h hzl hz2 ⟨q, Nat.mul_comm q s⟩, h.left e h.one]
    · rw [hpr, po_z' h hzl hz2 ⟨p ^ k, Nat.mul_comm _ s⟩, h.right _ (po_mem h hy _), ho, P.qp]
      intro hc
      have h5 : p ∣ s := Nat.dvd_of_mul_dvd_mul_left (Nat.pow_pos (by have := P.pr.1; omega)) hc
      exact P.cop h5
    · rw [decide_eq_true_eq, hpr, ya, za, h.right y hy]
    · show po m e (m y z) b = z
      rw [hpr, yb, zb, h.left z hzl]
theorem half_two (h : Fg l m e) (P : Parts p k s q a b) (hsN : s ∣ l.length)
    (IH : ∀ (l' : List Nat) (m' : Nat → Nat → Nat) (e' : Nat), Fg l' m' e' → l'.length < l.length → ∀ n, n ∣ l'.length → n ∣ cnt l' m' e' n) : s ∣ (AA l m e q (p ^ k) s).length := by
  have hA : ∀ x, x ∈ AA l m e q (p ^ k) s → x ∈ l ∧ po m e x (q * s) = e ∧ ¬ po m e x (p ^ k * s) = e := fun x hx => AA_iff.1 hx
  have hyl : ∀ x, x ∈ AA l m e q (p ^ k) s → po m e x a ∈ l := fun x hx => po_mem h (hA x hx).1 a
  refine part_dvd _ (fun x z => con l m (po m e x a) (po m e z a)) _ _ (Nat.le_refl _) (fun x hx => con_refl h (hyl x hx)) (fun x y z hx hy hz hxy => con_same h (hyl x hx) (hyl y hy) (hyl z hz) hxy) (fun x hx => ?_)
  have hy := hyl x hx
  have hpc := part_cnt h P hx
  have ho := part_ord h P hx
  have hX : ((AA l m e q (p ^ k) s).filter fun z => con l m (po m e x a) (po m e z a)).length = (cls l m (po m e x a)).length * cnt (cent l m (po m e x a)) m e s := by
    rw [← hpc]
    refine fib_len (fun z => po m e z a) _ _ _ (h.nd.filter _) (fun z hz => ?_) (fun c hc => ?_)
    · obtain ⟨hz1, hz2⟩ := List.mem_filter.1 hz
      exact List.mem_filter.2 ⟨hyl z hz1, hz2⟩
    · obtain ⟨hc1, hc2⟩ := List.mem_filter.1 hc
      rw [List.filter_filter, filter_eq (q := fun z => decide (po m e z a = c))]
      · obtain ⟨g, hg, hgc⟩ := con_iff.1 hc2
        obtain ⟨gi, hi, h2, h3⟩ := h.inv g hg
        have hb := con_back h hg hi h3 h2 hy hc1 hgc
        have step : ∀ g gi u v, g ∈ l → gi ∈ l → m gi g = e → u ∈ l → v ∈ l → m g u = m v g → ∀ z, z ∈ (AA l m e q (p ^ k) s).filter (fun z => decide (po m e z a = u)) → m (m g z) gi ∈ (AA l m e q (p ^ k) s).filter (fun z => decide (po m e z a = v)) := fun g gi u v hg hi h3 hu hv huv z hz => by
          obtain ⟨hz1, hz2⟩ := List.mem_filter.1 hz
          rw [decide_eq_true_eq] at hz2
          obtain ⟨hzl, h4, h5⟩ := hA z hz1
          have hm := h.cl _ _ (h.cl _ _ hg hzl) hi
          have hcz := con_mk h hg hi h3 hzl
          refine List.mem_filter.2 ⟨AA_iff.2 ⟨hm, (con_e h hg hzl hm hcz _).1 h4, fun h6 => h5 ((con_e h hg hzl hm hcz _).2 h6)⟩, ?_⟩
          rw [decide_eq_true_eq]
          have h7 := po_conj h hg hzl hm hcz a
          rw [hz2, huv] at h7
          exact (h.canR hg hv (po_mem h hm a) h7).symm
        refine (bij_len (fun z => m (m g z) gi) ((h.nd.filter _).filter _) ((h.nd.filter _).filter _) (step g gi _ c hg hi h3 hy hc1 hgc) (fun z w hz hw hzw => ?_) (fun z hz => ?_)).symm
        · obtain ⟨hz1, _⟩ := List.mem_filter.1 hz
          obtain ⟨hw1, _⟩ := List.mem_filter.1 hw
          have e1 := h.canR hi (h.cl _ _ hg (hA z hz1).1) (h.cl _ _ hg (hA w hw1).1) hzw
          exact h.can hg (hA z hz1).1 (hA w hw1).1 e1
        · refine ⟨m (m gi z) g, step gi g c _ hi hg h2 hc1 hy hb z hz, ?_⟩
          have hzl := (hA z (List.mem_filter.1 hz).1).1
          show m (m g (m (m gi z) g)) gi = z
          rw [← h.ass _ _ _ hg (h.cl _ _ hi hzl) hg, ← h.ass _ _ _ hg hi hzl, h2, h.left z hzl, h.ass _ _ _ hzl hg hi, h2, h.right z hzl]
      · intro z _
        by_cases e1 : po m e z a = c
        · simp [e1, hc2]
        · simp [e1]
  rw [hX]
  have hcls := cls_len h hy
  have hH : Cen (cent l m (po m e x a)) m e (po m e x a) q := ⟨cent_fg h hy, cent_iff.2 ⟨hy, rfl⟩, fun c hc => (cent_iff.1 hc).2, P.q0, ho⟩
  have hql := quo_len hH
  have hqc := quo_cnt hH P.cqs.symm
  have hqf := quo_fg hH
  rw [hqc]
  generalize quo (cent l m (po m e x a)) m e (po m e x a) q = L at *
  generalize mq (cent l m (po m e x a)) m e (po m e x a) q = mm at *
  generalize rep (cent l m (po m e x a)) m e (po m e x a) q e = ee at *
  have hlt : L.length < l.length := by
    have h1 := hqf.pos
    have h2 := P.q2
    have h3 : L.length * 2 ≤ L.length * q := Nat.mul_le_mul_left _ h2
    have h4 : (cent l m (po m e x a)).length ≤ l.length := List.length_filter_le _ _
    omega
  have hd := IH L mm ee hqf hlt (Nat.gcd s L.length) (Nat.gcd_dvd_right _ _)
  rw [← cnt_gcd hqf] at hd
  rw [hcls, hql, ← Nat.mul_assoc] at hsN
  have h5 : s ∣ (cls l m (po m e x a)).length * L.length := Nat.Coprime.dvd_of_dvd_mul_right P.cqs.symm hsN
  have h6 : s ∣ (cls l m (po m e x a)).length * Nat.gcd s L.length := by
    rw [← Nat.gcd_mul_left]
    exact Nat.dvd_gcd ⟨_, Nat.mul_comm _ _⟩ h5
  exact Nat.dvd_trans h6 (Nat.mul_dvd_mul_left _ hd)

/-- FROBENIUS. -/
theorem frob : ∀ (N : Nat) (l : List Nat) (m : Nat → Nat → Nat) (e : Nat), Fg l m e → l.length = N → ∀ n, n ∣ N → n ∣ cnt l m e n := by
  intro N
  induction N using Nat.strongRecOn with
  | _ N ih =>
    intro l m e h hN
    have IH : ∀ (l' : List Nat) (m' : Nat → Nat → Nat) (e' : Nat), Fg l' m' e' → l'.length < l.length → ∀ n, n ∣ l'.length → n ∣ cnt l' m' e' n := fun l' m' e' h' hlt n hn => ih l'.length (by omega) l' m' e' h' rfl n hn
    have hpos := h.pos
    have down : ∀ r n, n ∣ N → N - n ≤ r → n ∣ cnt l m e n := by
      intro r
      induction r with
      | zero =>
        intro n hn hr
        have : n = N := by have := Nat.le_of_dvd (by omega) hn; omega
        subst this
        have : cnt l m e n = n := by
          unfold cnt
          rw [List.filter_eq_self.2 (fun x hx => by rw [decide_eq_true_eq, ← hN]; exact po_len h hx), hN]
        rw [this]; exact Nat.dvd_refl n
      | succ r ihr =>
        intro n hn hr
        obtain ⟨c, hc⟩ := id hn
        have hn0 : 0 < n := by
          rcases Nat.eq_zero_or_pos n with h0 | h0
          · subst h0; simp at hc; omega
          · exact h0
        rcases Nat.lt_or_ge c 2 with h2 | h2
        · have : c = 1 := by
            rcases Nat.eq_zero_or_pos c with h0 | h0
            · subst h0; simp at hc; omega
            · omega
          subst this
          exact ihr n hn (by omega)
        · obtain ⟨p, hp, hpc⟩ := pr_exists h2
          obtain ⟨k, s, hks, hs⟩ := pr_split hp n hn0
          have hs0 : 0 < s := by
            rcases Nat.eq_zero_or_pos s with h0 | h0
            · subst h0; simp at hs
            · exact h0
          obtain ⟨q, a, b, P⟩ := Parts.mk' (k := k) hp hs hs0
          have hnp : q * s = n * p := by rw [P.qp, hks]; grind
          have hd : n * p ∣ N := by rw [hc]; exact Nat.mul_dvd_mul_left n hpc
          have hgt : n < n * p := by
            have := hp.1
            calc n = n * 1 := by omega
              _ < n * p := Nat.mul_lt_mul_of_pos_left (by omega) hn0
          have hle := Nat.le_of_dvd (by omega) hd
          have h3 := ihr (n * p) hd (by omega)
          have h4 : n ∣ cnt l m e (n * p) := Nat.dvd_trans ⟨p, rfl⟩ h3
          have h5 : cnt l m e (n * p) = cnt l m e n + (AA l m e q (p ^ k) s).length := by
            unfold cnt AA
            rw [split_len (fun x => decide (po m e x n = e)) (l.filter fun x => decide (po m e x (n * p) = e)), List.filter_filter, List.filter_filter]
            congr 2
            · apply filter_eq
              intro x hx
              by_cases e1 : po m e x n = e
              · simp [e1, po_z h hx e1 p]
              · simp [e1]
            · apply filter_eq
              intro x _
              rw [hnp, ← hks, Bool.and_comm]
          have h6 : n ∣ (AA l m e q (p ^ k) s).length := by
            rw [hks]
            exact Nat.Coprime.mul_dvd_of_dvd_of_dvd (Nat.Coprime.pow_left k (pr_cop hp hs)) (half_one h P) (half_two h P (by rw [hN]; exact Nat.dvd_trans ⟨p ^ k, by rw [hks, Nat.mul_comm]⟩ hn) IH)
          rw [h5] at h4
          exact (Nat.dvd_add_iff_left h6).2 h4
    intro n hn
    exact down N n hn (by omega)
end Go.Proofs.YtpeidjnamajjgaaDoor.Fin

namespace Go.Proofs.YtpeidjnamajjgaaDoor

theorem po_pw (n : Nat) (zs : List Int) (e a : Nat) : ∀ k, Fin.po (tm n zs) e a k = pw n zs e a k
  | 0 => rfl
  | k + 1 => by
    show tm n zs (Fin.po (tm n zs) e a k) a = tm n zs (pw n zs e a k) a
    rw [po_pw n zs e a k]
theorem ord_iff {n e : Nat} {zs : List Int} (g : IsGrp n zs e) {a : Nat} (ha : a < n) (i : Nat) : Fin.po (tm n zs) e a i = e ↔ ordN n zs e a ∣ i := by
  rw [po_pw]
  refine ⟨fun h => ord_dvd g ha h, ?_⟩
  rintro ⟨q, rfl⟩
  exact pw_ord_mul g ha q
/-- What one thing makes: its powers. -/
theorem mk1_len {n e : Nat} {zs : List Int} (g : IsGrp n zs e) {a : Nat} (ha : a < n) : (lst n (mk1 n zs e a)).length = ordN n zs e a := by
  have hF := Fin.cyc_fg (grp_fg g) (List.mem_range.2 ha) (ord_pos (n := n) (zs := zs) (e := e) a) (ord_iff g ha)
  have hnd1 : (lst n (mk1 n zs e a)).Nodup := List.nodup_range.sublist List.filter_sublist
  have hmem : ∀ x, x ∈ lst n (mk1 n zs e a) ↔ x ∈ (List.range (ordN n zs e a)).map (Fin.po (tm n zs) e a) := fun x => by
    rw [mem_lst]
    constructor
    · rintro ⟨hx, h1⟩
      exact Fin.Gen.least (P := fun x => x ∈ (List.range (ordN n zs e a)).map (Fin.po (tm n zs) e a)) ⟨hF.1.one, fun y z _ _ hy hz => hF.1.cl y z hy hz⟩ (fun y _ hy => by
        have hy : y = a := of_decide_eq_true hy
        rw [hy]
        by_cases h1 : ordN n zs e a = 1
        · have h2 := (ord_iff g ha 1).2 (by rw [h1]; exact Nat.dvd_refl 1)
          have h3 : Fin.po (tm n zs) e a 1 = a := g.left a ha
          rw [h3] at h2
          exact List.mem_map.2 ⟨0, List.mem_range.2 (by omega), h2.symm⟩
        · have h2 := ord_pos (n := n) (zs := zs) (e := e) a
          exact List.mem_map.2 ⟨1, List.mem_range.2 (by omega), g.left a ha⟩) ((mk1_iff n zs e a x hx).1 h1)
    · intro hx
      have hxl := List.mem_range.1 (hF.2 x hx)
      refine ⟨hxl, (mk1_iff n zs e a x hxl).2 ?_⟩
      obtain ⟨i, _, rfl⟩ := List.mem_map.1 hx
      exact Fin.Sg.pow (grp_fg g) (Fin.Gen.sg _) (List.mem_range.2 ha) (Fin.Gen.base (List.mem_range.2 ha) (by simp)) i
  have h1 := nodup_len _ _ hnd1 (fun z hz => (hmem z).1 hz)
  have h2 := nodup_len _ _ hF.1.nd (fun z hz => (hmem z).2 hz)
  rw [List.length_map, List.length_range] at h1 h2
  omega
theorem cauq_iff {n e p : Nat} {zs : List Int} (g : IsGrp n zs e) {a : Nat} (ha : a < n) : cauq n zs e p a = decide (ordN n zs e a = p) := by
  unfold cauq
  rw [mk1_len g ha]
theorem prime_of {p : Nat} (hpr : primeB p = true) : 2 ≤ p ∧ ∀ d, d ∣ p → d = 1 ∨ d = p := by
  have h := of_decide_eq_true hpr
  have h2 : 2 ≤ p := by omega
  refine ⟨h2, fun d hd => ?_⟩
  have h3 := Nat.le_of_dvd (by omega) hd
  have h4 : d ≠ 0 := fun e => by subst e; have := Nat.eq_zero_of_zero_dvd hd; omega
  by_cases h5 : d = 1
  · exact .inl h5
  · by_cases h6 : d = p
    · exact .inr h6
    · exact absurd (Nat.mod_eq_zero_of_dvd hd) (by have := h.2.2 d (by simp; omega) (by omega); simpa using this)
/-- Cauchy's theorem, with how many. -/
theorem cauchy_many {n e p : Nat} {zs : List Int} (g : IsGrp n zs e) (hpr : primeB p = true) : (n % p ≠ 0 → (lst n (cauq n zs e p)).length = 0) ∧ (n % p = 0 → ((lst n (cauq n zs e p)).length + 1) % p = 0) := by
  obtain ⟨hp2, hpd⟩ := prime_of hpr
  constructor
  · intro h
    rw [List.length_eq_zero_iff, List.eq_nil_iff_forall_not_mem]
    intro x hx
    obtain ⟨hxn, h1⟩ := mem_lst.1 hx
    rw [cauq_iff g hxn] at h1
    have h2 := of_decide_eq_true h1
    have h3 := lagrange g hxn
    rw [h2] at h3
    exact h (Nat.mod_eq_zero_of_dvd h3)
  · intro h
    have hF := Fin.frob n (List.range n) (tm n zs) e (grp_fg g) (by simp) p (Nat.dvd_of_mod_eq_zero h)
    have hone : ordN n zs e e = 1 := by
      have := ord_dvd g g.elt (k := 1) (by show tm n zs e e = e; exact g.left e g.elt)
      exact Nat.dvd_one.1 this
    have hsplit : ∀ x, x < n → (decide (Fin.po (tm n zs) e x p = e) = true ↔ (x = e ∨ cauq n zs e p x = true)) := fun x hx => by
      rw [decide_eq_true_eq, ord_iff g hx, cauq_iff g hx, decide_eq_true_eq]
      constructor
      · intro h1
        rcases hpd _ h1 with h2 | h2
        · left
          have h3 := (ord_iff g hx 1).2 (by rw [h2]; exact Nat.dvd_refl 1)
          have h4 : Fin.po (tm n zs) e x 1 = x := g.left x hx
          rw [h4] at h3
          exact h3
        · exact .inr h2
      · rintro (h1 | h1)
        · rw [h1, hone]; exact Nat.one_dvd p
        · rw [h1]; exact Nat.dvd_refl p
    have hno : ¬ cauq n zs e p e = true := by
      rw [cauq_iff g g.elt, hone, decide_eq_true_eq]
      omega
    have hnd0 : (lst n (cauq n zs e p)).Nodup := List.nodup_range.sublist List.filter_sublist
    have hnd1 : (e :: lst n (cauq n zs e p)).Nodup := List.nodup_cons.2 ⟨fun h9 => hno (mem_lst.1 h9).2, hnd0⟩
    have hnd2 : ((List.range n).filter fun x => decide (Fin.po (tm n zs) e x p = e)).Nodup := List.nodup_range.sublist List.filter_sublist
    have h1 := nodup_len (e :: lst n (cauq n zs e p)) ((List.range n).filter fun x => decide (Fin.po (tm n zs) e x p = e)) hnd1 (fun z hz => by
      rw [List.mem_filter, List.mem_range]
      rcases List.mem_cons.1 hz with h9 | h9
      · subst h9
        exact ⟨g.elt, (hsplit z g.elt).2 (.inl rfl)⟩
      · have h8 := mem_lst.1 h9
        exact ⟨h8.1, (hsplit z h8.1).2 (.inr h8.2)⟩)
    have h2 := nodup_len _ (e :: lst n (cauq n zs e p)) hnd2 (fun z hz => by
      obtain ⟨h8, h9⟩ := List.mem_filter.1 hz
      have h8 := List.mem_range.1 h8
      rcases (hsplit z h8).1 h9 with h7 | h7
      · rw [h7]; exact List.mem_cons_self
      · exact List.mem_cons_of_mem _ (mem_lst.2 ⟨h8, h7⟩))
    have h3 : Fin.cnt (List.range n) (tm n zs) e p = (lst n (cauq n zs e p)).length + 1 := by
      unfold Fin.cnt
      rw [List.length_cons] at h1 h2
      omega
    rw [← h3]
    exact Nat.mod_eq_zero_of_dvd hF
end Go.Proofs.YtpeidjnamajjgaaDoor

namespace Go.Proofs.YtpeidjnamajjgaaDoor
open Go Go.RowKit

set_option maxRecDepth 100000 in
set_option maxHeartbeats 8000000 in
theorem las_bad (k : Nat) (caps : Array Value) (c i : Int) (w : World) (hc : c ≠ 0) :
    Calls Tryd.prog 13 #[.slice none 0 0, .agg #[.int .i64 c, .int .i64 i], .agg #[.int .i64 c, .int .i64 i], .func (.func k) #[] caps] w fun x w' => x = .returned (.bool true) ∧ Below w.heap.size w w' := by
  have hcb : (c != 0) = true := by simpa using hc
  have hF1 : Blk ((w.alloc (.cells #[.int .i64 c, .int .i64 i] 26)).alloc (.cells #[.int .i64 c, .int .i64 i] 26)) w.heap.size 26 [.int .i64 c, .int .i64 i] := (blk0 _ _).alloc _
  have hF2 := blk0 (w := w.alloc (.cells #[.int .i64 c, .int .i64 i] 26)) (T := 26) (.int .i64 c) (.int .i64 i)
  rw [World.size_alloc] at hF2
  have hb : Below w.heap.size w ((w.alloc (.cells #[.int .i64 c, .int .i64 i] 26)).alloc (.cells #[.int .i64 c, .int .i64 i] 26)) := (balloc w _).alloc (by simp) _
  obtain ⟨f0, f1, _, _⟩ := hF1.two
  obtain ⟨g0, g1, _, _⟩ := hF2.two
  go_enter Tryd.func13, Tryd.ntmps13
  go_wp2
  go_ret
  exact ⟨rfl, hb⟩
set_option maxRecDepth 100000 in
set_option maxHeartbeats 8000000 in
theorem las_good (k : Nat) (caps : Array Value) (sv : Value) (xs ys : List Int) (w : World) (hs : Sl w sv xs)
    (hcall : ∀ W, Sem.run Tryd.prog (callFunc k caps) W = .ok (.enter k caps) W)
    (hk : ∀ W, Below w.heap.size w W → Calls Tryd.prog k caps W fun x w' => ∃ r, x = .returned r ∧ Sl w' r ys ∧ Below W.heap.size W w') :
    Calls Tryd.prog 13 #[sv, .agg #[.int .i64 0, .int .i64 0], .agg #[.int .i64 0, .int .i64 0], .func (.func k) #[] caps] w fun x w' => x = .returned (.bool (decide (xs = ys))) ∧ Below w.heap.size w w' := by
  have hF1 : Blk ((w.alloc (.cells #[.int .i64 0, .int .i64 0] 26)).alloc (.cells #[.int .i64 0, .int .i64 0] 26)) w.heap.size 26 [.int .i64 0, .int .i64 0] := (blk0 _ _).alloc _
  have hF2 := blk0 (w := w.alloc (.cells #[.int .i64 0, .int .i64 0] 26)) (T := 26) (.int .i64 0) (.int .i64 0)
  rw [World.size_alloc] at hF2
  have hb : Below w.heap.size w ((w.alloc (.cells #[.int .i64 0, .int .i64 0] 26)).alloc (.cells #[.int .i64 0, .int .i64 0] 26)) := (balloc w _).alloc (by simp) _
  obtain ⟨f0, f1, _, _⟩ := hF1.two
  obtain ⟨g0, g1, _, _⟩ := hF2.two
  have HK := hide hk
  clear hk
  go_enter Tryd.func13, Tryd.ntmps13
  go_wp2_with fail
  generalize (w.alloc (.cells #[.int .i64 0, .int .i64 0] 26)).alloc (.cells #[.int .i64 0, .int .i64 0] 26) = w0 at *
  refine (HK.out w0 hb).mono ?_
  rintro x w1 ⟨r, rfl, hr, hb1⟩
  go_wp2_with fail
  refine (ints_any sv r xs ys w1 (hs.below (bcat2 hb hb1)) hr).mono ?_
  rintro x w2 ⟨rfl, hb2⟩
  go_wp2
  go_ret
  exact ⟨rfl, bcat2 (bcat2 hb hb1) hb2⟩

/-- What is wrong with a table and a prime. -/
def pfault (N : Int) (zs : List Int) (p : Int) : Int × Int := if (gfault N zs).1 = 0 ∧ primeB p = false then (3, 1) else gfault N zs
set_option maxRecDepth 100000 in
set_option maxHeartbeats 4000000 in
theorem sc2_ok (n e a gb pb : Nat) (p : Int) (v : Value) (zs : List Int) (w : World) (hv : Sl w v zs) (hg : IsGrp n zs e) (ha : a < n) (hX : Blk w gb 24 [.int .i64 n, v]) (hpb : Boxed w pb 3 (.int .i64 p)) :
    Calls Tryd.prog 16 (#[.int .i64 a] ++ #[.pointer (some ⟨gb, 0, none⟩), .pointer (some ⟨pb, 0, none⟩)]) w fun y w' => y = .returned (.bool (decide ((ordN n zs e a : Int) = p))) ∧ Below w.heap.size w w' := by
  show Calls Tryd.prog 16 #[.int .i64 a, .pointer (some ⟨gb, 0, none⟩), .pointer (some ⟨pb, 0, none⟩)] w _
  obtain ⟨c0, c1, _, _⟩ := hX.two
  have c4 := hpb.cell
  have HO := hide (fun W (h : Below w.heap.size w W) => O_ok hg ha v W (hv.below h))
  have hS : ∀ W, Below w.heap.size w W → ((fun W9 => Below w.heap.size w W9 ∧ W9.cell? ⟨gb, 0, none⟩ = some (.int .i64 n) ∧ W9.cell? ⟨gb, 1, none⟩ = some v ∧ W9.cell? ⟨pb, 0, none⟩ = some (.int .i64 p)) W) := fun W h => ⟨h, below_cell h c0, below_cell h c1, below_cell h c4⟩
  have hS0 := hS _ (bdrew (Below.refl _ w))
  have hBc : Below w.heap.size w w.drew := bdrew (Below.refl _ w)
  generalize ordN n zs e a = q9 at *
  clear c0 c1 c4 hpb hX
  go_enter Tryd.func16, Tryd.ntmps16
  go_wp2_with fail
  refine wp_region_held_drew (S := (fun W9 => Below w.heap.size w W9 ∧ W9.cell? ⟨gb, 0, none⟩ = some (.int .i64 n) ∧ W9.cell? ⟨gb, 1, none⟩ = some v ∧ W9.cell? ⟨pb, 0, none⟩ = some (.int .i64 p))) (by kernel_rfl) hS0 (fun hHeld => ?_)
  refine wpAnyH_take (i := 0) (oi := ({ dst := some 5, op := Go.Op.load 24 (Go.Operand.tmp 1), type := 24, pos := _, after := #[], guard := none } : Oper)) (v := ?_) rfl (by kernel_rfl) (by kernel_rfl) (by kernel_rfl) (fun _ _ _ h => h) (Or.inl ⟨by rfl, ?_⟩) (by assumption) ?_
  rotate_left
  · (intro w hSw; (try dsimp only at hSw); go_simp; try with_reducible rfl)
  simp only [Act.put, List.setIfInBounds_toArray, List.set_cons_zero, List.set_cons_succ]
  refine wpAnyH_take (i := 1) (oi := ({ dst := some 6, op := Go.Op.move (Go.Operand.tmp 0), type := 3, pos := _, after := #[], guard := none } : Oper)) (v := ?_) rfl (by kernel_rfl) (by kernel_rfl) (by kernel_rfl) (fun _ _ _ h => h) (Or.inl ⟨by rfl, ?_⟩) (by assumption) ?_
  rotate_left
  · (intro w hSw; (try dsimp only at hSw); go_simp; try with_reducible rfl)
  simp only [Act.put, List.setIfInBounds_toArray, List.set_cons_zero, List.set_cons_succ]
  refine wpAnyH_take (i := 3) (oi := ({ dst := some 8, op := Go.Op.load 3 (Go.Operand.tmp 2), type := 3, pos := _, after := #[], guard := none } : Oper)) (v := ?_) rfl (by kernel_rfl) (by kernel_rfl) (by kernel_rfl) (fun _ _ _ h => h) (Or.inl ⟨by rfl, ?_⟩) (by assumption) ?_
  rotate_left
  · (intro w hSw; (try dsimp only at hSw); go_simp; try with_reducible rfl)
  simp only [Act.put, List.setIfInBounds_toArray, List.set_cons_zero, List.set_cons_succ]
  refine wpAnyH_ready (rs := [2]) (by kernel_rfl) (by simp) (AllReadyH.cons (o := ({ dst := some 7, op := Go.Op.call { callee := Go.Callee.value (Go.Operand.func 17), args := #[Go.Operand.tmp 5, Go.Operand.tmp 6], argTypes := #[24, 3] }, type := 3, pos := _, after := #[{ on := 0, ground := Go.Ground.data }, { on := 1, ground := Go.Ground.data }], guard := none } : Oper)) rfl (fun KK hK => ?_) AllReadyH.nil)
  go_simp
  refine (HO.out _ hBc).mono ?_
  rintro e6 U2 ⟨rfl, hl2⟩
  try go_wp2_with fail
  have hBe := bcat2 hBc hl2
  refine hK.out _ _ (hS _ hBe) (fun hHeld => ?_)
  clear hK
  try simp only [Act.put, List.setIfInBounds_toArray, List.set_cons_zero, List.set_cons_succ]
  refine wpAnyH_take (i := 4) (oi := ({ dst := some 9, op := Go.Op.binOp Go.BinOp.eql 3 (Go.Operand.tmp 7) (Go.Operand.tmp 8) 3, type := 4, pos := _, after := #[{ on := 2, ground := Go.Ground.data }, { on := 3, ground := Go.Ground.data }], guard := none } : Oper)) (v := ?_) rfl (by kernel_rfl) (by kernel_rfl) (by kernel_rfl) (fun _ _ _ h => h) (Or.inl ⟨by rfl, ?_⟩) (by assumption) ?_
  rotate_left
  · (intro w hSw; (try dsimp only at hSw); go_simp; try with_reducible rfl)
  simp only [Act.put, List.setIfInBounds_toArray, List.set_cons_zero, List.set_cons_succ]
  refine wpAnyH_take (i := 5) (oi := ({ dst := some 4, op := Go.Op.assign (Go.Operand.tmp 9), type := 4, pos := _, after := #[{ on := 4, ground := Go.Ground.data }, { on := 2, ground := Go.Ground.chain }, { on := 0, ground := Go.Ground.phase }, { on := 1, ground := Go.Ground.phase }, { on := 2, ground := Go.Ground.phase }, { on := 3, ground := Go.Ground.phase }, { on := 4, ground := Go.Ground.phase }], guard := none } : Oper)) (v := ?_) rfl (by kernel_rfl) (by kernel_rfl) (by kernel_rfl) (fun _ _ _ h => h) (Or.inl ⟨by rfl, ?_⟩) (by assumption) ?_
  rotate_left
  · (intro w hSw; (try dsimp only at hSw); go_simp; try with_reducible rfl)
  simp only [Act.put, List.setIfInBounds_toArray, List.set_cons_zero, List.set_cons_succ]
  refine wpAnyH_done (by kernel_rfl) ?_ _
  clear hHeld hS hS0
  go_wp2
  go_ret
  refine ⟨?_, hBe⟩
  show Ending.returned (Value.bool ((q9 : Int) == p)) = _
  congr 2
theorem call16 (a : Int) (x y : Value) (W : World) : Sem.run Tryd.prog (callFunc 16 (#[.int .i64 a] ++ #[x, y])) W = .ok (.enter 16 (#[.int .i64 a] ++ #[x, y])) W := by kernel_rfl
theorem call14 (x y : Value) (W : World) : Sem.run Tryd.prog (callFunc 14 #[x, y]) W = .ok (.enter 14 #[x, y]) W := by kernel_rfl
set_option maxRecDepth 100000 in
set_option maxHeartbeats 4000000 in
theorem sc1_ok (n e gb pb : Nat) (p : Int) (v : Value) (zs : List Int) (w : World) (hv : Sl w v zs) (hg : IsGrp n zs e) (h0 : 0 < w.heap.size) (hX : Blk w gb 24 [.int .i64 n, v]) (hpb : Boxed w pb 3 (.int .i64 p)) :
    Calls Tryd.prog 14 #[.pointer (some ⟨gb, 0, none⟩), .pointer (some ⟨pb, 0, none⟩)] w fun y w' => ∃ r, y = .returned r ∧ Sl w' r (li (lst n (fun a => decide ((ordN n zs e a : Int) = p)))) ∧ Below w.heap.size w w' := by
  obtain ⟨c0, c1, _, _⟩ := hX.two
  have HTH := hide (rthose_ok n 16 v #[.pointer (some ⟨gb, 0, none⟩), .pointer (some ⟨pb, 0, none⟩)] (fun a => decide ((ordN n zs e a : Int) = p)) w hg.tab.le (fun a W => call16 a _ _ W) (fun W a hW ha => sc2_ok n e a gb pb p v zs W (hv.below hW) hg ha (blk_below hX hW) (Boxed.below hpb hW)))
  go_enter Tryd.func14, Tryd.ntmps14
  go_wp2_with fail
  refine HTH.out.mono ?_
  rintro x w1 ⟨r, rfl, hr, hb1⟩
  obtain ⟨ra, rcap, rfl⟩ := own_slice hr
  go_wp2
  go_ret
  exact ⟨_, rfl, row_sl hr (Nat.lt_of_lt_of_le h0 hb1.size), hb1⟩
end Go.Proofs.YtpeidjnamajjgaaDoor

namespace Go.Proofs.YtpeidjnamajjgaaDoor
open Go Go.RowKit

set_option maxRecDepth 100000 in
set_option maxHeartbeats 4000000 in
theorem pf_ok (N p : Int) (v : Value) (zs : List Int) (w : World) (hv : Sl w v zs) :
    Calls Tryd.prog 11 #[.agg #[.int .i64 N, v], .int .i64 p] w fun x w' => x = .returned (.agg #[.int .i64 (pfault N zs p).1, .int .i64 (pfault N zs p).2]) ∧ Below w.heap.size w w' := by
  obtain ⟨w0, BG⟩ := Beg.new w N v
  have hv0 := hv.below BG.bel
  obtain ⟨c0, c1, _, _⟩ := BG.box.two
  have hgf := groupFault_any N v zs w0 hv0
  have HPF := hide (show pfault N zs p = if (gfault N zs).1 = 0 ∧ primeB p = false then (3, 1) else gfault N zs from rfl)
  generalize pfault N zs p = pf at *
  generalize gfault N zs = gf at *
  obtain ⟨c, i⟩ := gf
  simp only at hgf
  have HGF := hide hgf
  clear hgf
  have HZ0 := hide (show w.heap.size + 2 ≤ w0.heap.size by rw [BG.eq]; simp)
  rw [BG.eq] at c0 c1
  go_enter Tryd.func11, Tryd.ntmps11
  go_wp2_with fail
  rw [← BG.eq]
  refine HGF.out.mono ?_
  rintro x w1 ⟨rfl, hb1⟩
  clear c0 c1 HGF
  obtain ⟨w2, hw2⟩ : ∃ w2, w2 = w1.alloc (.cells #[.int .i64 c, .int .i64 i] 26) := ⟨_, rfl⟩
  have hB2 : Below w0.heap.size w0 w2 := by rw [hw2]; exact bcat2 hb1 (balloc w1 _)
  have hF2 : Blk w2 w1.heap.size 26 [.int .i64 c, .int .i64 i] := by rw [hw2]; exact blk0 _ _
  have hR2 := blk_below BG.res hB2
  have hBw := bcat BG.bel hB2 BG.bel.size
  have hz1 : w.heap.size + 2 ≤ w1.heap.size := Nat.le_trans HZ0.out hb1.size
  obtain ⟨t0, t1, _, _⟩ := hF2.two
  by_cases hc : c = 0
  · subst hc
    cases hpr : primeB p with
    | true =>
      have HPR := hide (lprime_ok p w2)
      rw [hpr] at HPR
      have hpf : pf = (0, i) := by rw [HPF.out, hpr]; simp
      rw [hw2] at t0 t1
      go_wp2_with fail
      rw [← hw2]
      clear hw2 t0 t1
      refine HPR.out.mono ?_
      rintro x w3 ⟨rfl, hb3⟩
      have hF3 := blk_below hF2 hb3
      have hR3 := blk_below hR2 hb3
      have hB3 := bcat2 hBw hb3
      obtain ⟨t0, t1, _, _⟩ := hF3.two
      obtain ⟨y0, y1, fy0, fy1⟩ := hR3.two
      go_wp2
      obtain ⟨hR6, hB6⟩ := put2 hR3 hB3 (by omega) 0 i
      obtain ⟨z0, z1, _, _⟩ := hR6.two
      exact bodyPost_ret (v := .agg #[.int .i64 0, .int .i64 i]) (by simp [results, Tryd.results11, go_sem, z0, z1]) rfl ⟨by rw [hpf], hB6⟩
    | false =>
      have HPR := hide (lprime_ok p w2)
      rw [hpr] at HPR
      have hpf : pf = (3, 1) := by rw [HPF.out, hpr]; simp
      rw [hw2] at t0 t1
      go_wp2_with fail
      rw [← hw2]
      clear hw2 t0 t1
      refine HPR.out.mono ?_
      rintro x w3 ⟨rfl, hb3⟩
      go_wp2_with fail
      refine (f_any 3 1 w3).mono ?_
      rintro x w4 ⟨rfl, hb4⟩
      have hb34 := bcat2 hb3 hb4
      have hF3 := blk_below hF2 hb34
      have hR3 := blk_below hR2 hb34
      have hB3 := bcat2 hBw hb34
      obtain ⟨hF5, hB5⟩ := put2 hF3 hB3 (by omega) 3 1
      have hR5 : Blk ((w4.setCell ⟨w1.heap.size, 0, none⟩ (.int .i64 3)).setCell ⟨w1.heap.size, 1, none⟩ (.int .i64 1)) (w.heap.size + 1) 26 [.int .i64 0, .int .i64 0] := (hR3.other (p := ⟨w1.heap.size, 0, none⟩) (by simp; omega) (.int .i64 3)).other (p := ⟨w1.heap.size, 1, none⟩) (by simp; omega) (.int .i64 1)
      obtain ⟨t0, t1, ft0, ft1⟩ := hF3.two
      obtain ⟨q0, q1, _, _⟩ := hF5.two
      obtain ⟨y0, y1, fy0, fy1⟩ := hR5.two
      go_wp2
      obtain ⟨hR6, hB6⟩ := put2 hR5 hB5 (by omega) 3 1
      obtain ⟨z0, z1, _, _⟩ := hR6.two
      exact bodyPost_ret (v := .agg #[.int .i64 3, .int .i64 1]) (by simp [results, Tryd.results11, go_sem, z0, z1]) rfl ⟨by rw [hpf], hB6⟩
  · have hcb : (c == 0) = false := by simpa using hc
    have hpf : pf = (c, i) := by rw [HPF.out]; simp [hc]
    obtain ⟨y0, y1, fy0, fy1⟩ := hR2.two
    rw [hw2] at t0 t1 y0 y1 fy0 fy1
    go_wp2
    rw [← hw2]
    obtain ⟨hR6, hB6⟩ := put2 hR2 hBw (by omega) c i
    obtain ⟨z0, z1, _, _⟩ := hR6.two
    exact bodyPost_ret (v := .agg #[.int .i64 c, .int .i64 i]) (by simp [results, Tryd.results11, go_sem, z0, z1]) rfl ⟨by rw [hpf], hB6⟩
end Go.Proofs.YtpeidjnamajjgaaDoor

namespace Go.Proofs.YtpeidjnamajjgaaDoor
open Go Go.RowKit

theorem mkA {X U : World} {x y : Value} (k : Below (X.alloc (.cells #[x, y] 26)).heap.size (X.alloc (.cells #[x, y] 26)) U) : Blk U X.heap.size 26 [x, y] := blk_below (blk0 x y) k
theorem undA {W U : World} (k : Below W.drew.heap.size W.drew U) : Below W.heap.size W U := ⟨k.os, k.tape, k.output, k.size, k.block⟩
/-- What lies there behind the first call. -/
def IRel (w0 : World) (C : Int → Int → List Int → Prop) (s5 s6 : Value) (wx : World) : Prop := ∃ (b : Nat) (a : Option Addr) (cp : Nat) (c i : Int) (L : List Int), s5 = .slice a L.length cp ∧ s6 = .pointer (some ⟨b, 0, none⟩) ∧ w0.heap.size ≤ b ∧ Blk wx b 26 [.int .i64 c, .int .i64 i] ∧ Sl wx (.slice a L.length cp) L ∧ C c i L ∧ Below w0.heap.size w0 wx
theorem irel_put {w0 U : World} {C : Int → Int → List Int → Prop} {c i : Int} {L : List Int} {x y : Value} {b : Nat} {a : Option Addr} {cp : Nat} (hb : w0.heap.size ≤ b) (hB : Below w0.heap.size w0 U) (hp : Blk U b 26 [x, y]) (hs : Sl ((U.setCell ⟨b, 0, none⟩ (.int .i64 c)).setCell ⟨b, 1, none⟩ (.int .i64 i)) (.slice a L.length cp) L) (hC : C c i L) : IRel w0 C (.slice a L.length cp) (.pointer (some ⟨b, 0, none⟩)) ((U.setCell ⟨b, 0, none⟩ (.int .i64 c)).setCell ⟨b, 1, none⟩ (.int .i64 i)) :=
  ⟨b, a, cp, c, i, L, rfl, rfl, hb, (hp.set 0 _).set 1 _, hs, hC, bSet (bSet hB hb) hb⟩
theorem irel_new {w0 U : World} {C : Int → Int → List Int → Prop} {c i : Int} {L : List Int} {a : Option Addr} {cp : Nat} (hB : Below w0.heap.size w0 U) (hs : Sl U (.slice a L.length cp) L) (hC : C c i L) : IRel w0 C (.slice a L.length cp) (.pointer (some ⟨U.heap.size, 0, none⟩)) (U.alloc (.cells #[.int .i64 c, .int .i64 i] 26)) :=
  ⟨U.heap.size, a, cp, c, i, L, rfl, rfl, hB.size, blk0 _ _, hs.below (balloc _ _), hC, bcat2 hB (balloc _ _)⟩
set_option maxRecDepth 100000 in
set_option maxHeartbeats 8000000 in
theorem las_none (k cp : Nat) (sa : Option Addr) (caps : Array Value) (c i : Int) (w : World) (hc : c ≠ 0) :
    Calls Tryd.prog 13 #[.slice sa 0 cp, .agg #[.int .i64 c, .int .i64 i], .agg #[.int .i64 c, .int .i64 i], .func (.func k) #[] caps] w fun x w' => x = .returned (.bool true) ∧ Below w.heap.size w w' := by
  have hcb : (c != 0) = true := by simpa using hc
  have hF1 : Blk ((w.alloc (.cells #[.int .i64 c, .int .i64 i] 26)).alloc (.cells #[.int .i64 c, .int .i64 i] 26)) w.heap.size 26 [.int .i64 c, .int .i64 i] := (blk0 _ _).alloc _
  have hF2 := blk0 (w := w.alloc (.cells #[.int .i64 c, .int .i64 i] 26)) (T := 26) (.int .i64 c) (.int .i64 i)
  rw [World.size_alloc] at hF2
  have hb : Below w.heap.size w ((w.alloc (.cells #[.int .i64 c, .int .i64 i] 26)).alloc (.cells #[.int .i64 c, .int .i64 i] 26)) := (balloc w _).alloc (by simp) _
  obtain ⟨f0, f1, _, _⟩ := hF1.two
  obtain ⟨g0, g1, _, _⟩ := hF2.two
  go_enter Tryd.func13, Tryd.ntmps13
  go_wp2
  go_ret
  exact ⟨rfl, hb⟩
set_option maxRecDepth 100000 in
set_option maxHeartbeats 8000000 in
theorem scau_law_bad (N p tc ti : Int) (C : Int → Int → List Int → Prop) (hCC : ∀ c i L, C c i L → c = tc ∧ i = ti ∧ L = []) (hc : tc ≠ 0) (v1 : Option Addr) (v2 v3 : Nat) (zs : List Int) (w : World) (hT : Tab w)
    (HO1 : Hid (∀ W, Below w.heap.size w W → Calls Tryd.prog 10 #[.agg #[.int .i64 N, .slice v1 v2 v3]] W fun x W' => ∃ u1 u2 u3, x = .returned (.agg #[.int .i64 N, .slice u1 u2 u3]) ∧ Sl W' (.slice u1 u2 u3) zs ∧ Below W.heap.size W W'))
    (HIS : Hid (∀ W u, Below w.heap.size w W → Sl W u zs → Calls Tryd.prog 9 #[.agg #[.int .i64 N, u], .int .i64 p] W fun x W' => ∃ (a : Option Addr) (cp : Nat) (c i : Int) (L : List Int), x = .returned (.tuple #[.slice a L.length cp, .agg #[.int .i64 c, .int .i64 i]]) ∧ Sl W' (.slice a L.length cp) L ∧ (∀ b p q, b < W.heap.size → Sl ((W'.setCell ⟨b, 0, none⟩ p).setCell ⟨b, 1, none⟩ q) (.slice a L.length cp) L) ∧ C c i L ∧ Below W.heap.size W W'))
    (HPF : Hid (∀ W, Below w.heap.size w W → Calls Tryd.prog 11 #[.agg #[.int .i64 N, .slice v1 v2 v3], .int .i64 p] W fun x W' => x = .returned (.agg #[.int .i64 tc, .int .i64 ti]) ∧ Below W.heap.size W W')) :
    Calls Tryd.prog 3 #[.agg #[.int .i64 N, .slice v1 v2 v3], .int .i64 p] w fun e w' => e = .returned (.bool true) ∧ Below w.heap.size w w' := by
  have hcb : (tc != 0) = true := by simpa using hc
  obtain ⟨w0, hw0⟩ : ∃ w0, w0 = (w.alloc (.cells #[.int .i64 N, .slice v1 v2 v3] 24)).alloc (.cells #[.int .i64 p] 3) := ⟨_, rfl⟩
  have hB0 : Below w.heap.size w w0 := by rw [hw0]; exact (balloc w _).alloc (by simp) _
  have hX0 : BoxG w0 w.heap.size N (.slice v1 v2 v3) := by rw [hw0]; exact (blk0 (w := w) (T := 24) _ _).alloc _
  have hY0 : Boxed w0 (w.heap.size + 1) 3 (.int .i64 p) := by
    rw [hw0]
    have := Boxed.new (w.alloc (.cells #[.int .i64 N, .slice v1 v2 v3] 24)) 3 (.int .i64 p)
    rwa [World.size_alloc] at this
  have hs0 : w.heap.size + 2 ≤ w0.heap.size := by rw [hw0]; simp
  obtain ⟨c0, c1, _, _⟩ := hX0.two
  have d0 := hY0.cell
  have hS : ∀ W9, Below w0.heap.size w0 W9 → (Below w0.heap.size w0 W9 ∧ W9.cell? ⟨w.heap.size, 0, none⟩ = some (.int .i64 N) ∧ W9.cell? ⟨w.heap.size, 1, none⟩ = some (.slice v1 v2 v3) ∧ W9.cell? ⟨w.heap.size + 1, 0, none⟩ = some (.int .i64 p)) := fun W9 h => ⟨h, below_cell h c0, below_cell h c1, below_cell h d0⟩
  have hS0 := hS _ (bdrew (Below.refl _ w0))
  clear c0 c1 d0
  go_enter Tryd.func3, Tryd.ntmps3
  go_wp2_with fail
  rw [← hw0]
  clear hw0
  go_cut [5, 6] (fun s5 s6 wx => IRel w0 C s5 s6 wx)
  case first =>
    clear HPF
    go_region_held3 (fun W9 => Below w0.heap.size w0 W9 ∧ W9.cell? ⟨w.heap.size, 0, none⟩ = some (.int .i64 N) ∧ W9.cell? ⟨w.heap.size, 1, none⟩ = some (.slice v1 v2 v3) ∧ W9.cell? ⟨w.heap.size + 1, 0, none⟩ = some (.int .i64 p))
      (first | exact hS0 | assumption | exact hS _ (bcat2 (And.left ‹_›) hl7) | exact hS _ (bcat2 (And.left ‹_›) hl5) | exact hS _ (bcat2 (And.left ‹_›) (balloc _ _)) | exact hS _ (bcat2 hU7 (balloc _ _)) | exact hS _ (bSet (bSet hU7 hU5.size) hU5.size) | exact hS _ (bSet (bSet hU7 (Nat.le_refl _)) (Nat.le_refl _)))
      (first
        | (go_at_call 10; refine (HO1.out _ (bcat2 hB0 (And.left ‹_›))).mono ?_; rintro e5 U5 ⟨a1, a2, a3, rfl, ha5, hl5⟩; have hU5 := bcat2 (And.left ‹_›) hl5; (first | (with_reducible have pA := mkA hl5; have ltA := pA.lt) | (with_reducible have pA := mkA (undA hl5); have ltA := pA.lt) | skip))
        | (go_at_call 9; refine (HIS.out _ _ (bcat2 hB0 (And.left ‹_›)) (by first | exact ha5 | exact ha5.below (balloc _ _))).mono ?_; rintro e7 U7 ⟨q1, q3, qc, qi, QL, rfl, hs7, hst7, hC7, hl7⟩; (first | (with_reducible have pC := mkA hl7) | skip); (first | (with_reducible have pA := blk_below pA hl7) | skip); (try (obtain ⟨_, _, _, _⟩ := pA.two)); (try (obtain ⟨_, _, _, _⟩ := pC.two)); have hU7 := bcat2 (And.left ‹_›) hl7))
    all_goals (go_wp2; go_meet)
    all_goals (first
      | exact irel_new hU7 hs7 hC7
      | exact irel_put hU5.size hU7 pC (hst7 _ _ _ (by simp)) hC7
      | exact irel_put (Nat.le_refl _) hU7 pA (hst7 _ _ _ ltA) hC7)
  case rest =>
    obtain ⟨fb, ra, rc, c, i, L, rfl, rfl, hfb, hF, hsl, hC, hbx⟩ := hcut
    have hB := bcat2 hB0 hbx
    have hX := blk_below hX0 hbx
    have hY := Boxed.below hY0 hbx
    clear HO1 HIS hS hS0 hX0 hY0
    obtain ⟨c0, c1, _, _⟩ := hX.two
    have d0 := hY.cell
    go_wp2_with fail
    clear c0 c1 d0
    refine (HPF.out _ hB).mono ?_
    rintro x w4 ⟨rfl, hb4⟩
    obtain ⟨w5, hw5⟩ : ∃ w5, w5 = w4.alloc (.cells #[.int .i64 tc, .int .i64 ti] 26) := ⟨_, rfl⟩
    have hb5 : Below w4.heap.size w4 w5 := by rw [hw5]; exact balloc w4 _
    have hW5 : Blk w5 w4.heap.size 26 [.int .i64 tc, .int .i64 ti] := by rw [hw5]; exact blk0 (w := w4) (T := 26) _ _
    have hB5 := bcat2 hB (bcat2 hb4 hb5)
    have hX5 := blk_below hX (bcat2 hb4 hb5)
    have hY5 := Boxed.below hY (bcat2 hb4 hb5)
    have hF5 := blk_below hF (bcat2 hb4 hb5)
    have hsl5 := hsl.below (bcat2 hb4 hb5)
    go_wp2_with fail
    rw [← hw5]
    clear hw5
    refine (sylowBegun_any _ (hT.below hB5)).mono ?_
    rintro x w8 ⟨rfl, hb8⟩
    have hB8 := bcat2 hB5 hb8
    have hX8 := blk_below hX5 hb8
    have hY8 := Boxed.below hY5 hb8
    have hF8 := blk_below hF5 hb8
    have hW8 := blk_below hW5 hb8
    have hsl8 := hsl5.below hb8
    clear hX hY hF hsl hX5 hY5 hF5 hW5 hsl5 hB5 hB hb4 hb5 hb8 hbx
    obtain ⟨f0, f1, _, _⟩ := hF8.two
    obtain ⟨g0, g1, _, _⟩ := hW8.two
    obtain ⟨rfl, rfl, rfl⟩ := hCC _ _ _ hC
    go_wp2_with fail
    refine (las_none 14 _ _ _ _ _ w8 hc).mono ?_
    rintro x w9 ⟨rfl, hb9⟩
    have hW9 := blk_below hW8 hb9
    clear f0 f1 g0 g1
    obtain ⟨g0, g1, _, _⟩ := hW9.two
    have hB9 := bcat2 hB8 hb9
    go_wp2
    go_ret
    exact ⟨rfl, hB9⟩
set_option maxRecDepth 100000 in
set_option maxHeartbeats 8000000 in
theorem scau_law_good (N p tc ti : Int) (C : Int → Int → List Int → Prop) (n e q : Nat) (hN : N = n) (hp : p = q) (htc : tc = 0) (hti : ti = 0) (hq2 : 2 ≤ q) (hq1 : q ≤ 100) (LL : List Int) (hCC : ∀ c i L, C c i L → c = 0 ∧ i = 0 ∧ L = LL) (v1 : Option Addr) (v2 v3 : Nat) (zs : List Int) (w : World) (hT : Tab w)
    (HO1 : Hid (∀ W, Below w.heap.size w W → Calls Tryd.prog 10 #[.agg #[.int .i64 N, .slice v1 v2 v3]] W fun x W' => ∃ u1 u2 u3, x = .returned (.agg #[.int .i64 N, .slice u1 u2 u3]) ∧ Sl W' (.slice u1 u2 u3) zs ∧ Below W.heap.size W W'))
    (HIS : Hid (∀ W u, Below w.heap.size w W → Sl W u zs → Calls Tryd.prog 9 #[.agg #[.int .i64 N, u], .int .i64 p] W fun x W' => ∃ (a : Option Addr) (cp : Nat) (c i : Int) (L : List Int), x = .returned (.tuple #[.slice a L.length cp, .agg #[.int .i64 c, .int .i64 i]]) ∧ Sl W' (.slice a L.length cp) L ∧ (∀ b p q, b < W.heap.size → Sl ((W'.setCell ⟨b, 0, none⟩ p).setCell ⟨b, 1, none⟩ q) (.slice a L.length cp) L) ∧ C c i L ∧ Below W.heap.size W W'))
    (HPF : Hid (∀ W, Below w.heap.size w W → Calls Tryd.prog 11 #[.agg #[.int .i64 N, .slice v1 v2 v3], .int .i64 p] W fun x W' => x = .returned (.agg #[.int .i64 tc, .int .i64 ti]) ∧ Below W.heap.size W W'))
    (hgp : IsGrp n zs e) (hvv : Sl w (.slice v1 v2 v3) zs) (hLL : li (lst n (fun a => decide ((ordN n zs e a : Int) = (q : Int)))) = LL) (hm1 : n % q ≠ 0 → LL.length = 0) (hm2 : n % q = 0 → (LL.length + 1) % q = 0) (hl60 : LL.length ≤ 60) :
    Calls Tryd.prog 3 #[.agg #[.int .i64 N, .slice v1 v2 v3], .int .i64 p] w fun e w' => e = .returned (.bool true) ∧ Below w.heap.size w w' := by
  subst hN hp htc hti
  have hn := hgp.tab.le
  obtain ⟨w0, hw0⟩ : ∃ w0, w0 = (w.alloc (.cells #[.int .i64 n, .slice v1 v2 v3] 24)).alloc (.cells #[.int .i64 q] 3) := ⟨_, rfl⟩
  have hB0 : Below w.heap.size w w0 := by rw [hw0]; exact (balloc w _).alloc (by simp) _
  have hX0 : BoxG w0 w.heap.size n (.slice v1 v2 v3) := by rw [hw0]; exact (blk0 (w := w) (T := 24) _ _).alloc _
  have hY0 : Boxed w0 (w.heap.size + 1) 3 (.int .i64 q) := by
    rw [hw0]
    have := Boxed.new (w.alloc (.cells #[.int .i64 n, .slice v1 v2 v3] 24)) 3 (.int .i64 q)
    rwa [World.size_alloc] at this
  have hs0 : w.heap.size + 2 ≤ w0.heap.size := by rw [hw0]; simp
  obtain ⟨c0, c1, _, _⟩ := hX0.two
  have d0 := hY0.cell
  have hS : ∀ W9, Below w0.heap.size w0 W9 → (Below w0.heap.size w0 W9 ∧ W9.cell? ⟨w.heap.size, 0, none⟩ = some (.int .i64 n) ∧ W9.cell? ⟨w.heap.size, 1, none⟩ = some (.slice v1 v2 v3) ∧ W9.cell? ⟨w.heap.size + 1, 0, none⟩ = some (.int .i64 q)) := fun W9 h => ⟨h, below_cell h c0, below_cell h c1, below_cell h d0⟩
  have hS0 := hS _ (bdrew (Below.refl _ w0))
  clear c0 c1 d0
  go_enter Tryd.func3, Tryd.ntmps3
  go_wp2_with fail
  rw [← hw0]
  clear hw0
  go_cut [5, 6] (fun s5 s6 wx => IRel w0 C s5 s6 wx)
  case first =>
    clear HPF
    go_region_held3 (fun W9 => Below w0.heap.size w0 W9 ∧ W9.cell? ⟨w.heap.size, 0, none⟩ = some (.int .i64 n) ∧ W9.cell? ⟨w.heap.size, 1, none⟩ = some (.slice v1 v2 v3) ∧ W9.cell? ⟨w.heap.size + 1, 0, none⟩ = some (.int .i64 q))
      (first | exact hS0 | assumption | exact hS _ (bcat2 (And.left ‹_›) hl7) | exact hS _ (bcat2 (And.left ‹_›) hl5) | exact hS _ (bcat2 (And.left ‹_›) (balloc _ _)) | exact hS _ (bcat2 hU7 (balloc _ _)) | exact hS _ (bSet (bSet hU7 hU5.size) hU5.size) | exact hS _ (bSet (bSet hU7 (Nat.le_refl _)) (Nat.le_refl _)))
      (first
        | (go_at_call 10; refine (HO1.out _ (bcat2 hB0 (And.left ‹_›))).mono ?_; rintro e5 U5 ⟨a1, a2, a3, rfl, ha5, hl5⟩; have hU5 := bcat2 (And.left ‹_›) hl5; (first | (with_reducible have pA := mkA hl5; have ltA := pA.lt) | (with_reducible have pA := mkA (undA hl5); have ltA := pA.lt) | skip))
        | (go_at_call 9; refine (HIS.out _ _ (bcat2 hB0 (And.left ‹_›)) (by first | exact ha5 | exact ha5.below (balloc _ _))).mono ?_; rintro e7 U7 ⟨q1, q3, qc, qi, QL, rfl, hs7, hst7, hC7, hl7⟩; (first | (with_reducible have pC := mkA hl7) | skip); (first | (with_reducible have pA := blk_below pA hl7) | skip); (try (obtain ⟨_, _, _, _⟩ := pA.two)); (try (obtain ⟨_, _, _, _⟩ := pC.two)); have hU7 := bcat2 (And.left ‹_›) hl7))
    all_goals (go_wp2; go_meet)
    all_goals (first
      | exact irel_new hU7 hs7 hC7
      | exact irel_put hU5.size hU7 pC (hst7 _ _ _ (by simp)) hC7
      | exact irel_put (Nat.le_refl _) hU7 pA (hst7 _ _ _ ltA) hC7)
  case rest =>
    obtain ⟨fb, ra, rc, c, i, L, rfl, rfl, hfb, hF, hsl, hC, hbx⟩ := hcut
    have hB := bcat2 hB0 hbx
    have hX := blk_below hX0 hbx
    have hY := Boxed.below hY0 hbx
    clear HO1 HIS hS hS0 hX0 hY0
    obtain ⟨c0, c1, _, _⟩ := hX.two
    have d0 := hY.cell
    go_wp2_with fail
    clear c0 c1 d0
    refine (HPF.out _ hB).mono ?_
    rintro x w4 ⟨rfl, hb4⟩
    obtain ⟨w5, hw5⟩ : ∃ w5, w5 = w4.alloc (.cells #[.int .i64 0, .int .i64 0] 26) := ⟨_, rfl⟩
    have hb5 : Below w4.heap.size w4 w5 := by rw [hw5]; exact balloc w4 _
    have hW5 : Blk w5 w4.heap.size 26 [.int .i64 0, .int .i64 0] := by rw [hw5]; exact blk0 (w := w4) (T := 26) _ _
    have hB5 := bcat2 hB (bcat2 hb4 hb5)
    have hX5 := blk_below hX (bcat2 hb4 hb5)
    have hY5 := Boxed.below hY (bcat2 hb4 hb5)
    have hF5 := blk_below hF (bcat2 hb4 hb5)
    have hsl5 := hsl.below (bcat2 hb4 hb5)
    go_wp2_with fail
    rw [← hw5]
    clear hw5
    refine (sylowBegun_any _ (hT.below hB5)).mono ?_
    rintro x w8 ⟨rfl, hb8⟩
    have hB8 := bcat2 hB5 hb8
    have hX8 := blk_below hX5 hb8
    have hY8 := Boxed.below hY5 hb8
    have hF8 := blk_below hF5 hb8
    have hW8 := blk_below hW5 hb8
    have hsl8 := hsl5.below hb8
    clear hX hY hF hsl hX5 hY5 hF5 hW5 hsl5 hB5 hB hb4 hb5 hb8 hbx
    obtain ⟨f0, f1, _, _⟩ := hF8.two
    obtain ⟨g0, g1, _, _⟩ := hW8.two
    obtain ⟨rfl, rfl, rfl⟩ := hCC _ _ _ hC
    go_wp2_with fail
    refine (las_good 14 _ _ L L w8 hsl8 (fun W => call14 _ _ W) (fun W hW => (sc1_ok n e w.heap.size (w.heap.size + 1) q (.slice v1 v2 v3) zs W ((hvv.below hB8).below hW) hgp (by have := hW.size; have := hB8.size; have := hT.lt; omega) (blk_below hX8 hW) (Boxed.below hY8 hW)).mono (fun x w' ⟨r, h1, h2, h3⟩ => ⟨r, h1, hLL ▸ h2, h3⟩))).mono ?_
    rintro x w9 ⟨rfl, hb9⟩
    rw [decide_eq_true (rfl : L = L)]
    have hW9 := blk_below hW8 hb9
    have hX9 := blk_below hX8 hb9
    have hY9 := Boxed.below hY8 hb9
    clear f0 f1 g0 g1
    obtain ⟨g0, g1, _, _⟩ := hW9.two
    obtain ⟨c0, c1, _, _⟩ := hX9.two
    have d0 := hY9.cell
    have hB9 := bcat2 hB8 hb9
    have HH1 := hide hm1
    have HH2 := hide hm2
    clear hm1 hm2 hLL hC hCC
    by_cases hdv : n % q = 0
    · have e0 : (n : Int) % (q : Int) = 0 := by
        rw [← Int.natCast_emod, hdv]; rfl
      have e3 : ((L.length : Int) + 1) % (q : Int) = 0 := by
        have := HH2.out hdv
        have h9 : (((L.length + 1) % q : Nat) : Int) = 0 := by rw [this]; rfl
        rw [Int.natCast_emod] at h9
        simpa using h9
      clear HH1 HH2 hdv
      go_wp2
      all_goals (try go_ret)
      all_goals (first | exact ⟨rfl, hB9⟩ | exact ⟨by simp [e0, e3], hB9⟩)
    · have e0 : ¬ (n : Int) % (q : Int) = 0 := by
        rw [← Int.natCast_emod]
        intro h9
        exact hdv (by exact_mod_cast h9)
      have e1 : ((n : Int) % (q : Int) != 0) = true := by simpa using e0
      have e2 : ((L.length : Int) == 0) = true := by rw [HH1.out hdv]; rfl
      clear HH1 HH2 hdv
      go_wp2
      all_goals (try go_ret)
      all_goals (first | exact ⟨rfl, hB9⟩ | exact ⟨by simp [e0, e1, e2], hB9⟩)
end Go.Proofs.YtpeidjnamajjgaaDoor

namespace Go.Proofs.YtpeidjnamajjgaaDoor
open Go Go.RowKit

theorem sopen_any (N p : Int) (v : Value) (zs : List Int) (w : World) (hv : Sl w v zs) (hc : (pfault N zs p).1 ≠ 0) :
    Calls Tryd.prog 35 #[.agg #[.int .i64 N, v], .int .i64 p] w fun x w' => x = .returned (.tuple #[.agg #[.int .i64 0, .slice none 0 0, .int .i64 0, .slice none 0 0], .agg #[.int .i64 (pfault N zs p).1, .int .i64 (pfault N zs p).2]]) ∧ Below w.heap.size w w' := by
  unfold pfault at *
  by_cases h : (gfault N zs).1 = 0 ∧ primeB p = false
  · rw [if_pos h]
    obtain ⟨n, e, rfl, hg, _⟩ := gfault_grp h.1
    exact sopen_range n e p v zs w hv hg h.2
  · rw [if_neg h] at hc ⊢
    exact sopen_bad N p v zs w hv hc
theorem pfault_good {N p : Int} {zs : List Int} (hc : (pfault N zs p).1 = 0) : (gfault N zs).1 = 0 ∧ primeB p = true := by
  unfold pfault at hc
  by_cases h : (gfault N zs).1 = 0 ∧ primeB p = false
  · rw [if_pos h] at hc
    cases hc
  · rw [if_neg h] at hc
    refine ⟨hc, ?_⟩
    cases h9 : primeB p with
    | true => rfl
    | false => exact absurd ⟨hc, h9⟩ h
theorem scau_law (N p : Int) (v : Value) (zs : List Int) (w : World) (hv : Sl w v zs) (hT : Tab w) (b1 : zs.length * 8 ≤ 140737488355328) :
    Calls Tryd.prog 3 #[.agg #[.int .i64 N, v], .int .i64 p] w fun e w' => e = .returned (.bool true) ∧ Below w.heap.size w w' := by
  obtain ⟨v1, v2, v3, rfl⟩ := hv.isSlice
  have HO1 : Hid (∀ W, Below w.heap.size w W → Calls Tryd.prog 10 #[.agg #[.int .i64 N, .slice v1 v2 v3]] W fun x W' => ∃ u1 u2 u3, x = .returned (.agg #[.int .i64 N, .slice u1 u2 u3]) ∧ Sl W' (.slice u1 u2 u3) zs ∧ Below W.heap.size W W') := hide fun W h => (ownGroup_any N (.slice v1 v2 v3) zs W (hv.below h) b1).mono (fun x W' h9 => by
    obtain ⟨u, rfl, hu, hb⟩ := h9
    obtain ⟨u1, u2, u3, rfl⟩ := hu.isSlice
    exact ⟨u1, u2, u3, rfl, hu, hb⟩)
  have HPF := hide (fun W (h : Below w.heap.size w W) => pf_ok N p (.slice v1 v2 v3) zs W (hv.below h))
  by_cases hc : (pfault N zs p).1 = 0
  · obtain ⟨h1, hpr⟩ := pfault_good hc
    obtain ⟨n, e, rfl, hg, h0⟩ := gfault_grp h1
    have hb := of_decide_eq_true hpr
    obtain ⟨q, rfl⟩ : ∃ q : Nat, p = q := ⟨p.toNat, by omega⟩
    have hpf : pfault n zs q = (0, 0) := by
      unfold pfault
      rw [if_neg (fun h9 => by rw [hpr] at h9; cases h9.2)]
      exact grp_fault hg
    rw [hpf] at HPF
    have hm := cauchy_many hg hpr
    have hll : (li (lst n (cauq n zs e q))).length = (lst n (cauq n zs e q)).length := li_len _
    refine scau_law_good n q 0 0 (fun c i L => c = 0 ∧ i = 0 ∧ L = li (lst n (cauq n zs e q))) n e q rfl rfl rfl rfl (by omega) (by omega) (li (lst n (cauq n zs e q))) (fun c i L h => h) v1 v2 v3 zs w hT HO1 (hide fun W u h hu => ?_) HPF hg hv ?_ (by rw [hll]; exact hm.1) (by rw [hll]; exact hm.2) (by rw [hll]; exact Nat.le_trans (lst_len _ _) hg.tab.le)
    · refine (cau_good n e q u zs W hu hg (hT.below h) hpr).mono ?_
      rintro x W' ⟨r, rfl, hr, hb'⟩
      obtain ⟨qa, qcap, qb, qo, rfl, hq, hq1, hq2, hq3, hq4⟩ := hr
      exact ⟨qa, qcap, 0, 0, _, rfl, ⟨qa, qcap, qb, qo, rfl, hq, hq1, hq2, hq3⟩, fun b p9 q9 hb9 => ⟨qa, qcap, qb, qo, rfl, hq.of_eq ((Below.heap_setCell _ _ _ qb (by simp; omega)).trans (Below.heap_setCell _ _ _ qb (by simp; omega))), by rw [size_set, size_set]; exact hq1, hq2, hq3⟩, ⟨rfl, rfl, rfl⟩, hb'⟩
    · rw [lst_congr fun a ha => ?_]
      rw [cauq_iff hg ha, Bool.eq_iff_iff, decide_eq_true_eq, decide_eq_true_eq]
      omega
  · refine scau_law_bad N p (pfault N zs p).1 (pfault N zs p).2 (fun c i L => c = (pfault N zs p).1 ∧ i = (pfault N zs p).2 ∧ L = []) (fun c i L h => h) hc v1 v2 v3 zs w hT HO1 (hide fun W u h hu => ?_) HPF
    refine (cau_bad N p _ _ u W hc (fun W9 h9 => sopen_any N p u zs W9 (hu.below h9) hc)).mono ?_
    rintro x W' ⟨rfl, hb⟩
    have h0 : 0 < W'.heap.size := Nat.lt_of_lt_of_le (Nat.lt_of_lt_of_le hT.lt h.size) hb.size
    exact ⟨none, 0, _, _, [], rfl, Sl.nil h0, fun b p q _ => Sl.nil (by rw [size_set, size_set]; exact h0), ⟨rfl, rfl, rfl⟩, hb⟩
end Go.Proofs.YtpeidjnamajjgaaDoor

namespace Go.Proofs.YtpeidjnamajjgaaDoor
open Go.ChangeShapes Go.WideShapes Go.ChangeAt Go.RowKit

theorem own : ownKnob Tryd.prog.godebug = none := by kernel_rfl
theorem laidOut : laidOutB Tryd.prog = true := by kernel_rfl

/-- A slice of ints that reads as zs; where nothing is in it, nothing is told of the memory. -/
def SlA (w : World) (v : Value) (zs : List Int) : Prop := ∃ a cap pb po, v = .slice a zs.length cap ∧ Reads w a pb po zs ∧ (0 < zs.length → pb < w.heap.size) ∧ zs.length ≤ cap ∧ cap ≤ maxLen
theorem SlA.up {w w' : World} {v : Value} {zs : List Int} (h : SlA w v zs) (hb : Below w.heap.size w w') (h0 : 0 < w'.heap.size) : Sl w' v zs := by
  obtain ⟨a, cap, pb, po, hv, hr, hp, h1, h2⟩ := h
  rcases Nat.eq_zero_or_pos zs.length with hz | hz
  · exact ⟨a, cap, 0, 0, hv, ⟨fun h => by omega, fun j hj => by omega⟩, h0, h1, h2⟩
  · exact ⟨a, cap, pb, po, hv, hr.below hb (hp hz), Nat.lt_of_lt_of_le (hp hz) hb.size, h1, h2⟩
theorem SlA.of {w : World} {v : Value} {zs : List Int} (h : Sl w v zs) : SlA w v zs := by
  obtain ⟨a, cap, pb, po, hv, hr, hp, h1, h2⟩ := h
  exact ⟨a, cap, pb, po, hv, hr, fun _ => hp, h1, h2⟩

theorem und24 : ∃ f0 f1 : Field, Tryd.prog.underlying 24 = some (.struct #[f0, f1]) ∧ f0.type = 3 ∧ f1.type = 22 ∧ f0.offset = 0 ∧ f1.offset = 1 := ⟨_, _, Tryd.underlying24, rfl, rfl, rfl, rfl⟩
theorem und3 : Tryd.prog.underlying 3 = some (.int .i64) := by kernel_rfl
theorem und22 : Tryd.prog.underlying 22 = some (.slice 3) := by kernel_rfl
theorem und4 : Tryd.prog.underlying 4 = some .bool := by kernel_rfl

set_option maxRecDepth 100000 in
/-- What is told of a table that came in. -/
theorem open_group {H : Type} {enc : TypeId × Value → H} {W : World} {b0 : Nat} {v : Value} {d : DataW H} {ps : List MemPlace} (hval : Value.okWide Tryd.prog W .any b0 24 v)
    (hd : DataW.Trod enc Tryd.prog W 0 (fun _ => true) true 24 v d ps) :
    ∃ N u zs, v = .agg #[.int .i64 N, u] ∧ SlA W u zs ∧ (Lit.int .i64 N).wf = true ∧ ((d.weights Tryd.prog 24).all (· ≤ reachBytes) = true → zs.length * 8 ≤ 140737488355328) := by
  obtain ⟨f0, f1, hu, ht0, ht1, ho0, ho1⟩ := und24
  obtain ⟨cs, rfl, hsz⟩ := okWide_struct hu hval
  rw [show Tryd.prog.cellsOf 24 = 2 by kernel_rfl] at hsz
  obtain ⟨l⟩ := cs
  match l, hsz with
  | [c0, c1], _ =>
  obtain ⟨fuel, hf⟩ := hd
  obtain ⟨y0, y1, m, hx, _, hy0, hy1⟩ := trod_struct2 hu hf
  rw [ht0, ho0, show Tryd.prog.cellsOf 3 = 1 by kernel_rfl] at hy0
  rw [ht1, ho1, show Tryd.prog.cellsOf 22 = 1 by kernel_rfl] at hy1
  obtain ⟨N, e0, rfl, wN⟩ := DataW.trod_int und3 hy0
  simp [Value.cells] at e0
  subst e0
  simp [Value.cells] at hy1
  rcases open_ints und22 und3 (by kernel_rfl) hy1 with ⟨hcs, _⟩ | ⟨x, l, c, zs, hcs, _, hl, hm, hz, heq, hcell, hwz⟩
  · simp at hcs
    subst hcs
    exact ⟨N, _, [], rfl, ⟨none, 0, 0, 0, rfl, ⟨by simp, by simp⟩, by simp, by simp, by unfold maxLen; omega⟩, wN, fun _ => by simp⟩
  · simp at hcs
    subst hcs
    have hzc : zs.length = c := by simpa using hz
    have hlen : (zs.take l).length = l := by rw [List.length_take]; omega
    refine ⟨N, _, zs.take l, rfl, ?_, wN, fun hw => ?_⟩
    · by_cases hpos : 0 < c
      · obtain ⟨b, o, rfl, hc'⟩ := ints_at hcell (by omega)
        refine ⟨some ⟨b, o, none⟩, c, b, o, by rw [hlen], ⟨fun _ => rfl, fun j hj => ?_⟩, fun _ => World.block_lt_of_cell? W _ (hc' 0 (by omega)), by omega, hm⟩
        rw [hlen] at hj
        rw [hc' j (by omega), List.getElem?_take, if_pos hj, List.getD_eq_getElem?_getD]
      · have : l = 0 := by omega
        subst this
        exact ⟨some x, c, 0, 0, by simp, ⟨by simp, by simp⟩, by simp, by simp, hm⟩
    · have hd : d = .agg [.lit (.int .i64 N), .slice (lits .i64 (zs.take l)) (lits .i64 (zs.drop l))] := by
        have h1 := congrArg Prod.fst hx
        simp only [heq] at h1
        exact h1
      have hw2 := List.all_eq_true.1 hw (((lits (H := H) .i64 (zs.take l)).length + (lits (H := H) .i64 (zs.drop l)).length) * Tryd.prog.bytesOf 3) (by
        rw [hd]; simp [DataW.weights, DataW.weightsEach, hu, ht0, ht1])
      rw [show Tryd.prog.bytesOf 3 = 8 by kernel_rfl] at hw2
      simp only [lits, List.length_map, decide_eq_true_eq] at hw2
      unfold reachBytes at hw2
      omega
end Go.Proofs.YtpeidjnamajjgaaDoor

namespace Go.Proofs.YtpeidjnamajjgaaDoor
open Go.ChangeShapes Go.WideShapes Go.ChangeAt Go.RowKit

/-- What the rows list. -/
def laid1 : List (String × DataW Unit) := Rows.sylowCauchyRow.laid
def tabZ : List Int := Lib.deBruijn64tab.map fun (x : Nat) => (x : Int)
theorem tab_data : (Rows.laid_math_bits_deBruijn64tab : DataW Unit) = Lib.tabData .u8 tabZ := by kernel_rfl
/-- The door's own heap meets the condition. -/
theorem door_met (os : Os) (args : Array Value) : laidMetH Tryd.prog laid1 ((World.doorLaid Tryd.prog 400 os).forCall (fun _ _ => 0) ⟨#[], args, []⟩).memory :=
  laidMetH_of_parts3 (fuel := 8) (laidMet_of_run' 8 (by kernel_rfl) (by kernel_rfl)) (by kernel_rfl) (by kernel_rfl)
theorem tab_of_laid {W : World} (h : laidMetH Tryd.prog laid1 W) : Tab W := by
  rw [MakeChecks.laidMetH_plain _ _ _ (by kernel_rfl)] at h
  have h2 : laidMet Tryd.prog [("math/bits.deBruijn64tab", (Rows.laid_math_bits_deBruijn64tab : DataW Unit))] W := h
  rw [tab_data] at h2
  have hg : Tryd.prog.globalNamed "math/bits.deBruijn64tab" = some 0 := by kernel_rfl
  have hT := Lib.tabIs_of_head hg (t := 93) (e := 5) (n := 64) (by kernel_rfl) (by kernel_rfl) (by kernel_rfl) (by kernel_rfl) (by kernel_rfl) h2
  intro j hj
  have hj' : j < tabZ.length := by simpa [tabZ] using hj
  have hc := hT.cell hg j hj'
  rw [hc]
  simp [tabZ, hj]
set_option maxRecDepth 100000 in
/-- A list of ints that came in: its value, what it reads as, and its size. -/
theorem open_list {H : Type} {enc : TypeId × Value → H} {W : World} {b0 : Nat} {v : Value} {d : DataW H} {ps : List MemPlace} (hval : Value.okWide Tryd.prog W .any b0 22 v)
    (hd : DataW.Trod enc Tryd.prog W 0 (fun _ => true) true 22 v d ps) (h0 : 0 < W.heap.size) :
    ∃ zs, Sl W v zs ∧ ((d.weights Tryd.prog 22).all (· ≤ reachBytes) = true → zs.length * 8 ≤ 140737488355328) := by
  obtain ⟨a, len, cap, rfl⟩ := okWide_slice und22 hval
  obtain ⟨fuel, hf⟩ := hd
  rcases open_ints und22 und3 (by kernel_rfl) hf with ⟨hcs, _⟩ | ⟨x, l, c, zs, hcs, _, hl, hm, hz, heq, hcell, hwz⟩
  · simp [Value.cells] at hcs
    obtain ⟨rfl, rfl, rfl⟩ := hcs
    exact ⟨[], Sl.nil h0, fun _ => by simp⟩
  · simp [Value.cells] at hcs
    obtain ⟨rfl, rfl, rfl⟩ := hcs
    have hzc : zs.length = cap := by simpa using hz
    have hlen : (zs.take len).length = len := by rw [List.length_take]; omega
    refine ⟨zs.take len, ?_, fun hw => ?_⟩
    · by_cases hpos : 0 < cap
      · obtain ⟨b, o, rfl, hc'⟩ := ints_at hcell (by omega)
        refine ⟨some ⟨b, o, none⟩, cap, b, o, by rw [hlen], ⟨fun _ => rfl, fun j hj => ?_⟩, World.block_lt_of_cell? W _ (hc' 0 (by omega)), by omega, hm⟩
        rw [hlen] at hj
        rw [hc' j (by omega), List.getElem?_take, if_pos hj, List.getD_eq_getElem?_getD]
      · have : len = 0 := by omega
        subst this
        exact ⟨some x, cap, 0, 0, by simp, ⟨by simp, by simp⟩, h0, by simp, hm⟩
    · simp only [Prod.mk.injEq] at heq
      have hw2 := List.all_eq_true.1 hw (((lits (H := H) .i64 (zs.take len)).length + (lits (H := H) .i64 (zs.drop len)).length) * Tryd.prog.bytesOf 3) (by
        rw [heq.1]; simp [DataW.weights])
      rw [show Tryd.prog.bytesOf 3 = 8 by kernel_rfl] at hw2
      simp only [lits, List.length_map, decide_eq_true_eq] at hw2
      unfold reachBytes at hw2
      omega
end Go.Proofs.YtpeidjnamajjgaaDoor
