/- Frobenius' theorem: of a number that divides how many things a finite group has, so many things are, so many times, the one, as a multiple of it. No condition. -/
import Derived.Test.YtpcgacelljbkdaaFrobB
namespace Go.Proofs.Ytpcgacelljbkdaa.Fin
variable {l : List Nat} {m : Nat → Nat → Nat} {e : Nat}

/-- Conjugated by g: g x = x' g. -/
theorem con_mk (h : Fg l m e) {g gi x : Nat} (hg : g ∈ l) (hi : gi ∈ l) (h1 : m gi g = e) (hx : x ∈ l) : m g x = m (m (m g x) gi) g := by
  rw [h.ass _ _ _ (h.cl _ _ hg hx) hi hg, h1, h.right _ (h.cl _ _ hg hx)]
theorem con_e (h : Fg l m e) {g x x' : Nat} (hg : g ∈ l) (hx : x ∈ l) (hx' : x' ∈ l) (hc : m g x = m x' g) (i : Nat) : po m e x i = e ↔ po m e x' i = e := by
  have h1 := po_conj h hg hx hx' hc i
  constructor
  · intro h2
    rw [h2, h.right g hg] at h1
    exact h.canR hg (po_mem h hx' i) h.one (by rw [← h1, h.left g hg])
  · intro h2
    rw [h2, h.left g hg] at h1
    exact h.can hg (po_mem h hx i) h.one (by rw [h1, h.right g hg])
theorem con_back (h : Fg l m e) {g gi x x' : Nat} (hg : g ∈ l) (hi : gi ∈ l) (h1 : m gi g = e) (h2 : m g gi = e) (hx : x ∈ l) (hx' : x' ∈ l) (hc : m g x = m x' g) : m gi x' = m x gi := by
  have h3 : m (m gi (m g x)) gi = m (m gi (m x' g)) gi := by rw [hc]
  rw [← h.ass _ _ _ hi hg hx, h1, h.left x hx, ← h.ass _ _ _ hi hx' hg, h.ass _ _ _ (h.cl _ _ hi hx') hg hi, h2, h.right _ (h.cl _ _ hi hx')] at h3
  exact h3.symm
theorem con_trans (h : Fg l m e) {g k x y z : Nat} (hg : g ∈ l) (hk : k ∈ l) (hx : x ∈ l) (hy : y ∈ l) (hz : z ∈ l) (h1 : m g x = m y g) (h2 : m k y = m z k) : m (m k g) x = m z (m k g) := by
  rw [h.ass _ _ _ hk hg hx, h1, ← h.ass _ _ _ hk hy hg, h2, h.ass _ _ _ hz hk hg]
def con (l : List Nat) (m : Nat → Nat → Nat) (x y : Nat) : Bool := l.any fun g => decide (m g x = m y g)
theorem con_iff {x y : Nat} : con l m x y = true ↔ ∃ g, g ∈ l ∧ m g x = m y g := by unfold con; simp
theorem con_refl (h : Fg l m e) {x : Nat} (hx : x ∈ l) : con l m x x = true := con_iff.2 ⟨e, h.one, by rw [h.left x hx, h.right x hx]⟩
theorem con_symm (h : Fg l m e) {x y : Nat} (hx : x ∈ l) (hy : y ∈ l) (hc : con l m x y = true) : con l m y x = true := by
  obtain ⟨g, hg, h1⟩ := con_iff.1 hc
  obtain ⟨gi, hi, h2, h3⟩ := h.inv g hg
  exact con_iff.2 ⟨gi, hi, con_back h hg hi h3 h2 hx hy h1⟩
theorem con_tr (h : Fg l m e) {x y z : Nat} (hx : x ∈ l) (hy : y ∈ l) (hz : z ∈ l) (h1 : con l m x y = true) (h2 : con l m y z = true) : con l m x z = true := by
  obtain ⟨g, hg, h1⟩ := con_iff.1 h1
  obtain ⟨k, hk, h2⟩ := con_iff.1 h2
  exact con_iff.2 ⟨m k g, h.cl _ _ hk hg, con_trans h hg hk hx hy hz h1 h2⟩
theorem con_same (h : Fg l m e) {x y z : Nat} (hx : x ∈ l) (hy : y ∈ l) (hz : z ∈ l) (h1 : con l m x y = true) : con l m x z = con l m y z := by
  rw [Bool.eq_iff_iff]
  exact ⟨fun k => con_tr h hy hx hz (con_symm h hx hy h1) k, fun k => con_tr h hx hy hz h1 k⟩
/-- All that a thing is conjugate to. -/
def cls (l : List Nat) (m : Nat → Nat → Nat) (y : Nat) : List Nat := l.filter fun z => con l m y z
theorem cls_len (h : Fg l m e) {y : Nat} (hy : y ∈ l) : l.length = (cls l m y).length * (cent l m y).length := by
  have hiv : ∀ g, g ∈ l → m g (po m e g (l.length - 1)) = e ∧ m (po m e g (l.length - 1)) g = e := fun g hg => by
    have hp := h.pos
    have h1 := po_len h hg
    constructor
    · have : po m e g l.length = m (po m e g 1) (po m e g (l.length - 1)) := by rw [← po_add h hg]; congr 1; omega
      rw [po_one h hg] at this
      rw [← this]; exact h1
    · have : po m e g l.length = m (po m e g (l.length - 1)) (po m e g 1) := by rw [← po_add h hg]; congr 1; omega
      rw [po_one h hg] at this
      rw [← this]; exact h1
  have hpm : ∀ g, g ∈ l → po m e g (l.length - 1) ∈ l := fun g hg => po_mem h hg _
  refine fib_len (fun g => m (m g y) (po m e g (l.length - 1))) _ _ _ (h.nd.filter _) (fun g hg => ?_) (fun k hk => ?_)
  · exact List.mem_filter.2 ⟨h.cl _ _ (h.cl _ _ hg hy) (hpm g hg), con_iff.2 ⟨g, hg, con_mk h hg (hpm g hg) (hiv g hg).2 hy⟩⟩
  · obtain ⟨hk1, hk2⟩ := List.mem_filter.1 hk
    obtain ⟨g, hg, hgk⟩ := con_iff.1 hk2
    have fib : ∀ f, f ∈ l → (m (m f y) (po m e f (l.length - 1)) = k ↔ m f y = m k f) := fun f hf => by
      have h1 := con_mk h hf (hpm f hf) (hiv f hf).2 hy
      have hm := h.cl _ _ (h.cl _ _ hf hy) (hpm f hf)
      exact ⟨fun h2 => by rw [h2] at h1; exact h1, fun h2 => h.canR hf hm hk1 (by rw [← h1, h2])⟩
    symm
    refine bij_len (m g) ((h.nd).filter _) (h.nd.filter _) (fun c hc => ?_) (fun a b ha hb hab => ?_) (fun f hf => ?_)
    · obtain ⟨hc1, hc2⟩ := cent_iff.1 hc
      have hm := h.cl _ _ hg hc1
      refine List.mem_filter.2 ⟨hm, ?_⟩
      rw [decide_eq_true_eq, fib _ hm, h.ass _ _ _ hg hc1 hy, hc2, ← h.ass _ _ _ hg hy hc1, hgk, h.ass _ _ _ hk1 hg hc1]
    · exact h.can hg (cent_iff.1 ha).1 (cent_iff.1 hb).1 hab
    · obtain ⟨hf1, hf2⟩ := List.mem_filter.1 hf
      rw [decide_eq_true_eq, fib f hf1] at hf2
      obtain ⟨gi, hi, h2, h3⟩ := h.inv g hg
      have hb := con_back h hg hi h3 h2 hy hk1 hgk
      refine ⟨m gi f, cent_iff.2 ⟨h.cl _ _ hi hf1, ?_⟩, ?_⟩
      · rw [h.ass _ _ _ hi hf1 hy, hf2, ← h.ass _ _ _ hi hk1 hf1, hb, h.ass _ _ _ hy hi hf1]
      · rw [← h.ass _ _ _ hg hi hf1, h2, h.left f hf1]

variable {p k s q a b : Nat}
/-- Things of A with a given part, and what commutes with the part. -/
theorem part_cnt (h : Fg l m e) (P : Parts p k s q a b) {x : Nat} (hA : x ∈ AA l m e q (p ^ k) s) :
    ((AA l m e q (p ^ k) s).filter fun z => decide (po m e z a = po m e x a)).length = cnt (cent l m (po m e x a)) m e s := by
  obtain ⟨hx, h1, h2⟩ := AA_iff.1 hA
  have ho := part_ord h P hA
  have hy := po_mem h hx a
  generalize po m e x a = y at *
  obtain ⟨t, ht⟩ := P.sum
  have hq1 : po m e y q = e := (ho q).2 (Nat.dvd_refl q)
  unfold cnt
  refine bij_len (fun z => po m e z b) ((h.nd.filter _).filter _) ((h.nd.filter _).filter _) (fun z hz => ?_) (fun z w hz hw hzw => ?_) (fun z hz => ?_)
  · obtain ⟨hz1, hz2⟩ := List.mem_filter.1 hz
    rw [decide_eq_true_eq] at hz2
    obtain ⟨hzl, hz3, _⟩ := AA_iff.1 hz1
    refine List.mem_filter.2 ⟨cent_iff.2 ⟨po_mem h hzl b, by rw [← hz2]; exact po_pow_com h hzl b a⟩, ?_⟩
    rw [decide_eq_true_eq, po_mul h hzl]
    obtain ⟨j, hj⟩ := P.qb
    exact po_z' h hzl hz3 ⟨j, by rw [hj]; grind⟩
  · obtain ⟨hz1, hz2⟩ := List.mem_filter.1 hz
    obtain ⟨hw1, hw2⟩ := List.mem_filter.1 hw
    rw [decide_eq_true_eq] at hz2 hw2
    obtain ⟨hzl, hz3, _⟩ := AA_iff.1 hz1
    obtain ⟨hwl, hw3, _⟩ := AA_iff.1 hw1
    have ez : z = po m e z (a + b) := by rw [ht, po_off h hzl hz3, po_one h hzl]
    have ew : w = po m e w (a + b) := by rw [ht, po_off h hwl hw3, po_one h hwl]
    rw [po_add h hzl, hz2] at ez
    rw [po_add h hwl, hw2] at ew
    have hzw' : po m e z b = po m e w b := hzw
    rw [ez, ew, hzw']
  · obtain ⟨hz1, hz2⟩ := List.mem_filter.1 hz
    rw [decide_eq_true_eq] at hz2
    obtain ⟨hzl, hzc⟩ := cent_iff.1 hz1
    have hm := h.cl _ _ hy hzl
    have hpr : ∀ i, po m e (m y z) i = m (po m e y i) (po m e z i) := po_prod h hy hzl hzc.symm
    obtain ⟨i, hi⟩ := P.sa
    obtain ⟨j, hj⟩ := P.qb
    have ya : po m e y a = y := by
      have h3 := Nat.div_add_mod a q
      rw [P.aq, Nat.mod_eq_of_lt (by have := P.q2; omega)] at h3
      rw [← h3, Nat.add_comm, po_off h hy hq1, po_one h hy]
    have za : po m e z a = e := po_z' h hzl hz2 ⟨i, hi⟩
    have yb : po m e y b = e := po_z' h hy hq1 ⟨j, hj⟩
    have zb : po m e z b = z := by
      have h3 := Nat.div_add_mod b s
      rw [P.bs] at h3
      rcases Nat.lt_or_ge 1 s with h4 | h4
      · rw [Nat.mod_eq_of_lt h4] at h3
        rw [← h3, Nat.add_comm, po_off h hzl hz2, po_one h hzl]
      · have hs1 : s = 1 := by have := P.s0; omega
        rw [hs1, po_one h hzl] at hz2
        rw [hz2, po_e h]
    refine ⟨m y z, List.mem_filter.2 ⟨AA_iff.2 ⟨hm, ?_, ?_⟩, ?_⟩, ?_⟩
    · rw [hpr, po_z' h hy hq1 ⟨s, rfl⟩, po_z' h hzl hz2 ⟨q, Nat.mul_comm q s⟩, h.left e h.one]
    · rw [hpr, po_z' h hzl hz2 ⟨p ^ k, Nat.mul_comm _ s⟩, h.right _ (po_mem h hy _), ho, P.qp]
      intro hc
      have h5 : p ∣ s := Nat.dvd_of_mul_dvd_mul_left (Nat.pow_pos (by have := P.pr.1; omega)) hc
      exact P.cop h5
    · rw [decide_eq_true_eq, hpr, ya, za, h.right y hy]
    · show po m e (m y z) b = z
      rw [hpr, yb, zb, h.left z hzl]
theorem half_two (h : Fg l m e) (P : Parts p k s q a b) (hsN : s ∣ l.length)
    (IH : ∀ (l' : List Nat) (m' : Nat → Nat → Nat) (e' : Nat), Fg l' m' e' → l'.length < l.length → ∀ n, n ∣ l'.length → n ∣ cnt l' m' e' n) : s ∣ (AA l m e q (p ^ k) s).length := by
  have hA : ∀ x, x ∈ AA l m e q (p ^ k) s → x ∈ l ∧ po m e x (q * s) = e ∧ ¬ po m e x (p ^ k * s) = e := fun x hx => AA_iff.1 hx
  have hyl : ∀ x, x ∈ AA l m e q (p ^ k) s → po m e x a ∈ l := fun x hx => po_mem h (hA x hx).1 a
  refine part_dvd _ (fun x z => con l m (po m e x a) (po m e z a)) _ _ (Nat.le_refl _) (fun x hx => con_refl h (hyl x hx)) (fun x y z hx hy hz hxy => con_same h (hyl x hx) (hyl y hy) (hyl z hz) hxy) (fun x hx => ?_)
  have hy := hyl x hx
  have hpc := part_cnt h P hx
  have ho := part_ord h P hx
  have hX : ((AA l m e q (p ^ k) s).filter fun z => con l m (po m e x a) (po m e z a)).length = (cls l m (po m e x a)).length * cnt (cent l m (po m e x a)) m e s := by
    rw [← hpc]
    refine fib_len (fun z => po m e z a) _ _ _ (h.nd.filter _) (fun z hz => ?_) (fun c hc => ?_)
    · obtain ⟨hz1, hz2⟩ := List.mem_filter.1 hz
      exact List.mem_filter.2 ⟨hyl z hz1, hz2⟩
    · obtain ⟨hc1, hc2⟩ := List.mem_filter.1 hc
      rw [List.filter_filter, filter_eq (q := fun z => decide (po m e z a = c))]
      · obtain ⟨g, hg, hgc⟩ := con_iff.1 hc2
        obtain ⟨gi, hi, h2, h3⟩ := h.inv g hg
        have hb := con_back h hg hi h3 h2 hy hc1 hgc
        have step : ∀ g gi u v, g ∈ l → gi ∈ l → m gi g = e → u ∈ l → v ∈ l → m g u = m v g → ∀ z, z ∈ (AA l m e q (p ^ k) s).filter (fun z => decide (po m e z a = u)) → m (m g z) gi ∈ (AA l m e q (p ^ k) s).filter (fun z => decide (po m e z a = v)) := fun g gi u v hg hi h3 hu hv huv z hz => by
          obtain ⟨hz1, hz2⟩ := List.mem_filter.1 hz
          rw [decide_eq_true_eq] at hz2
          obtain ⟨hzl, h4, h5⟩ := hA z hz1
          have hm := h.cl _ _ (h.cl _ _ hg hzl) hi
          have hcz := con_mk h hg hi h3 hzl
          refine List.mem_filter.2 ⟨AA_iff.2 ⟨hm, (con_e h hg hzl hm hcz _).1 h4, fun h6 => h5 ((con_e h hg hzl hm hcz _).2 h6)⟩, ?_⟩
          rw [decide_eq_true_eq]
          have h7 := po_conj h hg hzl hm hcz a
          rw [hz2, huv] at h7
          exact (h.canR hg hv (po_mem h hm a) h7).symm
        refine (bij_len (fun z => m (m g z) gi) ((h.nd.filter _).filter _) ((h.nd.filter _).filter _) (step g gi _ c hg hi h3 hy hc1 hgc) (fun z w hz hw hzw => ?_) (fun z hz => ?_)).symm
        · obtain ⟨hz1, _⟩ := List.mem_filter.1 hz
          obtain ⟨hw1, _⟩ := List.mem_filter.1 hw
          have e1 := h.canR hi (h.cl _ _ hg (hA z hz1).1) (h.cl _ _ hg (hA w hw1).1) hzw
          exact h.can hg (hA z hz1).1 (hA w hw1).1 e1
        · refine ⟨m (m gi z) g, step gi g c _ hi hg h2 hc1 hy hb z hz, ?_⟩
          have hzl := (hA z (List.mem_filter.1 hz).1).1
          show m (m g (m (m gi z) g)) gi = z
          rw [← h.ass _ _ _ hg (h.cl _ _ hi hzl) hg, ← h.ass _ _ _ hg hi hzl, h2, h.left z hzl, h.ass _ _ _ hzl hg hi, h2, h.right z hzl]
      · intro z _
        by_cases e1 : po m e z a = c
        · simp [e1, hc2]
        · simp [e1]
  rw [hX]
  have hcls := cls_len h hy
  have hH : Cen (cent l m (po m e x a)) m e (po m e x a) q := ⟨cent_fg h hy, cent_iff.2 ⟨hy, rfl⟩, fun c hc => (cent_iff.1 hc).2, P.q0, ho⟩
  have hql := quo_len hH
  have hqc := quo_cnt hH P.cqs.symm
  have hqf := quo_fg hH
  rw [hqc]
  generalize quo (cent l m (po m e x a)) m e (po m e x a) q = L at *
  generalize mq (cent l m (po m e x a)) m e (po m e x a) q = mm at *
  generalize rep (cent l m (po m e x a)) m e (po m e x a) q e = ee at *
  have hlt : L.length < l.length := by
    have h1 := hqf.pos
    have h2 := P.q2
    have h3 : L.length * 2 ≤ L.length * q := Nat.mul_le_mul_left _ h2
    have h4 : (cent l m (po m e x a)).length ≤ l.length := List.length_filter_le _ _
    omega
  have hd := IH L mm ee hqf hlt (Nat.gcd s L.length) (Nat.gcd_dvd_right _ _)
  rw [← cnt_gcd hqf] at hd
  rw [hcls, hql, ← Nat.mul_assoc] at hsN
  have h5 : s ∣ (cls l m (po m e x a)).length * L.length := Nat.Coprime.dvd_of_dvd_mul_right P.cqs.symm hsN
  have h6 : s ∣ (cls l m (po m e x a)).length * Nat.gcd s L.length := by
    rw [← Nat.gcd_mul_left]
    exact Nat.dvd_gcd ⟨_, Nat.mul_comm _ _⟩ h5
  exact Nat.dvd_trans h6 (Nat.mul_dvd_mul_left _ hd)

/-- FROBENIUS. -/
theorem frob : ∀ (N : Nat) (l : List Nat) (m : Nat → Nat → Nat) (e : Nat), Fg l m e → l.length = N → ∀ n, n ∣ N → n ∣ cnt l m e n := by
  intro N
  induction N using Nat.strongRecOn with
  | _ N ih =>
    intro l m e h hN
    have IH : ∀ (l' : List Nat) (m' : Nat → Nat → Nat) (e' : Nat), Fg l' m' e' → l'.length < l.length → ∀ n, n ∣ l'.length → n ∣ cnt l' m' e' n := fun l' m' e' h' hlt n hn => ih l'.length (by omega) l' m' e' h' rfl n hn
    have hpos := h.pos
    have down : ∀ r n, n ∣ N → N - n ≤ r → n ∣ cnt l m e n := by
      intro r
      induction r with
      | zero =>
        intro n hn hr
        have : n = N := by have := Nat.le_of_dvd (by omega) hn; omega
        subst this
        have : cnt l m e n = n := by
          unfold cnt
          rw [List.filter_eq_self.2 (fun x hx => by rw [decide_eq_true_eq, ← hN]; exact po_len h hx), hN]
        rw [this]; exact Nat.dvd_refl n
      | succ r ihr =>
        intro n hn hr
        obtain ⟨c, hc⟩ := id hn
        have hn0 : 0 < n := by
          rcases Nat.eq_zero_or_pos n with h0 | h0
          · subst h0; simp at hc; omega
          · exact h0
        rcases Nat.lt_or_ge c 2 with h2 | h2
        · have : c = 1 := by
            rcases Nat.eq_zero_or_pos c with h0 | h0
            · subst h0; simp at hc; omega
            · omega
          subst this
          exact ihr n hn (by omega)
        · obtain ⟨p, hp, hpc⟩ := pr_exists h2
          obtain ⟨k, s, hks, hs⟩ := pr_split hp n hn0
          have hs0 : 0 < s := by
            rcases Nat.eq_zero_or_pos s with h0 | h0
            · subst h0; simp at hs
            · exact h0
          obtain ⟨q, a, b, P⟩ := Parts.mk' (k := k) hp hs hs0
          have hnp : q * s = n * p := by rw [P.qp, hks]; grind
          have hd : n * p ∣ N := by rw [hc]; exact Nat.mul_dvd_mul_left n hpc
          have hgt : n < n * p := by
            have := hp.1
            calc n = n * 1 := by omega
              _ < n * p := Nat.mul_lt_mul_of_pos_left (by omega) hn0
          have hle := Nat.le_of_dvd (by omega) hd
          have h3 := ihr (n * p) hd (by omega)
          have h4 : n ∣ cnt l m e (n * p) := Nat.dvd_trans ⟨p, rfl⟩ h3
          have h5 : cnt l m e (n * p) = cnt l m e n + (AA l m e q (p ^ k) s).length := by
            unfold cnt AA
            rw [split_len (fun x => decide (po m e x n = e)) (l.filter fun x => decide (po m e x (n * p) = e)), List.filter_filter, List.filter_filter]
            congr 2
            · apply filter_eq
              intro x hx
              by_cases e1 : po m e x n = e
              · simp [e1, po_z h hx e1 p]
              · simp [e1]
            · apply filter_eq
              intro x _
              rw [hnp, ← hks, Bool.and_comm]
          have h6 : n ∣ (AA l m e q (p ^ k) s).length := by
            rw [hks]
            exact Nat.Coprime.mul_dvd_of_dvd_of_dvd (Nat.Coprime.pow_left k (pr_cop hp hs)) (half_one h P) (half_two h P (by rw [hN]; exact Nat.dvd_trans ⟨p ^ k, by rw [hks, Nat.mul_comm]⟩ hn) IH)
          rw [h5] at h4
          exact (Nat.dvd_add_iff_left h6).2 h4
    intro n hn
    exact down N n hn (by omega)
end Go.Proofs.Ytpcgacelljbkdaa.Fin
