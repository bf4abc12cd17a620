/- Tables that functions make; orders and powers, as mathematics and as the document has them; no group. -/
import Derived.Test.YtmgengplfebmjaaDoorSmath
import Derived.Test.YtmgengplfebmjaaDoorAbel
import Derived.Test.YtmgengplfebmjaaDoorOpn
import Derived.Test.YtmgengplfebmjaaDoorThing
import Derived.Test.YtmgengplfebmjaaDoorDw
namespace Go.Proofs.YtmgengplfebmjaaDoor
open Go

/-- The table of n things whose products f tells. -/
def mkT (n : Nat) (f : Nat → Nat → Nat) : List Int := (List.range (n * n)).map fun i => (f (i / n) (i % n) : Int)
theorem mkT_len (n : Nat) (f : Nat → Nat → Nat) : (mkT n f).length = n * n := by simp [mkT]
theorem mkT_get {N : Nat} {f : Nat → Nat → Nat} {i : Nat} (hi : i < N * N) : (mkT N f)[i]?.getD 0 = (f (i / N) (i % N) : Int) := by simp [mkT, hi]
theorem tm_mk {N : Nat} {f : Nat → Nat → Nat} {a b : Nat} (ha : a < N) (hb : b < N) : tm N (mkT N f) a b = f a b := by
  unfold tm
  obtain ⟨e1, e2⟩ := dm' (a := a) hb
  rw [mkT_get (place_lt ha hb), e1, e2, Int.toNat_natCast]
theorem tab_mk {N : Nat} {f : Nat → Nat → Nat} (h1 : 1 ≤ N) (h2 : N ≤ 60) (hc : ∀ a b, a < N → b < N → f a b < N) : IsTab N (mkT N f) :=
  ⟨h1, h2, mkT_len N f, fun i hi => by
    obtain ⟨d1, d2⟩ := div_mod_lt hi
    have := hc _ _ d1 d2
    rw [mkT_get hi]; omega⟩
theorem grp_mk {N e : Nat} {f : Nat → Nat → Nat} (h1 : 1 ≤ N) (h2 : N ≤ 60) (hc : ∀ a b, a < N → b < N → f a b < N) (he : e < N) (hl : ∀ a, a < N → f e a = a) (hr : ∀ a, a < N → f a e = a)
    (hass : ∀ a b c, a < N → b < N → c < N → f (f a b) c = f a (f b c)) (hinv : ∀ a, a < N → ∃ b, b < N ∧ f a b = e) : IsGrp N (mkT N f) e := by
  have ht := tab_mk h1 h2 hc
  have hoe : oneB N (mkT N f) e = true := oneB_iff.2 (fun a ha => by rw [tm_mk he ha, tm_mk ha he]; exact ⟨hl a ha, hr a ha⟩)
  refine ⟨ht, he, ?_, fun a ha => by rw [tm_mk he ha]; exact hl a ha, fun a ha => by rw [tm_mk ha he]; exact hr a ha, fun a b c ha hb hc' => ?_, fun a ha => ?_⟩
  · unfold one
    rcases least_cases N (oneB N (mkT N f)) with ⟨k, hk, hp, _, ek⟩ | ⟨hno, _⟩
    · have h3 := (oneB_iff.1 hp e he).1
      rw [tm_mk hk he, hr k hk] at h3
      rw [ek, h3]
    · have := hno e he
      rw [hoe] at this; cases this
  · rw [tm_mk ha hb, tm_mk (hc a b ha hb) hc', tm_mk hb hc', tm_mk ha (hc b c hb hc')]
    exact hass a b c ha hb hc'
  · obtain ⟨b, hb, hab⟩ := hinv a ha
    exact ⟨b, hb, by rw [tm_mk ha hb]; exact hab⟩


theorem mkT_congr {n : Nat} {f g : Nat → Nat → Nat} (h : ∀ a b, a < n → b < n → f a b = g a b) : mkT n f = mkT n g := by
  unfold mkT
  refine List.map_congr_left fun i hi => ?_
  obtain ⟨h1, h2⟩ := div_mod_lt (List.mem_range.1 hi)
  rw [h _ _ h1 h2]
/-- What a group is mapped to, products kept, and all of it met, is a group. -/
theorem grp_image {n e K : Nat} {zs : List Int} {F : Nat → Nat → Nat} {φ : Nat → Nat} (g : IsGrp n zs e) (hK : K ≤ 60) (hφ : ∀ a, a < n → φ a < K) (hs : ∀ i, i < K → ∃ a, a < n ∧ φ a = i)
    (hm : ∀ a b, a < n → b < n → F (φ a) (φ b) = φ (tm n zs a b)) : IsGrp K (mkT K F) (φ e) := by
  have hKp : 1 ≤ K := by have := hφ e g.elt; omega
  refine grp_mk hKp hK ?_ (hφ e g.elt) ?_ ?_ ?_ ?_
  · intro i j hi hj
    obtain ⟨a, ha, rfl⟩ := hs i hi
    obtain ⟨b, hb, rfl⟩ := hs j hj
    rw [hm a b ha hb]
    exact hφ _ (tm_lt g.tab ha hb)
  · intro i hi
    obtain ⟨a, ha, rfl⟩ := hs i hi
    rw [hm e a g.elt ha, g.left a ha]
  · intro i hi
    obtain ⟨a, ha, rfl⟩ := hs i hi
    rw [hm a e ha g.elt, g.right a ha]
  · intro i j k hi hj hk
    obtain ⟨a, ha, rfl⟩ := hs i hi
    obtain ⟨b, hb, rfl⟩ := hs j hj
    obtain ⟨c, hc, rfl⟩ := hs k hk
    rw [hm a b ha hb, hm _ c (tm_lt g.tab ha hb) hc, hm b c hb hc, hm a _ ha (tm_lt g.tab hb hc), g.ass a b c ha hb hc]
  · intro i hi
    obtain ⟨a, ha, rfl⟩ := hs i hi
    obtain ⟨b, hb, he⟩ := g.inv a ha
    exact ⟨φ b, hφ b hb, by rw [hm a b ha hb, he]⟩
end Go.Proofs.YtmgengplfebmjaaDoor

namespace Go.Proofs.YtmgengplfebmjaaDoor
open Go Go.RowKit

/-- a, k + 1 times. -/
def pr (n : Nat) (zs : List Int) (a : Nat) : Nat → Nat
  | 0 => a
  | k + 1 => tm n zs (pr n zs a k) a
theorem pr_lt {n : Nat} {zs : List Int} (ht : IsTab n zs) {a : Nat} (ha : a < n) : ∀ k, pr n zs a k < n
  | 0 => ha
  | k + 1 => tm_lt ht (pr_lt ht ha k) ha
theorem pr_add {n e : Nat} {zs : List Int} (h : IsGrp n zs e) {a : Nat} (ha : a < n) (i : Nat) : ∀ m, pr n zs a (i + m + 1) = tm n zs (pr n zs a i) (pr n zs a m)
  | 0 => rfl
  | m + 1 => by
    show tm n zs (pr n zs a (i + m + 1)) a = tm n zs (pr n zs a i) (tm n zs (pr n zs a m) a)
    rw [pr_add h ha i m, h.ass _ _ _ (pr_lt h.tab ha i) (pr_lt h.tab ha m) ha]
/-- A thing has an inverse on both sides. -/
theorem grp_inv {n e : Nat} {zs : List Int} (h : IsGrp n zs e) {x : Nat} (hx : x < n) : ∃ b, b < n ∧ tm n zs x b = e ∧ tm n zs b x = e := by
  obtain ⟨b, hb, hxb⟩ := h.inv x hx
  exact ⟨b, hb, hxb, inv_both h.tab h.elt h.left h.right h.ass hx hb hxb⟩
theorem grp_cancel {n e : Nat} {zs : List Int} (h : IsGrp n zs e) {x y z : Nat} (hx : x < n) (hy : y < n) (hz : z < n) (he : tm n zs x y = tm n zs x z) : y = z := by
  obtain ⟨b, hb, _, hbx⟩ := grp_inv h hx
  have h1 := h.ass b x y hb hx hy
  have h2 := h.ass b x z hb hx hz
  rw [hbx, h.left y hy] at h1
  rw [hbx, h.left z hz] at h2
  rw [h1, h2, he]
theorem grp_cancel_right {n e : Nat} {zs : List Int} (h : IsGrp n zs e) {x y z : Nat} (hx : x < n) (hy : y < n) (hz : z < n) (he : tm n zs y x = tm n zs z x) : y = z := by
  obtain ⟨b, hb, hxb, _⟩ := grp_inv h hx
  have h1 := h.ass y x b hy hx hb
  have h2 := h.ass z x b hz hx hb
  rw [hxb, h.right y hy] at h1
  rw [hxb, h.right z hz] at h2
  rw [← h1, ← h2, he]
/-- Some power, at most as many times as there are things, is the one. -/
theorem pr_one {n e : Nat} {zs : List Int} (h : IsGrp n zs e) {a : Nat} (ha : a < n) : ∃ k, k < n ∧ pr n zs a k = e := by
  rcases Classical.em (∃ k, k < n ∧ pr n zs a k = e) with hk | hk
  · exact hk
  · exfalso
    have hinj : ∀ i j, i < j → j < n → pr n zs a i ≠ pr n zs a j := fun i j hij hj he => by
      have h1 := pr_add h ha i (j - i - 1)
      rw [show i + (j - i - 1) + 1 = j by omega] at h1
      have h2 : tm n zs (pr n zs a i) (pr n zs a (j - i - 1)) = tm n zs (pr n zs a i) e := by rw [← h1, h.right _ (pr_lt h.tab ha i), he]
      exact hk ⟨j - i - 1, by omega, grp_cancel h (pr_lt h.tab ha i) (pr_lt h.tab ha _) h.elt h2⟩
    obtain ⟨k, hkn, hke⟩ := meets (n := n) (f := pr n zs a) (fun x _ => pr_lt h.tab ha x) (fun x y hx hy he => by
      rcases Nat.lt_trichotomy x y with hl | hl | hl
      · exact absurd he (hinj x y hl hy)
      · exact hl
      · exact absurd he.symm (hinj y x hl hx)) h.elt
    exact hk ⟨k, hkn, hke⟩
/-- How often a is to be taken until it is e. -/
def ordN (n : Nat) (zs : List Int) (e a : Nat) : Nat := (least n (fun k => decide (pr n zs a k = e))).toNat + 1
theorem ordN_spec {n e : Nat} {zs : List Int} (h : IsGrp n zs e) {a : Nat} (ha : a < n) : ∃ k, k < n ∧ ordN n zs e a = k + 1 ∧ pr n zs a k = e ∧ ∀ t, t < k → pr n zs a t ≠ e := by
  rcases least_cases n (fun k => decide (pr n zs a k = e)) with ⟨k, hk, hp, hb, he⟩ | ⟨hno, _⟩
  · refine ⟨k, hk, by unfold ordN; rw [he]; simp, of_decide_eq_true hp, fun t ht => of_decide_eq_false (hb t ht)⟩
  · obtain ⟨k, hk, hke⟩ := pr_one h ha
    have := hno k hk
    simp [hke] at this

end Go.Proofs.YtmgengplfebmjaaDoor

namespace Go.Proofs.YtmgengplfebmjaaDoor

/-- a, k times. -/
def pw (n : Nat) (zs : List Int) (e a : Nat) : Nat → Nat
  | 0 => e
  | k + 1 => tm n zs (pw n zs e a k) a
theorem pw_lt {n e : Nat} {zs : List Int} (h : IsGrp n zs e) {a : Nat} (ha : a < n) : ∀ k, pw n zs e a k < n
  | 0 => h.elt
  | k + 1 => tm_lt h.tab (pw_lt h ha k) ha
theorem pw_pr {n e : Nat} {zs : List Int} (h : IsGrp n zs e) {a : Nat} (ha : a < n) : ∀ k, pw n zs e a (k + 1) = pr n zs a k
  | 0 => h.left a ha
  | k + 1 => by
    show tm n zs (pw n zs e a (k + 1)) a = tm n zs (pr n zs a k) a
    rw [pw_pr h ha k]
theorem pw_add {n e : Nat} {zs : List Int} (h : IsGrp n zs e) {a : Nat} (ha : a < n) (i : Nat) : ∀ j, pw n zs e a (i + j) = tm n zs (pw n zs e a i) (pw n zs e a j)
  | 0 => (h.right _ (pw_lt h ha i)).symm
  | j + 1 => by
    show tm n zs (pw n zs e a (i + j)) a = tm n zs (pw n zs e a i) (tm n zs (pw n zs e a j) a)
    rw [pw_add h ha i j, h.ass _ _ _ (pw_lt h ha i) (pw_lt h ha j) ha]
theorem pw_one {n e : Nat} {zs : List Int} (h : IsGrp n zs e) : ∀ k, pw n zs e e k = e
  | 0 => rfl
  | k + 1 => by
    show tm n zs (pw n zs e e k) e = e
    rw [pw_one h k, h.left e h.elt]
theorem pw_mul {n e : Nat} {zs : List Int} (h : IsGrp n zs e) {a : Nat} (ha : a < n) (i : Nat) : ∀ j, pw n zs e (pw n zs e a i) j = pw n zs e a (i * j)
  | 0 => rfl
  | j + 1 => by
    show tm n zs (pw n zs e (pw n zs e a i) j) (pw n zs e a i) = pw n zs e a (i * j + i)
    rw [pw_mul h ha i j, pw_add h ha (i * j) i]
theorem ord_pos {n e : Nat} {zs : List Int} (a : Nat) : 0 < ordN n zs e a := by unfold ordN; omega
theorem ord_le {n e : Nat} {zs : List Int} (h : IsGrp n zs e) {a : Nat} (ha : a < n) : ordN n zs e a ≤ n := by
  obtain ⟨k, hk, ho, _, _⟩ := ordN_spec h ha
  omega
theorem pw_ord {n e : Nat} {zs : List Int} (h : IsGrp n zs e) {a : Nat} (ha : a < n) : pw n zs e a (ordN n zs e a) = e := by
  obtain ⟨k, _, ho, hp, _⟩ := ordN_spec h ha
  rw [ho, pw_pr h ha, hp]
theorem pw_ord_mul {n e : Nat} {zs : List Int} (h : IsGrp n zs e) {a : Nat} (ha : a < n) (q : Nat) : pw n zs e a (ordN n zs e a * q) = e := by
  rw [← pw_mul h ha, pw_ord h ha, pw_one h]
theorem pw_mod {n e : Nat} {zs : List Int} (h : IsGrp n zs e) {a : Nat} (ha : a < n) (k : Nat) : pw n zs e a (k % ordN n zs e a) = pw n zs e a k := by
  have h1 := Nat.div_add_mod k (ordN n zs e a)
  have h2 : pw n zs e a (ordN n zs e a * (k / ordN n zs e a) + k % ordN n zs e a) = pw n zs e a (k % ordN n zs e a) := by
    rw [pw_add h ha, pw_ord_mul h ha, h.left _ (pw_lt h ha _)]
  rw [h1] at h2
  exact h2.symm
theorem pw_min {n e : Nat} {zs : List Int} (h : IsGrp n zs e) {a : Nat} (ha : a < n) {k : Nat} (hk : k < ordN n zs e a) (hp : pw n zs e a k = e) : k = 0 := by
  cases k with
  | zero => rfl
  | succ k =>
    obtain ⟨k9, _, ho, _, hno⟩ := ordN_spec h ha
    rw [pw_pr h ha] at hp
    exact absurd hp (hno k (by omega))
theorem ord_dvd {n e : Nat} {zs : List Int} (h : IsGrp n zs e) {a : Nat} (ha : a < n) {k : Nat} (hp : pw n zs e a k = e) : ordN n zs e a ∣ k := by
  have h1 := pw_min h ha (Nat.mod_lt k (ord_pos a)) ((pw_mod h ha k).trans hp)
  exact Nat.dvd_of_mod_eq_zero h1
theorem pw_inj {n e : Nat} {zs : List Int} (h : IsGrp n zs e) {a : Nat} (ha : a < n) {i j : Nat} (hi : i < ordN n zs e a) (hj : j < ordN n zs e a) (he : pw n zs e a i = pw n zs e a j) : i = j := by
  rcases Nat.lt_trichotomy i j with hl | hl | hl
  · have h1 := pw_add h ha i (j - i)
    rw [show i + (j - i) = j by omega] at h1
    have h2 := grp_cancel h (pw_lt h ha i) (pw_lt h ha (j - i)) h.elt (h1.symm.trans (he.symm.trans (h.right _ (pw_lt h ha i)).symm))
    have := pw_min h ha (by omega) h2
    omega
  · exact hl
  · have h1 := pw_add h ha j (i - j)
    rw [show j + (i - j) = i by omega] at h1
    have h2 := grp_cancel h (pw_lt h ha j) (pw_lt h ha (i - j)) h.elt (h1.symm.trans (he.trans (h.right _ (pw_lt h ha j)).symm))
    have := pw_min h ha (by omega) h2
    omega

theorem len_split (p : Nat → Bool) : ∀ l : List Nat, l.length = (l.filter p).length + (l.filter (fun y => !p y)).length
  | [] => rfl
  | x :: l => by
    have h := len_split p l
    cases hp : p x <;> simp [hp] <;> omega
/-- Where each value of f is met as often, that number divides all. -/
theorem fibre_dvd (f : Nat → Int) (o : Nat) : ∀ (m : Nat) (l : List Nat), l.length ≤ m → (∀ x, x ∈ l → (l.filter (fun y => decide (f y = f x))).length = o) → o ∣ l.length
  | _, [], _, _ => ⟨0, rfl⟩
  | 0, x :: l, hm, _ => by simp at hm
  | m + 1, x :: l, hm, hf => by
    have h1 := hf x (by simp)
    have hsplit := len_split (fun y => decide (f y = f x)) (x :: l)
    have hlt : 0 < ((x :: l).filter (fun y => decide (f y = f x))).length := List.length_pos_of_mem (a := x) (List.mem_filter.2 ⟨by simp, by simp⟩)
    have h2 := fibre_dvd f o m ((x :: l).filter (fun y => !decide (f y = f x))) (by simp only [List.length_cons] at hm hsplit; omega) (fun y hy => by
      obtain ⟨hy1, hy2⟩ := List.mem_filter.1 hy
      rw [List.filter_filter, ← hf y hy1]
      congr 1
      apply List.filter_congr
      intro z _
      by_cases hz : f z = f y
      · simp only [hz, decide_true, Bool.true_and]
        exact hy2
      · simp [hz])
    rw [hsplit, h1]
    exact Nat.dvd_add (Nat.dvd_refl o) h2
/-- Is y some power of a behind x? -/
def inCoset (n : Nat) (zs : List Int) (e a x y : Nat) : Bool := (List.range (ordN n zs e a)).any fun k => decide (tm n zs x (pw n zs e a k) = y)
theorem inCoset_iff {n e : Nat} {zs : List Int} {a x y : Nat} : inCoset n zs e a x y = true ↔ ∃ k, k < ordN n zs e a ∧ tm n zs x (pw n zs e a k) = y := by
  unfold inCoset
  simp only [List.any_eq_true, List.mem_range, decide_eq_true_eq]
theorem inCoset_any {n e : Nat} {zs : List Int} (h : IsGrp n zs e) {a x y : Nat} (ha : a < n) {k : Nat} (hk : tm n zs x (pw n zs e a k) = y) : inCoset n zs e a x y = true :=
  inCoset_iff.2 ⟨k % ordN n zs e a, Nat.mod_lt _ (ord_pos a), by rw [pw_mod h ha]; exact hk⟩
theorem inCoset_sub {n e : Nat} {zs : List Int} (h : IsGrp n zs e) {a x y z : Nat} (ha : a < n) (hx : x < n) (h1 : inCoset n zs e a x y = true) (h2 : inCoset n zs e a y z = true) : inCoset n zs e a x z = true := by
  obtain ⟨i, _, rfl⟩ := inCoset_iff.1 h1
  obtain ⟨j, _, rfl⟩ := inCoset_iff.1 h2
  exact inCoset_any h ha (k := i + j) (by rw [pw_add h ha, h.ass _ _ _ hx (pw_lt h ha i) (pw_lt h ha j)])
theorem inCoset_symm {n e : Nat} {zs : List Int} (h : IsGrp n zs e) {a x y : Nat} (ha : a < n) (hx : x < n) (h1 : inCoset n zs e a x y = true) : inCoset n zs e a y x = true := by
  obtain ⟨i, hi, rfl⟩ := inCoset_iff.1 h1
  exact inCoset_any h ha (k := ordN n zs e a - i) (by rw [h.ass _ _ _ hx (pw_lt h ha i) (pw_lt h ha _), ← pw_add h ha, show i + (ordN n zs e a - i) = ordN n zs e a by omega, pw_ord h ha, h.right x hx])
theorem inCoset_refl {n e : Nat} {zs : List Int} (h : IsGrp n zs e) {a x : Nat} (ha : a < n) (hx : x < n) : inCoset n zs e a x x = true :=
  inCoset_any h ha (k := 0) (h.right x hx)
/-- The least thing of a coset. -/
def rep (n : Nat) (zs : List Int) (e a x : Nat) : Int := least n (inCoset n zs e a x)
theorem rep_iff {n e : Nat} {zs : List Int} (h : IsGrp n zs e) {a x y : Nat} (ha : a < n) (hx : x < n) (hy : y < n) : rep n zs e a y = rep n zs e a x ↔ inCoset n zs e a x y = true := by
  unfold rep
  constructor
  · intro he
    rcases least_cases n (inCoset n zs e a x) with ⟨k, hk, hp, _, e1⟩ | ⟨hno, _⟩
    · rcases least_cases n (inCoset n zs e a y) with ⟨j, hj, hq, _, e2⟩ | ⟨hno, _⟩
      · rw [e1, e2] at he
        have : j = k := by omega
        subst this
        exact inCoset_sub h ha hx hp (inCoset_symm h ha hy hq)
      · have := hno y hy
        rw [inCoset_refl h ha hy] at this; cases this
    · have := hno x hx
      rw [inCoset_refl h ha hx] at this; cases this
  · intro hxy
    apply least_congr
    intro t ht
    rw [Bool.eq_iff_iff]
    exact ⟨fun hyt => inCoset_sub h ha hx hxy hyt, fun hxt => inCoset_sub h ha hy (inCoset_symm h ha hx hxy) hxt⟩
/-- LAGRANGE, of what one thing makes. -/
theorem lagrange {n e : Nat} {zs : List Int} (h : IsGrp n zs e) {a : Nat} (ha : a < n) : ordN n zs e a ∣ n := by
  have h1 := fibre_dvd (rep n zs e a) (ordN n zs e a) n (List.range n) (by simp) (fun x hx => by
    have hx := List.mem_range.1 hx
    have hn1 : ((List.range n).filter (fun y => decide (rep n zs e a y = rep n zs e a x))).Nodup := List.nodup_range.filter _
    have hn2 : ((List.range (ordN n zs e a)).map (fun k => tm n zs x (pw n zs e a k))).Nodup := map_nodup List.nodup_range (fun i j hi hj he =>
      pw_inj h ha (List.mem_range.1 hi) (List.mem_range.1 hj) (grp_cancel h hx (pw_lt h ha i) (pw_lt h ha j) he))
    have hs1 : ∀ z, z ∈ (List.range n).filter (fun y => decide (rep n zs e a y = rep n zs e a x)) → z ∈ (List.range (ordN n zs e a)).map (fun k => tm n zs x (pw n zs e a k)) := fun z hz => by
      obtain ⟨hz1, hz2⟩ := List.mem_filter.1 hz
      obtain ⟨k, hk, e1⟩ := inCoset_iff.1 ((rep_iff h ha hx (List.mem_range.1 hz1)).1 (of_decide_eq_true hz2))
      exact List.mem_map.2 ⟨k, List.mem_range.2 hk, e1⟩
    have hs2 : ∀ z, z ∈ (List.range (ordN n zs e a)).map (fun k => tm n zs x (pw n zs e a k)) → z ∈ (List.range n).filter (fun y => decide (rep n zs e a y = rep n zs e a x)) := fun z hz => by
      obtain ⟨k, hk, rfl⟩ := List.mem_map.1 hz
      have hzl := tm_lt h.tab hx (pw_lt h ha k)
      exact List.mem_filter.2 ⟨List.mem_range.2 hzl, decide_eq_true ((rep_iff h ha hx hzl).2 (inCoset_any h ha rfl))⟩
    have l1 := nodup_len _ _ hn1 hs1
    have l2 := nodup_len _ _ hn2 hs2
    simp only [List.length_map, List.length_range] at l1 l2
    omega)
  simpa using h1

/-- a, z times, z of either sign. -/
def pz (n : Nat) (zs : List Int) (e a : Nat) (z : Int) : Nat := pw n zs e a (z % (ordN n zs e a : Int)).toNat
theorem pz_lt {n e : Nat} {zs : List Int} (h : IsGrp n zs e) {a : Nat} (ha : a < n) (z : Int) : pz n zs e a z < n := pw_lt h ha _
theorem pz_eq {n e : Nat} {zs : List Int} (h : IsGrp n zs e) {a : Nat} (ha : a < n) {k : Nat} {z : Int} (hk : (k : Int) % (ordN n zs e a : Int) = z % (ordN n zs e a : Int)) : pz n zs e a z = pw n zs e a k := by
  unfold pz
  rw [← hk, ← Int.natCast_emod, Int.toNat_natCast, pw_mod h ha]
theorem pz_add {n e : Nat} {zs : List Int} (h : IsGrp n zs e) {a : Nat} (ha : a < n) (x y : Int) : tm n zs (pz n zs e a x) (pz n zs e a y) = pz n zs e a (x + y) := by
  have ho : (0 : Int) < (ordN n zs e a : Int) := by have := ord_pos (n := n) (zs := zs) (e := e) a; omega
  have hx := Int.emod_nonneg x (Int.ne_of_gt ho)
  have hy := Int.emod_nonneg y (Int.ne_of_gt ho)
  rw [pz_eq h ha (k := (x % (ordN n zs e a : Int)).toNat + (y % (ordN n zs e a : Int)).toNat) (z := x + y) (by
    rw [Int.natCast_add, Int.toNat_of_nonneg hx, Int.toNat_of_nonneg hy, ← Int.add_emod]), pw_add h ha]
  rfl
theorem pz_n {n e : Nat} {zs : List Int} (h : IsGrp n zs e) {a : Nat} (ha : a < n) : pz n zs e a (n : Int) = e := by
  obtain ⟨q, hq⟩ := lagrange h ha
  rw [pz_eq h ha (k := n) (z := (n : Int)) rfl]
  have := pw_ord_mul h ha q
  rw [← hq] at this
  exact this
theorem pz_mul {n e : Nat} {zs : List Int} (h : IsGrp n zs e) {a : Nat} (ha : a < n) (x y : Int) : pz n zs e (pz n zs e a x) y = pz n zs e a (x * y) := by
  have ho : (0 : Int) < (ordN n zs e a : Int) := by have := ord_pos (n := n) (zs := zs) (e := e) a; omega
  have hx := Int.emod_nonneg x (Int.ne_of_gt ho)
  have hy := Int.emod_nonneg y (Int.ne_of_gt ho)
  obtain ⟨i, hi⟩ : ∃ i : Nat, (i : Int) = x % (ordN n zs e a : Int) := ⟨(x % (ordN n zs e a : Int)).toNat, Int.toNat_of_nonneg hx⟩
  obtain ⟨j, hj⟩ : ∃ j : Nat, (j : Int) = y % (ordN n zs e a : Int) := ⟨(y % (ordN n zs e a : Int)).toNat, Int.toNat_of_nonneg hy⟩
  have e1 : pz n zs e a x = pw n zs e a i := pz_eq h ha (by rw [hi, Int.emod_emod])
  have hb := pw_lt h ha i
  rw [e1]
  have hd : ordN n zs e (pw n zs e a i) ∣ ordN n zs e a := ord_dvd h hb (by rw [pw_mul h ha, Nat.mul_comm, pw_ord_mul h ha])
  rw [pz_eq h hb (k := j) (z := y) (by
    rw [hj]
    exact Int.emod_emod_of_dvd y (Int.natCast_dvd_natCast.2 hd)), pw_mul h ha]
  rw [pz_eq h ha (k := i * j) (z := x * y) (by rw [Int.natCast_mul, hi, hj, ← Int.mul_emod])]
end Go.Proofs.YtmgengplfebmjaaDoor

namespace Go.Proofs.YtmgengplfebmjaaDoor
open Go Go.RowKit

/-- What the walk reckons: the rest of a number by an order. -/
theorem rest_of (z : Int) {o : Nat} (h : 0 < o) : ∃ s : Nat, s < o ∧ (s : Int) = z % (o : Int) ∧ ((z.tmod o < 0 ∧ z.tmod o + o = s) ∨ (¬ z.tmod o < 0 ∧ z.tmod o = s)) := by
  have h1 := Int.emod_nonneg z (show (o : Int) ≠ 0 by omega)
  have h2 := Int.emod_lt_of_pos z (show (0 : Int) < o by omega)
  refine ⟨(z % (o : Int)).toNat, by omega, by omega, ?_⟩
  rcases Int.lt_or_le z 0 with hn | hn
  · have h3 := Int.tmod_eq_emod (a := z) (b := (o : Int))
    rw [h3]
    split
    · right; omega
    · left
      rw [Int.natAbs_natCast]; omega
  · right
    rw [Int.tmod_eq_emod_of_nonneg hn]
    omega
set_option maxRecDepth 100000 in
set_option maxHeartbeats 4000000 in
theorem O_ok {n e : Nat} {zs : List Int} (h : IsGrp n zs e) {a : Nat} (ha : a < n) (v : Value) (w : World) (hv : Sl w v zs) :
    Calls Tryd.prog 47 #[.agg #[.int .i64 n, v], .int .i64 a] w fun x w' => x = .returned (.int .i64 (ordN n zs e a)) ∧ Below w.heap.size w w' := by
  have hB0 : Below w.heap.size w (w.alloc (.cells #[.int .i64 n, v] 24)) := balloc w _
  have hg0 : BoxG (w.alloc (.cells #[.int .i64 n, v] 24)) w.heap.size n v := blk0 _ _
  have hv0 := hv.below hB0
  have hle := h.tab.le
  have HT := hide h.tab
  have HE := hide (E_ok n v zs _ h.tab hv0)
  rw [h.one] at HE
  have HST := hide (fun k => (show tm n zs a (pr n zs a k) = pr n zs a (k + 1) by have := pr_add h ha 0 k; rw [Nat.zero_add] at this; exact this.symm))
  obtain ⟨k9, hk9, hoe, hp9, hn9⟩ := ordN_spec h ha
  rw [hoe]
  have HP := hide hp9
  have HN := hide hn9
  obtain ⟨g0, g1, _, _⟩ := hg0.two
  clear h hoe hp9 hn9
  go_enter Tryd.func47, Tryd.ntmps47
  go_wp2_with fail
  refine HE.out.mono ?_
  rintro x w1 ⟨rfl, hb1⟩
  generalize w.alloc (.cells #[.int .i64 n, v] 24) = w0 at *
  clear HE
  go_wp2
  go_loopw [6, 7] (fun p o wr => ∃ k : Nat, k ≤ k9 ∧ o = .int .i64 ((k : Int) + 1) ∧ p = .int .i64 (pr n zs a k) ∧ Below w0.heap.size w0 wr) (fun _ o _ => k9 + 1 - (intOf o).toNat)
  case atStart => exact ⟨0, Nat.zero_le _, rfl, rfl, hb1⟩
  case round =>
    obtain ⟨k, hk, rfl, rfl, hB⟩ := hrel
    have d0 := below_cell hB g0
    have d1 := below_cell hB g1
    by_cases hlt : k < k9
    · have hne : ((pr n zs a k : Int) != (e : Int)) = true := by
        have := HN.out k hlt
        simp; omega
      have hpl := pr_lt HT.out ha k
      go_wp2_with fail
      refine (M_ok n v zs a _ _ HT.out (hv0.below hB) ha hpl).mono ?_
      rintro x w2 ⟨rfl, hb2⟩
      have hB1 := bcat2 hB hb2
      rw [HST.out]
      clear d0 d1
      go_wp2
      go_roundw
      case rel => exact ⟨k + 1, by omega, by go_num, rfl, hB1⟩
      case measure => simp [intOf]; omega
    · have hkk : k = k9 := by omega
      subst hkk
      have hne : ((pr n zs a k : Int) != (e : Int)) = false := by
        have := HP.out
        simp; omega
      go_wp2
      go_ret
      exact ⟨retI (by simp), bcat hB0 hB hB0.size⟩

end Go.Proofs.YtmgengplfebmjaaDoor

namespace Go.Proofs.YtmgengplfebmjaaDoor
open Go Go.RowKit

theorem Blk.c0 {W : World} {B : Nat} {T : TypeId} {x y : Value} (h : Blk W B T [x, y]) : W.cell? ⟨B, 0, none⟩ = some x := h.cell 0
theorem Blk.c1 {W : World} {B : Nat} {T : TypeId} {x y : Value} (h : Blk W B T [x, y]) : W.cell? ⟨B, 1, none⟩ = some y := h.cell 1
end Go.Proofs.YtmgengplfebmjaaDoor
