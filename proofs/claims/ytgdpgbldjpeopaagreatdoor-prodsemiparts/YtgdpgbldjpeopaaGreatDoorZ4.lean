/- Tables that functions make; orders and powers, as mathematics and as the document has them; no group. Package quot: numbers, group, Quotient; the law's question whether a group is the quotient; the chapter's example. What package quot's Simple and Abel answer; the subgroup of commutators, and the quotient by it. Condition: the library's table of places lies as its text lays it. Package hom: opened, openedWith, strays, Check, Image; what is wrong with two tables and a list as a map; the document's TwoGroups and HomFault of a homomorphism; homomorphisms into what commutes. Condition: the library's table of places lies as its text lays it. The document's TwoGroups, HomFault and Then, at everything. -/
import Derived.Test.YtgdpgbldjpeopaaGreatDoorZ1
import Derived.Test.YtgdpgbldjpeopaaGreatDoorZ2
import Derived.Test.YtgdpgbldjpeopaaGreatDoorZ3
import Derived.Maps.OwnOps
import Derived.Deep.AppendLies
import Derived.Deep.RegionLaw
namespace Go.Proofs.YtgdpgbldjpeopaaGreatDoor
open Go

/-- The table of n things whose products f tells. -/
def mkT (n : Nat) (f : Nat → Nat → Nat) : List Int := (List.range (n * n)).map fun i => (f (i / n) (i % n) : Int)
theorem mkT_len (n : Nat) (f : Nat → Nat → Nat) : (mkT n f).length = n * n := by simp [mkT]
theorem mkT_get {N : Nat} {f : Nat → Nat → Nat} {i : Nat} (hi : i < N * N) : (mkT N f)[i]?.getD 0 = (f (i / N) (i % N) : Int) := by simp [mkT, hi]
theorem tm_mk {N : Nat} {f : Nat → Nat → Nat} {a b : Nat} (ha : a < N) (hb : b < N) : tm N (mkT N f) a b = f a b := by
  unfold tm
  obtain ⟨e1, e2⟩ := dm' (a := a) hb
  rw [mkT_get (place_lt ha hb), e1, e2, Int.toNat_natCast]
theorem tab_mk {N : Nat} {f : Nat → Nat → Nat} (h1 : 1 ≤ N) (h2 : N ≤ 60) (hc : ∀ a b, a < N → b < N → f a b < N) : IsTab N (mkT N f) :=
  ⟨h1, h2, mkT_len N f, fun i hi => by
    obtain ⟨d1, d2⟩ := div_mod_lt hi
    have := hc _ _ d1 d2
    rw [mkT_get hi]; omega⟩
theorem grp_mk {N e : Nat} {f : Nat → Nat → Nat} (h1 : 1 ≤ N) (h2 : N ≤ 60) (hc : ∀ a b, a < N → b < N → f a b < N) (he : e < N) (hl : ∀ a, a < N → f e a = a) (hr : ∀ a, a < N → f a e = a)
    (hass : ∀ a b c, a < N → b < N → c < N → f (f a b) c = f a (f b c)) (hinv : ∀ a, a < N → ∃ b, b < N ∧ f a b = e) : IsGrp N (mkT N f) e := by
  have ht := tab_mk h1 h2 hc
  have hoe : oneB N (mkT N f) e = true := oneB_iff.2 (fun a ha => by rw [tm_mk he ha, tm_mk ha he]; exact ⟨hl a ha, hr a ha⟩)
  refine ⟨ht, he, ?_, fun a ha => by rw [tm_mk he ha]; exact hl a ha, fun a ha => by rw [tm_mk ha he]; exact hr a ha, fun a b c ha hb hc' => ?_, fun a ha => ?_⟩
  · unfold one
    rcases least_cases N (oneB N (mkT N f)) with ⟨k, hk, hp, _, ek⟩ | ⟨hno, _⟩
    · have h3 := (oneB_iff.1 hp e he).1
      rw [tm_mk hk he, hr k hk] at h3
      rw [ek, h3]
    · have := hno e he
      rw [hoe] at this; cases this
  · rw [tm_mk ha hb, tm_mk (hc a b ha hb) hc', tm_mk hb hc', tm_mk ha (hc b c hb hc')]
    exact hass a b c ha hb hc'
  · obtain ⟨b, hb, hab⟩ := hinv a ha
    exact ⟨b, hb, by rw [tm_mk ha hb]; exact hab⟩


theorem mkT_congr {n : Nat} {f g : Nat → Nat → Nat} (h : ∀ a b, a < n → b < n → f a b = g a b) : mkT n f = mkT n g := by
  unfold mkT
  refine List.map_congr_left fun i hi => ?_
  obtain ⟨h1, h2⟩ := div_mod_lt (List.mem_range.1 hi)
  rw [h _ _ h1 h2]
/-- What a group is mapped to, products kept, and all of it met, is a group. -/
theorem grp_image {n e K : Nat} {zs : List Int} {F : Nat → Nat → Nat} {φ : Nat → Nat} (g : IsGrp n zs e) (hK : K ≤ 60) (hφ : ∀ a, a < n → φ a < K) (hs : ∀ i, i < K → ∃ a, a < n ∧ φ a = i)
    (hm : ∀ a b, a < n → b < n → F (φ a) (φ b) = φ (tm n zs a b)) : IsGrp K (mkT K F) (φ e) := by
  have hKp : 1 ≤ K := by have := hφ e g.elt; omega
  refine grp_mk hKp hK ?_ (hφ e g.elt) ?_ ?_ ?_ ?_
  · intro i j hi hj
    obtain ⟨a, ha, rfl⟩ := hs i hi
    obtain ⟨b, hb, rfl⟩ := hs j hj
    rw [hm a b ha hb]
    exact hφ _ (tm_lt g.tab ha hb)
  · intro i hi
    obtain ⟨a, ha, rfl⟩ := hs i hi
    rw [hm e a g.elt ha, g.left a ha]
  · intro i hi
    obtain ⟨a, ha, rfl⟩ := hs i hi
    rw [hm a e ha g.elt, g.right a ha]
  · intro i j k hi hj hk
    obtain ⟨a, ha, rfl⟩ := hs i hi
    obtain ⟨b, hb, rfl⟩ := hs j hj
    obtain ⟨c, hc, rfl⟩ := hs k hk
    rw [hm a b ha hb, hm _ c (tm_lt g.tab ha hb) hc, hm b c hb hc, hm a _ ha (tm_lt g.tab hb hc), g.ass a b c ha hb hc]
  · intro i hi
    obtain ⟨a, ha, rfl⟩ := hs i hi
    obtain ⟨b, hb, he⟩ := g.inv a ha
    exact ⟨φ b, hφ b hb, by rw [hm a b ha hb, he]⟩
end Go.Proofs.YtgdpgbldjpeopaaGreatDoor

namespace Go.Proofs.YtgdpgbldjpeopaaGreatDoor
open Go Go.RowKit

/-- a, k + 1 times. -/
def pr (n : Nat) (zs : List Int) (a : Nat) : Nat → Nat
  | 0 => a
  | k + 1 => tm n zs (pr n zs a k) a
theorem pr_lt {n : Nat} {zs : List Int} (ht : IsTab n zs) {a : Nat} (ha : a < n) : ∀ k, pr n zs a k < n
  | 0 => ha
  | k + 1 => tm_lt ht (pr_lt ht ha k) ha
theorem pr_add {n e : Nat} {zs : List Int} (h : IsGrp n zs e) {a : Nat} (ha : a < n) (i : Nat) : ∀ m, pr n zs a (i + m + 1) = tm n zs (pr n zs a i) (pr n zs a m)
  | 0 => rfl
  | m + 1 => by
    show tm n zs (pr n zs a (i + m + 1)) a = tm n zs (pr n zs a i) (tm n zs (pr n zs a m) a)
    rw [pr_add h ha i m, h.ass _ _ _ (pr_lt h.tab ha i) (pr_lt h.tab ha m) ha]
/-- A thing has an inverse on both sides. -/
theorem grp_inv {n e : Nat} {zs : List Int} (h : IsGrp n zs e) {x : Nat} (hx : x < n) : ∃ b, b < n ∧ tm n zs x b = e ∧ tm n zs b x = e := by
  obtain ⟨b, hb, hxb⟩ := h.inv x hx
  exact ⟨b, hb, hxb, inv_both h.tab h.elt h.left h.right h.ass hx hb hxb⟩
theorem grp_cancel {n e : Nat} {zs : List Int} (h : IsGrp n zs e) {x y z : Nat} (hx : x < n) (hy : y < n) (hz : z < n) (he : tm n zs x y = tm n zs x z) : y = z := by
  obtain ⟨b, hb, _, hbx⟩ := grp_inv h hx
  have h1 := h.ass b x y hb hx hy
  have h2 := h.ass b x z hb hx hz
  rw [hbx, h.left y hy] at h1
  rw [hbx, h.left z hz] at h2
  rw [h1, h2, he]
theorem grp_cancel_right {n e : Nat} {zs : List Int} (h : IsGrp n zs e) {x y z : Nat} (hx : x < n) (hy : y < n) (hz : z < n) (he : tm n zs y x = tm n zs z x) : y = z := by
  obtain ⟨b, hb, hxb, _⟩ := grp_inv h hx
  have h1 := h.ass y x b hy hx hb
  have h2 := h.ass z x b hz hx hb
  rw [hxb, h.right y hy] at h1
  rw [hxb, h.right z hz] at h2
  rw [← h1, ← h2, he]
/-- Some power, at most as many times as there are things, is the one. -/
theorem pr_one {n e : Nat} {zs : List Int} (h : IsGrp n zs e) {a : Nat} (ha : a < n) : ∃ k, k < n ∧ pr n zs a k = e := by
  rcases Classical.em (∃ k, k < n ∧ pr n zs a k = e) with hk | hk
  · exact hk
  · exfalso
    have hinj : ∀ i j, i < j → j < n → pr n zs a i ≠ pr n zs a j := fun i j hij hj he => by
      have h1 := pr_add h ha i (j - i - 1)
      rw [show i + (j - i - 1) + 1 = j by omega] at h1
      have h2 : tm n zs (pr n zs a i) (pr n zs a (j - i - 1)) = tm n zs (pr n zs a i) e := by rw [← h1, h.right _ (pr_lt h.tab ha i), he]
      exact hk ⟨j - i - 1, by omega, grp_cancel h (pr_lt h.tab ha i) (pr_lt h.tab ha _) h.elt h2⟩
    obtain ⟨k, hkn, hke⟩ := meets (n := n) (f := pr n zs a) (fun x _ => pr_lt h.tab ha x) (fun x y hx hy he => by
      rcases Nat.lt_trichotomy x y with hl | hl | hl
      · exact absurd he (hinj x y hl hy)
      · exact hl
      · exact absurd he.symm (hinj y x hl hx)) h.elt
    exact hk ⟨k, hkn, hke⟩
/-- How often a is to be taken until it is e. -/
def ordN (n : Nat) (zs : List Int) (e a : Nat) : Nat := (least n (fun k => decide (pr n zs a k = e))).toNat + 1
theorem ordN_spec {n e : Nat} {zs : List Int} (h : IsGrp n zs e) {a : Nat} (ha : a < n) : ∃ k, k < n ∧ ordN n zs e a = k + 1 ∧ pr n zs a k = e ∧ ∀ t, t < k → pr n zs a t ≠ e := by
  rcases least_cases n (fun k => decide (pr n zs a k = e)) with ⟨k, hk, hp, hb, he⟩ | ⟨hno, _⟩
  · refine ⟨k, hk, by unfold ordN; rw [he]; simp, of_decide_eq_true hp, fun t ht => of_decide_eq_false (hb t ht)⟩
  · obtain ⟨k, hk, hke⟩ := pr_one h ha
    have := hno k hk
    simp [hke] at this

end Go.Proofs.YtgdpgbldjpeopaaGreatDoor

namespace Go.Proofs.YtgdpgbldjpeopaaGreatDoor

/-- a, k times. -/
def pw (n : Nat) (zs : List Int) (e a : Nat) : Nat → Nat
  | 0 => e
  | k + 1 => tm n zs (pw n zs e a k) a
theorem pw_lt {n e : Nat} {zs : List Int} (h : IsGrp n zs e) {a : Nat} (ha : a < n) : ∀ k, pw n zs e a k < n
  | 0 => h.elt
  | k + 1 => tm_lt h.tab (pw_lt h ha k) ha
theorem pw_pr {n e : Nat} {zs : List Int} (h : IsGrp n zs e) {a : Nat} (ha : a < n) : ∀ k, pw n zs e a (k + 1) = pr n zs a k
  | 0 => h.left a ha
  | k + 1 => by
    show tm n zs (pw n zs e a (k + 1)) a = tm n zs (pr n zs a k) a
    rw [pw_pr h ha k]
theorem pw_add {n e : Nat} {zs : List Int} (h : IsGrp n zs e) {a : Nat} (ha : a < n) (i : Nat) : ∀ j, pw n zs e a (i + j) = tm n zs (pw n zs e a i) (pw n zs e a j)
  | 0 => (h.right _ (pw_lt h ha i)).symm
  | j + 1 => by
    show tm n zs (pw n zs e a (i + j)) a = tm n zs (pw n zs e a i) (tm n zs (pw n zs e a j) a)
    rw [pw_add h ha i j, h.ass _ _ _ (pw_lt h ha i) (pw_lt h ha j) ha]
theorem pw_one {n e : Nat} {zs : List Int} (h : IsGrp n zs e) : ∀ k, pw n zs e e k = e
  | 0 => rfl
  | k + 1 => by
    show tm n zs (pw n zs e e k) e = e
    rw [pw_one h k, h.left e h.elt]
theorem pw_mul {n e : Nat} {zs : List Int} (h : IsGrp n zs e) {a : Nat} (ha : a < n) (i : Nat) : ∀ j, pw n zs e (pw n zs e a i) j = pw n zs e a (i * j)
  | 0 => rfl
  | j + 1 => by
    show tm n zs (pw n zs e (pw n zs e a i) j) (pw n zs e a i) = pw n zs e a (i * j + i)
    rw [pw_mul h ha i j, pw_add h ha (i * j) i]
theorem ord_pos {n e : Nat} {zs : List Int} (a : Nat) : 0 < ordN n zs e a := by unfold ordN; omega
theorem ord_le {n e : Nat} {zs : List Int} (h : IsGrp n zs e) {a : Nat} (ha : a < n) : ordN n zs e a ≤ n := by
  obtain ⟨k, hk, ho, _, _⟩ := ordN_spec h ha
  omega
theorem pw_ord {n e : Nat} {zs : List Int} (h : IsGrp n zs e) {a : Nat} (ha : a < n) : pw n zs e a (ordN n zs e a) = e := by
  obtain ⟨k, _, ho, hp, _⟩ := ordN_spec h ha
  rw [ho, pw_pr h ha, hp]
theorem pw_ord_mul {n e : Nat} {zs : List Int} (h : IsGrp n zs e) {a : Nat} (ha : a < n) (q : Nat) : pw n zs e a (ordN n zs e a * q) = e := by
  rw [← pw_mul h ha, pw_ord h ha, pw_one h]
theorem pw_mod {n e : Nat} {zs : List Int} (h : IsGrp n zs e) {a : Nat} (ha : a < n) (k : Nat) : pw n zs e a (k % ordN n zs e a) = pw n zs e a k := by
  have h1 := Nat.div_add_mod k (ordN n zs e a)
  have h2 : pw n zs e a (ordN n zs e a * (k / ordN n zs e a) + k % ordN n zs e a) = pw n zs e a (k % ordN n zs e a) := by
    rw [pw_add h ha, pw_ord_mul h ha, h.left _ (pw_lt h ha _)]
  rw [h1] at h2
  exact h2.symm
theorem pw_min {n e : Nat} {zs : List Int} (h : IsGrp n zs e) {a : Nat} (ha : a < n) {k : Nat} (hk : k < ordN n zs e a) (hp : pw n zs e a k = e) : k = 0 := by
  cases k with
  | zero => rfl
  | succ k =>
    obtain ⟨k9, _, ho, _, hno⟩ := ordN_spec h ha
    rw [pw_pr h ha] at hp
    exact absurd hp (hno k (by omega))
theorem ord_dvd {n e : Nat} {zs : List Int} (h : IsGrp n zs e) {a : Nat} (ha : a < n) {k : Nat} (hp : pw n zs e a k = e) : ordN n zs e a ∣ k := by
  have h1 := pw_min h ha (Nat.mod_lt k (ord_pos a)) ((pw_mod h ha k).trans hp)
  exact Nat.dvd_of_mod_eq_zero h1
theorem pw_inj {n e : Nat} {zs : List Int} (h : IsGrp n zs e) {a : Nat} (ha : a < n) {i j : Nat} (hi : i < ordN n zs e a) (hj : j < ordN n zs e a) (he : pw n zs e a i = pw n zs e a j) : i = j := by
  rcases Nat.lt_trichotomy i j with hl | hl | hl
  · have h1 := pw_add h ha i (j - i)
    rw [show i + (j - i) = j by omega] at h1
    have h2 := grp_cancel h (pw_lt h ha i) (pw_lt h ha (j - i)) h.elt (h1.symm.trans (he.symm.trans (h.right _ (pw_lt h ha i)).symm))
    have := pw_min h ha (by omega) h2
    omega
  · exact hl
  · have h1 := pw_add h ha j (i - j)
    rw [show j + (i - j) = i by omega] at h1
    have h2 := grp_cancel h (pw_lt h ha j) (pw_lt h ha (i - j)) h.elt (h1.symm.trans (he.trans (h.right _ (pw_lt h ha j)).symm))
    have := pw_min h ha (by omega) h2
    omega

theorem len_split (p : Nat → Bool) : ∀ l : List Nat, l.length = (l.filter p).length + (l.filter (fun y => !p y)).length
  | [] => rfl
  | x :: l => by
    have h := len_split p l
    cases hp : p x <;> simp [hp] <;> omega
/-- Where each value of f is met as often, that number divides all. -/
theorem fibre_dvd (f : Nat → Int) (o : Nat) : ∀ (m : Nat) (l : List Nat), l.length ≤ m → (∀ x, x ∈ l → (l.filter (fun y => decide (f y = f x))).length = o) → o ∣ l.length
  | _, [], _, _ => ⟨0, rfl⟩
  | 0, x :: l, hm, _ => by simp at hm
  | m + 1, x :: l, hm, hf => by
    have h1 := hf x (by simp)
    have hsplit := len_split (fun y => decide (f y = f x)) (x :: l)
    have hlt : 0 < ((x :: l).filter (fun y => decide (f y = f x))).length := List.length_pos_of_mem (a := x) (List.mem_filter.2 ⟨by simp, by simp⟩)
    have h2 := fibre_dvd f o m ((x :: l).filter (fun y => !decide (f y = f x))) (by simp only [List.length_cons] at hm hsplit; omega) (fun y hy => by
      obtain ⟨hy1, hy2⟩ := List.mem_filter.1 hy
      rw [List.filter_filter, ← hf y hy1]
      congr 1
      apply List.filter_congr
      intro z _
      by_cases hz : f z = f y
      · simp only [hz, decide_true, Bool.true_and]
        exact hy2
      · simp [hz])
    rw [hsplit, h1]
    exact Nat.dvd_add (Nat.dvd_refl o) h2
/-- Is y some power of a behind x? -/
def inCoset (n : Nat) (zs : List Int) (e a x y : Nat) : Bool := (List.range (ordN n zs e a)).any fun k => decide (tm n zs x (pw n zs e a k) = y)
theorem inCoset_iff {n e : Nat} {zs : List Int} {a x y : Nat} : inCoset n zs e a x y = true ↔ ∃ k, k < ordN n zs e a ∧ tm n zs x (pw n zs e a k) = y := by
  unfold inCoset
  simp only [List.any_eq_true, List.mem_range, decide_eq_true_eq]
theorem inCoset_any {n e : Nat} {zs : List Int} (h : IsGrp n zs e) {a x y : Nat} (ha : a < n) {k : Nat} (hk : tm n zs x (pw n zs e a k) = y) : inCoset n zs e a x y = true :=
  inCoset_iff.2 ⟨k % ordN n zs e a, Nat.mod_lt _ (ord_pos a), by rw [pw_mod h ha]; exact hk⟩
theorem inCoset_sub {n e : Nat} {zs : List Int} (h : IsGrp n zs e) {a x y z : Nat} (ha : a < n) (hx : x < n) (h1 : inCoset n zs e a x y = true) (h2 : inCoset n zs e a y z = true) : inCoset n zs e a x z = true := by
  obtain ⟨i, _, rfl⟩ := inCoset_iff.1 h1
  obtain ⟨j, _, rfl⟩ := inCoset_iff.1 h2
  exact inCoset_any h ha (k := i + j) (by rw [pw_add h ha, h.ass _ _ _ hx (pw_lt h ha i) (pw_lt h ha j)])
theorem inCoset_symm {n e : Nat} {zs : List Int} (h : IsGrp n zs e) {a x y : Nat} (ha : a < n) (hx : x < n) (h1 : inCoset n zs e a x y = true) : inCoset n zs e a y x = true := by
  obtain ⟨i, hi, rfl⟩ := inCoset_iff.1 h1
  exact inCoset_any h ha (k := ordN n zs e a - i) (by rw [h.ass _ _ _ hx (pw_lt h ha i) (pw_lt h ha _), ← pw_add h ha, show i + (ordN n zs e a - i) = ordN n zs e a by omega, pw_ord h ha, h.right x hx])
theorem inCoset_refl {n e : Nat} {zs : List Int} (h : IsGrp n zs e) {a x : Nat} (ha : a < n) (hx : x < n) : inCoset n zs e a x x = true :=
  inCoset_any h ha (k := 0) (h.right x hx)
/-- The least thing of a coset. -/
def rep (n : Nat) (zs : List Int) (e a x : Nat) : Int := least n (inCoset n zs e a x)
theorem rep_iff {n e : Nat} {zs : List Int} (h : IsGrp n zs e) {a x y : Nat} (ha : a < n) (hx : x < n) (hy : y < n) : rep n zs e a y = rep n zs e a x ↔ inCoset n zs e a x y = true := by
  unfold rep
  constructor
  · intro he
    rcases least_cases n (inCoset n zs e a x) with ⟨k, hk, hp, _, e1⟩ | ⟨hno, _⟩
    · rcases least_cases n (inCoset n zs e a y) with ⟨j, hj, hq, _, e2⟩ | ⟨hno, _⟩
      · rw [e1, e2] at he
        have : j = k := by omega
        subst this
        exact inCoset_sub h ha hx hp (inCoset_symm h ha hy hq)
      · have := hno y hy
        rw [inCoset_refl h ha hy] at this; cases this
    · have := hno x hx
      rw [inCoset_refl h ha hx] at this; cases this
  · intro hxy
    apply least_congr
    intro t ht
    rw [Bool.eq_iff_iff]
    exact ⟨fun hyt => inCoset_sub h ha hx hxy hyt, fun hxt => inCoset_sub h ha hy (inCoset_symm h ha hx hxy) hxt⟩
/-- LAGRANGE, of what one thing makes. -/
theorem lagrange {n e : Nat} {zs : List Int} (h : IsGrp n zs e) {a : Nat} (ha : a < n) : ordN n zs e a ∣ n := by
  have h1 := fibre_dvd (rep n zs e a) (ordN n zs e a) n (List.range n) (by simp) (fun x hx => by
    have hx := List.mem_range.1 hx
    have hn1 : ((List.range n).filter (fun y => decide (rep n zs e a y = rep n zs e a x))).Nodup := List.nodup_range.filter _
    have hn2 : ((List.range (ordN n zs e a)).map (fun k => tm n zs x (pw n zs e a k))).Nodup := map_nodup List.nodup_range (fun i j hi hj he =>
      pw_inj h ha (List.mem_range.1 hi) (List.mem_range.1 hj) (grp_cancel h hx (pw_lt h ha i) (pw_lt h ha j) he))
    have hs1 : ∀ z, z ∈ (List.range n).filter (fun y => decide (rep n zs e a y = rep n zs e a x)) → z ∈ (List.range (ordN n zs e a)).map (fun k => tm n zs x (pw n zs e a k)) := fun z hz => by
      obtain ⟨hz1, hz2⟩ := List.mem_filter.1 hz
      obtain ⟨k, hk, e1⟩ := inCoset_iff.1 ((rep_iff h ha hx (List.mem_range.1 hz1)).1 (of_decide_eq_true hz2))
      exact List.mem_map.2 ⟨k, List.mem_range.2 hk, e1⟩
    have hs2 : ∀ z, z ∈ (List.range (ordN n zs e a)).map (fun k => tm n zs x (pw n zs e a k)) → z ∈ (List.range n).filter (fun y => decide (rep n zs e a y = rep n zs e a x)) := fun z hz => by
      obtain ⟨k, hk, rfl⟩ := List.mem_map.1 hz
      have hzl := tm_lt h.tab hx (pw_lt h ha k)
      exact List.mem_filter.2 ⟨List.mem_range.2 hzl, decide_eq_true ((rep_iff h ha hx hzl).2 (inCoset_any h ha rfl))⟩
    have l1 := nodup_len _ _ hn1 hs1
    have l2 := nodup_len _ _ hn2 hs2
    simp only [List.length_map, List.length_range] at l1 l2
    omega)
  simpa using h1

/-- a, z times, z of either sign. -/
def pz (n : Nat) (zs : List Int) (e a : Nat) (z : Int) : Nat := pw n zs e a (z % (ordN n zs e a : Int)).toNat
theorem pz_lt {n e : Nat} {zs : List Int} (h : IsGrp n zs e) {a : Nat} (ha : a < n) (z : Int) : pz n zs e a z < n := pw_lt h ha _
theorem pz_eq {n e : Nat} {zs : List Int} (h : IsGrp n zs e) {a : Nat} (ha : a < n) {k : Nat} {z : Int} (hk : (k : Int) % (ordN n zs e a : Int) = z % (ordN n zs e a : Int)) : pz n zs e a z = pw n zs e a k := by
  unfold pz
  rw [← hk, ← Int.natCast_emod, Int.toNat_natCast, pw_mod h ha]
theorem pz_add {n e : Nat} {zs : List Int} (h : IsGrp n zs e) {a : Nat} (ha : a < n) (x y : Int) : tm n zs (pz n zs e a x) (pz n zs e a y) = pz n zs e a (x + y) := by
  have ho : (0 : Int) < (ordN n zs e a : Int) := by have := ord_pos (n := n) (zs := zs) (e := e) a; omega
  have hx := Int.emod_nonneg x (Int.ne_of_gt ho)
  have hy := Int.emod_nonneg y (Int.ne_of_gt ho)
  rw [pz_eq h ha (k := (x % (ordN n zs e a : Int)).toNat + (y % (ordN n zs e a : Int)).toNat) (z := x + y) (by
    rw [Int.natCast_add, Int.toNat_of_nonneg hx, Int.toNat_of_nonneg hy, ← Int.add_emod]), pw_add h ha]
  rfl
theorem pz_n {n e : Nat} {zs : List Int} (h : IsGrp n zs e) {a : Nat} (ha : a < n) : pz n zs e a (n : Int) = e := by
  obtain ⟨q, hq⟩ := lagrange h ha
  rw [pz_eq h ha (k := n) (z := (n : Int)) rfl]
  have := pw_ord_mul h ha q
  rw [← hq] at this
  exact this
theorem pz_mul {n e : Nat} {zs : List Int} (h : IsGrp n zs e) {a : Nat} (ha : a < n) (x y : Int) : pz n zs e (pz n zs e a x) y = pz n zs e a (x * y) := by
  have ho : (0 : Int) < (ordN n zs e a : Int) := by have := ord_pos (n := n) (zs := zs) (e := e) a; omega
  have hx := Int.emod_nonneg x (Int.ne_of_gt ho)
  have hy := Int.emod_nonneg y (Int.ne_of_gt ho)
  obtain ⟨i, hi⟩ : ∃ i : Nat, (i : Int) = x % (ordN n zs e a : Int) := ⟨(x % (ordN n zs e a : Int)).toNat, Int.toNat_of_nonneg hx⟩
  obtain ⟨j, hj⟩ : ∃ j : Nat, (j : Int) = y % (ordN n zs e a : Int) := ⟨(y % (ordN n zs e a : Int)).toNat, Int.toNat_of_nonneg hy⟩
  have e1 : pz n zs e a x = pw n zs e a i := pz_eq h ha (by rw [hi, Int.emod_emod])
  have hb := pw_lt h ha i
  rw [e1]
  have hd : ordN n zs e (pw n zs e a i) ∣ ordN n zs e a := ord_dvd h hb (by rw [pw_mul h ha, Nat.mul_comm, pw_ord_mul h ha])
  rw [pz_eq h hb (k := j) (z := y) (by
    rw [hj]
    exact Int.emod_emod_of_dvd y (Int.natCast_dvd_natCast.2 hd)), pw_mul h ha]
  rw [pz_eq h ha (k := i * j) (z := x * y) (by rw [Int.natCast_mul, hi, hj, ← Int.mul_emod])]
end Go.Proofs.YtgdpgbldjpeopaaGreatDoor

namespace Go.Proofs.YtgdpgbldjpeopaaGreatDoor
open Go Go.RowKit

/-- What the walk reckons: the rest of a number by an order. -/
theorem rest_of (z : Int) {o : Nat} (h : 0 < o) : ∃ s : Nat, s < o ∧ (s : Int) = z % (o : Int) ∧ ((z.tmod o < 0 ∧ z.tmod o + o = s) ∨ (¬ z.tmod o < 0 ∧ z.tmod o = s)) := by
  have h1 := Int.emod_nonneg z (show (o : Int) ≠ 0 by omega)
  have h2 := Int.emod_lt_of_pos z (show (0 : Int) < o by omega)
  refine ⟨(z % (o : Int)).toNat, by omega, by omega, ?_⟩
  rcases Int.lt_or_le z 0 with hn | hn
  · have h3 := Int.tmod_eq_emod (a := z) (b := (o : Int))
    rw [h3]
    split
    · right; omega
    · left
      rw [Int.natAbs_natCast]; omega
  · right
    rw [Int.tmod_eq_emod_of_nonneg hn]
    omega
end Go.Proofs.YtgdpgbldjpeopaaGreatDoor

namespace Go.Proofs.YtgdpgbldjpeopaaGreatDoor
open Go Go.RowKit

theorem Blk.c0 {W : World} {B : Nat} {T : TypeId} {x y : Value} (h : Blk W B T [x, y]) : W.cell? ⟨B, 0, none⟩ = some x := h.cell 0
theorem Blk.c1 {W : World} {B : Nat} {T : TypeId} {x y : Value} (h : Blk W B T [x, y]) : W.cell? ⟨B, 1, none⟩ = some y := h.cell 1
end Go.Proofs.YtgdpgbldjpeopaaGreatDoor

namespace Go.Proofs.YtgdpgbldjpeopaaGreatDoor
open Go Go.RowKit

section
variable {n : Nat} {f : Nat → Nat → Bool}
/-- The least thing of a thing's set. -/
theorem prts_rep (h : Prts n f) {a : Nat} (ha : a < n) : ∃ r, r < n ∧ f a r = true ∧ r ∈ fsts n f n ∧ ((List.range n).find? fun b => decide (bs (f b) n = bs (f a) n)) = some r ∧ num n f a = (fsts n f r).length := by
  have hs : ((List.range n).find? fun b => decide (bs (f b) n = bs (f a) n)).isSome = true := by
    rw [List.find?_isSome]
    exact ⟨a, List.mem_range.2 ha, by simp⟩
  obtain ⟨r, hr⟩ := Option.isSome_iff_exists.1 hs
  obtain ⟨h1, h2, h3⟩ := List.find?_range_eq_some.1 hr
  have hrn := List.mem_range.1 h2
  have h1 : bs (f r) n = bs (f a) n := by simpa using h1
  have hfr : f a r = true := by rw [← bs_inj h1 r hrn]; exact h.refl r hrn
  refine ⟨r, hrn, hfr, ?_, hr, by unfold num; rw [hr]; rfl⟩
  unfold fsts
  rw [List.mem_filter, List.mem_range]
  refine ⟨hrn, List.all_eq_true.2 fun b hb => ?_⟩
  have := h3 b (List.mem_range.1 hb)
  rw [h1]
  simpa using this
theorem fsts_take (n : Nat) (f : Nat → Nat → Bool) {r j : Nat} (h : r ≤ j) : fsts n f r = (fsts n f j).filter fun a => decide (a < r) := by
  unfold fsts
  rw [List.filter_filter]
  have : List.range r = (List.range j).filter fun a => decide (a < r) := by
    induction j with
    | zero => have : r = 0 := by omega
              subst this; rfl
    | succ j ih =>
      by_cases e : r = j + 1
      · subst e
        rw [List.filter_eq_self.2]
        intro a ha
        simpa using ha
      · rw [List.range_succ, List.filter_append, ← ih (by omega)]
        simp; omega
  rw [this, List.filter_filter]
  exact List.filter_congr fun a _ => Bool.and_comm _ _
theorem sorted_idx : ∀ (l : List Nat), l.Pairwise (· < ·) → ∀ i, (h : i < l.length) → (l.filter fun a => decide (a < l[i])).length = i
  | [], _, i, h => by simp at h
  | x :: t, hp, i, h => by
    rw [List.pairwise_cons] at hp
    cases i with
    | zero =>
      simp only [List.getElem_cons_zero]
      rw [List.filter_cons, if_neg (by simp)]
      rw [List.filter_eq_nil_iff.2]
      · rfl
      · intro a ha
        have := hp.1 a ha
        simp; omega
    | succ i =>
      simp only [List.getElem_cons_succ, List.length_cons] at h ⊢
      have hx := hp.1 (t[i]'(by omega)) (List.getElem_mem _)
      rw [List.filter_cons, if_pos (by simpa using hx), List.length_cons, sorted_idx t hp.2 i (by omega)]
theorem fsts_sorted (n : Nat) (f : Nat → Nat → Bool) (j : Nat) : (fsts n f j).Pairwise (· < ·) := List.Pairwise.sublist List.filter_sublist List.pairwise_lt_range
/-- The number of the set that stands at a place. -/
theorem prts_num_at (_h : Prts n f) {i : Nat} (hi : i < (fsts n f n).length) : num n f (fsts n f n)[i] = i := by
  have hm := List.getElem_mem hi
  generalize hc : (fsts n f n)[i] = c at *
  have hcn : c < n := by unfold fsts at hm; exact List.mem_range.1 (List.mem_filter.1 hm).1
  have hal : (List.range c).all (fun b => decide (bs (f b) n ≠ bs (f c) n)) = true := by unfold fsts at hm; exact (List.mem_filter.1 hm).2
  rw [num_new hcn hal, fsts_take n f (Nat.le_of_lt hcn), ← hc]
  exact sorted_idx _ (fsts_sorted n f n) i hi
theorem prts_num_lt (h : Prts n f) {a : Nat} (ha : a < n) : num n f a < (fsts n f n).length ∧ ∀ hl : num n f a < (fsts n f n).length, f a ((fsts n f n)[num n f a]) = true := by
  obtain ⟨r, hr, hf, hm, hfd, hnum⟩ := prts_rep h ha
  obtain ⟨i, hi, he⟩ := List.mem_iff_getElem.1 hm
  have h1 := prts_num_at h hi
  have h2 : num n f r = num n f a := by
    refine num_same (bs_ext fun x hx => ?_)
    exact (h.same a r ha hr hf x hx).symm
  rw [he, h2] at h1
  refine ⟨by omega, fun hl => ?_⟩
  have : (fsts n f n)[num n f a] = r := by simp only [h1]; exact he
  rw [this]
  exact hf
theorem prts_num_eq (h : Prts n f) {a b : Nat} (ha : a < n) (hb : b < n) : num n f a = num n f b ↔ f a b = true := by
  constructor
  · intro e
    obtain ⟨h1, h2⟩ := prts_num_lt h ha
    obtain ⟨h3, h4⟩ := prts_num_lt h hb
    have h5 := h2 h1
    have h6 := h4 h3
    simp only [← e] at h6
    have hm := List.getElem_mem h1
    generalize (fsts n f n)[num n f a] = c at *
    have hcn : c < n := by unfold fsts at hm; exact List.mem_range.1 (List.mem_filter.1 hm).1
    rw [h.same a c ha hcn h5 b hb, ← h.same b c hb hcn h6 b hb]
    exact h.refl b hb
  · intro e
    exact num_same (bs_ext fun x hx => h.same a b ha hb e x hx)
/-- The document's number of a thing's set. -/
theorem prts_which (h : Prts n f) {a : Nat} (ha : a < n) : whichI (csl n f n) a = (num n f a : Int) := by
  obtain ⟨h1, h2⟩ := prts_num_lt h ha
  have hget : ∀ t, t < (fsts n f n).length → ∀ hl : t < (fsts n f n).length, (csl n f n)[t]?.getD [] = li (lst n (f (fsts n f n)[t])) := fun t _ hl => by unfold csl; simp [hl]
  have hmem : ∀ t (hl : t < (fsts n f n).length), (a : Int) ∈ (csl n f n)[t]?.getD [] ↔ num n f a = t := fun t hl => by
    rw [hget t hl hl, mem_li, mem_lst]
    have hm := List.getElem_mem hl
    have hcn : (fsts n f n)[t] < n := by unfold fsts at hm; exact List.mem_range.1 (List.mem_filter.1 hm).1
    have h3 := prts_num_at h hl
    rw [← prts_num_eq h hcn ha, h3]
    exact ⟨fun h4 => h4.2.symm, fun h4 => ⟨ha, h4.symm⟩⟩
  refine whichI_at (by rw [csl_len]; exact h1) ((hmem _ h1).2 rfl) fun t ht => ?_
  rw [hmem t (by omega)]
  omega
end
section
variable {n e : Nat} {zs : List Int} {q : Nat → Bool}
theorem fst_lt {f : Nat → Nat → Bool} {i : Nat} (hi : i < (fsts n f n).length) : (fsts n f n)[i] < n := by
  have hm := List.getElem_mem hi
  unfold fsts at hm ⊢
  exact List.mem_range.1 (List.mem_filter.1 hm).1
/-- A right coset, moved. -/
theorem rgt_mul (g : IsGrp n zs e) {a b c : Nat} (ha : a < n) (hb : b < n) (hc : c < n) : rgtq n zs (lst n q) (tm n zs a c) (tm n zs b c) = rgtq n zs (lst n q) a b := by
  obtain ⟨c1, c2, _, _⟩ := iv_spec g hc
  obtain ⟨a1, _, _, _⟩ := iv_spec g ha
  rw [rgt_iff g (tm_lt g.tab ha hc) (tm_lt g.tab hb hc), rgt_iff g ha hb]
  have : tm n zs (tm n zs b c) (iv n zs e (tm n zs a c)) = tm n zs b (iv n zs e a) := by
    have h1 : iv n zs e (tm n zs a c) = tm n zs (iv n zs e c) (iv n zs e a) := by
      refine (iv_only g (tm_lt g.tab ha hc) (tm_lt g.tab c1 a1) ?_).symm
      obtain ⟨_, a2, _, _⟩ := iv_spec g ha
      rw [g.ass a c _ ha hc (tm_lt g.tab c1 a1), ← g.ass c _ _ hc c1 a1, c2, g.left _ a1, a2]
    rw [h1, g.ass b c _ hb hc (tm_lt g.tab c1 a1), ← g.ass c _ _ hc c1 a1, c2, g.left _ a1]
  rw [this]
theorem csl_get {f : Nat → Nat → Bool} {t : Nat} (ht : t < (fsts n f n).length) : (csl n f n)[t]?.getD [] = li (lst n (f (fsts n f n)[t])) := by unfold csl; simp [ht]
/-- What stands in the lists. -/
theorem csl_at {f : Nat → Nat → Bool} (h : Prts n f) (t : Nat) (x : Int) : x ∈ (csl n f n)[t]?.getD [] ↔ ∃ a : Nat, a < n ∧ x = (a : Int) ∧ num n f a = t := by
  by_cases ht : t < (fsts n f n).length
  · rw [csl_get ht]
    have hcn := fst_lt ht
    constructor
    · intro hx
      unfold li at hx
      obtain ⟨a, ha, rfl⟩ := List.mem_map.1 hx
      obtain ⟨h1, h2⟩ := mem_lst.1 ha
      refine ⟨a, h1, rfl, ?_⟩
      rw [← (prts_num_eq h hcn h1).2 h2, prts_num_at h ht]
    · rintro ⟨a, ha, rfl, hnum⟩
      rw [mem_li, mem_lst]
      refine ⟨ha, (prts_num_eq h hcn ha).1 ?_⟩
      rw [prts_num_at h ht, hnum]
  · rw [List.getElem?_eq_none (by rw [csl_len]; omega)]
    constructor
    · intro hx; simp at hx
    · rintro ⟨a, ha, _, hnum⟩
      have := (prts_num_lt h ha).1
      omega
theorem csl_head {f : Nat → Nat → Bool} (h : Prts n f) {t : Nat} (ht : t < (fsts n f n).length) : ∃ s, (csl n f n)[t]?.getD [] = (((fsts n f n)[t]?.getD 0 : Nat) : Int) :: s := by
  rw [csl_get ht, List.getElem?_eq_getElem ht, Option.getD_some]
  have hm := List.getElem_mem ht
  generalize (fsts n f n)[t] = c at *
  rw [h.fsts, List.mem_filter, decide_eq_true_eq] at hm
  obtain ⟨_, hm⟩ := hm
  cases hl : lst n (f c) with
  | nil => rw [hl] at hm; simp at hm
  | cons z s => rw [hl] at hm; simp at hm; subst hm; exact ⟨li s, rfl⟩
theorem csl_len_le {f : Nat → Nat → Bool} (t : Nat) : ((csl n f n)[t]?.getD []).length ≤ n := by
  by_cases ht : t < (fsts n f n).length
  · rw [csl_get ht, li_len]
    unfold lst
    exact Nat.le_trans (List.length_filter_le _ _) (by simp)
  · rw [List.getElem?_eq_none (by rw [csl_len]; omega)]
    simp
/-- Of each thing the number of its set. -/
def ontoL (n : Nat) (f : Nat → Nat → Bool) : List Int := (List.range n).map fun a => (num n f a : Int)
theorem ontoL_len (n : Nat) (f : Nat → Nat → Bool) : (ontoL n f).length = n := by simp [ontoL]
theorem ontoL_get {f : Nat → Nat → Bool} {a : Nat} (ha : a < n) : (ontoL n f)[a]?.getD 0 = (num n f a : Int) := by simp [ontoL, ha]
/-- The first numbers, and noughts. -/
def ontoU (n : Nat) (f : Nat → Nat → Bool) (k : Nat) : List Int := (List.range n).map fun a => if a < k then (num n f a : Int) else 0
theorem ontoU_len (n : Nat) (f : Nat → Nat → Bool) (k : Nat) : (ontoU n f k).length = n := by simp [ontoU]
theorem ontoU_zero (n : Nat) (f : Nat → Nat → Bool) : ontoU n f 0 = List.replicate n 0 := by
  unfold ontoU
  apply List.ext_getElem <;> simp
theorem ontoU_all (n : Nat) (f : Nat → Nat → Bool) : ontoU n f n = ontoL n f := by
  unfold ontoU ontoL
  exact List.map_congr_left fun a ha => if_pos (List.mem_range.1 ha)
theorem ontoU_set {f : Nat → Nat → Bool} {k : Nat} : ontoU n f (k + 1) = (ontoU n f k).set k (num n f k : Int) := by
  apply List.ext_getElem
  · simp [ontoU]
  · intro i h1 h2
    rw [List.getElem_set]
    simp only [ontoU, List.getElem_map, List.getElem_range]
    by_cases e : k = i
    · subst e
      rw [if_pos (by omega), if_pos rfl]
    · rw [if_neg e]
      by_cases h3 : i < k
      · rw [if_pos (by omega), if_pos h3]
      · rw [if_neg (by omega), if_neg h3]
/-- Products of numbers. -/
def quoF (n : Nat) (zs : List Int) (f : Nat → Nat → Bool) (i j : Nat) : Nat := num n f (tm n zs ((fsts n f n)[i]?.getD 0) ((fsts n f n)[j]?.getD 0))
theorem rgt_both (g : IsGrp n zs e) (hs : subT n zs e q = true) (hN : nrmq n zs e q = true) {a b c d : Nat} (ha : a < n) (hb : b < n) (hc : c < n) (hd : d < n)
    (h1 : rgtq n zs (lst n q) a c = true) (h2 : rgtq n zs (lst n q) b d = true) : rgtq n zs (lst n q) (tm n zs a b) (tm n zs c d) = true := by
  obtain ⟨x, hx, rfl⟩ := mem_rgt.1 h1
  obtain ⟨y, hy, rfl⟩ := mem_rgt.1 h2
  obtain ⟨hxn, hqx⟩ := mem_lst.1 hx
  obtain ⟨hyn, hqy⟩ := mem_lst.1 hy
  obtain ⟨a1, a2, a3, _⟩ := iv_spec g ha
  have hcj := (nrm_iff g).1 hN y (iv n zs e a) (List.mem_range.2 hyn) (List.mem_range.2 a1) hqy
  unfold Fin.cj at hcj
  rw [show iv n zs e (iv n zs e a) = a from (iv_only g a1 ha a3).symm] at hcj
  have hz := tm_lt g.tab a1 hyn
  refine mem_rgt.2 ⟨tm n zs x (tm n zs (tm n zs a y) (iv n zs e a)), mem_lst.2 ⟨?_, ?_⟩, ?_⟩
  · exact tm_lt g.tab hxn (tm_lt g.tab (tm_lt g.tab ha hyn) a1)
  · refine sub_mul hs hxn (tm_lt g.tab (tm_lt g.tab ha hyn) a1) hqx ?_
    first
      | exact hcj
      | (rw [g.ass a y _ ha hyn a1]; exact hcj)
  · have hay := tm_lt g.tab ha hyn
    have hab := tm_lt g.tab ha hb
    rw [g.ass x _ _ hxn (tm_lt g.tab hay a1) hab, g.ass (tm n zs a y) _ _ hay a1 hab, ← g.ass _ a b a1 ha hb, a3, g.left b hb, g.ass a y b ha hyn hb, g.ass x a _ hxn ha (tm_lt g.tab hyn hb)]
theorem quo_hom (g : IsGrp n zs e) (hs : subT n zs e q = true) (hN : nrmq n zs e q = true) {a b : Nat} (ha : a < n) (hb : b < n) :
    quoF n zs (rgtq n zs (lst n q)) (num n (rgtq n zs (lst n q)) a) (num n (rgtq n zs (lst n q)) b) = num n (rgtq n zs (lst n q)) (tm n zs a b) := by
  have P := rgt_parts g hs
  obtain ⟨a1, a2⟩ := prts_num_lt P ha
  obtain ⟨b1, b2⟩ := prts_num_lt P hb
  have a3 := a2 a1
  have b3 := b2 b1
  have ha9 := fst_lt a1
  have hb9 := fst_lt b1
  unfold quoF
  rw [List.getElem?_eq_getElem a1, List.getElem?_eq_getElem b1, Option.getD_some, Option.getD_some]
  exact ((prts_num_eq P (tm_lt g.tab ha hb) (tm_lt g.tab ha9 hb9)).2 (rgt_both g hs hN ha hb ha9 hb9 a3 b3)).symm
theorem quo_grp (g : IsGrp n zs e) (hs : subT n zs e q = true) (hN : nrmq n zs e q = true) :
    IsGrp (fsts n (rgtq n zs (lst n q)) n).length (mkT (fsts n (rgtq n zs (lst n q)) n).length (quoF n zs (rgtq n zs (lst n q)))) (num n (rgtq n zs (lst n q)) e) := by
  have P := rgt_parts g hs
  refine grp_image g (Nat.le_trans (fsts_len _ _ _) g.tab.le) (fun a ha => (prts_num_lt P ha).1) (fun i hi => ⟨_, fst_lt hi, prts_num_at P hi⟩) (fun a b ha hb => quo_hom g hs hN ha hb)
end
end Go.Proofs.YtgdpgbldjpeopaaGreatDoor

namespace Go.Proofs.YtgdpgbldjpeopaaGreatDoor
open Go Go.RowKit Go.Maps

theorem law3 : Keyed Tryz.prog 3 := int_keyed und3'
/-- What the map has of the first i lists, and of the first k numbers of the next. -/
structure MLs (ls : List (List Int)) (i k : Nat) (D : DataW Unit) : Prop where
  old : ∀ t, t < i → ∀ a, a ∈ ls[t]?.getD [] → D.atKey (.int .i64 a) (.lit (.int .i64 0)) = .lit (.int .i64 (t : Nat))
  new : ∀ a, a ∈ (ls[i]?.getD []).take k → D.atKey (.int .i64 a) (.lit (.int .i64 0)) = .lit (.int .i64 (i : Nat))
theorem MLs.step {ls : List (List Int)} {i k : Nat} {D : DataW Unit} (h : MLs ls i k D) (hD : IsMap D) (hd : ∀ (s t : Nat) (a : Int), a ∈ ls[s]?.getD [] → a ∈ ls[t]?.getD [] → s = t) (hk : k < (ls[i]?.getD []).length) :
    MLs ls i (k + 1) (D.put (.int .i64 ((ls[i]?.getD [])[k]?.getD 0)) (.lit (.int .i64 (i : Nat)))) := by
  have hx : (ls[i]?.getD [])[k]?.getD 0 ∈ ls[i]?.getD [] := by simp [hk]
  generalize hxe : (ls[i]?.getD [])[k]?.getD 0 = x at *
  constructor
  · intro t ht a ha
    have hne : a ≠ x := fun e => by
      subst e
      have := hd t i a ha hx
      omega
    rw [atKey_put_other (fun h9 => hne (by injection h9))]
    exact h.old t ht a ha
  · intro a ha
    by_cases e : a = x
    · subst e
      rw [atKey_put_same hD (by trivial)]
    · rw [atKey_put_other (fun h9 => e (by injection h9))]
      refine h.new a ?_
      rw [List.take_add_one, List.mem_append] at ha
      rcases ha with ha | ha
      · exact ha
      · rw [List.getElem?_eq_getElem hk] at ha hxe
        simp at ha hxe
        exact absurd (ha.trans hxe) e
theorem MLs.done {ls : List (List Int)} {i : Nat} {D : DataW Unit} (h : MLs ls i (ls[i]?.getD []).length D) : MLs ls (i + 1) 0 D := by
  constructor
  · intro t ht a ha
    by_cases e : t = i
    · subst e
      exact h.new a (by rw [List.take_length]; exact ha)
    · exact h.old t (by omega) a ha
  · intro a ha
    simp at ha
theorem map_le {P : Program} {k : TypeId} {R : Value → Option (DataW Unit × List MemPlace)} {w : World} {b n m : Nat} {D : DataW Unit} (h : w.ownsMap P k R b n D) (hm : n ≤ m) : w.ownsMap P k R b m D := by
  obtain ⟨d, rfl⟩ := Nat.exists_eq_add_of_le hm
  clear hm
  induction d with
  | zero => exact h
  | succ d ih => exact map_more ih
end Go.Proofs.YtgdpgbldjpeopaaGreatDoor

namespace Go.Proofs.YtgdpgbldjpeopaaGreatDoor
open Go Go.RowKit Go.Maps

end Go.Proofs.YtgdpgbldjpeopaaGreatDoor

namespace Go.Proofs.YtgdpgbldjpeopaaGreatDoor
open Go Go.RowKit Go.Maps

/-- What a function that answers a group and a fault begins with. -/
structure BegQ (w w0 : World) (N : Int) (v : Value) : Prop where
  eq : w0 = ((w.alloc (.cells #[.int .i64 N, v] 24)).alloc (.cells #[.int .i64 0, .slice none 0 0] 24)).alloc (.cells #[.int .i64 0, .int .i64 0] 28)
  bel : Below w.heap.size w w0
  box : BoxG w0 w.heap.size N v
  grp : Blk w0 (w.heap.size + 1) 24 [.int .i64 0, .slice none 0 0]
  res : Blk w0 (w.heap.size + 1 + 1) 28 [.int .i64 0, .int .i64 0]
  siz : w0.heap.size = w.heap.size + 1 + 1 + 1
theorem BegQ.new (w : World) (N : Int) (v : Value) : ∃ w0, BegQ w w0 N v := by
  refine ⟨_, rfl, ((balloc w _).alloc (by simp) _).alloc (by simp; omega) _, ((blk0 (w := w) (T := 24) _ _).alloc _).alloc _, ?_, ?_, by simp⟩
  · have h := (blk0 (w := w.alloc (.cells #[.int .i64 N, v] 24)) (T := 24) (.int .i64 0) (.slice none 0 0)).alloc (.cells #[.int .i64 0, .int .i64 0] 28)
    rw [World.size_alloc] at h
    exact h
  · have h := blk0 (w := (w.alloc (.cells #[.int .i64 N, v] 24)).alloc (.cells #[.int .i64 0, .slice none 0 0] 24)) (T := 28) (.int .i64 0) (.int .i64 0)
    rw [World.size_alloc, World.size_alloc] at h
    exact h
end Go.Proofs.YtgdpgbldjpeopaaGreatDoor

namespace Go.Proofs.YtgdpgbldjpeopaaGreatDoor
open Go Go.RowKit

theorem sq_l : lfault 8 [0, 2] = (0, 0) := by decide +kernel
theorem sq_s : subT 8 sqT 0 (pset [0, 2]) = true := by decide +kernel
theorem sq_n : nrmq 8 sqT 0 (pset [0, 2]) = true := by decide +kernel
theorem sq_k : (fsts 8 (rgtq 8 sqT (lst 8 (pset [0, 2]))) 8).length = 4 := by decide +kernel
theorem sq_o : ontoL 8 (rgtq 8 sqT (lst 8 (pset [0, 2]))) = [0, 1, 0, 1, 2, 3, 2, 3] := by decide +kernel
theorem sq_e : num 8 (rgtq 8 sqT (lst 8 (pset [0, 2]))) 0 = 0 := by decide +kernel
def sqQ : List Int := mkT 4 (quoF 8 sqT (rgtq 8 sqT (lst 8 (pset [0, 2]))))
theorem sq_g : IsGrp 4 sqQ 0 := by
  have h := quo_grp (q := pset [0, 2]) sqT_grp sq_s sq_n
  rw [sq_k, sq_e] at h
  exact h
theorem sq_p : pz 4 sqQ 0 1 2 = 0 := by decide +kernel
end Go.Proofs.YtgdpgbldjpeopaaGreatDoor

namespace Go.Proofs.YtgdpgbldjpeopaaGreatDoor
open Go Go.RowKit

end Go.Proofs.YtgdpgbldjpeopaaGreatDoor

namespace Go.Proofs.YtgdpgbldjpeopaaGreatDoor
open Go Go.RowKit

theorem one_lsx : ∀ (n a : Nat), a < n → lst n (fun y => decide (y = a)) = [a]
  | 0, a, h => by omega
  | n + 1, a, h => by
    unfold lst
    rw [List.range_succ, List.filter_append]
    by_cases e : a = n
    · subst e
      have : (List.range a).filter (fun y => decide (y = a)) = [] := List.filter_eq_nil_iff.2 fun y hy => by
        have := List.mem_range.1 hy
        simp; omega
      rw [this]
      simp
    · have h9 := one_lsx n a (by omega)
      unfold lst at h9
      rw [h9]
      have : ¬ n = a := fun e9 => e e9.symm
      simp [this]
theorem one_fault {n a : Nat} (h : a < n) : lfault n [(a : Int)] = (0, 0) := by
  have := lst_fault n (fun y => decide (y = a))
  rw [one_lsx n a h] at this
  exact this
theorem lst_le (n : Nat) (p : Nat → Bool) : (lst n p).length ≤ n := by unfold lst; exact Nat.le_trans (List.length_filter_le _ _) (by simp)
/-- Has each thing but the one all, by a number? -/
def smq (n e : Nat) (L : Nat → Nat) : Bool := decide (1 < n) && (List.range n).all fun a => decide (a = e) || !decide (L a < n)
end Go.Proofs.YtgdpgbldjpeopaaGreatDoor

namespace Go.Proofs.YtgdpgbldjpeopaaGreatDoor
open Go Go.RowKit Go.Maps

theorem slF_blk {w : World} {g n B : Nat} {zs : List Int} (h : Blk w g 3 (zs.map (Value.int .i64))) (hn : n = zs.length) (hl : zs.length ≤ 1000000) (hB : B ≤ g) : SlF B w (.slice (some ⟨g, 0, none⟩) n n) zs := by
  subst hn
  exact ⟨some ⟨g, 0, none⟩, zs.length, g, 0, rfl, ⟨fun _ => rfl, fun j hj => by rw [Nat.zero_add]; exact h.int hj⟩, h.lt, Nat.le_refl _, by unfold maxLen; omega, hB⟩
theorem slF_row {w : World} {base B : Nat} {v : Value} {zs : List Int} (h : Row w base v zs) (hB : B ≤ base) (h0 : 0 < zs.length) : SlF B w v zs := by
  rcases h.2 with ⟨_, hz⟩ | ⟨g, cap, cur, rfl, hgb, hh, h1, h2, _⟩
  · omega
  · refine ⟨some ⟨g, 0, none⟩, cap, g, 0, rfl, ⟨fun _ => rfl, fun j hj => ?_⟩, (Array.getElem?_eq_some_iff.1 hh).1, h1, h2, by omega⟩
    have h3 := h.cells (g := g) rfl j (.int .i64 (zs[j]?.getD 0)) (by simp [hj])
    rw [show (⟨g, 0, none⟩ : Addr).add j = ⟨g, j, none⟩ by unfold Addr.add; split <;> simp_all] at h3
    rw [Nat.zero_add]; exact h3
theorem slF_keep {B : Nat} {w w' : World} {v : Value} {zs : List Int} (h : SlF B w v zs) (hs : w.heap.size ≤ w'.heap.size) (hk : ∀ g, B ≤ g → g < w.heap.size → w'.heap[g]? = w.heap[g]?) : Sl w' v zs := by
  obtain ⟨a, cap, pb, po, rfl, h1, h2, h3, h4, h5⟩ := h
  exact ⟨a, cap, pb, po, rfl, h1.of_eq (hk pb h5 h2), Nat.lt_of_lt_of_le h2 hs, h3, h4⟩
end Go.Proofs.YtgdpgbldjpeopaaGreatDoor

namespace Go.Proofs.YtgdpgbldjpeopaaGreatDoor
open Go Go.RowKit

theorem all_lst (n : Nat) : lst n (fun _ => true) = List.range n := by unfold lst; simp
theorem all_pset (n : Nat) : lst n (pset (li (List.range n))) = List.range n := by
  have := lst_pset n (fun _ => true)
  rwa [all_lst] at this
section
variable {n e : Nat} {zs : List Int} {p : Nat → Bool}
theorem der_sub (g : IsGrp n zs e) (hp : ∀ a, a < n → (p a = true ↔ Mkd n zs e (cmq n zs e (List.range n) (List.range n)) a)) : subT n zs e (pset (li (lst n p))) = true :=
  sg_test g (Fin.Gen.sg _) hp
theorem der_nrm (g : IsGrp n zs e) (hp : ∀ a, a < n → (p a = true ↔ Mkd n zs e (cmq n zs e (List.range n) (List.range n)) a)) : nrmq n zs e (pset (li (lst n p))) = true :=
  nm_test g (Fin.der_nm (grp_fg g) (grp_iv g)) (fun a ha => (hp a ha).trans (cms_iff a))
/-- The quotient by the commutators commutes. -/
theorem der_com (g : IsGrp n zs e) (hp : ∀ a, a < n → (p a = true ↔ Mkd n zs e (cmq n zs e (List.range n) (List.range n)) a)) :
    comB (fsts n (rgtq n zs (lst n (pset (li (lst n p))))) n).length (mkT (fsts n (rgtq n zs (lst n (pset (li (lst n p))))) n).length (quoF n zs (rgtq n zs (lst n (pset (li (lst n p))))))) = true := by
  have hs := der_sub g hp
  have hN := der_nrm g hp
  have PP := rgt_parts g hs
  rw [comB_iff]
  intro i j hi hj
  rw [tm_mk hi hj, tm_mk hj hi]
  have ha := fst_lt hi
  have hb := fst_lt hj
  have ea := prts_num_at PP hi
  have eb := prts_num_at PP hj
  generalize (fsts n (rgtq n zs (lst n (pset (li (lst n p))))) n)[i] = a at *
  generalize (fsts n (rgtq n zs (lst n (pset (li (lst n p))))) n)[j] = b at *
  rw [← ea, ← eb, quo_hom g hs hN ha hb, quo_hom g hs hN hb ha]
  have hab := tm_lt g.tab ha hb
  have hba := tm_lt g.tab hb ha
  have hc := List.mem_range.1 (Fin.cm_mem (grp_fg g) (grp_iv g) (List.mem_range.2 ha) (List.mem_range.2 hb))
  have hce := Fin.cm_eq (grp_fg g) (grp_iv g) (List.mem_range.2 ha) (List.mem_range.2 hb)
  have hcp : Fin.cm (tm n zs) (iv n zs e) a b ∈ lst n (pset (li (lst n p))) := by
    rw [lst_pset, mem_lst]
    refine ⟨hc, (hp _ hc).2 ((cms_iff _).2 (Fin.Gen.base (List.mem_range.2 hc) ⟨a, b, List.mem_range.2 ha, List.mem_range.2 hb, rfl⟩))⟩
  generalize Fin.cm (tm n zs) (iv n zs e) a b = c at *
  have h1 : rgtq n zs (lst n (pset (li (lst n p)))) e c = true := mem_rgt.2 ⟨c, hcp, g.right c hc⟩
  have h2 := rgt_both g hs hN hba g.elt hba hc (PP.refl _ hba) h1
  rw [g.right _ hba, hce] at h2
  exact ((prts_num_eq PP hba hab).2 h2).symm
end
end Go.Proofs.YtgdpgbldjpeopaaGreatDoor

namespace Go.Proofs.YtgdpgbldjpeopaaGreatDoor
open Go Go.RowKit

/-- A block of eight cells, with all that a walk asks of it. -/
structure Eight (W : World) (b : Nat) (x0 x1 x2 x3 x4 x5 x6 x7 : Value) : Prop where
  blk : Blk W b 72 [x0, x1, x2, x3, x4, x5, x6, x7]
  c0 : W.cell? ⟨b, 0, none⟩ = some x0
  c1 : W.cell? ⟨b, 1, none⟩ = some x1
  c2 : W.cell? ⟨b, 2, none⟩ = some x2
  c3 : W.cell? ⟨b, 3, none⟩ = some x3
  c4 : W.cell? ⟨b, 4, none⟩ = some x4
  c5 : W.cell? ⟨b, 5, none⟩ = some x5
  c6 : W.cell? ⟨b, 6, none⟩ = some x6
  c7 : W.cell? ⟨b, 7, none⟩ = some x7
structure EightF (W : World) (b : Nat) : Prop where
  f0 : W.frozen? ⟨b, 0, none⟩ = false
  f1 : W.frozen? ⟨b, 1, none⟩ = false
  f2 : W.frozen? ⟨b, 2, none⟩ = false
  f3 : W.frozen? ⟨b, 3, none⟩ = false
  f4 : W.frozen? ⟨b, 4, none⟩ = false
  f5 : W.frozen? ⟨b, 5, none⟩ = false
  f6 : W.frozen? ⟨b, 6, none⟩ = false
  f7 : W.frozen? ⟨b, 7, none⟩ = false
structure EightS (W : World) (b : Nat) (x0 x1 x2 x3 x4 x5 x6 x7 : Value) : Prop where
  s0 : W.setCell ⟨b, 0, none⟩ x0 = W
  s1 : W.setCell ⟨b, 1, none⟩ x1 = W
  s2 : W.setCell ⟨b, 2, none⟩ x2 = W
  s3 : W.setCell ⟨b, 3, none⟩ x3 = W
  s4 : W.setCell ⟨b, 4, none⟩ x4 = W
  s5 : W.setCell ⟨b, 5, none⟩ x5 = W
  s6 : W.setCell ⟨b, 6, none⟩ x6 = W
  s7 : W.setCell ⟨b, 7, none⟩ x7 = W
section
variable {W : World} {b : Nat} {x0 x1 x2 x3 x4 x5 x6 x7 : Value}
theorem Eight.mk' (h : Blk W b 72 [x0, x1, x2, x3, x4, x5, x6, x7]) : Eight W b x0 x1 x2 x3 x4 x5 x6 x7 := ⟨h, h.cell 0, h.cell 1, h.cell 2, h.cell 3, h.cell 4, h.cell 5, h.cell 6, h.cell 7⟩
theorem Eight.fr (h : Blk W b 72 [x0, x1, x2, x3, x4, x5, x6, x7]) : EightF W b := ⟨h.frozen 0, h.frozen 1, h.frozen 2, h.frozen 3, h.frozen 4, h.frozen 5, h.frozen 6, h.frozen 7⟩
theorem Eight.se (h : Blk W b 72 [x0, x1, x2, x3, x4, x5, x6, x7]) : EightS W b x0 x1 x2 x3 x4 x5 x6 x7 := ⟨set_same _ _ _ _ (h.cell 0), set_same _ _ _ _ (h.cell 1), set_same _ _ _ _ (h.cell 2), set_same _ _ _ _ (h.cell 3), set_same _ _ _ _ (h.cell 4), set_same _ _ _ _ (h.cell 5), set_same _ _ _ _ (h.cell 6), set_same _ _ _ _ (h.cell 7)⟩
end
/-- What lies where a function begins that takes two tables and answers a pair and a fault. -/
structure BegP (w w0 : World) (N M : Int) (v y : Value) : Prop where
  eq : w0 = (((w.alloc (.cells #[.int .i64 N, v] 24)).alloc (.cells #[.int .i64 M, y] 24)).alloc (.cells #[.int .i64 0, .slice none 0 0, .int .i64 0, .slice none 0 0, .int .i64 0, .slice none 0 0, .int .i64 0, .slice none 0 0] 72)).alloc (.cells #[.int .i64 0, .int .i64 0] 28)
  bel : Below w.heap.size w w0
  box : BoxG w0 w.heap.size N v
  boy : BoxG w0 (w.heap.size + 1) M y
  par : Blk w0 (w.heap.size + 1 + 1) 72 [.int .i64 0, .slice none 0 0, .int .i64 0, .slice none 0 0, .int .i64 0, .slice none 0 0, .int .i64 0, .slice none 0 0]
  res : Blk w0 (w.heap.size + 1 + 1 + 1) 28 [.int .i64 0, .int .i64 0]
  siz : w0.heap.size = w.heap.size + 1 + 1 + 1 + 1
theorem BegP.new (w : World) (N M : Int) (v y : Value) : ∃ w0, BegP w w0 N M v y := by
  refine ⟨_, rfl, (((balloc w _).alloc (by simp) _).alloc (by simp; omega) _).alloc (by simp; omega) _, (((blk0 (w := w) (T := 24) _ _).alloc _).alloc _).alloc _, ?_, ?_, ?_, by simp⟩
  · have h := ((blk0 (w := w.alloc (.cells #[.int .i64 N, v] 24)) (T := 24) (.int .i64 M) y).alloc (.cells #[.int .i64 0, .slice none 0 0, .int .i64 0, .slice none 0 0, .int .i64 0, .slice none 0 0, .int .i64 0, .slice none 0 0] 72)).alloc (.cells #[.int .i64 0, .int .i64 0] 28)
    rw [World.size_alloc] at h
    exact h
  · have h : Blk (((w.alloc (.cells #[.int .i64 N, v] 24)).alloc (.cells #[.int .i64 M, y] 24)).alloc (.cells #[.int .i64 0, .slice none 0 0, .int .i64 0, .slice none 0 0, .int .i64 0, .slice none 0 0, .int .i64 0, .slice none 0 0] 72)) ((w.alloc (.cells #[.int .i64 N, v] 24)).alloc (.cells #[.int .i64 M, y] 24)).heap.size 72 [.int .i64 0, .slice none 0 0, .int .i64 0, .slice none 0 0, .int .i64 0, .slice none 0 0, .int .i64 0, .slice none 0 0] := World.alloc_heap_new _ _
    have h := h.alloc (.cells #[.int .i64 0, .int .i64 0] 28)
    rw [World.size_alloc, World.size_alloc] at h
    exact h
  · have h := blk0 (w := ((w.alloc (.cells #[.int .i64 N, v] 24)).alloc (.cells #[.int .i64 M, y] 24)).alloc (.cells #[.int .i64 0, .slice none 0 0, .int .i64 0, .slice none 0 0, .int .i64 0, .slice none 0 0, .int .i64 0, .slice none 0 0] 72)) (T := 28) (.int .i64 0) (.int .i64 0)
    rw [World.size_alloc, World.size_alloc, World.size_alloc] at h
    exact h
set_option maxRecDepth 100000 in
set_option maxHeartbeats 8000000 in
theorem pair_bad1 (N M : Int) (v y : Value) (zs : List Int) (w : World) (hv : Sl w v zs) (hc : (gfault N zs).1 ≠ 0) :
    Calls Tryz.prog 37 #[.agg #[.int .i64 N, v], .agg #[.int .i64 M, y]] w fun x w' => x = .returned (.tuple #[.agg #[.int .i64 0, .slice none 0 0, .int .i64 0, .slice none 0 0, .int .i64 0, .slice none 0 0, .int .i64 0, .slice none 0 0], .agg #[.int .i64 (gfault N zs).1, .int .i64 (gfault N zs).2]]) ∧ Below w.heap.size w w' := by
  obtain ⟨w0, BG⟩ := BegP.new w N M v y
  have HCK := hide (opened_bad N v zs w0 (hv.below BG.bel) hc)
  obtain ⟨c0, c1, _, _⟩ := BG.box.two
  obtain ⟨c, i, hci⟩ : ∃ c i, gfault N zs = (c, i) := ⟨_, _, rfl⟩
  rw [hci] at HCK hc ⊢
  simp only at HCK hc ⊢
  clear hci
  have hcb : (c != 0) = true := by simpa using hc
  rw [BG.eq] at c0 c1
  go_enter Tryz.func37, Tryz.ntmps37
  go_wp2_with fail
  rw [← BG.eq]
  clear c0 c1
  refine HCK.out.mono ?_
  rintro x w1 ⟨rfl, hb1⟩
  obtain ⟨w2, hw2⟩ : ∃ w2, w2 = (w1.alloc (.cells #[.int .i64 0, .slice none 0 0, .int .i64 0, .slice none 0 0] 54)).alloc (.cells #[.int .i64 c, .int .i64 i] 28) := ⟨_, rfl⟩
  have hB1 : Below w0.heap.size w0 w2 := by rw [hw2]; exact bcat2 hb1 ((balloc w1 _).alloc (by simp) _)
  have hF1 : Blk w2 (w1.heap.size + 1) 28 [.int .i64 c, .int .i64 i] := by
    rw [hw2]
    have := blk0 (w := w1.alloc (.cells #[.int .i64 0, .slice none 0 0, .int .i64 0, .slice none 0 0] 54)) (T := 28) (.int .i64 c) (.int .i64 i)
    rwa [World.size_alloc] at this
  have hR1 := blk_below BG.res hB1
  have hP1 := blk_below BG.par hB1
  have hBw := bcat BG.bel hB1 BG.bel.size
  obtain ⟨y0, y1, fy0, fy1⟩ := hR1.two
  obtain ⟨t0, t1, _, _⟩ := hF1.two
  obtain ⟨hR6, hB6⟩ := put2 hR1 hBw (by omega) c i
  have hP6 := (hP1.other (p := ⟨w.heap.size + 1 + 1 + 1, 0, none⟩) (by simp) (.int .i64 c)).other (p := ⟨w.heap.size + 1 + 1 + 1, 1, none⟩) (by simp) (.int .i64 i)
  have hB7 := bdrew hB6
  rw [hw2] at t0 t1
  go_wp2_with fail
  rw [← hw2] at t0 t1 ⊢
  clear hw2
  obtain ⟨_, p0, p1, p2, p3, p4, p5, p6, p7⟩ := Eight.mk' hP1
  obtain ⟨q0, q1, q2, q3, q4, q5, q6, q7⟩ := Eight.fr hP1
  obtain ⟨s0, s1, s2, s3, s4, s5, s6, s7⟩ := Eight.se hP1
  obtain ⟨u0, u1, u2, u3, u4, u5, u6, u7⟩ := Eight.se hP6
  obtain ⟨_, m0, m1, m2, m3, m4, m5, m6, m7⟩ := Eight.mk' hP6
  go_region
  all_goals (
    go_wp2
    obtain ⟨z0, z1, _, _⟩ := hR6.two
    exact bodyPost_ret (v := .tuple #[.agg #[.int .i64 0, .slice none 0 0, .int .i64 0, .slice none 0 0, .int .i64 0, .slice none 0 0, .int .i64 0, .slice none 0 0], .agg #[.int .i64 c, .int .i64 i]]) (by simp [results, Tryz.results37, go_sem, z0, z1, m0, m1, m2, m3, m4, m5, m6, m7]) rfl ⟨rfl, hB7⟩)
end Go.Proofs.YtgdpgbldjpeopaaGreatDoor

namespace Go.Proofs.YtgdpgbldjpeopaaGreatDoor
open Go Go.RowKit

set_option maxRecDepth 100000 in
set_option maxHeartbeats 8000000 in
theorem pair_bad2 (n e : Nat) (M : Int) (v y : Value) (zs ys : List Int) (w : World) (hv : Sl w v zs) (hg : IsGrp n zs e) (hy : Sl w y ys) (hc : (gfault M ys).1 ≠ 0) :
    Calls Tryz.prog 37 #[.agg #[.int .i64 n, v], .agg #[.int .i64 M, y]] w fun x w' => x = .returned (.tuple #[.agg #[.int .i64 0, .slice none 0 0, .int .i64 0, .slice none 0 0, .int .i64 0, .slice none 0 0, .int .i64 0, .slice none 0 0], .agg #[.int .i64 (gfault M ys).1, .int .i64 (gfault M ys).2]]) ∧ Below w.heap.size w w' := by
  obtain ⟨va, vl, vc, rfl⟩ := hv.isSlice
  obtain ⟨w0, BG⟩ := BegP.new w n M (.slice va vl vc) y
  have HCK := hide (opened_good n e (.slice va vl vc) zs w0 (hv.below BG.bel) hg)
  have HCL := hide (fun W (h : Below w.heap.size w W) => opened_bad M y ys W (hy.below h) hc)
  obtain ⟨c0, c1, _, _⟩ := BG.box.two
  obtain ⟨c, i, hci⟩ : ∃ c i, gfault M ys = (c, i) := ⟨_, _, rfl⟩
  rw [hci] at HCL hc ⊢
  simp only at HCL hc ⊢
  clear hci
  have hcb : (c != 0) = true := by simpa using hc
  rw [BG.eq] at c0 c1
  go_enter Tryz.func37, Tryz.ntmps37
  go_wp2_with fail
  rw [← BG.eq]
  clear c0 c1
  refine HCK.out.mono ?_
  rintro x w1 ⟨iv9, rfl, hSI, hb1⟩
  obtain ⟨ia, il, ic, rfl⟩ := hSI.sl.isSlice
  obtain ⟨w2, hw2⟩ : ∃ w2, w2 = (w1.alloc (.cells #[.int .i64 n, .slice va vl vc, .int .i64 e, .slice ia il ic] 54)).alloc (.cells #[.int .i64 0, .int .i64 0] 28) := ⟨_, rfl⟩
  have hB1 : Below w0.heap.size w0 w2 := by rw [hw2]; exact bcat2 hb1 ((balloc w1 _).alloc (by simp) _)
  have hF1 : Blk w2 (w1.heap.size + 1) 28 [.int .i64 0, .int .i64 0] := by
    rw [hw2]
    have := blk0 (w := w1.alloc (.cells #[.int .i64 n, .slice va vl vc, .int .i64 e, .slice ia il ic] 54)) (T := 28) (.int .i64 0) (.int .i64 0)
    rwa [World.size_alloc] at this
  have hBw2 := bcat BG.bel hB1 BG.bel.size
  have hY2 := blk_below BG.boy hB1
  obtain ⟨t0, t1, _, _⟩ := hF1.two
  obtain ⟨k0, k1, _, _⟩ := hY2.two
  have hw1s := hb1.size
  rw [BG.siz] at hw1s
  rw [hw2] at t0 t1 k0 k1
  go_wp2_with fail
  rw [← hw2]
  clear hw2 t0 t1 k0 k1
  refine (HCL.out _ hBw2).mono ?_
  rintro x w3 ⟨rfl, hb3⟩
  have hb4 := balloc w3 (.cells #[.int .i64 0, .slice none 0 0, .int .i64 0, .slice none 0 0] 54)
  have hb24 := bcat2 hb3 hb4
  have hF4 := blk_below hF1 hb24
  have hBw4 := bcat2 hBw2 hb24
  have hR4 := blk_below (blk_below BG.res hB1) hb24
  have hP4 := blk_below (blk_below BG.par hB1) hb24
  obtain ⟨t0, t1, ft0, ft1⟩ := hF4.two
  have hF5 := (hF4.set 0 (.int .i64 c)).set 1 (.int .i64 i)
  have hR5 := (hR4.other (p := ⟨w1.heap.size + 1, 0, none⟩) (by simp; omega) (.int .i64 c)).other (p := ⟨w1.heap.size + 1, 1, none⟩) (by simp; omega) (.int .i64 i)
  have hP5 := (hP4.other (p := ⟨w1.heap.size + 1, 0, none⟩) (by simp; omega) (.int .i64 c)).other (p := ⟨w1.heap.size + 1, 1, none⟩) (by simp; omega) (.int .i64 i)
  have hB5 := (hBw4.setCell (p := ⟨w1.heap.size + 1, 0, none⟩) (by simp; omega) (.int .i64 c)).setCell (p := ⟨w1.heap.size + 1, 1, none⟩) (by simp; omega) (.int .i64 i)
  obtain ⟨e0, e1, _, _⟩ := hF5.two
  go_wp2_with fail
  generalize ((w3.alloc (.cells #[.int .i64 0, .slice none 0 0, .int .i64 0, .slice none 0 0] 54)).setCell ⟨w1.heap.size + 1, 0, none⟩ (.int .i64 c)).setCell ⟨w1.heap.size + 1, 1, none⟩ (.int .i64 i) = w5 at *
  clear t0 t1 ft0 ft1 hF4 hR4 hP4
  obtain ⟨y0, y1, fy0, fy1⟩ := hR5.two
  obtain ⟨hR6, hB6⟩ := put2 hR5 hB5 (by omega) c i
  have hP6 := (hP5.other (p := ⟨w.heap.size + 1 + 1 + 1, 0, none⟩) (by simp) (.int .i64 c)).other (p := ⟨w.heap.size + 1 + 1 + 1, 1, none⟩) (by simp) (.int .i64 i)
  have hB7 := bdrew hB6
  obtain ⟨_, p0, p1, p2, p3, p4, p5, p6, p7⟩ := Eight.mk' hP5
  obtain ⟨q0, q1, q2, q3, q4, q5, q6, q7⟩ := Eight.fr hP5
  obtain ⟨s0, s1, s2, s3, s4, s5, s6, s7⟩ := Eight.se hP5
  obtain ⟨u0, u1, u2, u3, u4, u5, u6, u7⟩ := Eight.se hP6
  obtain ⟨_, m0, m1, m2, m3, m4, m5, m6, m7⟩ := Eight.mk' hP6
  go_region
  all_goals (
    go_wp2
    obtain ⟨z0, z1, _, _⟩ := hR6.two
    exact bodyPost_ret (v := .tuple #[.agg #[.int .i64 0, .slice none 0 0, .int .i64 0, .slice none 0 0, .int .i64 0, .slice none 0 0, .int .i64 0, .slice none 0 0], .agg #[.int .i64 c, .int .i64 i]]) (by simp [results, Tryz.results37, go_sem, z0, z1, m0, m1, m2, m3, m4, m5, m6, m7]) rfl ⟨rfl, hB7⟩)
theorem eight_set {W w : World} {b : Nat} {x0 x1 x2 x3 x4 x5 x6 x7 : Value} (h : Blk W b 72 [x0, x1, x2, x3, x4, x5, x6, x7]) (hB : Below w.heap.size w W) (hb : w.heap.size ≤ b) (y0 y1 y2 y3 y4 y5 y6 y7 : Value) :
    Blk ((((((((W.setCell ⟨b, 0, none⟩ y0).setCell ⟨b, 1, none⟩ y1).setCell ⟨b, 2, none⟩ y2).setCell ⟨b, 3, none⟩ y3).setCell ⟨b, 4, none⟩ y4).setCell ⟨b, 5, none⟩ y5).setCell ⟨b, 6, none⟩ y6).setCell ⟨b, 7, none⟩ y7) b 72 [y0, y1, y2, y3, y4, y5, y6, y7] ∧
    Below w.heap.size w ((((((((W.setCell ⟨b, 0, none⟩ y0).setCell ⟨b, 1, none⟩ y1).setCell ⟨b, 2, none⟩ y2).setCell ⟨b, 3, none⟩ y3).setCell ⟨b, 4, none⟩ y4).setCell ⟨b, 5, none⟩ y5).setCell ⟨b, 6, none⟩ y6).setCell ⟨b, 7, none⟩ y7) :=
  ⟨(((((((h.set 0 _).set 1 _).set 2 _).set 3 _).set 4 _).set 5 _).set 6 _).set 7 _, (((((((hB.setCell (p := ⟨b, 0, none⟩) hb _).setCell (p := ⟨b, 1, none⟩) hb _).setCell (p := ⟨b, 2, none⟩) hb _).setCell (p := ⟨b, 3, none⟩) hb _).setCell (p := ⟨b, 4, none⟩) hb _).setCell (p := ⟨b, 5, none⟩) hb _).setCell (p := ⟨b, 6, none⟩) hb _).setCell (p := ⟨b, 7, none⟩) hb _⟩
theorem eight_far {W : World} {b : Nat} (y0 y1 y2 y3 y4 y5 y6 y7 : Value) {g : Nat} (hg : g ≠ b) :
    ((((((((W.setCell ⟨b, 0, none⟩ y0).setCell ⟨b, 1, none⟩ y1).setCell ⟨b, 2, none⟩ y2).setCell ⟨b, 3, none⟩ y3).setCell ⟨b, 4, none⟩ y4).setCell ⟨b, 5, none⟩ y5).setCell ⟨b, 6, none⟩ y6).setCell ⟨b, 7, none⟩ y7).heap[g]? = W.heap[g]? := by
  have h : ∀ (V : World) k z, (V.setCell ⟨b, k, none⟩ z).heap[g]? = V.heap[g]? := fun V k z => Below.heap_setCell _ _ _ g (by simpa using hg)
  rw [h, h, h, h, h, h, h, h]
theorem eight_size {W : World} {b : Nat} (y0 y1 y2 y3 y4 y5 y6 y7 : Value) :
    ((((((((W.setCell ⟨b, 0, none⟩ y0).setCell ⟨b, 1, none⟩ y1).setCell ⟨b, 2, none⟩ y2).setCell ⟨b, 3, none⟩ y3).setCell ⟨b, 4, none⟩ y4).setCell ⟨b, 5, none⟩ y5).setCell ⟨b, 6, none⟩ y6).setCell ⟨b, 7, none⟩ y7).heap.size = W.heap.size := by
  simp only [size_set]
set_option maxRecDepth 100000 in
set_option maxHeartbeats 8000000 in
theorem pair_good (n e m d : Nat) (v y : Value) (zs ys : List Int) (w : World) (hv : Sl w v zs) (hg : IsGrp n zs e) (hy : Sl w y ys) (hh : IsGrp m ys d) :
    Calls Tryz.prog 37 #[.agg #[.int .i64 n, v], .agg #[.int .i64 m, y]] w fun x w' => ∃ u t, x = .returned (.tuple #[.agg #[.int .i64 n, v, .int .i64 e, u, .int .i64 m, y, .int .i64 d, t], .agg #[.int .i64 0, .int .i64 0]]) ∧ SlF w.heap.size w' u (li ((List.range n).map (iv n zs e))) ∧ SlF w.heap.size w' t (li ((List.range m).map (iv m ys d))) ∧ Below w.heap.size w w' := by
  obtain ⟨va, vl, vc, rfl⟩ := hv.isSlice
  obtain ⟨ya, yl, yc, rfl⟩ := hy.isSlice
  obtain ⟨w0, BG⟩ := BegP.new w n m (.slice va vl vc) (.slice ya yl yc)
  have HCK := hide (opened_good n e (.slice va vl vc) zs w0 (hv.below BG.bel) hg)
  have HCL := hide (fun W (h : Below w.heap.size w W) => opened_good m d (.slice ya yl yc) ys W (hy.below h) hh)
  obtain ⟨c0, c1, _, _⟩ := BG.box.two
  rw [BG.eq] at c0 c1
  go_enter Tryz.func37, Tryz.ntmps37
  go_wp2_with fail
  rw [← BG.eq]
  clear c0 c1
  refine HCK.out.mono ?_
  rintro x w1 ⟨iv9, rfl, hSI, hb1⟩
  obtain ⟨ia, il, ic, rfl⟩ := hSI.sl.isSlice
  obtain ⟨w2, hw2⟩ : ∃ w2, w2 = (w1.alloc (.cells #[.int .i64 n, .slice va vl vc, .int .i64 e, .slice ia il ic] 54)).alloc (.cells #[.int .i64 0, .int .i64 0] 28) := ⟨_, rfl⟩
  have hb12 : Below w1.heap.size w1 w2 := by rw [hw2]; exact (balloc w1 _).alloc (by simp) _
  have hB1 : Below w0.heap.size w0 w2 := bcat2 hb1 hb12
  have hF1 : Blk w2 (w1.heap.size + 1) 28 [.int .i64 0, .int .i64 0] := by
    rw [hw2]
    have := blk0 (w := w1.alloc (.cells #[.int .i64 n, .slice va vl vc, .int .i64 e, .slice ia il ic] 54)) (T := 28) (.int .i64 0) (.int .i64 0)
    rwa [World.size_alloc] at this
  have hH2 : Blk w2 w1.heap.size 54 [.int .i64 n, (.slice va vl vc), .int .i64 e, (.slice ia il ic)] := by
    rw [hw2]; exact (blk4 _ _ _ _).alloc _
  have hBw2 := bcat BG.bel hB1 BG.bel.size
  have hY2 := blk_below BG.boy hB1
  have hSI2 := hSI.below hb12
  obtain ⟨t0, t1, _, _⟩ := hF1.two
  obtain ⟨k0, k1, _, _⟩ := hY2.two
  have hw1s := hb1.size
  rw [BG.siz] at hw1s
  rw [hw2] at t0 t1 k0 k1
  go_wp2_with fail
  rw [← hw2]
  clear hw2 t0 t1 k0 k1
  refine (HCL.out _ hBw2).mono ?_
  rintro x w3 ⟨jv9, rfl, hSJ, hb3⟩
  obtain ⟨ja, jl, jc, rfl⟩ := hSJ.sl.isSlice
  have hb4 := balloc w3 (.cells #[.int .i64 m, .slice ya yl yc, .int .i64 d, .slice ja jl jc] 54)
  have hJ4 := blk4 (w := w3) (T := 54) (.int .i64 m) (.slice ya yl yc) (.int .i64 d) (.slice ja jl jc)
  have hb24 := bcat2 hb3 hb4
  have hF4 := blk_below hF1 hb24
  have hH4 := blk_below hH2 hb24
  have hBw4 := bcat2 hBw2 hb24
  have hR4 := blk_below (blk_below BG.res hB1) hb24
  have hP4 := blk_below (blk_below BG.par hB1) hb24
  have hSI4 := (hSI2.below hb24)
  have hSJ4 := hSJ.below hb4
  have hPl := (blk_below BG.par hB1).lt
  obtain ⟨t0, t1, ft0, ft1⟩ := hF4.two
  obtain ⟨s0, s1⟩ := hF4.self
  obtain ⟨_, h0, h1, h2, h3, _⟩ := Four.mk' hH4
  obtain ⟨_, j0, j1, j2, j3, _⟩ := Four.mk' hJ4
  obtain ⟨_, p0, p1, p2, p3, p4, p5, p6, p7⟩ := Eight.mk' hP4
  obtain ⟨q0, q1, q2, q3, q4, q5, q6, q7⟩ := Eight.fr hP4
  obtain ⟨y0, y1, fy0, fy1⟩ := hR4.two
  obtain ⟨hP5, hB5⟩ := eight_set hP4 hBw4 (by omega) (.int .i64 n) (.slice va vl vc) (.int .i64 e) (.slice ia il ic) (.int .i64 m) (.slice ya yl yc) (.int .i64 d) (.slice ja jl jc)
  have hR5 := hR4.of_eq (eight_far (W := w3.alloc (.cells #[.int .i64 m, .slice ya yl yc, .int .i64 d, .slice ja jl jc] 54)) (b := w.heap.size + 1 + 1) (.int .i64 n) (.slice va vl vc) (.int .i64 e) (.slice ia il ic) (.int .i64 m) (.slice ya yl yc) (.int .i64 d) (.slice ja jl jc) (g := w.heap.size + 1 + 1 + 1) (by omega))
  obtain ⟨o0, o1⟩ := hR5.self
  obtain ⟨_, m0, m1, m2, m3, m4, m5, m6, m7⟩ := Eight.mk' hP5
  obtain ⟨z0, z1, _, _⟩ := hR5.two
  have hkeep : ∀ g, w.heap.size + 1 + 1 + 1 + 1 ≤ g → _ := fun g (hg9 : w.heap.size + 1 + 1 + 1 + 1 ≤ g) => eight_far (W := w3.alloc (.cells #[.int .i64 m, .slice ya yl yc, .int .i64 d, .slice ja jl jc] 54)) (b := w.heap.size + 1 + 1) (.int .i64 n) (.slice va vl vc) (.int .i64 e) (.slice ia il ic) (.int .i64 m) (.slice ya yl yc) (.int .i64 d) (.slice ja jl jc) (g := g) (by omega)
  have hSI5 := (hSI4.keep (fun g h1 _ => hkeep g (by rw [BG.siz] at h1; exact h1)) (by rw [eight_size]; exact Nat.le_refl _)).mono BG.bel.size
  have hw2s := hb12.size
  have hSJ5 := (hSJ4.keep (fun g h1 _ => hkeep g (by omega)) (by rw [eight_size]; exact Nat.le_refl _)).mono hBw2.size
  clear hkeep
  go_wp2
  exact bodyPost_ret (v := .tuple #[.agg #[.int .i64 n, .slice va vl vc, .int .i64 e, .slice ia il ic, .int .i64 m, .slice ya yl yc, .int .i64 d, .slice ja jl jc], .agg #[.int .i64 0, .int .i64 0]]) (by simp [results, Tryz.results37, go_sem, z0, z1, m0, m1, m2, m3, m4, m5, m6, m7]) rfl ⟨_, _, rfl, hSI5, hSJ5, hB5⟩
end Go.Proofs.YtgdpgbldjpeopaaGreatDoor

namespace Go.Proofs.YtgdpgbldjpeopaaGreatDoor
open Go Go.RowKit

set_option maxRecDepth 100000 in
set_option maxHeartbeats 4000000 in
theorem ghas_ok (n : Nat) (v u : Value) (e a : Int) (w : World) :
    Calls Tryz.prog 106 #[.agg #[.int .i64 n, v, .int .i64 e, u], .int .i64 a] w fun x w' => x = .returned (.bool (decide (0 ≤ a ∧ a < n))) ∧ Below w.heap.size w w' := by
  have hB0 : Below w.heap.size w (w.alloc (.cells #[.int .i64 n, v, .int .i64 e, u] 54)) := balloc w _
  have hX0 := blk4 (w := w) (T := 54) (.int .i64 n) v (.int .i64 e) u
  obtain ⟨_, c0, c1, c2, c3, _⟩ := Four.mk' hX0
  obtain ⟨bb, hbb⟩ : ∃ bb, bb = decide (0 ≤ a ∧ a < (n : Int)) := ⟨_, rfl⟩
  rw [← hbb]
  have HBB := hide hbb
  clear hbb
  by_cases h0 : 0 ≤ a
  · by_cases h1 : a < n
    · have HD := hide (show bb = true by rw [HBB.out]; exact decide_eq_true ⟨h0, h1⟩)
      go_enter Tryz.func106, Tryz.ntmps106
      go_wp2
      go_ret
      exact ⟨by rw [HD.out]; rfl, hB0⟩
    · have HD := hide (show bb = false by rw [HBB.out]; exact decide_eq_false (fun h => h1 h.2))
      go_enter Tryz.func106, Tryz.ntmps106
      go_wp2
      go_ret
      exact ⟨by rw [HD.out]; rfl, hB0⟩
  · have HD := hide (show bb = false by rw [HBB.out]; exact decide_eq_false (fun h => h0 h.1))
    go_enter Tryz.func106, Tryz.ntmps106
    go_wp2
    go_ret
    exact ⟨by rw [HD.out]; rfl, hB0⟩
/-- Is there a thing by which a product is not kept? -/
def stq (n : Nat) (zs : List Int) (m : Nat) (ys ms : List Int) (a : Nat) : Bool := (List.range n).any fun b => !decide (ms[tm n zs a b]?.getD 0 = (tm m ys (ms[a]?.getD 0).toNat (ms[b]?.getD 0).toNat : Int))
theorem stq_no {n : Nat} {zs : List Int} {m : Nat} {ys ms : List Int} {a : Nat} : stq n zs m ys ms a = false ↔ ∀ b, b < n → ms[tm n zs a b]?.getD 0 = (tm m ys (ms[a]?.getD 0).toNat (ms[b]?.getD 0).toNat : Int) := by
  unfold stq
  rw [List.any_eq_false]
  simp only [List.mem_range, Bool.not_eq_true, Bool.not_eq_false', decide_eq_true_eq]
theorem stq_yes {n : Nat} {zs : List Int} {m : Nat} {ys ms : List Int} {a b : Nat} (hb : b < n) (h : ¬ ms[tm n zs a b]?.getD 0 = (tm m ys (ms[a]?.getD 0).toNat (ms[b]?.getD 0).toNat : Int)) : stq n zs m ys ms a = true := by
  unfold stq
  rw [List.any_eq_true]
  exact ⟨b, List.mem_range.2 hb, by simpa using h⟩
set_option maxRecDepth 100000 in
set_option maxHeartbeats 8000000 in
theorem strays_ok (n m e d a : Nat) (v u y t mv : Value) (zs ys ms : List Int) (w : World) (ht : IsTab n zs) (hu : IsTab m ys) (hv : Sl w v zs) (hy : Sl w y ys) (hm : Sl w mv ms) (hl : ms.length = n) (hr : ∀ i, i < n → 0 ≤ ms[i]?.getD 0 ∧ ms[i]?.getD 0 < m) (ha : a < n) :
    Calls Tryz.prog 107 #[.agg #[.int .i64 n, v, .int .i64 e, u, .int .i64 m, y, .int .i64 d, t], mv, .int .i64 a] w fun x w' => x = .returned (.bool (stq n zs m ys ms a)) ∧ Below w.heap.size w w' := by
  have hn := ht.le
  have hB0 : Below w.heap.size w (w.alloc (.cells #[.int .i64 n, v, .int .i64 e, u, .int .i64 m, y, .int .i64 d, t] 72)) := balloc w _
  have hX0 : Blk (w.alloc (.cells #[.int .i64 n, v, .int .i64 e, u, .int .i64 m, y, .int .i64 d, t] 72)) w.heap.size 72 [.int .i64 n, v, .int .i64 e, u, .int .i64 m, y, .int .i64 d, t] := World.alloc_heap_new _ _
  have HP1 := hide (fun W b (h : Below w.heap.size w W) (hb : b < n) => prd_ok n v u zs e a b W ht (hv.below h) ha hb)
  have HP2 := hide (fun W i j (h : Below w.heap.size w W) (hi : i < m) (hj : j < m) => prd_ok m y t ys d i j W hu (hy.below h) hi hj)
  have HTL := hide (fun b (hb : b < n) => tm_lt ht ha hb)
  have HR := hide hr
  have HNO := hide (stq_no (n := n) (zs := zs) (m := m) (ys := ys) (ms := ms) (a := a))
  have HYES := hide (fun b (hb : b < n) h => stq_yes (n := n) (zs := zs) (m := m) (ys := ys) (ms := ms) (a := a) (b := b) hb h)
  obtain ⟨bb, hbb⟩ : ∃ bb, bb = stq n zs m ys ms a := ⟨_, rfl⟩
  rw [← hbb] at HNO HYES ⊢
  clear hbb hr
  obtain ⟨ma, mc, mb, mo, rfl, hmr, hmb, _, hmm⟩ := hm
  have HMA := hide (fun (h : 0 < n) => hmr.at_ (by omega))
  have HMC := hide (fun i (h : i < n) => hmr.cell i (by omega))
  rw [hl] at *
  clear hmr hmm hl
  obtain ⟨_, p0, p1, p2, p3, p4, p5, p6, p7⟩ := Eight.mk' hX0
  go_enter Tryz.func107, Tryz.ntmps107
  go_wp2
  generalize w.alloc (.cells #[.int .i64 n, v, .int .i64 e, u, .int .i64 m, y, .int .i64 d, t] 72) = w0 at *
  clear p0 p1 p2 p3 p4 p5 p6 p7
  go_loopw [12] (fun i wr => ∃ b : Nat, b ≤ n ∧ i = .int .i64 b ∧ (∀ t, t < b → ms[tm n zs a t]?.getD 0 = (tm m ys (ms[a]?.getD 0).toNat (ms[t]?.getD 0).toNat : Int)) ∧ Below w0.heap.size w0 wr) (fun i _ => n - (intOf i).toNat)
  case atStart => exact ⟨0, Nat.zero_le _, rfl, fun t ht => by omega, Below.refl _ _⟩
  case round =>
    obtain ⟨b, hb, rfl, hno, hB⟩ := hrel
    have HALL := hide hno
    clear hno
    have hBw := bcat2 hB0 hB
    by_cases hlt : b < n
    · have hbi : (b : Int) < (n : Int) := by omega
      have hai : (a : Int) < (n : Int) := by omega
      obtain rfl := HMA.out (by omega)
      have hab := HTL.out b hlt
      have ca := below_cell hBw (HMC.out a ha)
      have cb := below_cell hBw (HMC.out b hlt)
      have cab := below_cell hBw (HMC.out _ hab)
      obtain ⟨a0, a1⟩ := HR.out a ha
      obtain ⟨b0, b1⟩ := HR.out b hlt
      have hea : ms[a]?.getD 0 = ((ms[a]?.getD 0).toNat : Int) := by omega
      have heb : ms[b]?.getD 0 = ((ms[b]?.getD 0).toNat : Int) := by omega
      have hfa : (ms[a]?.getD 0).toNat < m := by omega
      have hfb : (ms[b]?.getD 0).toNat < m := by omega
      have HQ1 := hide (fun W (h : Below w.heap.size w W) => HP1.out W b h hlt)
      have HQ2 := hide (fun W (h : Below w.heap.size w W) => HP2.out W _ _ h hfa hfb)
      have HB2 := hide (HYES.out b hlt)
      have HB1 := hide (fun (h : ms[tm n zs a b]?.getD 0 = (tm m ys (ms[a]?.getD 0).toNat (ms[b]?.getD 0).toNat : Int)) t (ht : t < b + 1) => show ms[tm n zs a t]?.getD 0 = (tm m ys (ms[a]?.getD 0).toNat (ms[t]?.getD 0).toNat : Int) by
        by_cases e9 : t = b
        · subst e9; exact h
        · exact HALL.out t (by omega))
      rw [hea] at ca
      rw [heb] at cb
      clear hea heb a0 a1 b0 b1
      generalize (ms[a]?.getD 0).toNat = fa at *
      generalize (ms[b]?.getD 0).toNat = fb at *
      generalize hcd : ms[tm n zs a b]?.getD 0 = fab at *
      have HCD := hide hcd
      clear hcd
      generalize hd9e : tm n zs a b = d9 at *
      have HD9 := hide hd9e
      clear hd9e
      generalize tm m ys fa fb = q9 at *
      have hdi : (d9 : Int) < (n : Int) := by omega
      obtain ⟨_, p0, p1, p2, p3, p4, p5, p6, p7⟩ := Eight.mk' (blk_below hX0 hB)
      have hS' : ∀ W, Below wr.heap.size wr W → (Below wr.heap.size wr W ∧ W.cell? ⟨mb, mo + a, none⟩ = some (.int .i64 (fa : Int)) ∧ W.cell? ⟨mb, mo + b, none⟩ = some (.int .i64 (fb : Int)) ∧ W.cell? ⟨mb, mo + d9, none⟩ = some (.int .i64 fab) ∧ W.cell? ⟨w.heap.size, 0, none⟩ = some (.int .i64 n) ∧ W.cell? ⟨w.heap.size, 1, none⟩ = some v ∧ W.cell? ⟨w.heap.size, 2, none⟩ = some (.int .i64 e) ∧ W.cell? ⟨w.heap.size, 3, none⟩ = some u ∧ W.cell? ⟨w.heap.size, 4, none⟩ = some (.int .i64 m) ∧ W.cell? ⟨w.heap.size, 5, none⟩ = some y ∧ W.cell? ⟨w.heap.size, 6, none⟩ = some (.int .i64 d) ∧ W.cell? ⟨w.heap.size, 7, none⟩ = some t) := fun W h => ⟨h, below_cell h ca, below_cell h cb, below_cell h cab, below_cell h p0, below_cell h p1, below_cell h p2, below_cell h p3, below_cell h p4, below_cell h p5, below_cell h p6, below_cell h p7⟩
      have hS1 := hS' _ (bdrew (Below.refl _ wr))
      have hk1 : Hid True := trivial
      clear p0 p1 p2 p3 p4 p5 p6 p7 ca cb cab
      by_cases heq : fab = (q9 : Int)
      · have HBX := hide (HB1.out heq)
        subst heq
        clear HB1 HB2
        go_wp2_with fail
        go_region_held3 (fun W => Below wr.heap.size wr W ∧ W.cell? ⟨mb, mo + a, none⟩ = some (.int .i64 (fa : Int)) ∧ W.cell? ⟨mb, mo + b, none⟩ = some (.int .i64 (fb : Int)) ∧ W.cell? ⟨mb, mo + d9, none⟩ = some (.int .i64 (q9 : Int)) ∧ W.cell? ⟨w.heap.size, 0, none⟩ = some (.int .i64 n) ∧ W.cell? ⟨w.heap.size, 1, none⟩ = some v ∧ W.cell? ⟨w.heap.size, 2, none⟩ = some (.int .i64 e) ∧ W.cell? ⟨w.heap.size, 3, none⟩ = some u ∧ W.cell? ⟨w.heap.size, 4, none⟩ = some (.int .i64 m) ∧ W.cell? ⟨w.heap.size, 5, none⟩ = some y ∧ W.cell? ⟨w.heap.size, 6, none⟩ = some (.int .i64 d) ∧ W.cell? ⟨w.heap.size, 7, none⟩ = some t)
          (first | exact hS1 | assumption | exact hS' _ (bcat2 (And.left ‹_›) hl1))
          (first
            | (go_at_call 59; clear hk1; refine (HQ1.out _ (bcat2 hBw (And.left ‹_›))).mono ?_; rintro e1 U1 ⟨rfl, hl1⟩)
            | (go_at_call 59; refine (HQ2.out _ (bcat2 hBw (And.left ‹_›))).mono ?_; rintro e2 U2 ⟨rfl, hl1⟩))
        all_goals (
          have hB9 := bcat2 hB (And.left ‹Below wr.heap.size wr U2 ∧ _›)
          go_wp2
          go_roundw
          case rel => exact ⟨b + 1, by omega, by go_num, HBX.out, hB9⟩
          case measure => simp [intOf]; omega)
      · have HBX := hide (HB2.out heq)
        have hne : (fab != (q9 : Int)) = true := by simpa using heq
        clear HB1 HB2
        go_wp2_with fail
        go_region_held3 (fun W => Below wr.heap.size wr W ∧ W.cell? ⟨mb, mo + a, none⟩ = some (.int .i64 (fa : Int)) ∧ W.cell? ⟨mb, mo + b, none⟩ = some (.int .i64 (fb : Int)) ∧ W.cell? ⟨mb, mo + d9, none⟩ = some (.int .i64 fab) ∧ W.cell? ⟨w.heap.size, 0, none⟩ = some (.int .i64 n) ∧ W.cell? ⟨w.heap.size, 1, none⟩ = some v ∧ W.cell? ⟨w.heap.size, 2, none⟩ = some (.int .i64 e) ∧ W.cell? ⟨w.heap.size, 3, none⟩ = some u ∧ W.cell? ⟨w.heap.size, 4, none⟩ = some (.int .i64 m) ∧ W.cell? ⟨w.heap.size, 5, none⟩ = some y ∧ W.cell? ⟨w.heap.size, 6, none⟩ = some (.int .i64 d) ∧ W.cell? ⟨w.heap.size, 7, none⟩ = some t)
          (first | exact hS1 | assumption | exact hS' _ (bcat2 (And.left ‹_›) hl1))
          (first
            | (go_at_call 59; clear hk1; refine (HQ1.out _ (bcat2 hBw (And.left ‹_›))).mono ?_; rintro e1 U1 ⟨rfl, hl1⟩)
            | (go_at_call 59; refine (HQ2.out _ (bcat2 hBw (And.left ‹_›))).mono ?_; rintro e2 U2 ⟨rfl, hl1⟩))
        all_goals (
          have hB9 := bcat2 hBw (And.left ‹Below wr.heap.size wr U2 ∧ _›)
          go_wp2
          go_ret
          exact ⟨by rw [HBX.out]; rfl, hB9⟩)
    · have hbi : ¬ (b : Int) < (n : Int) := by omega
      have HBN := hide (HNO.out.2 (fun t ht => HALL.out t (by omega)))
      go_wp2
      go_ret
      exact ⟨by rw [HBN.out]; rfl, bcat2 hB0 hB⟩
end Go.Proofs.YtgdpgbldjpeopaaGreatDoor

namespace Go.Proofs.YtgdpgbldjpeopaaGreatDoor
open Go Go.RowKit

/-- Is a list's number a thing? -/
def rng (m : Int) (ms : List Int) (i : Nat) : Bool := decide (0 ≤ ms[i]?.getD 0 ∧ ms[i]?.getD 0 < m)
/-- What is wrong with two tables and a list as a map of things. -/
def hfault (N : Int) (zs : List Int) (M : Int) (ys ms : List Int) : Int × Int :=
  if (gfault N zs).1 ≠ 0 then gfault N zs
  else if (gfault M ys).1 ≠ 0 then gfault M ys
  else if ¬ (ms.length : Int) = N then (8, 0)
  else if ¬ least ms.length (fun i => !rng M ms i) = -1 then (3, least ms.length (fun i => !rng M ms i))
  else if ¬ least ms.length (stq N.toNat zs M.toNat ys ms) = -1 then (7, least ms.length (stq N.toNat zs M.toNat ys ms))
  else (0, 0)
theorem hfault_1 {N : Int} {zs : List Int} {M : Int} {ys ms : List Int} (h : (gfault N zs).1 ≠ 0) : hfault N zs M ys ms = gfault N zs := by unfold hfault; rw [if_pos h]
theorem hfault_2 {n e : Nat} {zs : List Int} {M : Int} {ys ms : List Int} (g : IsGrp n zs e) (h : (gfault M ys).1 ≠ 0) : hfault n zs M ys ms = gfault M ys := by unfold hfault; rw [gfault_of_grp g, if_neg (by simp), if_pos h]
section
variable {n e m d : Nat} {zs ys ms : List Int}
theorem hfault_g (g : IsGrp n zs e) (h : IsGrp m ys d) : hfault n zs m ys ms = if ¬ (ms.length : Int) = (n : Int) then (8, 0) else if ¬ least ms.length (fun i => !rng m ms i) = -1 then (3, least ms.length (fun i => !rng m ms i)) else if ¬ least ms.length (stq n zs m ys ms) = -1 then (7, least ms.length (stq n zs m ys ms)) else (0, 0) := by
  unfold hfault
  rw [gfault_of_grp g, if_neg (by simp), gfault_of_grp h, if_neg (by simp), Int.toNat_natCast, Int.toNat_natCast]
theorem hfault_8 (g : IsGrp n zs e) (h : IsGrp m ys d) (hl : ¬ ms.length = n) : hfault n zs m ys ms = (8, 0) := by
  rw [hfault_g g h, if_pos (by omega)]
theorem least_is {k : Nat} {j : Nat} {p : Nat → Bool} (hj : j < k) (h1 : ∀ t, t < j → p t = false) (h2 : p j = true) : least k p = (j : Int) := by
  rcases least_cases k p with ⟨i, hi, hp, hlt, he⟩ | ⟨hno, _⟩
  · rw [he]
    rcases Nat.lt_trichotomy i j with h | h | h
    · rw [h1 i h] at hp; cases hp
    · rw [h]
    · have := hlt j h; rw [h2] at this; cases this
  · rw [hno j hj] at h2; cases h2
theorem least_no {k : Nat} {p : Nat → Bool} (h1 : ∀ t, t < k → p t = false) : least k p = -1 := by
  rcases least_cases k p with ⟨i, hi, hp, _, _⟩ | ⟨_, he⟩
  · rw [h1 i hi] at hp; cases hp
  · exact he
theorem hfault_3 (g : IsGrp n zs e) (h : IsGrp m ys d) (hl : ms.length = n) {k : Nat} (hk : k < n) (h1 : ∀ t, t < k → rng m ms t = true) (h2 : rng m ms k = false) : hfault n zs m ys ms = (3, (k : Int)) := by
  rw [hfault_g g h, if_neg (by omega), least_is (j := k) (by omega) (fun t ht => by rw [h1 t ht]; rfl) (by rw [h2]; rfl), if_pos (by omega)]
theorem hfault_7 (g : IsGrp n zs e) (h : IsGrp m ys d) (hl : ms.length = n) (hr : ∀ t, t < n → rng m ms t = true) {k : Nat} (hk : k < n) (h1 : ∀ t, t < k → stq n zs m ys ms t = false) (h2 : stq n zs m ys ms k = true) : hfault n zs m ys ms = (7, (k : Int)) := by
  rw [hfault_g g h, if_neg (by omega), least_no (fun t ht => by rw [hr t (by omega)]; rfl), if_neg (by simp), least_is (j := k) (by omega) h1 h2, if_pos (by omega)]
theorem hfault_0 (g : IsGrp n zs e) (h : IsGrp m ys d) (hl : ms.length = n) (hr : ∀ t, t < n → rng m ms t = true) (h1 : ∀ t, t < n → stq n zs m ys ms t = false) : hfault n zs m ys ms = (0, 0) := by
  rw [hfault_g g h, if_neg (by omega), least_no (fun t ht => by rw [hr t (by omega)]; rfl), if_neg (by simp), least_no (fun t ht => h1 t (by omega)), if_neg (by simp)]
end
set_option maxRecDepth 100000 in
set_option maxHeartbeats 8000000 in
theorem ow_bad (N M c i : Int) (v y mv : Value) (w : World) (hc : c ≠ 0)
    (HP : Hid (∀ W, Below w.heap.size w W → Calls Tryz.prog 37 #[.agg #[.int .i64 N, v], .agg #[.int .i64 M, y]] W fun x w' => x = .returned (.tuple #[.agg #[.int .i64 0, .slice none 0 0, .int .i64 0, .slice none 0 0, .int .i64 0, .slice none 0 0, .int .i64 0, .slice none 0 0], .agg #[.int .i64 c, .int .i64 i]]) ∧ Below W.heap.size W w')) :
    Calls Tryz.prog 93 #[.agg #[.int .i64 N, v], .agg #[.int .i64 M, y], mv] w fun x w' => x = .returned (.tuple #[.agg #[.int .i64 0, .slice none 0 0, .int .i64 0, .slice none 0 0, .int .i64 0, .slice none 0 0, .int .i64 0, .slice none 0 0], .agg #[.int .i64 c, .int .i64 i]]) ∧ Below w.heap.size w w' := by
  obtain ⟨w0, BG⟩ := BegP.new w N M v y
  have HCK := hide (HP.out w0 BG.bel)
  obtain ⟨c0, c1, _, _⟩ := BG.box.two
  obtain ⟨k0, k1, _, _⟩ := BG.boy.two
  have hcb : (c != 0) = true := by simpa using hc
  rw [BG.eq] at c0 c1 k0 k1
  go_enter Tryz.func93, Tryz.ntmps93
  go_wp2_with fail
  rw [← BG.eq]
  clear c0 c1 k0 k1
  refine HCK.out.mono ?_
  rintro x w1 ⟨rfl, hb1⟩
  obtain ⟨w2, hw2⟩ : ∃ w2, w2 = (w1.alloc (.cells #[.int .i64 0, .slice none 0 0, .int .i64 0, .slice none 0 0, .int .i64 0, .slice none 0 0, .int .i64 0, .slice none 0 0] 72)).alloc (.cells #[.int .i64 c, .int .i64 i] 28) := ⟨_, rfl⟩
  have hB1 : Below w0.heap.size w0 w2 := by rw [hw2]; exact bcat2 hb1 ((balloc w1 _).alloc (by simp) _)
  have hF1 : Blk w2 (w1.heap.size + 1) 28 [.int .i64 c, .int .i64 i] := by
    rw [hw2]
    have := blk0 (w := w1.alloc (.cells #[.int .i64 0, .slice none 0 0, .int .i64 0, .slice none 0 0, .int .i64 0, .slice none 0 0, .int .i64 0, .slice none 0 0] 72)) (T := 28) (.int .i64 c) (.int .i64 i)
    rwa [World.size_alloc] at this
  have hR1 := blk_below BG.res hB1
  have hP1 := blk_below BG.par hB1
  have hBw := bcat BG.bel hB1 BG.bel.size
  obtain ⟨y0, y1, fy0, fy1⟩ := hR1.two
  obtain ⟨t0, t1, _, _⟩ := hF1.two
  obtain ⟨hR6, hB6⟩ := put2 hR1 hBw (by omega) c i
  have hP6 := (hP1.other (p := ⟨w.heap.size + 1 + 1 + 1, 0, none⟩) (by simp) (.int .i64 c)).other (p := ⟨w.heap.size + 1 + 1 + 1, 1, none⟩) (by simp) (.int .i64 i)
  have hB7 := bdrew hB6
  rw [hw2] at t0 t1
  go_wp2_with fail
  rw [← hw2] at t0 t1 ⊢
  clear hw2
  obtain ⟨_, p0, p1, p2, p3, p4, p5, p6, p7⟩ := Eight.mk' hP1
  obtain ⟨q0, q1, q2, q3, q4, q5, q6, q7⟩ := Eight.fr hP1
  obtain ⟨s0, s1, s2, s3, s4, s5, s6, s7⟩ := Eight.se hP1
  obtain ⟨u0, u1, u2, u3, u4, u5, u6, u7⟩ := Eight.se hP6
  obtain ⟨_, m0, m1, m2, m3, m4, m5, m6, m7⟩ := Eight.mk' hP6
  go_region
  all_goals (
    go_wp2
    obtain ⟨z0, z1, _, _⟩ := hR6.two
    exact bodyPost_ret (v := .tuple #[.agg #[.int .i64 0, .slice none 0 0, .int .i64 0, .slice none 0 0, .int .i64 0, .slice none 0 0, .int .i64 0, .slice none 0 0], .agg #[.int .i64 c, .int .i64 i]]) (by simp [results, Tryz.results93, go_sem, z0, z1, m0, m1, m2, m3, m4, m5, m6, m7]) rfl ⟨rfl, hB7⟩)
end Go.Proofs.YtgdpgbldjpeopaaGreatDoor

namespace Go.Proofs.YtgdpgbldjpeopaaGreatDoor
open Go Go.RowKit

set_option maxRecDepth 100000 in
set_option maxHeartbeats 2000000 in
theorem ow_any (n e m d : Nat) (v y mv : Value) (zs ys ms : List Int) (w : World) (hv : Sl w v zs) (hg : IsGrp n zs e) (hy : Sl w y ys) (hh : IsGrp m ys d) (hm : Sl w mv ms) :
    Calls Tryz.prog 93 #[.agg #[.int .i64 n, v], .agg #[.int .i64 m, y], mv] w fun x w' => ∃ P, x = .returned (.tuple #[P, .agg #[.int .i64 (hfault n zs m ys ms).1, .int .i64 (hfault n zs m ys ms).2]]) ∧ ((hfault n zs m ys ms).1 = 0 → ∃ u t, P = .agg #[.int .i64 n, v, .int .i64 e, u, .int .i64 m, y, .int .i64 d, t] ∧ SlF w.heap.size w' u (li ((List.range n).map (iv n zs e))) ∧ SlF w.heap.size w' t (li ((List.range m).map (iv m ys d)))) ∧ (¬ (hfault n zs m ys ms).1 = 0 → P = .agg #[.int .i64 0, .slice none 0 0, .int .i64 0, .slice none 0 0, .int .i64 0, .slice none 0 0, .int .i64 0, .slice none 0 0]) ∧ Below w.heap.size w w' := by
  obtain ⟨va, vl, vc, rfl⟩ := hv.isSlice
  obtain ⟨ya, yl, yc, rfl⟩ := hy.isSlice
  have hn := hg.tab.le
  obtain ⟨w0, BG⟩ := BegP.new w n m (.slice va vl vc) (.slice ya yl yc)
  have HCK := hide (pair_good n e m d (.slice va vl vc) (.slice ya yl yc) zs ys w0 (hv.below BG.bel) hg (hy.below BG.bel) hh)
  have H8 := hide (fun (h : ¬ ms.length = n) => hfault_8 (ms := ms) hg hh h)
  have H3 := hide (fun (h : ms.length = n) k (hk : k < n) h1 h2 => hfault_3 (k := k) hg hh h hk h1 h2)
  have H7 := hide (fun (h : ms.length = n) hr k (hk : k < n) h1 h2 => hfault_7 (k := k) hg hh h hr hk h1 h2)
  have H0 := hide (fun (h : ms.length = n) hr h1 => hfault_0 hg hh h hr h1)
  obtain ⟨hf, hfe⟩ : ∃ hf, hf = hfault n zs m ys ms := ⟨_, rfl⟩
  rw [← hfe] at H8 H3 H7 H0 ⊢
  clear hfe
  have HST := hide (fun W a (u t : Value) (h : Below w.heap.size w W) (hl : ms.length = n) (hr : ∀ i, i < n → 0 ≤ ms[i]?.getD 0 ∧ ms[i]?.getD 0 < m) (ha : a < n) => strays_ok n m e d a (.slice va vl vc) u (.slice ya yl yc) t mv zs ys ms W hg.tab hh.tab (hv.below h) (hy.below h) (hm.below h) hl hr ha)
  obtain ⟨ma, mc, mb, mo, rfl, hmr, hmb, _, hmm⟩ := hm
  have hml : ms.length ≤ 9223372036854775807 := by unfold maxLen at hmm; omega
  have HMR := hide hmr
  clear hmr hmm
  obtain ⟨c0, c1, _, _⟩ := BG.box.two
  obtain ⟨k0, k1, _, _⟩ := BG.boy.two
  rw [BG.eq] at c0 c1 k0 k1
  go_enter Tryz.func93, Tryz.ntmps93
  go_wp2_with fail
  rw [← BG.eq]
  clear c0 c1 k0 k1
  refine HCK.out.mono ?_
  rintro x w1 ⟨iv9, jv9, rfl, hSI, hSJ, hb1⟩
  obtain ⟨ia, il, ic, rfl⟩ := hSI.sl.isSlice
  obtain ⟨ja, jl, jc, rfl⟩ := hSJ.sl.isSlice
  obtain ⟨w2, hw2⟩ : ∃ w2, w2 = (w1.alloc (.cells #[.int .i64 n, .slice va vl vc, .int .i64 e, .slice ia il ic, .int .i64 m, .slice ya yl yc, .int .i64 d, .slice ja jl jc] 72)).alloc (.cells #[.int .i64 0, .int .i64 0] 28) := ⟨_, rfl⟩
  have hb12 : Below w1.heap.size w1 w2 := by rw [hw2]; exact (balloc w1 _).alloc (by simp) _
  have hB1 : Below w0.heap.size w0 w2 := bcat2 hb1 hb12
  have hF2 : Blk w2 (w1.heap.size + 1) 28 [.int .i64 0, .int .i64 0] := by
    rw [hw2]
    have := blk0 (w := w1.alloc (.cells #[.int .i64 n, .slice va vl vc, .int .i64 e, .slice ia il ic, .int .i64 m, .slice ya yl yc, .int .i64 d, .slice ja jl jc] 72)) (T := 28) (.int .i64 0) (.int .i64 0)
    rwa [World.size_alloc] at this
  have hH2 : Blk w2 w1.heap.size 72 [.int .i64 n, .slice va vl vc, .int .i64 e, .slice ia il ic, .int .i64 m, .slice ya yl yc, .int .i64 d, .slice ja jl jc] := by
    rw [hw2]
    have h : Blk (w1.alloc (.cells #[.int .i64 n, .slice va vl vc, .int .i64 e, .slice ia il ic, .int .i64 m, .slice ya yl yc, .int .i64 d, .slice ja jl jc] 72)) w1.heap.size 72 [.int .i64 n, .slice va vl vc, .int .i64 e, .slice ia il ic, .int .i64 m, .slice ya yl yc, .int .i64 d, .slice ja jl jc] := World.alloc_heap_new _ _
    exact h.alloc _
  have hBw2 := bcat BG.bel hB1 BG.bel.size
  have hR2 := blk_below BG.res hB1
  have hP2 := blk_below BG.par hB1
  have hX2 := blk_below BG.box hB1
  have hSI2 := hSI.below hb12
  have hSJ2 := hSJ.below hb12
  have hPl := hP2.lt
  have hw1s := hb1.size
  rw [BG.siz] at hw1s
  have HIS := hide (And.intro hSI2 hSJ2)
  have HBS := hide (And.intro BG.siz BG.bel.size)
  obtain ⟨t0, t1, _, _⟩ := hF2.two
  obtain ⟨c0, c1, _, _⟩ := hX2.two
  clear hSI hSJ hSI2 hSJ2
  by_cases hl : ms.length = n
  · have hli : (ms.length : Int) = (n : Int) := by omega
    have G3 := hide (fun k hk h1 h2 => H3.out hl k hk h1 h2)
    have G7 := hide (fun hr k hk h1 h2 => H7.out hl hr k hk h1 h2)
    have G0 := hide (fun hr h1 => H0.out hl hr h1)
    have GST := hide (fun W a (u t : Value) (h : Below w.heap.size w W) (hr : ∀ i, i < n → 0 ≤ ms[i]?.getD 0 ∧ ms[i]?.getD 0 < m) (ha : a < n) => HST.out W a u t h hl hr ha)
    clear H3 H7 H0 H8 HST
    have HMA := hide (fun (h : 0 < n) => HMR.out.at_ (by omega))
    have HMC := hide (fun i (h : i < n) => HMR.out.cell i (by omega))
    rw [hl] at *
    clear hl hli
    rw [hw2] at t0 t1 c0 c1
    go_wp2
    rw [← hw2]
    clear hw2 t0 t1 c0 c1
    go_loopw [33] (fun i wr => ∃ k : Nat, k ≤ n ∧ i = .int .i64 k ∧ (∀ t, t < k → rng m ms t = true) ∧ Below w2.heap.size w2 wr) (fun i _ => n - (intOf i).toNat)
    case atStart => exact ⟨0, Nat.zero_le _, rfl, fun t ht => by omega, Below.refl _ _⟩
    case round =>
      obtain ⟨k, hk, rfl, hall, hB⟩ := hrel
      have HALL := hide hall
      clear hall
      have hBw := bcat2 hBw2 hB
      by_cases hlt : k < n
      · have hki : (k : Int) < (n : Int) := by omega
        obtain rfl := HMA.out (by omega)
        have ck := below_cell hBw (HMC.out k hlt)
        obtain ⟨_, h0, h1, h2, h3, h4, h5, h6, h7⟩ := Eight.mk' (blk_below hH2 hB)
        obtain ⟨r, hr⟩ : ∃ r, rng m ms k = r := ⟨_, rfl⟩
        have HGH := hide (fun W => ghas_ok m (.slice ya yl yc) (.slice ja jl jc) d (ms[k]?.getD 0) W)
        have hrd : decide (0 ≤ ms[k]?.getD 0 ∧ ms[k]?.getD 0 < (m : Int)) = r := hr
        rw [hrd] at HGH
        have HR := hide hr
        clear hr hrd
        generalize ms[k]?.getD 0 = x9 at *
        go_wp2_with fail
        refine (HGH.out _).mono ?_
        rintro x w4 ⟨rfl, hb4⟩
        have hB4 := bcat2 hB hb4
        have hBw4 := bcat2 hBw2 hB4
        clear h0 h1 h2 h3 h4 h5 h6 h7
        cases r with
        | true =>
          have HN := hide (fun t (ht : t < k + 1) => show rng m ms t = true by
            by_cases e9 : t = k
            · subst e9; exact HR.out
            · exact HALL.out t (by omega))
          go_wp2
          go_roundw
          case rel => exact ⟨k + 1, by omega, by go_num, HN.out, hB4⟩
          case measure => simp [intOf]; omega
        | false =>
          have HC := hide (show hf.1 = 3 ∧ hf.2 = (k : Int) by rw [G3.out k hlt HALL.out HR.out]; exact ⟨rfl, rfl⟩)
          have hR4 := blk_below hR2 hB4
          have hP4 := blk_below hP2 hB4
          clear G0 G3 G7 GST HIS HBS
          obtain ⟨y0, y1, fy0, fy1⟩ := hR4.two
          obtain ⟨hR6, hB6⟩ := put2 hR4 hBw4 (by omega) 3 (k : Int)
          have hP6 := (hP4.other (p := ⟨w.heap.size + 1 + 1 + 1, 0, none⟩) (by simp) (.int .i64 3)).other (p := ⟨w.heap.size + 1 + 1 + 1, 1, none⟩) (by simp) (.int .i64 (k : Int))
          obtain ⟨_, p0, p1, p2, p3, p4, p5, p6, p7⟩ := Eight.mk' hP4
          obtain ⟨q0, q1, q2, q3, q4, q5, q6, q7⟩ := Eight.fr hP4
          obtain ⟨o0, o1, o2, o3, o4, o5, o6, o7⟩ := Eight.se hP4
          obtain ⟨_, m0, m1, m2, m3, m4, m5, m6, m7⟩ := Eight.mk' hP6
          obtain ⟨z0, z1, _, _⟩ := hR6.two
          go_wp2
          exact bodyPost_ret (v := .tuple #[.agg #[.int .i64 0, .slice none 0 0, .int .i64 0, .slice none 0 0, .int .i64 0, .slice none 0 0, .int .i64 0, .slice none 0 0], .agg #[.int .i64 3, .int .i64 (k : Int)]]) (by simp [results, Tryz.results93, go_sem, z0, z1, m0, m1, m2, m3, m4, m5, m6, m7]) rfl ⟨_, by rw [HC.out.1, HC.out.2], fun h => absurd (HC.out.1.symm.trans h) (by decide), fun _ => rfl, hB6⟩
      · have hki : ¬ (k : Int) < (n : Int) := by omega
        have HRA := hide (fun t (ht : t < n) => HALL.out t (by omega))
        have HRB := hide (fun i (hi : i < n) => show 0 ≤ ms[i]?.getD 0 ∧ ms[i]?.getD 0 < (m : Int) from of_decide_eq_true (HRA.out i hi))
        clear HALL hlt
        obtain ⟨wo, rfl⟩ : ∃ wo, wo = wr := ⟨_, rfl⟩
        go_wp2
        go_loopw [49] (fun i wr => ∃ a : Nat, a ≤ n ∧ i = .int .i64 a ∧ (∀ t, t < a → stq n zs m ys ms t = false) ∧ Below w2.heap.size w2 wr) (fun i _ => n - (intOf i).toNat)
        case atStart => exact ⟨0, Nat.zero_le _, rfl, fun t ht => by omega, hB⟩
        case round =>
          clear hB hBw
          obtain ⟨a, ha, rfl, hall, hB⟩ := hrel
          have HALL := hide hall
          clear hall
          have hBw := bcat2 hBw2 hB
          by_cases hlt : a < n
          · have hai : (a : Int) < (n : Int) := by omega
            have HSA := hide (fun W (h : Below w.heap.size w W) => GST.out W a (.slice ia il ic) (.slice ja jl jc) h HRB.out hlt)
            obtain ⟨r, hr⟩ : ∃ r, stq n zs m ys ms a = r := ⟨_, rfl⟩
            rw [hr] at HSA
            have HR := hide hr
            clear hr
            obtain ⟨_, h0, h1, h2, h3, h4, h5, h6, h7⟩ := Eight.mk' (blk_below hH2 hB)
            go_wp2_with fail
            refine (HSA.out _ hBw).mono ?_
            rintro x w4 ⟨rfl, hb4⟩
            have hB4 := bcat2 hB hb4
            have hBw4 := bcat2 hBw2 hB4
            clear h0 h1 h2 h3 h4 h5 h6 h7
            cases r with
            | false =>
              have HN := hide (fun t (ht : t < a + 1) => show stq n zs m ys ms t = false by
                by_cases e9 : t = a
                · subst e9; exact HR.out
                · exact HALL.out t (by omega))
              go_wp2
              go_roundw
              case rel => exact ⟨a + 1, by omega, by go_num, HN.out, hB4⟩
              case measure => simp [intOf]; omega
            | true =>
              have HC := hide (show hf.1 = 7 ∧ hf.2 = (a : Int) by rw [G7.out HRA.out a hlt HALL.out HR.out]; exact ⟨rfl, rfl⟩)
              have hR4 := blk_below hR2 hB4
              have hP4 := blk_below hP2 hB4
              clear G0 G3 G7 GST HIS HBS
              obtain ⟨y0, y1, fy0, fy1⟩ := hR4.two
              obtain ⟨hR6, hB6⟩ := put2 hR4 hBw4 (by omega) 7 (a : Int)
              have hP6 := (hP4.other (p := ⟨w.heap.size + 1 + 1 + 1, 0, none⟩) (by simp) (.int .i64 7)).other (p := ⟨w.heap.size + 1 + 1 + 1, 1, none⟩) (by simp) (.int .i64 (a : Int))
              obtain ⟨_, p0, p1, p2, p3, p4, p5, p6, p7⟩ := Eight.mk' hP4
              obtain ⟨q0, q1, q2, q3, q4, q5, q6, q7⟩ := Eight.fr hP4
              obtain ⟨o0, o1, o2, o3, o4, o5, o6, o7⟩ := Eight.se hP4
              obtain ⟨_, m0, m1, m2, m3, m4, m5, m6, m7⟩ := Eight.mk' hP6
              obtain ⟨z0, z1, _, _⟩ := hR6.two
              go_wp2
              exact bodyPost_ret (v := .tuple #[.agg #[.int .i64 0, .slice none 0 0, .int .i64 0, .slice none 0 0, .int .i64 0, .slice none 0 0, .int .i64 0, .slice none 0 0], .agg #[.int .i64 7, .int .i64 (a : Int)]]) (by simp [results, Tryz.results93, go_sem, z0, z1, m0, m1, m2, m3, m4, m5, m6, m7]) rfl ⟨_, by rw [HC.out.1, HC.out.2], fun h => absurd (HC.out.1.symm.trans h) (by decide), fun _ => rfl, hB6⟩
          · have hai : ¬ (a : Int) < (n : Int) := by omega
            have HC := hide (show hf.1 = 0 ∧ hf.2 = 0 by rw [G0.out HRA.out (fun t ht => HALL.out t (by omega))]; exact ⟨rfl, rfl⟩)
            have hR4 := blk_below hR2 hB
            have hP4 := blk_below hP2 hB
            have hH4 := blk_below hH2 hB
            obtain ⟨hS4, hT4⟩ := HIS.out
            have hS4 := hS4.below hB
            have hT4 := hT4.below hB
            obtain ⟨_, h0, h1, h2, h3, h4, h5, h6, h7⟩ := Eight.mk' hH4
            obtain ⟨_, p0, p1, p2, p3, p4, p5, p6, p7⟩ := Eight.mk' hP4
            obtain ⟨q0, q1, q2, q3, q4, q5, q6, q7⟩ := Eight.fr hP4
            obtain ⟨y0, y1, fy0, fy1⟩ := hR4.two
            obtain ⟨hP5, hB5⟩ := eight_set hP4 hBw (by omega) (.int .i64 n) (.slice va vl vc) (.int .i64 e) (.slice ia il ic) (.int .i64 m) (.slice ya yl yc) (.int .i64 d) (.slice ja jl jc)
            have hfar : ∀ g, g ≠ w.heap.size + 1 + 1 → _ := fun g (hg9 : g ≠ w.heap.size + 1 + 1) => eight_far (W := wr) (b := w.heap.size + 1 + 1) (.int .i64 n) (.slice va vl vc) (.int .i64 e) (.slice ia il ic) (.int .i64 m) (.slice ya yl yc) (.int .i64 d) (.slice ja jl jc) (g := g) hg9
            have hR5 := hR4.of_eq (hfar _ (by omega))
            obtain ⟨o0, o1⟩ := hR5.self
            obtain ⟨_, m0, m1, m2, m3, m4, m5, m6, m7⟩ := Eight.mk' hP5
            obtain ⟨z0, z1, _, _⟩ := hR5.two
            have hbs := HBS.out
            have hS5 := (hS4.keep (fun g h1 _ => hfar g (by omega)) (by rw [eight_size]; exact Nat.le_refl _)).mono hbs.2
            have hT5 := (hT4.keep (fun g h1 _ => hfar g (by omega)) (by rw [eight_size]; exact Nat.le_refl _)).mono hbs.2
            clear hfar G0 G3 G7 GST hbs
            go_wp2
            exact bodyPost_ret (v := .tuple #[.agg #[.int .i64 n, .slice va vl vc, .int .i64 e, .slice ia il ic, .int .i64 m, .slice ya yl yc, .int .i64 d, .slice ja jl jc], .agg #[.int .i64 0, .int .i64 0]]) (by simp [results, Tryz.results93, go_sem, z0, z1, m0, m1, m2, m3, m4, m5, m6, m7]) rfl ⟨_, by rw [HC.out.1, HC.out.2], fun _ => ⟨_, _, rfl, hS5, hT5⟩, fun h => absurd HC.out.1 h, hB5⟩
  · have hli : ¬ (ms.length : Int) = (n : Int) := by omega
    have HC := hide (show hf.1 = 8 ∧ hf.2 = 0 by rw [H8.out hl]; exact ⟨rfl, rfl⟩)
    clear H0 H3 H7 H8 HST
    subst hw2
    obtain ⟨y0, y1, fy0, fy1⟩ := hR2.two
    obtain ⟨hR6, hB6⟩ := put2 hR2 hBw2 (by omega) 8 0
    have hP6 := (hP2.other (p := ⟨w.heap.size + 1 + 1 + 1, 0, none⟩) (by simp) (.int .i64 8)).other (p := ⟨w.heap.size + 1 + 1 + 1, 1, none⟩) (by simp) (.int .i64 0)
    obtain ⟨_, p0, p1, p2, p3, p4, p5, p6, p7⟩ := Eight.mk' hP2
    obtain ⟨q0, q1, q2, q3, q4, q5, q6, q7⟩ := Eight.fr hP2
    obtain ⟨o0, o1, o2, o3, o4, o5, o6, o7⟩ := Eight.se hP2
    obtain ⟨_, m0, m1, m2, m3, m4, m5, m6, m7⟩ := Eight.mk' hP6
    obtain ⟨z0, z1, _, _⟩ := hR6.two
    go_wp2
    exact bodyPost_ret (v := .tuple #[.agg #[.int .i64 0, .slice none 0 0, .int .i64 0, .slice none 0 0, .int .i64 0, .slice none 0 0, .int .i64 0, .slice none 0 0], .agg #[.int .i64 8, .int .i64 0]]) (by simp [results, Tryz.results93, go_sem, z0, z1, m0, m1, m2, m3, m4, m5, m6, m7]) rfl ⟨_, by rw [HC.out.1, HC.out.2], fun h => absurd (HC.out.1.symm.trans h) (by decide), fun _ => rfl, hB6⟩
end Go.Proofs.YtgdpgbldjpeopaaGreatDoor

namespace Go.Proofs.YtgdpgbldjpeopaaGreatDoor
open Go Go.RowKit

theorem ow_all (N M : Int) (v y mv : Value) (zs ys ms : List Int) (w : World) (hv : Sl w v zs) (hy : Sl w y ys) (hm : Sl w mv ms) :
    Calls Tryz.prog 93 #[.agg #[.int .i64 N, v], .agg #[.int .i64 M, y], mv] w fun x w' => ∃ p0 a0 b0 c0 p1 a1 b1 c1 p2 a2 b2 c2 p3 a3 b3 c3, x = .returned (.tuple #[.agg #[.int .i64 p0, .slice a0 b0 c0, .int .i64 p1, .slice a1 b1 c1, .int .i64 p2, .slice a2 b2 c2, .int .i64 p3, .slice a3 b3 c3], .agg #[.int .i64 (hfault N zs M ys ms).1, .int .i64 (hfault N zs M ys ms).2]]) ∧ Below w.heap.size w w' := by
  by_cases h1 : (gfault N zs).1 = 0
  · obtain ⟨n, e, rfl, hg, _⟩ := gfault_grp h1
    by_cases h2 : (gfault M ys).1 = 0
    · obtain ⟨m, d, rfl, hh, _⟩ := gfault_grp h2
      refine (ow_any n e m d v y mv zs ys ms w hv hg hy hh hm).mono ?_
      rintro x w' ⟨P, rfl, hA, hB, hb⟩
      by_cases h3 : (hfault n zs m ys ms).1 = 0
      · obtain ⟨u, t, rfl, hu, ht⟩ := hA h3
        obtain ⟨v1, v2, v3, rfl⟩ := hv.isSlice
        obtain ⟨y1, y2, y3, rfl⟩ := hy.isSlice
        obtain ⟨u1, u2, u3, rfl⟩ := hu.sl.isSlice
        obtain ⟨t1, t2, t3, rfl⟩ := ht.sl.isSlice
        exact ⟨_, _, _, _, _, _, _, _, _, _, _, _, _, _, _, _, rfl, hb⟩
      · obtain rfl := hB h3
        exact ⟨_, _, _, _, _, _, _, _, _, _, _, _, _, _, _, _, rfl, hb⟩
    · rw [hfault_2 hg h2]
      refine (ow_bad n M _ _ v y mv w h2 (hide fun W h => pair_bad2 n e M v y zs ys W (hv.below h) hg (hy.below h) h2)).mono ?_
      rintro x w' ⟨rfl, hb⟩
      exact ⟨_, _, _, _, _, _, _, _, _, _, _, _, _, _, _, _, rfl, hb⟩
  · rw [hfault_1 h1]
    refine (ow_bad N M _ _ v y mv w h1 (hide fun W h => pair_bad1 N M v y zs W (hv.below h) h1)).mono ?_
    rintro x w' ⟨rfl, hb⟩
    exact ⟨_, _, _, _, _, _, _, _, _, _, _, _, _, _, _, _, rfl, hb⟩
/-- What lies where a function begins that takes two tables and answers a fault. -/
structure BegF (w w0 : World) (N M : Int) (v y : Value) : Prop where
  eq : w0 = ((w.alloc (.cells #[.int .i64 N, v] 24)).alloc (.cells #[.int .i64 M, y] 24)).alloc (.cells #[.int .i64 0, .int .i64 0] 28)
  bel : Below w.heap.size w w0
  box : BoxG w0 w.heap.size N v
  boy : BoxG w0 (w.heap.size + 1) M y
  res : Blk w0 (w.heap.size + 1 + 1) 28 [.int .i64 0, .int .i64 0]
  siz : w0.heap.size = w.heap.size + 1 + 1 + 1
theorem BegF.new (w : World) (N M : Int) (v y : Value) : ∃ w0, BegF w w0 N M v y := by
  refine ⟨_, rfl, ((balloc w _).alloc (by simp) _).alloc (by simp; omega) _, ((blk0 (w := w) (T := 24) _ _).alloc _).alloc _, ?_, ?_, by simp⟩
  · have h := (blk0 (w := w.alloc (.cells #[.int .i64 N, v] 24)) (T := 24) (.int .i64 M) y).alloc (.cells #[.int .i64 0, .int .i64 0] 28)
    rw [World.size_alloc] at h
    exact h
  · have h := blk0 (w := (w.alloc (.cells #[.int .i64 N, v] 24)).alloc (.cells #[.int .i64 M, y] 24)) (T := 28) (.int .i64 0) (.int .i64 0)
    rw [World.size_alloc, World.size_alloc] at h
    exact h
set_option maxRecDepth 100000 in
set_option maxHeartbeats 4000000 in
theorem image_good (n m : Nat) (v y mv : Value) (zs ys : List Int) (xs : List Nat) (w : World) (hv : Sl w v zs) (hy : Sl w y ys) (hm : Sl w mv (li xs)) (hT : Tab w) (hm6 : m ≤ 60) (hx : ∀ x, x ∈ xs → x < m) (hxl : xs.length ≤ 60) (hc : hfault n zs m ys (li xs) = (0, 0)) :
    Calls Tryz.prog 80 #[.agg #[.int .i64 n, v], .agg #[.int .i64 m, y], mv] w fun x w' => ∃ r1 r2 r3, x = .returned (.tuple #[.slice r1 r2 r3, .agg #[.int .i64 0, .int .i64 0]]) ∧ Sl w' (.slice r1 r2 r3) (li (lst m (fun a => decide (a ∈ xs)))) ∧ Below w.heap.size w w' := by
  obtain ⟨w0, BG⟩ := BegF.new w n m v y
  have HCK := hide (ow_all n m v y mv zs ys (li xs) w0 (hv.below BG.bel) (hy.below BG.bel) (hm.below BG.bel))
  rw [hc] at HCK
  simp only at HCK
  obtain ⟨e0, e1, _, _⟩ := BG.box.two
  obtain ⟨k0, k1, _, _⟩ := BG.boy.two
  rw [BG.eq] at e0 e1 k0 k1
  go_enter Tryz.func80, Tryz.ntmps80
  go_wp2_with fail
  rw [← BG.eq]
  clear e0 e1 k0 k1
  refine HCK.out.mono ?_
  rintro x w1 ⟨p0, a0, b0, c0, p1, a1, b1, c1, p2, a2, b2, c2, p3, a3, b3, c3, rfl, hb1⟩
  obtain ⟨w2, hw2⟩ : ∃ w2, w2 = (w1.alloc (.cells #[.int .i64 p0, .slice a0 b0 c0, .int .i64 p1, .slice a1 b1 c1, .int .i64 p2, .slice a2 b2 c2, .int .i64 p3, .slice a3 b3 c3] 72)).alloc (.cells #[.int .i64 0, .int .i64 0] 28) := ⟨_, rfl⟩
  have hB1 : Below w0.heap.size w0 w2 := by rw [hw2]; exact bcat2 hb1 ((balloc w1 _).alloc (by simp) _)
  have hF1 : Blk w2 (w1.heap.size + 1) 28 [.int .i64 0, .int .i64 0] := by
    rw [hw2]
    have := blk0 (w := w1.alloc (.cells #[.int .i64 p0, .slice a0 b0 c0, .int .i64 p1, .slice a1 b1 c1, .int .i64 p2, .slice a2 b2 c2, .int .i64 p3, .slice a3 b3 c3] 72)) (T := 28) (.int .i64 0) (.int .i64 0)
    rwa [World.size_alloc] at this
  have hR1 := blk_below BG.res hB1
  have hBw := bcat BG.bel hB1 BG.bel.size
  obtain ⟨t0, t1, _, _⟩ := hF1.two
  rw [hw2] at t0 t1
  go_wp2_with fail
  rw [← hw2]
  clear hw2 t0 t1
  refine (of_ok m mv xs w2 hm6 hxl (hm.below hBw) hx).mono ?_
  rintro x w3 ⟨rfl, rfl⟩
  go_wp2_with fail
  refine (list_ok m _ w3 hm6 (hT.below hBw)).mono ?_
  rintro x w4 ⟨r, rfl, hr, hb4⟩
  have hrs := hr.sl
  obtain ⟨r1, r2, r3, rfl⟩ := hrs.isSlice
  have hR4 := blk_below hR1 hb4
  have hB4 := bcat2 hBw hb4
  obtain ⟨y0, y1, fy0, fy1⟩ := hR4.two
  obtain ⟨s0, s1⟩ := hR4.self
  go_wp2
  exact bodyPost_ret (v := .tuple #[.slice r1 r2 r3, .agg #[.int .i64 0, .int .i64 0]]) (by simp [results, Tryz.results80, go_sem, y0, y1]) rfl ⟨_, _, _, rfl, hrs, hB4⟩
end Go.Proofs.YtgdpgbldjpeopaaGreatDoor

namespace Go.Proofs.YtgdpgbldjpeopaaGreatDoor
open Go Go.RowKit

/-- A map of things that keeps products. -/
structure IsHom (n : Nat) (zs : List Int) (m : Nat) (ys : List Int) (φ : Nat → Nat) : Prop where
  lt : ∀ a, a < n → φ a < m
  mul : ∀ a b, a < n → b < n → φ (tm n zs a b) = tm m ys (φ a) (φ b)
theorem hom_of {n e m d : Nat} {zs ys ms : List Int} (g : IsGrp n zs e) (h : IsGrp m ys d) (hc : (hfault n zs m ys ms).1 = 0) : hfault n zs m ys ms = (0, 0) ∧ ms.length = n ∧ ∃ φ : Nat → Nat, IsHom n zs m ys φ ∧ ms = li ((List.range n).map φ) := by
  by_cases hl : ms.length = n
  · by_cases hr : ∀ t, t < n → rng m ms t = true
    · by_cases hs : ∀ t, t < n → stq n zs m ys ms t = false
      · have h1 : ∀ t, t < n → 0 ≤ ms[t]?.getD 0 ∧ ms[t]?.getD 0 < (m : Int) := fun t ht => of_decide_eq_true (hr t ht)
        refine ⟨hfault_0 g h hl hr hs, hl, fun a => (ms[a]?.getD 0).toNat, ⟨fun a ha => ?_, fun a b ha hb => ?_⟩, ?_⟩
        · have := h1 a ha
          show (ms[a]?.getD 0).toNat < m
          omega
        · have := stq_no.1 (hs a ha) b hb
          show (ms[tm n zs a b]?.getD 0).toNat = _
          rw [this, Int.toNat_natCast]
        · unfold li
          rw [List.map_map]
          apply List.ext_getElem
          · simp [hl]
          · intro i h2 h3
            have h4 := h1 i (by omega)
            rw [List.getElem?_eq_getElem h2, Option.getD_some] at h4
            simp [h2]
            omega
      · exfalso
        rcases least_cases n (stq n zs m ys ms) with ⟨k, hk, hp, hlt, _⟩ | ⟨hno, _⟩
        · rw [hfault_7 g h hl hr hk hlt hp] at hc
          exact absurd hc (by simp)
        · exact hs hno
    · exfalso
      rcases least_cases n (fun i => !rng m ms i) with ⟨k, hk, hp, hlt, _⟩ | ⟨hno, _⟩
      · rw [hfault_3 g h hl hk (fun t ht => by simpa using hlt t ht) (by simpa using hp)] at hc
        exact absurd hc (by simp)
      · exact hr (fun t ht => by simpa using hno t ht)
  · rw [hfault_8 g h hl] at hc
    exact absurd hc (by decide)
theorem of_hom {n e m d : Nat} {zs ys ms : List Int} {φ : Nat → Nat} (g : IsGrp n zs e) (h : IsGrp m ys d) (H : IsHom n zs m ys φ) (hl : ms.length = n) (hm : ∀ a, a < n → ms[a]?.getD 0 = (φ a : Int)) : hfault n zs m ys ms = (0, 0) := by
  refine hfault_0 g h hl (fun t ht => ?_) (fun t ht => ?_)
  · unfold rng
    rw [hm t ht]
    have := H.lt t ht
    exact decide_eq_true ⟨by omega, by omega⟩
  · refine stq_no.2 fun b hb => ?_
    rw [hm _ (tm_lt g.tab ht hb), hm t ht, hm b hb, H.mul t b ht hb, Int.toNat_natCast, Int.toNat_natCast]
theorem IsHom.one {n e m d : Nat} {zs ys : List Int} {φ : Nat → Nat} (g : IsGrp n zs e) (h : IsGrp m ys d) (H : IsHom n zs m ys φ) : φ e = d := by
  have h1 := H.mul e e g.elt g.elt
  rw [g.left e g.elt] at h1
  have hl := H.lt e g.elt
  exact grp_cancel h hl hl h.elt (by rw [← h1, h.right _ hl])
/-- Where what stands for things commutes, commutators go to the one, and cosets of what they make go to one thing. -/
theorem hom_cos {n e m d : Nat} {zs ys : List Int} {φ : Nat → Nat} {p : Nat → Bool} (g : IsGrp n zs e) (h : IsGrp m ys d) (H : IsHom n zs m ys φ) (hc : ∀ a b, a < n → b < n → tm m ys (φ a) (φ b) = tm m ys (φ b) (φ a))
    (hp : ∀ a, a < n → (p a = true ↔ Mkd n zs e (cmq n zs e (List.range n) (List.range n)) a)) {a b : Nat} (ha : a < n) (hb : b < n) (hn : num n (rgtq n zs (lst n (pset (li (lst n p))))) a = num n (rgtq n zs (lst n (pset (li (lst n p))))) b) : φ a = φ b := by
  have hs := der_sub g hp
  have PP := rgt_parts g hs
  have h1 := (prts_num_eq PP ha hb).1 hn
  obtain ⟨x, hx, rfl⟩ := mem_rgt.1 h1
  rw [lst_pset, mem_lst] at hx
  obtain ⟨hxn, hxp⟩ := hx
  have hx1 : φ x = d := by
    have hg := (cms_iff x).1 ((hp x hxn).1 hxp)
    have := Fin.Gen.least (P := fun y => y < n ∧ φ y = d) ⟨⟨g.elt, H.one g h⟩, fun y z _ _ h2 h3 => ⟨tm_lt g.tab h2.1 h3.1, by rw [H.mul y z h2.1 h3.1, h2.2, h3.2, h.left d h.elt]⟩⟩ (fun y hy ⟨i, j, hi, hj, he⟩ => by
      have hi := List.mem_range.1 hi
      have hj := List.mem_range.1 hj
      have hy := List.mem_range.1 hy
      refine ⟨hy, ?_⟩
      have h4 := Fin.cm_eq (grp_fg g) (grp_iv g) (List.mem_range.2 hi) (List.mem_range.2 hj)
      rw [he] at h4
      have h5 := congrArg φ h4
      rw [H.mul _ _ (tm_lt g.tab hj hi) hy, H.mul j i hj hi, H.mul i j hi hj, hc i j hi hj] at h5
      have hl := tm_lt h.tab (H.lt j hj) (H.lt i hi)
      exact grp_cancel h hl (H.lt y hy) h.elt (by rw [h5, h.right _ hl])) hg
    exact this.2
  rw [H.mul x a hxn ha, hx1, h.left _ (H.lt a ha)]
end Go.Proofs.YtgdpgbldjpeopaaGreatDoor

namespace Go.Proofs.YtgdpgbldjpeopaaGreatDoor
open Go Go.RowKit

/-- What is wrong with two tables. -/
def twofault (N : Int) (zs : List Int) (M : Int) (ys : List Int) : Int × Int := if (gfault N zs).1 ≠ 0 then gfault N zs else gfault M ys
namespace Go.Proofs.YtgdpgbldjpeopaaGreatDoor
open Go Go.RowKit

namespace Go.Proofs.YtgdpgbldjpeopaaGreatDoor
open Go Go.RowKit

theorem hf_grp {N M : Int} {zs ys ms : List Int} (h : (hfault N zs M ys ms).1 = 0) : ∃ n e m d : Nat, N = n ∧ M = m ∧ IsGrp n zs e ∧ IsGrp m ys d := by
  by_cases h1 : (gfault N zs).1 = 0
  · obtain ⟨n, e, rfl, hg, _⟩ := gfault_grp h1
    by_cases h2 : (gfault M ys).1 = 0
    · obtain ⟨m, d, rfl, hh, _⟩ := gfault_grp h2
      exact ⟨n, e, m, d, rfl, rfl, hg, hh⟩
    · rw [hfault_2 hg h2] at h
      exact absurd h h2
  · rw [hfault_1 h1] at h
    exact absurd h h1
end Go.Proofs.YtgdpgbldjpeopaaGreatDoor
