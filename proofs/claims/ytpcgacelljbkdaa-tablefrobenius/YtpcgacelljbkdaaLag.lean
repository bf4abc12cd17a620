/- Powers of a thing, as numbers; Lagrange: orders divide how many things there are. No condition. -/
import Derived.Test.YtpcgacelljbkdaaOrd
namespace Go.Proofs.Ytpcgacelljbkdaa

/-- a, k times. -/
def pw (n : Nat) (zs : List Int) (e a : Nat) : Nat → Nat
  | 0 => e
  | k + 1 => tm n zs (pw n zs e a k) a
theorem pw_lt {n e : Nat} {zs : List Int} (h : IsGrp n zs e) {a : Nat} (ha : a < n) : ∀ k, pw n zs e a k < n
  | 0 => h.elt
  | k + 1 => tm_lt h.tab (pw_lt h ha k) ha
theorem pw_pr {n e : Nat} {zs : List Int} (h : IsGrp n zs e) {a : Nat} (ha : a < n) : ∀ k, pw n zs e a (k + 1) = pr n zs a k
  | 0 => h.left a ha
  | k + 1 => by
    show tm n zs (pw n zs e a (k + 1)) a = tm n zs (pr n zs a k) a
    rw [pw_pr h ha k]
theorem pw_add {n e : Nat} {zs : List Int} (h : IsGrp n zs e) {a : Nat} (ha : a < n) (i : Nat) : ∀ j, pw n zs e a (i + j) = tm n zs (pw n zs e a i) (pw n zs e a j)
  | 0 => (h.right _ (pw_lt h ha i)).symm
  | j + 1 => by
    show tm n zs (pw n zs e a (i + j)) a = tm n zs (pw n zs e a i) (tm n zs (pw n zs e a j) a)
    rw [pw_add h ha i j, h.ass _ _ _ (pw_lt h ha i) (pw_lt h ha j) ha]
theorem pw_one {n e : Nat} {zs : List Int} (h : IsGrp n zs e) : ∀ k, pw n zs e e k = e
  | 0 => rfl
  | k + 1 => by
    show tm n zs (pw n zs e e k) e = e
    rw [pw_one h k, h.left e h.elt]
theorem pw_mul {n e : Nat} {zs : List Int} (h : IsGrp n zs e) {a : Nat} (ha : a < n) (i : Nat) : ∀ j, pw n zs e (pw n zs e a i) j = pw n zs e a (i * j)
  | 0 => rfl
  | j + 1 => by
    show tm n zs (pw n zs e (pw n zs e a i) j) (pw n zs e a i) = pw n zs e a (i * j + i)
    rw [pw_mul h ha i j, pw_add h ha (i * j) i]
theorem ord_pos {n e : Nat} {zs : List Int} (a : Nat) : 0 < ordN n zs e a := by unfold ordN; omega
theorem ord_le {n e : Nat} {zs : List Int} (h : IsGrp n zs e) {a : Nat} (ha : a < n) : ordN n zs e a ≤ n := by
  obtain ⟨k, hk, ho, _, _⟩ := ordN_spec h ha
  omega
theorem pw_ord {n e : Nat} {zs : List Int} (h : IsGrp n zs e) {a : Nat} (ha : a < n) : pw n zs e a (ordN n zs e a) = e := by
  obtain ⟨k, _, ho, hp, _⟩ := ordN_spec h ha
  rw [ho, pw_pr h ha, hp]
theorem pw_ord_mul {n e : Nat} {zs : List Int} (h : IsGrp n zs e) {a : Nat} (ha : a < n) (q : Nat) : pw n zs e a (ordN n zs e a * q) = e := by
  rw [← pw_mul h ha, pw_ord h ha, pw_one h]
theorem pw_mod {n e : Nat} {zs : List Int} (h : IsGrp n zs e) {a : Nat} (ha : a < n) (k : Nat) : pw n zs e a (k % ordN n zs e a) = pw n zs e a k := by
  have h1 := Nat.div_add_mod k (ordN n zs e a)
  have h2 : pw n zs e a (ordN n zs e a * (k / ordN n zs e a) + k % ordN n zs e a) = pw n zs e a (k % ordN n zs e a) := by
    rw [pw_add h ha, pw_ord_mul h ha, h.left _ (pw_lt h ha _)]
  rw [h1] at h2
  exact h2.symm
theorem pw_min {n e : Nat} {zs : List Int} (h : IsGrp n zs e) {a : Nat} (ha : a < n) {k : Nat} (hk : k < ordN n zs e a) (hp : pw n zs e a k = e) : k = 0 := by
  cases k with
  | zero => rfl
  | succ k =>
    obtain ⟨k9, _, ho, _, hno⟩ := ordN_spec h ha
    rw [pw_pr h ha] at hp
    exact absurd hp (hno k (by omega))
theorem ord_dvd {n e : Nat} {zs : List Int} (h : IsGrp n zs e) {a : Nat} (ha : a < n) {k : Nat} (hp : pw n zs e a k = e) : ordN n zs e a ∣ k := by
  have h1 := pw_min h ha (Nat.mod_lt k (ord_pos a)) ((pw_mod h ha k).trans hp)
  exact Nat.dvd_of_mod_eq_zero h1
theorem pw_inj {n e : Nat} {zs : List Int} (h : IsGrp n zs e) {a : Nat} (ha : a < n) {i j : Nat} (hi : i < ordN n zs e a) (hj : j < ordN n zs e a) (he : pw n zs e a i = pw n zs e a j) : i = j := by
  rcases Nat.lt_trichotomy i j with hl | hl | hl
  · have h1 := pw_add h ha i (j - i)
    rw [show i + (j - i) = j by omega] at h1
    have h2 := grp_cancel h (pw_lt h ha i) (pw_lt h ha (j - i)) h.elt (h1.symm.trans (he.symm.trans (h.right _ (pw_lt h ha i)).symm))
    have := pw_min h ha (by omega) h2
    omega
  · exact hl
  · have h1 := pw_add h ha j (i - j)
    rw [show j + (i - j) = i by omega] at h1
    have h2 := grp_cancel h (pw_lt h ha j) (pw_lt h ha (i - j)) h.elt (h1.symm.trans (he.trans (h.right _ (pw_lt h ha j)).symm))
    have := pw_min h ha (by omega) h2
    omega

theorem len_split (p : Nat → Bool) : ∀ l : List Nat, l.length = (l.filter p).length + (l.filter (fun y => !p y)).length
  | [] => rfl
  | x :: l => by
    have h := len_split p l
    cases hp : p x <;> simp [hp] <;> omega
/-- Where each value of f is met as often, that number divides all. -/
theorem fibre_dvd (f : Nat → Int) (o : Nat) : ∀ (m : Nat) (l : List Nat), l.length ≤ m → (∀ x, x ∈ l → (l.filter (fun y => decide (f y = f x))).length = o) → o ∣ l.length
  | _, [], _, _ => ⟨0, rfl⟩
  | 0, x :: l, hm, _ => by simp at hm
  | m + 1, x :: l, hm, hf => by
    have h1 := hf x (by simp)
    have hsplit := len_split (fun y => decide (f y = f x)) (x :: l)
    have hlt : 0 < ((x :: l).filter (fun y => decide (f y = f x))).length := List.length_pos_of_mem (a := x) (List.mem_filter.2 ⟨by simp, by simp⟩)
    have h2 := fibre_dvd f o m ((x :: l).filter (fun y => !decide (f y = f x))) (by simp only [List.length_cons] at hm hsplit; omega) (fun y hy => by
      obtain ⟨hy1, hy2⟩ := List.mem_filter.1 hy
      rw [List.filter_filter, ← hf y hy1]
      congr 1
      apply List.filter_congr
      intro z _
      by_cases hz : f z = f y
      · simp only [hz, decide_true, Bool.true_and]
        exact hy2
      · simp [hz])
    rw [hsplit, h1]
    exact Nat.dvd_add (Nat.dvd_refl o) h2
/-- Is y some power of a behind x? -/
def inCoset (n : Nat) (zs : List Int) (e a x y : Nat) : Bool := (List.range (ordN n zs e a)).any fun k => decide (tm n zs x (pw n zs e a k) = y)
theorem inCoset_iff {n e : Nat} {zs : List Int} {a x y : Nat} : inCoset n zs e a x y = true ↔ ∃ k, k < ordN n zs e a ∧ tm n zs x (pw n zs e a k) = y := by
  unfold inCoset
  simp only [List.any_eq_true, List.mem_range, decide_eq_true_eq]
theorem inCoset_any {n e : Nat} {zs : List Int} (h : IsGrp n zs e) {a x y : Nat} (ha : a < n) {k : Nat} (hk : tm n zs x (pw n zs e a k) = y) : inCoset n zs e a x y = true :=
  inCoset_iff.2 ⟨k % ordN n zs e a, Nat.mod_lt _ (ord_pos a), by rw [pw_mod h ha]; exact hk⟩
theorem inCoset_sub {n e : Nat} {zs : List Int} (h : IsGrp n zs e) {a x y z : Nat} (ha : a < n) (hx : x < n) (h1 : inCoset n zs e a x y = true) (h2 : inCoset n zs e a y z = true) : inCoset n zs e a x z = true := by
  obtain ⟨i, _, rfl⟩ := inCoset_iff.1 h1
  obtain ⟨j, _, rfl⟩ := inCoset_iff.1 h2
  exact inCoset_any h ha (k := i + j) (by rw [pw_add h ha, h.ass _ _ _ hx (pw_lt h ha i) (pw_lt h ha j)])
theorem inCoset_symm {n e : Nat} {zs : List Int} (h : IsGrp n zs e) {a x y : Nat} (ha : a < n) (hx : x < n) (h1 : inCoset n zs e a x y = true) : inCoset n zs e a y x = true := by
  obtain ⟨i, hi, rfl⟩ := inCoset_iff.1 h1
  exact inCoset_any h ha (k := ordN n zs e a - i) (by rw [h.ass _ _ _ hx (pw_lt h ha i) (pw_lt h ha _), ← pw_add h ha, show i + (ordN n zs e a - i) = ordN n zs e a by omega, pw_ord h ha, h.right x hx])
theorem inCoset_refl {n e : Nat} {zs : List Int} (h : IsGrp n zs e) {a x : Nat} (ha : a < n) (hx : x < n) : inCoset n zs e a x x = true :=
  inCoset_any h ha (k := 0) (h.right x hx)
/-- The least thing of a coset. -/
def rep (n : Nat) (zs : List Int) (e a x : Nat) : Int := least n (inCoset n zs e a x)
theorem rep_iff {n e : Nat} {zs : List Int} (h : IsGrp n zs e) {a x y : Nat} (ha : a < n) (hx : x < n) (hy : y < n) : rep n zs e a y = rep n zs e a x ↔ inCoset n zs e a x y = true := by
  unfold rep
  constructor
  · intro he
    rcases least_cases n (inCoset n zs e a x) with ⟨k, hk, hp, _, e1⟩ | ⟨hno, _⟩
    · rcases least_cases n (inCoset n zs e a y) with ⟨j, hj, hq, _, e2⟩ | ⟨hno, _⟩
      · rw [e1, e2] at he
        have : j = k := by omega
        subst this
        exact inCoset_sub h ha hx hp (inCoset_symm h ha hy hq)
      · have := hno y hy
        rw [inCoset_refl h ha hy] at this; cases this
    · have := hno x hx
      rw [inCoset_refl h ha hx] at this; cases this
  · intro hxy
    apply least_congr
    intro t ht
    rw [Bool.eq_iff_iff]
    exact ⟨fun hyt => inCoset_sub h ha hx hxy hyt, fun hxt => inCoset_sub h ha hy (inCoset_symm h ha hx hxy) hxt⟩
/-- LAGRANGE, of what one thing makes. -/
theorem lagrange {n e : Nat} {zs : List Int} (h : IsGrp n zs e) {a : Nat} (ha : a < n) : ordN n zs e a ∣ n := by
  have h1 := fibre_dvd (rep n zs e a) (ordN n zs e a) n (List.range n) (by simp) (fun x hx => by
    have hx := List.mem_range.1 hx
    have hn1 : ((List.range n).filter (fun y => decide (rep n zs e a y = rep n zs e a x))).Nodup := List.nodup_range.filter _
    have hn2 : ((List.range (ordN n zs e a)).map (fun k => tm n zs x (pw n zs e a k))).Nodup := map_nodup List.nodup_range (fun i j hi hj he =>
      pw_inj h ha (List.mem_range.1 hi) (List.mem_range.1 hj) (grp_cancel h hx (pw_lt h ha i) (pw_lt h ha j) he))
    have hs1 : ∀ z, z ∈ (List.range n).filter (fun y => decide (rep n zs e a y = rep n zs e a x)) → z ∈ (List.range (ordN n zs e a)).map (fun k => tm n zs x (pw n zs e a k)) := fun z hz => by
      obtain ⟨hz1, hz2⟩ := List.mem_filter.1 hz
      obtain ⟨k, hk, e1⟩ := inCoset_iff.1 ((rep_iff h ha hx (List.mem_range.1 hz1)).1 (of_decide_eq_true hz2))
      exact List.mem_map.2 ⟨k, List.mem_range.2 hk, e1⟩
    have hs2 : ∀ z, z ∈ (List.range (ordN n zs e a)).map (fun k => tm n zs x (pw n zs e a k)) → z ∈ (List.range n).filter (fun y => decide (rep n zs e a y = rep n zs e a x)) := fun z hz => by
      obtain ⟨k, hk, rfl⟩ := List.mem_map.1 hz
      have hzl := tm_lt h.tab hx (pw_lt h ha k)
      exact List.mem_filter.2 ⟨List.mem_range.2 hzl, decide_eq_true ((rep_iff h ha hx hzl).2 (inCoset_any h ha rfl))⟩
    have l1 := nodup_len _ _ hn1 hs1
    have l2 := nodup_len _ _ hn2 hs2
    simp only [List.length_map, List.length_range] at l1 l2
    omega)
  simpa using h1

/-- a, z times, z of either sign. -/
def pz (n : Nat) (zs : List Int) (e a : Nat) (z : Int) : Nat := pw n zs e a (z % (ordN n zs e a : Int)).toNat
theorem pz_lt {n e : Nat} {zs : List Int} (h : IsGrp n zs e) {a : Nat} (ha : a < n) (z : Int) : pz n zs e a z < n := pw_lt h ha _
theorem pz_eq {n e : Nat} {zs : List Int} (h : IsGrp n zs e) {a : Nat} (ha : a < n) {k : Nat} {z : Int} (hk : (k : Int) % (ordN n zs e a : Int) = z % (ordN n zs e a : Int)) : pz n zs e a z = pw n zs e a k := by
  unfold pz
  rw [← hk, ← Int.natCast_emod, Int.toNat_natCast, pw_mod h ha]
theorem pz_add {n e : Nat} {zs : List Int} (h : IsGrp n zs e) {a : Nat} (ha : a < n) (x y : Int) : tm n zs (pz n zs e a x) (pz n zs e a y) = pz n zs e a (x + y) := by
  have ho : (0 : Int) < (ordN n zs e a : Int) := by have := ord_pos (n := n) (zs := zs) (e := e) a; omega
  have hx := Int.emod_nonneg x (Int.ne_of_gt ho)
  have hy := Int.emod_nonneg y (Int.ne_of_gt ho)
  rw [pz_eq h ha (k := (x % (ordN n zs e a : Int)).toNat + (y % (ordN n zs e a : Int)).toNat) (z := x + y) (by
    rw [Int.natCast_add, Int.toNat_of_nonneg hx, Int.toNat_of_nonneg hy, ← Int.add_emod]), pw_add h ha]
  rfl
theorem pz_n {n e : Nat} {zs : List Int} (h : IsGrp n zs e) {a : Nat} (ha : a < n) : pz n zs e a (n : Int) = e := by
  obtain ⟨q, hq⟩ := lagrange h ha
  rw [pz_eq h ha (k := n) (z := (n : Int)) rfl]
  have := pw_ord_mul h ha q
  rw [← hq] at this
  exact this
theorem pz_mul {n e : Nat} {zs : List Int} (h : IsGrp n zs e) {a : Nat} (ha : a < n) (x y : Int) : pz n zs e (pz n zs e a x) y = pz n zs e a (x * y) := by
  have ho : (0 : Int) < (ordN n zs e a : Int) := by have := ord_pos (n := n) (zs := zs) (e := e) a; omega
  have hx := Int.emod_nonneg x (Int.ne_of_gt ho)
  have hy := Int.emod_nonneg y (Int.ne_of_gt ho)
  obtain ⟨i, hi⟩ : ∃ i : Nat, (i : Int) = x % (ordN n zs e a : Int) := ⟨(x % (ordN n zs e a : Int)).toNat, Int.toNat_of_nonneg hx⟩
  obtain ⟨j, hj⟩ : ∃ j : Nat, (j : Int) = y % (ordN n zs e a : Int) := ⟨(y % (ordN n zs e a : Int)).toNat, Int.toNat_of_nonneg hy⟩
  have e1 : pz n zs e a x = pw n zs e a i := pz_eq h ha (by rw [hi, Int.emod_emod])
  have hb := pw_lt h ha i
  rw [e1]
  have hd : ordN n zs e (pw n zs e a i) ∣ ordN n zs e a := ord_dvd h hb (by rw [pw_mul h ha, Nat.mul_comm, pw_ord_mul h ha])
  rw [pz_eq h hb (k := j) (z := y) (by
    rw [hj]
    exact Int.emod_emod_of_dvd y (Int.natCast_dvd_natCast.2 hd)), pw_mul h ha]
  rw [pz_eq h ha (k := i * j) (z := x * y) (by rw [Int.natCast_mul, hi, hj, ← Int.mul_emod])]
end Go.Proofs.Ytpcgacelljbkdaa
