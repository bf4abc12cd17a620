/- Groups that functions make; the product of two groups, its orders, and when its things commute. No condition. -/
import Derived.Test.YtpcgacelljbkdaaMake
import Derived.Test.YtpcgacelljbkdaaLag
namespace Go.Proofs.Ytpcgacelljbkdaa

theorem mkT_get {N : Nat} {f : Nat → Nat → Nat} {i : Nat} (hi : i < N * N) : (mkT N f)[i]?.getD 0 = (f (i / N) (i % N) : Int) := by simp [mkT, hi]
theorem tm_mk {N : Nat} {f : Nat → Nat → Nat} {a b : Nat} (ha : a < N) (hb : b < N) : tm N (mkT N f) a b = f a b := by
  unfold tm
  obtain ⟨e1, e2⟩ := dm (a := a) hb
  rw [mkT_get (place_lt ha hb), e1, e2, Int.toNat_natCast]
theorem tab_mk {N : Nat} {f : Nat → Nat → Nat} (h1 : 1 ≤ N) (h2 : N ≤ 60) (hc : ∀ a b, a < N → b < N → f a b < N) : IsTab N (mkT N f) :=
  ⟨h1, h2, mkT_len N f, fun i hi => by
    obtain ⟨d1, d2⟩ := div_mod_lt hi
    have := hc _ _ d1 d2
    rw [mkT_get hi]; omega⟩
theorem grp_mk {N e : Nat} {f : Nat → Nat → Nat} (h1 : 1 ≤ N) (h2 : N ≤ 60) (hc : ∀ a b, a < N → b < N → f a b < N) (he : e < N) (hl : ∀ a, a < N → f e a = a) (hr : ∀ a, a < N → f a e = a)
    (hass : ∀ a b c, a < N → b < N → c < N → f (f a b) c = f a (f b c)) (hinv : ∀ a, a < N → ∃ b, b < N ∧ f a b = e) : IsGrp N (mkT N f) e := by
  have ht := tab_mk h1 h2 hc
  have hoe : oneB N (mkT N f) e = true := oneB_iff.2 (fun a ha => by rw [tm_mk he ha, tm_mk ha he]; exact ⟨hl a ha, hr a ha⟩)
  refine ⟨ht, he, ?_, fun a ha => by rw [tm_mk he ha]; exact hl a ha, fun a ha => by rw [tm_mk ha he]; exact hr a ha, fun a b c ha hb hc' => ?_, fun a ha => ?_⟩
  · unfold one
    rcases least_cases N (oneB N (mkT N f)) with ⟨k, hk, hp, _, ek⟩ | ⟨hno, _⟩
    · have h3 := (oneB_iff.1 hp e he).1
      rw [tm_mk hk he, hr k hk] at h3
      rw [ek, h3]
    · have := hno e he
      rw [hoe] at this; cases this
  · rw [tm_mk ha hb, tm_mk (hc a b ha hb) hc', tm_mk hb hc', tm_mk ha (hc b c hb hc')]
    exact hass a b c ha hb hc'
  · obtain ⟨b, hb, hab⟩ := hinv a ha
    exact ⟨b, hb, by rw [tm_mk ha hb]; exact hab⟩

/-- Pairs, each by itself. -/
def prodF (n m : Nat) (zs ys : List Int) (a b : Nat) : Nat := tm n zs (a / m) (b / m) * m + tm m ys (a % m) (b % m)
theorem pair_lt {n m x y : Nat} (hx : x < n) (hy : y < m) : x * m + y < n * m := by
  have : (x + 1) * m ≤ n * m := Nat.mul_le_mul_right m hx
  rw [Nat.add_mul] at this; omega
theorem pair_parts {n m i : Nat} (hi : i < n * m) : i / m < n ∧ i % m < m ∧ i / m * m + i % m = i := by
  have hm : 0 < m := by
    rcases Nat.eq_zero_or_pos m with h | h
    · subst h; simp at hi
    · exact h
  refine ⟨Nat.div_lt_of_lt_mul (by rw [Nat.mul_comm]; exact hi), Nat.mod_lt _ hm, ?_⟩
  rw [Nat.mul_comm]; exact Nat.div_add_mod i m
theorem prod_grp {n m e d : Nat} {zs ys : List Int} (h : IsGrp n zs e) (k : IsGrp m ys d) (h60 : n * m ≤ 60) : IsGrp (n * m) (mkT (n * m) (prodF n m zs ys)) (e * m + d) := by
  have hn := h.tab.pos
  have hm := k.tab.pos
  have ep := dm (a := e) k.elt
  refine grp_mk (Nat.mul_pos hn hm) h60 (fun a b ha hb => ?_) (pair_lt h.elt k.elt) (fun a ha => ?_) (fun a ha => ?_) (fun a b c ha hb hc => ?_) (fun a ha => ?_)
  · obtain ⟨a1, a2, _⟩ := pair_parts ha
    obtain ⟨b1, b2, _⟩ := pair_parts hb
    exact pair_lt (tm_lt h.tab a1 b1) (tm_lt k.tab a2 b2)
  · obtain ⟨a1, a2, a3⟩ := pair_parts ha
    unfold prodF
    rw [ep.1, ep.2, h.left _ a1, k.left _ a2, a3]
  · obtain ⟨a1, a2, a3⟩ := pair_parts ha
    unfold prodF
    rw [ep.1, ep.2, h.right _ a1, k.right _ a2, a3]
  · obtain ⟨a1, a2, _⟩ := pair_parts ha
    obtain ⟨b1, b2, _⟩ := pair_parts hb
    obtain ⟨c1, c2, _⟩ := pair_parts hc
    have q1 := dm (a := tm n zs (a / m) (b / m)) (tm_lt k.tab a2 b2)
    have q2 := dm (a := tm n zs (b / m) (c / m)) (tm_lt k.tab b2 c2)
    unfold prodF
    rw [q1.1, q1.2, q2.1, q2.2, h.ass _ _ _ a1 b1 c1, k.ass _ _ _ a2 b2 c2]
  · obtain ⟨a1, a2, _⟩ := pair_parts ha
    obtain ⟨x, hx, e1⟩ := h.inv _ a1
    obtain ⟨y, hy, e2⟩ := k.inv _ a2
    refine ⟨x * m + y, pair_lt hx hy, ?_⟩
    have q := dm (a := x) hy
    unfold prodF
    rw [q.1, q.2, e1, e2]
theorem pw_prod {n m e d : Nat} {zs ys : List Int} (h : IsGrp n zs e) (k : IsGrp m ys d) (_h60 : n * m ≤ 60) {a : Nat} (ha : a < n * m) : ∀ j, pw (n * m) (mkT (n * m) (prodF n m zs ys)) (e * m + d) a j = pw n zs e (a / m) j * m + pw m ys d (a % m) j
  | 0 => rfl
  | j + 1 => by
    obtain ⟨a1, a2, _⟩ := pair_parts ha
    have l1 := pw_lt h a1 j
    have l2 := pw_lt k a2 j
    show tm (n * m) (mkT (n * m) (prodF n m zs ys)) (pw (n * m) (mkT (n * m) (prodF n m zs ys)) (e * m + d) a j) a = _
    rw [pw_prod h k _h60 ha j, tm_mk (pair_lt l1 l2) ha]
    have q := dm (a := pw n zs e (a / m) j) l2
    unfold prodF
    rw [q.1, q.2]
    rfl
theorem pair_inj {m x y u v : Nat} (hy : y < m) (hv : v < m) (h : x * m + y = u * m + v) : x = u ∧ y = v := by
  have h1 := dm (a := x) hy
  have h2 := dm (a := u) hv
  rw [h] at h1
  exact ⟨h1.1.symm.trans h2.1, h1.2.symm.trans h2.2⟩
theorem ord_prod {n m e d : Nat} {zs ys : List Int} (h : IsGrp n zs e) (k : IsGrp m ys d) (h60 : n * m ≤ 60) {a : Nat} (ha : a < n * m) :
    ordN (n * m) (mkT (n * m) (prodF n m zs ys)) (e * m + d) a = Nat.lcm (ordN n zs e (a / m)) (ordN m ys d (a % m)) := by
  obtain ⟨a1, a2, _⟩ := pair_parts ha
  have hp := prod_grp h k h60
  apply Nat.dvd_antisymm
  · apply ord_dvd hp ha
    rw [pw_prod h k h60 ha]
    obtain ⟨x, hx⟩ := Nat.dvd_lcm_left (ordN n zs e (a / m)) (ordN m ys d (a % m))
    obtain ⟨y, hy⟩ := Nat.dvd_lcm_right (ordN n zs e (a / m)) (ordN m ys d (a % m))
    have q1 : pw n zs e (a / m) (Nat.lcm (ordN n zs e (a / m)) (ordN m ys d (a % m))) = e := by rw [hx]; exact pw_ord_mul h a1 x
    have q2 : pw m ys d (a % m) (Nat.lcm (ordN n zs e (a / m)) (ordN m ys d (a % m))) = d := by rw [hy]; exact pw_ord_mul k a2 y
    rw [q1, q2]
  · have h1 := pw_ord hp ha
    rw [pw_prod h k h60 ha] at h1
    obtain ⟨h2, h3⟩ := pair_inj (pw_lt k a2 _) k.elt h1
    exact Nat.lcm_dvd (ord_dvd h a1 h2) (ord_dvd k a2 h3)
theorem com_prod {n m e d : Nat} {zs ys : List Int} (h : IsGrp n zs e) (k : IsGrp m ys d) : comB (n * m) (mkT (n * m) (prodF n m zs ys)) = (comB n zs && comB m ys) := by
  rw [Bool.eq_iff_iff, Bool.and_eq_true, comB_iff, comB_iff, comB_iff]
  constructor
  · intro hc
    constructor
    · intro a b ha hb
      have h1 := hc (a * m + d) (b * m + d) (pair_lt ha k.elt) (pair_lt hb k.elt)
      rw [tm_mk (pair_lt ha k.elt) (pair_lt hb k.elt), tm_mk (pair_lt hb k.elt) (pair_lt ha k.elt)] at h1
      have q1 := dm (a := a) k.elt
      have q2 := dm (a := b) k.elt
      unfold prodF at h1
      rw [q1.1, q1.2, q2.1, q2.2] at h1
      exact (pair_inj (tm_lt k.tab k.elt k.elt) (tm_lt k.tab k.elt k.elt) h1).1
    · intro a b ha hb
      have h1 := hc (e * m + a) (e * m + b) (pair_lt h.elt ha) (pair_lt h.elt hb)
      rw [tm_mk (pair_lt h.elt ha) (pair_lt h.elt hb), tm_mk (pair_lt h.elt hb) (pair_lt h.elt ha)] at h1
      have q1 := dm (a := e) ha
      have q2 := dm (a := e) hb
      unfold prodF at h1
      rw [q1.1, q1.2, q2.1, q2.2] at h1
      exact (pair_inj (tm_lt k.tab ha hb) (tm_lt k.tab hb ha) h1).2
  · rintro ⟨h1, h2⟩ a b ha hb
    obtain ⟨a1, a2, _⟩ := pair_parts ha
    obtain ⟨b1, b2, _⟩ := pair_parts hb
    rw [tm_mk ha hb, tm_mk hb ha]
    unfold prodF
    rw [h1 _ _ a1 b1, h2 _ _ a2 b2]
end Go.Proofs.Ytpcgacelljbkdaa
