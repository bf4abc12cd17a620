/- Orders of things, as numbers; what orderOf and Orders of package table answer. -/
import Derived.Test.YtgphcfmiamiojaaThing
namespace Go.Proofs.Ytgphcfmiamiojaa
open Go Go.RowKit

/-- a, k + 1 times. -/
def pr (n : Nat) (zs : List Int) (a : Nat) : Nat → Nat
  | 0 => a
  | k + 1 => tm n zs (pr n zs a k) a
theorem pr_lt {n : Nat} {zs : List Int} (ht : IsTab n zs) {a : Nat} (ha : a < n) : ∀ k, pr n zs a k < n
  | 0 => ha
  | k + 1 => tm_lt ht (pr_lt ht ha k) ha
theorem pr_add {n e : Nat} {zs : List Int} (h : IsGrp n zs e) {a : Nat} (ha : a < n) (i : Nat) : ∀ m, pr n zs a (i + m + 1) = tm n zs (pr n zs a i) (pr n zs a m)
  | 0 => rfl
  | m + 1 => by
    show tm n zs (pr n zs a (i + m + 1)) a = tm n zs (pr n zs a i) (tm n zs (pr n zs a m) a)
    rw [pr_add h ha i m, h.ass _ _ _ (pr_lt h.tab ha i) (pr_lt h.tab ha m) ha]
/-- A thing has an inverse on both sides. -/
theorem grp_inv {n e : Nat} {zs : List Int} (h : IsGrp n zs e) {x : Nat} (hx : x < n) : ∃ b, b < n ∧ tm n zs x b = e ∧ tm n zs b x = e := by
  obtain ⟨b, hb, hxb⟩ := h.inv x hx
  exact ⟨b, hb, hxb, inv_both h.tab h.elt h.left h.right h.ass hx hb hxb⟩
theorem grp_cancel {n e : Nat} {zs : List Int} (h : IsGrp n zs e) {x y z : Nat} (hx : x < n) (hy : y < n) (hz : z < n) (he : tm n zs x y = tm n zs x z) : y = z := by
  obtain ⟨b, hb, _, hbx⟩ := grp_inv h hx
  have h1 := h.ass b x y hb hx hy
  have h2 := h.ass b x z hb hx hz
  rw [hbx, h.left y hy] at h1
  rw [hbx, h.left z hz] at h2
  rw [h1, h2, he]
theorem grp_cancel_right {n e : Nat} {zs : List Int} (h : IsGrp n zs e) {x y z : Nat} (hx : x < n) (hy : y < n) (hz : z < n) (he : tm n zs y x = tm n zs z x) : y = z := by
  obtain ⟨b, hb, hxb, _⟩ := grp_inv h hx
  have h1 := h.ass y x b hy hx hb
  have h2 := h.ass z x b hz hx hb
  rw [hxb, h.right y hy] at h1
  rw [hxb, h.right z hz] at h2
  rw [← h1, ← h2, he]
/-- Some power, at most as many times as there are things, is the one. -/
theorem pr_one {n e : Nat} {zs : List Int} (h : IsGrp n zs e) {a : Nat} (ha : a < n) : ∃ k, k < n ∧ pr n zs a k = e := by
  rcases Classical.em (∃ k, k < n ∧ pr n zs a k = e) with hk | hk
  · exact hk
  · exfalso
    have hinj : ∀ i j, i < j → j < n → pr n zs a i ≠ pr n zs a j := fun i j hij hj he => by
      have h1 := pr_add h ha i (j - i - 1)
      rw [show i + (j - i - 1) + 1 = j by omega] at h1
      have h2 : tm n zs (pr n zs a i) (pr n zs a (j - i - 1)) = tm n zs (pr n zs a i) e := by rw [← h1, h.right _ (pr_lt h.tab ha i), he]
      exact hk ⟨j - i - 1, by omega, grp_cancel h (pr_lt h.tab ha i) (pr_lt h.tab ha _) h.elt h2⟩
    obtain ⟨k, hkn, hke⟩ := meets (n := n) (f := pr n zs a) (fun x _ => pr_lt h.tab ha x) (fun x y hx hy he => by
      rcases Nat.lt_trichotomy x y with hl | hl | hl
      · exact absurd he (hinj x y hl hy)
      · exact hl
      · exact absurd he.symm (hinj y x hl hx)) h.elt
    exact hk ⟨k, hkn, hke⟩
/-- How often a is to be taken until it is e. -/
def ordN (n : Nat) (zs : List Int) (e a : Nat) : Nat := (least n (fun k => decide (pr n zs a k = e))).toNat + 1
theorem ordN_spec {n e : Nat} {zs : List Int} (h : IsGrp n zs e) {a : Nat} (ha : a < n) : ∃ k, k < n ∧ ordN n zs e a = k + 1 ∧ pr n zs a k = e ∧ ∀ t, t < k → pr n zs a t ≠ e := by
  rcases least_cases n (fun k => decide (pr n zs a k = e)) with ⟨k, hk, hp, hb, he⟩ | ⟨hno, _⟩
  · refine ⟨k, hk, by unfold ordN; rw [he]; simp, of_decide_eq_true hp, fun t ht => of_decide_eq_false (hb t ht)⟩
  · obtain ⟨k, hk, hke⟩ := pr_one h ha
    have := hno k hk
    simp [hke] at this

set_option maxRecDepth 100000 in
set_option maxHeartbeats 4000000 in
theorem orderOf_ok (n e a : Nat) (v : Value) (zs : List Int) (w : World) (h : IsGrp n zs e) (hv : Sl w v zs) (ha : a < n) :
    Calls Try.prog 30 #[.agg #[.int .i64 n, v], .int .i64 e, .int .i64 a] w fun x w' => x = .returned (.int .i64 (ordN n zs e a)) ∧ Below w.heap.size w w' := by
  have hB0 : Below w.heap.size w (w.alloc (.cells #[.int .i64 n, v] 27)) := balloc w _
  have hg0 : BoxG (w.alloc (.cells #[.int .i64 n, v] 27)) w.heap.size n v := blk0 _ _
  have hv0 := hv.below hB0
  have hle := h.tab.le
  have HT := hide h.tab
  obtain ⟨k9, hk9, hoe, hp9, hn9⟩ := ordN_spec h ha
  rw [hoe]
  have HP := hide hp9
  have HN := hide hn9
  obtain ⟨g0, g1, _, _⟩ := hg0.two
  clear h hoe hp9 hn9
  go_enter Try.func30, Try.ntmps30
  go_wp2
  generalize w.alloc (.cells #[.int .i64 n, v] 27) = w0 at *
  go_loopw [7, 8] (fun o p wr => ∃ k : Nat, k ≤ k9 ∧ o = .int .i64 ((k : Int) + 1) ∧ p = .int .i64 (pr n zs a k) ∧ Below w0.heap.size w0 wr) (fun o _ _ => k9 + 1 - (intOf o).toNat)
  case atStart => exact ⟨0, Nat.zero_le _, rfl, rfl, Below.refl _ _⟩
  case round =>
    obtain ⟨k, hk, rfl, rfl, hB⟩ := hrel
    have d0 := below_cell hB g0
    have d1 := below_cell hB g1
    by_cases hlt : k < k9
    · have hne : ((pr n zs a k : Int) != (e : Int)) = true := by
        have := HN.out k hlt
        simp; omega
      have hpl := pr_lt HT.out ha k
      have hstep : tm n zs (pr n zs a k) a = pr n zs a (k + 1) := rfl
      have HST := hide hstep
      clear hstep
      go_wp2_with fail
      refine (product_ok n v zs _ a _ HT.out (hv0.below hB) hpl ha).mono ?_
      rintro x w1 ⟨rfl, hb1⟩
      have hB1 := bcat2 hB hb1
      rw [HST.out]
      clear d0 d1
      go_wp2
      go_roundw
      case rel => exact ⟨k + 1, by omega, by go_num, rfl, hB1⟩
      case measure => simp [intOf]; omega
    · have hkk : k = k9 := by omega
      subst hkk
      have hne : ((pr n zs a k : Int) != (e : Int)) = false := by
        have := HP.out
        simp; omega
      go_wp2
      go_ret
      exact ⟨retI (by simp), bcat hB0 hB hB0.size⟩
end Go.Proofs.Ytgphcfmiamiojaa
