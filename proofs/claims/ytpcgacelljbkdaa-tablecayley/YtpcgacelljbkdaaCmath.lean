/- Cayley's theorem as math: the permutations that things make by products. No condition. -/
import Derived.Test.YtpcgacelljbkdaaCayley
import Derived.Test.YtpcgacelljbkdaaPerm
namespace Go.Proofs.Ytpcgacelljbkdaa
open Go Go.RowKit

theorem cay_perm {n e : Nat} {zs : List Int} (h : IsGrp n zs e) {a : Nat} (ha : a < n) : Pm.IsPerm (cayR n zs a) := by
  constructor
  · intro i hi
    rw [cayR_len] at hi ⊢
    rw [cayR_get hi]
    have := tm_lt h.tab hi ha
    omega
  · intro i j hij hj
    rw [cayR_len] at hj
    rw [cayR_get hj, cayR_get (by omega)]
    intro he
    have := grp_cancel_right h (x := a) (y := i) (z := j) ha (by omega) hj (by omega)
    omega
theorem cay_fault {n e : Nat} {zs : List Int} (h : IsGrp n zs e) {a : Nat} (ha : a < n) : Pm.fault (cayR n zs a) = (0, 0) :=
  Pm.fault_of_perm (cay_perm h ha) (by rw [cayR_len]; have := h.tab.le; omega)
theorem cay_mul {n e : Nat} {zs : List Int} (h : IsGrp n zs e) {a b : Nat} (ha : a < n) (hb : b < n) : Pm.mulL (cayR n zs a) (cayR n zs b) = cayR n zs (tm n zs a b) := by
  apply list_ext
  · rw [Pm.mulL_len, cayR_len, cayR_len]
  · intro x hx
    rw [Pm.mulL_len, cayR_len] at hx
    rw [Pm.mulL_get _ (by rw [cayR_len]; exact hx), cayR_get hx, Int.toNat_natCast, cayR_get (tm_lt h.tab hx ha), cayR_get hx, h.ass x a b hx ha hb]
theorem cay_inj {n e : Nat} {zs : List Int} (h : IsGrp n zs e) {a b : Nat} (ha : a < n) (hb : b < n) (hab : a ≠ b) : ¬ cayR n zs a = cayR n zs b := by
  intro he
  have h1 := cayR_get (n := n) (zs := zs) (a := a) h.elt
  have h2 := cayR_get (n := n) (zs := zs) (a := b) h.elt
  rw [he, h2, h.left a ha, h.left b hb] at h1
  omega
/-- How a list of such permutations reads. -/
theorem SlL.rows {V : World} {r : Value} {n : Nat} {zs : List Int} (h : SlL V r (cayL n zs)) (hn : 0 < n) : ∃ cap pb po, r = .slice (some ⟨pb, po, none⟩) n cap ∧ n ≤ cap ∧ cap ≤ maxLen ∧
    ∀ j, j < n → ∃ rb ro rc, V.cell? ⟨pb, po + j, none⟩ = some (.slice (some ⟨rb, ro, none⟩) n rc) ∧ Sl V (.slice (some ⟨rb, ro, none⟩) n rc) (cayR n zs j) ∧ n ≤ rc ∧ rc ≤ maxLen ∧ ∀ x, x < n → V.cell? ⟨rb, ro + x, none⟩ = some (.int .i64 (tm n zs x j)) := by
  obtain ⟨a, cap, pb, po, hv, h0, hr, hp, h1, h2⟩ := h
  rw [cayL_len] at hv h0 hr h1
  obtain rfl := h0 hn
  refine ⟨cap, pb, po, hv, h1, h2, fun j hj => ?_⟩
  obtain ⟨x, hx, hs⟩ := hr j hj
  rw [cayL_get hj] at hs
  obtain ⟨a', cap', rb, ro, rfl, hd, hq, h3, h4⟩ := id hs
  rw [cayR_len] at hs hx h3
  obtain rfl := hd.at_ (by rw [cayR_len]; exact hn)
  exact ⟨rb, ro, cap', hx, hs, h3, h4, fun y hy => by rw [hd.cell y (by rw [cayR_len]; exact hy), cayR_get hy]⟩
end Go.Proofs.Ytpcgacelljbkdaa
