/- Mathematics of the least turn: turned lists as what is read in a ring. No condition. -/
import Derived.Test.YtojnjfkonaeegaaDoorIsl
namespace Go.Proofs.YtojnjfkonaeegaaDoor

theorem scan_congr {v v' : Nat → Int} {n : Nat} (h : ∀ t, t < n → v t = v' t) : ∀ f p r, scan v n f p r = scan v' n f p r
  | 0, _, _ => rfl
  | f + 1, p, r => by
    unfold scan
    by_cases hr : r < n
    · rw [h r hr, h (r - p) (by omega), scan_congr h f, ]
    · rw [if_neg (by omega), if_neg (by omega)]
theorem fls_congr {x x' : Nat → Int} {n : Nat} (h : ∀ t, t < n → x t = x' t) : ∀ f b, fls x n f b = fls x' n f b
  | 0, _ => rfl
  | f + 1, b => by
    unfold fls
    by_cases hb : b < n
    · rw [if_pos hb, if_pos hb]
      have e := scan_congr (v := fun t => x (b + t)) (v' := fun t => x' (b + t)) (n := n - b) (fun t ht => h _ (by omega)) (n - b) 1 1
      simp only [e, fls_congr h f]
    · rw [if_neg hb, if_neg hb]

/-- A list in a ring. -/
def Xp (zs : List Int) (t : Nat) : Int := zs[t % zs.length]?.getD 0
theorem xp_per (zs : List Int) (t : Nat) : Xp zs (t + zs.length) = Xp zs t := by unfold Xp; rw [Nat.add_mod_right]
theorem xp_mul (zs : List Int) (t k : Nat) : Xp zs (t + k * zs.length) = Xp zs t := by unfold Xp; rw [Nat.add_mul_mod_self_right]
theorem xp_twice (zs : List Int) {t : Nat} (h : t < (zs ++ zs).length) : X (zs ++ zs) t = Xp zs t := by
  unfold X Xp
  rw [List.length_append] at h
  by_cases ht : t < zs.length
  · rw [List.getElem?_append_left ht, Nat.mod_eq_of_lt ht]
  · rw [List.getElem?_append_right (by omega), Nat.mod_eq_sub_mod (by omega), Nat.mod_eq_of_lt (by omega)]
theorem trn_get (zs : List Int) {i t : Nat} (hi : i < zs.length) (ht : t < zs.length) : (trn zs i)[t]?.getD 0 = Xp zs (i + t) := by
  unfold trn Xp
  by_cases h : i + t < zs.length
  · rw [List.getElem?_append_left (by simp; omega), List.getElem?_drop, Nat.mod_eq_of_lt h]
  · rw [List.getElem?_append_right (by simp; omega), List.length_drop, List.getElem?_take_of_lt (by omega), Nat.mod_eq_sub_mod (by omega), Nat.mod_eq_of_lt (by omega)]
    congr 2; omega
theorem trn_zero (zs : List Int) : trn zs 0 = zs := by simp [trn]
theorem lss_iff (zs : List Int) {i b : Nat} (hi : i < zs.length) (hb : b < zs.length) : Lss (trn zs i) (trn zs b) ↔ LT (Xp zs) i b := by
  constructor
  · rintro ⟨j, h1, h2, h3⟩
    rw [trn_len zs i (by omega)] at h1
    refine ⟨j, fun t ht => ?_, ?_⟩
    · have := h2 t ht
      rwa [trn_get zs hi (by omega), trn_get zs hb (by omega)] at this
    · rwa [trn_get zs hi h1, trn_get zs hb h1] at h3
  · rintro ⟨j, h1, h2⟩
    have hj : j < zs.length := by
      rcases Nat.lt_or_ge j zs.length with h | h
      · exact h
      · exfalso
        have e := h1 (j - zs.length) (by omega)
        have e1 := xp_per zs (i + (j - zs.length))
        have e2 := xp_per zs (b + (j - zs.length))
        rw [show i + (j - zs.length) + zs.length = i + j by omega] at e1
        rw [show b + (j - zs.length) + zs.length = b + j by omega] at e2
        omega
    refine ⟨j, by rw [trn_len zs i (by omega)]; exact hj, fun t ht => ?_, ?_⟩
    · rw [trn_get zs hi (by omega), trn_get zs hb (by omega)]; exact h1 t ht
    · rw [trn_get zs hi hj, trn_get zs hb hj]; exact h2
theorem LT.trans {X : Nat → Int} {a b c : Nat} (h : LT X a b) (k : LT X b c) : LT X a c := by
  obtain ⟨i, h1, h2⟩ := h
  obtain ⟨j, k1, k2⟩ := k
  rcases Nat.lt_trichotomy i j with hij | hij | hij
  · exact ⟨i, fun t ht => by rw [h1 t ht, k1 t (by omega)], by rw [← k1 i hij]; exact h2⟩
  · subst hij
    exact ⟨i, fun t ht => by rw [h1 t ht, k1 t ht], by omega⟩
  · exact ⟨j, fun t ht => by rw [h1 t (by omega), k1 t ht], by rw [h1 j hij]; exact k2⟩
theorem LT.irrefl {X : Nat → Int} {a : Nat} (h : LT X a a) : False := by
  obtain ⟨j, _, h⟩ := h; omega
theorem LT.congr_left {X : Nat → Int} {a b c : Nat} (h : LT X a c) (e : ∀ t, X (a + t) = X (b + t)) : LT X b c := by
  obtain ⟨j, h1, h2⟩ := h
  exact ⟨j, fun t ht => by rw [← e t]; exact h1 t ht, by rw [← e j]; exact h2⟩
theorem LT.congr_right {X : Nat → Int} {a b c : Nat} (h : LT X c a) (e : ∀ t, X (a + t) = X (b + t)) : LT X c b := by
  obtain ⟨j, h1, h2⟩ := h
  exact ⟨j, fun t ht => by rw [← e t]; exact h1 t ht, by rw [← e j]; exact h2⟩

/-- The least number by which it is least, among those below k. -/
structure Bst (zs : List Int) (k b : Nat) : Prop where
  lt : b < k
  min : ∀ i, i < k → ¬LT (Xp zs) i b
  first : ∀ i, i < b → LT (Xp zs) b i
theorem Bst.one (zs : List Int) : Bst zs 1 0 := by
  refine ⟨by omega, fun i hi h => ?_, fun i hi => by omega⟩
  have : i = 0 := by omega
  subst this
  exact h.irrefl
theorem Bst.stay {zs : List Int} {k b : Nat} (h : Bst zs k b) (hn : ¬LT (Xp zs) k b) : Bst zs (k + 1) b :=
  ⟨by have := h.lt; omega, fun i hi => by
    by_cases e : i = k
    · rw [e]; exact hn
    · exact h.min i (by omega), h.first⟩
theorem Bst.move {zs : List Int} {k b : Nat} (h : Bst zs k b) (hy : LT (Xp zs) k b) : Bst zs (k + 1) k := by
  have key : ∀ i, i < k → LT (Xp zs) k i := by
    intro i hi
    rcases Nat.lt_trichotomy i b with h1 | h1 | h1
    · exact hy.trans (h.first i h1)
    · rw [h1]; exact hy
    · rcases LT.tri (Xp zs) i b with h2 | h2 | h2
      · exact absurd h2 (h.min i hi)
      · exact hy.trans h2
      · exact hy.congr_right (fun t => (h2 t).symm)
  refine ⟨by omega, fun i hi hl => ?_, key⟩
  by_cases e : i = k
  · rw [e] at hl; exact hl.irrefl
  · exact ((key i (by omega)).trans hl).irrefl
theorem Bst.all {zs : List Int} {b : Nat} (h : Bst zs zs.length b) : ∀ i, ¬LT (Xp zs) i b := by
  intro i hl
  have h0 : 0 < zs.length := by have := h.lt; omega
  refine h.min (i % zs.length) (Nat.mod_lt _ h0) (hl.congr_left fun t => ?_)
  unfold Xp
  rw [Nat.mod_add_mod]
/-- Where beads.Least's pieces say, there it is least. -/
theorem least_eq {zs : List Int} {b : Nat} (h : Bst zs zs.length b) : (firstLongest (fls (X (zs ++ zs)) (zs ++ zs).length (zs ++ zs).length 0) (0, 0)).1 = b := by
  rw [fls_congr (x' := Xp zs) (fun t ht => xp_twice zs ht), List.length_append]
  exact least_spec (xp_per zs) h.lt h.all h.first (fls_spec _ 0 (by omega) (by omega))

end Go.Proofs.YtojnjfkonaeegaaDoor
