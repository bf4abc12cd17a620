/- Mathematics of Lyndon words: Duval's reading, pieces that are not greater, the least turn. No condition. -/
import Derived.Test.YtojnjfkonaeegaaDoorKit
namespace Go.Proofs.YtojnjfkonaeegaaDoor

/-- What stands in v from i on is greater than v, by a number that stands ahead of r. -/
def Up (v : Nat → Int) (i r : Nat) : Prop := ∃ j, i + j < r ∧ (∀ t, t < j → v (i + t) = v t) ∧ v j < v (i + j)
/-- The first p numbers of v are a Lyndon word. -/
def Lyn (v : Nat → Int) (p : Nat) : Prop := 0 < p ∧ ∀ i, 0 < i → i < p → Up v i p
/-- What Duval's reading has found: a Lyndon word of p numbers, again and again, up to r. -/
structure Duv (v : Nat → Int) (p r : Nat) : Prop where
  lyn : Lyn v p
  le : p ≤ r
  per : ∀ i, p ≤ i → i < r → v i = v (i - p)

theorem Lyn.one (v : Nat → Int) : Lyn v 1 := ⟨by omega, fun i h1 h2 => by omega⟩
theorem Duv.one (v : Nat → Int) : Duv v 1 1 := ⟨Lyn.one v, by omega, fun i h1 h2 => by omega⟩
theorem Duv.mod {v : Nat → Int} {p r : Nat} (h : Duv v p r) : ∀ i, i < r → v i = v (i % p) := by
  intro i
  induction i using Nat.strongRecOn with
  | ind i ih =>
    intro hi
    by_cases hp : i < p
    · rw [Nat.mod_eq_of_lt hp]
    · have h0 := h.lyn.1
      rw [h.per i (by omega) hi, ih (i - p) (by omega) (by omega), ← Nat.mod_eq_sub_mod (show p ≤ i by omega)]
theorem Duv.more {v : Nat → Int} {p r : Nat} (h : Duv v p r) (e : v r = v (r - p)) : Duv v p (r + 1) := by
  refine ⟨h.lyn, by have := h.le; omega, fun i h1 h2 => ?_⟩
  by_cases hr : i = r
  · rw [hr]; exact e
  · exact h.per i h1 (by omega)
theorem Duv.jump {v : Nat → Int} {p r : Nat} (h : Duv v p r) (e : v (r - p) < v r) : Duv v (r + 1) (r + 1) := by
  have h0 := h.lyn.1
  have hle := h.le
  have hm := h.mod
  refine ⟨⟨by omega, ?_⟩, by omega, fun i h1 h2 => by omega⟩
  intro i hi0 hir
  have hmr : v (r - p) = v (r % p) := by
    rw [hm (r - p) (by omega), ← Nat.mod_eq_sub_mod hle]
  have hper : ∀ t, i + t < r → v (i + t) = v ((i % p + t) % p) := by
    intro t ht
    rw [hm _ ht]; congr 1; simp [Nat.add_mod]
  have hlt : i % p < p := Nat.mod_lt _ h0
  by_cases hs : i % p = 0
  · refine ⟨r - i, by omega, fun t ht => ?_, ?_⟩
    · rw [hper t (by omega), hs, hm t (by omega)]; simp
    · rw [show i + (r - i) = r by omega]
      have : v (r - i) = v (r % p) := by
        rw [hm (r - i) (by omega)]
        congr 1
        have : (r - i + i) % p = (r - i) % p := by rw [Nat.add_mod, hs]; simp
        rw [← this, show r - i + i = r by omega]
      rw [this, ← hmr]; exact e
  · obtain ⟨j, hj, hje, hjl⟩ := h.lyn.2 (i % p) (by omega) hlt
    by_cases hij : i + j < r
    · refine ⟨j, by omega, fun t ht => ?_, ?_⟩
      · rw [hper t (by omega), Nat.mod_eq_of_lt (by omega), hje t ht]
      · rw [hper j (by omega), Nat.mod_eq_of_lt (by omega)]; exact hjl
    · refine ⟨r - i, by omega, fun t ht => ?_, ?_⟩
      · rw [hper t (by omega), Nat.mod_eq_of_lt (by omega), hje t (by omega)]
      · rw [show i + (r - i) = r by omega]
        have h1 : r % p = i % p + (r - i) := by
          have : (i % p + (r - i)) % p = r % p := by
            rw [Nat.add_mod, Nat.mod_mod, ← Nat.add_mod, show i + (r - i) = r by omega]
          rw [← this, Nat.mod_eq_of_lt (by omega)]
        rw [hmr, h1] at e
        by_cases hq : r - i = j
        · rw [hq] at e ⊢; omega
        · rw [hje (r - i) (by omega)] at e; exact e

/-- Of two pieces of x, the second one is not greater. -/
def NG (x : Nat → Int) (b l c m : Nat) : Prop :=
  (m ≤ l ∧ ∀ t, t < m → x (c + t) = x (b + t)) ∨ ∃ j, j < l ∧ j < m ∧ (∀ t, t < j → x (c + t) = x (b + t)) ∧ x (c + j) < x (b + j)
theorem NG.trans {x : Nat → Int} {b l c m d k : Nat} (h : NG x b l c m) (h' : NG x c m d k) : NG x b l d k := by
  rcases h with ⟨h1, h2⟩ | ⟨j, h1, h2, h3, h4⟩
  · rcases h' with ⟨g1, g2⟩ | ⟨i, g1, g2, g3, g4⟩
    · exact Or.inl ⟨by omega, fun t ht => by rw [g2 t ht, h2 t (by omega)]⟩
    · exact Or.inr ⟨i, by omega, g2, fun t ht => by rw [g3 t ht, h2 t (by omega)], by rw [← h2 i g1]; exact g4⟩
  · rcases h' with ⟨g1, g2⟩ | ⟨i, g1, g2, g3, g4⟩
    · by_cases hj : j < k
      · exact Or.inr ⟨j, h1, hj, fun t ht => by rw [g2 t (by omega), h3 t ht], by rw [g2 j hj]; exact h4⟩
      · exact Or.inl ⟨by omega, fun t ht => by rw [g2 t ht, h3 t (by omega)]⟩
    · rcases Nat.lt_trichotomy i j with hij | hij | hij
      · exact Or.inr ⟨i, by omega, g2, fun t ht => by rw [g3 t ht, h3 t (by omega)], by rw [← h3 i hij]; exact g4⟩
      · subst hij
        exact Or.inr ⟨i, h1, g2, fun t ht => by rw [g3 t ht, h3 t ht], by omega⟩
      · exact Or.inr ⟨j, h1, by omega, fun t ht => by rw [g3 t (by omega), h3 t ht], by rw [g3 j hij]; exact h4⟩
theorem NG.same (x : Nat → Int) (b l : Nat) : NG x b l b l := Or.inl ⟨by omega, fun _ _ => rfl⟩

/-- x falls, from b on up to n, into the pieces of a list. -/
def Falls (x : Nat → Int) (n : Nat) : Nat → List (Nat × Nat) → Prop
  | b, [] => b = n
  | b, q :: r => q.1 = b ∧ Lyn (fun t => x (b + t)) q.2 ∧ b + q.2 ≤ n ∧ (∀ s, s ∈ r → NG x b q.2 s.1 s.2) ∧ Falls x n (b + q.2) r

/-- Duval's reading. -/
def scan (v : Nat → Int) (n : Nat) : Nat → Nat → Nat → Nat × Nat
  | 0, p, r => (p, r)
  | f + 1, p, r => if r < n ∧ v (r - p) ≤ v r then scan v n f (if v (r - p) < v r then r + 1 else p) (r + 1) else (p, r)
theorem scan_spec (v : Nat → Int) (n : Nat) : ∀ f p r, Duv v p r → r ≤ n → n - r ≤ f →
    Duv v (scan v n f p r).1 (scan v n f p r).2 ∧ (scan v n f p r).2 ≤ n ∧ ((scan v n f p r).2 = n ∨ v (scan v n f p r).2 < v ((scan v n f p r).2 - (scan v n f p r).1))
  | 0, p, r, h, hr, hf => ⟨h, hr, Or.inl (by simp only [scan]; omega)⟩
  | f + 1, p, r, h, hr, hf => by
    unfold scan
    by_cases hc : r < n ∧ v (r - p) ≤ v r
    · rw [if_pos hc]
      by_cases hl : v (r - p) < v r
      · rw [if_pos hl]
        exact scan_spec v n f _ _ (h.jump hl) (by omega) (by omega)
      · rw [if_neg hl]
        exact scan_spec v n f _ _ (h.more (by omega)) (by omega) (by omega)
    · rw [if_neg hc]
      refine ⟨h, hr, ?_⟩
      by_cases hn : r = n
      · exact Or.inl hn
      · exact Or.inr (by show v r < v (r - p); omega)

/-- The pieces, as they are yielded. -/
def fls (x : Nat → Int) (n : Nat) : Nat → Nat → List (Nat × Nat)
  | 0, _ => []
  | f + 1, b => if b < n then
      let s := scan (fun t => x (b + t)) (n - b) (n - b) 1 1
      (List.range (s.2 / s.1)).map (fun i => (b + i * s.1, s.1)) ++ fls x n f (b + s.2 / s.1 * s.1)
    else []

/-- The word again and again, and what comes behind it. -/
theorem falls_times {x : Nat → Int} {n p : Nat} {r : List (Nat × Nat)} : ∀ (k b : Nat), (∀ i, i < k → Lyn (fun t => x (b + i * p + t)) p) → b + k * p ≤ n →
    (∀ i, i < k → ∀ s, s ∈ r → NG x (b + i * p) p s.1 s.2) → (∀ i j, i < k → j < k → NG x (b + i * p) p (b + j * p) p) → Falls x n (b + k * p) r →
    Falls x n b ((List.range k).map (fun i => (b + i * p, p)) ++ r)
  | 0, b, _, _, _, _, hf => by simpa using hf
  | k + 1, b, hl, hn, hr, hs, hf => by
    have e : (k + 1) * p = p + k * p := by rw [Nat.add_mul]; omega
    rw [List.range_succ_eq_map]
    simp only [List.map_cons, List.map_map, List.cons_append, Nat.zero_mul, Nat.add_zero]
    have e2 : ∀ i, b + (i + 1) * p = (b + p) + i * p := fun i => by rw [Nat.add_mul]; omega
    refine ⟨rfl, by simpa using hl 0 (by omega), by show b + p ≤ n; omega, ?_, ?_⟩
    · intro s hm
      rcases List.mem_append.1 hm with h | h
      · obtain ⟨i, hi, rfl⟩ := List.mem_map.1 h
        have := hs 0 (i + 1) (by omega) (by have := List.mem_range.1 hi; omega)
        simpa using this
      · simpa using hr 0 (by omega) s h
    · have := falls_times (n := n) (r := r) k (b + p) (fun i hi => by have := hl (i + 1) (by omega); rw [e2] at this; exact this) (by omega)
        (fun i hi => by have := hr (i + 1) (by omega); rw [e2] at this; exact this)
        (fun i j hi hj => by have := hs (i + 1) (j + 1) (by omega) (by omega); rw [e2, e2] at this; exact this) (by rw [show b + p + k * p = b + (k + 1) * p by omega]; exact hf)
      have e3 : ((fun i => (b + i * p, p)) ∘ Nat.succ) = (fun i => ((b + p) + i * p, p)) := by
        funext i; exact congrArg (·, p) (e2 i)
      rw [e3]
      exact this

theorem fls_ge {x : Nat → Int} {n : Nat} : ∀ (f b : Nat), ∀ s ∈ fls x n f b, b ≤ s.1
  | 0, b, s, h => by simp [fls] at h
  | f + 1, b, s, h => by
    unfold fls at h
    split at h
    · rcases List.mem_append.1 h with h | h
      · obtain ⟨i, _, rfl⟩ := List.mem_map.1 h
        exact Nat.le_add_right _ _
      · exact Nat.le_trans (Nat.le_add_right _ _) (fls_ge f _ s h)
    · simp at h

theorem fls_spec {x : Nat → Int} {n : Nat} : ∀ (f b : Nat), b ≤ n → n - b ≤ f → Falls x n b (fls x n f b)
  | 0, b, h, hf => by show b = n; omega
  | f + 1, b, h, hf => by
    unfold fls
    by_cases hb : b < n
    · rw [if_pos hb]
      have hsp := scan_spec (fun t => x (b + t)) (n - b) (n - b) 1 1 (Duv.one _) (by omega) (by omega)
      generalize scan (fun t => x (b + t)) (n - b) (n - b) 1 1 = s at hsp
      obtain ⟨p, r⟩ := s
      obtain ⟨hd, hr, hend⟩ := hsp
      simp only at hd hr hend ⊢
      have h0 := hd.lyn.1
      have hk : 0 < r / p := Nat.div_pos hd.le h0
      have hdm := Nat.div_add_mod r p
      have hml := Nat.mod_lt r h0
      rw [Nat.mul_comm] at hdm
      have hp1 : p ≤ r / p * p := Nat.le_mul_of_pos_left _ hk
      have hper : ∀ i t, i * p + t < r → x (b + i * p + t) = x (b + t % p) := by
        intro i t hit
        have := hd.mod (i * p + t) hit
        rw [Nat.mul_add_mod_self_right] at this
        rw [Nat.add_assoc]; exact this
      have hin : ∀ i t, i < r / p → t < p → i * p + t < r := by
        intro i t hi ht
        have : (i + 1) * p ≤ r / p * p := Nat.mul_le_mul_right _ (by omega)
        rw [Nat.add_mul] at this; omega
      have hw : ∀ i, i < r / p → ∀ t, t < p → x (b + i * p + t) = x (b + t) := by
        intro i hi t ht
        rw [hper i t (hin i t hi ht), Nat.mod_eq_of_lt ht]
      have hrest := fls_spec (x := x) (n := n) f (b + r / p * p) (by omega) (by omega)
      have hnext : ∀ s, s ∈ fls x n f (b + r / p * p) → NG x b p s.1 s.2 := by
        cases hL : fls x n f (b + r / p * p) with
        | nil => intro s hs; simp at hs
        | cons q L =>
          rw [hL] at hrest
          obtain ⟨g1, g2, g3, g4, g5⟩ := hrest
          have hq : NG x b p q.1 q.2 := by
            rw [g1]
            have hrp : ∀ t, r / p * p + t < r → x (b + r / p * p + t) = x (b + t) := fun t ht => by
              rw [hper (r / p) t ht, Nat.mod_eq_of_lt (by omega)]
            by_cases hc : q.2 ≤ r % p
            · exact Or.inl ⟨by omega, fun t ht => hrp t (by omega)⟩
            · refine Or.inr ⟨r % p, hml, by omega, fun t ht => hrp t (by omega), ?_⟩
              rcases hend with hend | hend
              · omega
              · have e1 : b + r / p * p + r % p = b + r := by omega
                have e2 : x (b + (r - p)) = x (b + r % p) := by
                  have := hd.mod (r - p) (by omega)
                  rw [← Nat.mod_eq_sub_mod hd.le] at this
                  exact this
                rw [e1, ← e2]; exact hend
          intro s hs
          rcases List.mem_cons.1 hs with rfl | hs
          · exact hq
          · exact hq.trans (by rw [g1]; exact g4 s hs)
      refine falls_times (r / p) b ?_ (by omega) ?_ ?_ hrest
      · intro i hi
        refine ⟨h0, fun a ha hap => ?_⟩
        obtain ⟨j, hj, hje, hjl⟩ := hd.lyn.2 a ha hap
        refine ⟨j, hj, fun t ht => ?_, ?_⟩
        · show x (b + i * p + (a + t)) = x (b + i * p + t)
          rw [hw i hi _ (by omega), hw i hi _ (by omega)]; exact hje t ht
        · show x (b + i * p + j) < x (b + i * p + (a + j))
          rw [hw i hi _ (by omega), hw i hi _ (by omega)]; exact hjl
      · intro i hi s hs
        have h1 : NG x (b + i * p) p b p := Or.inl ⟨by omega, fun t ht => (hw i hi t ht).symm⟩
        exact h1.trans (hnext s hs)
      · intro i j hi hj
        exact Or.inl ⟨by omega, fun t ht => by rw [hw i hi t ht, hw j hj t ht]⟩
    · rw [if_neg hb]; show b = n; omega

end Go.Proofs.YtojnjfkonaeegaaDoor
