/- Mathematics of Lyndon words: the first of the longest pieces of a word twice over is where it is least; a word is one piece just where it is less than all its turns. No condition. -/
import Derived.Test.YtojnjfkonaeegaaDoorDv1
namespace Go.Proofs.YtojnjfkonaeegaaDoor

theorem exists_first {p : Nat → Prop} (h : ∃ i, p i) : ∃ i, p i ∧ ∀ j, j < i → ¬p j := by
  obtain ⟨i, hi⟩ := h
  induction i using Nat.strongRecOn with
  | ind i ih =>
    by_cases hc : ∃ j, j < i ∧ p j
    · obtain ⟨j, hj, hpj⟩ := hc
      exact ih j hj hpj
    · exact ⟨i, hi, fun j hj hpj => hc ⟨j, hj, hpj⟩⟩

/-- What is read from i on is less than what is read from b on. -/
def LT (X : Nat → Int) (i b : Nat) : Prop := ∃ j, (∀ t, t < j → X (i + t) = X (b + t)) ∧ X (i + j) < X (b + j)
theorem LT.tri (X : Nat → Int) (i b : Nat) : LT X i b ∨ LT X b i ∨ ∀ t, X (i + t) = X (b + t) := by
  by_cases h : ∃ j, X (i + j) ≠ X (b + j)
  · obtain ⟨j, hj, hf⟩ := exists_first h
    have hf' : ∀ t, t < j → X (i + t) = X (b + t) := fun t ht => Classical.not_not.1 (hf t ht)
    rcases Int.lt_or_gt_of_ne hj with h1 | h1
    · exact Or.inl ⟨j, hf', h1⟩
    · exact Or.inr (Or.inl ⟨j, fun t ht => (hf' t ht).symm, h1⟩)
  · exact Or.inr (Or.inr fun t => Classical.not_not.1 fun hc => h ⟨t, hc⟩)

/-- The first of the longest. -/
def firstLongest : List (Nat × Nat) → Nat × Nat → Nat × Nat
  | [], q => q
  | s :: r, q => firstLongest r (if q.2 < s.2 then s else q)
theorem firstLongest_below {d : Nat} : ∀ (l : List (Nat × Nat)) (q : Nat × Nat), q.2 < d → (∀ s ∈ l, s.2 < d) → (firstLongest l q).2 < d
  | [], q, h, _ => h
  | s :: r, q, h, hl => by
    unfold firstLongest
    refine firstLongest_below r _ ?_ (fun s hs => hl s (List.mem_cons_of_mem _ hs))
    split
    · exact hl s (List.mem_cons_self ..)
    · exact h
theorem firstLongest_stay {d : Nat} : ∀ (l : List (Nat × Nat)) (q : Nat × Nat), q.2 = d → (∀ s ∈ l, s.2 ≤ d) → firstLongest l q = q
  | [], q, h, _ => rfl
  | s :: r, q, h, hl => by
    unfold firstLongest
    rw [if_neg (by have := hl s (List.mem_cons_self ..); omega)]
    exact firstLongest_stay r q h (fun s hs => hl s (List.mem_cons_of_mem _ hs))
theorem firstLongest_append : ∀ (l m : List (Nat × Nat)) (q : Nat × Nat), firstLongest (l ++ m) q = firstLongest m (firstLongest l q)
  | [], m, q => rfl
  | s :: r, m, q => by simp only [List.cons_append, firstLongest]; exact firstLongest_append r m _

theorem Falls.lyn {x : Nat → Int} {n : Nat} : ∀ {b : Nat} {l : List (Nat × Nat)}, Falls x n b l → ∀ s ∈ l, Lyn (fun t => x (s.1 + t)) s.2
  | b, [], _, s, hs => by simp at hs
  | b, q :: r, h, s, hs => by
    obtain ⟨h1, h2, h3, h4, h5⟩ := h
    rcases List.mem_cons.1 hs with rfl | hs
    · rw [h1]; exact h2
    · exact h5.lyn s hs
theorem Falls.ends {x : Nat → Int} {n : Nat} : ∀ {b : Nat} {l : List (Nat × Nat)}, Falls x n b l → ∀ s ∈ l, b ≤ s.1 ∧ s.1 + s.2 ≤ n
  | b, [], _, s, hs => by simp at hs
  | b, q :: r, h, s, hs => by
    obtain ⟨h1, h2, h3, h4, h5⟩ := h
    rcases List.mem_cons.1 hs with rfl | hs
    · exact ⟨by omega, by omega⟩
    · have := h5.ends s hs
      exact ⟨by omega, this.2⟩
/-- A piece holds each place. -/
theorem Falls.holds {x : Nat → Int} {n : Nat} : ∀ {b : Nat} {l : List (Nat × Nat)}, Falls x n b l → ∀ i, b ≤ i → i < n → ∃ s ∈ l, s.1 ≤ i ∧ i < s.1 + s.2
  | b, [], h, i, h1, h2 => by have : b = n := h; omega
  | b, q :: r, h, i, hi, hn => by
    obtain ⟨h1, h2, h3, h4, h5⟩ := h
    by_cases hc : i < b + q.2
    · exact ⟨q, List.mem_cons_self .., by omega, by omega⟩
    · obtain ⟨s, hs, h6⟩ := h5.holds i (by omega) hn
      exact ⟨s, List.mem_cons_of_mem _ hs, h6⟩
theorem Falls.len {x : Nat → Int} {n : Nat} : ∀ {b : Nat} {l : List (Nat × Nat)}, Falls x n b l → b + l.length ≤ n
  | b, [], h => by have : b = n := h; simp; omega
  | b, q :: r, h => by
    obtain ⟨h1, h2, h3, h4, h5⟩ := h
    have := h5.len
    have := h2.1
    simp only [List.length_cons]; omega
theorem fls_len (x : Nat → Int) (n : Nat) : (fls x n n 0).length ≤ n := by
  have := (fls_spec (x := x) (n := n) n 0 (by omega) (by omega)).len
  omega
/-- Where no piece goes over b, one begins there. -/
theorem Falls.at {x : Nat → Int} {n a : Nat} : ∀ {b : Nat} {l : List (Nat × Nat)}, Falls x n b l → b ≤ a → a < n → (∀ s ∈ l, s.1 < a → s.1 + s.2 ≤ a) →
    ∃ pre q post, l = pre ++ q :: post ∧ q.1 = a ∧ (∀ s ∈ pre, s.1 + s.2 ≤ a) ∧ Lyn (fun t => x (a + t)) q.2 ∧ (∀ s ∈ post, NG x a q.2 s.1 s.2) ∧ Falls x n (a + q.2) post
  | b, [], h, h1, h2, _ => by have : b = n := h; omega
  | b, q :: r, h, hb, hn, ho => by
    obtain ⟨h1, h2, h3, h4, h5⟩ := h
    by_cases hc : b = a
    · subst hc
      exact ⟨[], q, r, rfl, h1, by simp, h2, h4, h5⟩
    · have h6 := ho q (List.mem_cons_self ..) (by omega)
      obtain ⟨pre, q', post, g1, g2, g3, g4⟩ := Falls.at h5 (by omega) hn (fun s hs => ho s (List.mem_cons_of_mem _ hs))
      refine ⟨q :: pre, q', post, by rw [g1]; rfl, g2, fun s hs => ?_, g4⟩
      rcases List.mem_cons.1 hs with rfl | hs
      · exact h6
      · exact g3 s hs

theorem least_spec {X : Nat → Int} {n b : Nat} {l : List (Nat × Nat)} (hX : ∀ t, X (t + n) = X t) (hb : b < n) (hmin : ∀ i, ¬LT X i b) (hleast : ∀ i, i < b → LT X b i) (hF : Falls X (n + n) 0 l) :
    (firstLongest l (0, 0)).1 = b := by
  have hex : ∃ d, 0 < d ∧ ∀ t, X (t + d) = X t := ⟨n, by omega, hX⟩
  obtain ⟨d, ⟨hd0, hd⟩, hdl⟩ := exists_first hex
  have hdn : d ≤ n := by
    rcases Nat.lt_or_ge n d with h | h
    · exact (hdl n h ⟨by omega, hX⟩).elim
    · exact h
  have hbd : b < d := by
    rcases Nat.lt_or_ge b d with h | h
    · exact h
    · exfalso
      obtain ⟨j, _, hj⟩ := hleast (b - d) (by omega)
      have := hd (b - d + j)
      rw [show b - d + j + d = b + j by omega] at this
      omega
  -- the word at b is a Lyndon word
  have hv : Lyn (fun t => X (b + t)) d := by
    refine ⟨hd0, fun i hi0 hid => ?_⟩
    rcases LT.tri X (b + i) b with h | h | h
    · exact (hmin _ h).elim
    · obtain ⟨j, hj, hjl⟩ := h
      by_cases hij : i + j < d
      · exact ⟨j, hij, fun t ht => by show X (b + (i + t)) = X (b + t); rw [hj t ht, Nat.add_assoc], by show X (b + j) < X (b + (i + j)); rw [← Nat.add_assoc]; exact hjl⟩
      · exfalso
        refine hmin (b + (d - i)) ⟨j - (d - i), fun t ht => ?_, ?_⟩
        · have h1 := hj (d - i + t) (by omega)
          have h2 := hd (b + t)
          rw [show b + t + d = b + i + (d - i + t) by omega] at h2
          rw [show b + (d - i) + t = b + (d - i + t) by omega, h1, h2]
        · have h2 := hd (b + (j - (d - i)))
          rw [show b + (j - (d - i)) + d = b + i + j by omega] at h2
          rw [show b + (d - i) + (j - (d - i)) = b + j by omega, ← h2]
          exact hjl
    · exfalso
      refine hdl i hid ⟨hi0, fun t => ?_⟩
      -- i is a period
      have h1 : ∀ t, X (b + i + t) = X (b + t) := h
      have h2 : ∀ k t, X (t + k * n) = X t := by
        intro k
        induction k with
        | zero => intro t; simp
        | succ k ih => intro t; rw [Nat.add_mul, Nat.one_mul, ← Nat.add_assoc, hX, ih]
      have h3 := h1 (t + b * n - b)
      have hbn : b ≤ b * n := Nat.le_mul_of_pos_right _ (by omega)
      rw [show b + i + (t + b * n - b) = t + i + b * n by omega, show b + (t + b * n - b) = t + b * n by omega, h2, h2] at h3
      exact h3
  have hlen : ∀ s ∈ l, s.2 ≤ d := by
    intro s hs
    rcases Nat.lt_or_ge d s.2 with h | h
    · exfalso
      obtain ⟨j, _, _, hj⟩ := (hF.lyn s hs).2 d hd0 h
      have := hd (s.1 + j)
      rw [show s.1 + j + d = s.1 + (d + j) by omega] at this
      simp only at hj
      omega
    · exact h
  have hover : ∀ s ∈ l, s.1 < b → s.1 + s.2 ≤ b := by
    intro s hs hsb
    rcases Nat.lt_or_ge b (s.1 + s.2) with h | h
    · exfalso
      obtain ⟨j, hj1, hj2, hj3⟩ := (hF.lyn s hs).2 (b - s.1) (by omega) (by omega)
      refine hmin s.1 ⟨j, fun t ht => ?_, ?_⟩
      · have := hj2 t ht
        simp only at this
        rw [← this]; congr 1; omega
      · simp only at hj3
        rw [show s.1 + (b - s.1 + j) = b + j by omega] at hj3
        exact hj3
    · exact h
  obtain ⟨pre, q, post, g1, g2, g3, g4, g5, g6⟩ := hF.at (by omega) (by omega) hover
  have hq : q.2 = d := by
    have h1 : q.2 ≤ d := hlen q (by rw [g1]; simp)
    rcases Nat.lt_or_ge q.2 d with h | h
    · exfalso
      obtain ⟨s, hs, hs1, hs2⟩ := g6.holds (b + d - 1) (by omega) (by omega)
      have hs3 := (g6.ends s hs).1
      have hq0 := g4.1
      obtain ⟨j, hj1, hj2, hj3⟩ := hv.2 (s.1 - b) (by omega) (by omega)
      have hj2' : ∀ t, t < j → X (s.1 + t) = X (b + t) := fun t ht => by
        have := hj2 t ht
        simp only at this
        rw [← this]; congr 1; omega
      have hj3' : X (b + j) < X (s.1 + j) := by
        simp only at hj3
        rw [show b + (s.1 - b + j) = s.1 + j by omega] at hj3
        exact hj3
      rcases g5 s hs with ⟨e1, e2⟩ | ⟨i, e1, e2, e3, e4⟩
      · have := e2 j (by omega); omega
      · rcases Nat.lt_trichotomy i j with hij | hij | hij
        · have := hj2' i hij; omega
        · subst hij; omega
        · have := e3 j hij; omega
    · omega
  rw [g1, firstLongest_append]
  have hp : (firstLongest pre (0, 0)).2 < d := firstLongest_below pre _ hd0 fun s hs => by have := g3 s hs; omega
  show (firstLongest post (if (firstLongest pre (0, 0)).2 < q.2 then q else firstLongest pre (0, 0))).1 = b
  rw [if_pos (by omega), firstLongest_stay post q hq (fun s hs => hlen s (by rw [g1]; simp [hs])), g2]

/-- A word that is one piece is less than its turns. -/
theorem turn_of_one {X : Nat → Int} {n : Nat} (h : Lyn X n) : ∀ i, 0 < i → i < n → LT X 0 i := by
  intro i h0 hi
  obtain ⟨j, _, h2, h3⟩ := h.2 i h0 hi
  exact ⟨j, fun t ht => by rw [Nat.zero_add]; exact (h2 t ht).symm, by rw [Nat.zero_add]; exact h3⟩

theorem Falls.period {x : Nat → Int} {n m : Nat} (hm : 0 < m) : ∀ {b : Nat} {l : List (Nat × Nat)}, Falls x n b l → b % m = 0 → (∀ s ∈ l, s.2 = m ∧ ∀ t, t < m → x (s.1 + t) = x t) → ∀ i, b ≤ i → i < n → x i = x (i % m)
  | b, [], h, _, _, i, h1, h2 => by have : b = n := h; omega
  | b, q :: r, h, hb, hs, i, hi, hn => by
    obtain ⟨h1, h2, h3, h4, h5⟩ := h
    obtain ⟨e1, e2⟩ := hs q (List.mem_cons_self ..)
    by_cases hc : i < b + q.2
    · have : i % m = i - b := by
        have h7 : i % m = (b + (i - b)) % m := by congr 1; omega
        rw [h7, Nat.add_mod, hb, Nat.zero_add, Nat.mod_mod, Nat.mod_eq_of_lt (by omega)]
      rw [this, ← e2 (i - b) (by omega), h1]; congr 1; omega
    · exact Falls.period hm h5 (by rw [e1, Nat.add_mod, hb]; simp) (fun s hs' => hs s (List.mem_cons_of_mem _ hs')) i (by omega) hn

/-- A word of more pieces than one is not less than the turn that begins at the last one. -/
theorem turn_of_more {X : Nat → Int} {n : Nat} (hX : ∀ t, X (t + n) = X t) {q : Nat × Nat} {l : List (Nat × Nat)} (hl : l ≠ []) (hF : Falls X n 0 (q :: l)) :
    ∃ i, 0 < i ∧ i < n ∧ ¬LT X 0 i := by
  obtain ⟨h1, h2, h3, h4, h5⟩ := hF
  -- the last piece
  have hlast : ∀ (b : Nat) (l : List (Nat × Nat)), l ≠ [] → Falls X n b l → ∃ s ∈ l, s.1 + s.2 = n ∧ ∀ e ∈ l, NG X e.1 e.2 s.1 s.2 := by
    intro b l
    induction l generalizing b with
    | nil => intro h; exact absurd rfl h
    | cons a r ih =>
      intro _ hf
      obtain ⟨f1, f2, f3, f4, f5⟩ := hf
      cases r with
      | nil =>
        have : b + a.2 = n := f5
        refine ⟨a, List.mem_cons_self .., by omega, fun e he => ?_⟩
        rcases List.mem_cons.1 he with rfl | he
        · exact NG.same ..
        · simp at he
      | cons a' r' =>
        obtain ⟨s, hs, e1, e2⟩ := ih _ (by simp) f5
        refine ⟨s, List.mem_cons_of_mem _ hs, e1, fun e he => ?_⟩
        rcases List.mem_cons.1 he with rfl | he
        · rw [f1]; exact f4 s hs
        · exact e2 e he
  obtain ⟨s, hs, hs1, hs2⟩ := hlast _ l hl h5
  have hs0 := (h5.lyn s hs).1
  have hsb := (h5.ends s hs).1
  have hq0 := h2.1
  have hqs : NG X 0 q.2 s.1 s.2 := h4 s hs
  refine ⟨s.1, by omega, by omega, ?_⟩
  rintro ⟨j, hj1, hj2⟩
  simp only [Nat.zero_add] at hj1 hj2
  rcases hqs with ⟨e1, e2⟩ | ⟨i, e1, e2, e3, e4⟩
  · simp only [Nat.zero_add] at e2
    have hjm : s.2 ≤ j := by
      rcases Nat.lt_or_ge j s.2 with h | h
      · have := e2 j h; omega
      · exact h
    have hback : ∀ t, X (s.1 + (s.2 + t)) = X t := fun t => by
      rw [show s.1 + (s.2 + t) = t + n by omega]; exact hX t
    have hk : X j < X (j - s.2) := by
      have := hback (j - s.2)
      rw [show s.2 + (j - s.2) = j by omega] at this
      rw [← this]; exact hj2
    have hkt : ∀ t, t < j - s.2 → X (s.2 + t) = X t := fun t ht => by rw [hj1 (s.2 + t) (by omega)]; exact hback t
    by_cases hm : s.2 < q.2
    · obtain ⟨i, i1, i2, i3⟩ := h2.2 s.2 hs0 hm
      simp only [Nat.zero_add] at i2 i3
      rcases Nat.lt_trichotomy i (j - s.2) with hij | hij | hij
      · have := hkt i hij; omega
      · subst hij
        rw [show s.2 + (j - s.2) = j by omega] at i3
        omega
      · have := i2 (j - s.2) hij
        rw [show s.2 + (j - s.2) = j by omega] at this
        omega
    · -- all pieces are the same
      have hall : ∀ e ∈ q :: l, e.2 = q.2 ∧ ∀ t, t < q.2 → X (e.1 + t) = X t := by
        intro e he
        rcases List.mem_cons.1 he with rfl | he
        · exact ⟨rfl, fun t _ => by rw [h1, Nat.zero_add]⟩
        · have a1 : NG X 0 q.2 e.1 e.2 := h4 e he
          have a2 : NG X e.1 e.2 s.1 s.2 := hs2 e he
          rcases a1 with ⟨b1, b2⟩ | ⟨i, b1, b2, b3, b4⟩
          · simp only [Nat.zero_add] at b2
            rcases a2 with ⟨c1, c2⟩ | ⟨i, c1, c2, c3, c4⟩
            · exact ⟨by omega, fun t ht => b2 t (by omega)⟩
            · exfalso
              have := b2 i c1
              have := e2 i c2
              omega
          · exfalso
            simp only [Nat.zero_add] at b3 b4
            rcases a2 with ⟨c1, c2⟩ | ⟨k, c1, c2, c3, c4⟩
            · have := c2 i (by omega)
              have := e2 i (by omega)
              omega
            · rcases Nat.lt_trichotomy i k with hik | hik | hik
              · have := c3 i hik
                have := e2 i (by omega)
                omega
              · subst hik
                have := e2 i (by omega)
                omega
              · have := b3 k hik
                have := e2 k (by omega)
                omega
      have hjn : j < n := by
        rcases Nat.lt_or_ge j n with h | h
        · exact h
        · exfalso
          have g1 := hj1 (j - n) (by omega)
          have g2 := hX (j - n)
          have g3 := hX (s.1 + (j - n))
          rw [show j - n + n = j by omega] at g2
          rw [show s.1 + (j - n) + n = s.1 + j by omega] at g3
          omega
      have hper := Falls.period (x := X) (n := n) (m := q.2) hq0 (l := q :: l) (b := 0) ⟨h1, h2, h3, h4, h5⟩ (by simp) hall
      have p1 := hper j (by omega) hjn
      have p2 := hper (j - s.2) (by omega) (by omega)
      have hsq : s.2 = q.2 := by omega
      rw [hsq, ← Nat.mod_eq_sub_mod (show q.2 ≤ j by omega), ← p1, ← hsq] at p2
      omega
  · simp only [Nat.zero_add] at e3 e4
    rcases Nat.lt_trichotomy i j with hij | hij | hij
    · have := hj1 i hij; omega
    · subst hij; omega
    · have := e3 j hij; omega

end Go.Proofs.YtojnjfkonaeegaaDoor
