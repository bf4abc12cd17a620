/- Mathematics of words: what conjugates a word that is reduced in a ring turns it; roots of what is conjugated; words that commute. No condition. -/
import Derived.Test.YtakmfhnigpmngaaFm2
namespace Go.Proofs.Ytakmfhnigpmngaa

theorem Rd.app {u v : List Int} (hu : Rd u) (hv : Rd v) (hj : ∀ x y, u[u.length - 1]? = some x → v[0]? = some y → x ≠ -y) : Rd (u ++ v) := by
  intro i x y h1 h2
  rcases Nat.lt_trichotomy (i + 1) u.length with h | h | h
  · rw [List.getElem?_append_left (by omega)] at h1
    rw [List.getElem?_append_left h] at h2
    exact hu i x y h1 h2
  · rw [List.getElem?_append_left (by omega)] at h1
    rw [List.getElem?_append_right (by omega)] at h2
    exact hj x y (by rw [show u.length - 1 = i by omega]; exact h1) (by rw [show i + 1 - u.length = 0 by omega] at h2; exact h2)
  · rw [List.getElem?_append_right (by omega)] at h1
    rw [List.getElem?_append_right (by omega)] at h2
    exact hv (i - u.length) x y h1 (by rw [show i - u.length + 1 = i + 1 - u.length by omega]; exact h2)

/-- Reduced also where the end meets the beginning. -/
structure CR (z : List Int) : Prop where
  pos : 0 < z.length
  ne : ∀ i, ex z i ≠ -(ex z (i + 1))
theorem ex_some {z : List Int} {i : Nat} {x : Int} (h : z[i]? = some x) : ex z i = x := by
  have hl := (List.getElem?_eq_some_iff.1 h).1
  rw [ex_lt hl, h]; rfl
theorem CR.rd {z : List Int} (h : CR z) : Rd z := fun i x y h1 h2 => by
  rw [← ex_some h1, ← ex_some h2]; exact h.ne i
theorem CR.cyc {z : List Int} (h : CR z) : Cyc z := fun x y h1 h2 => by
  have e1 := ex_some h1
  have e2 := ex_some h2
  have h3 := h.ne (z.length - 1)
  have h4 := per_len z 0
  have := h.pos
  rw [show z.length - 1 + 1 = 0 + z.length by omega, h4, e1, e2] at h3
  omega
theorem CR.of {z : List Int} (h : Rd z) (hc : Cyc z) (h0 : 0 < z.length) : CR z := ⟨h0, fun i => by
  have hm := Nat.mod_lt i h0
  by_cases hl : i % z.length + 1 < z.length
  · have e2 : ex z (i + 1) = z[i % z.length + 1]?.getD 0 := by
      unfold ex
      rw [Nat.add_mod, show 1 % z.length = 1 from Nat.mod_eq_of_lt (by omega), Nat.mod_eq_of_lt hl]
    rw [e2]
    unfold ex
    have := h (i % z.length) _ _ (List.getElem?_eq_getElem hm) (List.getElem?_eq_getElem hl)
    rw [List.getElem?_eq_getElem hm, List.getElem?_eq_getElem hl]
    exact this
  · have e0 : (i + 1) % z.length = 0 := by
      have h1 : i % z.length = z.length - 1 := by omega
      have h2 : (i + 1) % z.length = (i % z.length + 1) % z.length := by rw [Nat.mod_add_mod]
      rw [h2, h1, show z.length - 1 + 1 = z.length by omega, Nat.mod_self]
    have hl1 : z.length - 1 < z.length := by omega
    unfold ex
    rw [e0, show i % z.length = z.length - 1 by omega]
    have := hc _ _ (List.getElem?_eq_getElem h0) (List.getElem?_eq_getElem hl1)
    rw [List.getElem?_eq_getElem h0, List.getElem?_eq_getElem hl1]
    simp only [Option.getD_some]
    omega⟩
theorem CR.pw {z : List Int} (h : CR z) {m : Nat} (hm : 0 < m) : CR (pw z m) := ⟨by rw [pw_len]; exact Nat.mul_pos hm h.pos, fun i => by rw [ex_pw hm, ex_pw hm]; exact h.ne i⟩
theorem CR.of_pw {z : List Int} {m : Nat} (hm : 0 < m) (h : CR (Go.Proofs.Ytakmfhnigpmngaa.pw z m)) : CR z := ⟨by
  have := h.pos
  rw [pw_len] at this
  exact Nat.pos_of_mul_pos_left this, fun i => by have := h.ne i; rwa [ex_pw hm, ex_pw hm] at this⟩
theorem ex_snoc (z0 : List Int) (l : Int) (i : Nat) : ex (l :: z0) (i + 1) = ex (z0 ++ [l]) i := by
  have hl : (z0 ++ [l]).length = z0.length + 1 := by simp
  have h0 : 0 < z0.length + 1 := by omega
  have hm := Nat.mod_lt i h0
  unfold ex
  rw [hl, List.length_cons]
  by_cases h : i % (z0.length + 1) < z0.length
  · have e : (i + 1) % (z0.length + 1) = i % (z0.length + 1) + 1 := by
      rw [← Nat.mod_add_mod, Nat.mod_eq_of_lt (by omega)]
    rw [e, List.getElem?_cons_succ, List.getElem?_append_left h]
  · have e1 : i % (z0.length + 1) = z0.length := by omega
    have e : (i + 1) % (z0.length + 1) = 0 := by
      rw [← Nat.mod_add_mod, e1, Nat.mod_self]
    rw [e, e1]
    simp
theorem CR.turn {z0 : List Int} {l : Int} (h : CR (z0 ++ [l])) : CR (l :: z0) := ⟨by simp, fun i => by
  have h1 : ex (l :: z0) i = ex (z0 ++ [l]) (i + z0.length) := by
    have := ex_snoc z0 l (i + z0.length)
    rw [← this, show i + z0.length + 1 = i + (l :: z0).length by simp; omega]
    exact (per_len (l :: z0) i).symm
  have h2 : ex (l :: z0) (i + 1) = ex (z0 ++ [l]) (i + z0.length + 1) := by
    have := ex_snoc z0 l (i + z0.length + 1)
    rw [← this, show i + z0.length + 1 + 1 = (i + 1) + (l :: z0).length by simp; omega]
    exact (per_len (l :: z0) (i + 1)).symm
  rw [h1, h2]; exact h.ne _⟩
theorem CR.turn' {z0 : List Int} {l : Int} (h : CR (l :: z0)) : CR (z0 ++ [l]) := ⟨by simp, fun i => by
  rw [← ex_snoc, ← ex_snoc]; exact h.ne _⟩
theorem pw_turn (z0 : List Int) (l : Int) (m : Nat) : l :: pw (z0 ++ [l]) m = pw (l :: z0) m ++ [l] := by
  induction m with
  | zero => rfl
  | succ m ih =>
    rw [pw_succ, pw_succ]
    have : l :: (z0 ++ [l] ++ pw (z0 ++ [l]) m) = (l :: z0) ++ (l :: pw (z0 ++ [l]) m) := by simp
    rw [this, ih]; simp
theorem eqv_cancel (u v : List Int) (x : Int) : Eqv (u ++ x :: -x :: v) (u ++ v) := by
  unfold Eqv red
  rw [stk_cancel Rd.nil]

theorem last_of {y : List Int} (h : y ≠ []) : ∃ y' l, y = y' ++ [l] := ⟨y.dropLast, y.getLast h, (List.dropLast_concat_getLast h).symm⟩
/-- Where neither end is taken away, what is conjugated is no ring. -/
theorem no_conj {y' z : List Int} {l : Int} {m : Nat} (hm : 0 < m) (hy : Rd (y' ++ [l])) (hz : CR z) (h1 : l ≠ ex z (z.length - 1)) (h2 : l ≠ -(ex z 0)) : ¬ Cyc (red (y' ++ [l] ++ (pw z m ++ wi (y' ++ [l])))) := by
  have hp := hz.pw hm
  have hp0 := hp.pos
  have hz0 := hz.pos
  have e0 : (pw z m)[0]? = some (ex z 0) := by
    rw [List.getElem?_eq_getElem hp0, ← ex_pw hm, ex_lt hp0, List.getElem?_eq_getElem hp0]; rfl
  have el : (pw z m)[(pw z m).length - 1]? = some (ex z (z.length - 1)) := by
    have hl : (pw z m).length - 1 < (pw z m).length := by omega
    have : ex z ((pw z m).length - 1) = ex z (z.length - 1) := by
      rw [pw_len]
      obtain ⟨k, rfl⟩ : ∃ k, m = k + 1 := ⟨m - 1, by omega⟩
      have := (per_len z).mul k (z.length - 1)
      rw [← this]
      congr 1
      rw [Nat.succ_mul, Nat.mul_comm]; omega
    rw [← this, List.getElem?_eq_getElem hl, ← ex_pw hm, ex_lt hl, List.getElem?_eq_getElem hl]; rfl
  have hin : Rd (pw z m ++ wi (y' ++ [l])) := by
    refine hp.rd.app hy.wi ?_
    intro x y hx hy'
    rw [el] at hx
    rw [wi_append] at hy'
    simp [wi] at hy' hx
    omega
  have hall : Rd (y' ++ [l] ++ (pw z m ++ wi (y' ++ [l]))) := by
    refine hy.app hin ?_
    intro x y hx hy'
    rw [List.getElem?_append_left hp0, e0] at hy'
    simp at hx hy'
    omega
  rw [red_of_rd hall]
  intro hc
  have hne : 0 < (y' ++ [l]).length := by simp
  obtain ⟨x, r, hx⟩ : ∃ x r, y' ++ [l] = x :: r := by
    cases h : y' ++ [l] with
    | nil => rw [h] at hne; simp at hne
    | cons x r => exact ⟨x, r, rfl⟩
  rw [hx] at hc
  have e : x :: r ++ (pw z m ++ wi (x :: r)) = (x :: r ++ (pw z m ++ wi r)) ++ [-x] := by rw [wi_cons]; simp
  refine hc x (-x) rfl ?_ (by omega)
  rw [e, List.length_append, List.getElem?_append_right (by simp)]
  simp

theorem conj_right (y' z0 : List Int) (l : Int) (m : Nat) : Eqv (y' ++ [l] ++ (pw (z0 ++ [l]) m ++ wi (y' ++ [l]))) (y' ++ (pw (l :: z0) m ++ wi y')) := by
  have e : y' ++ [l] ++ (pw (z0 ++ [l]) m ++ wi (y' ++ [l])) = (y' ++ pw (l :: z0) m) ++ l :: -l :: wi y' := by
    have h1 := pw_turn z0 l m
    have h2 : y' ++ [l] ++ (pw (z0 ++ [l]) m ++ wi (y' ++ [l])) = y' ++ ((l :: pw (z0 ++ [l]) m) ++ wi (y' ++ [l])) := by simp
    rw [h2, h1, wi_append]
    simp [wi]
  rw [e]
  have := eqv_cancel (y' ++ pw (l :: z0) m) (wi y') l
  simpa using this
theorem conj_left (y' z0 : List Int) (l : Int) (m : Nat) : Eqv (y' ++ [l] ++ (pw ((-l) :: z0) m ++ wi (y' ++ [l]))) (y' ++ (pw (z0 ++ [-l]) m ++ wi y')) := by
  have e : y' ++ [l] ++ (pw ((-l) :: z0) m ++ wi (y' ++ [l])) = y' ++ l :: -l :: (pw (z0 ++ [-l]) m ++ wi y') := by
    have h1 := pw_turn z0 (-l) m
    have h2 : y' ++ [l] ++ (pw ((-l) :: z0) m ++ wi (y' ++ [l])) = y' ++ l :: ((pw ((-l) :: z0) m ++ [-l]) ++ wi y') := by
      rw [wi_append]; simp [wi]
    rw [h2, ← h1]; simp
  rw [e]
  exact eqv_cancel y' _ l
theorem conj_right1 (y' z0 : List Int) (l : Int) : Eqv (y' ++ [l] ++ ((z0 ++ [l]) ++ wi (y' ++ [l]))) (y' ++ ((l :: z0) ++ wi y')) := by
  have := conj_right y' z0 l 1
  rwa [pw_one, pw_one] at this
theorem conj_left1 (y' z0 : List Int) (l : Int) : Eqv (y' ++ [l] ++ (((-l) :: z0) ++ wi (y' ++ [l]))) (y' ++ ((z0 ++ [-l]) ++ wi y')) := by
  have := conj_left y' z0 l 1
  rwa [pw_one, pw_one] at this

/-- What conjugates a word to such a one turns it. -/
theorem conj_turn : ∀ n (y z : List Int) (m : Nat), y.length = n → Rd y → CR z → 0 < m → Cyc (red (y ++ (pw z m ++ wi y))) →
    ∃ q t, red (y ++ (z ++ wi y)) = q ∧ red (y ++ (pw z m ++ wi y)) = pw q m ∧ q.length = z.length ∧ ∀ i, ex q i = ex z (i + t) := by
  intro n
  induction n with
  | zero =>
    intro y z m hn hy hz hm hc
    have : y = [] := List.length_eq_zero_iff.1 hn
    subst this
    refine ⟨z, 0, ?_, ?_, rfl, fun i => rfl⟩
    · simpa [wi] using red_of_rd hz.rd
    · simpa [wi] using red_of_rd (hz.pw hm).rd
  | succ n ih =>
    intro y z m hn hy hz hm hc
    obtain ⟨y', l, rfl⟩ := last_of (y := y) (by intro e; rw [e] at hn; simp at hn)
    have hn' : y'.length = n := by simpa using hn
    have hy' : Rd y' := hy.left
    have hz0 := hz.pos
    by_cases h1 : l = ex z (z.length - 1)
    · obtain ⟨z0, l2, rfl⟩ := last_of (y := z) (by intro e; rw [e] at hz0; simp at hz0)
      have hl2 : l2 = l := by
        rw [h1, ex_lt (by simp)]; simp
      subst hl2
      have e1 := conj_right y' z0 l2 m
      have e2 := conj_right1 y' z0 l2
      unfold Eqv at e1 e2
      rw [e1] at hc ⊢
      rw [e2]
      obtain ⟨q, t, r1, r2, r3, r4⟩ := ih y' (l2 :: z0) m hn' hy' hz.turn hm hc
      refine ⟨q, t + z0.length, r1, r2, by simpa using r3, fun i => ?_⟩
      rw [r4, ← per_len (l2 :: z0) (i + t), show i + t + (l2 :: z0).length = (i + (t + z0.length)) + 1 by simp; omega, ex_snoc]
    · by_cases h2 : l = -(ex z 0)
      · obtain ⟨x, z0, rfl⟩ : ∃ x z0, z = x :: z0 := by
          cases z with
          | nil => simp at hz0
          | cons x r => exact ⟨x, r, rfl⟩
        have hx : x = -l := by
          have : ex (x :: z0) 0 = x := ex_some rfl
          omega
        subst hx
        have e1 := conj_left y' z0 l m
        have e2 := conj_left1 y' z0 l
        unfold Eqv at e1 e2
        rw [e1] at hc ⊢
        rw [e2]
        obtain ⟨q, t, r1, r2, r3, r4⟩ := ih y' (z0 ++ [-l]) m hn' hy' hz.turn' hm hc
        refine ⟨q, t + 1, r1, r2, by simpa using r3, fun i => ?_⟩
        rw [r4, ← ex_snoc, Nat.add_assoc]
      · exact absurd hc (no_conj hm hy hz h1 h2)

/-- What conjugates it, letter by letter from its end, is an end of its powers. -/
theorem conj_tail : ∀ n (y z : List Int), y.length = n + 1 → Rd y → CR z → y[y.length - 1]? = some (ex z (z.length - 1)) → Cyc (red (y ++ (z ++ wi y))) →
    ∃ u N, pw z N = u ++ y ∧ ∀ i, ex (red (y ++ (z ++ wi y))) (i + (n + 1)) = ex z i := by
  intro n
  induction n with
  | zero =>
    intro y z hn hy hz hl hc
    obtain ⟨y', l, rfl⟩ := last_of (y := y) (by intro e; rw [e] at hn; simp at hn)
    have hn' : y' = [] := List.length_eq_zero_iff.1 (by simpa using hn)
    subst hn'
    have hz0 := hz.pos
    obtain ⟨z0, l2, rfl⟩ := last_of (y := z) (by intro e; rw [e] at hz0; simp at hz0)
    have hl2 : l2 = l := by
      rw [ex_lt (by simp)] at hl; simp at hl; exact hl.symm
    subst hl2
    refine ⟨z0, 1, by rw [pw_one]; simp, fun i => ?_⟩
    have e2 := conj_right1 [] z0 l2
    unfold Eqv at e2
    rw [e2]
    have : red ([] ++ ((l2 :: z0) ++ wi [])) = l2 :: z0 := by simpa [wi] using red_of_rd hz.turn.rd
    rw [this, ex_snoc]
  | succ n ih =>
    intro y z hn hy hz hl hc
    obtain ⟨y', l, rfl⟩ := last_of (y := y) (by intro e; rw [e] at hn; simp at hn)
    have hn' : y'.length = n + 1 := by simpa using hn
    have hz0 := hz.pos
    obtain ⟨z0, l2, rfl⟩ := last_of (y := z) (by intro e; rw [e] at hz0; simp at hz0)
    have hl2 : l2 = l := by
      rw [ex_lt (by simp)] at hl; simp at hl; exact hl.symm
    subst hl2
    have e2 := conj_right1 y' z0 l2
    unfold Eqv at e2
    rw [e2] at hc ⊢
    obtain ⟨y2, l3, rfl⟩ := last_of (y := y') (by intro e; rw [e] at hn'; simp at hn')
    have h3 : l3 ≠ -(ex (l2 :: z0) 0) := by
      have e0 : ex (l2 :: z0) 0 = l2 := ex_some rfl
      rw [e0]
      exact hy y2.length l3 l2 (by simp) (by simp)
    have h4 : l3 = ex (l2 :: z0) ((l2 :: z0).length - 1) := by
      false_or_by_contra
      rename_i hne
      refine no_conj (m := 1) (by omega) hy.left hz.turn hne h3 ?_
      rw [pw_one]; exact hc
    obtain ⟨u, N, r1, r2⟩ := ih (y2 ++ [l3]) (l2 :: z0) hn' hy.left hz.turn (by rw [← h4]; simp) hc
    refine ⟨z0 ++ u, N + 1, ?_, fun i => ?_⟩
    · rw [pw_succ]
      have : z0 ++ [l2] ++ pw (z0 ++ [l2]) N = z0 ++ (l2 :: pw (z0 ++ [l2]) N) := by simp
      rw [this, pw_turn, r1]; simp
    · have := r2 (i + 1)
      rw [show i + 1 + (n + 1) = i + (n + 1 + 1) by omega] at this
      rw [this, ex_snoc]

theorem perOf_exists {c : List Int} (hc : 0 < c.length) : ∃ n, PerOf c n := by
  have key : ∀ n, 0 < n → Per c n → ∃ m, PerOf c m := by
    intro n
    induction n using Nat.strongRecOn with
    | _ n ih =>
      intro h0 hn
      by_cases h : ∃ d, 0 < d ∧ d < n ∧ Per c d
      · obtain ⟨d, h1, h2, h3⟩ := h
        exact ih d h2 h1 h3
      · exact ⟨n, h0, hn, fun d h1 h2 h3 => h ⟨d, h1, h2, h3⟩⟩
  exact key _ hc (per_len c)
theorem Prim.wi {z : List Int} (h : Prim z) : Prim (wi z) := by
  have h0 : 0 < (Go.Proofs.Ytakmfhnigpmngaa.wi z).length := by rw [wi_length]; exact h.pos
  obtain ⟨n, hn⟩ := perOf_exists h0
  obtain ⟨_, h2, h3⟩ := prim_of hn h0
  have hd := hn.dvd (per_len _)
  have hle := Nat.le_of_dvd h0 hd
  have e : z = pw (Go.Proofs.Ytakmfhnigpmngaa.wi ((Go.Proofs.Ytakmfhnigpmngaa.wi z).take n)) ((Go.Proofs.Ytakmfhnigpmngaa.wi z).length / n) := by
    rw [← pw_wi, ← h2, wi_wi]
  have hp : Per z n := by
    rw [e]
    refine (per_pw h3 n).2 ?_
    have := per_len (Go.Proofs.Ytakmfhnigpmngaa.wi ((Go.Proofs.Ytakmfhnigpmngaa.wi z).take n))
    rwa [wi_length, List.length_take, Nat.min_eq_left hle] at this
  have h5 := h.dvd hp
  have h6 : n = z.length := Nat.dvd_antisymm (by rwa [wi_length] at hd) h5
  unfold Prim
  rw [wi_length, ← h6]; exact hn
theorem CR.wi {z : List Int} (h : CR z) : CR (wi z) := by
  refine CR.of h.rd.wi ?_ (by rw [wi_length]; exact h.pos)
  intro x y h1 h2
  have h0 := h.pos
  have hc := h.cyc (-y) (-x)
  have e1 : z[0]? = some (-y) := by
    unfold Go.Proofs.Ytakmfhnigpmngaa.wi at h2
    rw [List.length_reverse, List.length_map, List.getElem?_reverse (by simp; omega)] at h2
    rw [List.length_map, show z.length - 1 - (z.length - 1) = 0 by omega, List.getElem?_map] at h2
    obtain ⟨a, ha, hb⟩ := Option.map_eq_some_iff.1 h2
    rw [ha]; congr 1; omega
  have e2 : z[z.length - 1]? = some (-x) := by
    unfold Go.Proofs.Ytakmfhnigpmngaa.wi at h1
    rw [List.getElem?_reverse (by simp; omega)] at h1
    rw [List.length_map, Nat.sub_zero, List.getElem?_map] at h1
    obtain ⟨a, ha, hb⟩ := Option.map_eq_some_iff.1 h1
    rw [ha]; congr 1; omega
  have := hc e1 e2
  omega
theorem tail_pw {z y u : List Int} {N j : Nat} (hz : 0 < z.length) (h : pw z N = u ++ y) (hl : y.length = j * z.length) : y = pw z j := by
  have h1 := congrArg List.length h
  rw [pw_len, List.length_append, hl] at h1
  have h2 : j ≤ N := by
    have : j * z.length ≤ N * z.length := by omega
    exact Nat.le_of_mul_le_mul_right this hz
  have h3 : pw z N = pw z (N - j) ++ pw z j := by rw [← pw_add, Nat.sub_add_cancel h2]
  rw [h3] at h
  exact (List.append_inj_right' h (by rw [pw_len, hl])).symm

/-- What commutes with a word that is no power is a power of it. -/
theorem commute_prim {y z : List Int} (hy : Rd y) (h0 : y ≠ []) (hz : CR z) (hp : Prim z) (h : red (y ++ (z ++ wi y)) = z) : ∃ j, 0 < j ∧ (y = pw z j ∨ y = pw (wi z) j) := by
  obtain ⟨y', l, rfl⟩ := last_of h0
  obtain ⟨n, hn⟩ : ∃ n, (y' ++ [l]).length = n + 1 := ⟨y'.length, by simp⟩
  have hll : (y' ++ [l])[(y' ++ [l]).length - 1]? = some l := by simp
  by_cases h1 : l = ex z (z.length - 1)
  · obtain ⟨u, N, r1, r2⟩ := conj_tail n (y' ++ [l]) z hn hy hz (by rw [hll, h1]) (by rw [h]; exact hz.cyc)
    rw [h] at r2
    obtain ⟨j, hj⟩ := hp.dvd (s := n + 1) r2
    refine ⟨j, ?_, .inl (tail_pw hz.pos r1 (by rw [hn, hj, Nat.mul_comm]))⟩
    rcases Nat.eq_zero_or_pos j with h | h
    · rw [h] at hj; simp at hj
    · exact h
  · by_cases h2 : l = -(ex z 0)
    · have hz' := hz.wi
      have hlast : ex (wi z) ((wi z).length - 1) = l := by
        have hz0 := hz.pos
        obtain ⟨x, z0, rfl⟩ : ∃ x z0, z = x :: z0 := by
          cases z with
          | nil => simp at hz0
          | cons x r => exact ⟨x, r, rfl⟩
        have : ex (x :: z0) 0 = x := ex_some rfl
        rw [this] at h2
        rw [h2]
        refine ex_some ?_
        rw [wi_cons, List.length_append, List.getElem?_append_right (by simp)]
        simp
      have hw : red (y' ++ [l] ++ (wi z ++ wi (y' ++ [l]))) = wi z := by
        have := congrArg wi h
        rw [← red_wi, wi_append, wi_append, wi_wi, List.append_assoc] at this
        exact this
      obtain ⟨u, N, r1, r2⟩ := conj_tail n (y' ++ [l]) (wi z) hn hy hz' (by rw [hll, hlast]) (by rw [hw]; exact hz'.cyc)
      rw [hw] at r2
      obtain ⟨j, hj⟩ := hp.wi.dvd (s := n + 1) r2
      refine ⟨j, ?_, .inr (tail_pw hz'.pos r1 (by rw [hn, hj, Nat.mul_comm]))⟩
      rcases Nat.eq_zero_or_pos j with h | h
      · rw [h] at hj; simp at hj
      · exact h
    · exfalso
      refine no_conj (m := 1) (by omega) hy hz h1 h2 ?_
      rw [pw_one, h]; exact hz.cyc

theorem Prim.turn {z q : List Int} {t : Nat} (h : Prim z) (hl : q.length = z.length) (hq : ∀ i, ex q i = ex z (i + t)) : Prim q := by
  unfold Prim
  rw [hl]
  have back : ∀ d, Per q d → Per z d := fun d hd i => by
    have h1 := hd (i + z.length * t - t)
    rw [hq, hq] at h1
    have hz := h.pos
    have hge : t ≤ z.length * t := Nat.le_mul_of_pos_left t hz
    rw [show i + z.length * t - t + d + t = i + d + z.length * t by omega, show i + z.length * t - t + t = i + z.length * t by omega] at h1
    have h2 := (per_len z).mul t
    rw [h2, h2] at h1; exact h1
  refine ⟨h.pos, ?_, fun d h1 h2 h3 => h.least d h1 h2 (back d h3)⟩
  rw [← hl]; exact per_len q

/-- r is the k-th power of a, and of nothing more often. -/
def RootOf (r a : List Int) (k : Nat) : Prop := ∃ A p, IsCore r (pw p k) A ∧ Prim p ∧ 0 < k ∧ a = red (A ++ (p ++ wi A))
theorem pw_inj {p q : List Int} {j k : Nat} (hp : Prim p) (hq : Prim q) (hj : 0 < j) (hk : 0 < k) (h : pw p j = pw q k) : j = k ∧ p = q := by
  have h1 := perOf_pw hj hp
  have h2 := perOf_pw hk hq
  rw [h] at h1
  have e := h1.unique h2
  have e2 := congrArg List.length h
  rw [pw_len, pw_len, e] at e2
  have e3 : j = k := Nat.eq_of_mul_eq_mul_right hq.pos e2
  subst e3
  refine ⟨rfl, ?_⟩
  obtain ⟨i, rfl⟩ : ∃ i, j = i + 1 := ⟨j - 1, by omega⟩
  rw [pw_succ, pw_succ] at h
  exact (List.append_inj h e).1
theorem rd_core {r c A : List Int} (h : IsCore r c A) (hr : Rd r) (h0 : 0 < c.length) : CR c := CR.of (h.rd hr) h.cyc h0
/-- The root of what is conjugated. -/
theorem root_conj {p Y a : List Int} {j k : Nat} (hp : Prim p) (hc : CR p) (hj : 0 < j) (h : RootOf (red (Y ++ (pw p j ++ wi Y))) a k) : k = j ∧ a = red (Y ++ (p ++ wi Y)) := by
  obtain ⟨A, q0, hcore, hq0, hk, rfl⟩ := h
  have hrd : Rd (pw q0 k) := hcore.rd (red_rd _)
  have hE : Eqv (A ++ (pw q0 k ++ wi A)) (Y ++ (pw p j ++ wi Y)) := by
    rw [← hcore.eq]; exact eqv_red _
  obtain ⟨y, hyd⟩ : ∃ y, y = red (wi A ++ Y) := ⟨_, rfl⟩
  have hyr : Rd y := by rw [hyd]; exact red_rd _
  have hyE : Eqv y (wi A ++ Y) := by rw [hyd]; exact eqv_red _
  have conjE : ∀ u, Eqv (y ++ (u ++ wi y)) (wi A ++ ((Y ++ (u ++ wi Y)) ++ A)) := fun u => by
    have h1 : Eqv (y ++ (u ++ wi y)) ((wi A ++ Y) ++ (u ++ wi (wi A ++ Y))) := hyE.app ((Eqv.refl u).app hyE.wi)
    refine h1.trans ?_
    rw [wi_append, wi_wi]
    simpa using Eqv.refl _
  have h1 : red (y ++ (pw p j ++ wi y)) = pw q0 k := by
    have h2 : Eqv (y ++ (pw p j ++ wi y)) (pw q0 k) := by
      refine (conjE _).trans ?_
      refine ((hE.symm.right A).left (wi A)).trans ?_
      have h3 : Eqv (wi A ++ (A ++ ((pw q0 k ++ wi A) ++ A))) ((pw q0 k ++ wi A) ++ A) := can1 A _
      have h4 : Eqv (pw q0 k ++ (wi A ++ A)) (pw q0 k ++ []) := (can4 A).left _
      have h5 : Eqv (wi A ++ (A ++ ((pw q0 k ++ wi A) ++ A))) (pw q0 k) := h3.trans (by simpa using h4)
      simpa using h5
    rw [show red (y ++ (pw p j ++ wi y)) = red (pw q0 k) from h2, red_of_rd hrd]
  obtain ⟨q, t, r1, r2, r3, r4⟩ := conj_turn _ y p j rfl hyr hc hj (by rw [h1]; exact hcore.cyc)
  rw [h1] at r2
  have hq := hp.turn r3 r4
  obtain ⟨e1, e2⟩ := pw_inj hq0 hq hk hj r2
  subst e1 e2
  refine ⟨rfl, ?_⟩
  have h6 : Eqv q0 (y ++ (p ++ wi y)) := by
    unfold Eqv; rw [r1, red_of_rd ?_]
    have h7 := hcore.rd (red_rd _)
    obtain ⟨i, rfl⟩ : ∃ i, k = i + 1 := ⟨k - 1, by omega⟩
    rw [pw_succ] at h7
    exact h7.left
  show Eqv _ _
  refine ((h6.trans (conjE p)).right (wi A)).left A |>.trans ?_
  have h8 : Eqv (A ++ (wi A ++ ((Y ++ (p ++ wi Y)) ++ (A ++ wi A)))) ((Y ++ (p ++ wi Y)) ++ (A ++ wi A)) := can2 A _
  have h9 : Eqv ((Y ++ (p ++ wi Y)) ++ (A ++ wi A)) ((Y ++ (p ++ wi Y)) ++ []) := (can3 A).left _
  have h10 := h8.trans h9
  simpa using h10
theorem RootOf.pow {r a : List Int} {k : Nat} (h : RootOf r a k) : Eqv (pw a k) r := by
  obtain ⟨A, p, hcore, hp, hk, rfl⟩ := h
  refine ((eqv_red _).pw k).trans ?_
  refine (pw_conj A p k).trans ?_
  rw [← hcore.eq]; exact Eqv.refl _
theorem RootOf.pos {r a : List Int} {k : Nat} (h : RootOf r a k) : r ≠ [] := by
  obtain ⟨A, p, hcore, hp, hk, rfl⟩ := h
  intro e
  have h1 := congrArg List.length hcore.eq
  rw [e, List.length_append, List.length_append, pw_len] at h1
  have := Nat.mul_pos hk hp.pos
  simp at h1
  omega
theorem comm_wi {u v : List Int} (h : Eqv (u ++ v) (v ++ u)) : Eqv (wi u ++ v) (v ++ wi u) := by
  have h1 : Eqv (wi u ++ (v ++ (u ++ wi u))) (wi u ++ (v ++ [])) := ((can3 u).left v).left (wi u)
  have h2 : Eqv (wi u ++ ((u ++ v) ++ wi u)) (wi u ++ ((v ++ u) ++ wi u)) := (h.right _).left _
  have h3 : Eqv (wi u ++ (u ++ (v ++ wi u))) (v ++ wi u) := can1 u _
  simp at h1 h2
  exact (h1.symm.trans h2.symm).trans h3
theorem pw_comm2 (a : List Int) (k m : Nat) : pw a k ++ pw a m = pw a m ++ pw a k := by rw [← pw_add, ← pw_add, Nat.add_comm]

/-- Words that are not the one commute just where their roots are the same, or opposite. -/
theorem commute_iff {v w a b : List Int} {k m : Nat} (hv : RootOf (red v) a k) (hw : RootOf (red w) b m) : red (v ++ w) = red (w ++ v) ↔ (a = b ∨ a = red (wi b)) := by
  have hva : Eqv (pw a k) v := hv.pow.trans (eqv_red v)
  have hwb : Eqv (pw b m) w := hw.pow.trans (eqv_red w)
  constructor
  · intro hcom
    have hw0 := hw.pos
    obtain ⟨A, p, hcore, hp, hk, ha⟩ := id hv
    have hcr : CR (pw p k) := rd_core hcore (red_rd _) (by rw [pw_len]; exact Nat.mul_pos hk hp.pos)
    have hc : CR p := CR.of_pw hk hcr
    have hEv : Eqv (A ++ (pw p k ++ wi A)) v := by rw [← hcore.eq]; exact eqv_red _
    obtain ⟨y, hyd⟩ : ∃ y, y = red (wi A ++ (w ++ A)) := ⟨_, rfl⟩
    have hyr : Rd y := by rw [hyd]; exact red_rd _
    have hyE : Eqv y (wi A ++ (w ++ A)) := by rw [hyd]; exact eqv_red _
    have hwy : Eqv w (A ++ (y ++ wi A)) := by
      refine Eqv.symm ?_
      refine ((hyE.right (wi A)).left A).trans ?_
      have h1 : Eqv (A ++ (wi A ++ (w ++ (A ++ wi A)))) (w ++ (A ++ wi A)) := can2 A _
      have h2 : Eqv (w ++ (A ++ wi A)) (w ++ []) := (can3 A).left _
      have h3 := h1.trans h2
      simpa using h3
    have hy0 : y ≠ [] := by
      intro e
      rw [e] at hwy
      have h1 : Eqv w [] := hwy.trans (by simpa using can3 A)
      exact hw0 h1
    have hone : red (y ++ (pw p k ++ wi y)) = pw p k := by
      have h1 : Eqv (y ++ pw p k) (pw p k ++ y) := by
        have hpk : Eqv (pw p k) (wi A ++ (v ++ A)) := by
          refine Eqv.symm ?_
          refine ((hEv.symm.right A).left (wi A)).trans ?_
          have h3 : Eqv (wi A ++ (A ++ ((pw p k ++ wi A) ++ A))) ((pw p k ++ wi A) ++ A) := can1 A _
          have h4 : Eqv (pw p k ++ (wi A ++ A)) (pw p k ++ []) := (can4 A).left _
          have h5 : Eqv (wi A ++ (A ++ ((pw p k ++ wi A) ++ A))) (pw p k) := h3.trans (by simpa using h4)
          simpa using h5
        have two : ∀ s t, Eqv ((wi A ++ (s ++ A)) ++ (wi A ++ (t ++ A))) (wi A ++ ((s ++ t) ++ A)) := fun s t => by
          have h3 : Eqv (A ++ (wi A ++ (t ++ A))) (t ++ A) := can2 A _
          have h4 := h3.left (wi A ++ s)
          simpa using h4
        have h6 : Eqv (wi A ++ ((w ++ v) ++ A)) (wi A ++ ((v ++ w) ++ A)) := by
          have : Eqv (w ++ v) (v ++ w) := hcom.symm
          exact (this.right A).left (wi A)
        exact (((hyE.app hpk).trans (two w v)).trans h6).trans ((hpk.app hyE).trans (two v w)).symm
      have h2 : Eqv (y ++ (pw p k ++ wi y)) (pw p k) := by
        have h3 : Eqv ((y ++ pw p k) ++ wi y) ((pw p k ++ y) ++ wi y) := h1.right _
        have h4 : Eqv (pw p k ++ (y ++ wi y)) (pw p k ++ []) := (can3 y).left _
        have h5 : Eqv ((y ++ pw p k) ++ wi y) (pw p k) := h3.trans (by simpa using h4)
        simpa using h5
      rw [show red (y ++ (pw p k ++ wi y)) = red (pw p k) from h2, red_of_rd hcr.rd]
    obtain ⟨q, t, r1, r2, r3, r4⟩ := conj_turn _ y p k rfl hyr hc hk (by rw [hone]; exact hcr.cyc)
    rw [hone] at r2
    obtain ⟨_, e2⟩ := pw_inj hp (hp.turn r3 r4) hk hk r2
    subst e2
    obtain ⟨j, hj, hy | hy⟩ := commute_prim hyr hy0 hc hp r1
    · rw [hy] at hwy
      have h7 : RootOf (red (A ++ (pw p j ++ wi A))) b m := by rw [← show red w = _ from hwy]; exact hw
      obtain ⟨_, e⟩ := root_conj hp hc hj h7
      exact .inl (by rw [ha, e])
    · rw [hy] at hwy
      have h7 : RootOf (red (A ++ (pw (wi p) j ++ wi A))) b m := by rw [← show red w = _ from hwy]; exact hw
      obtain ⟨_, e⟩ := root_conj hp.wi hc.wi hj h7
      refine .inr ?_
      rw [ha, e, red_wi_red]
      have : wi (A ++ (wi p ++ wi A)) = A ++ (p ++ wi A) := by
        rw [wi_append, wi_append, wi_wi, wi_wi, List.append_assoc]
      rw [this]
  · intro h
    have goal : Eqv (pw a k ++ pw b m) (pw b m ++ pw a k) := by
      rcases h with h | h
      · subst h
        rw [pw_comm2]; exact Eqv.refl _
      · have h1 : Eqv (pw a k) (wi (pw b k)) := by
          rw [h]
          refine ((eqv_red _).pw k).trans ?_
          rw [pw_wi]; exact Eqv.refl _
        have h2 : Eqv (wi (pw b k) ++ pw b m) (pw b m ++ wi (pw b k)) := comm_wi (by rw [pw_comm2]; exact Eqv.refl _)
        exact ((h1.right _).trans h2).trans (h1.symm.left _)
    exact ((hva.app hwb).symm.trans goal).trans (hwb.app hva)

end Go.Proofs.Ytakmfhnigpmngaa
