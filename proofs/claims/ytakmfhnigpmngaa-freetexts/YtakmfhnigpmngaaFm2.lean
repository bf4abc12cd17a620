/- Mathematics of words: cores, powers, the least part of a word that again and again is it, roots. No condition. -/
import Derived.Test.YtakmfhnigpmngaaFm1
namespace Go.Proofs.Ytakmfhnigpmngaa

/-- A word that stays reduced when it is written in a ring. -/
def Cyc (c : List Int) : Prop := ∀ x y, c[0]? = some x → c[c.length - 1]? = some y → x ≠ -y
/-- c is the core of r, and a stands ahead of it. -/
structure IsCore (r c a : List Int) : Prop where
  eq : r = a ++ (c ++ wi a)
  cyc : Cyc c
theorem Cyc.nil : Cyc [] := fun x y h => by simp at h

theorem core_le {a a' c c' : List Int} (h : a ++ (c ++ wi a) = a' ++ (c' ++ wi a')) (hc : Cyc c) (hl : a.length < a'.length) : False := by
  have hlen : a.length + (c.length + a.length) = a'.length + (c'.length + a'.length) := by
    have := congrArg List.length h
    simpa [wi_length] using this
  obtain ⟨b, rfl⟩ : ∃ b, a' = a ++ b := by
    refine ⟨a'.drop a.length, ?_⟩
    have h1 : (a ++ (c ++ wi a)).take a.length = a := by simp
    rw [h, List.take_append_of_le_length (by omega)] at h1
    conv => lhs; rw [← List.take_append_drop a.length a', h1]
  rw [wi_append] at h
  have h2 : c ++ wi a = b ++ (c' ++ (wi b ++ wi a)) := by simpa using h
  have h3 : c = b ++ (c' ++ wi b) := by
    have : c ++ wi a = (b ++ (c' ++ wi b)) ++ wi a := by rw [h2]; simp
    exact List.append_cancel_right this
  cases b with
  | nil => simp at hl
  | cons x b =>
    refine hc x (-x) (by rw [h3]; rfl) ?_ (by omega)
    have h4 : c = (x :: (b ++ (c' ++ wi b))) ++ [-x] := by rw [h3, wi_cons]; simp
    rw [h4, List.length_append, List.getElem?_append_right (by simp)]
    simp
theorem core_unique {r c c' a a' : List Int} (h : IsCore r c a) (h' : IsCore r c' a') : c = c' ∧ a = a' := by
  have e : a ++ (c ++ wi a) = a' ++ (c' ++ wi a') := h.eq.symm.trans h'.eq
  have hl : a.length = a'.length := by
    rcases Nat.lt_trichotomy a.length a'.length with h1 | h1 | h1
    · exact (core_le e h.cyc h1).elim
    · exact h1
    · exact (core_le e.symm h'.cyc h1).elim
  obtain ⟨h1, h2⟩ := List.append_inj e hl
  subst h1
  exact ⟨List.append_cancel_right h2, rfl⟩
theorem IsCore.rd {r c a : List Int} (h : IsCore r c a) (hr : Rd r) : Rd c := by
  rw [h.eq] at hr
  exact hr.right.left
theorem IsCore.rda {r c a : List Int} (h : IsCore r c a) (hr : Rd r) : Rd a := by
  rw [h.eq] at hr
  exact hr.left

/-- Words that are the same thing of the free group. -/
def Eqv (u v : List Int) : Prop := red u = red v
theorem Eqv.refl (u : List Int) : Eqv u u := rfl
theorem Eqv.symm {u v : List Int} (h : Eqv u v) : Eqv v u := Eq.symm h
theorem Eqv.trans {u v w : List Int} (h : Eqv u v) (k : Eqv v w) : Eqv u w := Eq.trans h k
theorem Eqv.app {u u' v v' : List Int} (h : Eqv u u') (k : Eqv v v') : Eqv (u ++ v) (u' ++ v') := by
  unfold Eqv at *
  rw [← red_left, ← red_right, h, k, red_right, red_left]
theorem Eqv.wi {u v : List Int} (h : Eqv u v) : Eqv (wi u) (wi v) := by
  unfold Eqv at *
  rw [red_wi, red_wi, h]
theorem eqv_red (u : List Int) : Eqv (red u) u := red_idem u
theorem can1 (u v : List Int) : Eqv (wi u ++ (u ++ v)) v := by
  have := red_mid' [] u v
  unfold Eqv
  simpa using this
theorem can2 (u v : List Int) : Eqv (u ++ (wi u ++ v)) v := by
  have := red_mid [] u v
  unfold Eqv
  simpa using this
theorem can3 (u : List Int) : Eqv (u ++ wi u) [] := by have := can2 u []; simpa using this
theorem can4 (u : List Int) : Eqv (wi u ++ u) [] := by have := can1 u []; simpa using this
theorem Eqv.left {u v : List Int} (w : List Int) (h : Eqv u v) : Eqv (w ++ u) (w ++ v) := (Eqv.refl w).app h
theorem Eqv.right {u v : List Int} (w : List Int) (h : Eqv u v) : Eqv (u ++ w) (v ++ w) := h.app (Eqv.refl w)

/-- A word, again and again. -/
def pw (u : List Int) : Nat → List Int
  | 0 => []
  | k + 1 => u ++ pw u k
theorem pw_zero (u : List Int) : pw u 0 = [] := rfl
theorem pw_succ (u : List Int) (k : Nat) : pw u (k + 1) = u ++ pw u k := rfl
theorem pw_one (u : List Int) : pw u 1 = u := by simp [pw]
theorem pw_comm (u : List Int) (k : Nat) : u ++ pw u k = pw u k ++ u := by
  induction k with
  | zero => simp [pw]
  | succ k ih => rw [pw_succ, List.append_assoc, ih]
theorem pw_add (u : List Int) (j k : Nat) : pw u (j + k) = pw u j ++ pw u k := by
  induction j with
  | zero => simp [pw]
  | succ j ih => rw [show j + 1 + k = (j + k) + 1 by omega, pw_succ, pw_succ, ih, List.append_assoc]
theorem pw_mul (u : List Int) (j k : Nat) : pw (pw u j) k = pw u (j * k) := by
  induction k with
  | zero => rfl
  | succ k ih => rw [pw_succ, ih, Nat.mul_succ, Nat.add_comm, pw_add]
theorem pw_len (u : List Int) (k : Nat) : (pw u k).length = k * u.length := by
  induction k with
  | zero => simp [pw]
  | succ k ih => rw [pw_succ, List.length_append, ih, Nat.succ_mul]; omega
theorem pw_mem {u : List Int} {k : Nat} {x : Int} (h : x ∈ pw u k) : x ∈ u := by
  induction k with
  | zero => simp [pw] at h
  | succ k ih =>
    rw [pw_succ] at h
    rcases List.mem_append.1 h with h | h
    · exact h
    · exact ih h
theorem pw_wi (u : List Int) (k : Nat) : wi (pw u k) = pw (wi u) k := by
  induction k with
  | zero => rfl
  | succ k ih => rw [pw_succ, pw_comm, wi_append, ih, pw_succ]
theorem Eqv.pw {u v : List Int} (h : Eqv u v) (k : Nat) : Eqv (pw u k) (pw v k) := by
  induction k with
  | zero => exact Eqv.refl _
  | succ k ih => exact h.app ih
/-- The power of what is conjugated. -/
theorem pw_conj (a u : List Int) (k : Nat) : Eqv (pw (a ++ (u ++ wi a)) k) (a ++ (pw u k ++ wi a)) := by
  induction k with
  | zero => have := (can3 a).symm; simpa [Go.Proofs.Ytakmfhnigpmngaa.pw] using this
  | succ k ih =>
    rw [pw_succ, pw_succ]
    refine (ih.left _).trans ?_
    have : Eqv (wi a ++ (a ++ (Go.Proofs.Ytakmfhnigpmngaa.pw u k ++ wi a))) (Go.Proofs.Ytakmfhnigpmngaa.pw u k ++ wi a) := can1 a _
    have := this.left (a ++ u)
    simpa using this

/-- The word, written in a ring. -/
def ex (c : List Int) (i : Nat) : Int := c[i % c.length]?.getD 0
/-- Turned by s it is the same ring. -/
def Per (c : List Int) (s : Nat) : Prop := ∀ i, ex c (i + s) = ex c i
theorem Per.sub {c : List Int} {s t : Nat} (h : Per c s) (k : Per c t) (hl : t ≤ s) : Per c (s - t) := fun i => by
  rw [← k (i + (s - t)), show i + (s - t) + t = i + s by omega, h]
theorem Per.add {c : List Int} {s t : Nat} (h : Per c s) (k : Per c t) : Per c (s + t) := fun i => by
  rw [← Nat.add_assoc, k, h]
theorem Per.mul {c : List Int} {s : Nat} (h : Per c s) (k : Nat) : Per c (s * k) := by
  induction k with
  | zero => exact fun i => rfl
  | succ k ih => rw [Nat.mul_succ]; exact ih.add h
theorem Per.mod {c : List Int} {s t : Nat} (h : Per c s) (k : Per c t) : Per c (s % t) := by
  have h2 := Per.sub h (k.mul (s / t)) (Nat.mul_div_le s t)
  have e := Nat.div_add_mod s t
  rwa [show s - t * (s / t) = s % t by omega] at h2
theorem per_len (c : List Int) : Per c c.length := fun i => by simp [ex]
/-- n is the least number of turns that change nothing. -/
structure PerOf (c : List Int) (n : Nat) : Prop where
  pos : 0 < n
  per : Per c n
  least : ∀ d, 0 < d → d < n → ¬ Per c d
theorem PerOf.dvd {c : List Int} {n s : Nat} (h : PerOf c n) (k : Per c s) : n ∣ s := by
  have h1 := k.mod h.per
  have h2 := Nat.mod_lt s h.pos
  rcases Nat.eq_zero_or_pos (s % n) with h3 | h3
  · exact Nat.dvd_of_mod_eq_zero h3
  · exact absurd h1 (h.least _ h3 h2)
theorem PerOf.unique {c : List Int} {m n : Nat} (h : PerOf c m) (k : PerOf c n) : m = n := Nat.dvd_antisymm (h.dvd k.per) (k.dvd h.per)
theorem ex_lt {c : List Int} {i : Nat} (h : i < c.length) : ex c i = c[i]?.getD 0 := by unfold ex; rw [Nat.mod_eq_of_lt h]
theorem getD_ext {xs ys : List Int} (hl : xs.length = ys.length) (h : ∀ j, j < xs.length → xs[j]?.getD 0 = ys[j]?.getD 0) : xs = ys := by
  apply List.ext_getElem hl
  intro i h1 h2
  have := h i h1
  rw [List.getElem?_eq_getElem h1, List.getElem?_eq_getElem h2] at this
  simpa using this
theorem ex_inj {c d : List Int} (hl : c.length = d.length) (h : ∀ i, ex c i = ex d i) : c = d :=
  getD_ext hl (fun j hj => by rw [← ex_lt hj, h j, ex_lt (by omega)])
theorem ex_pw {z : List Int} {m : Nat} (hm : 0 < m) (i : Nat) : ex (pw z m) i = ex z i := by
  have key : ∀ m j, j < m * z.length → (pw z m)[j]?.getD 0 = ex z j := by
    intro m
    induction m with
    | zero => intro j hj; simp at hj
    | succ m ih =>
      intro j hj
      rw [pw_succ]
      by_cases h : j < z.length
      · rw [List.getElem?_append_left h, ex_lt h]
      · rw [List.getElem?_append_right (by omega), ih (j - z.length) (by rw [Nat.succ_mul] at hj; omega)]
        have := per_len z (j - z.length)
        rw [show j - z.length + z.length = j by omega] at this
        exact this.symm
  rcases Nat.eq_zero_or_pos z.length with h0 | h0
  · have : z = [] := List.length_eq_zero_iff.1 h0
    subst this
    have : pw ([] : List Int) m = [] := by
      have := pw_len [] m
      exact List.length_eq_zero_iff.1 (by simpa using this)
    rw [this]
  · show (pw z m)[i % (pw z m).length]?.getD 0 = _
    have hlt : i % (pw z m).length < m * z.length := by
      rw [pw_len]; exact Nat.mod_lt _ (Nat.mul_pos hm h0)
    rw [key m _ hlt, pw_len]
    unfold ex
    rw [Nat.mod_mul_left_mod]
theorem per_pw {z : List Int} {m : Nat} (hm : 0 < m) (d : Nat) : Per (pw z m) d ↔ Per z d := by
  unfold Per
  constructor
  · intro h i; have := h i; rwa [ex_pw hm, ex_pw hm] at this
  · intro h i; rw [ex_pw hm, ex_pw hm]; exact h i
/-- A word that is no power of a shorter one. -/
def Prim (z : List Int) : Prop := PerOf z z.length
theorem perOf_pw {z : List Int} {m : Nat} (hm : 0 < m) (h : Prim z) : PerOf (pw z m) z.length :=
  ⟨h.pos, (per_pw hm _).2 (per_len z), fun d h1 h2 h3 => h.least d h1 h2 ((per_pw hm d).1 h3)⟩
/-- What a number of turns that divides tells. -/
theorem pw_of_per {c : List Int} {n : Nat} (hn : n ∣ c.length) (h0 : 0 < n) (hc : 0 < c.length) (h : Per c n) : c = pw (c.take n) (c.length / n) := by
  have hle := Nat.le_of_dvd hc hn
  have hl : (c.take n).length = n := by simp; omega
  have hq : 0 < c.length / n := Nat.div_pos hle h0
  refine getD_ext ?_ (fun j hj => ?_)
  · rw [pw_len, hl, Nat.div_mul_cancel hn]
  · have h1 : (pw (c.take n) (c.length / n))[j]?.getD 0 = ex (pw (c.take n) (c.length / n)) j := by
      rw [ex_lt]; rw [pw_len, hl, Nat.div_mul_cancel hn]; exact hj
    rw [h1, ex_pw hq]
    unfold ex
    rw [hl]
    have hlt := Nat.mod_lt j h0
    rw [List.getElem?_take_of_lt hlt, ← ex_lt hj, ← ex_lt (by omega)]
    have h2 := (h.mul (j / n)) (j % n)
    rw [Nat.mod_add_div] at h2
    exact h2
theorem prim_of {c : List Int} {n : Nat} (h : PerOf c n) (hc : 0 < c.length) : Prim (c.take n) ∧ c = pw (c.take n) (c.length / n) ∧ 0 < c.length / n := by
  have hd := h.dvd (per_len c)
  have hle := Nat.le_of_dvd hc hd
  have hq : 0 < c.length / n := Nat.div_pos hle h.pos
  have e := pw_of_per hd h.pos hc h.per
  have hl : (c.take n).length = n := by simp; omega
  refine ⟨?_, e, hq⟩
  unfold Prim
  rw [hl]
  refine ⟨h.pos, ?_, fun d h1 h2 h3 => ?_⟩
  · have := per_len (c.take n); rwa [hl] at this
  · refine h.least d h1 h2 ?_
    rw [e]
    exact (per_pw hq d).2 h3
/-- As the program tries it. -/
theorem per_iff {c : List Int} {d : Nat} (hd : d ∣ c.length) (h0 : 0 < d) (hl : d < c.length) : Per c d ↔ c.drop d = c.take (c.length - d) := by
  constructor
  · intro h
    refine getD_ext (by simp) (fun j hj => ?_)
    rw [List.length_drop] at hj
    rw [List.getElem?_drop, List.getElem?_take_of_lt hj, ← ex_lt (show d + j < c.length by omega), ← ex_lt (show j < c.length by omega), Nat.add_comm]
    exact h j
  · intro h
    have step : ∀ j, d + j < c.length → c[d + j]?.getD 0 = c[j]?.getD 0 := fun j hj => by
      have := congrArg (fun l : List Int => l[j]?.getD 0) h
      simp only [List.getElem?_drop] at this
      rw [List.getElem?_take_of_lt (by omega)] at this
      exact this
    have down : ∀ q r, r < d → r + d * q < c.length → c[r + d * q]?.getD 0 = c[r]?.getD 0 := by
      intro q
      induction q with
      | zero => intro r _ _; rfl
      | succ q ih =>
        intro r hr hlt
        rw [Nat.mul_succ] at hlt
        rw [Nat.mul_succ, show r + (d * q + d) = d + (r + d * q) by omega, step _ (by omega), ih r hr (by omega)]
    have all : ∀ j, j < c.length → c[j]?.getD 0 = c[j % d]?.getD 0 := fun j hj => by
      have h1 := down (j / d) (j % d) (Nat.mod_lt _ h0)
      rw [Nat.mod_add_div] at h1
      exact h1 hj
    intro i
    unfold ex
    have hp : 0 < c.length := by omega
    rw [all _ (Nat.mod_lt _ hp), all _ (Nat.mod_lt _ hp), Nat.mod_mod_of_dvd _ hd, Nat.mod_mod_of_dvd _ hd, Nat.add_mod_right]
/-- As the document tries it. -/
theorem red_pw_iff {c : List Int} (hr : Rd c) {d : Nat} (hd : d ∣ c.length) (h0 : 0 < d) (hc : 0 < c.length) : red (pw (c.take d) (c.length / d)) = c ↔ Per c d := by
  have hle := Nat.le_of_dvd hc hd
  have hl : (c.take d).length = d := by simp; omega
  have hln : (pw (c.take d) (c.length / d)).length = c.length := by rw [pw_len, hl, Nat.div_mul_cancel hd]
  constructor
  · intro h
    have h1 : red (pw (c.take d) (c.length / d)) = pw (c.take d) (c.length / d) := red_full (by rw [h, hln])
    rw [h1] at h
    rw [← h]
    have hq : 0 < c.length / d := Nat.div_pos hle h0
    refine (per_pw hq d).2 ?_
    have := per_len (c.take d); rwa [hl] at this
  · intro h
    rw [← pw_of_per hd h0 hc h]; exact red_of_rd hr

end Go.Proofs.Ytakmfhnigpmngaa
