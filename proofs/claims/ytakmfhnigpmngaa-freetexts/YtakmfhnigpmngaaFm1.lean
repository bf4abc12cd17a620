/- Mathematics of free groups: words as lists of numbers, how they are reduced, their inverses. No condition. -/
import Derived.Test.YtakmfhnigpmngaaKit
namespace Go.Proofs.Ytakmfhnigpmngaa

/-- One letter more on a word that lies with its last letter first. -/
def psh (s : List Int) (x : Int) : List Int :=
  match s with
  | [] => [x]
  | t :: r => if t = -x then r else x :: t :: r
def stk (s w : List Int) : List Int := w.foldl psh s
/-- The reduced word. -/
def red (w : List Int) : List Int := (stk [] w).reverse
/-- No two opposite letters stand next to each other. -/
def Rd (w : List Int) : Prop := ∀ i x y, w[i]? = some x → w[i + 1]? = some y → x ≠ -y
/-- The inverse of a word. -/
def wi (w : List Int) : List Int := (w.map (fun x => -x)).reverse

theorem psh_nil (x : Int) : psh [] x = [x] := rfl
theorem psh_eq {t x : Int} (r : List Int) (h : t = -x) : psh (t :: r) x = r := if_pos h
theorem psh_ne {t x : Int} (r : List Int) (h : ¬ t = -x) : psh (t :: r) x = x :: t :: r := if_neg h
theorem stk_nil (s : List Int) : stk s [] = s := rfl
theorem stk_cons (s : List Int) (x : Int) (w : List Int) : stk s (x :: w) = stk (psh s x) w := rfl
theorem stk_append (s u v : List Int) : stk s (u ++ v) = stk (stk s u) v := by
  simp [stk, List.foldl_append]
theorem stk_one (s : List Int) (x : Int) : stk s [x] = psh s x := rfl

theorem Rd.nil : Rd [] := fun i x y h => by simp at h
theorem Rd.one (x : Int) : Rd [x] := fun i a b h k => by simp at k
theorem Rd.tail {x : Int} {r : List Int} (h : Rd (x :: r)) : Rd r := fun i a b h1 h2 => h (i + 1) a b (by simpa using h1) (by simpa using h2)
theorem Rd.head {x y : Int} {r : List Int} (h : Rd (x :: y :: r)) : x ≠ -y := h 0 x y rfl rfl
theorem Rd.cons {x y : Int} {r : List Int} (h : x ≠ -y) (k : Rd (y :: r)) : Rd (x :: y :: r) := by
  intro i a b h1 h2
  cases i with
  | zero =>
    simp at h1 h2
    subst h1; subst h2; exact h
  | succ j => exact k j a b (by simpa using h1) (by simpa using h2)
theorem Rd.left {a b : List Int} (h : Rd (a ++ b)) : Rd a := fun i x y h1 h2 => by
  have l1 := (List.getElem?_eq_some_iff.1 h1).1
  have l2 := (List.getElem?_eq_some_iff.1 h2).1
  exact h i x y (by rw [List.getElem?_append_left l1]; exact h1) (by rw [List.getElem?_append_left l2]; exact h2)
theorem Rd.right {a b : List Int} (h : Rd (a ++ b)) : Rd b := fun i x y h1 h2 =>
  h (a.length + i) x y (by rw [List.getElem?_append_right (by omega)]; simpa using h1) (by rw [List.getElem?_append_right (by omega), show a.length + i + 1 - a.length = i + 1 by omega]; exact h2)
theorem Rd.rev {w : List Int} (h : Rd w) : Rd w.reverse := fun i x y h1 h2 => by
  have l2 := (List.getElem?_eq_some_iff.1 h2).1
  rw [List.length_reverse] at l2
  rw [List.getElem?_reverse (by omega)] at h1
  rw [List.getElem?_reverse (by omega)] at h2
  intro e
  refine h (w.length - 1 - (i + 1)) y x h2 ?_ (by omega)
  rw [show w.length - 1 - (i + 1) + 1 = w.length - 1 - i by omega]; exact h1
theorem Rd.of_rev {w : List Int} (h : Rd w.reverse) : Rd w := by
  have := h.rev
  rwa [List.reverse_reverse] at this

theorem psh_rd {s : List Int} (h : Rd s) (x : Int) : Rd (psh s x) := by
  cases s with
  | nil => exact Rd.one x
  | cons t r =>
    by_cases e : t = -x
    · rw [psh_eq r e]; exact h.tail
    · rw [psh_ne r e]; exact Rd.cons (fun k => e (by omega)) h
theorem psh_back {s : List Int} (h : Rd s) (x : Int) : psh (psh s x) (-x) = s := by
  cases s with
  | nil => exact psh_eq [] (by omega)
  | cons t r =>
    by_cases e : t = -x
    · rw [psh_eq r e]
      cases r with
      | nil => rw [psh_nil, e]
      | cons y r' =>
        rw [psh_ne r' (by have := h.head; omega), e]
    · rw [psh_ne r e]; exact psh_eq _ (by omega)
theorem psh_back' {s : List Int} (h : Rd s) (x : Int) : psh (psh s (-x)) x = s := by
  have := psh_back h (-x)
  rwa [Int.neg_neg] at this
theorem stk_rd {s : List Int} (h : Rd s) (w : List Int) : Rd (stk s w) := by
  induction w generalizing s with
  | nil => exact h
  | cons x w ih => exact ih (psh_rd h x)
theorem red_rd (w : List Int) : Rd (red w) := (stk_rd Rd.nil w).rev
theorem stk_cancel {s : List Int} (h : Rd s) (u : List Int) (x : Int) (v : List Int) : stk s (u ++ x :: -x :: v) = stk s (u ++ v) := by
  rw [stk_append, stk_append, stk_cons, stk_cons, psh_back (stk_rd h u)]

theorem wi_nil : wi [] = [] := rfl
theorem wi_append (u v : List Int) : wi (u ++ v) = wi v ++ wi u := by simp [wi]
theorem wi_cons (x : Int) (u : List Int) : wi (x :: u) = wi u ++ [-x] := by simp [wi]
theorem wi_wi (u : List Int) : wi (wi u) = u := by
  simp [wi, List.map_reverse, List.map_map, Function.comp_def]
theorem wi_length (u : List Int) : (wi u).length = u.length := by simp [wi]
theorem stk_wi {s : List Int} (h : Rd s) (w : List Int) : stk (stk s w) (wi w) = s := by
  induction w generalizing s with
  | nil => rfl
  | cons x w ih => rw [wi_cons, stk_append, stk_cons s x w, ih (psh_rd h x), stk_one, psh_back h]
theorem stk_wi' {s : List Int} (h : Rd s) (w : List Int) : stk (stk s (wi w)) w = s := by
  have := stk_wi h (wi w)
  rwa [wi_wi] at this

/-- Letters that nothing takes away are all put on. -/
theorem stk_of_rd (r s : List Int) (h : Rd (r.reverse ++ s)) : stk s r = r.reverse ++ s := by
  induction r generalizing s with
  | nil => rfl
  | cons x r ih =>
    rw [List.reverse_cons, List.append_assoc] at h
    have h2 : Rd (x :: s) := h.right
    have e : psh s x = x :: s := by
      cases s with
      | nil => rfl
      | cons t s' => exact psh_ne s' (by have := h2.head; omega)
    have h3 : Rd (r.reverse ++ (x :: s)) := h
    rw [stk_cons, e, ih _ h3, List.reverse_cons, List.append_assoc]; rfl
theorem red_of_rd {w : List Int} (h : Rd w) : red w = w := by
  unfold red
  rw [stk_of_rd w [] (by rw [List.append_nil]; exact h.rev), List.append_nil, List.reverse_reverse]
theorem stk_rev {s : List Int} (h : Rd s) : stk [] s.reverse = s := by
  have := stk_of_rd s.reverse [] (by rw [List.reverse_reverse, List.append_nil]; exact h)
  rwa [List.reverse_reverse, List.append_nil] at this

theorem stk_put {s : List Int} (hs : Rd s) (w : List Int) : ∀ t, Rd t → stk s (stk t w).reverse = stk (stk s t.reverse) w := by
  induction w with
  | nil => intro t _; rfl
  | cons x w ih =>
    intro t ht
    rw [stk_cons, ih _ (psh_rd ht x), stk_cons]
    congr 1
    cases t with
    | nil => rfl
    | cons y r =>
      by_cases e : y = -x
      · rw [psh_eq r e, List.reverse_cons, stk_append, stk_one, e, psh_back' (stk_rd hs _)]
      · rw [psh_ne r e, List.reverse_cons, stk_append, stk_one]
theorem stk_red {s : List Int} (hs : Rd s) (w : List Int) : stk s (red w) = stk s w := stk_put hs w [] Rd.nil
theorem red_left (u v : List Int) : red (red u ++ v) = red (u ++ v) := by
  unfold red
  rw [stk_append, stk_append, show (stk [] u).reverse = red u from rfl, stk_red Rd.nil]
theorem red_right (u v : List Int) : red (u ++ red v) = red (u ++ v) := by
  unfold red
  rw [stk_append, stk_append, show (stk [] v).reverse = red v from rfl, stk_red (stk_rd Rd.nil u)]
theorem red_idem (w : List Int) : red (red w) = red w := red_of_rd (red_rd w)
theorem red_nil : red [] = [] := rfl
theorem red_wi_right (u v : List Int) : red (u ++ (v ++ wi v)) = red u := by
  unfold red
  rw [stk_append, stk_append, stk_wi (stk_rd Rd.nil u)]
theorem red_mid (u v w : List Int) : red (u ++ (v ++ (wi v ++ w))) = red (u ++ w) := by
  unfold red
  rw [stk_append, stk_append, stk_append, stk_wi (stk_rd Rd.nil u), stk_append]
theorem red_mid' (u v w : List Int) : red (u ++ (wi v ++ (v ++ w))) = red (u ++ w) := by
  have := red_mid u (wi v) w
  rwa [wi_wi] at this
theorem red_own (u : List Int) : red (u ++ wi u) = [] := red_wi_right [] u
theorem red_own' (u : List Int) : red (wi u ++ u) = [] := by
  have := red_own (wi u)
  rwa [wi_wi] at this
/-- Words that act alike have inverses that act alike. -/
theorem stk_wi_red {s : List Int} (hs : Rd s) (w : List Int) : stk s (wi (red w)) = stk s (wi w) := by
  have h1 : stk (stk s (wi w)) (red w) = s := by rw [stk_red (stk_rd hs _)]; exact stk_wi' hs w
  have h2 := stk_wi (stk_rd hs (wi w)) (red w)
  rw [h1] at h2; exact h2
theorem red_wi_red (w : List Int) : red (wi (red w)) = red (wi w) := by
  unfold red; rw [show (stk [] w).reverse = red w from rfl, stk_wi_red Rd.nil]
theorem red_right_wi (u w : List Int) : red (u ++ wi (red w)) = red (u ++ wi w) := by
  unfold red; rw [stk_append, stk_append, show (stk [] w).reverse = red w from rfl, stk_wi_red (stk_rd Rd.nil u)]
theorem Rd.wi {w : List Int} (h : Rd w) : Rd (wi w) := by
  refine Rd.rev ?_
  intro i x y h1 h2
  rw [List.getElem?_map] at h1 h2
  obtain ⟨a, ha, rfl⟩ := Option.map_eq_some_iff.1 h1
  obtain ⟨b, hb, rfl⟩ := Option.map_eq_some_iff.1 h2
  have := h i a b ha hb
  omega
theorem red_wi (w : List Int) : red (wi w) = wi (red w) := by
  rw [← red_wi_red]; exact red_of_rd (red_rd w).wi

theorem psh_mem {s : List Int} {x y : Int} (h : y ∈ psh s x) : y ∈ s ∨ y = x := by
  cases s with
  | nil => rw [psh_nil] at h; exact .inr (by simpa using h)
  | cons t r =>
    by_cases e : t = -x
    · rw [psh_eq r e] at h; exact .inl (List.mem_cons_of_mem _ h)
    · rw [psh_ne r e] at h
      rcases List.mem_cons.1 h with h | h
      · exact .inr h
      · exact .inl h
theorem stk_mem {s w : List Int} {y : Int} (h : y ∈ stk s w) : y ∈ s ∨ y ∈ w := by
  induction w generalizing s with
  | nil => exact .inl h
  | cons x w ih =>
    rcases ih h with h1 | h1
    · rcases psh_mem h1 with h2 | h2
      · exact .inl h2
      · exact .inr (by simp [h2])
    · exact .inr (List.mem_cons_of_mem _ h1)
theorem red_mem {w : List Int} {y : Int} (h : y ∈ red w) : y ∈ w := by
  unfold red at h
  rw [List.mem_reverse] at h
  rcases stk_mem h with h | h
  · simp at h
  · exact h
theorem wi_mem {w : List Int} {y : Int} (h : y ∈ wi w) : -y ∈ w := by
  unfold wi at h
  rw [List.mem_reverse] at h
  obtain ⟨a, ha, rfl⟩ := List.mem_map.1 h
  simpa using ha
theorem psh_len (s : List Int) (x : Int) : (psh s x).length ≤ s.length + 1 := by
  cases s with
  | nil => simp [psh_nil]
  | cons t r =>
    by_cases e : t = -x
    · rw [psh_eq r e]; simp; omega
    · rw [psh_ne r e]; simp
theorem stk_len (s w : List Int) : (stk s w).length ≤ s.length + w.length := by
  induction w generalizing s with
  | nil => simp [stk_nil]
  | cons x w ih =>
    have h1 := ih (psh s x)
    have h2 := psh_len s x
    rw [stk_cons]; simp; omega
theorem red_len (w : List Int) : (red w).length ≤ w.length := by
  have := stk_len [] w
  simpa [red] using this
/-- A word that loses nothing is reduced. -/
theorem psh_full {s : List Int} {x : Int} (h : (psh s x).length = s.length + 1) : psh s x = x :: s := by
  cases s with
  | nil => rfl
  | cons t r =>
    by_cases e : t = -x
    · rw [psh_eq r e] at h; simp at h; omega
    · rw [psh_ne r e]
theorem stk_full {s w : List Int} (h : (stk s w).length = s.length + w.length) : stk s w = w.reverse ++ s := by
  induction w generalizing s with
  | nil => rfl
  | cons x w ih =>
    rw [stk_cons] at h ⊢
    have h1 := stk_len (psh s x) w
    have h2 := psh_len s x
    simp at h
    have e : (psh s x).length = s.length + 1 := by omega
    have e2 := psh_full e
    rw [ih (by omega), e2]; simp
theorem red_full {w : List Int} (h : (red w).length = w.length) : red w = w := by
  have : stk [] w = w.reverse ++ [] := stk_full (by simpa [red] using h)
  unfold red; rw [this]; simp

/-- Letters. -/
def bad (x : Int) : Bool := x == 0 || decide (x < -26) || decide (26 < x)
def Lt (w : List Int) : Prop := ∀ x, x ∈ w → bad x = false
theorem bad_neg (x : Int) : bad (-x) = bad x := by
  unfold bad
  rw [Bool.eq_iff_iff]
  simp
  omega
theorem Lt.red {w : List Int} (h : Lt w) : Lt (red w) := fun x hx => h x (red_mem hx)
theorem Lt.wi {w : List Int} (h : Lt w) : Lt (wi w) := fun x hx => by rw [← bad_neg]; exact h _ (wi_mem hx)
theorem Lt.append {u v : List Int} (h : Lt u) (k : Lt v) : Lt (u ++ v) := fun x hx => by
  rcases List.mem_append.1 hx with h1 | h1
  · exact h x h1
  · exact k x h1
theorem Lt.at {w : List Int} (h : Lt w) {k : Nat} (hk : k < w.length) : bad (w[k]?.getD 0) = false := by
  rw [List.getElem?_eq_getElem hk]
  exact h _ (List.getElem_mem hk)
/-- What Check tells of a word: a code, and a place. -/
def wfc (w : List Int) : Int := if 2000 < w.length then 2 else if w.findIdx bad < w.length then 3 else 0
def wfa (w : List Int) : Int := if 2000 < w.length then 0 else if w.findIdx bad < w.length then (w.findIdx bad : Nat) else 0
theorem wf_many {w : List Int} (h : 2000 < w.length) : wfc w = 2 ∧ wfa w = 0 := ⟨if_pos h, if_pos h⟩
theorem wf_at {w : List Int} (h : ¬ 2000 < w.length) {k : Nat} (hk : k < w.length) (hb : bad (w[k]?.getD 0) = true) (hall : ∀ t, t < k → bad (w[t]?.getD 0) = false) : wfc w = 3 ∧ wfa w = k := by
  have e : w.findIdx bad = k := by
    rw [List.findIdx_eq hk]
    refine ⟨?_, fun j hj => ?_⟩
    · rw [List.getElem?_eq_getElem hk] at hb; exact hb
    · have := hall j hj
      rw [List.getElem?_eq_getElem (by omega)] at this; exact this
  unfold wfc wfa
  rw [if_neg h, if_neg h, e, if_pos hk, if_pos hk]
  exact ⟨rfl, rfl⟩
theorem wf_ok {w : List Int} (h : ¬ 2000 < w.length) (hall : Lt w) : wfc w = 0 ∧ wfa w = 0 := by
  have e : ¬ w.findIdx bad < w.length := by
    intro hlt
    have h1 := List.findIdx_getElem (w := hlt)
    rw [hall _ (List.getElem_mem hlt)] at h1
    cases h1
  unfold wfc wfa
  rw [if_neg h, if_neg h, if_neg e, if_neg e]
  exact ⟨rfl, rfl⟩
theorem lt_of_at {w : List Int} (h : ∀ t, t < w.length → bad (w[t]?.getD 0) = false) : Lt w := fun x hx => by
  obtain ⟨k, hk, rfl⟩ := List.getElem_of_mem hx
  have := h k hk
  rw [List.getElem?_eq_getElem hk] at this; exact this
/-- A word of which nothing is wrong. -/
structure Wd (w : List Int) : Prop where
  len : w.length ≤ 2000
  lt : Lt w
theorem wf_cases (w : List Int) : (Wd w ∧ wfc w = 0 ∧ wfa w = 0) ∨ (¬ Wd w ∧ wfc w ≠ 0 ∧ 0 ≤ wfa w ∧ wfa w ≤ 2000) := by
  by_cases h : 2000 < w.length
  · obtain ⟨h1, h2⟩ := wf_many h
    exact .inr ⟨fun k => absurd k.len (by omega), by omega, by omega, by omega⟩
  · by_cases hl : Lt w
    · exact .inl ⟨⟨by omega, hl⟩, wf_ok h hl⟩
    · have hlt : w.findIdx bad < w.length := by
        rw [List.findIdx_lt_length]
        false_or_by_contra
        rename_i hn
        exact hl (fun x hx => by
          cases hb : bad x with
          | false => rfl
          | true => exact absurd ⟨x, hx, hb⟩ hn)
      refine .inr ⟨fun k => hl k.lt, ?_, ?_, ?_⟩
      · unfold wfc; rw [if_neg h, if_pos hlt]; omega
      · unfold wfa; rw [if_neg h, if_pos hlt]; omega
      · unfold wfa; rw [if_neg h, if_pos hlt]; omega
theorem Wd.code {w : List Int} (h : Wd w) : wfc w = 0 ∧ wfa w = 0 := wf_ok (by have := h.len; omega) h.lt
theorem wd_of_code {w : List Int} (h : wfc w = 0) : Wd w := by
  rcases wf_cases w with ⟨k, _⟩ | ⟨_, k, _⟩
  · exact k
  · exact absurd h k

end Go.Proofs.Ytakmfhnigpmngaa
