/- Mathematics of the law BeadsFactor: the pieces as lists. No condition. -/
import Derived.Test.YtojnjfkonaeegaaDoorLem
namespace Go.Proofs.YtojnjfkonaeegaaDoor

/-- A piece of a list. -/
def pce (zs : List Int) (b l : Nat) : List Int := (zs.drop b).take l
theorem pce_len {zs : List Int} {b l : Nat} (h : b + l ≤ zs.length) : (pce zs b l).length = l := by unfold pce; simp; omega
theorem pce_get {zs : List Int} {b l t : Nat} (ht : t < l) : (pce zs b l)[t]?.getD 0 = X zs (b + t) := by
  unfold pce X
  rw [List.getElem?_take_of_lt ht, List.getElem?_drop]
theorem lyn_lyd {zs : List Int} {b l : Nat} (h : b + l ≤ zs.length) (hl : Lyn (fun t => X zs (b + t)) l) : Lyd (pce zs b l) := by
  have hp := pce_len h
  refine ⟨by rw [hp]; exact hl.1, fun i h0 hi => ?_⟩
  rw [hp] at hi
  obtain ⟨j, h1, h2, h3⟩ := hl.2 i h0 hi
  have hg : ∀ t, i + t < l → (trn (pce zs b l) i)[t]?.getD 0 = X zs (b + (i + t)) := by
    intro t ht
    rw [trn_get _ (by omega) (by omega)]
    unfold Xp
    rw [hp, Nat.mod_eq_of_lt ht, pce_get ht]
  refine ⟨j, by omega, fun t ht => ?_, ?_⟩
  · rw [hg t (by omega), pce_get (by omega)]; exact (h2 t ht).symm
  · rw [hg j h1, pce_get (by omega)]; exact h3
theorem ng_ltr {zs : List Int} {b l c m : Nat} (h : b + l ≤ zs.length) (h' : c + m ≤ zs.length) (hn : NG (X zs) b l c m) : ¬Ltr (pce zs b l) (pce zs c m) := by
  unfold Ltr
  rw [pce_len h, pce_len h']
  rintro (⟨j, h1, h2, h3, h4⟩ | ⟨h1, h2⟩)
  · rw [pce_get h1, pce_get h2] at h4
    have e : ∀ t, t < j → X zs (b + t) = X zs (c + t) := fun t ht => by
      have := h3 t ht
      rwa [pce_get (by omega), pce_get (by omega)] at this
    rcases hn with ⟨g1, g2⟩ | ⟨i, g1, g2, g3, g4⟩
    · have := g2 j h2; omega
    · rcases Nat.lt_trichotomy i j with hij | hij | hij
      · have := e i hij; omega
      · subst hij; omega
      · have := g3 j hij; omega
  · have e : ∀ t, t < l → X zs (b + t) = X zs (c + t) := fun t ht => by
      have := h2 t ht
      rwa [pce_get (by omega), pce_get (by omega)] at this
    rcases hn with ⟨g1, g2⟩ | ⟨i, g1, g2, g3, g4⟩
    · omega
    · have := e i g1; omega

/-- Each piece ends where the next one begins, the last one at the end; none is greater than the one ahead. -/
theorem Falls.next {x : Nat → Int} {n : Nat} : ∀ {b : Nat} {l : List (Nat × Nat)}, Falls x n b l → ∀ (i : Nat) (hi : i < l.length), l[i].1 + l[i].2 = (if h : i + 1 < l.length then (l[i + 1]).1 else n)
  | b, [], _, i, hi => by simp at hi
  | b, q :: r, h, i, hi => by
    obtain ⟨h1, h2, h3, h4, h5⟩ := h
    cases i with
    | zero =>
      cases r with
      | nil => have : b + q.2 = n := h5; simp; omega
      | cons s r => simp; obtain ⟨g1, _⟩ := h5; omega
    | succ i =>
      have := h5.next i (by simpa using hi)
      simpa using this
theorem Falls.step {x : Nat → Int} {n : Nat} : ∀ {b : Nat} {l : List (Nat × Nat)}, Falls x n b l → ∀ (i : Nat) (hi : i + 1 < l.length), NG x (l[i]).1 (l[i]).2 (l[i + 1]).1 (l[i + 1]).2
  | b, [], _, i, hi => by simp at hi
  | b, q :: r, h, i, hi => by
    obtain ⟨h1, h2, h3, h4, h5⟩ := h
    cases i with
    | zero =>
      cases r with
      | nil => simp at hi
      | cons s r => simp; rw [h1]; exact h4 s (by simp)
    | succ i => exact h5.step i (by simpa using hi)
/-- The pieces of a list. -/
theorem falls_list (zs : List Int) : Falls (X zs) zs.length 0 (fls (X zs) zs.length zs.length 0) := fls_spec _ 0 (by omega) (by omega)
theorem falls_pos {zs : List Int} (h : 0 < zs.length) : 0 < (fls (X zs) zs.length zs.length 0).length := by
  have := falls_list zs
  cases hl : fls (X zs) zs.length zs.length 0 with
  | nil => rw [hl] at this; have : 0 = zs.length := this; omega
  | cons q r => simp
theorem falls_first {zs : List Int} (h : 0 < (fls (X zs) zs.length zs.length 0).length) : ((fls (X zs) zs.length zs.length 0)[0]).1 = 0 := by
  have := falls_list zs
  generalize fls (X zs) zs.length zs.length 0 = L at *
  cases L with
  | nil => simp at h
  | cons q r => exact this.1
theorem pieces {zs : List Int} (h : 0 < zs.length) : ∃ L, fls (X zs) zs.length zs.length 0 = L ∧ Falls (X zs) zs.length 0 L ∧ 0 < L.length ∧ (begins L)[0]?.getD 0 = 0 ∧ L.length ≤ zs.length := by
  refine ⟨_, rfl, falls_list zs, falls_pos h, ?_, fls_len _ _⟩
  have hp := falls_pos h
  have h0 := falls_first hp
  unfold begins
  rw [List.getElem?_map, List.getElem?_eq_getElem hp]
  simp [h0]
theorem pce_sl {W : Go.World} {zs : List Int} {pb po cap b l : Nat} (h : Reads W (some ⟨pb, po, none⟩) pb po zs) (hp : pb < W.heap.size) (hl : b + l ≤ zs.length) (hc : zs.length ≤ cap) (hm : cap ≤ Go.maxLen) :
    Sl W (.slice (some ⟨pb, po + b, none⟩) l (cap - b)) (pce zs b l) :=
  (h.piece (i := b) (m := l) hl (fun _ => rfl)).sl (by simp; omega) hp (by omega) (by omega)

end Go.Proofs.YtojnjfkonaeegaaDoor
