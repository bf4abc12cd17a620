/- The word behind a word, as beads.next writes it. No condition. -/
import Derived.Test.YtojnjfkonaeegaaDoorFb
namespace Go.Proofs.YtojnjfkonaeegaaDoor
open Go Go.RowKit

/-- A word again and again, so many numbers more. -/
def ext (w : List Int) : Nat → List Int
  | 0 => w
  | i + 1 => ext w i ++ [(ext w i)[i]?.getD 0]
theorem ext_len (w : List Int) : ∀ i, (ext w i).length = w.length + i
  | 0 => rfl
  | i + 1 => by simp [ext, ext_len w i]; omega
theorem ext_mem (w : List Int) (h0 : 0 < w.length) : ∀ i, ∀ x ∈ ext w i, x ∈ w
  | 0, x, h => h
  | i + 1, x, h => by
    rcases List.mem_append.1 h with h | h
    · exact ext_mem w h0 i x h
    · simp only [List.mem_singleton] at h
      rw [h, List.getElem?_eq_getElem (by rw [ext_len]; omega)]
      exact ext_mem w h0 i _ (List.getElem_mem _)
/-- Without the numbers m at its end. -/
def stp (m : Int) (l : List Int) : List Int := (l.reverse.dropWhile (· == m)).reverse
theorem stp_nil (m : Int) : stp m [] = [] := rfl
theorem stp_hit (m : Int) (l : List Int) : stp m (l ++ [m]) = stp m l := by simp [stp]
theorem stp_miss {m x : Int} (l : List Int) (h : ¬ x = m) : stp m (l ++ [x]) = l ++ [x] := by simp [stp, h]
theorem take_last {l : List Int} {n : Nat} (h : l.length = n + 1) : l = l.take n ++ [l[n]?.getD 0] := by
  rw [List.getElem?_eq_getElem (by omega)]
  show l = l.take n ++ [l[n]]
  conv => lhs; rw [← List.take_of_length_le (l := l) (i := n + 1) (by omega), List.take_succ_eq_append_getElem (by omega)]
/-- Its last number one greater. -/
def inc (l : List Int) : List Int := l.set (l.length - 1) (l[l.length - 1]?.getD 0 + 1)
theorem inc_len (l : List Int) : (inc l).length = l.length := by simp [inc]
def nxt (n : Nat) (k : Int) (w : List Int) : List Int := inc (stp (k - 1) (ext w (n - w.length)))
theorem stp_pre (m : Int) (l : List Int) : ∃ r, l = stp m l ++ r := by
  refine ⟨(l.reverse.takeWhile (· == m)).reverse, ?_⟩
  unfold stp
  rw [← List.reverse_append, List.takeWhile_append_dropWhile, List.reverse_reverse]
theorem stp_len (m : Int) (l : List Int) : (stp m l).length ≤ l.length := by
  obtain ⟨r, h⟩ := stp_pre m l
  conv => rhs; rw [h]
  simp
theorem nxt_len {n : Nat} {k : Int} {w : List Int} (h : w.length ≤ n) : (nxt n k w).length ≤ n := by
  unfold nxt
  rw [inc_len]
  have := stp_len (k - 1) (ext w (n - w.length))
  rw [ext_len] at this; omega
/-- All its numbers are from 0 to k - 1. -/
def Low (k : Int) (w : List Int) : Prop := ∀ x ∈ w, 0 ≤ x ∧ x < k
theorem stp_last {m : Int} {l : List Int} (h : 0 < (stp m l).length) : (stp m l)[(stp m l).length - 1]?.getD 0 ≠ m := by
  unfold stp at h ⊢
  have h1 := List.head?_dropWhile_not (p := fun x : Int => x == m) (l := l.reverse)
  generalize hd : l.reverse.dropWhile (fun x : Int => x == m) = d at *
  cases d with
  | nil => simp at h
  | cons x r =>
    simp at h1 ⊢
    exact h1
theorem nxt_low {n : Nat} {k : Int} {w : List Int} (h0 : 0 < w.length) (h : Low k w) : Low k (nxt n k w) := by
  intro x hx
  unfold nxt at hx
  have hs : ∀ y ∈ stp (k - 1) (ext w (n - w.length)), 0 ≤ y ∧ y < k := by
    intro y hy
    obtain ⟨r, hr⟩ := stp_pre (k - 1) (ext w (n - w.length))
    exact h y (ext_mem w h0 _ y (by rw [hr]; exact List.mem_append_left _ hy))
  generalize hS : stp (k - 1) (ext w (n - w.length)) = S at *
  unfold inc at hx
  by_cases hp : 0 < S.length
  · rcases List.mem_or_eq_of_mem_set hx with hx | hx
    · exact hs x hx
    · have h1 : S[S.length - 1]?.getD 0 ≠ k - 1 := by
        have := stp_last (m := k - 1) (l := ext w (n - w.length)) (by rw [hS]; exact hp)
        rwa [hS] at this
      have h2 := hs (S[S.length - 1]?.getD 0) (by rw [List.getElem?_eq_getElem (by omega)]; exact List.getElem_mem _)
      omega
  · have : S = [] := List.length_eq_zero_iff.1 (by omega)
    rw [this] at hx; simp at hx

/-- The words, one behind the other. -/
def lws (n : Nat) (k : Int) : Nat → List Int → List (List Int)
  | 0, _ => []
  | f + 1, w => w :: if nxt n k w = [] then [] else lws n k f (nxt n k w)
/-- They come to an end. -/
def ends (n : Nat) (k : Int) : Nat → List Int → Bool
  | 0, _ => false
  | f + 1, w => decide (nxt n k w = []) || ends n k f (nxt n k w)

theorem own_set {W : World} {B g n cap i : Nat} {e : TypeId} {xs : List Value} (h : W.ownsRow B e 1 (.slice (some ⟨g, 0, none⟩) n cap) n xs) (u : Value) : (W.setCell ⟨g, i, none⟩ u).ownsRow B e 1 (.slice (some ⟨g, 0, none⟩) n cap) n (xs.set i u) := by
  refine ⟨by rw [List.length_set]; exact h.1, ?_⟩
  rcases h.2 with ⟨hv, _⟩ | ⟨g', cap', cur, hv, hg, hh, h1, h2, h3, h4⟩
  · cases hv
  · cases hv
    have hb : Blk W g e cur.toList := by unfold Blk; simpa using hh
    have hb2 := hb.set i u
    refine .inr ⟨g, cap, (cur.toList.set i u).toArray, rfl, hg, hb2, h1, h2, by simpa using h3, ?_⟩
    simp only
    rw [List.take_set, h4]
theorem own_frozen {W : World} {B g n cap : Nat} {e : TypeId} {xs : List Value} (h : W.ownsRow B e 1 (.slice (some ⟨g, 0, none⟩) n cap) n xs) (i : Nat) : W.frozen? ⟨g, i, none⟩ = false := by
  rcases h.2 with ⟨hv, _⟩ | ⟨g', cap', cur, hv, hg, hh, _⟩
  · cases hv
  · cases hv; simp [World.frozen?, hh]
theorem own_get {W : World} {B g cap : Nat} {xs : List Int} (h : W.ownsRow B 3 1 (.slice (some ⟨g, 0, none⟩) xs.length cap) xs.length (xs.map (Value.int .i64))) {i : Nat} (hi : i < xs.length) : W.cell? ⟨g, i, none⟩ = some (.int .i64 (xs[i]?.getD 0)) := by
  have h3 := h.cells (g := g) rfl i (.int .i64 (xs[i]?.getD 0)) (by simp [hi])
  rwa [show (⟨g, 0, none⟩ : Addr).add i = ⟨g, i, none⟩ by unfold Addr.add; split <;> simp_all] at h3
end Go.Proofs.YtojnjfkonaeegaaDoor
