/- What slices.Reverse does to the end of a list. No condition. -/
import Derived.Test.YtjchmhngfnlbhaaDoorNx2
namespace Go.Proofs.YtjchmhngfnlbhaaDoor
open Go Go.RowKit

/-- A list whose k last numbers are turned, i of them from both sides. -/
structure Rvi (L M : List Int) (f k i : Nat) : Prop where
  len : M.length = L.length
  low : ∀ t, t < f → M[t]?.getD 0 = L[t]?.getD 0
  get : ∀ t, t < k → M[f + t]?.getD 0 = if t < i ∨ k - 1 - i < t then L[f + (k - 1 - t)]?.getD 0 else L[f + t]?.getD 0
theorem Rvi.zero (L : List Int) (f k : Nat) : Rvi L L f k 0 := ⟨rfl, fun _ _ => rfl, fun t ht => by rw [if_neg (by omega)]⟩
theorem Rvi.step {L M : List Int} {f k i : Nat} (h : Rvi L M f k i) (hf : f + k = L.length) (hi : i < k - 1 - i) :
    Rvi L ((M.set (f + i) (L[f + (k - 1 - i)]?.getD 0)).set (f + (k - 1 - i)) (L[f + i]?.getD 0)) f k (i + 1) := by
  have hl := h.len
  refine ⟨by simp [hl], fun t ht => ?_, fun t ht => ?_⟩
  · rw [List.getElem?_set_ne (by omega), List.getElem?_set_ne (by omega)]; exact h.low t ht
  · by_cases e1 : t = k - 1 - i
    · subst e1
      rw [List.getElem?_set_self (by simp; omega), if_pos (by omega), show k - 1 - (k - 1 - i) = i by omega]; rfl
    · rw [List.getElem?_set_ne (by omega)]
      by_cases e2 : t = i
      · subst e2
        rw [List.getElem?_set_self (by omega), if_pos (by omega)]; rfl
      · rw [List.getElem?_set_ne (by omega), h.get t ht]
        by_cases h1 : t < i ∨ k - 1 - i < t
        · rw [if_pos h1, if_pos (by omega)]
        · rw [if_neg h1, if_neg (by omega)]
theorem Rvi.done {L M : List Int} {f k i : Nat} (h : Rvi L M f k i) (hi : ¬ i < k - 1 - i) : ∀ t, t < k → M[f + t]?.getD 0 = L[f + (k - 1 - t)]?.getD 0 := fun t ht => by
  rw [h.get t ht]
  by_cases h1 : t < i ∨ k - 1 - i < t
  · rw [if_pos h1]
  · rw [if_neg h1, show k - 1 - t = t by omega]

set_option maxRecDepth 100000 in
set_option maxHeartbeats 8000000 in
theorem reverse_ok (g f k c : Nat) (L : List Int) (tl : List Value) (w : World) (hB : Blk w g 3 (L.map (Value.int .i64) ++ tl)) (hf : f + k = L.length) (hl : L.length ≤ 1000) :
    Calls Tryd.prog 63 #[.slice (some ⟨g, f, none⟩) k c] w fun e w' => e = .returned (.tuple #[]) ∧ (∃ M : List Int, M.length = L.length ∧ (∀ t, t < f → M[t]?.getD 0 = L[t]?.getD 0) ∧ (∀ t, t < k → M[f + t]?.getD 0 = L[f + (k - 1 - t)]?.getD 0) ∧ Blk w' g 3 (M.map (Value.int .i64) ++ tl)) ∧ w.grownBy w' (some g) := by
  have hkl : (k : Int) ≤ 1000 := by omega
  have HF := hide hf
  clear hf
  go_enter Tryd.func63, Tryd.ntmps63
  go_wp2
  go_loopw [2, 3] (fun iv jv wr => ∃ (i : Nat) (M : List Int), 2 * i ≤ k + 1 ∧ iv = .int .i64 i ∧ jv = .int .i64 ((k : Int) - 1 - i) ∧ Rvi L M f k i ∧ Blk wr g 3 (M.map (Value.int .i64) ++ tl) ∧ w.grownBy wr (some g))
    (fun iv jv _ => (intOf jv - intOf iv).toNat)
  case atStart => exact ⟨0, L, by omega, rfl, by go_num, Rvi.zero L f k, hB, gb_refl _ _⟩
  case round =>
    obtain ⟨i, M, hik, rfl, rfl, hRv, hP, hG⟩ := hrel
    clear hB
    by_cases hlt : i < k - 1 - i
    · obtain ⟨j, hj⟩ : ∃ j, k - 1 - i = j := ⟨_, rfl⟩
      have hji : (k : Int) - 1 - (i : Int) = (j : Int) := by omega
      rw [hji]
      have hml := hRv.len
      have hcell : ∀ t, t < k → wr.cell? ⟨g, f + t, none⟩ = some (.int .i64 (M[f + t]?.getD 0)) := fun t ht => by
        have := HF.out
        rw [hP.cell, List.getElem?_append_left (by simp; omega), List.getElem?_map, List.getElem?_eq_getElem (by omega)]; rfl
      have hst := hRv.step HF.out hlt
      have hci := hcell i (by omega)
      have hcj := hcell j (by omega)
      rw [hRv.get i (by omega), if_neg (by omega)] at hci
      rw [hRv.get j (by omega), if_neg (by omega)] at hcj
      rw [hj] at hst
      have hfi := hP.frozen (f + i)
      have hfj := hP.frozen (f + j)
      obtain ⟨x, hx⟩ : ∃ x, L[f + i]?.getD 0 = x := ⟨_, rfl⟩
      obtain ⟨y, hy⟩ : ∃ y, L[f + j]?.getD 0 = y := ⟨_, rfl⟩
      rw [hx] at hci hst
      rw [hy] at hcj hst
      have hP2 := (hP.set (f + i) (.int .i64 y)).set (f + j) (.int .i64 x)
      have hse : ((M.map (Value.int .i64) ++ tl).set (f + i) (.int .i64 y)).set (f + j) (.int .i64 x) = ((M.set (f + i) y).set (f + j) x).map (Value.int .i64) ++ tl := by
        have := HF.out
        rw [List.set_append_left _ _ (by simp; omega), List.set_append_left _ _ (by simp; omega), List.map_set, List.map_set]
      rw [hse] at hP2
      have hG2 : w.grownBy ((wr.setCell ⟨g, f + i, none⟩ (.int .i64 y)).setCell ⟨g, f + j, none⟩ (.int .i64 x)) (some g) := gb_trans (gb_trans hG (gb_set wr g _ _) (fun b e => by cases e; exact .inl rfl)) (gb_set _ g _ _) (fun b e => by cases e; exact .inl rfl)
      have hne : ¬ i = j := by omega
      have hne2 : ¬ j = i := by omega
      have hij : (i : Int) < (j : Int) := by omega
      have hjk : (j : Int) < (k : Int) := by omega
      have hik2 : (i : Int) < (k : Int) := by omega
      have HST := hide hst
      have HJ := hide hj
      have hPd : Blk ((wr.setCell ⟨g, f + i, none⟩ (.int .i64 y)).setCell ⟨g, f + j, none⟩ (.int .i64 x)).drew g 3 (((M.set (f + i) y).set (f + j) x).map (Value.int .i64) ++ tl) := hP2
      have hGd : w.grownBy ((wr.setCell ⟨g, f + i, none⟩ (.int .i64 y)).setCell ⟨g, f + j, none⟩ (.int .i64 x)).drew (some g) := ⟨hG2.os, hG2.tape, hG2.output, hG2.size, hG2.block⟩
      have HPD := hide hPd
      have HGD := hide hGd
      clear hst hcell hj hse hP hP2 hG hG2 hRv hml hx hy hPd hGd hlt
      go_wp2
      go_region
      all_goals (
        go_wp2
        go_roundw
        case rel => exact ⟨i + 1, _, by have := HJ.out; omega, by go_num, by have := HJ.out; go_num, HST.out, HPD.out, HGD.out⟩
        case measure => simp [intOf]; omega)
    · have hni : ¬ (i : Int) < (k : Int) - 1 - (i : Int) := by omega
      have hdn := hRv.done hlt
      have HD := hide hdn
      clear hdn
      go_wp2
      go_end0
      exact ⟨rfl, ⟨M, hRv.len, hRv.low, HD.out, hP⟩, hG⟩
end Go.Proofs.YtjchmhngfnlbhaaDoor
