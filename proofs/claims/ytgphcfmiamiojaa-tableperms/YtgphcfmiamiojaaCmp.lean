/- What cmp.Compare and slices.Compare answer at ints. -/
import Derived.Test.YtgphcfmiamiojaaCml
namespace Go.Proofs.Ytgphcfmiamiojaa
open Go Go.RowKit

theorem isNaN_ok (x : Int) (w : World) : Calls Try.prog 56 #[.int .i64 x] w fun e w' => e = .returned (.bool false) ∧ w' = w := by
  have h : (x != x) = false := by simp
  go_enter Try.func56, Try.ntmps56
  go_wp2
  go_ret
  exact ⟨rfl, rfl⟩
set_option maxRecDepth 100000 in
theorem cmpI_ok (x y : Int) (w : World) : Calls Try.prog 50 #[.int .i64 x, .int .i64 y] w fun e w' => e = .returned (.int .i64 (cmpI x y)) ∧ w' = w := by
  unfold cmpI
  by_cases h1 : x < y
  · rw [if_pos h1]
    go_enter Try.func50, Try.ntmps50
    go_wp2_with fail
    refine (isNaN_ok x w).mono ?_
    rintro e w1 ⟨rfl, rfl⟩
    go_wp2_with fail
    refine (isNaN_ok y w1).mono ?_
    rintro e w2 ⟨rfl, rfl⟩
    go_wp2
    go_ret
    exact ⟨rfl, rfl⟩
  · rw [if_neg h1]
    by_cases h2 : y < x
    · rw [if_pos h2]
      go_enter Try.func50, Try.ntmps50
      go_wp2_with fail
      refine (isNaN_ok x w).mono ?_
      rintro e w1 ⟨rfl, rfl⟩
      go_wp2_with fail
      refine (isNaN_ok y w1).mono ?_
      rintro e w2 ⟨rfl, rfl⟩
      go_wp2
      go_ret
      exact ⟨rfl, rfl⟩
    · rw [if_neg h2]
      go_enter Try.func50, Try.ntmps50
      go_wp2_with fail
      refine (isNaN_ok x w).mono ?_
      rintro e w1 ⟨rfl, rfl⟩
      go_wp2_with fail
      refine (isNaN_ok y w1).mono ?_
      rintro e w2 ⟨rfl, rfl⟩
      go_wp2
      go_ret
      exact ⟨rfl, rfl⟩
set_option maxRecDepth 100000 in
set_option maxHeartbeats 2000000 in
theorem scmp_ok (v u : Value) (xs ys : List Int) (w : World) (hv : Sl w v xs) (hu : Sl w u ys) (hx : xs.length ≤ 1000000) (hy : ys.length ≤ 1000000) :
    Calls Try.prog 36 #[v, u] w fun e w' => e = .returned (.int .i64 (cmpL xs ys)) ∧ w' = w := by
  obtain ⟨xa, xcap, xb, xo, rfl, ⟨x1, x2⟩, _, _, x5⟩ := hv
  obtain ⟨ya, ycap, yb, yo, rfl, ⟨y1, y2⟩, _, _, y5⟩ := hu
  have HX1 := hide x1
  have HX2 := hide x2
  have HY1 := hide y1
  have HY2 := hide y2
  clear x1 x2 y1 y2 x5 y5
  go_enter Try.func36, Try.ntmps36
  go_wp2
  go_loopw [11] (fun i wr => ∃ k : Nat, k ≤ xs.length ∧ k ≤ ys.length ∧ i = .int .i64 k ∧ cmpL xs ys = cmpL (xs.drop k) (ys.drop k) ∧ wr = w) (fun i _ => xs.length - (intOf i).toNat)
  case atStart => exact ⟨0, Nat.zero_le _, Nat.zero_le _, rfl, by simp, rfl⟩
  case round =>
    obtain ⟨k, hk, hk2, rfl, hc, hwr⟩ := hrel
    rw [hwr]
    clear hwr
    have HC := hide hc
    clear hc
    by_cases hlt : k < xs.length
    · have hki : (k : Int) < (xs.length : Int) := by omega
      obtain rfl := HX1.out (by omega)
      have cx := HX2.out k hlt
      rw [List.getElem?_eq_getElem hlt, Option.getD_some] at cx
      by_cases hlu : k < ys.length
      · have hku : ¬ (k : Int) ≥ (ys.length : Int) := by omega
        have hku' : ¬ (ys.length : Int) ≤ (k : Int) := by omega
        have hki2 : (k : Int) < (ys.length : Int) := by omega
        obtain rfl := HY1.out (by omega)
        have cy := HY2.out k hlu
        rw [List.getElem?_eq_getElem hlu, Option.getD_some] at cy
        have HE := hide (cmpL_step hlt hlu)
        generalize xs[k] = x at *
        generalize ys[k] = y at *
        have HI := hide (cmpI_ok x y w)
        obtain ⟨z, hz⟩ : ∃ z, cmpI x y = z := ⟨_, rfl⟩
        rw [hz] at HI HE
        clear hz
        by_cases hz0 : z = 0
        · subst hz0
          go_wp2_with fail
          refine HI.out.mono ?_
          rintro e w1 ⟨rfl, rfl⟩
          go_wp2
          go_roundw
          case rel => exact ⟨k + 1, by omega, by omega, by go_num, by rw [HC.out, HE.out]; rfl, trivial⟩
          case measure => simp [intOf]; omega
        · have hzb : (z != 0) = true := by simpa using hz0
          have HZ := hide (show cmpL xs ys = z by rw [HC.out, HE.out, if_pos hz0])
          go_wp2_with fail
          refine HI.out.mono ?_
          rintro e w1 ⟨rfl, rfl⟩
          go_wp2
          go_ret
          exact ⟨by rw [HZ.out]; rfl, rfl⟩
      · have hku : (k : Int) ≥ (ys.length : Int) := by omega
        have hku' : (ys.length : Int) ≤ (k : Int) := by omega
        have HZ := hide (show cmpL xs ys = 1 by rw [HC.out, cmpL_more hlt (by omega)])
        go_wp2
        go_ret
        exact ⟨by rw [HZ.out]; rfl, rfl⟩
    · have hki : ¬ (k : Int) < (xs.length : Int) := by omega
      by_cases hlu : xs.length < ys.length
      · have hlu' : (xs.length : Int) < (ys.length : Int) := by omega
        have HZ := hide (show cmpL xs ys = -1 by rw [HC.out, cmpL_less (by omega) (by omega)])
        go_wp2
        go_ret
        exact ⟨by rw [HZ.out]; rfl, rfl⟩
      · have hlu' : ¬ (xs.length : Int) < (ys.length : Int) := by omega
        have HZ := hide (show cmpL xs ys = 0 by rw [HC.out, cmpL_end (by omega) (by omega)])
        go_wp2
        go_ret
        exact ⟨by rw [HZ.out]; rfl, rfl⟩
end Go.Proofs.Ytgphcfmiamiojaa
