/- What beads.first answers: Duval's reading. -/
import Derived.Test.YtojnjfkonaeegaaDoorFb
import Derived.Test.YtojnjfkonaeegaaDoorDv2
namespace Go.Proofs.YtojnjfkonaeegaaDoor
open Go Go.RowKit

/-- A list as a row of numbers. -/
def X (zs : List Int) (t : Nat) : Int := zs[t]?.getD 0

set_option maxRecDepth 100000 in
set_option maxHeartbeats 2000000 in
theorem first_ok (v : Value) (zs : List Int) (w : World) (hv : Sl w v zs) (h0 : 0 < zs.length) (hsm : zs.length ≤ 1000000) (p r : Nat) (hS : scan (X zs) zs.length zs.length 1 1 = (p, r)) :
    Calls Tryd.prog 47 #[v] w fun e w' => e = .returned (.tuple #[.int .i64 p, .int .i64 ((r / p : Nat) : Int)]) ∧ ∃ m, w' = w.drewN m := by
  obtain ⟨a, cap, pb, po, rfl, hr, hp, hc1, hm1⟩ := hv
  unfold maxLen at hm1
  obtain rfl := hr.at_ h0
  have HR := hide hr
  clear hr
  go_enter Tryd.func47, Tryd.ntmps47
  go_wp2
  go_loopw [2, 4] (fun x y wr => ∃ q s f j : Nat, x = .int .i64 q ∧ y = .int .i64 s ∧ wr = w.drewN j ∧ 0 < q ∧ q ≤ s ∧ s ≤ zs.length ∧ zs.length - s ≤ f ∧ scan (X zs) zs.length f q s = (p, r)) (fun _ y _ => zs.length - (intOf y).toNat)
  case atStart => exact ⟨1, 1, zs.length, 0, rfl, rfl, rfl, by omega, by omega, h0, by omega, hS⟩
  case round =>
    obtain ⟨q, s, f, j, rfl, rfl, rfl, hq0, hqs, hs, hf, hsc⟩ := hrel
    by_cases hlt : s < zs.length
    · obtain ⟨f', rfl⟩ : ∃ f', f = f' + 1 := ⟨f - 1, by omega⟩
      unfold scan at hsc
      have hx := HR.out.cell s hlt
      have hy := HR.out.cell (s - q) (by omega)
      have hX1 : X zs s = zs[s]?.getD 0 := rfl
      have hX2 : X zs (s - q) = zs[s - q]?.getD 0 := rfl
      rw [hX1, hX2] at hsc
      have hi1 : (s : Int) < (zs.length : Int) := by omega
      have hi2 : (s : Int) - (q : Int) = ((s - q : Nat) : Int) := by omega
      have hi3 : IntKind.i64.wrap ((s - q : Nat) : Int) = ((s - q : Nat) : Int) := by rw [IntKind.wrap_i64]; omega
      have hi4 : ((s - q : Nat) : Int) < (zs.length : Int) := by omega
      generalize zs[s]?.getD 0 = x at *
      generalize zs[s - q]?.getD 0 = y at *
      by_cases hc : y ≤ x
      · rw [if_pos ⟨hlt, hc⟩] at hsc
        by_cases hg : y < x
        · rw [if_pos hg] at hsc
          have HC := hide hsc
          clear hsc
          go_wp2
          go_quiet (fail)
          go_wp2
          go_quiet (fail)
          go_wp2
          go_roundw
          case rel => exact ⟨s + 1, s + 1, f', _, by go_num, by go_num, rfl, by omega, by omega, by omega, by omega, HC.out⟩
          case measure => simp [intOf]; omega
        · rw [if_neg hg] at hsc
          have HC := hide hsc
          clear hsc
          go_wp2
          go_quiet (fail)
          go_wp2
          go_quiet (fail)
          go_wp2
          go_roundw
          case rel => exact ⟨q, s + 1, f', _, rfl, by go_num, rfl, by omega, by omega, by omega, by omega, HC.out⟩
          case measure => simp [intOf]; omega
      · rw [if_neg (by omega)] at hsc
        obtain ⟨rfl, rfl⟩ := Prod.mk.inj hsc
        have hdz : ¬ (q : Int) = 0 := by omega
        have hdz2 : ¬ q = 0 := by omega
        obtain ⟨k, hk⟩ : ∃ k : Nat, s / q = k := ⟨_, rfl⟩
        have hkr : k ≤ s := by rw [← hk]; exact Nat.div_le_self _ _
        have htd : (s : Int).tdiv (q : Int) = (k : Int) := by rw [Int.tdiv_eq_ediv_of_nonneg (by omega), ← hk]; rfl
        have hkw : IntKind.i64.wrap (k : Int) = (k : Int) := by rw [IntKind.wrap_i64]; omega
        have HK := hide hk
        clear hk
        clear hsc
        go_wp2
        go_quiet (fail)
        go_wp2
        go_quiet (fail)
        go_wp2
        go_ret2
        exact ⟨by rw [HK.out]; rfl, _, by rw [World.drewN_drewN, World.drewN_drewN]⟩
    · have hsc' : (q, s) = (p, r) := by
        rw [← hsc]
        cases f with
        | zero => rfl
        | succ f => unfold scan; rw [if_neg (by omega)]
      obtain ⟨rfl, rfl⟩ := Prod.mk.inj hsc'
      have hdz : ¬ (q : Int) = 0 := by omega
      have hdz2 : ¬ q = 0 := by omega
      obtain ⟨k, hk⟩ : ∃ k : Nat, s / q = k := ⟨_, rfl⟩
      have hkr : k ≤ s := by rw [← hk]; exact Nat.div_le_self _ _
      have htd : (s : Int).tdiv (q : Int) = (k : Int) := by rw [Int.tdiv_eq_ediv_of_nonneg (by omega), ← hk]; rfl
      have hkw : IntKind.i64.wrap (k : Int) = (k : Int) := by rw [IntKind.wrap_i64]; omega
      have HK := hide hk
      clear hk
      clear hsc hsc'
      go_wp2
      go_quiet (fail)
      go_wp2
      go_quiet (fail)
      go_wp2
      go_ret2
      exact ⟨by rw [HK.out]; rfl, _, by rw [World.drewN_drewN, World.drewN_drewN]⟩

end Go.Proofs.YtojnjfkonaeegaaDoor
