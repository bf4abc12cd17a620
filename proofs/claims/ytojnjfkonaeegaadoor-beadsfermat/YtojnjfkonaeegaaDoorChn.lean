/- What beads' check, isAbove and checkListed tell where nothing is wrong. -/
import Derived.Test.YtojnjfkonaeegaaDoorFb
namespace Go.Proofs.YtojnjfkonaeegaaDoor
open Go Go.RowKit

set_option maxRecDepth 100000 in
set_option maxHeartbeats 2000000 in
theorem check_good (n k : Nat) (w : World) (h1 : 1 ≤ n) (h2 : n ≤ 1000) (h3 : 1 ≤ k) (h4 : k ≤ 1000) :
    Calls Tryd.prog 33 #[.int .i64 n, .int .i64 k] w fun e w' => e = .returned (.agg #[.int .i64 0, .int .i64 0]) ∧ Below w.heap.size w w' := by
  have a1 : ¬ (n : Int) < 1 := by omega
  have a2 : ¬ (1000 : Int) < (n : Int) := by omega
  have a3 : ¬ (k : Int) < 1 := by omega
  have a4 : ¬ (1000 : Int) < (k : Int) := by omega
  have a5 : ¬ n < 1 := by omega
  have a6 : ¬ 1000 < n := by omega
  have a7 : ¬ k < 1 := by omega
  have a8 : ¬ 1000 < k := by omega
  go_enter Tryd.func33, Tryd.ntmps33
  go_wp2
  refine bodyPost_ret (v := .agg #[.int .i64 0, .int .i64 0]) (by simp [results, Tryd.results33, go_sem]) rfl ⟨rfl, ?_⟩
  exact (Below.refl _ w).alloc (Nat.le_refl _) _

set_option maxRecDepth 100000 in
set_option maxHeartbeats 2000000 in
theorem above_good (n k m : Nat) (w : World) (hn : n ≤ 1000) (hk0 : 0 < k) (hm : m ≤ 1000000) (h : k ^ n ≤ m) :
    Calls Tryd.prog 70 #[.int .i64 n, .int .i64 k, .int .i64 m] w fun e w' => e = .returned (.bool false) ∧ w' = w := by
  have hpow : ∀ j, j ≤ n → k ^ j ≤ m := fun j hj => Nat.le_trans (Nat.pow_le_pow_right hk0 hj) h
  have HP := hide hpow
  clear h hpow
  go_enter Tryd.func70, Tryd.ntmps70
  go_wp2
  go_loopw [7, 9] (fun c i wr => ∃ (j p : Nat), j ≤ n ∧ i = .int .i64 j ∧ c = .int .i64 p ∧ k ^ j = p ∧ wr = w) (fun _ i _ => n - (intOf i).toNat)
  case atStart => exact ⟨0, 1, Nat.zero_le _, rfl, rfl, rfl, rfl⟩
  case round =>
    obtain ⟨j, p, hj, rfl, rfl, hp, rfl⟩ := hrel
    by_cases hlt : j < n
    · have hpp := HP.out (j + 1) (by omega)
      have hp0 := HP.out j (by omega)
      obtain ⟨q, hq⟩ : ∃ q, k ^ (j + 1) = q := ⟨_, rfl⟩
      have hqe : (p : Int) * (k : Int) = (q : Int) := by
        rw [← hq, ← hp, Nat.pow_succ, Int.natCast_mul]
      rw [hq] at hpp
      rw [hp] at hp0
      have hqw : IntKind.i64.wrap (q : Int) = (q : Int) := by rw [IntKind.wrap_i64]; omega
      have hqm : ¬ (m : Int) < (q : Int) := by omega
      have hji : (j : Int) < (n : Int) := by omega
      have HQ := hide hq
      clear hq hp
      go_wp2
      go_roundw
      case rel => exact ⟨j + 1, q, by omega, by go_num, rfl, HQ.out, by trivial⟩
      case measure => simp [intOf]; omega
    · have hji : ¬ (j : Int) < (n : Int) := by omega
      clear hp
      go_wp2
      go_ret
      exact ⟨rfl, rfl⟩

set_option maxRecDepth 100000 in
set_option maxHeartbeats 2000000 in
theorem listed_good (n k : Nat) (w : World) (h1 : 1 ≤ n) (h2 : n ≤ 20) (h3 : 1 ≤ k) (h4 : k ≤ 1000) (h5 : k ^ n ≤ 20000) :
    Calls Tryd.prog 44 #[.int .i64 n, .int .i64 k] w fun e w' => e = .returned (.agg #[.int .i64 0, .int .i64 0]) ∧ Below w.heap.size w w' := by
  have hB0 : Below w.heap.size w (w.alloc (.cells #[.int .i64 0, .int .i64 0] 25)) := balloc w _
  have HC := hide (check_good n k (w.alloc (.cells #[.int .i64 0, .int .i64 0] 25)) h1 (by omega) h3 h4)
  have HA := hide (fun W => above_good n k 20000 W (by omega) h3 (by omega) h5)
  have a2 : ¬ (20 : Int) < (n : Int) := by omega
  have a6 : ¬ 20 < n := by omega
  have hR := new26 w
  clear h5
  go_enter Tryd.func44, Tryd.ntmps44
  go_wp2_with fail
  refine HC.out.mono ?_
  rintro e w1 ⟨rfl, hb1⟩
  have hB1 := bcat hB0 hb1 (by simp)
  have hR1 := hR.of_eq (hb1.block _ hR.lt)
  have hs1 : w.heap.size < w1.heap.size := hR1.lt
  have hR2 := hR1.alloc (.cells #[.int .i64 0, .int .i64 0] 25)
  have hB2 := hB1.alloc hB1.size (.cells #[.int .i64 0, .int .i64 0] 25)
  obtain ⟨_, c0, c1, f0, f1, s0, s1⟩ := Two.mk' hR2
  clear HC hR1 hB1 hb1 hB0 hR
  go_wp2_with fail
  refine (HA.out _).mono ?_
  rintro e w2 ⟨rfl, rfl⟩
  go_wp2
  refine bodyPost_ret (v := .agg #[.int .i64 0, .int .i64 0]) (by simp [results, Tryd.results44, go_sem, c0, c1]) rfl ⟨rfl, hB2⟩

end Go.Proofs.YtojnjfkonaeegaaDoor
