/- What the document's Power gives at permutations and every int. -/
import Derived.Test.YtpcfljkniodlbaaDoorThen
import Derived.Test.YtpcfljkniodlbaaDoorPows
namespace Go.Proofs.YtpcfljkniodlbaaDoor
open Go Go.RowKit

set_option maxRecDepth 100000 in
set_option maxHeartbeats 4000000 in
theorem power_nat (a : Option Addr) (cap : Nat) (xs : List Int) (hx : IsPerm xs) (h1000 : xs.length ≤ 1000) : ∀ (f n : Nat), n < f → n ≤ 9223372036854775807 → ∀ (w : World), 0 < w.heap.size → Sl w (.slice a xs.length cap) xs →
    Calls Tryd.prog 27 #[.slice a xs.length cap, .int .i64 n] w fun e w' => ∃ r, e = .returned r ∧ Row w' w.heap.size r (powN xs n) ∧ Below w.heap.size w w'
  | 0, n, hn, _, _, _, _ => by omega
  | f + 1, n, hn, hmax, w, h0, hu => by
    have HX := hide hx
    have hq4 : xs.length ≤ 9223372036854775807 := by omega
    by_cases hz : n = 0
    · subst hz
      go_enter Tryd.func27, Tryd.ntmps27
      go_wp2_with fail
      refine (stays_own xs.length w h1000).mono ?_
      rintro e w1 ⟨r, rfl, hr, hb⟩
      go_wp2
      go_ret
      exact ⟨r, rfl, hr, hb⟩
    · have ih := power_nat a cap xs hx h1000 f (n / 2) (by omega) (by omega)
      have hdiv : ((n : Int)).tdiv 2 = ((n / 2 : Nat) : Int) := by
        rw [Int.tdiv_eq_ediv_of_nonneg (by omega)]; omega
      have hneg : ¬ ((n : Int) < 0) := by omega
      have hne : ((n : Int) == 0) = false := by simp; omega
      have hph := powN_perm hx (n / 2)
      have hlh := powN_len xs (n / 2)
      have hadd := powN_add hx (n / 2) (n / 2)
      have hp2 := powN_perm hx (n / 2 + n / 2)
      have hl2 := powN_len xs (n / 2 + n / 2)
      by_cases hodd : n % 2 = 1
      · have hrem : ((n : Int)).tmod 2 = 1 := by
          rw [Int.tmod_eq_emod_of_nonneg (by omega)]; omega
        have hlast : mulL (powN xs (n / 2 + n / 2)) xs = powN xs n := by
          have := powN_add hx (n / 2 + n / 2) 1
          rw [powN_one hx] at this
          rw [this, show n / 2 + n / 2 + 1 = n by omega]
        have hmb : ((n / 2 : Nat) : Int) ≤ 9223372036854775807 := by omega
        generalize n / 2 = m at hmb ih hdiv hph hlh hadd hp2 hl2 hlast
        have IH := hide ih
        have HPH := hide hph
        have HLH := hide hlh
        have HADD := hide hadd
        have HP2 := hide hp2
        have HL2 := hide hl2
        have HLAST := hide hlast
        clear ih hph hlh hadd hp2 hl2 hlast hz hodd
        go_enter Tryd.func27, Tryd.ntmps27
        go_wp2_with fail
        refine (IH.out w h0 hu).mono ?_
        rintro e w1 ⟨r, rfl, hr1, hb1⟩
        have z1 : 0 < w1.heap.size := by have := hb1.size; omega
        have hs1 := hr1.sl z1
        have hu1 := hu.below hb1
        clear hu hr1
        go_wp2_with fail
        refine (then_ok _ _ _ _ w1 hs1 hs1 HPH.out rfl (by rw [HLH.out]; exact h1000)).mono ?_
        rintro e w2 ⟨r2, rfl, hr2, hb2⟩
        rw [HADD.out] at hr2
        have z2 : 0 < w2.heap.size := by have := hb2.size; omega
        have hs2 := hr2.sl z2
        have hu2 := hu1.below hb2
        have hB2 := bcat hb1 hb2 hb1.size
        clear hb1 hb2 hr2 hs1
        go_wp2_with fail
        refine (then_ok _ _ _ _ w2 hs2 hu2 HP2.out (by rw [HL2.out]) (by rw [HL2.out]; exact h1000)).mono ?_
        rintro e w3 ⟨r3, rfl, hr3, hb3⟩
        rw [HLAST.out] at hr3
        have hB3 := bcat hB2 hb3 hB2.size
        have hr3' : Row w3 w.heap.size r3 (powN xs n) := owns_mono hr3 hB2.size
        clear hr3
        go_wp2
        go_ret
        exact ⟨_, rfl, hr3', hB3⟩
      · have hrem : ((n : Int)).tmod 2 = 0 := by
          rw [Int.tmod_eq_emod_of_nonneg (by omega)]; omega
        have hlast : powN xs (n / 2 + n / 2) = powN xs n := by rw [show n / 2 + n / 2 = n by omega]
        have hmb : ((n / 2 : Nat) : Int) ≤ 9223372036854775807 := by omega
        generalize n / 2 = m at hmb ih hdiv hph hlh hadd hp2 hl2 hlast
        have IH := hide ih
        have HPH := hide hph
        have HLH := hide hlh
        have HADD := hide hadd
        have HLAST := hide hlast
        clear ih hph hlh hadd hp2 hl2 hlast hz hodd
        go_enter Tryd.func27, Tryd.ntmps27
        go_wp2_with fail
        refine (IH.out w h0 hu).mono ?_
        rintro e w1 ⟨r, rfl, hr1, hb1⟩
        have z1 : 0 < w1.heap.size := by have := hb1.size; omega
        have hs1 := hr1.sl z1
        clear hu hr1
        go_wp2_with fail
        refine (then_ok _ _ _ _ w1 hs1 hs1 HPH.out rfl (by rw [HLH.out]; exact h1000)).mono ?_
        rintro e w2 ⟨r2, rfl, hr2, hb2⟩
        rw [HADD.out, HLAST.out] at hr2
        have hB2 := bcat hb1 hb2 hb1.size
        have hr3' : Row w2 w.heap.size r2 (powN xs n) := owns_mono hr2 hb1.size
        clear hb1 hb2 hr2 hs1
        go_wp2
        go_ret
        exact ⟨_, rfl, hr3', hB2⟩

set_option maxRecDepth 100000 in
set_option maxHeartbeats 4000000 in
theorem power_ok (u : Value) (xs : List Int) (n : Int) (w : World) (hu : Sl w u xs) (hx : IsPerm xs) (h1000 : xs.length ≤ 1000) (hn1 : -9223372036854775808 ≤ n) (hn2 : n ≤ 9223372036854775807) :
    Calls Tryd.prog 27 #[u, .int .i64 n] w fun e w' => ∃ r, e = .returned r ∧ Row w' w.heap.size r (powZ xs n) ∧ Below w.heap.size w w' := by
  obtain ⟨a, cap, pb, po, rfl, hr, hp, hq3, hq4⟩ := id hu
  have h0 : 0 < w.heap.size := by omega
  clear hr hp hq3 hq4
  by_cases hz : n < 0
  · obtain ⟨m, rfl⟩ : ∃ m : Nat, n = -((m : Int) + 1) := ⟨(-n - 1).toNat, by omega⟩
    have ih := power_nat a cap xs hx h1000 (m + 1) m (by omega) (by omega)
    have hng : -(-((m : Int) + 1) + 1) = (m : Int) := by omega
    have hip := invL_perm hx
    have hil := invL_len xs
    have hpp := powN_perm hx m
    have hpl := powN_len xs m
    have hjl := invL_len (powN xs m)
    have hlast := powZ_neg hx m
    have hnn : (-((m : Int) + 1) < 0) := by omega
    have hm2 : (m : Int) ≤ 9223372036854775807 := by omega
    have IH := hide ih
    have HX := hide hx
    have HIP := hide hip
    have HIL := hide hil
    have HPP := hide hpp
    have HPL := hide hpl
    have HJL := hide hjl
    have HL := hide hlast
    clear ih hx hip hil hpp hpl hjl hlast
    go_enter Tryd.func27, Tryd.ntmps27
    go_wp2_with fail
    refine (inverse_ok _ xs w hu HX.out h1000).mono ?_
    rintro e w1 ⟨r1, rfl, hr1, hb1⟩
    have z1 : 0 < w1.heap.size := by have := hb1.size; omega
    have hs1 := hr1.sl z1
    have hu1 := hu.below hb1
    clear hu hr1
    go_wp2_with fail
    refine (IH.out w1 z1 hu1).mono ?_
    rintro e w2 ⟨r2, rfl, hr2, hb2⟩
    have z2 : 0 < w2.heap.size := by have := hb2.size; omega
    have hs2 := hr2.sl z2
    have hs1 := hs1.below hb2
    have hB2 := bcat hb1 hb2 hb1.size
    clear hu1 hr2 hb1 hb2
    go_wp2_with fail
    refine (inverse_ok _ _ w2 hs2 HPP.out (by rw [HPL.out]; exact h1000)).mono ?_
    rintro e w3 ⟨r3, rfl, hr3, hb3⟩
    have z3 : 0 < w3.heap.size := by have := hb3.size; omega
    have hs3 := hr3.sl z3
    have hs1 := hs1.below hb3
    have hB3 := bcat hB2 hb3 hB2.size
    clear hs2 hr3 hb3 hB2
    go_wp2_with fail
    refine (then_ok _ _ _ _ w3 hs1 hs3 HIP.out (by rw [HIL.out, HJL.out, HPL.out]) (by rw [HIL.out]; exact h1000)).mono ?_
    rintro e w4 ⟨r4, rfl, hr4, hb4⟩
    rw [HL.out] at hr4
    have hB4 := bcat hB3 hb4 hB3.size
    have hr5 : Row w4 w.heap.size r4 (powZ xs (-((m : Int) + 1))) := owns_mono hr4 hB3.size
    clear hr4 hb4
    go_wp2
    go_ret
    exact ⟨_, rfl, hr5, hB4⟩
  · obtain ⟨m, rfl⟩ : ∃ m : Nat, n = (m : Int) := ⟨n.toNat, by omega⟩
    rw [powZ_nat]
    exact power_nat a cap xs hx h1000 (m + 1) m (by omega) (by omega) w h0 hu
end Go.Proofs.YtpcfljkniodlbaaDoor
