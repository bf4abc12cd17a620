/- What the document's O, P and Gcd are; nat.Gcd; Exponent of package table. -/
import Derived.Test.YtpcgacelljbkdaaPow
namespace Go.Proofs.Ytpcgacelljbkdaa
open Go Go.RowKit

set_option maxRecDepth 100000 in
set_option maxHeartbeats 4000000 in
theorem O_ok {n e : Nat} {zs : List Int} (h : IsGrp n zs e) {a : Nat} (ha : a < n) (v : Value) (w : World) (hv : Sl w v zs) :
    Calls Try.prog 33 #[.agg #[.int .i64 n, v], .int .i64 a] w fun x w' => x = .returned (.int .i64 (ordN n zs e a)) ∧ Below w.heap.size w w' := by
  have hB0 : Below w.heap.size w (w.alloc (.cells #[.int .i64 n, v] 24)) := balloc w _
  have hg0 : BoxG (w.alloc (.cells #[.int .i64 n, v] 24)) w.heap.size n v := blk0 _ _
  have hv0 := hv.below hB0
  have hle := h.tab.le
  have HT := hide h.tab
  have HE := hide (E_ok n v zs _ h.tab hv0)
  rw [h.one] at HE
  have HST := hide (fun k => (show tm n zs a (pr n zs a k) = pr n zs a (k + 1) by have := pr_add h ha 0 k; rw [Nat.zero_add] at this; exact this.symm))
  obtain ⟨k9, hk9, hoe, hp9, hn9⟩ := ordN_spec h ha
  rw [hoe]
  have HP := hide hp9
  have HN := hide hn9
  obtain ⟨g0, g1, _, _⟩ := hg0.two
  clear h hoe hp9 hn9
  go_enter Try.func33, Try.ntmps33
  go_wp2_with fail
  refine HE.out.mono ?_
  rintro x w1 ⟨rfl, hb1⟩
  generalize w.alloc (.cells #[.int .i64 n, v] 24) = w0 at *
  clear HE
  go_wp2
  go_loopw [6, 7] (fun p o wr => ∃ k : Nat, k ≤ k9 ∧ o = .int .i64 ((k : Int) + 1) ∧ p = .int .i64 (pr n zs a k) ∧ Below w0.heap.size w0 wr) (fun _ o _ => k9 + 1 - (intOf o).toNat)
  case atStart => exact ⟨0, Nat.zero_le _, rfl, rfl, hb1⟩
  case round =>
    obtain ⟨k, hk, rfl, rfl, hB⟩ := hrel
    have d0 := below_cell hB g0
    have d1 := below_cell hB g1
    by_cases hlt : k < k9
    · have hne : ((pr n zs a k : Int) != (e : Int)) = true := by
        have := HN.out k hlt
        simp; omega
      have hpl := pr_lt HT.out ha k
      go_wp2_with fail
      refine (M_ok n v zs a _ _ HT.out (hv0.below hB) ha hpl).mono ?_
      rintro x w2 ⟨rfl, hb2⟩
      have hB1 := bcat2 hB hb2
      rw [HST.out]
      clear d0 d1
      go_wp2
      go_roundw
      case rel => exact ⟨k + 1, by omega, by go_num, rfl, hB1⟩
      case measure => simp [intOf]; omega
    · have hkk : k = k9 := by omega
      subst hkk
      have hne : ((pr n zs a k : Int) != (e : Int)) = false := by
        have := HP.out
        simp; omega
      go_wp2
      go_ret
      exact ⟨retI (by simp), bcat hB0 hB hB0.size⟩

set_option maxRecDepth 100000 in
set_option maxHeartbeats 4000000 in
theorem P_ok {n e : Nat} {zs : List Int} (h : IsGrp n zs e) {a : Nat} (ha : a < n) (z : Int) (v : Value) (w : World) (hv : Sl w v zs) :
    Calls Try.prog 32 #[.agg #[.int .i64 n, v], .int .i64 a, .int .i64 z] w fun r w' => r = .returned (.int .i64 (pz n zs e a z)) ∧ Below w.heap.size w w' := by
  have hB0 : Below w.heap.size w (w.alloc (.cells #[.int .i64 n, v] 24)) := balloc w _
  have hg0 : BoxG (w.alloc (.cells #[.int .i64 n, v] 24)) w.heap.size n v := blk0 _ _
  have hv0 := hv.below hB0
  have hle := h.tab.le
  have HE := hide (fun W (hW : Sl W v zs) => E_ok n v zs W h.tab hW)
  rw [h.one] at HE
  have HR := hide (fun W (hW : Sl W v zs) => O_ok h ha v W hW)
  have hop := ord_pos (n := n) (zs := zs) (e := e) a
  have hol := ord_le h ha
  obtain ⟨t, hto, hte, hcase⟩ := rest_of z hop
  have hpz : pz n zs e a z = pw n zs e a t := by unfold pz; rw [← hte, Int.toNat_natCast]
  rw [hpz]
  have HT := hide h.tab
  have HPL := hide (fun k => pw_lt h ha k)
  generalize ordN n zs e a = o at *
  have ho0 : ¬ ((o : Int) = 0) := by omega
  have hoi : 0 < (o : Int) := by omega
  obtain ⟨m, hm⟩ : ∃ m, z.tmod (o : Int) = m := ⟨_, rfl⟩
  rw [hm] at hcase
  obtain ⟨g0, g1, _, _⟩ := hg0.two
  clear h hpz hte
  go_enter Try.func32, Try.ntmps32
  go_wp2_with fail
  generalize w.alloc (.cells #[.int .i64 n, v] 24) = w0 at *
  refine (HR.out _ hv0).mono ?_
  rintro x w1 ⟨rfl, hb1⟩
  rcases hcase with ⟨hm1, hm2⟩ | ⟨hm1, hm2⟩
  · have hts : m + (o : Int) = (t : Int) := hm2
    have htr : -9223372036854775808 ≤ m := by omega
    have htt : t < 60 := by omega
    have k0 := below_cell hb1 g0
    have k1 := below_cell hb1 g1
    clear hm2
    go_wp2_with fail
    refine (HR.out _ (hv0.below hb1)).mono ?_
    rintro x w2 ⟨rfl, hb2⟩
    have hB2 := bcat2 hb1 hb2
    clear k0 k1
    have k0 := below_cell hB2 g0
    have k1 := below_cell hB2 g1
    go_wp2_with fail
    refine (HE.out _ (hv0.below hB2)).mono ?_
    rintro x w3 ⟨rfl, hb3⟩
    have hB3 := bcat2 hB2 hb3
    clear k0 k1
    go_wp2
    clear hm hts htr hm1
    go_loopw [8, 9] (fun p i wr => ∃ k : Nat, k ≤ t ∧ i = .int .i64 k ∧ p = .int .i64 (pw n zs e a k) ∧ Below w0.heap.size w0 wr) (fun _ i _ => t - (intOf i).toNat)
    case atStart => exact ⟨0, Nat.zero_le _, rfl, rfl, hB3⟩
    case round =>
      obtain ⟨k, hk, rfl, rfl, hB⟩ := hrel
      have d0 := below_cell hB g0
      have d1 := below_cell hB g1
      by_cases hlt : k < t
      · have hpl := HPL.out k
        have HST := hide (show tm n zs (pw n zs e a k) a = pw n zs e a (k + 1) from rfl)
        go_wp2_with fail
        refine (M_ok n v zs _ a _ HT.out (hv0.below hB) hpl ha).mono ?_
        rintro x w5 ⟨rfl, hb5⟩
        have hB5 := bcat2 hB hb5
        rw [HST.out]
        clear d0 d1
        go_wp2
        go_roundw
        case rel => exact ⟨k + 1, by omega, by go_num, rfl, hB5⟩
        case measure => simp [intOf]; omega
      · have hkt : k = t := by omega
        subst hkt
        go_wp2
        go_ret
        exact ⟨retI rfl, bcat hB0 hB hB0.size⟩
  · have hts : m = (t : Int) := hm2
    subst hts
    have htt : t < 60 := by omega
    have k0 := below_cell hb1 g0
    have k1 := below_cell hb1 g1
    go_wp2_with fail
    refine (HE.out _ (hv0.below hb1)).mono ?_
    rintro x w3 ⟨rfl, hb3⟩
    have hB3 := bcat2 hb1 hb3
    clear k0 k1
    go_wp2
    clear hm hm1
    go_loopw [8, 9] (fun p i wr => ∃ k : Nat, k ≤ t ∧ i = .int .i64 k ∧ p = .int .i64 (pw n zs e a k) ∧ Below w0.heap.size w0 wr) (fun _ i _ => t - (intOf i).toNat)
    case atStart => exact ⟨0, Nat.zero_le _, rfl, rfl, hB3⟩
    case round =>
      obtain ⟨k, hk, rfl, rfl, hB⟩ := hrel
      have d0 := below_cell hB g0
      have d1 := below_cell hB g1
      by_cases hlt : k < t
      · have hpl := HPL.out k
        have HST := hide (show tm n zs (pw n zs e a k) a = pw n zs e a (k + 1) from rfl)
        go_wp2_with fail
        refine (M_ok n v zs _ a _ HT.out (hv0.below hB) hpl ha).mono ?_
        rintro x w5 ⟨rfl, hb5⟩
        have hB5 := bcat2 hB hb5
        rw [HST.out]
        clear d0 d1
        go_wp2
        go_roundw
        case rel => exact ⟨k + 1, by omega, by go_num, rfl, hB5⟩
        case measure => simp [intOf]; omega
      · have hkt : k = t := by omega
        subst hkt
        go_wp2
        go_ret
        exact ⟨retI rfl, bcat hB0 hB hB0.size⟩

set_option maxRecDepth 100000 in
set_option maxHeartbeats 4000000 in
theorem gcd_ok (a b : Nat) (w : World) (ha : a ≤ 1000000) (hb : b ≤ 1000000) :
    Calls Try.prog 34 #[.int .i64 a, .int .i64 b] w fun r w' => r = .returned (.int .i64 (Nat.gcd a b)) ∧ Below w.heap.size w w' := by
  obtain ⟨g, hg⟩ : ∃ g, Nat.gcd a b = g := ⟨_, rfl⟩
  rw [hg]
  have HG := hide hg
  clear hg
  go_enter Try.func34, Try.ntmps34
  go_wp2
  go_loopw [0, 1] (fun p q wr => ∃ x y : Nat, x ≤ 1000000 ∧ y ≤ 1000000 ∧ p = .int .i64 x ∧ q = .int .i64 y ∧ Nat.gcd x y = g ∧ Below w.heap.size w wr) (fun _ q _ => (intOf q).toNat)
  case atStart => exact ⟨a, b, ha, hb, rfl, rfl, HG.out, Below.refl _ _⟩
  case round =>
    obtain ⟨x, y, hx, hy, rfl, rfl, hxy, hB⟩ := hrel
    have HXY := hide hxy
    clear hxy
    by_cases hy0 : y = 0
    · subst hy0
      have hxg : x = g := by rw [← HXY.out, Nat.gcd_zero_right]
      go_wp2
      go_ret
      exact ⟨retI (by rw [hxg]), hB⟩
    · have hyn : ¬ ((y : Int) = 0) := by omega
      have hyb : ((y : Int) != 0) = true := by simp; omega
      have hm := Int.tmod_eq_emod_of_nonneg (a := (x : Int)) (b := (y : Int)) (by omega)
      rw [← Int.natCast_emod] at hm
      have hml : x % y < y := Nat.mod_lt _ (by omega)
      have hgc : Nat.gcd y (x % y) = g := by rw [← HXY.out, Nat.gcd_comm x y, Nat.gcd_rec y x, Nat.gcd_comm]
      have HGC := hide hgc
      clear hgc
      generalize x % y = r at *
      go_wp2_with fail
      go_quiet (fail)
      go_wp2
      go_roundw
      case rel => exact ⟨y, r, by omega, by omega, rfl, rfl, HGC.out, bdrewN hB _⟩
      case measure => simp [intOf]; omega

set_option maxRecDepth 100000 in
set_option maxHeartbeats 4000000 in
theorem natGcd_ok (a b : Nat) (w : World) (ha : a ≤ 1000000) (hb : b ≤ 1000000) :
    Calls Try.prog 63 #[.int .u64 a, .int .u64 b] w fun r w' => r = .returned (.int .u64 (Nat.gcd a b)) ∧ Below w.heap.size w w' := by
  obtain ⟨g, hg⟩ : ∃ g, Nat.gcd a b = g := ⟨_, rfl⟩
  rw [hg]
  have HG := hide hg
  clear hg
  go_enter Try.func63, Try.ntmps63
  go_wp2
  go_loopw [0, 1] (fun p q wr => ∃ x y : Nat, x ≤ 1000000 ∧ y ≤ 1000000 ∧ p = .int .u64 x ∧ q = .int .u64 y ∧ Nat.gcd x y = g ∧ Below w.heap.size w wr) (fun _ q _ => (intOf q).toNat)
  case atStart => exact ⟨a, b, ha, hb, rfl, rfl, HG.out, Below.refl _ _⟩
  case round =>
    obtain ⟨x, y, hx, hy, rfl, rfl, hxy, hB⟩ := hrel
    have HXY := hide hxy
    clear hxy
    by_cases hy0 : y = 0
    · subst hy0
      have hxg : x = g := by rw [← HXY.out, Nat.gcd_zero_right]
      go_wp2
      go_ret
      exact ⟨by rw [hxg]; rfl, hB⟩
    · have hyn : ¬ ((y : Int) = 0) := by omega
      have hyp : (0 : Int) < (y : Int) := by omega
      have hm := Int.tmod_eq_emod_of_nonneg (a := (x : Int)) (b := (y : Int)) (by omega)
      rw [← Int.natCast_emod] at hm
      have hml : x % y < y := Nat.mod_lt _ (by omega)
      have hgc : Nat.gcd y (x % y) = g := by rw [← HXY.out, Nat.gcd_comm x y, Nat.gcd_rec y x, Nat.gcd_comm]
      have HGC := hide hgc
      clear hgc
      generalize x % y = r at *
      go_wp2_with fail
      go_quiet (fail)
      go_wp2
      go_roundw
      case rel => exact ⟨y, r, by omega, by omega, rfl, rfl, HGC.out, bdrewN hB _⟩
      case measure => simp [intOf]; omega
end Go.Proofs.Ytpcgacelljbkdaa
