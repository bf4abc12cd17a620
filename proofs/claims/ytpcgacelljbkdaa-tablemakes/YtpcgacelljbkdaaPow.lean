/- What Pow of package table answers. -/
import Derived.Test.YtpcgacelljbkdaaLag
import Derived.Test.YtpcgacelljbkdaaOrders
namespace Go.Proofs.Ytpcgacelljbkdaa
open Go Go.RowKit

/-- What the walk reckons: the rest of a number by an order. -/
theorem rest_of (z : Int) {o : Nat} (h : 0 < o) : ∃ s : Nat, s < o ∧ (s : Int) = z % (o : Int) ∧ ((z.tmod o < 0 ∧ z.tmod o + o = s) ∨ (¬ z.tmod o < 0 ∧ z.tmod o = s)) := by
  have h1 := Int.emod_nonneg z (show (o : Int) ≠ 0 by omega)
  have h2 := Int.emod_lt_of_pos z (show (0 : Int) < o by omega)
  refine ⟨(z % (o : Int)).toNat, by omega, by omega, ?_⟩
  rcases Int.lt_or_le z 0 with hn | hn
  · have h3 := Int.tmod_eq_emod (a := z) (b := (o : Int))
    rw [h3]
    split
    · right; omega
    · left
      rw [Int.natAbs_natCast]; omega
  · right
    rw [Int.tmod_eq_emod_of_nonneg hn]
    omega
theorem tfault_ok {n e : Nat} {zs : List Int} (h : IsGrp n zs e) {a : Nat} (ha : a < n) : tfault n zs a = (0, 0) := by
  unfold tfault
  rw [gfault_of_grp h, if_neg (by simp), if_pos (by omega)]

set_option maxRecDepth 100000 in
set_option maxHeartbeats 4000000 in
theorem pow_ok {n e : Nat} {zs : List Int} (h : IsGrp n zs e) {a : Nat} (ha : a < n) (z : Int) (v : Value) (w : World) (hv : Sl w v zs) :
    Calls Try.prog 28 #[.agg #[.int .i64 n, v], .int .i64 a, .int .i64 z] w fun r w' => r = .returned (.tuple #[.int .i64 (pz n zs e a z), .agg #[.int .i64 0, .int .i64 0]]) ∧ Below w.heap.size w w' := by
  obtain ⟨w0, BG⟩ := Beg.new w n v
  have hv0 := hv.below BG.bel
  obtain ⟨c0, c1, _, _⟩ := BG.box.two
  have hck := checkThing_any n a v zs w0 hv0
  rw [tfault_ok h ha] at hck
  have HCK := hide hck
  have HO := hide (fun W (hW : Sl W v zs) => oneOf_ok n v zs W h.tab hW)
  rw [h.one] at HO
  have HR := hide (fun W (hW : Sl W v zs) => orderOf_ok n e a v zs W h hW ha)
  have hle := h.tab.le
  have hop := ord_pos (n := n) (zs := zs) (e := e) a
  have hol := ord_le h ha
  obtain ⟨t, hto, hte, hcase⟩ := rest_of z hop
  have hpz : pz n zs e a z = pw n zs e a t := by unfold pz; rw [← hte, Int.toNat_natCast]
  rw [hpz]
  have HT := hide h.tab
  have HPL := hide (fun k => pw_lt h ha k)
  generalize ordN n zs e a = o at *
  have ho0 : ¬ ((o : Int) = 0) := by omega
  have hoi : 0 < (o : Int) := by omega
  obtain ⟨m, hm⟩ : ∃ m, z.tmod (o : Int) = m := ⟨_, rfl⟩
  rw [hm] at hcase
  clear hck h hpz hte
  rw [BG.eq] at c0 c1
  go_enter Try.func28, Try.ntmps28
  go_wp2_with fail
  rw [← BG.eq]
  refine HCK.out.mono ?_
  rintro x w1 ⟨rfl, hb1⟩
  clear c0 c1
  have hB1 := bcat2 hb1 (balloc w1 (.cells #[.int .i64 0, .int .i64 0] 27))
  obtain ⟨k0, k1, _, _⟩ := (blk_below BG.box hB1).two
  go_wp2_with fail
  refine (HO.out _ (hv0.below hB1)).mono ?_
  rintro x w2 ⟨rfl, hb2⟩
  have hB2 := bcat2 hB1 hb2
  clear k0 k1
  obtain ⟨k0, k1, _, _⟩ := (blk_below BG.box hB2).two
  go_wp2_with fail
  refine (HR.out _ (hv0.below hB2)).mono ?_
  rintro x w3 ⟨rfl, hb3⟩
  have hB3 := bcat2 hB2 hb3
  clear k0 k1 hb1 hb2 hb3 hB1 hB2
  obtain ⟨g0, g1, _, _⟩ := BG.box.two
  rcases hcase with ⟨hm1, hm2⟩ | ⟨hm1, hm2⟩
  · have hts : m + (o : Int) = (t : Int) := hm2
    have htr : -9223372036854775808 ≤ m := by omega
    have htt : t < 60 := by omega
    clear hm2
    go_wp2
    clear hm hts htr hm1
    go_loopw [12, 36] (fun p i wr => ∃ k : Nat, k ≤ t ∧ i = .int .i64 k ∧ p = .int .i64 (pw n zs e a k) ∧ Below w0.heap.size w0 wr) (fun _ i _ => t - (intOf i).toNat)
    case atStart => exact ⟨0, Nat.zero_le _, rfl, rfl, hB3⟩
    case round =>
      obtain ⟨k, hk, rfl, rfl, hB⟩ := hrel
      have d0 := below_cell hB g0
      have d1 := below_cell hB g1
      by_cases hlt : k < t
      · have hpl := HPL.out k
        have HST := hide (show tm n zs (pw n zs e a k) a = pw n zs e a (k + 1) from rfl)
        go_wp2_with fail
        refine (product_ok n v zs _ a _ HT.out (hv0.below hB) hpl ha).mono ?_
        rintro x w5 ⟨rfl, hb5⟩
        have hB5 := bcat2 hB hb5
        rw [HST.out]
        clear d0 d1
        go_wp2
        go_roundw
        case rel => exact ⟨k + 1, by omega, by go_num, rfl, hB5⟩
        case measure => simp [intOf]; omega
      · have hkt : k = t := by omega
        subst hkt
        have hR9 := blk_below BG.res hB
        have hB9 := bcat BG.bel hB BG.bel.size
        obtain ⟨_, z0, z1, fz0, fz1, s0, s1⟩ := Two.mk' hR9
        clear d0 d1
        go_wp2
        exact bodyPost_ret (v := .tuple #[.int .i64 (pw n zs e a k), .agg #[.int .i64 0, .int .i64 0]]) (by simp [results, Try.results28, go_sem, z0, z1]) rfl ⟨rfl, hB9⟩
  · have hts : m = (t : Int) := hm2
    subst hts
    have htt : t < 60 := by omega
    go_wp2
    clear hm hm1
    go_loopw [12, 36] (fun p i wr => ∃ k : Nat, k ≤ t ∧ i = .int .i64 k ∧ p = .int .i64 (pw n zs e a k) ∧ Below w0.heap.size w0 wr) (fun _ i _ => t - (intOf i).toNat)
    case atStart => exact ⟨0, Nat.zero_le _, rfl, rfl, hB3⟩
    case round =>
      obtain ⟨k, hk, rfl, rfl, hB⟩ := hrel
      have d0 := below_cell hB g0
      have d1 := below_cell hB g1
      by_cases hlt : k < t
      · have hpl := HPL.out k
        have HST := hide (show tm n zs (pw n zs e a k) a = pw n zs e a (k + 1) from rfl)
        go_wp2_with fail
        refine (product_ok n v zs _ a _ HT.out (hv0.below hB) hpl ha).mono ?_
        rintro x w5 ⟨rfl, hb5⟩
        have hB5 := bcat2 hB hb5
        rw [HST.out]
        clear d0 d1
        go_wp2
        go_roundw
        case rel => exact ⟨k + 1, by omega, by go_num, rfl, hB5⟩
        case measure => simp [intOf]; omega
      · have hkt : k = t := by omega
        subst hkt
        have hR9 := blk_below BG.res hB
        have hB9 := bcat BG.bel hB BG.bel.size
        obtain ⟨_, z0, z1, fz0, fz1, s0, s1⟩ := Two.mk' hR9
        clear d0 d1
        go_wp2
        exact bodyPost_ret (v := .tuple #[.int .i64 (pw n zs e a k), .agg #[.int .i64 0, .int .i64 0]]) (by simp [results, Try.results28, go_sem, z0, z1]) rfl ⟨rfl, hB9⟩
end Go.Proofs.Ytpcgacelljbkdaa
