/- TablePowers returns true at every table and every three ints. -/
import Derived.Test.YtpcgacelljbkdaaBegun
import Derived.Test.YtpcgacelljbkdaaFrame
import Derived.Test.YtpcgacelljbkdaaPow
namespace Go.Proofs.Ytpcgacelljbkdaa
open Go Go.RowKit

theorem sl1 (W : World) (a : Int) : Sl (W.alloc (.cells #[.int .i64 a] 3)) (.slice (some ⟨W.heap.size, 0, none⟩) 1 1) [a] :=
  Sl.of_blk (zs := [a]) (World.alloc_heap_new W _) rfl (by simp)
theorem cell_eq {a b : World} (h : Below a.heap.size a b) (p : Addr) (hp : (a.cell? p).isSome = true) : b.cell? p = a.cell? p := by
  obtain ⟨v, hv⟩ := Option.isSome_iff_exists.1 hp
  rw [hv]; exact below_cell h hv
theorem frozen_eq {a b : World} (h : Below a.heap.size a b) (p : Addr) (hp : (a.cell? p).isSome = true) : b.frozen? p = a.frozen? p := by
  obtain ⟨v, hv⟩ := Option.isSome_iff_exists.1 hp
  simp [World.frozen?, h.block _ (World.block_lt_of_cell? a p hv)]

set_option maxRecDepth 100000 in
set_option maxHeartbeats 8000000 in
theorem powers_any (N a m k : Int) (v : Value) (zs : List Int) (w : World) (hv : SlA w v zs) :
    Calls Try.prog 10 #[.agg #[.int .i64 N, v], .int .i64 a, .int .i64 m, .int .i64 k] w fun r w' => r = .returned (.bool true) ∧ Below w.heap.size w w' := by
  have hB0 : Below w.heap.size w (w.alloc (.cells #[.int .i64 N, v] 24)) := balloc w _
  have hg0 : BoxG (w.alloc (.cells #[.int .i64 N, v] 24)) w.heap.size N v := blk0 _ _
  have hv0 := hv.up hB0 (by have := hg0.lt; omega)
  have Htf := hide (fun (s : Value) (W : World) (h : Sl W v zs) (k : Sl W s [a]) => thingFault_any N v s zs [a] W h k (by simp))
  rw [tfl_one] at Htf
  have hfd := field27
  obtain ⟨g0, g1, _, _⟩ := hg0.two
  by_cases hc : (tfault N zs a).1 = 0
  · obtain ⟨n, e, x, rfl, rfl, h, hx, hz⟩ := tfault_grp hc
    rw [hz] at Htf
    clear hz hc
    by_cases m1 : 1000000000 < m
    · go_enter Try.func10, Try.ntmps10
      go_wp2_with fail
      generalize w.alloc (.cells #[.int .i64 n, v] 24) = w0 at *
      refine (begun_any w0).mono ?_
      rintro r w1 ⟨rfl, hb1⟩
      have k0 := below_cell hb1 g0
      have k1 := below_cell hb1 g1
      go_wp2_with fail
      have hA1 := bcat2 hb1 (balloc w1 (.cells #[.int .i64 x] 3))
      refine (Htf.out _ _ (hv0.below hA1) (sl1 _ _)).mono ?_
      rintro r w2 ⟨rfl, hb2⟩
      have to2 := bcat hB0 (bcat2 hA1 hb2) hB0.size
      clear k0 k1
      go_wp2
      go_ret
      exact ⟨rfl, to2⟩
    by_cases m2 : m < -1000000000
    · go_enter Try.func10, Try.ntmps10
      go_wp2_with fail
      generalize w.alloc (.cells #[.int .i64 n, v] 24) = w0 at *
      refine (begun_any w0).mono ?_
      rintro r w1 ⟨rfl, hb1⟩
      have k0 := below_cell hb1 g0
      have k1 := below_cell hb1 g1
      go_wp2_with fail
      have hA1 := bcat2 hb1 (balloc w1 (.cells #[.int .i64 x] 3))
      refine (Htf.out _ _ (hv0.below hA1) (sl1 _ _)).mono ?_
      rintro r w2 ⟨rfl, hb2⟩
      have to2 := bcat hB0 (bcat2 hA1 hb2) hB0.size
      clear k0 k1
      go_wp2
      go_ret
      exact ⟨rfl, to2⟩
    by_cases m3 : 1000000000 < k
    · go_enter Try.func10, Try.ntmps10
      go_wp2_with fail
      generalize w.alloc (.cells #[.int .i64 n, v] 24) = w0 at *
      refine (begun_any w0).mono ?_
      rintro r w1 ⟨rfl, hb1⟩
      have k0 := below_cell hb1 g0
      have k1 := below_cell hb1 g1
      go_wp2_with fail
      have hA1 := bcat2 hb1 (balloc w1 (.cells #[.int .i64 x] 3))
      refine (Htf.out _ _ (hv0.below hA1) (sl1 _ _)).mono ?_
      rintro r w2 ⟨rfl, hb2⟩
      have to2 := bcat hB0 (bcat2 hA1 hb2) hB0.size
      clear k0 k1
      go_wp2
      go_ret
      exact ⟨rfl, to2⟩
    by_cases m4 : k < -1000000000
    · go_enter Try.func10, Try.ntmps10
      go_wp2_with fail
      generalize w.alloc (.cells #[.int .i64 n, v] 24) = w0 at *
      refine (begun_any w0).mono ?_
      rintro r w1 ⟨rfl, hb1⟩
      have k0 := below_cell hb1 g0
      have k1 := below_cell hb1 g1
      go_wp2_with fail
      have hA1 := bcat2 hb1 (balloc w1 (.cells #[.int .i64 x] 3))
      refine (Htf.out _ _ (hv0.below hA1) (sl1 _ _)).mono ?_
      rintro r w2 ⟨rfl, hb2⟩
      have to2 := bcat hB0 (bcat2 hA1 hb2) hB0.size
      clear k0 k1
      go_wp2
      go_ret
      exact ⟨rfl, to2⟩
    have hsum : IntKind.i64.wrap (m + k) = m + k := by rw [IntKind.wrap_i64]; omega
    have hmul1 : m * k ≤ 1000000000000000000 ∧ -1000000000000000000 ≤ m * k := by
      constructor
      · have h1 : (m * k).natAbs ≤ 1000000000 * 1000000000 := by rw [Int.natAbs_mul]; exact Nat.mul_le_mul (by omega) (by omega)
        omega
      · have h1 : (m * k).natAbs ≤ 1000000000 * 1000000000 := by rw [Int.natAbs_mul]; exact Nat.mul_le_mul (by omega) (by omega)
        omega
    have hP := hide (fun (z : Int) (W : World) (hW : Sl W v zs) => pow_ok h hx z v W hW)
    have hPm := hide (fun (z : Int) (W : World) (hW : Sl W v zs) => pow_ok h (pz_lt h hx m) z v W hW)
    have HE := hide (fun (W : World) (hW : Sl W v zs) => E_ok n v zs W h.tab hW)
    rw [h.one] at HE
    have hl1 := pz_lt h hx m
    have hl2 := pz_lt h hx k
    have hM := hide (fun (W : World) (hW : Sl W v zs) => M_ok n v zs _ _ W h.tab hW hl1 hl2)
    rw [pz_add h hx m k] at hM
    have hN := pz_n h hx
    have hmm := pz_mul h hx m k
    have HMM := hide hmm
    have HN := hide hN
    have hle := h.tab.le
    generalize hp1 : pz n zs e x m = p1 at *
    generalize hp2 : pz n zs e x k = p2 at *
    have HP1 := hide hp1
    have HP2 := hide hp2
    clear h hmm hN hp1 hp2
    go_enter Try.func10, Try.ntmps10
    go_wp2_with fail
    generalize w.alloc (.cells #[.int .i64 n, v] 24) = w0 at *
    refine (begun_any w0).mono ?_
    rintro r w1 ⟨rfl, hb1⟩
    have k0 := below_cell hb1 g0
    have k1 := below_cell hb1 g1
    go_wp2_with fail
    have hA1 := bcat2 hb1 (balloc w1 (.cells #[.int .i64 x] 3))
    refine (Htf.out _ _ (hv0.below hA1) (sl1 _ _)).mono ?_
    rintro r w2 ⟨rfl, hb2⟩
    have to2 := bcat2 hA1 hb2
    clear k0 k1 hb1 hb2 hA1
    have k0 := below_cell to2 g0
    have k1 := below_cell to2 g1
    go_wp2_with fail
    refine (hP.out m _ (hv0.below to2)).mono ?_
    rintro r w3 ⟨rfl, hb3⟩
    rw [HP1.out]
    have al3 := bcat2 hb3 (balloc w3 (.cells #[.int .i64 0, .int .i64 0] 27))
    have to3 := bcat2 to2 al3
    have N10 := Two.new w3
    clear k0 k1
    have k0 := below_cell to3 g0
    have k1 := below_cell to3 g1
    go_wp2_with fail
    refine (hP.out k _ (hv0.below to3)).mono ?_
    rintro r w4 ⟨rfl, hb4⟩
    rw [HP2.out]
    have al4 := bcat2 hb4 (balloc w4 (.cells #[.int .i64 0, .int .i64 0] 27))
    have to4 := bcat2 to3 al4
    have N12 := Two.new w4
    clear k0 k1
    have k0 := below_cell to4 g0
    have k1 := below_cell to4 g1
    go_wp2_with fail
    refine (hP.out (m + k) _ (hv0.below to4)).mono ?_
    rintro r w5 ⟨rfl, hb5⟩
    have al5 := bcat2 hb5 (balloc w5 (.cells #[.int .i64 0, .int .i64 0] 27))
    have to5 := bcat2 to4 al5
    have N14 := Two.new w5
    clear k0 k1
    have k0 := below_cell to5 g0
    have k1 := below_cell to5 g1
    go_wp2_with fail
    refine (hP.out (n : Int) _ (hv0.below to5)).mono ?_
    rintro r w6 ⟨rfl, hb6⟩
    rw [HN.out]
    have al6 := bcat2 hb6 (balloc w6 (.cells #[.int .i64 0, .int .i64 0] 27))
    have to6 := bcat2 to5 al6
    have N16 := Two.new w6
    have N10' := N10.below (bcat2 al4 (bcat2 al5 al6))
    have N12' := N12.below (bcat2 al5 al6)
    have N14' := N14.below al6
    obtain ⟨_, a10, _, _, _, _, _⟩ := id N10'
    obtain ⟨_, a12, _, _, _, _, _⟩ := id N12'
    obtain ⟨_, a14, _, _, _, _, _⟩ := N14'
    obtain ⟨_, a16, _, _, _, _, _⟩ := N16
    clear k0 k1
    have k0 := below_cell to6 g0
    have k1 := below_cell to6 g1
    have i1 : decide ((p1 : Int) < 0) = false := decide_eq_false (by omega)
    have i2 : decide ((n : Int) ≤ (p1 : Int)) = false := decide_eq_false (by omega)
    have i3 : decide ((p2 : Int) < 0) = false := decide_eq_false (by omega)
    have i4 : decide ((n : Int) ≤ (p2 : Int)) = false := decide_eq_false (by omega)
    go_wp2_with fail
    refine (hM.out _ (hv0.below to6)).mono ?_
    rintro r w7 ⟨rfl, hb7⟩
    have to7 := bcat2 to6 hb7
    have N10' := N10'.below hb7
    have N12' := N12'.below hb7
    clear k0 k1 a10 a12 a14 a16
    have k0 := below_cell to7 g0
    have k1 := below_cell to7 g1
    go_wp2_with fail
    refine (HE.out _ (hv0.below to7)).mono ?_
    rintro r w8 ⟨rfl, hb8⟩
    have to8 := bcat2 to7 hb8
    have N10' := N10'.below hb8
    have N12' := N12'.below hb8
    clear k0 k1
    have k0 := below_cell to8 g0
    have k1 := below_cell to8 g1
    go_wp2_with fail
    refine (hPm.out k _ (hv0.below to8)).mono ?_
    rintro r w9 ⟨rfl, hb9⟩
    rw [HMM.out]
    have to9 := bcat2 to8 hb9
    have N10' := N10'.below hb9
    have N12' := N12'.below hb9
    obtain ⟨_, a10, b10, f10, f11, s10, s11⟩ := id N10'
    clear k0 k1
    have k0 := below_cell to9 g0
    have k1 := below_cell to9 g1
    have hwm : IntKind.i64.wrap (m * k) = m * k := by rw [IntKind.wrap_i64]; omega
    go_wp2_with fail
    refine (hP.out (m * k) _ (hv0.below to9)).mono ?_
    rintro r w10 ⟨rfl, hb10⟩
    have to10 := bcat2 to9 hb10
    have N10' := N10'.below hb10
    have N12' := N12'.below hb10
    have hBz := bcat hB0 to10 hB0.size
    clear k0 k1 a10 b10 f10 f11 s10 s11
    obtain ⟨_, a10, b10, f10, f11, s10, s11⟩ := id N10'
    obtain ⟨_, a12, b12, f12, f13, s12, s13⟩ := id N12'
    go_wp2
    go_ret
    exact ⟨rfl, hBz⟩
  · obtain ⟨c, i, hci⟩ : ∃ c i, tfault N zs a = (c, i) := ⟨_, _, rfl⟩
    rw [hci] at Htf hc
    have hcb : (c != 0) = true := by simpa using hc
    clear hci hc
    go_enter Try.func10, Try.ntmps10
    go_wp2_with fail
    generalize w.alloc (.cells #[.int .i64 N, v] 24) = w0 at *
    refine (begun_any w0).mono ?_
    rintro r w1 ⟨rfl, hb1⟩
    have k0 := below_cell hb1 g0
    have k1 := below_cell hb1 g1
    go_wp2_with fail
    have hA1 := bcat2 hb1 (balloc w1 (.cells #[.int .i64 a] 3))
    refine (Htf.out _ _ (hv0.below hA1) (sl1 _ _)).mono ?_
    rintro r w2 ⟨rfl, hb2⟩
    have to2 := bcat hB0 (bcat2 hA1 hb2) hB0.size
    clear k0 k1
    go_wp2
    go_ret
    exact ⟨rfl, to2⟩
end Go.Proofs.Ytpcgacelljbkdaa
