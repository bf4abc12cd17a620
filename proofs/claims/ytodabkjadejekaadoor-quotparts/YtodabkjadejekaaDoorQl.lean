/- What the law QuotParts answers: true, at every table and every list. -/
import Derived.Test.YtodabkjadejekaaDoorQp
import Derived.Test.YtodabkjadejekaaDoorQk
namespace Go.Proofs.YtodabkjadejekaaDoor
open Go Go.RowKit

theorem own_sl (u : Value) (l : List Int) (w : World) (hu : Sl w u l) (h8 : l.length * 8 ≤ 140737488355328) (h0 : 0 < w.heap.size) :
    Calls Tryd.prog 12 #[u] w fun x w' => ∃ m1 m2 m3, x = .returned (.slice m1 m2 m3) ∧ Sl w' (.slice m1 m2 m3) l ∧ Below w.heap.size w w' := by
  refine (own_any u l w hu h8).mono ?_
  rintro x w2 ⟨m9, rfl, hm9, hb2⟩
  obtain ⟨m1, m3, rfl⟩ := own_slice hm9
  exact ⟨_, _, _, rfl, row_sl hm9 (Nat.lt_of_lt_of_le h0 hb2.size), hb2⟩
set_option maxRecDepth 100000 in
set_option maxHeartbeats 8000000 in
theorem qparts_bad (N : Int) (v1 : Option Addr) (v2 v3 : Nat) (u1 : Option Addr) (u2 u3 : Nat) (zs l : List Int) (w : World) (hv : Sl w (.slice v1 v2 v3) zs) (hu : Sl w (.slice u1 u2 u3) l) (hT : Tab w) (hz : zs.length * 8 ≤ 140737488355328) (hl8 : l.length * 8 ≤ 140737488355328)
    (hc : (ufault N zs l).1 ≠ 0) :
    Calls Tryd.prog 8 #[.agg #[.int .i64 N, .slice v1 v2 v3], .slice u1 u2 u3] w fun e w' => e = .returned (.bool true) ∧ Below w.heap.size w w' := by
  have hB0 : Below w.heap.size w (w.alloc (.cells #[.int .i64 N, .slice v1 v2 v3] 24)) := balloc w _
  have hX0 : BoxG (w.alloc (.cells #[.int .i64 N, .slice v1 v2 v3] 24)) w.heap.size N (.slice v1 v2 v3) := blk0 _ _
  have HOG := hide (fun W (h : Below w.heap.size w W) => ownGroup_row N (.slice v1 v2 v3) zs W (hv.below h) hz)
  have HOW := hide (fun W (h : Below w.heap.size w W) => own_any (.slice u1 u2 u3) l W (hu.below h) hl8)
  have HP := hide (fun W x m (h : Below w.heap.size w W) (h1 : Sl W x zs) (h2 : Sl W m l) => part_bad N x m zs l W h1 h2 (hT.below h) hc)
  have HU := hide (fun W (h : Below w.heap.size w W) => rsub_any N (.slice v1 v2 v3) (.slice u1 u2 u3) zs l W (hv.below h) (hu.below h))
  have at0 : ∀ W : World, Below w.heap.size w W → 0 < W.heap.size := fun W h => Nat.lt_of_lt_of_le hT.lt h.size
  obtain ⟨c, i, hci⟩ : ∃ c i, ufault N zs l = (c, i) := ⟨_, _, rfl⟩
  rw [hci] at HP HU hc
  simp only at HP HU hc
  clear hci
  have hcb : (c != 0) = true := by simpa using hc
  obtain ⟨c0, c1, _, _⟩ := hX0.two
  go_enter Tryd.func8, Tryd.ntmps8
  go_wp2_with fail
  generalize w.alloc (.cells #[.int .i64 N, .slice v1 v2 v3] 24) = w0 at *
  clear c0 c1
  refine (HOG.out _ hB0).mono ?_
  rintro x w1 ⟨x9, rfl, hx9, hb1⟩
  obtain ⟨a1, a3, rfl⟩ := row_len hx9
  have hB1 := bcat2 hB0 hb1
  have hX1 := blk_below hX0 hb1
  have hx1 := row_sl hx9 (at0 _ hB1)
  go_wp2_with fail
  refine (HOW.out _ hB1).mono ?_
  rintro x w2 ⟨m9, rfl, hm9, hb2⟩
  obtain ⟨m1, m3, rfl⟩ := own_slice hm9
  have hB2 := bcat2 hB1 hb2
  have hX2 := blk_below hX1 hb2
  have hx2 := hx1.below hb2
  have hm2 := row_sl hm9 (at0 _ hB2)
  go_wp2_with fail
  refine (HP.out _ _ _ hB2 hx2 hm2).mono ?_
  rintro x w3 ⟨rfl, hb3⟩
  obtain ⟨W, hW⟩ : ∃ W, W = (w3.alloc (.cells #[.int .i64 0, .slice none 0 0] 24)).alloc (.cells #[.int .i64 c, .int .i64 i] 28) := ⟨_, rfl⟩
  have hbW : Below w3.heap.size w3 W := by rw [hW]; exact (balloc w3 _).alloc (by simp) _
  have hQ5 : Blk W w3.heap.size 24 [.int .i64 0, .slice none 0 0] := by rw [hW]; exact (blk0 (w := w3) (T := 24) _ _).alloc _
  have hF5 : Blk W (w3.heap.size + 1) 28 [.int .i64 c, .int .i64 i] := by
    have := blk0 (w := w3.alloc (.cells #[.int .i64 0, .slice none 0 0] 24)) (T := 28) (.int .i64 c) (.int .i64 i)
    rw [World.size_alloc] at this
    rw [hW]; exact this
  have hb35 := bcat2 hb3 hbW
  have hB5 := bcat2 hB2 hb35
  have hX5 := blk_below hX2 hb35
  obtain ⟨c0, c1, _, _⟩ := hX5.two
  rw [hW] at c0 c1
  go_wp2_with fail
  rw [← hW] at c0 c1 ⊢
  clear hW c0 c1
  refine (HU.out _ hB5).mono ?_
  rintro x w6 ⟨rfl, hb6⟩
  have hb67 := bcat2 hb6 (balloc w6 (.cells #[.int .i64 c, .int .i64 i] 28))
  have hW7 := blk0 (w := w6) (T := 28) (.int .i64 c) (.int .i64 i)
  have hB7 := bcat2 hB5 hb67
  have hQ7 := blk_below hQ5 hb67
  have hF7 := blk_below hF5 hb67
  go_wp2_with fail
  generalize w6.alloc (.cells #[.int .i64 c, .int .i64 i] 28) = w7 at *
  refine (quotBegun_any _ (hT.below hB7)).mono ?_
  rintro x w8 ⟨rfl, hb8⟩
  have hB8 := bcat2 hB7 hb8
  have hQ8 := blk_below hQ7 hb8
  have hF8 := blk_below hF7 hb8
  have hW8 := blk_below hW7 hb8
  obtain ⟨d0, d1, _, _⟩ := hQ8.two
  obtain ⟨f0, f1, _, _⟩ := hF8.two
  obtain ⟨t0, t1, _, _⟩ := hW8.two
  go_wp2_with fail
  refine (noGroup_any _ _ _).mono ?_
  rintro x w11 ⟨rfl, hb11⟩
  have hB11 := bcat2 hB8 hb11
  go_wp2
  go_ret
  exact ⟨rfl, hB11⟩
set_option maxRecDepth 100000 in
set_option maxHeartbeats 8000000 in
theorem qparts_good (n K : Nat) (v1 : Option Addr) (v2 v3 : Nat) (u1 : Option Addr) (u2 u3 : Nat) (zs l ys : List Int) (X : Nat → Nat) (w : World) (hv : Sl w (.slice v1 v2 v3) zs) (hu : Sl w (.slice u1 u2 u3) l) (hT : Tab w) (hz : zs.length * 8 ≤ 140737488355328) (hl8 : l.length * 8 ≤ 140737488355328)
    (ht : IsTab n zs) (hK : l.length = K) (hY : IsTab K ys) (hX : ∀ i, i < K → l[i]?.getD 0 = (X i : Int) ∧ X i < n) (hM : ∀ i k, i < K → k < K → X (tm K ys i k) = tm n zs (X i) (X k))
    (HP : Hid (∀ W x m, Below w.heap.size w W → Sl W x zs → Sl W m l → Calls Tryd.prog 43 #[.agg #[.int .i64 n, x], m] W fun x W' => ∃ r1 r2 r3, x = .returned (.tuple #[.agg #[.int .i64 K, .slice r1 r2 r3], .agg #[.int .i64 0, .int .i64 0]]) ∧ Sl W' (.slice r1 r2 r3) ys ∧ Below W.heap.size W W'))
    (HU : Hid (∀ W, Below w.heap.size w W → Calls Tryd.prog 44 #[.agg #[.int .i64 n, .slice v1 v2 v3], .slice u1 u2 u3] W fun e W' => e = .returned (.agg #[.int .i64 0, .int .i64 0]) ∧ Below W.heap.size W W')) :
    Calls Tryd.prog 8 #[.agg #[.int .i64 n, .slice v1 v2 v3], .slice u1 u2 u3] w fun e w' => e = .returned (.bool true) ∧ Below w.heap.size w w' := by
  have hB0 : Below w.heap.size w (w.alloc (.cells #[.int .i64 n, .slice v1 v2 v3] 24)) := balloc w _
  have hX0 : BoxG (w.alloc (.cells #[.int .i64 n, .slice v1 v2 v3] 24)) w.heap.size n (.slice v1 v2 v3) := blk0 _ _
  have HOG := hide (fun W (h : Below w.heap.size w W) => ownGroup_row n (.slice v1 v2 v3) zs W (hv.below h) hz)
  have HMG := hide (fun W a b (h : Below w.heap.size w W) (ha : a < n) (hb : b < n) => M_ok n (.slice v1 v2 v3) zs a b W ht (hv.below h) ha hb)
  have at0 : ∀ W : World, Below w.heap.size w W → 0 < W.heap.size := fun W h => Nat.lt_of_lt_of_le hT.lt h.size
  have HOW := hide (fun W (h : Below w.heap.size w W) => own_sl (.slice u1 u2 u3) l W (hu.below h) hl8 (at0 W h))
  have HTL := hide (fun a b (ha : a < K) (hb : b < K) => tm_lt hY ha hb)
  have HX := hide hX
  have HM := hide hM
  have hKle := hY.le
  have HYL := hide hY.len
  have hKK : K * K ≤ 3600 := Nat.mul_le_mul hKle hKle
  have hkk : IntKind.i64.wrap ((K : Int) * (K : Int)) = ((K * K : Nat) : Int) := by
    rw [← Int.natCast_mul, IntKind.wrap_i64]
    omega
  obtain ⟨ua, uc, ub, uo, hue, hur, hub, _, hum⟩ := id hu
  injection hue with e1 e2 e3
  subst e1 e2 e3
  have HUA := hide (fun (h : 0 < K) => hur.at_ (by omega))
  have HUC := hide (fun i (h : i < K) => hur.cell i (by omega))
  rw [hK] at *
  clear hX hM hur hum hK
  obtain ⟨c0, c1, _, _⟩ := hX0.two
  go_enter Tryd.func8, Tryd.ntmps8
  go_wp2_with fail
  generalize w.alloc (.cells #[.int .i64 n, .slice v1 v2 v3] 24) = w0 at *
  clear c0 c1
  refine (HOG.out _ hB0).mono ?_
  rintro x w1 ⟨x9, rfl, hx9, hb1⟩
  obtain ⟨a1, a3, rfl⟩ := row_len hx9
  have hB1 := bcat2 hB0 hb1
  have hX1 := blk_below hX0 hb1
  have hx1 := row_sl hx9 (at0 _ hB1)
  go_wp2_with fail
  refine (HOW.out _ hB1).mono ?_
  rintro x w2 ⟨m1, m2, m3, rfl, hm2, hb2⟩
  have hB2 := bcat2 hB1 hb2
  have hX2 := blk_below hX1 hb2
  have hx2 := hx1.below hb2
  go_wp2_with fail
  refine (HP.out _ _ _ hB2 hx2 hm2).mono ?_
  rintro x w3 ⟨r1, r2, r3, rfl, hq3, hb3⟩
  obtain ⟨W, hW⟩ : ∃ W, W = (w3.alloc (.cells #[.int .i64 K, .slice r1 r2 r3] 24)).alloc (.cells #[.int .i64 0, .int .i64 0] 28) := ⟨_, rfl⟩
  have hbW : Below w3.heap.size w3 W := by rw [hW]; exact (balloc w3 _).alloc (by simp) _
  have hQ5 : Blk W w3.heap.size 24 [.int .i64 K, .slice r1 r2 r3] := by rw [hW]; exact (blk0 (w := w3) (T := 24) _ _).alloc _
  have hF5 : Blk W (w3.heap.size + 1) 28 [.int .i64 0, .int .i64 0] := by
    have := blk0 (w := w3.alloc (.cells #[.int .i64 K, .slice r1 r2 r3] 24)) (T := 28) (.int .i64 0) (.int .i64 0)
    rw [World.size_alloc] at this
    rw [hW]; exact this
  have hb35 := bcat2 hb3 hbW
  have hB5 := bcat2 hB2 hb35
  have hX5 := blk_below hX2 hb35
  have hq5 := hq3.below hbW
  obtain ⟨c0, c1, _, _⟩ := hX5.two
  rw [hW] at c0 c1
  go_wp2_with fail
  rw [← hW] at c0 c1 ⊢
  clear hW c0 c1 hq3
  refine (HU.out _ hB5).mono ?_
  rintro x w6 ⟨rfl, hb6⟩
  have hb67 := bcat2 hb6 (balloc w6 (.cells #[.int .i64 0, .int .i64 0] 28))
  have hW7 := blk0 (w := w6) (T := 28) (.int .i64 0) (.int .i64 0)
  have hB7 := bcat2 hB5 hb67
  have hQ7 := blk_below hQ5 hb67
  have hF7 := blk_below hF5 hb67
  have hX7 := blk_below hX5 hb67
  have hq7 := hq5.below hb67
  go_wp2_with fail
  generalize w6.alloc (.cells #[.int .i64 0, .int .i64 0] 28) = w7 at *
  refine (quotBegun_any _ (hT.below hB7)).mono ?_
  rintro x w8 ⟨rfl, hb8⟩
  have hB8 := bcat2 hB7 hb8
  have hQ8 := blk_below hQ7 hb8
  have hF8 := blk_below hF7 hb8
  have hW8 := blk_below hW7 hb8
  have hX8 := blk_below hX7 hb8
  have hq8 := hq7.below hb8
  clear hQ7 hF7 hW7 hX7 hq7 hQ5 hF5 hX5 hq5 hX1 hX2 hx1 hx2 hm2 hx9 HP HU HOG HOW
  obtain ⟨qa, qc, qb, qo, hqe, _, _, _, _⟩ := id hq8
  injection hqe with e1 e2 e3
  subst e1 e2 e3
  rw [HYL.out] at hQ8 hq8 ⊢
  have HMQ := hide (fun W a b (h : Below w8.heap.size w8 W) (ha : a < K) (hb : b < K) => M_ok K (.slice r1 (K * K) r3) ys a b W hY (hq8.below h) ha hb)
  obtain ⟨d0, d1, _, _⟩ := hQ8.two
  obtain ⟨f0, f1, _, _⟩ := hF8.two
  obtain ⟨t0, t1, _, _⟩ := hW8.two
  obtain ⟨g0, g1, _, _⟩ := hX8.two
  have hS : ∀ W, Below w8.heap.size w8 W → (Below w8.heap.size w8 W ∧ W.cell? ⟨w.heap.size, 0, none⟩ = some (.int .i64 n) ∧ W.cell? ⟨w.heap.size, 1, none⟩ = some (.slice v1 v2 v3) ∧ W.cell? ⟨w3.heap.size, 0, none⟩ = some (.int .i64 K) ∧ W.cell? ⟨w3.heap.size, 1, none⟩ = some (.slice r1 (K * K) r3)) := fun W h => ⟨h, below_cell h g0, below_cell h g1, below_cell h d0, below_cell h d1⟩
  go_wp2
  clear d0 d1 f0 f1 t0 t1 g0 g1
  go_loopw [8] (fun i wr => ∃ a : Nat, a ≤ K ∧ i = .int .i64 a ∧ Below w8.heap.size w8 wr) (fun i _ => K - (intOf i).toNat)
  case atStart => exact ⟨0, Nat.zero_le _, rfl, Below.refl _ _⟩
  case round =>
    obtain ⟨a, ha, rfl, hB⟩ := hrel
    obtain ⟨_, g0, g1, d0, d1⟩ := hS _ hB
    by_cases hlt : a < K
    · have hai : (a : Int) < (K : Int) := by omega
      go_wp2
      go_loopw [9] (fun i wr => ∃ b : Nat, b ≤ K ∧ i = .int .i64 b ∧ Below w8.heap.size w8 wr) (fun i _ => K - (intOf i).toNat)
      case atStart => exact ⟨0, Nat.zero_le _, rfl, hB⟩
      case round =>
        clear g0 g1 d0 d1 hB
        obtain ⟨b, hb, rfl, hB⟩ := hrel
        obtain ⟨_, g0, g1, d0, d1⟩ := hS _ hB
        by_cases hltb : b < K
        · have hbi : (b : Int) < (K : Int) := by omega
          obtain rfl := HUA.out (by omega)
          have hab := HTL.out a b hlt hltb
          have HQ := hide (HMQ.out wr a b hB hlt hltb)
          have HE := hide (HM.out a b hlt hltb)
          go_wp2_with fail
          refine HQ.out.mono ?_
          rintro x w9 ⟨rfl, hb9⟩
          have hB9 := bcat2 hB hb9
          have hBw := bcat2 hB8 hB9
          clear g0 g1 d0 d1
          obtain ⟨_, g0, g1, d0, d1⟩ := hS _ hB9
          obtain ⟨hxa, hna⟩ := HX.out a hlt
          obtain ⟨hxb, hnb⟩ := HX.out b hltb
          obtain ⟨hxp, hnp⟩ := HX.out _ hab
          have ca := below_cell hBw (HUC.out a hlt)
          have cb := below_cell hBw (HUC.out b hltb)
          have cp := below_cell hBw (HUC.out _ hab)
          rw [hxa] at ca
          rw [hxb] at cb
          rw [hxp, HE.out] at cp
          have HA := hide (fun W (h : Below w.heap.size w W) => HMG.out W (X a) (X b) h hna hnb)
          clear hxa hxb hxp hnp HE HQ
          generalize tm n zs (X a) (X b) = d9 at *
          generalize tm K ys a b = p9 at *
          generalize X a = xa at *
          generalize X b = xb at *
          have hpi : (p9 : Int) < (K : Int) := by omega
          have hd1 : decide ((p9 : Int) < 0) = false := decide_eq_false (by omega)
          have hd2 : decide ((K : Int) ≤ (p9 : Int)) = false := decide_eq_false (by omega)
          have hd3 : decide (K ≤ p9) = false := decide_eq_false (by omega)
          have hd4 : ¬ (K ≤ p9) := by omega
          have hS' : ∀ W, Below w9.heap.size w9 W → (Below w9.heap.size w9 W ∧ W.cell? ⟨ub, uo + a, none⟩ = some (.int .i64 (xa : Int)) ∧ W.cell? ⟨ub, uo + b, none⟩ = some (.int .i64 (xb : Int)) ∧ W.cell? ⟨ub, uo + p9, none⟩ = some (.int .i64 (d9 : Int)) ∧ W.cell? ⟨w.heap.size, 0, none⟩ = some (.int .i64 n) ∧ W.cell? ⟨w.heap.size, 1, none⟩ = some (.slice v1 v2 v3) ∧ W.cell? ⟨w3.heap.size, 0, none⟩ = some (.int .i64 K)) := fun W h => ⟨h, below_cell h ca, below_cell h cb, below_cell h cp, below_cell h g0, below_cell h g1, below_cell h d0⟩
          have hS1 := hS' _ (bdrew (Below.refl _ w9))
          go_wp2_with fail
          go_region_held3 (fun W => Below w9.heap.size w9 W ∧ W.cell? ⟨ub, uo + a, none⟩ = some (.int .i64 (xa : Int)) ∧ W.cell? ⟨ub, uo + b, none⟩ = some (.int .i64 (xb : Int)) ∧ W.cell? ⟨ub, uo + p9, none⟩ = some (.int .i64 (d9 : Int)) ∧ W.cell? ⟨w.heap.size, 0, none⟩ = some (.int .i64 n) ∧ W.cell? ⟨w.heap.size, 1, none⟩ = some (.slice v1 v2 v3) ∧ W.cell? ⟨w3.heap.size, 0, none⟩ = some (.int .i64 K))
            (first | exact hS1 | assumption | exact hS' _ (bcat2 (And.left ‹_›) hl1))
            (first | (go_at_call 45; refine (HA.out _ (bcat2 hBw (And.left ‹_›))).mono ?_; rintro e1 U1 ⟨rfl, hl1⟩))
          all_goals (
            have hB9 := bcat2 hB9 (And.left ‹Below w9.heap.size w9 U1 ∧ _›)
            go_wp2
            go_roundw
            case rel => exact ⟨b + 1, by omega, by go_num, hB9⟩
            case measure => simp [intOf]; omega)
        · have hbi : ¬ (b : Int) < (K : Int) := by omega
          go_wp2
          go_roundw
          case rel => exact ⟨a + 1, by omega, by go_num, hB⟩
          case measure => simp [intOf]; omega
    · have hai : ¬ (a : Int) < (K : Int) := by omega
      go_wp2
      go_ret
      exact ⟨rfl, bcat2 hB8 hB⟩
theorem qparts_law (N : Int) (v u : Value) (zs l : List Int) (w : World) (hv : Sl w v zs) (hu : Sl w u l) (hT : Tab w) (hz : zs.length * 8 ≤ 140737488355328) (hl8 : l.length * 8 ≤ 140737488355328) :
    Calls Tryd.prog 8 #[.agg #[.int .i64 N, v], u] w fun e w' => e = .returned (.bool true) ∧ Below w.heap.size w w' := by
  obtain ⟨v1, v2, v3, rfl⟩ := hv.isSlice
  obtain ⟨u1, u2, u3, rfl⟩ := hu.isSlice
  by_cases hc : (ufault N zs l).1 = 0
  · obtain ⟨n, e, rfl, hg, hl0, hsb, hu0⟩ := ufault_zero hc
    have HU := hide (fun W (h : Below w.heap.size w W) => rsub_any n (.slice v1 v2 v3) (.slice u1 u2 u3) zs l W (hv.below h) (hu.below h))
    rw [hu0] at HU
    have hli := set_lst (show (lfault n l).1 = 0 by rw [hl0])
    have hll : l.length = (lst n (pset l)).length := by
      have := congrArg List.length hli
      rw [li_len] at this
      exact this
    have hK6 : (lst n (pset l)).length ≤ 60 := by
      have : (lst n (pset l)).length ≤ n := by unfold lst; exact Nat.le_trans (List.length_filter_le _ _) (by simp)
      have := hg.tab.le
      omega
    have hpos : 1 ≤ (lst n (pset l)).length := List.length_pos_of_mem (mem_lst.2 ⟨hg.elt, (subT_iff.1 hsb).one⟩)
    have hmem : ∀ i (h : i < (lst n (pset l)).length), (lst n (pset l))[i] < n ∧ pset l (lst n (pset l))[i] = true := fun i h => mem_lst.1 (List.getElem_mem h)
    have hcl : ∀ i k (h1 : i < (lst n (pset l)).length) (h2 : k < (lst n (pset l)).length), tm n zs (lst n (pset l))[i] (lst n (pset l))[k] ∈ lst n (pset l) := fun i k h1 h2 =>
      mem_lst.2 ⟨tm_lt hg.tab (hmem i h1).1 (hmem k h2).1, sub_mul hsb (hmem i h1).1 (hmem k h2).1 (hmem i h1).2 (hmem k h2).2⟩
    have hFl : ∀ i k, i < (lst n (pset l)).length → k < (lst n (pset l)).length → ∃ h : parF n zs (lst n (pset l)) i k < (lst n (pset l)).length, (lst n (pset l))[parF n zs (lst n (pset l)) i k] = tm n zs ((lst n (pset l))[i]?.getD 0) ((lst n (pset l))[k]?.getD 0) := fun i k h1 h2 => by
      unfold parF
      rw [List.getElem?_eq_getElem h1, List.getElem?_eq_getElem h2, Option.getD_some, Option.getD_some]
      exact place_at (hcl i k h1 h2)
    have hY := tab_mk (f := parF n zs (lst n (pset l))) hpos hK6 (fun a b ha hb => (hFl a b ha hb).1)
    refine qparts_good n _ v1 v2 v3 u1 u2 u3 zs l _ (fun i => (lst n (pset l))[i]?.getD 0) w hv hu hT hz hl8 hg.tab hll hY (fun i hi => ?_) (fun i k hi hk => ?_) (hide fun W x m h h1 h2 => part_good n e x m zs l W h1 hg h2 (hT.below h) hl0 hsb) HU
    · refine ⟨?_, ?_⟩
      · have h9 : l[i]?.getD 0 = (li (lst n (pset l)))[i]?.getD 0 := by rw [← hli]
        rw [h9]
        simp [li, hi]
      · simp only [List.getElem?_eq_getElem hi, Option.getD_some]
        exact (hmem i hi).1
    · obtain ⟨h1, h2⟩ := hFl i k hi hk
      rw [tm_mk hi hk]
      simp only [List.getElem?_eq_getElem h1, Option.getD_some]
      exact h2
  · exact qparts_bad N v1 v2 v3 u1 u2 u3 zs l w hv hu hT hz hl8 hc
end Go.Proofs.YtodabkjadejekaaDoor
