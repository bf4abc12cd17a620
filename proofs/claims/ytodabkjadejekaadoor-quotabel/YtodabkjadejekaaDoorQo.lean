/- What the law QuotAbel answers: true, at every two tables and every list. -/
import Derived.Test.YtodabkjadejekaaDoorHoa
namespace Go.Proofs.YtodabkjadejekaaDoor
open Go Go.RowKit

theorem hfault_grp {N M : Int} {zs ys ms : List Int} (h : (hfault N zs M ys ms).1 = 0) : ∃ n e m d : Nat, N = n ∧ M = m ∧ IsGrp n zs e ∧ IsGrp m ys d := by
  by_cases h1 : (gfault N zs).1 = 0
  · obtain ⟨n, e, rfl, hg, _⟩ := gfault_grp h1
    by_cases h2 : (gfault M ys).1 = 0
    · obtain ⟨m, d, rfl, hh, _⟩ := gfault_grp h2
      exact ⟨n, e, m, d, rfl, rfl, hg, hh⟩
    · rw [hfault_2 hg h2] at h
      exact absurd h h2
  · rw [hfault_1 h1] at h
    exact absurd h h1
set_option maxRecDepth 100000 in
set_option maxHeartbeats 4000000 in
theorem qabel_bad (N M : Int) (v1 : Option Addr) (v2 v3 : Nat) (y1 : Option Addr) (y2 y3 : Nat) (mv : Value) (zs ys ms : List Int) (w : World) (hv : Sl w (.slice v1 v2 v3) zs) (hy : Sl w (.slice y1 y2 y3) ys) (hm : Sl w mv ms) (hT : Tab w) (hc : (hfault N zs M ys ms).1 ≠ 0) :
    Calls Tryd.prog 10 #[.agg #[.int .i64 N, .slice v1 v2 v3], .agg #[.int .i64 M, .slice y1 y2 y3], mv] w fun e w' => e = .returned (.bool true) ∧ Below w.heap.size w w' := by
  obtain ⟨w0, hw0⟩ : ∃ w0, w0 = (w.alloc (.cells #[.int .i64 N, .slice v1 v2 v3] 24)).alloc (.cells #[.int .i64 M, .slice y1 y2 y3] 24) := ⟨_, rfl⟩
  have hB0 : Below w.heap.size w w0 := by rw [hw0]; exact (balloc w _).alloc (by simp) _
  have hX0 : BoxG w0 w.heap.size N (.slice v1 v2 v3) := by rw [hw0]; exact (blk0 (w := w) (T := 24) _ _).alloc _
  have hY0 : BoxG w0 (w.heap.size + 1) M (.slice y1 y2 y3) := by
    have := blk0 (w := w.alloc (.cells #[.int .i64 N, .slice v1 v2 v3] 24)) (T := 24) (.int .i64 M) (.slice y1 y2 y3)
    rw [World.size_alloc] at this
    rw [hw0]; exact this
  have HCK := hide (fun W (h : Below w.heap.size w W) => hcheck_ok N M (.slice v1 v2 v3) (.slice y1 y2 y3) mv zs ys ms W (hv.below h) (hy.below h) (hm.below h))
  obtain ⟨c, i, hci⟩ : ∃ c i, hfault N zs M ys ms = (c, i) := ⟨_, _, rfl⟩
  rw [hci] at HCK hc
  simp only at HCK hc
  clear hci
  have hcb : (c != 0) = true := by simpa using hc
  go_enter Tryd.func10, Tryd.ntmps10
  go_wp2_with fail
  rw [← hw0]
  clear hw0
  refine (quotBegun_any _ (hT.below hB0)).mono ?_
  rintro x w1 ⟨rfl, hb1⟩
  have hB1 := bcat2 hB0 hb1
  obtain ⟨c0, c1, _, _⟩ := (blk_below hX0 hb1).two
  obtain ⟨d0, d1, _, _⟩ := (blk_below hY0 hb1).two
  go_wp2_with fail
  refine (HCK.out _ hB1).mono ?_
  rintro x w2 ⟨rfl, hb2⟩
  have hB2 := bcat2 hB1 hb2
  have hfd := field27 c i w2
  go_wp2
  go_ret
  exact ⟨rfl, hB2⟩
set_option maxRecDepth 100000 in
set_option maxHeartbeats 8000000 in
theorem qabel_good (n m K L : Nat) (v1 : Option Addr) (v2 v3 : Nat) (y1 : Option Addr) (y2 y3 : Nat) (ms T : List Int) (ys : List Int) (xs : List Nat) (φ ν : Nat → Nat) (mv : Value) (w : World) (hm : Sl w mv ms) (hT : Tab w) (hn : n ≤ 60) (hK : K ≤ 60) (hml : ms.length = n) (hφ : ∀ a, a < n → ms[a]?.getD 0 = (φ a : Int)) (hL : xs.length = L) (hxm : ∀ i, i < L → xs[i]?.getD 0 < m) (hν : ∀ a, a < n → ν a < K)
    (HCK : Hid (∀ W, Below w.heap.size w W → Calls Tryd.prog 13 #[.agg #[.int .i64 n, .slice v1 v2 v3], .agg #[.int .i64 m, .slice y1 y2 y3], mv] W fun x W' => x = .returned (.agg #[.int .i64 0, .int .i64 0]) ∧ Below W.heap.size W W'))
    (HHF : Hid (∀ W, Below w.heap.size w W → Calls Tryd.prog 16 #[.agg #[.int .i64 n, .slice v1 v2 v3], .agg #[.int .i64 m, .slice y1 y2 y3], mv] W fun x W' => x = .returned (.agg #[.int .i64 0, .int .i64 0]) ∧ Below W.heap.size W W'))
    (HIM : Hid (∀ W, Below w.heap.size w W → Calls Tryd.prog 15 #[.agg #[.int .i64 n, .slice v1 v2 v3], .agg #[.int .i64 m, .slice y1 y2 y3], mv] W fun x W' => ∃ r1 r2 r3, x = .returned (.tuple #[.slice r1 r2 r3, .agg #[.int .i64 0, .int .i64 0]]) ∧ Sl W' (.slice r1 r2 r3) (li xs) ∧ Below W.heap.size W W'))
    (HLF : Hid (∀ W u, Below w.heap.size w W → Sl W u (li xs) → Calls Tryd.prog 52 #[.agg #[.int .i64 m, .slice y1 y2 y3], u] W fun x W' => x = .returned (.agg #[.int .i64 0, .int .i64 0]) ∧ Below W.heap.size W W'))
    (HMM : Hid (∀ W a b, Below w.heap.size w W → a < m → b < m → Calls Tryd.prog 45 #[.agg #[.int .i64 m, .slice y1 y2 y3], .int .i64 a, .int .i64 b] W fun x W' => x = .returned (.int .i64 (tm m ys a b)) ∧ Below W.heap.size W W'))
    (HAB : Hid (∀ W, Below w.heap.size w W → Calls Tryd.prog 47 #[.agg #[.int .i64 n, .slice v1 v2 v3]] W fun x W' => ∃ r1 r2 r3 s1 s2 s3, x = .returned (.tuple #[.agg #[.int .i64 K, .slice r1 r2 r3], .slice s1 s2 s3, .agg #[.int .i64 0, .int .i64 0]]) ∧ Sl W' (.slice r1 r2 r3) T ∧ Sl W' (.slice s1 s2 s3) (li ((List.range n).map ν)) ∧ Below W.heap.size W W'))
    (HCO : Hid ((∀ i j, i < L → j < L → tm m ys (xs[i]?.getD 0) (xs[j]?.getD 0) = tm m ys (xs[j]?.getD 0) (xs[i]?.getD 0)) → ∀ a b, a < n → b < n → ν a = ν b → φ a = φ b))
    (HC2 : Hid ((∀ i j, i < L → j < L → tm m ys (xs[i]?.getD 0) (xs[j]?.getD 0) = tm m ys (xs[j]?.getD 0) (xs[i]?.getD 0)) → ∀ W qv tv (th : List Int), Below w.heap.size w W → Sl W qv T → Sl W tv th → th.length = K → (∀ a, a < n → th[ν a]?.getD 0 = (φ a : Int)) → Calls Tryd.prog 13 #[.agg #[.int .i64 K, qv], .agg #[.int .i64 m, .slice y1 y2 y3], tv] W fun x W' => x = .returned (.agg #[.int .i64 0, .int .i64 0]) ∧ Below W.heap.size W W')) :
    Calls Tryd.prog 10 #[.agg #[.int .i64 n, .slice v1 v2 v3], .agg #[.int .i64 m, .slice y1 y2 y3], mv] w fun e w' => e = .returned (.bool true) ∧ Below w.heap.size w w' := by
  obtain ⟨i0, hi, hz0, hz1, hz2⟩ := info_parts info3b
  obtain ⟨w0, hw0⟩ : ∃ w0, w0 = (w.alloc (.cells #[.int .i64 n, .slice v1 v2 v3] 24)).alloc (.cells #[.int .i64 m, .slice y1 y2 y3] 24) := ⟨_, rfl⟩
  have hB0 : Below w.heap.size w w0 := by rw [hw0]; exact (balloc w _).alloc (by simp) _
  have hX0 : BoxG w0 w.heap.size n (.slice v1 v2 v3) := by rw [hw0]; exact (blk0 (w := w) (T := 24) _ _).alloc _
  have hY0 : BoxG w0 (w.heap.size + 1) m (.slice y1 y2 y3) := by
    have := blk0 (w := w.alloc (.cells #[.int .i64 n, .slice v1 v2 v3] 24)) (T := 24) (.int .i64 m) (.slice y1 y2 y3)
    rw [World.size_alloc] at this
    rw [hw0]; exact this
  obtain ⟨ma, mc, mb, mo, rfl, hmr, hmb, _, hmm⟩ := hm
  have HMA := hide (fun (h : 0 < n) => hmr.at_ (by omega))
  have HMC := hide (fun i (h : i < n) => (hmr.cell i (by omega)).trans (by rw [hφ i h]))
  have HXM := hide hxm
  have HNU := hide hν
  have HLL := hide (li_len xs)
  have HXG := hide (fun i (h : i < L) => show (li xs)[i]?.getD 0 = ((xs[i]?.getD 0 : Nat) : Int) by have h9 : i < xs.length := (by omega); simp [li, h9])
  rw [hml] at *
  rw [hL] at HLL
  clear hmr hmm hml hφ hxm hν hL
  go_enter Tryd.func10, Tryd.ntmps10
  go_wp2_with fail
  rw [← hw0]
  clear hw0
  refine (quotBegun_any _ (hT.below hB0)).mono ?_
  rintro x w1 ⟨rfl, hb1⟩
  have hB1 := bcat2 hB0 hb1
  have hX1 := blk_below hX0 hb1
  have hY1 := blk_below hY0 hb1
  obtain ⟨c0, c1, _, _⟩ := hX1.two
  obtain ⟨d0, d1, _, _⟩ := hY1.two
  go_wp2_with fail
  refine (HCK.out _ hB1).mono ?_
  rintro x w2 ⟨rfl, hb2⟩
  have hB2 := bcat2 hB1 hb2
  have hX2 := blk_below hX1 hb2
  have hY2 := blk_below hY1 hb2
  have hfd := field27 0 0 w2
  clear c0 c1 d0 d1
  obtain ⟨c0, c1, _, _⟩ := hX2.two
  obtain ⟨d0, d1, _, _⟩ := hY2.two
  go_wp2_with fail
  clear hfd
  refine (HHF.out _ hB2).mono ?_
  rintro x w3 ⟨rfl, hb3⟩
  have hB3 := bcat2 hB2 hb3
  have hX3 := blk_below hX2 hb3
  have hY3 := blk_below hY2 hb3
  have hfd := field27 0 0 w3
  clear c0 c1 d0 d1
  obtain ⟨c0, c1, _, _⟩ := hX3.two
  obtain ⟨d0, d1, _, _⟩ := hY3.two
  go_wp2_with fail
  clear hfd c0 c1 d0 d1
  refine (HIM.out _ hB3).mono ?_
  rintro x w4 ⟨r1, r2, r3, rfl, hr4, hb4⟩
  have hF5 := blk0 (w := w4) (T := 28) (.int .i64 0) (.int .i64 0)
  have hb45 := bcat2 hb4 (balloc w4 (.cells #[.int .i64 0, .int .i64 0] 28))
  have hB5 := bcat2 hB3 hb45
  have hX5 := blk_below hX3 hb45
  have hY5 := blk_below hY3 hb45
  have hr5 := hr4.below (balloc w4 (.cells #[.int .i64 0, .int .i64 0] 28))
  obtain ⟨t0, t1, _, _⟩ := hF5.two
  obtain ⟨d0, d1, _, _⟩ := hY5.two
  go_wp2_with fail
  generalize w4.alloc (.cells #[.int .i64 0, .int .i64 0] 28) = w5 at *
  clear t0 t1 d0 d1 hr4
  refine (HLF.out _ _ hB5 hr5).mono ?_
  rintro x w6 ⟨rfl, hb6⟩
  have hB6 := bcat2 hB5 hb6
  have hX6 := blk_below hX5 hb6
  have hY6 := blk_below hY5 hb6
  have hF6 := blk_below hF5 hb6
  have hr6 := hr5.below hb6
  have hfd := field27 0 0 w6
  obtain ⟨ra, rc, rb, ro, hre, hrr, hrb, hrc, hrm⟩ := hr6
  injection hre with e1 e2 e3
  subst e1 e2 e3
  have HRA := hide (fun (h : 0 < L) => hrr.at_ (by rw [HLL.out]; exact h))
  have HRC := hide (fun i (h : i < L) => (hrr.cell i (by rw [HLL.out]; exact h)).trans (by rw [HXG.out i h]))
  have hL6 : L ≤ 9223372036854775807 := by
    have h9 := hrc
    rw [HLL.out] at h9
    unfold maxLen at hrm
    omega
  rw [HLL.out]
  clear hrr hrm hrc HXG HCK HHF HIM HLF hr5 hX0 hX1 hX2 hX3 hX5 hY0 hY1 hY2 hY3 hY5 hF5
  go_wp2
  clear hfd
  go_loopw [9] (fun i wr => ∃ a : Nat, a ≤ L ∧ i = .int .i64 a ∧ (∀ s, s < a → ∀ t, t < L → tm m ys (xs[s]?.getD 0) (xs[t]?.getD 0) = tm m ys (xs[t]?.getD 0) (xs[s]?.getD 0)) ∧ Below w6.heap.size w6 wr) (fun i _ => L - (intOf i).toNat)
  case atStart => exact ⟨0, Nat.zero_le _, rfl, fun s hs => by omega, Below.refl _ _⟩
  case round =>
    obtain ⟨a, ha, rfl, hall, hB⟩ := hrel
    have HALL := hide hall
    clear hall
    by_cases hlt : a < L
    · have hai : (a : Int) < (L : Int) := by omega
      go_wp2
      go_loopw [10] (fun i wr => ∃ b : Nat, b ≤ L ∧ i = .int .i64 b ∧ (∀ t, t < b → tm m ys (xs[a]?.getD 0) (xs[t]?.getD 0) = tm m ys (xs[t]?.getD 0) (xs[a]?.getD 0)) ∧ Below w6.heap.size w6 wr) (fun i _ => L - (intOf i).toNat)
      case atStart => exact ⟨0, Nat.zero_le _, rfl, fun s hs => by omega, hB⟩
      case round =>
        clear hB
        obtain ⟨b, hb, rfl, hall, hB⟩ := hrel
        have HAL2 := hide hall
        clear hall
        by_cases hltb : b < L
        · have hbi : (b : Int) < (L : Int) := by omega
          obtain rfl := HRA.out (by omega)
          have hBw := bcat2 hB6 hB
          have ca := below_cell hB (HRC.out a hlt)
          have cb := below_cell hB (HRC.out b hltb)
          have HQ1 := hide (fun W (h : Below w.heap.size w W) => HMM.out W _ _ h (HXM.out a hlt) (HXM.out b hltb))
          have HQ2 := hide (fun W (h : Below w.heap.size w W) => HMM.out W _ _ h (HXM.out b hltb) (HXM.out a hlt))
          have HEX := hide (fun (h : tm m ys (xs[a]?.getD 0) (xs[b]?.getD 0) = tm m ys (xs[b]?.getD 0) (xs[a]?.getD 0)) t (ht : t < b + 1) => show tm m ys (xs[a]?.getD 0) (xs[t]?.getD 0) = tm m ys (xs[t]?.getD 0) (xs[a]?.getD 0) by
            by_cases e9 : t = b
            · subst e9; exact h
            · exact HAL2.out t (by omega))
          generalize xs[b]?.getD 0 = fb at *
          obtain ⟨fa, hfa⟩ : ∃ fa, fa = xs[a]?.getD 0 := ⟨_, rfl⟩
          rw [← hfa] at ca HQ1 HQ2
          obtain ⟨q1, hq1⟩ : ∃ q1, tm m ys fa fb = q1 := ⟨_, rfl⟩
          obtain ⟨q2, hq2⟩ : ∃ q2, tm m ys fb fa = q2 := ⟨_, rfl⟩
          rw [hq1] at HQ1
          rw [hq2] at HQ2
          have HQ := hide (fun (h : q1 = q2) => HEX.out (by rw [← hfa, hq1, hq2, h]))
          clear hq1 hq2 hfa HEX
          obtain ⟨d0, d1, _, _⟩ := (blk_below hY6 hB).two
          have hS' : ∀ W, Below wr.heap.size wr W → (Below wr.heap.size wr W ∧ W.cell? ⟨rb, ro + a, none⟩ = some (.int .i64 (fa : Int)) ∧ W.cell? ⟨rb, ro + b, none⟩ = some (.int .i64 (fb : Int)) ∧ W.cell? ⟨w.heap.size + 1, 0, none⟩ = some (.int .i64 m) ∧ W.cell? ⟨w.heap.size + 1, 1, none⟩ = some (.slice y1 y2 y3)) := fun W h => ⟨h, below_cell h ca, below_cell h cb, below_cell h d0, below_cell h d1⟩
          have hS1 := hS' _ (bdrew (Below.refl _ wr))
          have hk1 : Hid True := trivial
          clear d0 d1 ca cb
          by_cases hqe : q1 = q2
          · have HN := hide (HQ.out hqe)
            subst hqe
            clear HQ
            go_wp2_with fail
            go_region_held3 (fun W => Below wr.heap.size wr W ∧ W.cell? ⟨rb, ro + a, none⟩ = some (.int .i64 (fa : Int)) ∧ W.cell? ⟨rb, ro + b, none⟩ = some (.int .i64 (fb : Int)) ∧ W.cell? ⟨w.heap.size + 1, 0, none⟩ = some (.int .i64 m) ∧ W.cell? ⟨w.heap.size + 1, 1, none⟩ = some (.slice y1 y2 y3))
              (first | exact hS1 | assumption | exact hS' _ (bcat2 (And.left ‹_›) hl1))
              (first
                | (go_at_call 45; clear hk1; refine (HQ1.out _ (bcat2 hBw (And.left ‹_›))).mono ?_; rintro e1 U1 ⟨rfl, hl1⟩)
                | (go_at_call 45; refine (HQ2.out _ (bcat2 hBw (And.left ‹_›))).mono ?_; rintro e2 U2 ⟨rfl, hl1⟩))
            all_goals (
              have hB9 := bcat2 hB (And.left ‹Below wr.heap.size wr U2 ∧ _›)
              go_wp2
              go_roundw
              case rel => exact ⟨b + 1, by omega, by go_num, HN.out, hB9⟩
              case measure => simp [intOf]; omega)
          · have hqi : ¬ (q1 : Int) = (q2 : Int) := by omega
            have hqb : ((q1 : Int) != (q2 : Int)) = true := bne_iff_ne.2 hqi
            clear HQ
            go_wp2_with fail
            go_region_held3 (fun W => Below wr.heap.size wr W ∧ W.cell? ⟨rb, ro + a, none⟩ = some (.int .i64 (fa : Int)) ∧ W.cell? ⟨rb, ro + b, none⟩ = some (.int .i64 (fb : Int)) ∧ W.cell? ⟨w.heap.size + 1, 0, none⟩ = some (.int .i64 m) ∧ W.cell? ⟨w.heap.size + 1, 1, none⟩ = some (.slice y1 y2 y3))
              (first | exact hS1 | assumption | exact hS' _ (bcat2 (And.left ‹_›) hl1))
              (first
                | (go_at_call 45; clear hk1; refine (HQ1.out _ (bcat2 hBw (And.left ‹_›))).mono ?_; rintro e1 U1 ⟨rfl, hl1⟩)
                | (go_at_call 45; refine (HQ2.out _ (bcat2 hBw (And.left ‹_›))).mono ?_; rintro e2 U2 ⟨rfl, hl1⟩))
            all_goals (
              have hB9 := bcat2 hBw (And.left ‹Below wr.heap.size wr U2 ∧ _›)
              go_wp2
              go_ret
              exact ⟨rfl, hB9⟩)
        · have hbi : ¬ (b : Int) < (L : Int) := by omega
          have HN := hide (fun s (hs : s < a + 1) t (ht : t < L) => show tm m ys (xs[s]?.getD 0) (xs[t]?.getD 0) = tm m ys (xs[t]?.getD 0) (xs[s]?.getD 0) by
            by_cases e9 : s = a
            · subst e9; exact HAL2.out t (by omega)
            · exact HALL.out s (by omega) t ht)
          go_wp2
          go_roundw
          case rel => exact ⟨a + 1, by omega, by go_num, HN.out, hB⟩
          case measure => simp [intOf]; omega
    · have hai : ¬ (a : Int) < (L : Int) := by omega
      have HCM := hide (show ∀ i j, i < L → j < L → tm m ys (xs[i]?.getD 0) (xs[j]?.getD 0) = tm m ys (xs[j]?.getD 0) (xs[i]?.getD 0) from fun i j hi hj => HALL.out i (by omega) j hj)
      have HCO := hide (HCO.out HCM.out)
      have HC2 := hide (HC2.out HCM.out)
      clear HALL HCM HMM HRA HRC HXM
      have hBr := bcat2 hB6 hB
      have hXr := blk_below hX6 hB
      have hYr := blk_below hY6 hB
      have hFr := blk_below hF6 hB
      obtain ⟨c0, c1, _, _⟩ := hXr.two
      go_wp2_with fail
      clear c0 c1
      refine (HAB.out _ hBr).mono ?_
      rintro x w7 ⟨q1, q2, q3, s1, s2, s3, rfl, hq7, hs7, hb7⟩
      have hG8 := blk0 (w := w7) (T := 24) (.int .i64 K) (.slice q1 q2 q3)
      have hb78 := bcat2 hb7 (balloc w7 (.cells #[.int .i64 K, .slice q1 q2 q3] 24))
      have hB8 := bcat2 hBr hb78
      have hX8 := blk_below hXr hb78
      have hY8 := blk_below hYr hb78
      have hF8 := blk_below hFr hb78
      have hq8 := hq7.below (balloc w7 (.cells #[.int .i64 K, .slice q1 q2 q3] 24))
      have hs8 := hs7.below (balloc w7 (.cells #[.int .i64 K, .slice q1 q2 q3] 24))
      obtain ⟨sa, sc, sb, so, hse, hsr, hsb, hscp, hsm⟩ := hs8
      injection hse with e1 e2 e3
      subst e1 e2 e3
      have hsl : (li ((List.range n).map ν)).length = n := by simp [li]
      have HSA := hide (fun (h : 0 < n) => hsr.at_ (by rw [hsl]; exact h))
      have HSC := hide (fun i (h : i < n) => (hsr.cell i (by rw [hsl]; exact h)).trans (show some (Value.int .i64 ((li ((List.range n).map ν))[i]?.getD 0)) = some (.int .i64 (ν i : Int)) by simp [li, h]))
      rw [hsl]
      clear hsr hscp hsm hsl hq7 hs7
      obtain ⟨c0, c1, _, _⟩ := hX8.two
      obtain ⟨t0, t1, ft0, ft1⟩ := hF8.two
      obtain ⟨o0, o1⟩ := hF8.self
      obtain ⟨g0, g1, _, _⟩ := hG8.two
      go_wp2_with (first
        | (at_make; refine wpList_make_full _ rfl _ _ 22 rfl (w7.heap.size + 1) 3 i0 (.int .i64 0) 1 under22b hi hz0 hz1 _ _ _ _ K rfl rfl rfl rfl (by rw [hz2]; omega) (by unfold maxLen; omega) (by simp) ?_))
      intro w9 hown hgr
      have hM9 : Blk w9 (w7.heap.size + 1) 3 ((List.replicate K (0 : Int)).map (Value.int .i64)) := by
        have := Blk.of_owns hown
        rw [made_rep] at this
        rw [List.map_replicate]; exact this
      have hb9 := (Below.refl _ (w7.alloc (.cells #[.int .i64 K, .slice q1 q2 q3] 24))).grown hgr (Nat.le_refl _) (by simp)
      have HSZ := hide (show (w7.alloc (.cells #[.int .i64 K, .slice q1 q2 q3] 24)).heap.size = w7.heap.size + 1 from World.size_alloc _ _)
      clear hown hgr c0 c1 t0 t1 ft0 ft1 o0 o1 g0 g1
      generalize w7.alloc (.cells #[.int .i64 K, .slice q1 q2 q3] 24) = w8 at *
      generalize w7.heap.size + 1 = tb at *
      have hG9 : ∀ W, Below w8.heap.size w8 W → (W.cell? ⟨w.heap.size, 0, none⟩ = some (.int .i64 n) ∧ W.cell? ⟨w7.heap.size, 0, none⟩ = some (.int .i64 K)) := fun W h => ⟨below_cell h hX8.two.1, below_cell h hG8.two.1⟩
      obtain ⟨c0, g0⟩ := hG9 _ hb9
      go_wp2
      clear c0 g0
      go_loopw [14] (fun i wr => ∃ (a : Nat) (th : List Int), a ≤ n ∧ i = .int .i64 a ∧ Blk wr tb 3 (th.map (Value.int .i64)) ∧ th.length = K ∧ (∀ t, t < a → th[ν t]?.getD 0 = (φ t : Int)) ∧ Below w8.heap.size w8 wr) (fun i _ => n - (intOf i).toNat)
      case atStart => exact ⟨0, List.replicate K 0, Nat.zero_le _, rfl, hM9, by simp, fun t ht => by omega, hb9⟩
      case round =>
        clear hM9 hb9 hB
        obtain ⟨a, th, ha, rfl, hM, htl, hall, hB⟩ := hrel
        have HALL := hide hall
        have HTL := hide htl
        clear hall htl
        have hBw := bcat2 hB8 hB
        obtain ⟨c0, g0⟩ := hG9 _ hB
        by_cases hlt : a < n
        · have hai : (a : Int) < (n : Int) := by omega
          obtain rfl := HSA.out (by omega)
          obtain rfl := HMA.out (by omega)
          have ct := below_cell hB (HSC.out a hlt)
          have cm := below_cell hBw (HMC.out a hlt)
          have hna := HNU.out a hlt
          have hMc := hM.int (y := ν a) (by rw [HTL.out]; exact hna)
          have hMf := hM.frozen (ν a)
          have hM6 := hM.setInt (ν a) (φ a : Int)
          have hB6 := hB.setCell (p := ⟨tb, ν a, none⟩) (by rw [HSZ.out]; exact Nat.le_refl _) (.int .i64 (φ a : Int))
          have HN := hide (fun t (ht : t < a + 1) => show (th.set (ν a) (φ a : Int))[ν t]?.getD 0 = (φ t : Int) by
            by_cases e9 : ν t = ν a
            · have h8 := HCO.out t a (by omega) hlt e9
              rw [e9, List.getElem?_set_self (by rw [HTL.out]; exact hna), Option.getD_some, h8]
            · rw [List.getElem?_set_ne (fun h => e9 h.symm)]
              exact HALL.out t (by
                have : t ≠ a := fun h => e9 (by rw [h])
                omega))
          generalize hthv : th[ν a]?.getD 0 = tv at *
          have HTS := hide (show (th.set (ν a) (φ a : Int)).length = K by rw [List.length_set, HTL.out])
          generalize th.set (ν a) (φ a : Int) = th2 at *
          have HTV := hide hthv
          clear hthv
          generalize ν a = na at *
          generalize φ a = fa at *
          have hd1 : decide ((na : Int) < 0) = false := decide_eq_false (by omega)
          have hd2 : decide ((K : Int) ≤ (na : Int)) = false := decide_eq_false (by omega)
          have hd3 : decide (K ≤ na) = false := decide_eq_false (by omega)
          have hd4 : ¬ (K ≤ na) := by omega
          have hdi : (na : Int) < (K : Int) := by omega
          go_wp2_with fail
          go_quiet (fail)
          have hMq : Blk (wr.drewN nq) tb 3 (th.map (Value.int .i64)) := hM
          have hM6q : Blk ((wr.drewN nq).drew.setCell ⟨tb, na, none⟩ (.int .i64 (fa : Int))) tb 3 (th2.map (Value.int .i64)) := hM6
          have hB6q := (bdrew (bdrewN hB nq)).setCell (p := ⟨tb, na, none⟩) (by rw [HSZ.out]; exact Nat.le_refl _) (.int .i64 (fa : Int))
          have ct : (wr.drewN nq).cell? ⟨sb, so + a, none⟩ = some (.int .i64 (na : Int)) := ct
          have cm : (wr.drewN nq).cell? ⟨mb, mo + a, none⟩ = some (.int .i64 (fa : Int)) := cm
          have hMc : (wr.drewN nq).cell? ⟨tb, na, none⟩ = some (.int .i64 tv) := hMc
          have hMf : (wr.drewN nq).frozen? ⟨tb, na, none⟩ = false := hMf
          clear hMq hM6 hB6
          generalize wr.drewN nq = wq at hM6q hB6q ct cm hMc hMf ⊢
          go_wp2_with fail
          go_region
          all_goals (
            go_wp2
            go_roundw
            case rel => exact ⟨a + 1, th2, by omega, by go_num, hM6q, HTS.out, HN.out, hB6q⟩
            case measure => simp [intOf]; omega)
        · have hai : ¬ (a : Int) < (n : Int) := by omega
          have HALL := hide (fun t (ht : t < n) => HALL.out t (by omega))
          obtain ⟨wo, rfl⟩ : ∃ wo, wo = wr := ⟨_, rfl⟩
          go_wp2
          clear c0 g0
          go_loopw [15] (fun i wr => ∃ a : Nat, a ≤ n ∧ i = .int .i64 a ∧ Below wo.heap.size wo wr) (fun i _ => n - (intOf i).toNat)
          case atStart => exact ⟨0, Nat.zero_le _, rfl, Below.refl _ _⟩
          case round =>
            obtain ⟨a, ha, rfl, hBo⟩ := hrel
            have hBr := bcat2 hB hBo
            have hBw2 := bcat2 hBw hBo
            obtain ⟨c0, g0⟩ := hG9 _ hBr
            by_cases hlt : a < n
            · have hai : (a : Int) < (n : Int) := by omega
              obtain rfl := HSA.out (by omega)
              obtain rfl := HMA.out (by omega)
              have ct := below_cell hBr (HSC.out a hlt)
              have cm := below_cell hBw2 (HMC.out a hlt)
              have hna := HNU.out a hlt
              have hMc := (blk_below hM hBo).int (y := ν a) (by rw [HTL.out]; exact hna)
              rw [HALL.out a hlt] at hMc
              generalize ν a = na at *
              generalize φ a = fa at *
              have hdi : (na : Int) < (K : Int) := by omega
              go_wp2_with fail
              go_quiet (fail)
              have hBq := bdrewN hBo nq
              generalize wr.drewN nq = wq at hBq ⊢
              go_wp2
              go_roundw
              case rel => exact ⟨a + 1, by omega, by go_num, hBq⟩
              case measure => simp [intOf]; omega
            · have hai : ¬ (a : Int) < (n : Int) := by omega
              have hMr := blk_below hM hBo
              have hth := Sl.of_blk hMr HTL.out.symm (by rw [HTL.out]; omega)
              obtain ⟨g0, g1, _, _⟩ := (blk_below hG8 hBr).two
              obtain ⟨d0, d1, _, _⟩ := (blk_below hY8 hBr).two
              go_wp2_with fail
              refine (HC2.out _ _ _ th hBw2 (hq8.below hBr) hth HTL.out HALL.out).mono ?_
              rintro x w11 ⟨rfl, hb11⟩
              have hB11 := bcat2 hBw2 hb11
              have hfd := field27 0 0 w11
              go_wp2
              go_ret
              exact ⟨rfl, hB11⟩
theorem qabel_law (N M : Int) (v y mv : Value) (zs ys ms : List Int) (w : World) (hv : Sl w v zs) (hy : Sl w y ys) (hm : Sl w mv ms) (hT : Tab w) :
    Calls Tryd.prog 10 #[.agg #[.int .i64 N, v], .agg #[.int .i64 M, y], mv] w fun e w' => e = .returned (.bool true) ∧ Below w.heap.size w w' := by
  obtain ⟨v1, v2, v3, rfl⟩ := hv.isSlice
  obtain ⟨y1, y2, y3, rfl⟩ := hy.isSlice
  by_cases hc : (hfault N zs M ys ms).1 = 0
  · obtain ⟨n, e, m, d, rfl, rfl, hg, hh⟩ := hfault_grp hc
    obtain ⟨hf0, hml, φ, H, hms⟩ := hom_of hg hh hc
    obtain ⟨p, hp⟩ := mkd_test n zs e (cmq n zs e (List.range n) (List.range n))
    have hn := hg.tab.le
    have hm6 := hh.tab.le
    have hs := der_sub hg hp
    have hN := der_nrm hg hp
    have PP := rgt_parts hg hs
    have hφ : ∀ a, a < n → ms[a]?.getD 0 = (φ a : Int) := fun a ha => by rw [hms]; simp [li, ha]
    have hxm : ∀ i, i < (lst m (fun a => decide (a ∈ (List.range n).map φ))).length → (lst m (fun a => decide (a ∈ (List.range n).map φ)))[i]?.getD 0 < m := fun i hi => by
      rw [List.getElem?_eq_getElem hi, Option.getD_some]
      exact (mem_lst.1 (List.getElem_mem hi)).1
    have hcom : (∀ i j, i < (lst m (fun a => decide (a ∈ (List.range n).map φ))).length → j < (lst m (fun a => decide (a ∈ (List.range n).map φ))).length → tm m ys ((lst m (fun a => decide (a ∈ (List.range n).map φ)))[i]?.getD 0) ((lst m (fun a => decide (a ∈ (List.range n).map φ)))[j]?.getD 0) = tm m ys ((lst m (fun a => decide (a ∈ (List.range n).map φ)))[j]?.getD 0) ((lst m (fun a => decide (a ∈ (List.range n).map φ)))[i]?.getD 0)) → ∀ a b, a < n → b < n → tm m ys (φ a) (φ b) = tm m ys (φ b) (φ a) := fun h a b ha hb => by
      have hin : ∀ a, a < n → ∃ i, i < (lst m (fun a => decide (a ∈ (List.range n).map φ))).length ∧ (lst m (fun a => decide (a ∈ (List.range n).map φ)))[i]?.getD 0 = φ a := fun a ha => by
        have hmem : φ a ∈ lst m (fun a => decide (a ∈ (List.range n).map φ)) := mem_lst.2 ⟨H.lt a ha, decide_eq_true (List.mem_map.2 ⟨a, List.mem_range.2 ha, rfl⟩)⟩
        obtain ⟨i, hi, he⟩ := List.mem_iff_getElem.1 hmem
        exact ⟨i, hi, by rw [List.getElem?_eq_getElem hi, Option.getD_some, he]⟩
      obtain ⟨i, hi, ei⟩ := hin a ha
      obtain ⟨j, hj, ej⟩ := hin b hb
      have := h i j hi hj
      rw [ei, ej] at this
      exact this
    refine qabel_good n m (fsts n (rgtq n zs (lst n (pset (li (lst n p))))) n).length _ v1 v2 v3 y1 y2 y3 ms (mkT (fsts n (rgtq n zs (lst n (pset (li (lst n p))))) n).length (quoF n zs (rgtq n zs (lst n (pset (li (lst n p))))))) ys (lst m (fun a => decide (a ∈ (List.range n).map φ))) φ (num n (rgtq n zs (lst n (pset (li (lst n p)))))) mv w hm hT hn (Nat.le_trans (fsts_len _ _ _) hn) hml hφ rfl hxm (fun a ha => (prts_num_lt PP ha).1)
      (hide fun W h => ?_) (hide fun W h => rhom_good n e m d (.slice v1 v2 v3) (.slice y1 y2 y3) mv zs ys ms φ W (hv.below h) hg (hy.below h) hh (hm.below h) hml H hφ)
      (hide fun W h => ?_) (hide fun W u h hu => ?_) (hide fun W a b h ha hb => M_ok m (.slice y1 y2 y3) ys a b W hh.tab (hy.below h) ha hb)
      (hide fun W h => ?_) (hide fun h a b ha hb hn => hom_cos hg hh H (hcom h) hp ha hb hn) (hide fun h W qv tv th hW hq htv hthl hth => ?_)
    · have h9 := hcheck_ok n m (.slice v1 v2 v3) (.slice y1 y2 y3) mv zs ys ms W (hv.below h) (hy.below h) (hm.below h)
      rw [hf0] at h9
      exact h9
    · exact image_good n m (.slice v1 v2 v3) (.slice y1 y2 y3) mv zs ys ((List.range n).map φ) W (hv.below h) (hy.below h) (by rw [← hms]; exact hm.below h) (hT.below h) hm6 (fun x hx => by
        obtain ⟨a, ha, rfl⟩ := List.mem_map.1 hx
        exact H.lt a (List.mem_range.1 ha)) (by rw [List.length_map, List.length_range]; exact hn) (by rw [← hms]; exact hf0)
    · have h9 := rlist_any m (.slice y1 y2 y3) u (li (lst m (fun a => decide (a ∈ (List.range n).map φ)))) W hm6 hu
      rw [lst_fault] at h9
      exact h9
    · have h9 := abel_good n e (.slice v1 v2 v3) zs p W (hv.below h) hg (hT.below h) hp
      rw [show ontoL n (rgtq n zs (lst n (pset (li (lst n p))))) = li ((List.range n).map (num n (rgtq n zs (lst n (pset (li (lst n p))))))) by unfold ontoL li; rw [List.map_map]; rfl] at h9
      exact h9
    · have h9 := hcheck_ok (fsts n (rgtq n zs (lst n (pset (li (lst n p))))) n).length m qv (.slice y1 y2 y3) tv _ ys th W hq (hy.below hW) htv
      have hcc := hcom h
      have hat : ∀ i, i < (fsts n (rgtq n zs (lst n (pset (li (lst n p))))) n).length → (fsts n (rgtq n zs (lst n (pset (li (lst n p))))) n)[i]?.getD 0 < n ∧ num n (rgtq n zs (lst n (pset (li (lst n p))))) ((fsts n (rgtq n zs (lst n (pset (li (lst n p))))) n)[i]?.getD 0) = i := fun i hi => by
        rw [List.getElem?_eq_getElem hi, Option.getD_some]
        exact ⟨fst_lt hi, prts_num_at PP hi⟩
      have hthi : ∀ i, i < (fsts n (rgtq n zs (lst n (pset (li (lst n p))))) n).length → th[i]?.getD 0 = (φ ((fsts n (rgtq n zs (lst n (pset (li (lst n p))))) n)[i]?.getD 0) : Int) := fun i hi => by
        obtain ⟨h1, h2⟩ := hat i hi
        have h3 := hth _ h1
        rw [h2] at h3
        exact h3
      rw [of_hom (φ := fun i => φ ((fsts n (rgtq n zs (lst n (pset (li (lst n p))))) n)[i]?.getD 0)) (quo_grp hg hs hN) hh ⟨fun i hi => H.lt _ (hat i hi).1, fun i j hi hj => by
        rw [tm_mk hi hj]
        obtain ⟨i1, i2⟩ := hat i hi
        obtain ⟨j1, j2⟩ := hat j hj
        unfold quoF
        have hij := tm_lt hg.tab i1 j1
        obtain ⟨k1, k2⟩ := hat _ (prts_num_lt PP hij).1
        rw [hom_cos hg hh H hcc hp k1 hij k2, H.mul _ _ i1 j1]⟩ hthl hthi] at h9
      exact h9
  · exact qabel_bad N M v1 v2 v3 y1 y2 y3 mv zs ys ms w hv hy hm hT hc
end Go.Proofs.YtodabkjadejekaaDoor
