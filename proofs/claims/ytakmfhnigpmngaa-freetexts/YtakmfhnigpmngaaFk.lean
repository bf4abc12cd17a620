/- What slices.Grow, slices.Concat and turn answer. -/
import Derived.Test.YtakmfhnigpmngaaFj
import Derived.Lib.AppendZerosOnto
namespace Go.Proofs.Ytakmfhnigpmngaa
open Go Go.RowKit

theorem under3b : Try.prog.underlying 3 = some (.int .i64) := by kernel_rfl

set_option maxRecDepth 100000 in
set_option maxHeartbeats 2000000 in
theorem grow_ok (n : Nat) (w : World) (hn : n ≤ 4000000) :
    Calls Try.prog 47 #[.slice none 0 0, .int .i64 n] w fun e w' => ∃ r, e = .returned r ∧ Row w' w.heap.size r [] ∧ Below w.heap.size w w' := by
  obtain ⟨i0, hi, hz0, hz1, hz2⟩ := info_parts info3b
  rcases Nat.eq_zero_or_pos n with h0 | h0
  · subst h0
    go_enter Try.func47, Try.ntmps47
    go_wp2
    go_ret
    exact ⟨_, rfl, nil_row _ _, Below.refl _ _⟩
  · have hrz := fun ty => Lib.run_append_grow_zeros (P := Try.prog) w 22 3 ty 3 i0 (.int .i64 0) .i64 .i64 under22b under3b hi hz0 none 0 0 [] (by have := run_firstCells_none (P := Try.prog) (w := w.drew) i0.size 0 0 0; exact this) n h0 (by rw [hz1]; omega) (by omega) (by omega) (by rw [hz2]; omega) (growslice_fits (by omega) (by rw [hz2]; omega))
    rw [Nat.zero_add] at hrz
    have hG := grownCap_ge w n 0 3
    have hG2 := grownCap_le_maxLen w n 0 3 (by unfold maxLen; omega)
    generalize grownCap w n 0 3 = G at *
    have hB : Below w.heap.size w (w.drew.alloc (.cells ([].toArray ++ Builtin.zeroCells (Value.cells (.int .i64 0)) n ++ Builtin.zeroCells (Value.cells (.int .i64 0)) (G - n)) 3)) := (bdrew (Below.refl _ w)).alloc (Nat.le_refl _) _
    have hrow : Row (w.drew.alloc (.cells ([].toArray ++ Builtin.zeroCells (Value.cells (.int .i64 0)) n ++ Builtin.zeroCells (Value.cells (.int .i64 0)) (G - n)) 3)) w.heap.size (.slice (some ⟨w.heap.size, 0, none⟩) 0 G) [] :=
      ⟨rfl, .inr ⟨w.heap.size, G, _, rfl, Nat.le_refl _, World.alloc_heap_new w.drew _, Nat.zero_le _, hG2, by simp [Builtin.zeroCells, Value.cells]; omega, by simp⟩⟩
    have hnn : ¬ ((n : Int) < 0) := by omega
    have hnp : (n : Int) > 0 := by omega
    have hnp2 : (0 : Int) < (n : Int) := by omega
    unfold maxLen at hG2
    generalize (w.drew.alloc (.cells ([].toArray ++ Builtin.zeroCells (Value.cells (.int .i64 0)) n ++ Builtin.zeroCells (Value.cells (.int .i64 0)) (G - n)) 3)) = W at *
    go_enter Try.func47, Try.ntmps47
    go_wp2_with (at_builtin; refine Lib.wpList_append_run _ rfl _ _ _ _ rfl _ _ rfl rfl _ _ (hrz _) ?_)
    go_ret
    exact ⟨_, rfl, hrow, hB⟩

set_option maxRecDepth 100000 in
set_option maxHeartbeats 2000000 in
theorem concat_ok (v : Value) (ws : List (List Int)) (w : World) (hv : SlW w v ws) (hsm : ws.flatten.length ≤ 1000000) :
    Calls Try.prog 46 #[v] w fun e w' => ∃ r, e = .returned r ∧ Row w' w.heap.size r ws.flatten ∧ Below w.heap.size w w' := by
  obtain ⟨a, cap, pb, po, rfl, hat, hcells, hp, hcap, hcm⟩ := hv
  unfold maxLen at hcm
  have HC := hide hcells
  have HSM := hide hsm
  have HTL := hide (fun k => (show ((ws.take k).flatten).length ≤ 1000000 by
    have h1 : ((ws.take k).flatten).length ≤ ws.flatten.length := by
      conv => rhs; rw [← List.take_append_drop k ws]
      rw [List.flatten_append, List.length_append]; omega
    omega))
  clear hcells hsm
  go_enter Try.func46, Try.ntmps46
  go_wp2
  go_loopw [3, 11] (fun s i wr => ∃ k : Nat, k ≤ ws.length ∧ i = .int .i64 k ∧ s = .int .i64 ((ws.take k).flatten.length : Nat) ∧ wr = w) (fun _ i _ => ws.length - (intOf i).toNat)
  case atStart => exact ⟨0, Nat.zero_le _, rfl, rfl, rfl⟩
  case round =>
    obtain ⟨k, hk, rfl, rfl, hwr⟩ := hrel
    obtain rfl : w = wr := hwr.symm
    by_cases hlt : k < ws.length
    · obtain rfl := hat (by omega)
      obtain ⟨u, hu, hs⟩ := HC.out k hlt
      have HFS := hide (flat_snoc hlt)
      have HL1 := hide (HTL.out (k + 1))
      have hl0 := HTL.out k
      generalize ws[k]?.getD [] = zs at *
      generalize hF : (ws.take k).flatten = F at *
      rw [HFS.out, List.length_append] at HL1
      have HFS2 := hide (show ((ws.take (k + 1)).flatten.length : Int) = (F.length : Int) + (zs.length : Int) by rw [HFS.out, List.length_append]; omega)
      obtain ⟨za, zc, zb, zo, rfl, hzr, hzp, hz1, hz2⟩ := hs
      unfold maxLen at hz2
      have hzl : zs.length ≤ 1000000 := by have := HL1.out; omega
      have hkl : (k : Int) < (ws.length : Int) := by omega
      have hnn : ¬ ((F.length : Int) + (zs.length : Int) < 0) := by omega
      clear hF
      go_wp2
      go_roundw
      case rel => exact ⟨k + 1, by omega, by go_num, by rw [HFS2.out], by trivial⟩
      case measure => simp [intOf]; omega
    · have hkk : k = ws.length := by omega
      subst hkk
      rw [List.take_length]
      have HGR := hide (grow_ok ws.flatten.length w (by have := HSM.out; omega))
      generalize hL : ws.flatten.length = L at *
      have HL := hide hL
      clear hL
      go_wp2_with fail
      refine HGR.out.mono ?_
      rintro e w1 ⟨r, rfl, hrow1, hl1⟩
      have hb1 := hl1.size
      go_wp2
      go_loopw [6, 27] (fun o i wq => ∃ k : Nat, k ≤ ws.length ∧ i = .int .i64 k ∧ Row wq w.heap.size o (ws.take k).flatten ∧ Below w.heap.size w wq) (fun _ i _ => ws.length - (intOf i).toNat)
      case atStart => exact ⟨0, Nat.zero_le _, rfl, hrow1, hl1⟩
      case round =>
        clear hrow1 hl1
        obtain ⟨k, hk, rfl, hrow, hB⟩ := hrel
        have hBs := hB.size
        by_cases hlt : k < ws.length
        · obtain rfl := hat (by omega)
          obtain ⟨u, hu, hs⟩ := HC.out k hlt
          have hu1 := below_cell hB hu
          have hs1 := hs.below hB
          have HFS := hide (flat_snoc hlt)
          have HL1 := hide (HTL.out (k + 1))
          generalize ws[k]?.getD [] = zs at *
          generalize (ws.take k).flatten = F at *
          rw [HFS.out, List.length_append] at HL1
          clear hu hs
          have hkl : (k : Int) < (ws.length : Int) := by omega
          obtain ⟨va, vc, rfl⟩ := hrow.slice
          go_wp2_with (first
            | (at_builtin; refine wpList_append_row rfl _ _ rfl w.heap.size _ _ F zs rfl hrow rfl hs1 (by have := HL1.out; omega) hBs ?_))
          intro v' w2 hrow2 hgrow
          have hB2 : Below w.heap.size w w2 := hB.grown hgrow (by omega) (fun t e => owns_ge hrow t e)
          obtain ⟨a2, c2, rfl⟩ := hrow2.slice
          go_wp2
          go_roundw
          case rel => exact ⟨k + 1, by omega, by go_num, by rw [HFS.out]; exact hrow2, hB2⟩
          case measure => simp [intOf]; omega
        · have hkk : k = ws.length := by omega
          subst hkk
          rw [List.take_length] at hrow
          go_wp2
          go_ret
          exact ⟨_, rfl, hrow, hB⟩

/-- A word, turned so that its first n letters come last. -/
theorem turn_piece {xs : List Int} {n : Nat} (hn : n ≤ xs.length) : ((xs ++ xs).drop n).take xs.length = xs.drop n ++ xs.take n := by
  rw [List.drop_append_of_le_length hn, List.take_append, List.length_drop]
  rw [List.take_of_length_le (by simp), show xs.length - (xs.length - n) = n by omega]

set_option maxRecDepth 100000 in
set_option maxHeartbeats 2000000 in
theorem turn_short (u v : Value) (xs ys : List Int) (w : World) (hu : Sl w u xs) (hv : Sl w v ys) (hl : ¬ xs.length = ys.length) :
    Calls Try.prog 42 #[u, v] w fun e w' => (∃ n : Nat, e = .returned (.tuple #[.int .i64 n, .bool true]) ∧ n ≤ xs.length ∧ xs.length = ys.length ∧ xs.drop n ++ xs.take n = ys ∧ Below w.heap.size w w') ∨
      (e = .returned (.tuple #[.int .i64 0, .bool false]) ∧ (∀ n, n ≤ xs.length → xs.drop n ++ xs.take n ≠ ys) ∧ Below w.heap.size w w') := by
  obtain ⟨ua, uc, ub, uo, hue, hur, hup, huc, hum⟩ := hu
  obtain ⟨va, vc, vb, vo, hve, hvr, hvp, hvc, hvm⟩ := hv
  subst hue hve
  unfold maxLen at hum hvm
  have hlb : ((xs.length : Int) != (ys.length : Int)) = true := by simp; omega
  have HD := hide (show ∀ n, n ≤ xs.length → xs.drop n ++ xs.take n ≠ ys from fun n hn e => hl (by
    have := congrArg List.length e
    simp at this; omega))
  clear hl hur hvr
  go_enter Try.func42, Try.ntmps42
  go_wp2
  go_ret2
  exact .inr ⟨rfl, HD.out, Below.refl _ _⟩

set_option maxRecDepth 100000 in
set_option maxHeartbeats 2000000 in
theorem turn_some (u v : Value) (xs ys : List Int) (w : World) (hu : Sl w u xs) (hv : Sl w v ys) (hpos : 0 < xs.length) (hsm : xs.length ≤ 100000) :
    Calls Try.prog 42 #[u, v] w fun e w' => (∃ n : Nat, e = .returned (.tuple #[.int .i64 n, .bool true]) ∧ n ≤ xs.length ∧ xs.length = ys.length ∧ xs.drop n ++ xs.take n = ys ∧ Below w.heap.size w w') ∨
      (e = .returned (.tuple #[.int .i64 0, .bool false]) ∧ (∀ n, n ≤ xs.length → xs.drop n ++ xs.take n ≠ ys) ∧ Below w.heap.size w w') := by
  have HU0 := hu
  have HV0 := hv
  have h0w := hu.pos
  have HU := hide hu
  have HV := hide hv
  obtain ⟨ua, uc, ub, uo, hue, hur, hup, huc, hum⟩ := hu
  obtain ⟨va, vc, vb, vo, hve, hvr, hvp, hvc, hvm⟩ := hv
  subst hue hve
  unfold maxLen at hum hvm
  by_cases hl : xs.length = ys.length
  · have hlb : ((xs.length : Int) != (ys.length : Int)) = false := by simp [hl]
    have HCC := hide (concat_ok (.slice (some ⟨w.heap.size, 0, none⟩) 2 2) [xs, xs] _ (SlW.two HU.out HU.out) (by simp; omega))
    have hB0 := balloc w (.cells #[.slice ua xs.length uc, .slice ua xs.length uc] 22)
    have hb0 := hB0.size
    have HL := hide hl
    clear hl hur hvr HU0 HV0
    go_enter Try.func42, Try.ntmps42
    go_wp2_with fail
    refine HCC.out.mono ?_
    rintro e w1 ⟨r, rfl, hrow0, hl1⟩
    have hB1 := bcat hB0 hl1 hb0
    have hb1 := hB1.size
    have hrow : Row w1 w.heap.size r (xs ++ xs) := by
      have := hrow0.mono hb0
      simpa using this
    have h01 : 0 < w1.heap.size := by omega
    have hsl := hrow.sl h01
    clear hrow0 hl1 HCC hrow
    obtain ⟨ta, tc, tb, to, hte, htr, htp, htc, htm⟩ := hsl
    have htl : (xs ++ xs).length = 2 * xs.length := by simp; omega
    rw [htl] at hte htc
    subst hte
    have hat := htr.at_ (by omega)
    subst hat
    have HT := hide htr
    have htm' := htm
    unfold maxLen at htm
    have HPS := hide hpos
    clear htr htl
    go_wp2
    go_loopw [20] (fun i wr => ∃ n j : Nat, n ≤ xs.length + 1 ∧ i = .int .i64 n ∧ wr = w1.drewN j ∧ ∀ m, m < n → xs.drop m ++ xs.take m ≠ ys) (fun i _ => xs.length + 1 - (intOf i).toNat)
    case atStart => exact ⟨0, 0, by omega, rfl, rfl, fun m hm => by omega⟩
    case round =>
      obtain ⟨n, j, hn, rfl, rfl, hall⟩ := hrel
      have HA := hide hall
      clear hall
      by_cases hlt : n ≤ xs.length
      · have hni : (n : Int) < (xs.length : Int) + 1 := by omega
        obtain ⟨sm, hsme⟩ : ∃ sm : Nat, sm = n + ys.length := ⟨_, rfl⟩
        have hyl : ys.length ≤ 100000 := by have := HL.out; omega
        have hw1 : (n : Int) + (ys.length : Int) = (sm : Int) := by omega
        have hw2 : IntKind.i64.wrap (sm : Int) = (sm : Int) := by rw [IntKind.wrap_i64]; omega
        have hs1 : (sm : Int) ≤ (tc : Int) := by have := HL.out; omega
        have hs2 : (n : Int) ≤ (sm : Int) := by omega
        have hs3 : sm - n = ys.length := by omega
        have HSM := hide hsme
        clear hsme
        have HEQ := hide (fun (b : Option Addr) (c : Nat) (h1 : ys.length ≤ c) (h2 : c ≤ maxLen) (hb : 0 < ys.length → b = some ⟨tb, to + n, none⟩) => equal_q (.slice b ys.length c) (.slice va ys.length vc) _ ys (w1.drewN j) (Sl.piece (i := n) (m := ys.length) (HT.out.of_eq (w' := w1.drewN j) rfl) htp (by have := HL.out; simp; omega) hb h1 h2) ((HV.out.below hB1).drewN j))
        have HTP := hide (turn_piece hlt)
        rw [HL.out] at HTP
        rw [HTP.out] at HEQ
        have hfin : ∀ (b : Option Addr), (0 < ys.length → b = some ⟨tb, to + n, none⟩) → Calls Try.prog 39 #[.slice b ys.length (tc - n), .slice va ys.length vc] (w1.drewN j) fun e w' => e = .returned (.bool (decide (xs.drop n ++ xs.take n = ys))) ∧ ∃ m, w' = (w1.drewN j).drewN m := fun b hb => HEQ.out b (tc - n) (by have := HL.out; omega) (by omega) hb
        have HF := hide hfin
        clear HEQ HTP hfin
        have HNX := hide (fun (h : xs.drop n ++ xs.take n ≠ ys) m (hm : m < n + 1) => show xs.drop m ++ xs.take m ≠ ys by
          by_cases e : m = n
          · rw [e]; exact h
          · exact HA.out m (by omega))
        have hc : ¬ tc = n := by omega
        have HH := hide (HF.out (some ⟨tb, to + n, none⟩) (fun _ => rfl))
        clear HF
        by_cases hd : xs.drop n ++ xs.take n = ys
        · rw [decide_eq_true hd] at HH
          have HD := hide hd
          clear hd
          go_wp2_with fail
          refine HH.out.mono ?_
          rintro e w2 ⟨rfl, m, rfl⟩
          go_wp2
          go_ret2
          exact .inl ⟨n, rfl, hlt, HL.out, HD.out, bdrewN hB1 _⟩
        · rw [decide_eq_false hd] at HH
          have HD := hide (HNX.out hd)
          clear hd
          go_wp2_with fail
          refine HH.out.mono ?_
          rintro e w2 ⟨rfl, m, rfl⟩
          go_wp2
          go_roundw
          case rel => exact ⟨n + 1, _, by omega, by go_num, rfl, HD.out⟩
          case measure => simp [intOf]; omega
      · have hni : ¬ ((n : Int) < (xs.length : Int) + 1) := by omega
        have HD := hide (fun m (hm : m ≤ xs.length) => HA.out m (by omega))
        go_wp2
        go_ret2
        exact .inr ⟨rfl, HD.out, bdrewN hB1 _⟩
  · exact turn_short _ _ xs ys w HU0 HV0 hl

set_option maxRecDepth 100000 in
set_option maxHeartbeats 2000000 in
theorem turn_nil (u v : Value) (ys : List Int) (w : World) (hu : Sl w u []) (hv : Sl w v ys) (hy : ys = []) :
    Calls Try.prog 42 #[u, v] w fun e w' => e = .returned (.tuple #[.int .i64 0, .bool true]) ∧ Below w.heap.size w w' := by
  subst hy
  have h0w := hu.pos
  have HU := hide hu
  have HV := hide hv
  obtain ⟨ua, uc, ub, uo, hue, hur, hup, huc, hum⟩ := hu
  obtain ⟨va, vc, vb, vo, hve, hvr, hvp, hvc, hvm⟩ := hv
  subst hue hve
  unfold maxLen at hum hvm
  have HCC := hide (concat_ok (.slice (some ⟨w.heap.size, 0, none⟩) 2 2) [[], []] _ (SlW.two HU.out HU.out) (by simp))
  have hB0 := balloc w (.cells #[.slice ua ([] : List Int).length uc, .slice ua ([] : List Int).length uc] 22)
  have hb0 := hB0.size
  clear hur hvr
  go_enter Try.func42, Try.ntmps42
  go_wp2_with fail
  refine HCC.out.mono ?_
  rintro e w1 ⟨r, rfl, hrow0, hl1⟩
  have hB1 := bcat hB0 hl1 hb0
  have hb1 := hB1.size
  have h01 : 0 < w1.heap.size := by omega
  have hsl := hrow0.sl h01
  clear hrow0 hl1 HCC
  obtain ⟨ta, tc, tb, to, hte, htr, htp, htc, htm⟩ := hsl
  subst hte
  clear htr
  have HE := hide (fun (b : Option Addr) (c : Nat) (hc : c ≤ tc) => equal_q (.slice b 0 c) (.slice va 0 vc) [] [] w1 (Sl.empty b c h01 (Nat.le_trans hc htm)) (HV.out.below hB1))
  have htm' := htm
  unfold maxLen at htm
  go_wp2
  go_loopw [20] (fun i wr => i = .int .i64 0 ∧ wr = w1) (fun _ _ => 0)
  case atStart => exact ⟨rfl, rfl⟩
  case round =>
    obtain ⟨rfl, hwr⟩ := hrel
    obtain rfl : w1 = wr := hwr.symm
    by_cases hc : tc = 0
    · subst hc
      cases ta with
      | none =>
        go_wp2_with fail
        refine (HE.out _ _ (by omega)).mono ?_
        rintro e w2 ⟨rfl, m, rfl⟩
        go_wp2
        go_ret2
        exact ⟨rfl, bdrewN hB1 _⟩
      | some ta =>
        go_wp2_with fail
        refine (HE.out _ _ (by omega)).mono ?_
        rintro e w2 ⟨rfl, m, rfl⟩
        go_wp2
        go_ret2
        exact ⟨rfl, bdrewN hB1 _⟩
    · cases ta with
      | none =>
        go_wp2_with fail
        refine (HE.out _ _ (by omega)).mono ?_
        rintro e w2 ⟨rfl, m, rfl⟩
        go_wp2
        go_ret2
        exact ⟨rfl, bdrewN hB1 _⟩
      | some ta =>
        go_wp2_with fail
        refine (HE.out _ _ (by omega)).mono ?_
        rintro e w2 ⟨rfl, m, rfl⟩
        go_wp2
        go_ret2
        exact ⟨rfl, bdrewN hB1 _⟩

theorem turn_ok (u v : Value) (xs ys : List Int) (w : World) (hu : Sl w u xs) (hv : Sl w v ys) (hsm : xs.length ≤ 100000) :
    Calls Try.prog 42 #[u, v] w fun e w' => (∃ n : Nat, e = .returned (.tuple #[.int .i64 n, .bool true]) ∧ n ≤ xs.length ∧ xs.length = ys.length ∧ xs.drop n ++ xs.take n = ys ∧ Below w.heap.size w w') ∨
      (e = .returned (.tuple #[.int .i64 0, .bool false]) ∧ (∀ n, n ≤ xs.length → xs.drop n ++ xs.take n ≠ ys) ∧ Below w.heap.size w w') := by
  rcases Nat.eq_zero_or_pos xs.length with h0 | h0
  · have hx : xs = [] := List.length_eq_zero_iff.1 h0
    subst hx
    by_cases hy : ys = []
    · refine (turn_nil u v ys w hu hv hy).mono ?_
      rintro e w' ⟨rfl, hb⟩
      exact .inl ⟨0, rfl, Nat.le_refl _, by rw [hy], by rw [hy]; rfl, hb⟩
    · have hl : 0 < ys.length := List.length_pos_iff.2 hy
      exact turn_short u v [] ys w hu hv (by simp; omega)
  · exact turn_some u v xs ys w hu hv h0 hsm

end Go.Proofs.Ytakmfhnigpmngaa
