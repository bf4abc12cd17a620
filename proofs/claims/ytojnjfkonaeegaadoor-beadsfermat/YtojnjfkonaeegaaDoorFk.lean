/- What slices.Grow, slices.Concat and turn answer. -/
import Derived.Test.YtojnjfkonaeegaaDoorFb
import Derived.Lib.AppendZerosOnto
namespace Go.Proofs.YtojnjfkonaeegaaDoor
open Go Go.RowKit

theorem flat_snoc {ws : List (List Int)} {k : Nat} (hk : k < ws.length) : (ws.take (k + 1)).flatten = (ws.take k).flatten ++ ws[k]?.getD [] := by
  rw [List.take_succ_eq_append_getElem hk, List.flatten_append, List.getElem?_eq_getElem hk]
  simp only [List.flatten_cons, List.flatten_nil, List.append_nil, Option.getD_some]

theorem under3b : Tryd.prog.underlying 3 = some (.int .i64) := by kernel_rfl

set_option maxRecDepth 100000 in
set_option maxHeartbeats 2000000 in
theorem grow_ok (n : Nat) (w : World) (hn : n ≤ 4000000) :
    Calls Tryd.prog 48 #[.slice none 0 0, .int .i64 n] w fun e w' => ∃ r, e = .returned r ∧ Row w' w.heap.size r [] ∧ Below w.heap.size w w' := by
  obtain ⟨i0, hi, hz0, hz1, hz2⟩ := info_parts info3b
  rcases Nat.eq_zero_or_pos n with h0 | h0
  · subst h0
    go_enter Tryd.func48, Tryd.ntmps48
    go_wp2
    go_ret
    exact ⟨_, rfl, nil_row _ _, Below.refl _ _⟩
  · have hrz := fun ty => Lib.run_append_grow_zeros (P := Tryd.prog) w 22 3 ty 3 i0 (.int .i64 0) .i64 .i64 under22b under3b hi hz0 none 0 0 [] (by have := run_firstCells_none (P := Tryd.prog) (w := w.drew) i0.size 0 0 0; exact this) n h0 (by rw [hz1]; omega) (by omega) (by omega) (by rw [hz2]; omega) (growslice_fits (by omega) (by rw [hz2]; omega))
    rw [Nat.zero_add] at hrz
    have hG := grownCap_ge w n 0 3
    have hG2 := grownCap_le_maxLen w n 0 3 (by unfold maxLen; omega)
    generalize grownCap w n 0 3 = G at *
    have hB : Below w.heap.size w (w.drew.alloc (.cells ([].toArray ++ Builtin.zeroCells (Value.cells (.int .i64 0)) n ++ Builtin.zeroCells (Value.cells (.int .i64 0)) (G - n)) 3)) := (bdrew (Below.refl _ w)).alloc (Nat.le_refl _) _
    have hrow : Row (w.drew.alloc (.cells ([].toArray ++ Builtin.zeroCells (Value.cells (.int .i64 0)) n ++ Builtin.zeroCells (Value.cells (.int .i64 0)) (G - n)) 3)) w.heap.size (.slice (some ⟨w.heap.size, 0, none⟩) 0 G) [] :=
      ⟨rfl, .inr ⟨w.heap.size, G, _, rfl, Nat.le_refl _, World.alloc_heap_new w.drew _, Nat.zero_le _, hG2, by simp [Builtin.zeroCells, Value.cells]; omega, by simp⟩⟩
    have hnn : ¬ ((n : Int) < 0) := by omega
    have hnp : (n : Int) > 0 := by omega
    have hnp2 : (0 : Int) < (n : Int) := by omega
    unfold maxLen at hG2
    generalize (w.drew.alloc (.cells ([].toArray ++ Builtin.zeroCells (Value.cells (.int .i64 0)) n ++ Builtin.zeroCells (Value.cells (.int .i64 0)) (G - n)) 3)) = W at *
    go_enter Tryd.func48, Tryd.ntmps48
    go_wp2_with (at_builtin; refine Lib.wpList_append_run _ rfl _ _ _ _ rfl _ _ rfl rfl _ _ (hrz _) ?_)
    go_ret
    exact ⟨_, rfl, hrow, hB⟩

set_option maxRecDepth 100000 in
set_option maxHeartbeats 2000000 in
theorem concat_ok (v : Value) (ws : List (List Int)) (w : World) (hv : SlW w v ws) (hsm : ws.flatten.length ≤ 1000000) :
    Calls Tryd.prog 31 #[v] w fun e w' => ∃ r, e = .returned r ∧ Row w' w.heap.size r ws.flatten ∧ Below w.heap.size w w' := by
  obtain ⟨a, cap, pb, po, rfl, hat, hcells, hp, hcap, hcm⟩ := hv
  unfold maxLen at hcm
  have HC := hide hcells
  have HSM := hide hsm
  have HTL := hide (fun k => (show ((ws.take k).flatten).length ≤ 1000000 by
    have h1 : ((ws.take k).flatten).length ≤ ws.flatten.length := by
      conv => rhs; rw [← List.take_append_drop k ws]
      rw [List.flatten_append, List.length_append]; omega
    omega))
  clear hcells hsm
  go_enter Tryd.func31, Tryd.ntmps31
  go_wp2
  go_loopw [3, 11] (fun s i wr => ∃ k : Nat, k ≤ ws.length ∧ i = .int .i64 k ∧ s = .int .i64 ((ws.take k).flatten.length : Nat) ∧ wr = w) (fun _ i _ => ws.length - (intOf i).toNat)
  case atStart => exact ⟨0, Nat.zero_le _, rfl, rfl, rfl⟩
  case round =>
    obtain ⟨k, hk, rfl, rfl, hwr⟩ := hrel
    obtain rfl : w = wr := hwr.symm
    by_cases hlt : k < ws.length
    · obtain rfl := hat (by omega)
      obtain ⟨u, hu, hs⟩ := HC.out k hlt
      have HFS := hide (flat_snoc hlt)
      have HL1 := hide (HTL.out (k + 1))
      have hl0 := HTL.out k
      generalize ws[k]?.getD [] = zs at *
      generalize hF : (ws.take k).flatten = F at *
      rw [HFS.out, List.length_append] at HL1
      have HFS2 := hide (show ((ws.take (k + 1)).flatten.length : Int) = (F.length : Int) + (zs.length : Int) by rw [HFS.out, List.length_append]; omega)
      obtain ⟨za, zc, zb, zo, rfl, hzr, hzp, hz1, hz2⟩ := hs
      unfold maxLen at hz2
      have hzl : zs.length ≤ 1000000 := by have := HL1.out; omega
      have hkl : (k : Int) < (ws.length : Int) := by omega
      have hnn : ¬ ((F.length : Int) + (zs.length : Int) < 0) := by omega
      clear hF
      go_wp2
      go_roundw
      case rel => exact ⟨k + 1, by omega, by go_num, by rw [HFS2.out], by trivial⟩
      case measure => simp [intOf]; omega
    · have hkk : k = ws.length := by omega
      subst hkk
      rw [List.take_length]
      have HGR := hide (grow_ok ws.flatten.length w (by have := HSM.out; omega))
      generalize hL : ws.flatten.length = L at *
      have HL := hide hL
      clear hL
      go_wp2_with fail
      refine HGR.out.mono ?_
      rintro e w1 ⟨r, rfl, hrow1, hl1⟩
      have hb1 := hl1.size
      go_wp2
      go_loopw [6, 27] (fun o i wq => ∃ k : Nat, k ≤ ws.length ∧ i = .int .i64 k ∧ Row wq w.heap.size o (ws.take k).flatten ∧ Below w.heap.size w wq) (fun _ i _ => ws.length - (intOf i).toNat)
      case atStart => exact ⟨0, Nat.zero_le _, rfl, hrow1, hl1⟩
      case round =>
        clear hrow1 hl1
        obtain ⟨k, hk, rfl, hrow, hB⟩ := hrel
        have hBs := hB.size
        by_cases hlt : k < ws.length
        · obtain rfl := hat (by omega)
          obtain ⟨u, hu, hs⟩ := HC.out k hlt
          have hu1 := below_cell hB hu
          have hs1 := hs.below hB
          have HFS := hide (flat_snoc hlt)
          have HL1 := hide (HTL.out (k + 1))
          generalize ws[k]?.getD [] = zs at *
          generalize (ws.take k).flatten = F at *
          rw [HFS.out, List.length_append] at HL1
          clear hu hs
          have hkl : (k : Int) < (ws.length : Int) := by omega
          obtain ⟨va, vc, rfl⟩ := hrow.slice
          go_wp2_with (first
            | (at_builtin; refine wpList_append_row rfl _ _ rfl w.heap.size _ _ F zs rfl hrow rfl hs1 (by have := HL1.out; omega) hBs ?_))
          intro v' w2 hrow2 hgrow
          have hB2 : Below w.heap.size w w2 := hB.grown hgrow (by omega) (fun t e => owns_ge hrow t e)
          obtain ⟨a2, c2, rfl⟩ := hrow2.slice
          go_wp2
          go_roundw
          case rel => exact ⟨k + 1, by omega, by go_num, by rw [HFS.out]; exact hrow2, hB2⟩
          case measure => simp [intOf]; omega
        · have hkk : k = ws.length := by omega
          subst hkk
          rw [List.take_length] at hrow
          go_wp2
          go_ret
          exact ⟨_, rfl, hrow, hB⟩

end Go.Proofs.YtojnjfkonaeegaaDoor
