/- What the law CosetLists answers: true, at every table and every list. -/
import Derived.Test.YtoiemlnmcfmakaaDoorCsa
namespace Go.Proofs.YtoiemlnmcfmakaaDoor
open Go Go.RowKit

theorem wrap60 {N : Int} (h0 : 0 ≤ N) (h : N ≤ 60) : IntKind.i64.wrap N = N := by rw [IntKind.wrap_i64]; omega
set_option maxRecDepth 100000 in
set_option maxHeartbeats 8000000 in
theorem lists_walk (N : Int) (v1 : Option Addr) (v2 v3 : Nat) (u1 : Option Addr) (u2 u3 : Nat) (zs l : List Int) (w : World) (hv : Sl w (.slice v1 v2 v3) zs) (hu : Sl w (.slice u1 u2 u3) l) (hT : Tab w) (hz : zs.length * 8 ≤ 140737488355328) (hl8 : l.length * 8 ≤ 140737488355328)
    (c i : Int) (ra la : List (List Int))
    (HR : Hid (∀ W x m, Below w.heap.size w W → Sl W x zs → Sl W m l → Calls Tryd.prog 65 #[.agg #[.int .i64 N, x], m] W fun x W' => ∃ r1 r2 r3, x = .returned (.tuple #[.slice r1 r2 r3, .agg #[.int .i64 c, .int .i64 i]]) ∧ SlL W' (.slice r1 r2 r3) ra ∧ Below W.heap.size W W'))
    (HL : Hid (∀ W x m, Below w.heap.size w W → Sl W x zs → Sl W m l → Calls Tryd.prog 66 #[.agg #[.int .i64 N, x], m] W fun x W' => ∃ r1 r2 r3, x = .returned (.tuple #[.slice r1 r2 r3, .agg #[.int .i64 c, .int .i64 i]]) ∧ SlL W' (.slice r1 r2 r3) la ∧ Below W.heap.size W W'))
    (HU : Hid (∀ W, Below w.heap.size w W → Calls Tryd.prog 46 #[.agg #[.int .i64 N, .slice v1 v2 v3], .slice u1 u2 u3] W fun e W' => e = .returned (.agg #[.int .i64 c, .int .i64 i]) ∧ Below W.heap.size W W'))
    (HA : Hid (∀ W r, Below w.heap.size w W → BoxG W w.heap.size N (.slice v1 v2 v3) → Boxed W (w.heap.size + 1) 22 (.slice u1 u2 u3) → SlL W r ra → Calls Tryd.prog 68 #[r, .agg #[.int .i64 c, .int .i64 i], .agg #[.int .i64 c, .int .i64 i], .func (.func 69) #[] #[.pointer (some ⟨w.heap.size, 0, none⟩), .pointer (some ⟨w.heap.size + 1, 0, none⟩)]] W fun e W' => e = .returned (.bool true) ∧ Below W.heap.size W W'))
    (HB : Hid (∀ W r, Below w.heap.size w W → BoxG W w.heap.size N (.slice v1 v2 v3) → Boxed W (w.heap.size + 1) 22 (.slice u1 u2 u3) → SlL W r la → Calls Tryd.prog 68 #[r, .agg #[.int .i64 c, .int .i64 i], .agg #[.int .i64 c, .int .i64 i], .func (.func 71) #[] #[.pointer (some ⟨w.heap.size, 0, none⟩), .pointer (some ⟨w.heap.size + 1, 0, none⟩)]] W fun e W' => e = .returned (.bool true) ∧ Below W.heap.size W W'))
    (HM : Hid (c = 0 → (∀ y, y ∈ ra → y.length = l.length) ∧ ((ra.length : Int) * (l.length : Int) = N ∧ (N : Int) ≤ 60) ∧ ra.length = la.length)) :
    Calls Tryd.prog 10 #[.agg #[.int .i64 N, .slice v1 v2 v3], .slice u1 u2 u3] w fun e w' => e = .returned (.bool true) ∧ Below w.heap.size w w' := by
  have hB0 : Below w.heap.size w ((w.alloc (.cells #[.int .i64 N, .slice v1 v2 v3] 24)).alloc (.cells #[.slice u1 u2 u3] 22)) := (balloc w _).alloc (by simp) _
  have hX0 : BoxG ((w.alloc (.cells #[.int .i64 N, .slice v1 v2 v3] 24)).alloc (.cells #[.slice u1 u2 u3] 22)) w.heap.size N (.slice v1 v2 v3) := (blk0 _ _).alloc _
  have hL0 := Boxed.new (w.alloc (.cells #[.int .i64 N, .slice v1 v2 v3] 24)) 22 (.slice u1 u2 u3)
  rw [World.size_alloc] at hL0
  obtain ⟨w0, hw0⟩ : ∃ w0, w0 = (w.alloc (.cells #[.int .i64 N, .slice v1 v2 v3] 24)).alloc (.cells #[.slice u1 u2 u3] 22) := ⟨_, rfl⟩
  rw [← hw0] at hB0 hX0 hL0
  have hT0 := hT.below hB0
  have hv0 := hv.below hB0
  have hu0 := hu.below hB0
  have HOG := hide (fun W (h : Below w0.heap.size w0 W) => ownGroup_row N (.slice v1 v2 v3) zs W (hv0.below h) hz)
  have HOW := hide (fun W (h : Below w0.heap.size w0 W) => own_any (.slice u1 u2 u3) l W (hu0.below h) hl8)
  go_enter Tryd.func10, Tryd.ntmps10
  go_wp2_with fail
  rw [← hw0]
  clear hw0
  go_cut [5, 6] (fun s5 s6 wx => MRel w0 N zs l s5 s6 wx)
  case first =>
    obtain ⟨c0, c1, _, _⟩ := hX0.two
    have c2 := hL0.cell
    have hS : ∀ W, Below w0.heap.size w0 W → (Below w0.heap.size w0 W ∧ W.cell? ⟨w.heap.size, 0, none⟩ = some (.int .i64 N) ∧ W.cell? ⟨w.heap.size, 1, none⟩ = some (.slice v1 v2 v3) ∧ W.cell? ⟨w.heap.size + 1, 0, none⟩ = some (.slice u1 u2 u3)) := fun W h => ⟨h, below_cell h c0, below_cell h c1, below_cell h c2⟩
    have hS0 := hS _ (bdrew (Below.refl _ w0))
    go_region_held3 (fun W => Below w0.heap.size w0 W ∧ W.cell? ⟨w.heap.size, 0, none⟩ = some (.int .i64 N) ∧ W.cell? ⟨w.heap.size, 1, none⟩ = some (.slice v1 v2 v3) ∧ W.cell? ⟨w.heap.size + 1, 0, none⟩ = some (.slice u1 u2 u3))
      (first | exact hS0 | assumption | exact hS _ (bcat2 (And.left ‹_›) hl1) | exact hS _ (bcat2 (And.left ‹_›) (balloc _ _)) | (refine hS _ ?_; repeat (first | exact hU2 | (refine bAlloc ?_) | (refine bSet ?_ (by omega)))))
      (first
        | (go_at_call 15; refine (HOG.out _ (And.left ‹_›)).mono ?_; rintro e1 U1 ⟨x9, rfl, hx9, hl1⟩; obtain ⟨a1, a3, rfl⟩ := row_len hx9; have hlA := hl1; have hU1 := bcat2 (And.left ‹_›) hl1; have hz1 := hU1.size; have hp1 := cell_eq hl1; have hq1 := frozen_eq hl1)
        | (go_at_call 16; refine (HOW.out _ (And.left ‹_›)).mono ?_; rintro e2 U2 ⟨m9, rfl, hm9, hl1⟩; obtain ⟨m1, m3, rfl⟩ := own_slice hm9; have hlB := hl1; have hU2 := bcat2 (And.left ‹_›) hl1; have hz2 := hU2.size; have hp2 := cell_eq hl1; have hq2 := frozen_eq hl1))
    all_goals (go_wp2; go_meet)
    · have h00 := hT0.lt
      exact ⟨_, _, _, _, _, _, _, rfl, rfl, blk0 _ _, ((row_sl hx9 (by omega)).below hlB).alloc _, (row_sl hm9 (by omega)).alloc _, bAlloc hU2⟩
    · have h00 := hT0.lt
      have hb12 := bcat2 (balloc U1 _) hlB
      have hsx := row_sl hx9 (by omega)
      have hm2 : Row U2 (U1.alloc (.cells #[.int .i64 0, .slice none 0 0] 24)).heap.size _ l := hm9
      rw [World.size_alloc] at hm2
      exact ⟨_, _, _, _, _, _, _, rfl, rfl, ((blk_below (blk0 _ _) hlB).set 0 _).set 1 _, slset hsx (Nat.le_refl _) (fun k hk => (Below.heap_setCell _ _ _ k (by simp; omega)).trans (hb12.block k hk)), row_sl (rowset (rowset hm2 (by omega)) (by omega)) (by rw [size_set, size_set]; omega), bSet (bSet hU2 (by omega)) (by omega)⟩
    · have h00 := hT0.lt
      have hA1 : w0.heap.size + 1 ≤ U1.heap.size := by have := hlA.size; simpa using this
      have hx2 : Row U1 (w0.heap.size + 1) (.slice a1 zs.length a3) zs := by
        have : Row U1 (w0.alloc (.cells #[.int .i64 0, .slice none 0 0] 24)).heap.size (.slice a1 zs.length a3) zs := hx9
        rwa [World.size_alloc] at this
      exact ⟨_, _, _, _, _, _, _, rfl, rfl, ((blk_below (blk_below (blkd _ _) hlA) hlB).set 0 _).set 1 _, row_sl (rowset (rowset (row_below hx2 hlB) (by omega)) (by omega)) (by rw [size_set, size_set]; omega), row_sl (rowset (rowset hm9 (by omega)) (by omega)) (by rw [size_set, size_set]; omega), bSet (bSet hU2 (by omega)) (by omega)⟩
  case rest =>
    obtain ⟨gb, a1, a2, a3, m1, m2, m3, rfl, rfl, hGB, hx, hm, hbx⟩ := hcut
    clear HOG HOW
    have HSG := hide (fun W (h1 : Sl W (.slice a1 a2 a3) zs) (h2 : Below w.heap.size w W) => sameGroup_any N N (.slice a1 a2 a3) (.slice v1 v2 v3) zs zs W h1 (hv.below h2))
    have HIN := hide (fun W (h1 : Sl W (.slice m1 m2 m3) l) (h2 : Below w.heap.size w W) => ints_any (.slice m1 m2 m3) (.slice u1 u2 u3) l l W h1 (hu.below h2))
    simp only [decide_true, Bool.and_self] at HSG HIN
    have hBW := bcat2 hB0 hbx
    obtain ⟨c0, c1, _, _⟩ := hGB.two
    go_wp2_with fail
    clear c0 c1
    refine (HR.out _ _ _ hBW hx hm).mono ?_
    rintro x w2 ⟨r1, r2, r3, rfl, hr, hb2⟩
    have hF3 := blk0 (w := w2) (T := 28) (.int .i64 c) (.int .i64 i)
    have hb3 := bcat2 hb2 (balloc w2 (.cells #[.int .i64 c, .int .i64 i] 28))
    have hr := hr.below (balloc w2 (.cells #[.int .i64 c, .int .i64 i] 28))
    have hGB := blk_below hGB hb3
    have hx := hx.below hb3
    have hm := hm.below hb3
    have hbx := bcat2 hbx hb3
    have hBW := bcat2 hBW hb3
    obtain ⟨c0, c1, _, _⟩ := hGB.two
    go_wp2_with fail
    generalize w2.alloc (.cells #[.int .i64 c, .int .i64 i] 28) = w3 at *
    clear c0 c1
    refine (HL.out _ _ _ hBW hx hm).mono ?_
    rintro x w4 ⟨s1, s2, s3, rfl, hs, hb4⟩
    have hF5 := blk0 (w := w4) (T := 28) (.int .i64 c) (.int .i64 i)
    have hb5 := bcat2 hb4 (balloc w4 (.cells #[.int .i64 c, .int .i64 i] 28))
    have hs := hs.below (balloc w4 (.cells #[.int .i64 c, .int .i64 i] 28))
    have hGB := blk_below hGB hb5
    have hx := hx.below hb5
    have hm := hm.below hb5
    have hbx := bcat2 hbx hb5
    have hBW := bcat2 hBW hb5
    have hF3 := blk_below hF3 hb5
    have hr := hr.below hb5
    obtain ⟨c0, c1, _, _⟩ := (blk_below hX0 hbx).two
    have c2 := (Boxed.below hL0 hbx).cell
    go_wp2_with fail
    generalize w4.alloc (.cells #[.int .i64 c, .int .i64 i] 28) = w5 at *
    clear c0 c1 c2
    refine (HU.out _ hBW).mono ?_
    rintro x w6 ⟨rfl, hb6⟩
    have hF7 := blk0 (w := w6) (T := 28) (.int .i64 c) (.int .i64 i)
    have hb7 := bcat2 hb6 (balloc w6 (.cells #[.int .i64 c, .int .i64 i] 28))
    have hGB := blk_below hGB hb7
    have hx := hx.below hb7
    have hm := hm.below hb7
    have hbx := bcat2 hbx hb7
    have hBW := bcat2 hBW hb7
    have hF3 := blk_below hF3 hb7
    have hF5 := blk_below hF5 hb7
    have hr := hr.below hb7
    have hs := hs.below hb7
    go_wp2_with fail
    generalize w6.alloc (.cells #[.int .i64 c, .int .i64 i] 28) = w7 at *
    refine (cosetBegun_any _ (hT.below hBW)).mono ?_
    rintro x w8 ⟨rfl, hb8⟩
    have hGB := blk_below hGB hb8
    have hx := hx.below hb8
    have hm := hm.below hb8
    have hbx := bcat2 hbx hb8
    have hBW := bcat2 hBW hb8
    have hF3 := blk_below hF3 hb8
    have hF5 := blk_below hF5 hb8
    have hF7 := blk_below hF7 hb8
    have hr := hr.below hb8
    have hs := hs.below hb8
    obtain ⟨c0, c1, _, _⟩ := (blk_below hX0 hbx).two
    obtain ⟨d0, d1, _, _⟩ := hGB.two
    go_wp2_with fail
    clear c0 c1 d0 d1
    refine (HSG.out _ hx hBW).mono ?_
    rintro x w9 ⟨rfl, hb9⟩
    have hGB := blk_below hGB hb9
    have hx := hx.below hb9
    have hm := hm.below hb9
    have hbx := bcat2 hbx hb9
    have hBW := bcat2 hBW hb9
    have hF3 := blk_below hF3 hb9
    have hF5 := blk_below hF5 hb9
    have hF7 := blk_below hF7 hb9
    have hr := hr.below hb9
    have hs := hs.below hb9
    have c2 := (Boxed.below hL0 hbx).cell
    go_wp2_with fail
    clear c2
    refine (HIN.out _ hm hBW).mono ?_
    rintro x w10 ⟨rfl, hb10⟩
    have hGB := blk_below hGB hb10
    have hx := hx.below hb10
    have hm := hm.below hb10
    have hbx := bcat2 hbx hb10
    have hBW := bcat2 hBW hb10
    have hF3 := blk_below hF3 hb10
    have hF5 := blk_below hF5 hb10
    have hF7 := blk_below hF7 hb10
    have hr := hr.below hb10
    have hs := hs.below hb10
    obtain ⟨p0, p1, _, _⟩ := hF3.two
    obtain ⟨q0, q1, _, _⟩ := hF7.two
    go_wp2_with fail
    clear p0 p1 q0 q1
    refine (HA.out _ _ hBW (blk_below hX0 hbx) (Boxed.below hL0 hbx) hr).mono ?_
    rintro x w11 ⟨rfl, hb11⟩
    have hGB := blk_below hGB hb11
    have hx := hx.below hb11
    have hm := hm.below hb11
    have hbx := bcat2 hbx hb11
    have hBW := bcat2 hBW hb11
    have hF3 := blk_below hF3 hb11
    have hF5 := blk_below hF5 hb11
    have hF7 := blk_below hF7 hb11
    have hr := hr.below hb11
    have hs := hs.below hb11
    obtain ⟨p0, p1, _, _⟩ := hF5.two
    obtain ⟨q0, q1, _, _⟩ := hF7.two
    go_wp2_with fail
    clear p0 p1 q0 q1
    refine (HB.out _ _ hBW (blk_below hX0 hbx) (Boxed.below hL0 hbx) hs).mono ?_
    rintro x w12 ⟨rfl, hb12⟩
    have hGB := blk_below hGB hb12
    have hx := hx.below hb12
    have hm := hm.below hb12
    have hbx := bcat2 hbx hb12
    have hBW := bcat2 hBW hb12
    have hF3 := blk_below hF3 hb12
    have hF5 := blk_below hF5 hb12
    have hF7 := blk_below hF7 hb12
    have hr := hr.below hb12
    have hs := hs.below hb12
    obtain ⟨q0, q1, _, _⟩ := hF7.two
    obtain ⟨c0, c1, _, _⟩ := (blk_below hX0 hbx).two
    have c2 := (Boxed.below hL0 hbx).cell
    clear hGB hx hm hF3 hF5 hF7 HR HL HU HA HB HSG HIN
    by_cases hc : c = 0
    · subst hc
      obtain ⟨aa, acap, apb, apo, hae, hA1, hA2, hA3, hA4, hA5⟩ := id hr
      injection hae with hae1 hae2 hae3
      subst hae1 hae2 hae3
      obtain ⟨ba, bcap, bpb, bpo, hbe, hC1, hC2, hC3, hC4, hC5⟩ := id hs
      injection hbe with hbe1 hbe2 hbe3
      subst hbe1 hbe2 hbe3
      obtain ⟨ua, ucap, upb, upo, hue, _, _, _, _⟩ := id hu
      injection hue with hue1 hue2 hue3
      subst hue1 hue2 hue3
      have hra : ra.length ≤ 9223372036854775807 := by unfold maxLen at hA5; omega
      have HA1 := hide hA1
      have HA2 := hide hA2
      obtain ⟨HC1, HC2, HC3⟩ := HM.out rfl
      have HC1 := hide HC1
      clear hA1 hA2 hA3 hA4 hA5 hC1 hC2 hC3 hC4 hC5 hr hs
      have h12 := hBW
      go_wp2
      clear q0 q1
      go_loopw [12] (fun i9 wr => ∃ j : Nat, j ≤ ra.length ∧ i9 = .int .i64 j ∧ Below w12.heap.size w12 wr) (fun i9 _ => ra.length - (intOf i9).toNat)
      case atStart => exact ⟨0, Nat.zero_le _, rfl, Below.refl _ _⟩
      case round =>
        obtain ⟨j, hj, rfl, hB⟩ := hrel
        have c0 := below_cell hB c0
        have c1 := below_cell hB c1
        have c2 := below_cell hB c2
        by_cases hlt : j < ra.length
        · have hji : (j : Int) < (ra.length : Int) := by omega
          obtain rfl := HA1.out (by omega)
          obtain ⟨y, cy, hy⟩ := HA2.out j hlt
          have cy := below_cell hB cy
          obtain ⟨y1, ycap, _, _, rfl, _, _, _, _⟩ := hy
          have hye : (ra[j]?.getD []).length = l.length := by
            rw [List.getElem?_eq_getElem hlt]
            exact HC1.out _ (List.getElem_mem hlt)
          rw [hye] at cy
          clear hye
          go_wp2_with fail
          go_quiet (fail)
          have hBq := bdrewN hB nq
          generalize wr.drewN nq = wq at hBq ⊢
          go_wp2
          go_roundw
          case rel => exact ⟨j + 1, by omega, by go_num, hBq⟩
          case measure => simp [intOf]; omega
        · have hji : ¬ (j : Int) < (ra.length : Int) := by omega
          obtain ⟨h1, h2⟩ := HC2
          have h0 : 0 ≤ N := by rw [← h1]; exact Int.mul_nonneg (by omega) (by omega)
          have hmul : IntKind.i64.wrap ((ra.length : Int) * (l.length : Int)) = N := by
            rw [h1]
            exact wrap60 h0 h2
          have hlen : ((ra.length : Nat) : Int) = ((la.length : Nat) : Int) := by omega
          have hmul2 : IntKind.i64.wrap ((la.length : Int) * (l.length : Int)) = N := by rw [← hlen]; exact hmul
          clear HC3 h1 hmul
          go_wp2
          go_ret
          exact ⟨rfl, bcat2 hBW hB⟩
    · have hcb : (c != 0) = true := by simpa using hc
      go_wp2
      go_ret
      exact ⟨rfl, hBW⟩
end Go.Proofs.YtoiemlnmcfmakaaDoor

namespace Go.Proofs.YtoiemlnmcfmakaaDoor
open Go Go.RowKit

theorem nil_sll {w : World} (h0 : 0 < w.heap.size) : SlL w (.slice none 0 0) [] := ⟨none, 0, 0, 0, rfl, by simp, by simp, h0, by simp, by unfold maxLen; omega⟩
/-- Lists that a function answers with a fault: none. -/
theorem lists_bad {f : Nat} {args : Array Value} {w : World} {c i : Int} (h0 : 0 < w.heap.size) (h : Calls Tryd.prog f args w fun x w' => x = .returned (.tuple #[.slice none 0 0, .agg #[.int .i64 c, .int .i64 i]]) ∧ Below w.heap.size w w') :
    Calls Tryd.prog f args w fun x w' => ∃ r1 r2 r3, x = .returned (.tuple #[.slice r1 r2 r3, .agg #[.int .i64 c, .int .i64 i]]) ∧ SlL w' (.slice r1 r2 r3) [] ∧ Below w.heap.size w w' := by
  refine h.mono ?_
  rintro x w' ⟨rfl, hb⟩
  exact ⟨none, 0, 0, rfl, nil_sll (Nat.lt_of_lt_of_le h0 hb.size), hb⟩
theorem csl_lens {n m : Nat} {f : Nat → Nat → Bool} (h : ∀ a, a < n → (lst n (f a)).length = m) {y : List Int} (hy : y ∈ csl n f n) : y.length = m := by
  unfold csl at hy
  obtain ⟨a, ha, rfl⟩ := List.mem_map.1 hy
  unfold fsts at ha
  rw [li_len]
  exact h a (List.mem_range.1 (List.mem_filter.1 ha).1)
theorem lists_law (N : Int) (v u : Value) (zs l : List Int) (w : World) (hv : Sl w v zs) (hu : Sl w u l) (hT : Tab w) (hz : zs.length * 8 ≤ 140737488355328) (hl8 : l.length * 8 ≤ 140737488355328) :
    Calls Tryd.prog 10 #[.agg #[.int .i64 N, v], u] w fun e w' => e = .returned (.bool true) ∧ Below w.heap.size w w' := by
  obtain ⟨v1, v2, v3, rfl⟩ := hv.isSlice
  obtain ⟨u1, u2, u3, rfl⟩ := hu.isSlice
  have at0 : ∀ W : World, Below w.heap.size w W → 0 < W.heap.size := fun W h => Nat.lt_of_lt_of_le hT.lt h.size
  have HU := hide (fun W (h : Below w.heap.size w W) => rsub_any N (.slice v1 v2 v3) (.slice u1 u2 u3) zs l W (hv.below h) (hu.below h))
  by_cases hc : (ufault N zs l).1 = 0
  · obtain ⟨n, e, rfl, hg, hl0, hsb, hu0⟩ := ufault_zero hc
    rw [hu0] at HU
    have hli := set_lst (show (lfault n l).1 = 0 by rw [hl0])
    have hu9 : ∀ W, Below w.heap.size w W → Sl W (.slice u1 u2 u3) (li (lst n (pset l))) := fun W h => by rw [← hli]; exact hu.below h
    have HR := hide (fun W x m (h : Below w.heap.size w W) (h1 : Sl W x zs) (h2 : Sl W m l) => lists_sl (at0 W h) (rgt_good n e x m zs l W h1 hg h2 (hT.below h) hl0 hsb))
    have HL := hide (fun W x m (h : Below w.heap.size w W) (h1 : Sl W x zs) (h2 : Sl W m l) => lists_sl (at0 W h) (lft_good n e x m zs l W h1 hg h2 (hT.below h) hl0 hsb))
    have HA := hide (fun W r (h : Below w.heap.size w W) (hX : BoxG W w.heap.size n (.slice v1 v2 v3)) (hL : Boxed W (w.heap.size + 1) 22 (.slice u1 u2 u3)) (hr : SlL W r (csl n (rgtq n zs (lst n (pset l))) n)) => lsas_good 69 #[.pointer (some ⟨w.heap.size, 0, none⟩), .pointer (some ⟨w.heap.size + 1, 0, none⟩)] r (csl n (rgtq n zs (lst n (pset l))) n) _ W hr (fun W => ent69 _ _ W) (fun W' hW => cl69_ok n e w.heap.size (w.heap.size + 1) (.slice v1 v2 v3) (.slice u1 u2 u3) zs (lst n (pset l)) W' hg (hv.below (bcat2 h hW)) (hu9 W' (bcat2 h hW)) (blk_below hX hW) (Boxed.below hL hW)))
    have HB := hide (fun W r (h : Below w.heap.size w W) (hX : BoxG W w.heap.size n (.slice v1 v2 v3)) (hL : Boxed W (w.heap.size + 1) 22 (.slice u1 u2 u3)) (hr : SlL W r (csl n (lftq n zs (lst n (pset l))) n)) => lsas_good 71 #[.pointer (some ⟨w.heap.size, 0, none⟩), .pointer (some ⟨w.heap.size + 1, 0, none⟩)] r (csl n (lftq n zs (lst n (pset l))) n) _ W hr (fun W => ent71 _ _ W) (fun W' hW => cl71_ok n e w.heap.size (w.heap.size + 1) (.slice v1 v2 v3) (.slice u1 u2 u3) zs (lst n (pset l)) W' hg (hv.below (bcat2 h hW)) (hu9 W' (bcat2 h hW)) (blk_below hX hW) (Boxed.below hL hW)))
    rw [show decide (csl n (rgtq n zs (lst n (pset l))) n = rcs n (fun a b => decide (tm n zs b (iv n zs e a) ∈ lst n (pset l))) n) = true from decide_eq_true ((rgt_parts hg hsb).csl_rcs fun a b ha hb => (rgt_iff hg ha hb).symm)] at HA
    rw [show decide (csl n (lftq n zs (lst n (pset l))) n = rcs n (fun a b => decide (tm n zs (iv n zs e a) b ∈ lst n (pset l))) n) = true from decide_eq_true ((lft_parts hg hsb).csl_rcs fun a b ha hb => (lft_iff hg ha hb).symm)] at HB
    have hlen : l.length = (lst n (pset l)).length := by
      have := congrArg List.length hli
      rw [li_len] at this
      exact this
    have hcr := (rgt_parts hg hsb).card (fun a ha => rgt_size hg (q := pset l) ha)
    have hcl := (lft_parts hg hsb).card (fun a ha => lft_size hg (q := pset l) ha)
    have hpos : 0 < (lst n (pset l)).length := List.length_pos_of_mem (mem_lst.2 ⟨hg.elt, (subT_iff.1 hsb).one⟩)
    refine lists_walk n v1 v2 v3 u1 u2 u3 zs l w hv hu hT hz hl8 0 0 _ _ HR HL HU HA HB (hide fun _ => ⟨fun y hy => ?_, ⟨?_, ?_⟩, ?_⟩)
    · rw [hlen]
      exact csl_lens (fun a ha => rgt_size hg ha) hy
    · rw [hlen, ← Int.natCast_mul, ← hcr]
    · have := hg.tab.le; omega
    · exact Nat.eq_of_mul_eq_mul_right hpos (hcr.symm.trans hcl)
  · have HR := hide (fun W x m (h : Below w.heap.size w W) (h1 : Sl W x zs) (h2 : Sl W m l) => lists_bad (at0 W h) (rgt_bad N x m zs l W h1 h2 (hT.below h) hc))
    have HL := hide (fun W x m (h : Below w.heap.size w W) (h1 : Sl W x zs) (h2 : Sl W m l) => lists_bad (at0 W h) (lft_bad N x m zs l W h1 h2 (hT.below h) hc))
    exact lists_walk N v1 v2 v3 u1 u2 u3 zs l w hv hu hT hz hl8 _ _ [] [] HR HL HU (hide fun W r h _ _ hr => lsas_nil 69 _ _ _ r W (at0 W h) hr hc) (hide fun W r h _ _ hr => lsas_nil 71 _ _ _ r W (at0 W h) hr hc) (hide fun h => absurd h hc)
end Go.Proofs.YtoiemlnmcfmakaaDoor
