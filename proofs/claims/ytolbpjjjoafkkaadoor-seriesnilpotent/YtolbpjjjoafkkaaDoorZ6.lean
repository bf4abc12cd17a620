/- Package sub's Centre at a group, the commutator of two things, what two lists have both. Condition: the library's table of places lies as its text lays it. The subgroup that the commutators of two sets make; the least subgroup that has a set and is, conjugated by each thing of another, the same. Condition: the library's table of places lies as its text lays it. The least subgroup that has a set and is, conjugated by each thing of another, the same; package sub's Closure. Condition: the library's table of places lies as its text lays it. cmp.Compare, slices.Compare at two lists of numbers, and slices.SortFunc of lists by it. What package sylow's All answers: at what is wrong, and at a group and a prime: the conjugates of one of Sylow's subgroups, none twice, sorted. Condition: the library's table of places lies as its text lays it. Package series' steps: from a set on what a function makes of the last one, as long as it is another one. Conditions: what the function answers, and that it comes to an end. Package series' derived and lower: the subgroups, from all on, that the commutators of the last one, or of it with all, make. Condition: the library's table of places lies as its text lays it. What package sylow's Core answers: at what is wrong, and at a group and a prime: what is in all conjugates of one of Sylow's subgroups. Condition: the library's table of places lies as its text lays it. What package sylow's Cauchy answers: the list of all things that make as many as p. Condition: the library's table of places lies as its text lays it. -/
import Derived.Test.YtolbpjjjoafkkaaDoorZ5
import Derived.Test.YtolbpjjjoafkkaaDoorZ3
import Derived.Test.YtolbpjjjoafkkaaDoorZ4
import Derived.Shelf.SlSortCmp.Whole1
import Derived.Shelf.Lay
import Derived.Ground.SlsfProg
import Derived.Laws.OwnMore
import Derived.Lib.SliceRun
import Derived.Maps.RangeWalk
import Derived.Maps.AppendAt
namespace Go.Proofs.YtolbpjjjoafkkaaDoor
open Go Go.RowKit

theorem call113c (a : Int) (x y : Value) (W : World) : Sem.run Tryd.prog (callFunc 115 (#[.int .i64 a] ++ #[x, y])) W = .ok (.enter 115 (#[.int .i64 a] ++ #[x, y])) W := by kernel_rfl
set_option maxRecDepth 100000 in
set_option maxHeartbeats 2000000 in
theorem cen1_ok (n : Nat) (v u lv : Value) (zs : List Int) (e a lb gb : Nat) (xs : List Nat) (w : World) (hG : GA w n v e u zs) (ha : a < n) (hl : Boxed w lb 22 lv) (hs : Sl w lv (li xs)) (hx : ∀ x, x ∈ xs → x < n) (hb : Box4 w gb n e v u) :
    Calls Tryd.prog 115 (#[.int .i64 a] ++ #[.pointer (some ⟨lb, 0, none⟩), .pointer (some ⟨gb, 0, none⟩)]) w fun y w' => y = .returned (.bool (xs.all fun x => decide (tm n zs a x = tm n zs x a))) ∧ Below w.heap.size w w' := by
  show Calls Tryd.prog 115 #[.int .i64 a, .pointer (some ⟨lb, 0, none⟩), .pointer (some ⟨gb, 0, none⟩)] w _
  obtain ⟨la, cap, pb, po, rfl, hr, hp, hq3, hq4⟩ := hs
  have hml : xs.length ≤ 9223372036854775807 := by rw [li_len] at hq3; unfold maxLen at hq4; omega
  have hlc := hl.cell
  rw [li_len] at *
  have HX := hide hx
  have HR := hide hr
  have HLL := hide (li_len xs)
  clear hq3 hq4 hx hr
  go_enter Tryd.func115, Tryd.ntmps115
  go_wp2
  clear hlc
  go_loopw [9] (fun i wr => ∃ k : Nat, k ≤ xs.length ∧ i = .int .i64 k ∧ (∀ t, (ht : t < xs.length) → t < k → tm n zs a xs[t] = tm n zs xs[t] a) ∧ Below w.heap.size w wr) (fun i _ => xs.length - (intOf i).toNat)
  case atStart => exact ⟨0, Nat.zero_le _, rfl, fun t _ ht => by omega, Below.refl _ _⟩
  case round =>
    obtain ⟨k, hk, rfl, hno, hB⟩ := hrel
    have HNO := hide hno
    clear hno
    by_cases hlt : k < xs.length
    · have hck := (HR.out.below hB hp).cell k (by rw [HLL.out]; exact hlt)
      rw [li_get hlt] at hck
      obtain rfl := HR.out.at_ (by rw [HLL.out]; omega)
      obtain ⟨x, hxe⟩ : ∃ x, xs[k] = x := ⟨_, rfl⟩
      have hxn : x < n := by rw [← hxe]; exact HX.out _ (List.getElem_mem hlt)
      rw [hxe] at hck
      have HXE := hide hxe
      clear hxe
      have hGr := hG.below hB
      have hbr := hb.below hB
      have HP := hide (fun W y z (h : Below wr.heap.size wr W) (hy : y < n) (hz : z < n) => prd_ok n v u zs e y z W hG.grp.tab (hGr.mul.below h) hy hz)
      have hS : ∀ W, Below wr.heap.size wr W → (Below wr.heap.size wr W ∧ W.cell? ⟨gb, 0, none⟩ = some (.int .i64 n) ∧ W.cell? ⟨gb, 1, none⟩ = some v ∧ W.cell? ⟨gb, 2, none⟩ = some (.int .i64 e) ∧ W.cell? ⟨gb, 3, none⟩ = some u) := fun W h => ⟨h, (hbr.below h).cells⟩
      have hS0 := hS _ (bdrew (Below.refl _ wr))
      by_cases heq : tm n zs a x = tm n zs x a
      · have heqi : ((tm n zs a x : Nat) : Int) = ((tm n zs x a : Nat) : Int) := by rw [heq]
        go_wp2_with fail
        go_region_held3 (fun W => Below wr.heap.size wr W ∧ W.cell? ⟨gb, 0, none⟩ = some (.int .i64 n) ∧ W.cell? ⟨gb, 1, none⟩ = some v ∧ W.cell? ⟨gb, 2, none⟩ = some (.int .i64 e) ∧ W.cell? ⟨gb, 3, none⟩ = some u)
          (first | exact hS0 | assumption | exact hS _ (bcat2 (And.left ‹_›) hl1))
          (first | (go_at_call 103; refine (HP.out _ _ _ (And.left ‹_›) (by assumption) (by assumption)).mono ?_; rintro e1 W1 ⟨rfl, hl1⟩))
        all_goals (
          have hB9 := And.left ‹Below wr.heap.size wr W1 ∧ _›
          go_wp2
          go_roundw
          case rel => exact ⟨k + 1, by omega, by go_num, fun t h1 h2 => by
            by_cases e9 : t = k
            · subst e9; rw [HXE.out]; exact heq
            · exact HNO.out t h1 (by omega), bcat hB hB9 hB.size⟩
          case measure => simp [intOf]; omega)
      · have heqi : ¬ ((tm n zs a x : Nat) : Int) = ((tm n zs x a : Nat) : Int) := by omega
        have HD := hide (show (xs.all fun x => decide (tm n zs a x = tm n zs x a)) = false by
          rw [List.all_eq_false]
          exact ⟨xs[k], List.getElem_mem hlt, by rw [HXE.out]; simpa using heq⟩)
        go_wp2_with fail
        go_region_held3 (fun W => Below wr.heap.size wr W ∧ W.cell? ⟨gb, 0, none⟩ = some (.int .i64 n) ∧ W.cell? ⟨gb, 1, none⟩ = some v ∧ W.cell? ⟨gb, 2, none⟩ = some (.int .i64 e) ∧ W.cell? ⟨gb, 3, none⟩ = some u)
          (first | exact hS0 | assumption | exact hS _ (bcat2 (And.left ‹_›) hl1))
          (first | (go_at_call 103; refine (HP.out _ _ _ (And.left ‹_›) (by assumption) (by assumption)).mono ?_; rintro e1 W1 ⟨rfl, hl1⟩))
        all_goals (
          have hB9 := And.left ‹Below wr.heap.size wr W1 ∧ _›
          go_wp2
          go_ret
          exact ⟨by rw [HD.out]; rfl, bcat hB hB9 hB.size⟩)
    · have HD := hide (show (xs.all fun x => decide (tm n zs a x = tm n zs x a)) = true by
        rw [List.all_eq_true]
        intro z hz
        obtain ⟨t, ht, rfl⟩ := List.mem_iff_getElem.1 hz
        simpa using HNO.out t ht (by omega))
      go_wp2
      go_ret
      exact ⟨by rw [HD.out]; rfl, hB⟩
set_option maxRecDepth 100000 in
set_option maxHeartbeats 2000000 in
theorem central_ok (n : Nat) (v u : Value) (zs : List Int) (e : Nat) (q : Nat → Bool) (w : World) (hG : GA w n v e u zs) (hT : Tab w) :
    Calls Tryd.prog 87 #[.agg #[.int .i64 n, v, .int .i64 e, u], .int .u64 (bs q n)] w fun x w' => x = .returned (.int .u64 (bs (cenq n zs q) n)) ∧ Below w.heap.size w w' := by
  have hB0 : Below w.heap.size w (w.alloc (.cells #[.int .i64 n, v, .int .i64 e, u] 64)) := balloc w _
  have hX0 := Box4.new w n e v u
  obtain ⟨w0, hw0⟩ : ∃ w0, w0 = w.alloc (.cells #[.int .i64 n, v, .int .i64 e, u] 64) := ⟨_, rfl⟩
  rw [← hw0] at hB0 hX0
  go_enter Tryd.func87, Tryd.ntmps87
  go_wp2_with fail
  rw [← hw0]
  clear hw0
  refine (list_ok n q w0 hG.le (hT.below hB0)).mono ?_
  rintro x w1 ⟨r, rfl, hr, hb1⟩
  obtain ⟨ra, rl, rc, rfl⟩ : ∃ a l c, r = .slice a l c := by
    obtain ⟨a, cap, _, _, rfl, _⟩ := hr
    exact ⟨a, _, cap, rfl⟩
  have hb2 := bcat2 hb1 (balloc w1 (.cells #[.slice ra rl rc] 22))
  have hL2 := Boxed.new w1 22 (.slice ra rl rc)
  have hX2 := hX0.below hb2
  have hG2 := hG.below (bcat2 hB0 hb2)
  have hr2 := (hr.below (balloc w1 (.cells #[.slice ra rl rc] 22))).sl
  have hB2 := bcat2 hB0 hb2
  obtain ⟨c0, c1, c2, c3⟩ := hX2.cells
  go_wp2_with fail
  generalize w1.alloc (.cells #[.slice ra rl rc] 22) = w2 at *
  clear c0 c1 c2 c3
  refine (those_ok n 115 v u e #[.pointer (some ⟨w1.heap.size, 0, none⟩), .pointer (some ⟨w.heap.size, 0, none⟩)] (cenq n zs q) w2 hG.le (fun a W => call113c a _ _ W) (fun W a hW ha => cen1_ok n v u (.slice ra rl rc) zs e a w1.heap.size w.heap.size (lst n q) W (hG2.below hW) ha (Boxed.below hL2 hW) (hr2.below hW) (fun x hx => (mem_lst.1 hx).1) (hX2.below hW))).mono ?_
  rintro x w3 ⟨rfl, hb3⟩
  go_wp2
  go_ret
  exact ⟨rfl, bcat2 hB2 hb3⟩
set_option maxRecDepth 100000 in
set_option maxHeartbeats 4000000 in
theorem centre_good (n e : Nat) (v : Value) (zs : List Int) (w : World) (hv : Sl w v zs) (hg : IsGrp n zs e) (hT : Tab w) :
    Calls Tryd.prog 52 #[.agg #[.int .i64 n, v]] w fun x w' => ∃ r, x = .returned (.tuple #[r, .agg #[.int .i64 0, .int .i64 0]]) ∧ SlF w.heap.size w' r (li (lst n (cenq n zs (fun _ => true)))) ∧ Below w.heap.size w w' := by
  obtain ⟨va, vl, vc, rfl⟩ := hv.isSlice
  obtain ⟨w0, BG⟩ := Beg.new w n (.slice va vl vc)
  have hv0 := hv.below BG.bel
  obtain ⟨c0, c1, _, _⟩ := BG.box.two
  have HCK := hide (opened_good n e (.slice va vl vc) zs w0 hv0 hg)
  have HZ0 := hide (show w.heap.size + 2 ≤ w0.heap.size by rw [BG.eq]; simp)
  rw [BG.eq] at c0 c1
  go_enter Tryd.func52, Tryd.ntmps52
  go_wp2_with fail
  rw [← BG.eq]
  refine HCK.out.mono ?_
  rintro x w1 ⟨iv9, rfl, hSI, hb1⟩
  obtain ⟨ia, il, ic, rfl⟩ := hSI.sl.isSlice
  clear c0 c1 HCK
  obtain ⟨w2, hw2⟩ : ∃ w2, w2 = (w1.alloc (.cells #[.int .i64 n, (.slice va vl vc), .int .i64 e, (.slice ia il ic)] 64)).alloc (.cells #[.int .i64 0, .int .i64 0] 27) := ⟨_, rfl⟩
  have hb2 : Below w1.heap.size w1 w2 := by rw [hw2]; exact (balloc w1 _).alloc (by simp) _
  have hB1 : Below w0.heap.size w0 w2 := bcat2 hb1 hb2
  have hF1 : Blk w2 (w1.heap.size + 1) 27 [.int .i64 0, .int .i64 0] := by
    rw [hw2]
    have := blk0 (w := w1.alloc (.cells #[.int .i64 n, (.slice va vl vc), .int .i64 e, (.slice ia il ic)] 64)) (T := 27) (.int .i64 0) (.int .i64 0)
    rwa [World.size_alloc] at this
  have hH2 : Blk w2 w1.heap.size 64 [.int .i64 n, (.slice va vl vc), .int .i64 e, (.slice ia il ic)] := by
    rw [hw2]; exact (blk4 _ _ _ _).alloc _
  have hBw2 := bcat BG.bel hB1 BG.bel.size
  have hR2 := blk_below BG.res hB1
  have hT2 := hT.below hBw2
  have hGA2 : GA w2 n (.slice va vl vc) e (.slice ia il ic) zs := ⟨hg, hv.below hBw2, (hSI.below hb2).sl⟩
  obtain ⟨t0, t1, _, _⟩ := hF1.two
  obtain ⟨_, h0, h1, h2, h3, _⟩ := Four.mk' hH2
  have hx2 := blk_below BG.box hB1
  have HZ1 := hide (Nat.le_trans HZ0.out hb1.size)
  have HZ2 := hide hb2.size
  rw [hw2] at t0 t1 h0 h1 h2 h3
  go_wp2_with fail
  rw [← hw2]
  rw [← hw2] at t0 t1 h0 h1 h2 h3
  clear hw2
  have hS : ∀ W, Below w2.heap.size w2 W → (Below w2.heap.size w2 W ∧ W.cell? ⟨w1.heap.size, 0, none⟩ = some (.int .i64 n) ∧ W.cell? ⟨w1.heap.size, 1, none⟩ = some (.slice va vl vc) ∧ W.cell? ⟨w1.heap.size, 2, none⟩ = some (.int .i64 e) ∧ W.cell? ⟨w1.heap.size, 3, none⟩ = some (.slice ia il ic) ∧ W.cell? ⟨w.heap.size + 1, 0, none⟩ = some (.int .i64 0) ∧ W.cell? ⟨w.heap.size + 1, 1, none⟩ = some (.int .i64 0) ∧ W.frozen? ⟨w.heap.size + 1, 0, none⟩ = false ∧ W.frozen? ⟨w.heap.size + 1, 1, none⟩ = false ∧ W.setCell ⟨w.heap.size + 1, 0, none⟩ (.int .i64 0) = W ∧ W.setCell ⟨w.heap.size + 1, 1, none⟩ (.int .i64 0) = W) := fun W h => by
    obtain ⟨_, y0, y1, fy0, fy1, s0, s1⟩ := Two.mk' (blk_below hR2 h)
    exact ⟨h, below_cell h h0, below_cell h h1, below_cell h h2, below_cell h h3, y0, y1, fy0, fy1, s0, s1⟩
  have hS0 := hS _ (bdrew (Below.refl _ w2))
  have HA := hide (fun W => all_ok n (.slice va vl vc) (.slice ia il ic) e W hg.tab.le)
  have HC := hide (fun W (h : Below w2.heap.size w2 W) => central_ok n (.slice va vl vc) (.slice ia il ic) zs e (fun _ => true) W (hGA2.below h) (hT2.below h))
  have HL := hide (fun W (h : Below w2.heap.size w2 W) => list_at n w.heap.size (cenq n zs fun _ => true) W hg.tab.le (hT2.below h) (Nat.le_trans hBw2.size h.size))
  clear h0 h1 h2 h3 t0 t1
  generalize bs (cenq n zs fun _ => true) n = C at *
  generalize bs (fun _ => true) n = A at *
  go_region_held3 (fun W => Below w2.heap.size w2 W ∧ W.cell? ⟨w1.heap.size, 0, none⟩ = some (.int .i64 n) ∧ W.cell? ⟨w1.heap.size, 1, none⟩ = some (.slice va vl vc) ∧ W.cell? ⟨w1.heap.size, 2, none⟩ = some (.int .i64 e) ∧ W.cell? ⟨w1.heap.size, 3, none⟩ = some (.slice ia il ic) ∧ W.cell? ⟨w.heap.size + 1, 0, none⟩ = some (.int .i64 0) ∧ W.cell? ⟨w.heap.size + 1, 1, none⟩ = some (.int .i64 0) ∧ W.frozen? ⟨w.heap.size + 1, 0, none⟩ = false ∧ W.frozen? ⟨w.heap.size + 1, 1, none⟩ = false ∧ W.setCell ⟨w.heap.size + 1, 0, none⟩ (.int .i64 0) = W ∧ W.setCell ⟨w.heap.size + 1, 1, none⟩ (.int .i64 0) = W)
    (first | exact hS0 | assumption | exact hS _ (bcat2 (And.left ‹_›) hl1))
    (first
      | (go_at_call 60; refine (HA.out _).mono ?_; rintro e1 W1 ⟨rfl, hl1⟩)
      | (go_at_call 87; refine (HC.out _ (And.left ‹_›)).mono ?_; rintro e2 W2 ⟨rfl, hl1⟩)
      | (go_at_call 56; refine (HL.out _ (And.left ‹_›)).mono ?_; rintro e3 W3 ⟨r, rfl, hrr, hl1⟩))
  all_goals (
    obtain ⟨hB9, _, _, _, _, y0, y1, _⟩ := ‹Below w2.heap.size w2 W3 ∧ _›
    have hBz := bcat hBw2 hB9 hBw2.size
    clear hS hS0
    go_wp2
    exact bodyPost_ret (v := .tuple #[r, .agg #[.int .i64 0, .int .i64 0]]) (by simp [results, Tryd.results52, go_sem, y0, y1]) rfl ⟨_, rfl, hrr, hBz⟩)
set_option maxRecDepth 100000 in
set_option maxHeartbeats 2000000 in
theorem cmt_ok (n : Nat) (v u : Value) (zs : List Int) (e a b : Nat) (w : World) (hG : GA w n v e u zs) (ha : a < n) (hb : b < n) :
    Calls Tryd.prog 110 #[.agg #[.int .i64 n, v, .int .i64 e, u], .int .i64 a, .int .i64 b] w fun y w' => y = .returned (.int .i64 (Fin.cm (tm n zs) (iv n zs e) a b)) ∧ Below w.heap.size w w' := by
  obtain ⟨hi, hi1, hi2, _⟩ := iv_spec hG.grp ha
  obtain ⟨hj, _, _, _⟩ := iv_spec hG.grp hb
  have hct : Fin.cj (tm n zs) (iv n zs e) a b < n := List.mem_range.1 (Fin.cj_mem (grp_fg hG.grp) (grp_iv hG.grp) (List.mem_range.2 ha) (List.mem_range.2 hb))
  have heq : Fin.cm (tm n zs) (iv n zs e) a b = tm n zs (iv n zs e a) (Fin.cj (tm n zs) (iv n zs e) a b) := by
    unfold Fin.cm Fin.cj
    rw [hG.grp.ass _ _ _ hi hj (tm_lt hG.grp.tab ha hb)]
  rw [heq]
  have hB0 : Below w.heap.size w (w.alloc (.cells #[.int .i64 n, v, .int .i64 e, u] 64)) := balloc w _
  have N0 := Box4.new w n e v u
  have hG0 := hG.below hB0
  obtain ⟨w0, hw0⟩ : ∃ w0, w0 = w.alloc (.cells #[.int .i64 n, v, .int .i64 e, u] 64) := ⟨_, rfl⟩
  rw [← hw0] at hB0 N0 hG0
  have HP1 := hide (fun W (h : Below w0.heap.size w0 W) => conj_ok n v u zs e a b W (hG0.below h) ha hb)
  have HP2 := hide (fun W (h : Below w0.heap.size w0 W) => prd_ok n v u zs e (iv n zs e a) (Fin.cj (tm n zs) (iv n zs e) a b) W hG.grp.tab (hG0.mul.below h) hi hct)
  obtain ⟨y, cap, pb, po, rfl, hr, hp, hq3, hq4⟩ := hG0.inv
  rw [ivs_len] at hq3
  have hiv := hr.cell a (by rw [ivs_len]; exact ha)
  rw [ivs_at ha] at hiv
  obtain rfl := hr.at_ (by rw [ivs_len]; omega)
  rw [ivs_len] at *
  clear hr hG hG0 hi1 hi2 heq
  generalize tm n zs (iv n zs e a) (Fin.cj (tm n zs) (iv n zs e) a b) = r at *
  generalize Fin.cj (tm n zs) (iv n zs e) a b = t at *
  generalize iv n zs e a = i at *
  have hai : (a : Int) < (n : Int) := by omega
  have hS : ∀ W, Below w0.heap.size w0 W → (Below w0.heap.size w0 W ∧ W.cell? ⟨w.heap.size, 0, none⟩ = some (.int .i64 n) ∧ W.cell? ⟨w.heap.size, 1, none⟩ = some v ∧ W.cell? ⟨w.heap.size, 2, none⟩ = some (.int .i64 e) ∧ W.cell? ⟨w.heap.size, 3, none⟩ = some (.slice (some ⟨pb, po, none⟩) n cap) ∧ W.cell? ⟨pb, po + a, none⟩ = some (.int .i64 i)) := fun W h => by
    obtain ⟨c0, c1, c2, c3⟩ := (N0.below h).cells
    exact ⟨h, c0, c1, c2, c3, below_cell h hiv⟩
  have hS0 := hS _ (bdrew (Below.refl _ w0))
  clear hiv N0
  go_enter Tryd.func110, Tryd.ntmps110
  go_wp2_with fail
  rw [← hw0]
  clear hw0
  go_region_held3 (fun W => Below w0.heap.size w0 W ∧ W.cell? ⟨w.heap.size, 0, none⟩ = some (.int .i64 n) ∧ W.cell? ⟨w.heap.size, 1, none⟩ = some v ∧ W.cell? ⟨w.heap.size, 2, none⟩ = some (.int .i64 e) ∧ W.cell? ⟨w.heap.size, 3, none⟩ = some (.slice (some ⟨pb, po, none⟩) n cap) ∧ W.cell? ⟨pb, po + a, none⟩ = some (.int .i64 i))
    (first | exact hS0 | assumption | exact hS _ (bcat2 (And.left ‹_›) hl1))
    (first
      | (go_at_call 117; refine (HP1.out _ (And.left ‹_›)).mono ?_; rintro e1 W1 ⟨rfl, hl1⟩)
      | (go_at_call 103; refine (HP2.out _ (And.left ‹_›)).mono ?_; rintro e2 W2 ⟨rfl, hl1⟩))
  all_goals (
    have hB9 := And.left ‹Below w0.heap.size w0 W2 ∧ _›
    go_wp2
    go_ret
    exact ⟨rfl, bcat hB0 hB9 hB0.size⟩)
set_option maxRecDepth 100000 in
set_option maxHeartbeats 2000000 in
theorem both_ok (v1 v2 : Value) (zs ys : List Int) (w : World) (h1 : Sl w v1 zs) (h2 : Sl w v2 ys) (hsm : zs.length ≤ 60) :
    Calls Tryd.prog 53 #[v1, v2] w fun x w' => ∃ r, x = .returned r ∧ Row w' w.heap.size r (zs.filter fun a => decide (a ∈ ys)) ∧ Below w.heap.size w w' := by
  obtain ⟨i0, hi, hz0, hz1, hz2⟩ := info_parts info3b
  obtain ⟨x, cap, pb, po, rfl, hr, hp, hq3, hq4⟩ := h1
  have HR := hide hr
  have HH := hide (fun a W (h : Below w.heap.size w W) => rhas_ok v2 ys a W (h2.below h))
  clear hr
  go_enter Tryd.func53, Tryd.ntmps53
  go_wp2
  go_loopw [5, 6] (fun r i wr => ∃ k : Nat, k ≤ zs.length ∧ i = .int .i64 k ∧ Row wr w.heap.size r ((zs.take k).filter fun a => decide (a ∈ ys)) ∧ Below w.heap.size w wr) (fun _ i _ => zs.length - (intOf i).toNat)
  case atStart => exact ⟨0, Nat.zero_le _, rfl, nil_row _ _, Below.refl _ _⟩
  case round =>
    obtain ⟨k, hk, rfl, hrow, hB⟩ := hrel
    obtain ⟨r, rfl⟩ : ∃ r, r = u5 := ⟨_, rfl⟩
    have hBs := hB.size
    by_cases hlt : k < zs.length
    · obtain rfl := HR.out.at_ (by omega)
      have hc := (HR.out.below hB hp).cell k hlt
      have hsn := take_snoc' hlt
      obtain ⟨c, hce⟩ : ∃ c, zs[k]?.getD 0 = c := ⟨_, rfl⟩
      rw [hce] at hc hsn
      clear hce
      have HSN := hide hsn
      clear hsn
      have HC := hide (HH.out c wr hB)
      by_cases hca : c ∈ ys
      · rw [decide_eq_true hca] at HC
        have HE := hide (show (zs.take (k + 1)).filter (fun a => decide (a ∈ ys)) = (zs.take k).filter (fun a => decide (a ∈ ys)) ++ [c] by rw [HSN.out, List.filter_append]; simp [hca])
        have HLL := hide (show ((zs.take k).filter fun a => decide (a ∈ ys)).length ≤ 60 by
          refine Nat.le_trans (List.length_filter_le _ _) ?_
          rw [List.length_take]; omega)
        have hown : wr.ownsRow w.heap.size 3 1 r ((zs.take k).filter fun a => decide (a ∈ ys)).length (((zs.take k).filter fun a => decide (a ∈ ys)).map (Value.int .i64)) := hrow
        clear hrow
        generalize (zs.take k).filter (fun a => decide (a ∈ ys)) = xs at *
        go_wp2_with fail
        refine HC.out.mono ?_
        rintro e1 w1 ⟨rfl, rfl⟩
        go_wp2_with (first
          | (at_builtin; refine wpList_append_own _ rfl _ _ 22 rfl w.heap.size 3 i0 (.int .i64 0) 1 8 under22b hi hz0 hz1 hz2 rfl (by decide) _ _ _ rfl (World.ownsRow.alloc hown _) ⟨w1.heap.size, 0, none⟩ 1 1 [.int .i64 c] rfl rfl ?c1 ?c2 ?c3 ?c4 ?c5 ?_))
        case c1 => exact cell_one_new _ _ _
        case c2 => simp [Value.oneCell']
        case c3 => unfold maxLen; have := HLL.out; omega
        case c4 => have := HLL.out; omega
        case c5 => simp; omega
        intro v' w2 hown' hgrow _
        obtain ⟨g', cap', rfl⟩ := ownsRow_succ hown'
        have hB2 : Below w.heap.size w w2 := (hB.alloc hBs _).grown hgrow (by simp; omega) (fun t e => owns_ge hown t e)
        have hrow2 : Row w2 w.heap.size (.slice (some ⟨g', 0, none⟩) (xs.length + 1) cap') ((zs.take (k + 1)).filter fun a => decide (a ∈ ys)) := by
          unfold Row
          rw [HE.out]
          simpa using hown'
        clear hown' hgrow hown
        go_wp2
        go_roundw
        case rel => exact ⟨k + 1, by omega, by go_num, hrow2, hB2⟩
        case measure => simp [intOf]; omega
      · rw [decide_eq_false hca] at HC
        have HE := hide (show (zs.take (k + 1)).filter (fun a => decide (a ∈ ys)) = (zs.take k).filter (fun a => decide (a ∈ ys)) by rw [HSN.out, List.filter_append]; simp [hca])
        go_wp2_with fail
        refine HC.out.mono ?_
        rintro e1 w1 ⟨rfl, rfl⟩
        go_wp2
        go_roundw
        case rel => exact ⟨k + 1, by omega, by go_num, by rw [HE.out]; exact hrow, hB⟩
        case measure => simp [intOf]; omega
    · have hkk : k = zs.length := by omega
      subst hkk
      rw [List.take_length] at hrow
      go_wp2
      go_ret
      exact ⟨_, rfl, hrow, hB⟩
end Go.Proofs.YtolbpjjjoafkkaaDoor

namespace Go.Proofs.YtolbpjjjoafkkaaDoor
open Go Go.RowKit

set_option maxRecDepth 100000 in
set_option maxHeartbeats 4000000 in
theorem cmms_ok (n : Nat) (v u : Value) (zs : List Int) (e : Nat) (q r c : Nat → Bool) (w : World) (hG : GA w n v e u zs) (hT : Tab w) (hc : ∀ a, a < n → (c a = true ↔ Mkd n zs e (cmq n zs e (lst n q) (lst n r)) a)) :
    Calls Tryd.prog 106 #[.agg #[.int .i64 n, v, .int .i64 e, u], .int .u64 (bs q n), .int .u64 (bs r n)] w fun x w' => x = .returned (.int .u64 (bs c n)) ∧ Below w.heap.size w w' := by
  have hg := hG.grp
  have hn := hG.le
  have hB0 : Below w.heap.size w (w.alloc (.cells #[.int .i64 n, v, .int .i64 e, u] 64)) := balloc w _
  have hX0 : Blk (w.alloc (.cells #[.int .i64 n, v, .int .i64 e, u] 64)) w.heap.size 64 [.int .i64 n, v, .int .i64 e, u] := blk4 _ _ _ _
  have HLS := hide (fun W (p : Nat → Bool) (h : Below w.heap.size w W) => list_ok n p W hn (hT.below h))
  have HMA := hide (fun W (h : Below w.heap.size w W) => made_ok n v u zs e _ c W (hG.below h) (hT.below h) hc)
  have HM0 := hide (fun x (h : x ∈ lst n q) => (mem_lst.1 h).1)
  have HM1 := hide (fun x (h : x ∈ lst n r) => (mem_lst.1 h).1)
  have hl0 := Nat.le_trans (lst_len n q) hn
  have hl1 := Nat.le_trans (lst_len n r) hn
  have HL0 := hide (li_len (lst n q))
  have HL1 := hide (li_len (lst n r))
  have HLQ := hide (fun W (h : Below w.heap.size w W) => HLS.out W q h)
  have HLR := hide (fun W (h : Below w.heap.size w W) => HLS.out W r h)
  clear hc HLS
  generalize lst n q = xs at *
  generalize lst n r = ys at *
  generalize bs q n = Q at *
  generalize bs r n = R at *
  go_enter Tryd.func106, Tryd.ntmps106
  go_wp2_with fail
  generalize w.alloc (.cells #[.int .i64 n, v, .int .i64 e, u] 64) = w0 at *
  refine (HLQ.out _ hB0).mono ?_
  rintro x w1 ⟨rv, rfl, hrv, hb1⟩
  obtain ⟨a0, cap0, pb0, po0, rfl, hr0, hp0, hq0, hm0, _⟩ := hrv
  have hB1 := bcat2 hB0 hb1
  have hX1 := blk_below hX0 hb1
  rw [HL0.out] at hq0 ⊢
  have HR0 := hide hr0
  clear hr0 hX0 hB0 HLQ hm0
  go_wp2_with fail
  go_loopw [7, 15] (fun s i wr => ∃ k : Nat, k ≤ xs.length ∧ i = .int .i64 k ∧ s = .int .u64 (bs (cmq n zs e (xs.take k) ys) n) ∧ Below w1.heap.size w1 wr) (fun _ i _ => xs.length - (intOf i).toNat)
  case atStart => exact ⟨0, Nat.zero_le _, rfl, by rw [List.take_zero, show bs (cmq n zs e [] ys) n = 0 from bs_none n]; rfl, Below.refl _ _⟩
  case round =>
    obtain ⟨k, hk, rfl, rfl, hB⟩ := hrel
    by_cases hlt : k < xs.length
    · have hck := (HR0.out.below hB hp0).cell k (by rw [HL0.out]; exact hlt)
      rw [li_get hlt] at hck
      obtain rfl := HR0.out.at_ (by rw [HL0.out]; omega)
      obtain ⟨x, hxe⟩ : ∃ x, xs[k] = x := ⟨_, rfl⟩
      have hxn : x < n := by rw [← hxe]; exact HM0.out _ (List.getElem_mem hlt)
      have hsn : xs.take (k + 1) = xs.take k ++ [x] := by rw [List.take_succ_eq_append_getElem hlt, hxe]
      rw [hxe] at hck
      have HSN := hide hsn
      clear hxe hsn
      go_wp2_with fail
      clear hck
      refine (HLR.out _ (bcat2 hB1 hB)).mono ?_
      rintro x9 w3 ⟨rv, rfl, hrv, hb3⟩
      obtain ⟨a1, cap1, pb1, po1, rfl, hr1, hp1, hq1, hm1, _⟩ := hrv
      have hB3 := bcat2 hB hb3
      rw [HL1.out] at hq1 ⊢
      have HR1 := hide hr1
      clear hr1 hm1
      go_wp2_with fail
      go_loopw [7, 22] (fun s i wr => ∃ j : Nat, j ≤ ys.length ∧ i = .int .i64 j ∧ s = .int .u64 (bs (fun y => cmq n zs e (xs.take k) ys y || (ys.take j).any fun b => decide (Fin.cm (tm n zs) (iv n zs e) x b = y)) n) ∧ Below w3.heap.size w3 wr) (fun _ i _ => ys.length - (intOf i).toNat)
      case atStart => exact ⟨0, Nat.zero_le _, rfl, by simp, Below.refl _ _⟩
      case round =>
        obtain ⟨j, hj, rfl, rfl, hB'⟩ := hrel
        clear hB
        have hBn := bcat2 hB3 hB'
        by_cases hltj : j < ys.length
        · have hcj := (HR1.out.below hB' hp1).cell j (by rw [HL1.out]; exact hltj)
          rw [li_get hltj] at hcj
          obtain rfl := HR1.out.at_ (by rw [HL1.out]; omega)
          obtain ⟨y, hye⟩ : ∃ y, ys[j] = y := ⟨_, rfl⟩
          have hyn : y < n := by rw [← hye]; exact HM1.out _ (List.getElem_mem hltj)
          have hsn : ys.take (j + 1) = ys.take j ++ [y] := by rw [List.take_succ_eq_append_getElem hltj, hye]
          rw [hye] at hcj
          have hGr := hG.below (bcat2 hB1 hBn)
          have hct : Fin.cm (tm n zs) (iv n zs e) x y < n := List.mem_range.1 (Fin.cm_mem (grp_fg hg) (grp_iv hg) (List.mem_range.2 hxn) (List.mem_range.2 hyn))
          have hor := bs_put (n := n) (t := Fin.cm (tm n zs) (iv n zs e) x y) (p := fun z => cmq n zs e (xs.take k) ys z || (ys.take j).any fun b => decide (Fin.cm (tm n zs) (iv n zs e) x b = z)) (q := fun z => cmq n zs e (xs.take k) ys z || (ys.take (j + 1)).any fun b => decide (Fin.cm (tm n zs) (iv n zs e) x b = z)) hn (fun z => by
            rw [hsn, List.any_append]
            simp only [List.any_cons, List.any_nil, Bool.or_false, Bool.or_assoc]
            congr 2
            rw [Bool.eq_iff_iff, decide_eq_true_eq, decide_eq_true_eq]
            exact eq_comm)
          have HCM := hide (cmt_ok n _ _ zs e x y wr hGr hxn hyn)
          have HOF := hide (fun W b (h : W.cell? ⟨b, 0, none⟩ = some (.int .i64 (Fin.cm (tm n zs) (iv n zs e) x y))) => of_one n b (Fin.cm (tm n zs) (iv n zs e) x y) W hn hct h)
          obtain ⟨_, g0, g1, g2, g3, _⟩ := Four.mk' (blk_below hX1 hBn)
          generalize Fin.cm (tm n zs) (iv n zs e) x y = t at *
          generalize bs (fun z => decide (z = t)) n = T9 at *
          clear hsn hye
          go_wp2_with fail
          refine HCM.out.mono ?_
          rintro x9 w7 ⟨rfl, hb7⟩
          have hB8 := bcat2 hB' (bcat2 hb7 (balloc w7 (.cells #[.int .i64 t] 3)))
          clear g0 g1 g2 g3
          go_wp2_with fail
          refine (HOF.out _ _ (cell1 _ _ _)).mono ?_
          rintro x9 w8 ⟨rfl, rfl⟩
          go_wp2
          go_roundw
          case rel => exact ⟨j + 1, by omega, by go_num, rfl, hB8⟩
          case measure => simp [intOf]; omega
        · have hjn : j = ys.length := by omega
          subst hjn
          have HE := hide (show bs (fun y => cmq n zs e (xs.take k) ys y || (ys.take ys.length).any fun b => decide (Fin.cm (tm n zs) (iv n zs e) x b = y)) n = bs (cmq n zs e (xs.take (k + 1)) ys) n from bs_ext fun y _ => by
            rw [List.take_length, HSN.out]
            simp [cmq])
          rw [HE.out]
          go_wp2
          go_roundw
          case rel => exact ⟨k + 1, by omega, by go_num, rfl, hBn⟩
          case measure => simp [intOf]; omega
    · have hkn : k = xs.length := by omega
      subst hkn
      rw [List.take_length]
      obtain ⟨_, g0, g1, g2, g3, _⟩ := Four.mk' (blk_below hX1 hB)
      go_wp2_with fail
      refine (HMA.out _ (bcat2 hB1 hB)).mono ?_
      rintro x9 w8 ⟨rfl, hb8⟩
      go_wp2
      go_ret
      exact ⟨rfl, bcat2 (bcat2 hB1 hB) hb8⟩
end Go.Proofs.YtolbpjjjoafkkaaDoor

namespace Go.Proofs.YtolbpjjjoafkkaaDoor
open Go Go.RowKit

/-- The things of a set, conjugated by the things of a list. -/
def clx (n : Nat) (zs : List Int) (e : Nat) (q : Nat → Bool) (xs : List Nat) (y : Nat) : Bool := xs.any fun a => cjq n zs e q a y
set_option maxRecDepth 100000 in
set_option maxHeartbeats 4000000 in
theorem kclo_ok (n : Nat) (v u : Value) (zs : List Int) (e : Nat) (q r c : Nat → Bool) (w : World) (hG : GA w n v e u zs) (hT : Tab w) (hc : ∀ a, a < n → (c a = true ↔ Mkd n zs e (clx n zs e q (lst n r)) a)) :
    Calls Tryd.prog 72 #[.agg #[.int .i64 n, v, .int .i64 e, u], .int .u64 (bs q n), .int .u64 (bs r n)] w fun x w' => x = .returned (.int .u64 (bs c n)) ∧ Below w.heap.size w w' := by
  have hg := hG.grp
  have hn := hG.le
  have hB0 : Below w.heap.size w (w.alloc (.cells #[.int .i64 n, v, .int .i64 e, u] 64)) := balloc w _
  have hX0 : Blk (w.alloc (.cells #[.int .i64 n, v, .int .i64 e, u] 64)) w.heap.size 64 [.int .i64 n, v, .int .i64 e, u] := blk4 _ _ _ _
  have HLQ := hide (fun W (h : Below w.heap.size w W) => list_ok n r W hn (hT.below h))
  have HMA := hide (fun W (h : Below w.heap.size w W) => made_ok n v u zs e _ c W (hG.below h) (hT.below h) hc)
  have HM0 := hide (fun x (h : x ∈ lst n r) => (mem_lst.1 h).1)
  have hl0 := Nat.le_trans (lst_len n r) hn
  have HL0 := hide (li_len (lst n r))
  clear hc
  generalize lst n r = xs at *
  generalize bs r n = R at *
  go_enter Tryd.func72, Tryd.ntmps72
  go_wp2_with fail
  generalize w.alloc (.cells #[.int .i64 n, v, .int .i64 e, u] 64) = w0 at *
  refine (HLQ.out _ hB0).mono ?_
  rintro x w1 ⟨rv, rfl, hrv, hb1⟩
  obtain ⟨a0, cap0, pb0, po0, rfl, hr0, hp0, hq0, hm0, _⟩ := hrv
  have hB1 := bcat2 hB0 hb1
  have hX1 := blk_below hX0 hb1
  rw [HL0.out] at hq0 ⊢
  have HR0 := hide hr0
  clear hr0 hX0 hB0 HLQ hm0
  go_wp2_with fail
  go_loopw [7, 13] (fun s i wr => ∃ k : Nat, k ≤ xs.length ∧ i = .int .i64 k ∧ s = .int .u64 (bs (clx n zs e q (xs.take k)) n) ∧ Below w1.heap.size w1 wr) (fun _ i _ => xs.length - (intOf i).toNat)
  case atStart => exact ⟨0, Nat.zero_le _, rfl, by rw [List.take_zero, show bs (clx n zs e q []) n = 0 from bs_none n]; rfl, Below.refl _ _⟩
  case round =>
    obtain ⟨k, hk, rfl, rfl, hB⟩ := hrel
    by_cases hlt : k < xs.length
    · have hck := (HR0.out.below hB hp0).cell k (by rw [HL0.out]; exact hlt)
      rw [li_get hlt] at hck
      obtain rfl := HR0.out.at_ (by rw [HL0.out]; omega)
      obtain ⟨x, hxe⟩ : ∃ x, xs[k] = x := ⟨_, rfl⟩
      have hxn : x < n := by rw [← hxe]; exact HM0.out _ (List.getElem_mem hlt)
      have hsn : xs.take (k + 1) = xs.take k ++ [x] := by rw [List.take_succ_eq_append_getElem hlt, hxe]
      rw [hxe] at hck
      have hor : bits BinOp.or IntKind.u64 (bs (clx n zs e q (xs.take k)) n : Int) (bs (cjq n zs e q x) n : Int) = (bs (clx n zs e q (xs.take (k + 1))) n : Int) := by
        rw [or_bs _ _ hn, hsn]
        congr 2
        funext y
        simp [clx]
      have HCJ := hide (fun W (h : Below wr.heap.size wr W) => conjd_ok n v u zs e x q W (hG.below (bcat2 (bcat2 hB1 hB) h)) (hT.below (bcat2 (bcat2 hB1 hB) h)) hxn)
      obtain ⟨_, g0, g1, g2, g3, _⟩ := Four.mk' (blk_below hX1 hB)
      clear hxe hsn
      generalize bs (cjq n zs e q x) n = C9 at *
      go_wp2_with fail
      clear hck g0 g1 g2 g3
      refine (HCJ.out _ (Below.refl _ _)).mono ?_
      rintro x9 w3 ⟨rfl, hb3⟩
      go_wp2
      go_roundw
      case rel => exact ⟨k + 1, by omega, by go_num, rfl, bcat2 hB hb3⟩
      case measure => simp [intOf]; omega
    · have hkn : k = xs.length := by omega
      subst hkn
      rw [List.take_length]
      obtain ⟨_, g0, g1, g2, g3, _⟩ := Four.mk' (blk_below hX1 hB)
      go_wp2_with fail
      refine (HMA.out _ (bcat2 hB1 hB)).mono ?_
      rintro x9 w8 ⟨rfl, hb8⟩
      go_wp2
      go_ret
      exact ⟨rfl, bcat2 (bcat2 hB1 hB) hb8⟩
theorem clx_all {n e : Nat} {zs : List Int} {q : Nat → Bool} : clx n zs e q (lst n fun _ => true) = cloq n zs e q n := by
  funext y
  unfold clx cloq lst
  rw [List.filter_eq_self.2 (fun _ _ => rfl)]
set_option maxRecDepth 100000 in
set_option maxHeartbeats 4000000 in
theorem clo_good (n e : Nat) (v u0 : Value) (zs l0 : List Int) (p : Nat → Bool) (w : World) (hv : Sl w v zs) (hg : IsGrp n zs e) (hu : Sl w u0 l0) (hT : Tab w) (hc : lfault n l0 = (0, 0)) (hp : ∀ a, a < n → (p a = true ↔ Mkd n zs e (cloq n zs e (pset l0) n) a)) :
    Calls Tryd.prog 30 #[.agg #[.int .i64 n, v], u0] w fun x w' => ∃ r, x = .returned (.tuple #[r, .agg #[.int .i64 0, .int .i64 0]]) ∧ SlF w.heap.size w' r (li (lst n (p))) ∧ Below w.heap.size w w' := by
  obtain ⟨va, vl, vc, rfl⟩ := hv.isSlice
  have HPP := hide hp
  clear hp
  obtain ⟨w0, BG⟩ := Beg.new w n (.slice va vl vc)
  have hv0 := hv.below BG.bel
  obtain ⟨c0, c1, _, _⟩ := BG.box.two
  have HCK := hide (oset_good n e (.slice va vl vc) u0 zs l0 w0 hv0 hg (hu.below BG.bel) hc)
  have HZ0 := hide (show w.heap.size + 2 ≤ w0.heap.size by rw [BG.eq]; simp)
  rw [BG.eq] at c0 c1
  go_enter Tryd.func30, Tryd.ntmps30
  go_wp2_with fail
  rw [← BG.eq]
  refine HCK.out.mono ?_
  rintro x w1 ⟨iv9, rfl, hSI, hb1⟩
  obtain ⟨ia, il, ic, rfl⟩ := hSI.sl.isSlice
  clear c0 c1 HCK
  obtain ⟨w2, hw2⟩ : ∃ w2, w2 = (w1.alloc (.cells #[.int .i64 n, (.slice va vl vc), .int .i64 e, (.slice ia il ic)] 64)).alloc (.cells #[.int .i64 0, .int .i64 0] 27) := ⟨_, rfl⟩
  have hb2 : Below w1.heap.size w1 w2 := by rw [hw2]; exact (balloc w1 _).alloc (by simp) _
  have hB1 : Below w0.heap.size w0 w2 := bcat2 hb1 hb2
  have hF1 : Blk w2 (w1.heap.size + 1) 27 [.int .i64 0, .int .i64 0] := by
    rw [hw2]
    have := blk0 (w := w1.alloc (.cells #[.int .i64 n, (.slice va vl vc), .int .i64 e, (.slice ia il ic)] 64)) (T := 27) (.int .i64 0) (.int .i64 0)
    rwa [World.size_alloc] at this
  have hH2 : Blk w2 w1.heap.size 64 [.int .i64 n, (.slice va vl vc), .int .i64 e, (.slice ia il ic)] := by
    rw [hw2]; exact (blk4 _ _ _ _).alloc _
  have hBw2 := bcat BG.bel hB1 BG.bel.size
  have hR2 := blk_below BG.res hB1
  have hT2 := hT.below hBw2
  have hGA2 : GA w2 n (.slice va vl vc) e (.slice ia il ic) zs := ⟨hg, hv.below hBw2, (hSI.below hb2).sl⟩
  obtain ⟨t0, t1, _, _⟩ := hF1.two
  obtain ⟨_, h0, h1, h2, h3, _⟩ := Four.mk' hH2
  have hx2 := blk_below BG.box hB1
  have HZ1 := hide (Nat.le_trans HZ0.out hb1.size)
  have HZ2 := hide hb2.size
  rw [hw2] at t0 t1 h0 h1 h2 h3
  go_wp2_with fail
  rw [← hw2]
  rw [← hw2] at t0 t1 h0 h1 h2 h3
  clear hw2
  have hS : ∀ W, Below w2.heap.size w2 W → (Below w2.heap.size w2 W ∧ W.cell? ⟨w1.heap.size, 0, none⟩ = some (.int .i64 n) ∧ W.cell? ⟨w1.heap.size, 1, none⟩ = some (.slice va vl vc) ∧ W.cell? ⟨w1.heap.size, 2, none⟩ = some (.int .i64 e) ∧ W.cell? ⟨w1.heap.size, 3, none⟩ = some (.slice ia il ic) ∧ W.cell? ⟨w.heap.size + 1, 0, none⟩ = some (.int .i64 0) ∧ W.cell? ⟨w.heap.size + 1, 1, none⟩ = some (.int .i64 0) ∧ W.frozen? ⟨w.heap.size + 1, 0, none⟩ = false ∧ W.frozen? ⟨w.heap.size + 1, 1, none⟩ = false ∧ W.setCell ⟨w.heap.size + 1, 0, none⟩ (.int .i64 0) = W ∧ W.setCell ⟨w.heap.size + 1, 1, none⟩ (.int .i64 0) = W) := fun W h => by
    obtain ⟨_, y0, y1, fy0, fy1, s0, s1⟩ := Two.mk' (blk_below hR2 h)
    exact ⟨h, below_cell h h0, below_cell h h1, below_cell h h2, below_cell h h3, y0, y1, fy0, fy1, s0, s1⟩
  have hS0 := hS _ (bdrew (Below.refl _ w2))
  have HA := hide (fun W => all_ok n (.slice va vl vc) (.slice ia il ic) e W hg.tab.le)
  have HC := hide (fun W (h : Below w2.heap.size w2 W) => kclo_ok n (.slice va vl vc) (.slice ia il ic) zs e (pset l0) (fun _ => true) p W (hGA2.below h) (hT2.below h) (by rw [clx_all]; exact HPP.out))
  have HL := hide (fun W (h : Below w2.heap.size w2 W) => list_at n w.heap.size p W hg.tab.le (hT2.below h) (Nat.le_trans hBw2.size h.size))
  clear h0 h1 h2 h3 t0 t1
  generalize bs p n = C at *
  generalize bs (fun _ => true) n = A at *
  generalize bs (pset l0) n = P0 at *
  go_region_held3 (fun W => Below w2.heap.size w2 W ∧ W.cell? ⟨w1.heap.size, 0, none⟩ = some (.int .i64 n) ∧ W.cell? ⟨w1.heap.size, 1, none⟩ = some (.slice va vl vc) ∧ W.cell? ⟨w1.heap.size, 2, none⟩ = some (.int .i64 e) ∧ W.cell? ⟨w1.heap.size, 3, none⟩ = some (.slice ia il ic) ∧ W.cell? ⟨w.heap.size + 1, 0, none⟩ = some (.int .i64 0) ∧ W.cell? ⟨w.heap.size + 1, 1, none⟩ = some (.int .i64 0) ∧ W.frozen? ⟨w.heap.size + 1, 0, none⟩ = false ∧ W.frozen? ⟨w.heap.size + 1, 1, none⟩ = false ∧ W.setCell ⟨w.heap.size + 1, 0, none⟩ (.int .i64 0) = W ∧ W.setCell ⟨w.heap.size + 1, 1, none⟩ (.int .i64 0) = W)
    (first | exact hS0 | assumption | exact hS _ (bcat2 (And.left ‹_›) hl1))
    (first
      | (go_at_call 60; refine (HA.out _).mono ?_; rintro e1 W1 ⟨rfl, hl1⟩)
      | (go_at_call 72; refine (HC.out _ (And.left ‹_›)).mono ?_; rintro e2 W2 ⟨rfl, hl1⟩)
      | (go_at_call 56; refine (HL.out _ (And.left ‹_›)).mono ?_; rintro e3 W3 ⟨r, rfl, hrr, hl1⟩))
  all_goals (
    obtain ⟨hB9, _, _, _, _, y0, y1, _⟩ := ‹Below w2.heap.size w2 W3 ∧ _›
    have hBz := bcat hBw2 hB9 hBw2.size
    clear hS hS0
    go_wp2
    exact bodyPost_ret (v := .tuple #[r, .agg #[.int .i64 0, .int .i64 0]]) (by simp [results, Tryd.results30, go_sem, y0, y1]) rfl ⟨_, rfl, hrr, hBz⟩)
end Go.Proofs.YtolbpjjjoafkkaaDoor

namespace Go.Proofs.YtolbpjjjoafkkaaDoor
open Go Go.RowKit

def cmpI (x y : Int) : Int := if x < y then -1 else if y < x then 1 else 0
theorem isNaN_ok (x : Int) (w : World) : Calls Tryd.prog 129 #[.int .i64 x] w fun e w' => e = .returned (.bool false) ∧ w' = w := by
  have h : (x != x) = false := by simp
  go_enter Tryd.func129, Tryd.ntmps129
  go_wp2
  go_ret
  exact ⟨rfl, rfl⟩
set_option maxRecDepth 100000 in
theorem cmpI_ok (x y : Int) (w : World) : Calls Tryd.prog 95 #[.int .i64 x, .int .i64 y] w fun e w' => e = .returned (.int .i64 (cmpI x y)) ∧ w' = w := by
  unfold cmpI
  by_cases h1 : x < y
  · rw [if_pos h1]
    go_enter Tryd.func95, Tryd.ntmps95
    go_wp2_with fail
    refine (isNaN_ok x w).mono ?_
    rintro e w1 ⟨rfl, rfl⟩
    go_wp2_with fail
    refine (isNaN_ok y w1).mono ?_
    rintro e w2 ⟨rfl, rfl⟩
    go_wp2
    go_ret
    exact ⟨rfl, rfl⟩
  · rw [if_neg h1]
    by_cases h2 : y < x
    · rw [if_pos h2]
      go_enter Tryd.func95, Tryd.ntmps95
      go_wp2_with fail
      refine (isNaN_ok x w).mono ?_
      rintro e w1 ⟨rfl, rfl⟩
      go_wp2_with fail
      refine (isNaN_ok y w1).mono ?_
      rintro e w2 ⟨rfl, rfl⟩
      go_wp2
      go_ret
      exact ⟨rfl, rfl⟩
    · rw [if_neg h2]
      go_enter Tryd.func95, Tryd.ntmps95
      go_wp2_with fail
      refine (isNaN_ok x w).mono ?_
      rintro e w1 ⟨rfl, rfl⟩
      go_wp2_with fail
      refine (isNaN_ok y w1).mono ?_
      rintro e w2 ⟨rfl, rfl⟩
      go_wp2
      go_ret
      exact ⟨rfl, rfl⟩
/-- How two lists compare. -/
def cmpL : List Int → List Int → Int
  | [], [] => 0
  | [], _ :: _ => -1
  | _ :: _, [] => 1
  | x :: xs, y :: ys => if cmpI x y ≠ 0 then cmpI x y else cmpL xs ys
theorem cmpL_step {xs ys : List Int} {k : Nat} (h1 : k < xs.length) (h2 : k < ys.length) : cmpL (xs.drop k) (ys.drop k) = if cmpI xs[k] ys[k] ≠ 0 then cmpI xs[k] ys[k] else cmpL (xs.drop (k + 1)) (ys.drop (k + 1)) := by
  rw [List.drop_eq_getElem_cons h1, List.drop_eq_getElem_cons h2, cmpL]
theorem cmpL_more {xs ys : List Int} {k : Nat} (h1 : k < xs.length) (h2 : ys.length ≤ k) : cmpL (xs.drop k) (ys.drop k) = 1 := by
  rw [List.drop_eq_getElem_cons h1, List.drop_eq_nil_of_le h2, cmpL]
theorem cmpL_less {xs ys : List Int} {k : Nat} (h1 : xs.length ≤ k) (h2 : k < ys.length) : cmpL (xs.drop k) (ys.drop k) = -1 := by
  rw [List.drop_eq_getElem_cons h2, List.drop_eq_nil_of_le h1, cmpL]
theorem cmpL_end {xs ys : List Int} {k : Nat} (h1 : xs.length ≤ k) (h2 : ys.length ≤ k) : cmpL (xs.drop k) (ys.drop k) = 0 := by
  rw [List.drop_eq_nil_of_le h1, List.drop_eq_nil_of_le h2, cmpL]
set_option maxRecDepth 100000 in
set_option maxHeartbeats 2000000 in
theorem scmp_ok (v u : Value) (xs ys : List Int) (w : World) (hv : Sl w v xs) (hu : Sl w u ys) (hx : xs.length ≤ 60) (hy : ys.length ≤ 60) :
    Calls Tryd.prog 58 #[v, u] w fun e w' => e = .returned (.int .i64 (cmpL xs ys)) ∧ w' = w := by
  obtain ⟨xa, xcap, xb, xo, rfl, ⟨x1, x2⟩, _, _, x5⟩ := hv
  obtain ⟨ya, ycap, yb, yo, rfl, ⟨y1, y2⟩, _, _, y5⟩ := hu
  have HX1 := hide x1
  have HX2 := hide x2
  have HY1 := hide y1
  have HY2 := hide y2
  clear x1 x2 y1 y2 x5 y5
  go_enter Tryd.func58, Tryd.ntmps58
  go_wp2
  go_loopw [11] (fun i wr => ∃ k : Nat, k ≤ xs.length ∧ k ≤ ys.length ∧ i = .int .i64 k ∧ cmpL xs ys = cmpL (xs.drop k) (ys.drop k) ∧ wr = w) (fun i _ => xs.length - (intOf i).toNat)
  case atStart => exact ⟨0, Nat.zero_le _, Nat.zero_le _, rfl, by simp, rfl⟩
  case round =>
    obtain ⟨k, hk, hk2, rfl, hc, hwr⟩ := hrel
    rw [hwr]
    clear hwr
    have HC := hide hc
    clear hc
    by_cases hlt : k < xs.length
    · have hki : (k : Int) < (xs.length : Int) := by omega
      obtain rfl := HX1.out (by omega)
      have cx := HX2.out k hlt
      rw [List.getElem?_eq_getElem hlt, Option.getD_some] at cx
      by_cases hlu : k < ys.length
      · have hku : ¬ (k : Int) ≥ (ys.length : Int) := by omega
        have hku' : ¬ (ys.length : Int) ≤ (k : Int) := by omega
        have hki2 : (k : Int) < (ys.length : Int) := by omega
        obtain rfl := HY1.out (by omega)
        have cy := HY2.out k hlu
        rw [List.getElem?_eq_getElem hlu, Option.getD_some] at cy
        have HE := hide (cmpL_step hlt hlu)
        generalize xs[k] = x at *
        generalize ys[k] = y at *
        have HI := hide (cmpI_ok x y w)
        obtain ⟨z, hz⟩ : ∃ z, cmpI x y = z := ⟨_, rfl⟩
        rw [hz] at HI HE
        clear hz
        by_cases hz0 : z = 0
        · subst hz0
          go_wp2_with fail
          refine HI.out.mono ?_
          rintro e w1 ⟨rfl, rfl⟩
          go_wp2
          go_roundw
          case rel => exact ⟨k + 1, by omega, by omega, by go_num, by rw [HC.out, HE.out]; rfl, trivial⟩
          case measure => simp [intOf]; omega
        · have hzb : (z != 0) = true := by simpa using hz0
          have HZ := hide (show cmpL xs ys = z by rw [HC.out, HE.out, if_pos hz0])
          go_wp2_with fail
          refine HI.out.mono ?_
          rintro e w1 ⟨rfl, rfl⟩
          go_wp2
          go_ret
          exact ⟨by rw [HZ.out]; rfl, rfl⟩
      · have hku : (k : Int) ≥ (ys.length : Int) := by omega
        have hku' : (ys.length : Int) ≤ (k : Int) := by omega
        have HZ := hide (show cmpL xs ys = 1 by rw [HC.out, cmpL_more hlt (by omega)])
        go_wp2
        go_ret
        exact ⟨by rw [HZ.out]; rfl, rfl⟩
    · have hki : ¬ (k : Int) < (xs.length : Int) := by omega
      by_cases hlu : xs.length < ys.length
      · have hlu' : (xs.length : Int) < (ys.length : Int) := by omega
        have HZ := hide (show cmpL xs ys = -1 by rw [HC.out, cmpL_less (by omega) (by omega)])
        go_wp2
        go_ret
        exact ⟨by rw [HZ.out]; rfl, rfl⟩
      · have hlu' : ¬ (xs.length : Int) < (ys.length : Int) := by omega
        have HZ := hide (show cmpL xs ys = 0 by rw [HC.out, cmpL_end (by omega) (by omega)])
        go_wp2
        go_ret
        exact ⟨by rw [HZ.out]; rfl, rfl⟩
end Go.Proofs.YtolbpjjjoafkkaaDoor

namespace Go.Proofs.YtolbpjjjoafkkaaDoor
open Go Go.RowKit

theorem cmpI_neg (x y : Int) : cmpI y x = - cmpI x y := by unfold cmpI; split <;> split <;> (try split) <;> omega
theorem cmpI_lt {x y : Int} : cmpI x y < 0 ↔ x < y := by unfold cmpI; split <;> (try split) <;> omega
theorem cmpI_zero {x y : Int} : cmpI x y = 0 ↔ x = y := by unfold cmpI; split <;> (try split) <;> omega
theorem cmpL_neg : ∀ xs ys : List Int, cmpL ys xs = - cmpL xs ys
  | [], [] => rfl
  | [], _ :: _ => rfl
  | _ :: _, [] => rfl
  | x :: xs, y :: ys => by
    unfold cmpL
    rw [cmpI_neg x y, cmpL_neg xs ys]
    split <;> split <;> omega
theorem cmpL_zero : ∀ xs ys : List Int, cmpL xs ys = 0 ↔ xs = ys
  | [], [] => by simp [cmpL]
  | [], _ :: _ => by simp [cmpL]
  | _ :: _, [] => by simp [cmpL]
  | x :: xs, y :: ys => by
    unfold cmpL
    have h1 := @cmpI_zero x y
    have h2 := cmpL_zero xs ys
    rw [List.cons.injEq]
    split
    · exact ⟨fun h => absurd h (by assumption), fun h => absurd (h1.2 h.1) (by assumption)⟩
    · rename_i h
      rw [Decidable.not_not] at h
      exact ⟨fun k => ⟨h1.1 h, h2.1 k⟩, fun k => h2.2 k.2⟩
theorem cmpL_trans : ∀ xs ys zs : List Int, cmpL xs ys < 0 → cmpL ys zs < 0 → cmpL xs zs < 0
  | [], [], _, h, _ => absurd h (by simp [cmpL])
  | _ :: _, [], _, h, _ => absurd h (by simp [cmpL])
  | _, _ :: _, [], _, h => absurd h (by simp [cmpL])
  | [], _ :: _, _ :: _, _, _ => by simp [cmpL]
  | x :: xs, y :: ys, z :: zs, h1, h2 => by
    unfold cmpL at *
    have a1 := @cmpI_lt x y
    have a2 := @cmpI_lt y z
    have a3 := @cmpI_lt x z
    have b1 := @cmpI_zero x y
    have b2 := @cmpI_zero y z
    have b3 := @cmpI_zero x z
    have ih := cmpL_trans xs ys zs
    split at h1
    · have hxy := a1.1 h1
      split at h2
      · have hyz := a2.1 h2
        have := a3.2 (by omega)
        rw [if_pos (by omega)]; exact this
      · rename_i h
        have := b2.1 (by omega)
        have := a3.2 (by omega)
        rw [if_pos (by omega)]; exact this
    · rename_i h
      have hxy := b1.1 (by omega)
      split at h2
      · have hyz := a2.1 h2
        have := a3.2 (by omega)
        rw [if_pos (by omega)]; exact this
      · rename_i h'
        have := b2.1 (by omega)
        have := b3.2 (by omega)
        rw [if_neg (by omega)]; exact ih h1 h2
theorem cmpL_ge {xs ys zs : List Int} (h1 : ¬ cmpL xs ys < 0) (h2 : ¬ cmpL ys zs < 0) : ¬ cmpL xs zs < 0 := by
  intro h
  have a1 := cmpL_neg xs ys
  have a2 := cmpL_neg ys zs
  have a3 := cmpL_neg xs zs
  by_cases e1 : cmpL xs ys = 0
  · have := (cmpL_zero _ _).1 e1
    subst this
    exact h2 h
  · by_cases e2 : cmpL ys zs = 0
    · have := (cmpL_zero _ _).1 e2
      subst this
      exact h1 h
    · have := cmpL_trans zs ys xs (by omega) (by omega)
      omega
theorem sw_heap {α : Type} [Inhabited α] (enc : α → Value) (w : World) (g m : Nat) (dk : Array α) (os : Array Obj) {b : Nat} (hb : b < w.heap.size) (hne : b ≠ g) : (sortWorld enc w g 0 m dk os).heap[b]? = w.heap[b]? := by
  show ((w.heap.modify g _) ++ os)[b]? = _
  rw [Array.getElem?_append_left (by rw [Array.size_modify]; exact hb), Array.getElem?_modify, if_neg (fun h => hne h.symm)]
theorem sw_size {α : Type} [Inhabited α] (enc : α → Value) (w : World) (g m : Nat) (dk : Array α) (os : Array Obj) : w.heap.size ≤ (sortWorld enc w g 0 m dk os).heap.size := by
  show _ ≤ ((w.heap.modify g _) ++ os).size
  rw [Array.size_append, Array.size_modify]; omega
theorem sw_below {α : Type} [Inhabited α] (enc : α → Value) (w : World) (g m : Nat) (dk : Array α) (os : Array Obj) {B : Nat} (hB : B ≤ g) (hg : g < w.heap.size) : Below B w (sortWorld enc w g 0 m dk os) :=
  ⟨rfl, rfl, rfl, sw_size enc w g m dk os, fun b hb => sw_heap enc w g m dk os (by omega) (by omega)⟩
theorem swo_cmpL {α : Type} (f : α → List Int) : Go.Sort.SWO (ltOf fun i j => cmpL (f i) (f j)) where
  irrefl x := by
    have : cmpL (f x) (f x) = 0 := (cmpL_zero _ _).2 rfl
    unfold ltOf; simp [this]
  trans x y z h1 h2 := by
    unfold ltOf at *
    rw [decide_eq_true_eq] at *
    exact cmpL_trans _ _ _ h1 h2
  ntrans x y z h1 h2 := by
    unfold ltOf at *
    rw [decide_eq_false_iff_not] at *
    exact cmpL_ge h1 h2
shelf_lay_g SlLaysF.n6 Slsf 6 at Tryd 57 as sortLists
theorem ent96 (args : Array Value) (w : World) : (callFunc 58 args).run Tryd.prog w = .ok (.enter 58 args) w := enters_of Tryd.func58 (by kernel_rfl) rfl args w
theorem own_sw {α : Type} [Inhabited α] (enc : α → Value) {w : World} {base g cap m len : Nat} {e : TypeId} {os : Array Obj} {cur : Array Value} (d : Array α) (hl : d.size = len) (hb : base ≤ g) (hh : w.heap[g]? = some (.cells cur e (0, 0))) (h1 : len ≤ cap) (h2 : cap ≤ maxLen) (h3 : cur.size = cap * 1) :
    (sortWorld enc w g 0 m d os).ownsRow base e 1 (.slice (some ⟨g, 0, none⟩) len cap) len (d.toList.map enc) := by
  have hg : g < w.heap.size := (Array.getElem?_eq_some_iff.1 hh).1
  refine ⟨by simp [hl], .inr ⟨g, cap, Go.Sort.putCells enc 0 d cur, rfl, hb, ?_, h1, h2, by simp [Go.Sort.putCells, h3], ?_⟩⟩
  · show ((w.heap.modify g _) ++ os)[g]? = _
    rw [Array.getElem?_append_left (by rw [Array.size_modify]; exact hg), Array.getElem?_modify, if_pos rfl, hh]
    rfl
  · apply List.ext_getElem?
    intro j
    by_cases hj : j < len
    · rw [List.getElem?_take_of_lt (by omega), Array.getElem?_toList]
      simp [Go.Sort.putCells, show j < cur.size by omega, show j < d.size by omega]
    · rw [List.getElem?_take_eq_none (by omega), List.getElem?_eq_none (by simp; omega)]
/-- The lists, as they are sorted. -/
def srt (ms : List (List Int)) : Prop := ∀ i j, i < j → j < ms.length → ¬ cmpL (ms[j]?.getD []) (ms[i]?.getD []) < 0
theorem sort_ok (B g cap : Nat) (vs : List Value) (ls : List (List Int)) (w : World) (hrow : w.ownsRow B 22 1 (.slice (some ⟨g, 0, none⟩) vs.length cap) vs.length vs) (hls : Lsts w B (.slice (some ⟨g, 0, none⟩) vs.length cap) vs ls) (h60 : ∀ l, l ∈ ls → l.length ≤ 60) (hlen : vs.length < 4611686018427387904) (hpos : 0 < vs.length) :
    Calls Tryd.prog 57 #[.slice (some ⟨g, 0, none⟩) vs.length cap, .func (.func 58) #[] #[]] w fun e w' => e = .returned (.tuple #[]) ∧ Below B w w' ∧ ∃ ms : List (List Int), ms.Perm ls ∧ srt ms ∧ ∃ us : List Value, us.length = vs.length ∧ w'.ownsRow B 22 1 (.slice (some ⟨g, 0, none⟩) vs.length cap) vs.length us ∧ Lsts w' B (.slice (some ⟨g, 0, none⟩) vs.length cap) us ms := by
  have hvl := hls.1
  have hown : B ≤ g ∧ g < w.heap.size ∧ vs.length ≤ cap ∧ cap ≤ maxLen ∧ ∃ cur, w.heap[g]? = some (.cells cur 22 (0, 0)) ∧ cur.size = cap * 1 := by
    rcases hrow.2 with ⟨h, _⟩ | ⟨g', cap', cur, h, h1, h2, h3, h4, h9, _⟩
    · cases h
    · injection h with h5 _ h6
      injection h5 with h5
      injection h5 with h5
      subst h5 h6
      exact ⟨h1, (Array.getElem?_eq_some_iff.1 h2).1, h3, h4, cur, h2, h9⟩
  obtain ⟨hBg, hgw, hcap, hcap2, cur, hHP, hcur⟩ := hown
  haveI : Inhabited (Fin ls.length) := ⟨⟨0, by omega⟩⟩
  obtain ⟨enc, henc⟩ : ∃ enc : Fin ls.length → Value, ∀ i : Fin ls.length, vs[i.1]? = some (enc i) := ⟨fun i => vs[i.1]'(by omega), fun i => List.getElem?_eq_getElem (by omega)⟩
  have hval : ∀ i : Fin ls.length, ∃ a c pb po, enc i = .slice a (ls.get i).length c ∧ Reads w a pb po (ls.get i) ∧ pb < w.heap.size ∧ (ls.get i).length ≤ c ∧ c ≤ maxLen ∧ B ≤ pb ∧ pb ≠ g := fun i => by
    obtain ⟨a, c, pb, po, h1, h2, h3, h4, h5, h6, h7⟩ := hls.2 i.1 (enc i) (ls.get i) (henc i) (List.getElem?_eq_getElem i.2)
    exact ⟨a, c, pb, po, h1, h2, h3, h4, h5, h6, h7 g rfl⟩
  have hOne : OneCell enc := fun i => by
    obtain ⟨a, c, pb, po, h1, _⟩ := hval i
    rw [h1]; rfl
  obtain ⟨d, hd⟩ : ∃ d : Array (Fin ls.length), d = Array.ofFn (fun i => i) := ⟨_, rfl⟩
  have hds : d.size = vs.length := by rw [hd, Array.size_ofFn, hvl]
  have hH : Go.Sort.Holds enc w g 0 d := fun j hj => by
    have hj' : j < ls.length := by omega
    have h1 : d[j]! = ⟨j, hj'⟩ := by
      rw [getElem!_pos d j hj]
      simp [hd]
    have h3 := hrow.cells (g := g) rfl j (enc ⟨j, hj'⟩) (henc ⟨j, hj'⟩)
    rw [show (⟨g, 0, none⟩ : Addr).add j = ⟨g, j, none⟩ by unfold Addr.add; split <;> simp_all] at h3
    rw [Nat.zero_add, h1]
    exact ⟨h3, hrow.frozenAt j⟩
  have hSl : ∀ (W : World) (i : Fin ls.length), (∀ b, B ≤ b → b < w.heap.size → b ≠ g → W.heap[b]? = w.heap[b]?) → w.heap.size ≤ W.heap.size → Sl W (enc i) (ls.get i) := fun W i hW hs => by
    obtain ⟨a, c, pb, po, h1, h2, h3, h4, h5, h6, h7⟩ := hval i
    exact ⟨a, c, pb, po, h1, h2.of_eq (hW pb h6 h3 h7), Nat.lt_of_lt_of_le h3 hs, h4, h5⟩
  have hcmp : CmpLays1 Tryd.prog 58 #[] enc (fun i j : Fin ls.length => cmpL (ls.get i) (ls.get j)) g 0 d.size w := by
    intro m os dk _ x y
    have hw := fun b (_ : B ≤ b) (h1 : b < w.heap.size) (h2 : b ≠ g) => sw_heap enc w g m dk os h1 h2
    refine (scmp_ok (enc x) (enc y) (ls.get x) (ls.get y) (sortWorld enc w g 0 m dk os) (hSl _ x hw (sw_size ..)) (hSl _ y hw (sw_size ..)) (h60 _ (List.get_mem ls _)) (h60 _ (List.get_mem ls _))).mono ?_
    rintro e w' ⟨rfl, rfl⟩
    exact ⟨rfl, 0, #[], by rw [Go.Sort.grow_empty]; rfl⟩
  have hcon := Any.slices_SortFunc sortLists enc hOne (fun i j : Fin ls.length => cmpL (ls.get i) (ls.get j)) (swo_cmpL fun i : Fin ls.length => ls.get i) 58 #[] g 0 cap d w ent96 hcmp hH hgw (by omega)
  change Calls Tryd.prog 57 _ _ _ at hcon
  rw [hds] at hcon
  refine hcon.mono ?_
  rintro e w' ⟨rfl, d', n, os, hp, hs, rfl⟩
  refine ⟨rfl, sw_below enc w g n d' os hBg hgw, d'.toList.map (fun i => ls.get i), ?_, ?_, ?_⟩
  · obtain ⟨hp1, _, hp3⟩ := hp
    rw [← hds, show d.extract 0 d.size = d by simp, show d'.extract 0 d.size = d' by rw [← hp1]; simp] at hp3
    have h1 := hp3.map (fun i : Fin ls.length => ls.get i)
    have h2 : d.toList.map (fun i : Fin ls.length => ls.get i) = ls := by
      rw [hd]
      apply List.ext_getElem
      · simp
      · intro k h1 h2
        simp
    rw [h2] at h1
    exact h1
  · intro i j hij hj
    have hsz : d'.size = vs.length := by rw [hp.1, hds]
    have hj' : j < d'.size := by simpa using hj
    have h := hs i j (Nat.zero_le _) hij (by omega)
    unfold ltOf at h
    rw [decide_eq_false_iff_not, getElem!_pos d' i (by omega), getElem!_pos d' j hj'] at h
    rw [List.getElem?_map, List.getElem?_map, Array.getElem?_toList, Array.getElem?_toList, Array.getElem?_eq_getElem hj', Array.getElem?_eq_getElem (by omega)]
    exact h
  · have hsz : d'.size = vs.length := by rw [hp.1, hds]
    refine ⟨d'.toList.map enc, by simp [hsz], own_sw enc d' hsz hBg hHP hcap hcap2 hcur, by simp, fun t x l h1 h2 => ?_⟩
    rw [List.getElem?_map] at h1 h2
    obtain ⟨i, hi1, rfl⟩ := Option.map_eq_some_iff.1 h1
    rw [hi1] at h2
    obtain rfl := Option.some.inj h2
    obtain ⟨a, c, pb, po, k1, k2, k3, k4, k5, k6, k7⟩ := hval i
    exact ⟨a, c, pb, po, k1, k2.of_eq (sw_heap enc w g n d' os k3 k7), Nat.lt_of_lt_of_le k3 (sw_size ..), k4, k5, k6, fun g9 h9 h8 => k7 (h8.trans (Option.some.inj h9).symm)⟩
end Go.Proofs.YtolbpjjjoafkkaaDoor

namespace Go.Proofs.YtolbpjjjoafkkaaDoor
open Go Go.RowKit Go.Maps

theorem own_keep2 {W W' : World} {B n : Nat} {e : TypeId} {v : Value} {xs : List Value} (h : W.ownsRow B e 1 v n xs) (hk : ∀ g, B ≤ g → g < W.heap.size → W'.heap[g]? = W.heap[g]?) : W'.ownsRow B e 1 v n xs := by
  refine ⟨h.1, ?_⟩
  rcases h.2 with h0 | ⟨g, cap, cur, hv, hg, hh, rest⟩
  · exact .inl h0
  · exact .inr ⟨g, cap, cur, hv, hg, (hk g hg (Array.getElem?_eq_some_iff.1 hh).1).trans hh, rest⟩
theorem und38s : Tryd.prog.underlying 25 = some (.slice 22) := by kernel_rfl
theorem wf_nonneg {x : Int} (h : (Lit.int .u64 x).wf = true) : 0 ≤ x := by
  have h0 : IntKind.u64.min = 0 := rfl
  simp [Lit.wf, h0] at h
  omega
/-- The things by which the sets that are listed so far are conjugates, and what is left of the map. -/
structure Lft (f : Nat → Nat) (n : Nat) (A : List Nat) (left : Lit → Bool) : Prop where
  lt : ∀ a, a ∈ A → a < n
  nd : (A.map f).Nodup
  left : ∀ t : Nat, left (.int .u64 t) = true ↔ (∃ a, a < n ∧ t = f a) ∧ ¬ t ∈ A.map f
theorem nd_of_map {f : Nat → Nat} : ∀ {A : List Nat}, (A.map f).Nodup → A.Nodup
  | [], _ => List.nodup_nil
  | a :: A, h => by
    rw [List.map_cons, List.nodup_cons] at h
    exact List.nodup_cons.2 ⟨fun h9 => h.1 (List.mem_map_of_mem h9), nd_of_map h.2⟩
theorem Lft.len {f : Nat → Nat} {n : Nat} {A : List Nat} {left : Lit → Bool} (h : Lft f n A left) : A.length ≤ n := by
  have := nodup_len A (List.range n) (nd_of_map h.nd) (fun a ha => List.mem_range.2 (h.lt a ha))
  simpa using this
theorem Lft.step {f : Nat → Nat} {n : Nat} {A : List Nat} {left : Lit → Bool} (h : Lft f n A left) {t : Nat} (ht : left (.int .u64 t) = true) : ∃ a, a < n ∧ t = f a ∧ Lft f n (A ++ [a]) (fun z => left z && !z.sameKey (.int .u64 t)) := by
  obtain ⟨⟨a, ha, rfl⟩, hno⟩ := (h.left t).1 ht
  refine ⟨a, ha, rfl, fun b hb => ?_, ?_, fun t => ?_⟩
  · rcases List.mem_append.1 hb with h1 | h1
    · exact h.lt b h1
    · rw [List.mem_singleton.1 h1]; exact ha
  · rw [List.map_append, List.nodup_append]
    refine ⟨h.nd, by simp, fun x hx y hy => ?_⟩
    rw [List.map_cons, List.map_nil, List.mem_singleton] at hy
    rw [hy]
    exact fun e => hno (e ▸ hx)
  · rw [List.map_append, List.mem_append, List.map_cons, List.map_nil, List.mem_singleton, Bool.and_eq_true, h.left t]
    by_cases e : t = f a
    · subst e
      simp [Lit.sameKey]
    · rw [sameKey_ne (fun h9 => e (by injection h9 with _ h9; omega))]
      simp [e]
theorem Lft.all {f : Nat → Nat} {n : Nat} {A : List Nat} {left : Lit → Bool} (h : Lft f n A left) (h0 : ∀ kl, left kl = false) (a : Nat) (ha : a < n) : f a ∈ A.map f := by
  refine Classical.byContradiction fun h9 => ?_
  have := (h.left (f a)).2 ⟨⟨a, ha, rfl⟩, h9⟩
  rw [h0] at this
  cases this
set_option maxRecDepth 100000 in
set_option maxHeartbeats 4000000 in
theorem sall_bad (N p c i : Int) (v : Value) (w : World) (hc : c ≠ 0)
    (hop : ∀ W, Below w.heap.size w W → Calls Tryd.prog 54 #[.agg #[.int .i64 N, v], .int .i64 p] W fun x w' => x = .returned (.tuple #[.agg #[.int .i64 0, .slice none 0 0, .int .i64 0, .slice none 0 0], .agg #[.int .i64 c, .int .i64 i]]) ∧ Below W.heap.size W w') :
    Calls Tryd.prog 13 #[.agg #[.int .i64 N, v], .int .i64 p] w fun x w' => x = .returned (.tuple #[.slice none 0 0, .agg #[.int .i64 c, .int .i64 i]]) ∧ Below w.heap.size w w' := by
  obtain ⟨w0, BG⟩ := Beg.new w N v
  have HCK := hide (hop w0 BG.bel)
  clear hop
  obtain ⟨c0, c1, _, _⟩ := BG.box.two
  have hcb : (c != 0) = true := by simpa using hc
  rw [BG.eq] at c0 c1
  go_enter Tryd.func13, Tryd.ntmps13
  go_wp2_with fail
  rw [← BG.eq]
  refine HCK.out.mono ?_
  rintro x w1 ⟨rfl, hb1⟩
  clear c0 c1
  obtain ⟨w2, hw2⟩ : ∃ w2, w2 = (w1.alloc (.cells #[.int .i64 0, .slice none 0 0, .int .i64 0, .slice none 0 0] 64)).alloc (.cells #[.int .i64 c, .int .i64 i] 27) := ⟨_, rfl⟩
  have hB1 : Below w0.heap.size w0 w2 := by rw [hw2]; exact bcat2 hb1 ((balloc w1 _).alloc (by simp) _)
  have hF1 : Blk w2 (w1.heap.size + 1) 27 [.int .i64 c, .int .i64 i] := by
    rw [hw2]
    have := blk0 (w := w1.alloc (.cells #[.int .i64 0, .slice none 0 0, .int .i64 0, .slice none 0 0] 64)) (T := 27) (.int .i64 c) (.int .i64 i)
    rwa [World.size_alloc] at this
  have hR1 := blk_below BG.res hB1
  have hBw := bcat BG.bel hB1 BG.bel.size
  obtain ⟨y0, y1, fy0, fy1⟩ := hR1.two
  obtain ⟨t0, t1, _, _⟩ := hF1.two
  rw [hw2] at t0 t1
  go_wp2_with fail
  rw [← hw2]
  rw [← hw2] at t0 t1
  clear hw2
  go_region
  all_goals (
    go_wp2
    obtain ⟨hR6, hB6⟩ := put2 hR1 hBw (by omega) c i
    have hB7 := bdrew hB6
    have hR7 : Blk ((w2.setCell ⟨w.heap.size + 1, 0, none⟩ (.int .i64 c)).setCell ⟨w.heap.size + 1, 1, none⟩ (.int .i64 i)).drew (w.heap.size + 1) 27 [.int .i64 c, .int .i64 i] := hR6
    generalize ((w2.setCell ⟨w.heap.size + 1, 0, none⟩ (.int .i64 c)).setCell ⟨w.heap.size + 1, 1, none⟩ (.int .i64 i)).drew = W at hR7 hB7 ⊢
    obtain ⟨z0, z1, _, _⟩ := hR7.two
    exact bodyPost_ret (v := .tuple #[.slice none 0 0, .agg #[.int .i64 c, .int .i64 i]]) (by simp [results, Tryd.results13, go_sem, z0, z1]) rfl ⟨rfl, hB7⟩)
set_option maxRecDepth 100000 in
set_option maxHeartbeats 4000000 in
theorem sall_good (n e p : Nat) (v : Value) (zs : List Int) (w : World) (hv : Sl w v zs) (hg : IsGrp n zs e) (hT : Tab w) (hpr : primeB p = true) :
    Calls Tryd.prog 13 #[.agg #[.int .i64 n, v], .int .i64 p] w fun x w' => ∃ (r1 : Option Addr) (r2 r3 : Nat) (s : Nat → Bool) (A : List Nat) (ms : List (List Int)), x = .returned (.tuple #[.slice r1 r2 r3, .agg #[.int .i64 0, .int .i64 0]]) ∧ Grown n zs e p s ∧ (∀ a, a ∈ A → a < n) ∧ (A.map fun a => bs (cjq n zs e s a) n).Nodup ∧ (∀ a, a < n → bs (cjq n zs e s a) n ∈ A.map fun a => bs (cjq n zs e s a) n) ∧ ms.Perm (A.map fun a => li (lst n (cjq n zs e s a))) ∧ srt ms ∧ (∃ (B : Nat) (us : List Value), w.heap.size ≤ B ∧ us.length = r2 ∧ w'.ownsRow B 22 1 (.slice r1 r2 r3) r2 us ∧ Lsts w' B (.slice r1 r2 r3) us ms) ∧ Below w.heap.size w w' := by
  have hp2 : 2 ≤ p ∧ p ≤ 100 := by
    have := of_decide_eq_true hpr
    omega
  obtain ⟨va, vl, vc, rfl⟩ := hv.isSlice
  obtain ⟨w0, BG⟩ := Beg.new w n (.slice va vl vc)
  have hv0 := hv.below BG.bel
  obtain ⟨c0, c1, _, _⟩ := BG.box.two
  have HCK := hide (sopen_good n e p (.slice va vl vc) zs w0 hv0 hg hpr)
  have HZ0 := hide (show w.heap.size + 2 ≤ w0.heap.size by rw [BG.eq]; simp)
  rw [BG.eq] at c0 c1
  go_enter Tryd.func13, Tryd.ntmps13
  go_wp2_with fail
  rw [← BG.eq]
  refine HCK.out.mono ?_
  rintro x w1 ⟨iv9, rfl, hSI, hb1⟩
  obtain ⟨ia, il, ic, rfl⟩ := hSI.sl.isSlice
  clear c0 c1 HCK
  obtain ⟨w2, hw2⟩ : ∃ w2, w2 = (w1.alloc (.cells #[.int .i64 n, (.slice va vl vc), .int .i64 e, (.slice ia il ic)] 64)).alloc (.cells #[.int .i64 0, .int .i64 0] 27) := ⟨_, rfl⟩
  have hb2 : Below w1.heap.size w1 w2 := by rw [hw2]; exact (balloc w1 _).alloc (by simp) _
  have hB1 : Below w0.heap.size w0 w2 := bcat2 hb1 hb2
  have hF1 : Blk w2 (w1.heap.size + 1) 27 [.int .i64 0, .int .i64 0] := by
    rw [hw2]
    have := blk0 (w := w1.alloc (.cells #[.int .i64 n, (.slice va vl vc), .int .i64 e, (.slice ia il ic)] 64)) (T := 27) (.int .i64 0) (.int .i64 0)
    rwa [World.size_alloc] at this
  have hH2 : Blk w2 w1.heap.size 64 [.int .i64 n, (.slice va vl vc), .int .i64 e, (.slice ia il ic)] := by
    rw [hw2]; exact (blk4 _ _ _ _).alloc _
  have hBw2 := bcat BG.bel hB1 BG.bel.size
  have hR2 := blk_below BG.res hB1
  have hT2 := hT.below hBw2
  have hGA2 : GA w2 n (.slice va vl vc) e (.slice ia il ic) zs := ⟨hg, hv.below hBw2, (hSI.below hb2).sl⟩
  obtain ⟨t0, t1, _, _⟩ := hF1.two
  obtain ⟨_, h0, h1, h2, h3, _⟩ := Four.mk' hH2
  have hx2 := blk_below BG.box hB1
  have HZ1 := hide (Nat.le_trans HZ0.out hb1.size)
  have HZ2 := hide hb2.size
  rw [hw2] at t0 t1 h0 h1 h2 h3
  go_wp2_with fail
  rw [← hw2]
  rw [← hw2] at t0 t1 h0 h1 h2 h3
  clear hw2 t0 t1
  refine (sgs_ok n e p (.slice va vl vc) (.slice ia il ic) zs w2 hGA2 hT2 hp2.1 hp2.2).mono ?_
  rintro x w4 ⟨s, M, rfl, hM, hgr, ⟨D, hown4, hD⟩, hb4⟩
  have hB4 := bcat2 hBw2 hb4
  have hR4 := blk_below hR2 hb4
  obtain ⟨i0, hi, hz0, hz1, hz2⟩ := info_parts info22b
  have HGR := hide hgr
  have HT4 := hide (hT.below hB4)
  have HR4 := hide hR4
  have hn := hg.tab.le
  have hn1 : 0 < n := Nat.lt_of_le_of_lt (Nat.zero_le _) hg.elt
  have hM4 : M < w4.heap.size := hown4.lt
  have HL0 := hide (show Lft (fun a => bs (cjq n zs e s a) n) n [] (Maps.has D) from ⟨by simp, by simp, fun t => by rw [hD t]; simp⟩)
  clear hgr hR4 h0 h1 h2 h3 hD
  go_wp2_with (first | (at_range; refine wpList_range_own _ rfl _ 67 rfl 70 96 key58 und69 _ M n D rfl hown4 ?_; intro w5 hrg5 hg5 hs5))
  go_frame
  have hB5 : Below w4.heap.size w4 w5 := (Below.refl _ w4).grown hg5 (Nat.le_refl _) (by simp)
  obtain ⟨r, hr⟩ : ∃ r, r = w4.heap.size := ⟨_, rfl⟩
  obtain ⟨B0, hB0⟩ : ∃ B0, B0 = w5.heap.size := ⟨_, rfl⟩
  have hrB : r < B0 := by rw [hB0, hs5, hr]; omega
  rw [← hr] at hrg5 hM4 hB5 ⊢
  have HRR := hide hr
  have hwr : w.heap.size + 1 < r := by rw [hr]; exact HR4.out.lt
  clear hr
  clear hown4 hg5 hs5
  go_loopw [8] (fun ls wr => ∃ (A : List Nat) (left : Lit → Bool) (cnt : Nat) (vs : List Value), wr.ranges Tryd.prog 70 unitElem M r n D left cnt ∧ Hid (Lft (fun a => bs (cjq n zs e s a) n) n A left) ∧ wr.ownsRow B0 22 1 ls vs.length vs ∧ Lsts wr B0 ls vs (A.map fun a => li (lst n (cjq n zs e s a))) ∧ B0 ≤ wr.heap.size ∧ Below r w4 wr) (fun _ wr => wr.rangeLeft M r)
  case atStart => exact ⟨[], _, _, [], hrg5, HL0, World.ownsRow_nil _ _ _ _, ⟨by simp, fun t x l h1 _ => by simp at h1⟩, by omega, hB5⟩
  case round =>
    clear hrg5 hB5 HL0 hB0
    obtain ⟨A, left, cnt, vs, hrg, HL, hrow, hls, hsz, hB⟩ := hrel
    have hA60 := HL.out.len
    have HVL := hide (show vs.length = A.length by rw [hls.1, List.length_map])
    have hv60 : vs.length ≤ 60 := by have := HVL.out; omega
    obtain ⟨ra, rcap, rfl⟩ := own_slice' hrow
    have hinvK : ∀ key kl, keyOf Tryd.prog 70 key = some kl → ∃ x : Int, key = Value.int .u64 x := fun key kl hk => by
      obtain ⟨x, h9, _⟩ := Maps.keyOf_int_inv und58 hk
      exact ⟨x, h9⟩
    have hinvV : ∀ (v : Value) (y : DataW Unit × List MemPlace), unitElem v = some y → ∃ c : Unit, v = (fun _ => Value.agg #[]) c := fun v y hv => ⟨(), (unitElem_inv hv).1⟩
    go_wp2_with (first | (at_next; refine wpList_next_ranges _ rfl _ rfl 70 key58 unitElem (fun x : Int => Value.int .u64 x) (fun _ : Unit => Value.agg #[]) hinvK hinvV M r n D left cnt rfl hrg ?_ ?_))
    · intro hc0 hl0
      have HAL := hide (fun a ha => HL.out.all hl0 a ha)
      have hpos : 0 < vs.length := by
        rw [HVL.out]
        obtain ⟨a, ha, _⟩ := List.mem_map.1 (HAL.out 0 hn1)
        exact List.length_pos_of_mem ha
      obtain ⟨g, rfl⟩ : ∃ g, ra = some ⟨g, 0, none⟩ := by
        rcases hrow.2 with ⟨h1, h2⟩ | ⟨g', cap, cur, h1, _⟩
        · omega
        · injection h1 with h1; exact ⟨g', h1⟩
      have HSO := hide (sort_ok B0 g rcap vs (A.map fun a => li (lst n (cjq n zs e s a))) wr hrow hls (fun l hl => by
        obtain ⟨p, _, rfl⟩ := List.mem_map.1 hl
        rw [show (li (lst n (cjq n zs e s p))).length = (lst n (cjq n zs e s p)).length by simp [li]]
        exact Nat.le_trans (lst_len _ _) hn) (by omega) hpos)
      clear hrow hls hrg hl0 hinvK hinvV hc0
      go_wp2_with fail
      refine HSO.out.mono ?_
      rintro x w7 ⟨rfl, hb7, ms, hpm, hsr, us, hul, hown7, hls7⟩
      have hBr := hB.trans (hb7.mono (show r ≤ B0 by omega))
      have hB7 := hB4.trans (hBr.mono (show w.heap.size ≤ r by omega))
      have hR7 := (HR4.out).of_eq (hBr.block _ (by omega))
      obtain ⟨_, y0, y1, fy0, fy1, s0, s1⟩ := Two.mk' hR7
      have HSL := hide (show ∃ (B : Nat) (us : List Value), w.heap.size ≤ B ∧ us.length = vs.length ∧ w7.ownsRow B 22 1 (.slice (some ⟨g, 0, none⟩) vs.length rcap) vs.length us ∧ Lsts w7 B (.slice (some ⟨g, 0, none⟩) vs.length rcap) us ms from ⟨B0, us, by omega, hul, hown7, hls7⟩)
      have HSR := hide hsr
      have HPM := hide hpm
      have HB7 := hide hB7
      clear hsr hpm hB7 hb7 hBr hown7 hls7 hul
      go_wp2
      exact bodyPost_ret (v := .tuple #[.slice (some ⟨g, 0, none⟩) vs.length rcap, .agg #[.int .i64 0, .int .i64 0]]) (by simp [results, Tryd.results13, go_sem, y0, y1]) rfl ⟨_, _, _, s, A, ms, rfl, HGR.out, HL.out.lt, HL.out.nd, HAL.out, HPM.out, HSR.out, HSL.out, HB7.out⟩
    · intro x kl y1 y2 w6 cnt6 hkey hlk hv hat hrg6 hlt6 hg6 hs6 hen
      obtain ⟨x', ex, rfl, hwf⟩ := Maps.keyOf_int_inv und58 hkey
      cases ex
      obtain ⟨t, rfl⟩ : ∃ t : Nat, x = t := ⟨x.toNat, by have := wf_nonneg hwf; omega⟩
      obtain ⟨a, ha, hta, hL6⟩ := HL.out.step hlk
      have HL6 := hide hL6
      have HA6 := hide hrg.left_eq
      have HA7 := hide hlt6
      have hB6 : Below r w4 w6 := hB.grown hg6 (by omega) (fun t e => by injection e with e; omega)
      have hrow6 := own_keep2 hrow (fun g h1 h2 => hg6.block g h2 (by simp; omega))
      have hls6 : Lsts w6 B0 (.slice ra vs.length rcap) vs (A.map fun a => li (lst n (cjq n zs e s a))) := hls.keep (by omega) (fun g h1 h2 _ => hg6.block g h2 (by simp; omega)) (.inl rfl)
      have hb9 := list_ok n (cjq n zs e s a) w6 hn (HT4.out.below (by rw [← HRR.out]; exact hB6))
      have HST := hide (show ((A ++ [a]).map fun a => li (lst n (cjq n zs e s a))) = (A.map fun a => li (lst n (cjq n zs e s a))) ++ [li (lst n (cjq n zs e s a))] by
        rw [List.map_append]; rfl)
      have HB9 := hide hb9
      have hl60 : (li (lst n (cjq n zs e s a))).length ≤ 60 := by rw [show (li (lst n (cjq n zs e s a))).length = (lst n (cjq n zs e s a)).length by simp [li]]; exact Nat.le_trans (lst_len _ _) hn
      try simp only at hta
      clear hb9 hL6 hkey hlk hv hat hrg hlt6 hg6 hrow hls hB hinvK hinvV hwf
      subst hta
      generalize li (lst n (cjq n zs e s a)) = lj at *
      generalize hs9 : bs (cjq n zs e s a) n = s9 at *
      have HS9 := hide hs9
      clear hs9
      go_wp2_with fail
      refine HB9.out.mono ?_
      rintro e3 w5x ⟨r9, rfl, hr9, hb5⟩
      have hs66 : r ≤ w6.heap.size := by omega
      have hB5 : Below r w4 w5x := hB6.trans (hb5.mono hs66)
      have hrg5 := hrg6.kept (below_grown' hb5 none) (by simp) (by simp)
      have hrow5 := own_keep2 hrow6 (fun g _ h2 => hb5.block g h2)
      have hls5 : Lsts w5x B0 (.slice ra vs.length rcap) vs (A.map fun a => li (lst n (cjq n zs e s a))) := hls6.keep hb5.size (fun g _ h2 _ => hb5.block g h2) (.inl rfl)
      have hown2 : ∀ g, (Value.slice ra vs.length rcap).ownBlock = some g → g < w6.heap.size := fun g hg => by
        rcases hrow6.2 with ⟨h1, _⟩ | ⟨g', cap, cur, h1, _, hh9, _⟩
        · rw [h1] at hg; simp [Value.ownBlock] at hg
        · rw [h1] at hg
          simp [Value.ownBlock] at hg
          subst hg
          exact (Array.getElem?_eq_some_iff.1 hh9).1
      obtain ⟨qa, qcap, qb, qo, rfl, hq, hq1, hq2, hq3, hq4⟩ := hr9
      have hs5 := hb5.size
      have HQ := hide hq
      clear hrow6 hls6 hb5 hq hrg6 hB6
      go_wp2_with (first
        | (at_builtin; refine wpList_append_own_at _ rfl _ _ 25 rfl B0 22 i0 (.slice none 0 0) 1 24 und38s hi hz0 hz1 hz2 rfl (by decide) _ _ _ rfl (World.ownsRow.alloc hrow5 _) ⟨w5x.heap.size, 0, none⟩ 1 1 [.slice qa lj.length qcap] rfl rfl ?c1 ?c2 ?c3 ?c4 ?c5 ?_))
      case c1 => exact cell_one_new _ _ _
      case c2 => simp [Value.oneCell']
      case c3 => unfold maxLen; omega
      case c4 => omega
      case c5 => simp; omega
      intro v' w8 hown' hgrow hnil hloc
      obtain ⟨ra', rcap', rfl⟩ := own_slice' hown'
      have hB8 : Below r w4 w8 := (hB5.alloc (by omega) _).grown hgrow (by simp; omega) (fun t e => by have := owns_ge hrow5 t e; omega)
      have hrg8 := (hrg5.alloc (.cells #[.slice qa lj.length qcap] 22)).kept hgrow (fun e => by have := owns_ge hrow5 _ e.symm; omega) (fun e => by have := owns_ge hrow5 _ e.symm; omega)
      have hbl : ∀ g, g < w5x.heap.size → (Value.slice ra vs.length rcap).ownBlock ≠ some g → w8.heap[g]? = w5x.heap[g]? := fun g h1 h2 => (hgrow.block g (by simp; omega) (fun e => h2 e.symm)).trans (Below.block (balloc w5x _) g h1)
      have hs8 : w5x.heap.size < w8.heap.size := by have := hgrow.size; simp at this; omega
      have hlo : (Value.slice ra' (vs.length + 1) rcap').ownBlock = (Value.slice ra vs.length rcap).ownBlock ∨ ∀ g, (Value.slice ra' (vs.length + 1) rcap').ownBlock = some g → w5x.heap.size ≤ g := by
        rcases hloc with h | h
        · exact .inl h
        · right; intro g hg; rw [h] at hg; simp at hg; omega
      have hls8 := (hls5.keep (r' := .slice ra' (vs.length + 1) rcap') (by omega) (fun g _ h2 h3 => hbl g h2 h3) hlo).snoc (x := .slice qa lj.length qcap) (l := lj) ⟨qa, qcap, qb, qo, rfl, HQ.out.of_eq (hbl qb hq1 (fun e => by have := hown2 _ e; omega)), by omega, hq2, hq3, by omega, fun g hg e => by
        subst e
        rcases hlo with h | h
        · have := hown2 _ (h ▸ hg); omega
        · have := h _ hg; omega⟩
      have hrow8 : w8.ownsRow B0 22 1 (.slice ra' (vs.length + 1) rcap') (vs ++ [Value.slice qa lj.length qcap]).length (vs ++ [Value.slice qa lj.length qcap]) := by simpa using hown'
      clear hown' hgrow hloc hlo hbl hrow5 hls5 hB5
      go_wp2
      go_roundw
      case rel => exact ⟨A ++ [a], _, _, _, hrg8, HL6, hrow8, by rw [HST.out]; exact hls8, by omega, hB8⟩
      case measure => rw [hrg8.left_eq, HA6.out]; exact HA7.out
end Go.Proofs.YtolbpjjjoafkkaaDoor

namespace Go.Proofs.YtolbpjjjoafkkaaDoor
open Go Go.RowKit

/-- What a function makes of a set, again and again. -/
def itr (nx : (Nat → Bool) → Nat → Bool) (q : Nat → Bool) : Nat → Nat → Bool
  | 0 => q
  | i + 1 => nx (itr nx q i)
theorem und108s : Tryd.prog.underlying 108 = some (.slice 70) := by kernel_rfl
theorem info70b : (Tryd.prog.info? 70).map (fun i => (i.zero, i.size, i.bytes)) = some (some (.int .u64 0), 1, 8) := by kernel_rfl
/-- How far steps goes. -/
structure Stp (n : Nat) (nx : (Nat → Bool) → Nat → Bool) (I : (Nat → Bool) → Prop) (M : (Nat → Bool) → Nat) (q0 : Nat → Bool) (K : Nat) : Prop where
  go : ∀ i, i < K → bs (itr nx q0 (i + 1)) n ≠ bs (itr nx q0 i) n
  inv : ∀ i, i ≤ K → I (itr nx q0 i)
  meas : M (itr nx q0 K) + K ≤ 60
def sets (n : Nat) (f : Nat → Nat → Bool) (k : Nat) : List Value := (List.range k).map fun i => Value.int .u64 (bs (f i) n)
theorem sets_len (n : Nat) (f : Nat → Nat → Bool) (k : Nat) : (sets n f k).length = k := by simp [sets]
theorem sets_at {n : Nat} {f : Nat → Nat → Bool} {k i : Nat} (h : i < k) : (sets n f k)[i]? = some (.int .u64 (bs (f i) n)) := by simp [sets, h]
theorem sets_up (n : Nat) (f : Nat → Nat → Bool) (k : Nat) : sets n f (k + 1) = sets n f k ++ [.int .u64 (bs (f k) n)] := by simp [sets, List.range_succ]
set_option maxRecDepth 100000 in
set_option maxHeartbeats 2000000 in
theorem steps_ok (n k : Nat) (caps : Array Value) (nx : (Nat → Bool) → Nat → Bool) (I : (Nat → Bool) → Prop) (M : (Nat → Bool) → Nat) (q0 : Nat → Bool) (w : World)
    (hcall : ∀ x W, Sem.run Tryd.prog (callFunc k (#[.int .u64 x] ++ caps)) W = .ok (.enter k (#[.int .u64 x] ++ caps)) W)
    (hnx : ∀ (W : World) (q : Nat → Bool), Below w.heap.size w W → I q → Calls Tryd.prog k (#[.int .u64 (bs q n)] ++ caps) W fun x W' => x = .returned (.int .u64 (bs (nx q) n)) ∧ Below W.heap.size W W')
    (hI0 : I q0) (hM0 : M q0 ≤ 60) (hI : ∀ q, I q → bs (nx q) n ≠ bs q n → I (nx q) ∧ M (nx q) < M q) :
    Calls Tryd.prog 104 #[.int .u64 (bs q0 n), .func (.func k) #[] caps] w fun x w' => ∃ K g c : Nat, x = .returned (.slice (some ⟨g, 0, none⟩) (K + 1) c) ∧ Stp n nx I M q0 K ∧ bs (itr nx q0 (K + 1)) n = bs (itr nx q0 K) n ∧ w'.ownsRow w.heap.size 70 1 (.slice (some ⟨g, 0, none⟩) (K + 1) c) (K + 1) (sets n (itr nx q0) (K + 1)) ∧ Below w.heap.size w w' := by
  obtain ⟨i0, hi, hz0, hz1, hz2⟩ := info_parts info70b
  have HNX := hide hnx
  have HI := hide hI
  clear hnx hI
  have hrow0 : (w.alloc (.cells #[.int .u64 (bs q0 n)] 70)).ownsRow w.heap.size 70 1 (.slice (some ⟨w.heap.size, 0, none⟩) 1 1) 1 [.int .u64 (bs q0 n)] := World.ownsRow_lit (e := 70) (size := 1) w #[.int .u64 (bs q0 n)] 1 (Nat.le_refl _) (by unfold maxLen; omega) rfl
  have hB0 : Below w.heap.size w (w.alloc (.cells #[.int .u64 (bs q0 n)] 70)) := balloc w _
  go_enter Tryd.func104, Tryd.ntmps104
  go_wp2_with fail
  go_loopw [5] (fun ls wr => ∃ K g c : Nat, ls = .slice (some ⟨g, 0, none⟩) (K + 1) c ∧ Hid (Stp n nx I M q0 K) ∧ wr.ownsRow w.heap.size 70 1 (.slice (some ⟨g, 0, none⟩) (K + 1) c) (K + 1) (sets n (itr nx q0) (K + 1)) ∧ Below w.heap.size w wr) (fun ls _ => 70 - lenOf ls)
  case atStart => exact ⟨0, _, _, rfl, hide ⟨fun i h => by omega, fun i h => by rw [show i = 0 by omega]; exact hI0, hM0⟩, hrow0, hB0⟩
  case round =>
    clear hrow0 hB0 hI0 hM0
    obtain ⟨K, g, c, rfl, HS, hrow, hB⟩ := hrel
    have hK := HS.out.meas
    have hc := hrow.cells (g := g) rfl K _ (sets_at (by omega))
    rw [show (⟨g, 0, none⟩ : Addr).add K = ⟨g, K, none⟩ by unfold Addr.add; split <;> simp_all] at hc
    have hk1 : (((K + 1 : Nat) : Int) - 1) = (K : Int) := by omega
    have HN := hide (fun W (h : Below w.heap.size w W) => HNX.out W (itr nx q0 K) h (HS.out.inv K (Nat.le_refl _)))
    have HE := hide (show itr nx q0 (K + 1) = nx (itr nx q0 K) from rfl)
    rw [← HE.out] at HN
    go_wp2_with fail
    refine (HN.out _ hB).mono ?_
    rintro x w1 ⟨rfl, hb1⟩
    have hB1 := bcat2 hB hb1
    have hrow1 := own_keep2 hrow (fun g9 h1 h2 => hb1.block g9 h2)
    by_cases heq : bs (itr nx q0 (K + 1)) n = bs (itr nx q0 K) n
    · have HQ := hide heq
      rw [heq]
      go_wp2
      go_ret
      exact ⟨K, g, c, rfl, HS.out, HQ.out, hrow1, hB1⟩
    · have hne : ¬ ((bs (itr nx q0 (K + 1)) n : Int) = (bs (itr nx q0 K) n : Int)) := by omega
      have HS2 : Hid (Stp n nx I M q0 (K + 1)) := hide (by
        have h9 := HI.out _ (HS.out.inv K (Nat.le_refl _)) (by rw [← HE.out]; exact heq)
        rw [← HE.out] at h9
        refine ⟨fun i h => ?_, fun i h => ?_, by omega⟩
        · by_cases h1 : i = K
          · rw [h1]; exact heq
          · exact HS.out.go i (by omega)
        · by_cases h1 : i = K + 1
          · rw [h1]; exact h9.1
          · exact HS.out.inv i (by omega))
      have HUP := hide (sets_up n (itr nx q0) (K + 1))
      have hsl := sets_len n (itr nx q0) (K + 1)
      have hb8 := hB1.size
      clear heq hrow hB hb1 hc
      generalize bs (itr nx q0 (K + 1)) n = Y9 at *
      generalize bs (itr nx q0 K) n = X9 at *
      go_wp2_with (first
        | (at_builtin; refine wpList_append_own_at _ rfl _ _ 108 rfl w.heap.size 70 i0 (.int .u64 0) 1 8 und108s hi hz0 hz1 hz2 rfl (by decide) _ _ _ rfl (World.ownsRow.alloc hrow1 _) ⟨w1.heap.size, 0, none⟩ 1 1 [.int .u64 Y9] rfl rfl ?c1 ?c2 ?c3 ?c4 ?c5 ?_))
      case c1 => exact cell_one_new _ _ _
      case c2 => simp [Value.oneCell']
      case c3 => unfold maxLen; omega
      case c4 => omega
      case c5 => simp; omega
      intro v' w8 hown' hgrow hnil hloc
      have hB8 : Below w.heap.size w w8 := (hB1.alloc (by omega) _).grown hgrow (by simp; omega) (fun t e => by have := owns_ge hrow1 t e; omega)
      obtain ⟨g8, c8, rfl⟩ := ownsRow_succ hown'
      have hrow8 : w8.ownsRow w.heap.size 70 1 (.slice (some ⟨g8, 0, none⟩) (K + 1 + 1) c8) (K + 1 + 1) (sets n (itr nx q0) (K + 1 + 1)) := by
        rw [HUP.out]
        simpa using hown'
      clear hown' hgrow hloc hrow1 hB1
      go_wp2
      go_roundw
      case rel => exact ⟨K + 1, g8, c8, rfl, HS2, hrow8, hB8⟩
      case measure => simp [lenOf]; omega
end Go.Proofs.YtolbpjjjoafkkaaDoor

namespace Go.Proofs.YtolbpjjjoafkkaaDoor
open Go Go.RowKit

section
variable {n e : Nat} {zs : List Int} {q r : Nat → Bool}
/-- What the commutators of two sets make. -/
noncomputable def cmb (n : Nat) (zs : List Int) (e : Nat) (q r : Nat → Bool) : Nat → Bool := (mkd_ex' n zs e (cmq n zs e (lst n q) (lst n r))).choose
theorem cmb_iff (n : Nat) (zs : List Int) (e : Nat) (q r : Nat → Bool) : ∀ a, a < n → (cmb n zs e q r a = true ↔ Mkd n zs e (cmq n zs e (lst n q) (lst n r)) a) := (mkd_ex' n zs e (cmq n zs e (lst n q) (lst n r))).choose_spec
theorem cmq_iff {y : Nat} : cmq n zs e (lst n q) (lst n r) y = true ↔ ∃ a b, a < n ∧ b < n ∧ q a = true ∧ r b = true ∧ Fin.cm (tm n zs) (iv n zs e) a b = y := by
  unfold cmq
  simp only [List.any_eq_true, decide_eq_true_eq, mem_lst]
  exact ⟨fun ⟨a, ⟨h1, h2⟩, b, ⟨h3, h4⟩, h5⟩ => ⟨a, b, h1, h3, h2, h4, h5⟩, fun ⟨a, b, h1, h3, h2, h4, h5⟩ => ⟨a, ⟨h1, h2⟩, b, ⟨h3, h4⟩, h5⟩⟩
theorem cmb_sg (g : IsGrp n zs e) : Fin.Sg (List.range n) (tm n zs) e (fun a => cmb n zs e q r a = true) := made_sg g (cmb_iff n zs e q r)
theorem cmb_in {P : Nat → Prop} (S : Fin.Sg (List.range n) (tm n zs) e P) (h : ∀ a b, a < n → b < n → q a = true → r b = true → P (Fin.cm (tm n zs) (iv n zs e) a b)) {x : Nat} (hx : x < n) (h1 : cmb n zs e q r x = true) : P x :=
  Fin.Gen.least S (fun y _ h2 => by
    obtain ⟨a, b, ha, hb, h3, h4, rfl⟩ := cmq_iff.1 h2
    exact h a b ha hb h3 h4) ((cmb_iff n zs e q r x hx).1 h1)
theorem cm_lt (g : IsGrp n zs e) {a b : Nat} (ha : a < n) (hb : b < n) : Fin.cm (tm n zs) (iv n zs e) a b < n := List.mem_range.1 (Fin.cm_mem (grp_fg g) (grp_iv g) (List.mem_range.2 ha) (List.mem_range.2 hb))
theorem cmb_base (g : IsGrp n zs e) {a b : Nat} (ha : a < n) (hb : b < n) (h1 : q a = true) (h2 : r b = true) : cmb n zs e q r (Fin.cm (tm n zs) (iv n zs e) a b) = true :=
  (cmb_iff n zs e q r _ (cm_lt g ha hb)).2 (Fin.Gen.base (List.mem_range.2 (cm_lt g ha hb)) (cmq_iff.2 ⟨a, b, ha, hb, h1, h2, rfl⟩))
theorem cm_as (g : IsGrp n zs e) {a b : Nat} (ha : a < n) (hb : b < n) : Fin.cm (tm n zs) (iv n zs e) a b = tm n zs (iv n zs e a) (Fin.cj (tm n zs) (iv n zs e) a b) := by
  unfold Fin.cm Fin.cj
  rw [g.ass _ _ _ (iv_spec g ha).1 (iv_spec g hb).1 (tm_lt g.tab ha hb)]
/-- A normal subgroup. -/
structure Nsg (n : Nat) (zs : List Int) (e : Nat) (q : Nat → Bool) : Prop where
  sg : Fin.Sg (List.range n) (tm n zs) e (fun a => q a = true)
  nm : Fin.Nm (List.range n) (tm n zs) (iv n zs e) (fun a => q a = true)
theorem Nsg.cm_in (g : IsGrp n zs e) (h : Nsg n zs e q) {a b : Nat} (ha : a < n) (hb : b < n) (hq : q a = true) : q (Fin.cm (tm n zs) (iv n zs e) a b) = true := by
  have F := grp_fg g
  have V := grp_iv g
  have ha' := List.mem_range.2 ha
  have hb' := List.mem_range.2 hb
  rw [cm_as g ha hb]
  exact h.sg.mul _ _ (V a ha').1 (Fin.cj_mem F V ha' hb') (h.sg.inv F ha' (V a ha').1 (V a ha').2.1 hq) (h.nm a b ha' hb' hq)
theorem Nsg.all : Nsg n zs e (fun _ => true) := ⟨⟨rfl, fun _ _ _ _ _ _ => rfl⟩, fun _ _ _ _ _ => rfl⟩
theorem Nsg.low (g : IsGrp n zs e) (h : Nsg n zs e q) : Nsg n zs e (cmb n zs e q (fun _ => true)) := by
  have F := grp_fg g
  have V := grp_iv g
  refine ⟨cmb_sg g, fun x a hx ha h1 => ?_⟩
  have hm := Fin.cj_mem F V hx ha
  refine (cmb_iff n zs e q _ _ (List.mem_range.1 hm)).2 ?_
  refine Fin.gen_nm F V (X := fun y => cmq n zs e (lst n q) (lst n fun _ => true) y = true) (fun y b hy hb h2 => ?_) x a hx ha ((cmb_iff n zs e q _ x (List.mem_range.1 hx)).1 h1)
  obtain ⟨c, d, hc, hd, h3, _, rfl⟩ := cmq_iff.1 h2
  have hc' := List.mem_range.2 hc
  have hd' := List.mem_range.2 hd
  rw [Fin.cm_cj F V hc' hd' hb]
  exact cmq_iff.2 ⟨_, _, List.mem_range.1 (Fin.cj_mem F V hc' hb), List.mem_range.1 (Fin.cj_mem F V hd' hb), h.nm c b hc' hb h3, rfl, rfl⟩
theorem low_in (g : IsGrp n zs e) (h : Nsg n zs e q) {x : Nat} (hx : x < n) (h1 : cmb n zs e q (fun _ => true) x = true) : q x = true :=
  cmb_in h.sg (fun _ _ ha hb h2 _ => h.cm_in g ha hb h2) hx h1
theorem der_in (g : IsGrp n zs e) (S : Fin.Sg (List.range n) (tm n zs) e (fun a => q a = true)) {x : Nat} (hx : x < n) (h1 : cmb n zs e q q x = true) : q x = true := by
  have F := grp_fg g
  have V := grp_iv g
  refine cmb_in S (fun a b ha hb h2 h3 => ?_) hx h1
  have ha' := List.mem_range.2 ha
  have hb' := List.mem_range.2 hb
  have i1 := S.inv F ha' (V a ha').1 (V a ha').2.1 h2
  have i2 := S.inv F hb' (V b hb').1 (V b hb').2.1 h3
  exact S.mul _ _ (F.cl _ _ (V a ha').1 (V b hb').1) (F.cl _ _ ha' hb') (S.mul _ _ (V a ha').1 (V b hb').1 i1 i2) (S.mul _ _ ha' hb' h2 h3)
theorem less_of (n : Nat) {p q : Nat → Bool} (h : ∀ x, x < n → p x = true → q x = true) (hne : bs p n ≠ bs q n) : (lst n p).length < (lst n q).length :=
  (lst_less h).2 (Classical.byContradiction fun h9 => hne (bs_ext fun x hx => by
    rw [Bool.eq_iff_iff]
    exact ⟨h x hx, fun h1 => Classical.byContradiction fun h2 => h9 ⟨x, hx, h1, h2⟩⟩))
end

theorem own_le {w : World} {B B' n : Nat} {t : TypeId} {v : Value} {xs : List Value} (h : w.ownsRow B t 1 v n xs) (hb : B' ≤ B) : w.ownsRow B' t 1 v n xs := by
  refine ⟨h.1, ?_⟩
  rcases h.2 with h1 | ⟨g, cap, cur, h1, h2, h3⟩
  · exact .inl h1
  · exact .inr ⟨g, cap, cur, h1, by omega, h3⟩
theorem call105 (x : Int) (y : Value) (W : World) : Sem.run Tryd.prog (callFunc 105 (#[.int .u64 x] ++ #[y])) W = .ok (.enter 105 (#[.int .u64 x] ++ #[y])) W := by kernel_rfl
theorem call107s (x : Int) (y : Value) (W : World) : Sem.run Tryd.prog (callFunc 107 (#[.int .u64 x] ++ #[y])) W = .ok (.enter 107 (#[.int .u64 x] ++ #[y])) W := by kernel_rfl
set_option maxRecDepth 100000 in
theorem der1_ok (n : Nat) (v u : Value) (zs : List Int) (e gb : Nat) (q : Nat → Bool) (w : World) (hG : GA w n v e u zs) (hT : Tab w) (hb : Box4 w gb n e v u) :
    Calls Tryd.prog 105 (#[.int .u64 (bs q n)] ++ #[.pointer (some ⟨gb, 0, none⟩)]) w fun x w' => x = .returned (.int .u64 (bs (cmb n zs e q q) n)) ∧ Below w.heap.size w w' := by
  show Calls Tryd.prog 105 #[.int .u64 (bs q n), .pointer (some ⟨gb, 0, none⟩)] w _
  have HC := hide (cmms_ok n v u zs e q q (cmb n zs e q q) w hG hT (cmb_iff n zs e q q))
  obtain ⟨c0, c1, c2, c3⟩ := hb.cells
  go_enter Tryd.func105, Tryd.ntmps105
  go_wp2_with fail
  refine HC.out.mono ?_
  rintro x w1 ⟨rfl, hb1⟩
  go_wp2
  go_ret
  exact ⟨rfl, hb1⟩
set_option maxRecDepth 100000 in
set_option maxHeartbeats 1000000 in
theorem low1_ok (n : Nat) (v u : Value) (zs : List Int) (e gb : Nat) (q : Nat → Bool) (w : World) (hG : GA w n v e u zs) (hT : Tab w) (hb : Box4 w gb n e v u) :
    Calls Tryd.prog 107 (#[.int .u64 (bs q n)] ++ #[.pointer (some ⟨gb, 0, none⟩)]) w fun x w' => x = .returned (.int .u64 (bs (cmb n zs e q fun _ => true) n)) ∧ Below w.heap.size w w' := by
  show Calls Tryd.prog 107 #[.int .u64 (bs q n), .pointer (some ⟨gb, 0, none⟩)] w _
  have HC := hide (fun W (h : Below w.heap.size w W) => cmms_ok n v u zs e q (fun _ => true) (cmb n zs e q fun _ => true) W (hG.below h) (hT.below h) (cmb_iff n zs e q _))
  have HA := hide (fun W => all_ok n v u e W hG.le)
  obtain ⟨c0, c1, c2, c3⟩ := hb.cells
  have hS : ∀ W, Below w.heap.size w W → (Below w.heap.size w W ∧ W.cell? ⟨gb, 0, none⟩ = some (.int .i64 n) ∧ W.cell? ⟨gb, 1, none⟩ = some v ∧ W.cell? ⟨gb, 2, none⟩ = some (.int .i64 e) ∧ W.cell? ⟨gb, 3, none⟩ = some u) := fun W h => ⟨h, below_cell h c0, below_cell h c1, below_cell h c2, below_cell h c3⟩
  have hS0 := hS _ (bdrew (Below.refl _ w))
  generalize bs (cmb n zs e q fun _ => true) n = C9 at *
  generalize bs (fun _ => true) n = A9 at *
  generalize bs q n = Q9 at *
  go_enter Tryd.func107, Tryd.ntmps107
  go_wp2_with fail
  clear c0 c1 c2 c3
  go_region_held3 (fun W => Below w.heap.size w W ∧ W.cell? ⟨gb, 0, none⟩ = some (.int .i64 n) ∧ W.cell? ⟨gb, 1, none⟩ = some v ∧ W.cell? ⟨gb, 2, none⟩ = some (.int .i64 e) ∧ W.cell? ⟨gb, 3, none⟩ = some u)
    (first | exact hS0 | assumption | exact hS _ (bcat2 (And.left ‹_›) hl1))
    (first
      | (go_at_call 60; refine (HA.out _).mono ?_; rintro e1 W1 ⟨rfl, hl1⟩)
      | (go_at_call 106; refine (HC.out _ (And.left ‹_›)).mono ?_; rintro e2 W2 ⟨rfl, hl1⟩))
  all_goals (
    have hB9 := And.left ‹Below w.heap.size w W2 ∧ _›
    go_wp2
    go_ret
    exact ⟨rfl, hB9⟩)
/-- What derived and lower answer. -/
def SerA (w w' : World) (n : Nat) (nx : (Nat → Bool) → Nat → Bool) (I : (Nat → Bool) → Prop) (M : (Nat → Bool) → Nat) (q0 : Nat → Bool) (x : Value) : Prop := ∃ K g c : Nat, x = .slice (some ⟨g, 0, none⟩) (K + 1) c ∧ Stp n nx I M q0 K ∧ bs (itr nx q0 (K + 1)) n = bs (itr nx q0 K) n ∧ w'.ownsRow w.heap.size 70 1 (.slice (some ⟨g, 0, none⟩) (K + 1) c) (K + 1) (sets n (itr nx q0) (K + 1))
set_option maxRecDepth 100000 in
theorem derived_ok (n : Nat) (v u : Value) (zs : List Int) (e : Nat) (w : World) (hG : GA w n v e u zs) (hT : Tab w) :
    Calls Tryd.prog 76 #[.agg #[.int .i64 n, v, .int .i64 e, u]] w fun x w' => ∃ y, x = .returned y ∧ SerA w w' n (fun q => cmb n zs e q q) (fun q => Fin.Sg (List.range n) (tm n zs) e (fun a => q a = true)) (fun q => (lst n q).length) (fun _ => true) y ∧ Below w.heap.size w w' := by
  have hg := hG.grp
  have hn := hG.le
  have hB0 : Below w.heap.size w (w.alloc (.cells #[.int .i64 n, v, .int .i64 e, u] 64)) := balloc w _
  have hX0 := Box4.new w n e v u
  obtain ⟨c0, c1, c2, c3⟩ := hX0.cells
  go_enter Tryd.func76, Tryd.ntmps76
  go_wp2_with fail
  clear c0 c1 c2 c3
  generalize w.alloc (.cells #[.int .i64 n, v, .int .i64 e, u] 64) = w0 at *
  refine (all_ok n v u e w0 hn).mono ?_
  rintro x w1 ⟨rfl, hb1⟩
  have hB1 := bcat2 hB0 hb1
  have hX1 := hX0.below hb1
  go_wp2_with fail
  refine (steps_ok n 105 #[.pointer (some ⟨w.heap.size, 0, none⟩)] (fun q => cmb n zs e q q) (fun q => Fin.Sg (List.range n) (tm n zs) e (fun a => q a = true)) (fun q => (lst n q).length) (fun _ => true) w1 (fun x W => call105 x _ W) (fun W q h _ => der1_ok n v u zs e _ q W (hG.below (bcat2 hB1 h)) (hT.below (bcat2 hB1 h)) (hX1.below h)) Nsg.all.sg (Nat.le_trans (lst_len _ _) hn) (fun q h1 h2 => ⟨cmb_sg hg, less_of n (fun x hx h3 => der_in hg h1 hx h3) h2⟩)).mono ?_
  rintro x w2 ⟨K, g, c, rfl, hst, hend, hrow, hb2⟩
  have hrow2 := own_le hrow hB1.size
  have hB2 := bcat2 hB1 hb2
  go_wp2
  go_ret
  exact ⟨_, rfl, ⟨K, g, c, rfl, hst, hend, hrow2⟩, hB2⟩
set_option maxRecDepth 100000 in
theorem lower_ok (n : Nat) (v u : Value) (zs : List Int) (e : Nat) (w : World) (hG : GA w n v e u zs) (hT : Tab w) :
    Calls Tryd.prog 77 #[.agg #[.int .i64 n, v, .int .i64 e, u]] w fun x w' => ∃ y, x = .returned y ∧ SerA w w' n (fun q => cmb n zs e q fun _ => true) (Nsg n zs e) (fun q => (lst n q).length) (fun _ => true) y ∧ Below w.heap.size w w' := by
  have hg := hG.grp
  have hn := hG.le
  have hB0 : Below w.heap.size w (w.alloc (.cells #[.int .i64 n, v, .int .i64 e, u] 64)) := balloc w _
  have hX0 := Box4.new w n e v u
  obtain ⟨c0, c1, c2, c3⟩ := hX0.cells
  go_enter Tryd.func77, Tryd.ntmps77
  go_wp2_with fail
  clear c0 c1 c2 c3
  generalize w.alloc (.cells #[.int .i64 n, v, .int .i64 e, u] 64) = w0 at *
  refine (all_ok n v u e w0 hn).mono ?_
  rintro x w1 ⟨rfl, hb1⟩
  have hB1 := bcat2 hB0 hb1
  have hX1 := hX0.below hb1
  go_wp2_with fail
  refine (steps_ok n 107 #[.pointer (some ⟨w.heap.size, 0, none⟩)] (fun q => cmb n zs e q fun _ => true) (Nsg n zs e) (fun q => (lst n q).length) (fun _ => true) w1 (fun x W => call107s x _ W) (fun W q h _ => low1_ok n v u zs e _ q W (hG.below (bcat2 hB1 h)) (hT.below (bcat2 hB1 h)) (hX1.below h)) Nsg.all (Nat.le_trans (lst_len _ _) hn) (fun q h1 h2 => ⟨h1.low hg, less_of n (fun x hx h3 => low_in hg h1 hx h3) h2⟩)).mono ?_
  rintro x w2 ⟨K, g, c, rfl, hst, hend, hrow, hb2⟩
  have hrow2 := own_le hrow hB1.size
  have hB2 := bcat2 hB1 hb2
  go_wp2
  go_ret
  exact ⟨_, rfl, ⟨K, g, c, rfl, hst, hend, hrow2⟩, hB2⟩
end Go.Proofs.YtolbpjjjoafkkaaDoor

namespace Go.Proofs.YtolbpjjjoafkkaaDoor
open Go Go.RowKit Go.Maps

set_option maxRecDepth 100000 in
set_option maxHeartbeats 4000000 in
theorem score_bad (N p c i : Int) (v : Value) (w : World) (hc : c ≠ 0)
    (hop : ∀ W, Below w.heap.size w W → Calls Tryd.prog 54 #[.agg #[.int .i64 N, v], .int .i64 p] W fun x w' => x = .returned (.tuple #[.agg #[.int .i64 0, .slice none 0 0, .int .i64 0, .slice none 0 0], .agg #[.int .i64 c, .int .i64 i]]) ∧ Below W.heap.size W w') :
    Calls Tryd.prog 15 #[.agg #[.int .i64 N, v], .int .i64 p] w fun x w' => x = .returned (.tuple #[.slice none 0 0, .agg #[.int .i64 c, .int .i64 i]]) ∧ Below w.heap.size w w' := by
  obtain ⟨w0, BG⟩ := Beg.new w N v
  have HCK := hide (hop w0 BG.bel)
  clear hop
  obtain ⟨c0, c1, _, _⟩ := BG.box.two
  have hcb : (c != 0) = true := by simpa using hc
  rw [BG.eq] at c0 c1
  go_enter Tryd.func15, Tryd.ntmps15
  go_wp2_with fail
  rw [← BG.eq]
  refine HCK.out.mono ?_
  rintro x w1 ⟨rfl, hb1⟩
  clear c0 c1
  obtain ⟨w2, hw2⟩ : ∃ w2, w2 = (w1.alloc (.cells #[.int .i64 0, .slice none 0 0, .int .i64 0, .slice none 0 0] 64)).alloc (.cells #[.int .i64 c, .int .i64 i] 27) := ⟨_, rfl⟩
  have hB1 : Below w0.heap.size w0 w2 := by rw [hw2]; exact bcat2 hb1 ((balloc w1 _).alloc (by simp) _)
  have hF1 : Blk w2 (w1.heap.size + 1) 27 [.int .i64 c, .int .i64 i] := by
    rw [hw2]
    have := blk0 (w := w1.alloc (.cells #[.int .i64 0, .slice none 0 0, .int .i64 0, .slice none 0 0] 64)) (T := 27) (.int .i64 c) (.int .i64 i)
    rwa [World.size_alloc] at this
  have hR1 := blk_below BG.res hB1
  have hBw := bcat BG.bel hB1 BG.bel.size
  obtain ⟨y0, y1, fy0, fy1⟩ := hR1.two
  obtain ⟨t0, t1, _, _⟩ := hF1.two
  rw [hw2] at t0 t1
  go_wp2_with fail
  rw [← hw2]
  rw [← hw2] at t0 t1
  clear hw2
  go_region
  all_goals (
    go_wp2
    obtain ⟨hR6, hB6⟩ := put2 hR1 hBw (by omega) c i
    have hB7 := bdrew hB6
    have hR7 : Blk ((w2.setCell ⟨w.heap.size + 1, 0, none⟩ (.int .i64 c)).setCell ⟨w.heap.size + 1, 1, none⟩ (.int .i64 i)).drew (w.heap.size + 1) 27 [.int .i64 c, .int .i64 i] := hR6
    generalize ((w2.setCell ⟨w.heap.size + 1, 0, none⟩ (.int .i64 c)).setCell ⟨w.heap.size + 1, 1, none⟩ (.int .i64 i)).drew = W at hR7 hB7 ⊢
    obtain ⟨z0, z1, _, _⟩ := hR7.two
    exact bodyPost_ret (v := .tuple #[.slice none 0 0, .agg #[.int .i64 c, .int .i64 i]]) (by simp [results, Tryd.results15, go_sem, z0, z1]) rfl ⟨rfl, hB7⟩)
/-- What is in all conjugates by some things. -/
def cin (n : Nat) (zs : List Int) (e : Nat) (s : Nat → Bool) (A : List Nat) (x : Nat) : Bool := A.all fun a => cjq n zs e s a x
theorem cin_snoc (n : Nat) (zs : List Int) (e : Nat) (s : Nat → Bool) (A : List Nat) (a : Nat) : cin n zs e s (A ++ [a]) = fun x => cin n zs e s A x && cjq n zs e s a x := by
  funext x
  simp [cin]
set_option maxRecDepth 100000 in
set_option maxHeartbeats 4000000 in
theorem score_good (n e p : Nat) (v : Value) (zs : List Int) (w : World) (hv : Sl w v zs) (hg : IsGrp n zs e) (hT : Tab w) (hpr : primeB p = true) :
    Calls Tryd.prog 15 #[.agg #[.int .i64 n, v], .int .i64 p] w fun x w' => ∃ (r : Value) (s : Nat → Bool) (A : List Nat), x = .returned (.tuple #[r, .agg #[.int .i64 0, .int .i64 0]]) ∧ Grown n zs e p s ∧ (∀ a, a ∈ A → a < n) ∧ (∀ a, a < n → bs (cjq n zs e s a) n ∈ A.map fun a => bs (cjq n zs e s a) n) ∧ SlF w.heap.size w' r (li (lst n (cin n zs e s A))) ∧ Below w.heap.size w w' := by
  have hp2 : 2 ≤ p ∧ p ≤ 100 := by
    have := of_decide_eq_true hpr
    omega
  obtain ⟨va, vl, vc, rfl⟩ := hv.isSlice
  obtain ⟨w0, BG⟩ := Beg.new w n (.slice va vl vc)
  have hv0 := hv.below BG.bel
  obtain ⟨c0, c1, _, _⟩ := BG.box.two
  have HCK := hide (sopen_good n e p (.slice va vl vc) zs w0 hv0 hg hpr)
  have HZ0 := hide (show w.heap.size + 2 ≤ w0.heap.size by rw [BG.eq]; simp)
  rw [BG.eq] at c0 c1
  go_enter Tryd.func15, Tryd.ntmps15
  go_wp2_with fail
  rw [← BG.eq]
  refine HCK.out.mono ?_
  rintro x w1 ⟨iv9, rfl, hSI, hb1⟩
  obtain ⟨ia, il, ic, rfl⟩ := hSI.sl.isSlice
  clear c0 c1 HCK
  obtain ⟨w2, hw2⟩ : ∃ w2, w2 = (w1.alloc (.cells #[.int .i64 n, (.slice va vl vc), .int .i64 e, (.slice ia il ic)] 64)).alloc (.cells #[.int .i64 0, .int .i64 0] 27) := ⟨_, rfl⟩
  have hb2 : Below w1.heap.size w1 w2 := by rw [hw2]; exact (balloc w1 _).alloc (by simp) _
  have hB1 : Below w0.heap.size w0 w2 := bcat2 hb1 hb2
  have hF1 : Blk w2 (w1.heap.size + 1) 27 [.int .i64 0, .int .i64 0] := by
    rw [hw2]
    have := blk0 (w := w1.alloc (.cells #[.int .i64 n, (.slice va vl vc), .int .i64 e, (.slice ia il ic)] 64)) (T := 27) (.int .i64 0) (.int .i64 0)
    rwa [World.size_alloc] at this
  have hH2 : Blk w2 w1.heap.size 64 [.int .i64 n, (.slice va vl vc), .int .i64 e, (.slice ia il ic)] := by
    rw [hw2]; exact (blk4 _ _ _ _).alloc _
  have hBw2 := bcat BG.bel hB1 BG.bel.size
  have hR2 := blk_below BG.res hB1
  have hT2 := hT.below hBw2
  have hGA2 : GA w2 n (.slice va vl vc) e (.slice ia il ic) zs := ⟨hg, hv.below hBw2, (hSI.below hb2).sl⟩
  obtain ⟨t0, t1, _, _⟩ := hF1.two
  obtain ⟨_, h0, h1, h2, h3, _⟩ := Four.mk' hH2
  have hx2 := blk_below BG.box hB1
  have HZ1 := hide (Nat.le_trans HZ0.out hb1.size)
  have HZ2 := hide hb2.size
  rw [hw2] at t0 t1 h0 h1 h2 h3
  go_wp2_with fail
  rw [← hw2]
  rw [← hw2] at t0 t1 h0 h1 h2 h3
  clear hw2 t0 t1
  refine (all_ok n (.slice va vl vc) (.slice ia il ic) e w2 hg.tab.le).mono ?_
  rintro x w3 ⟨rfl, hb3⟩
  have hH3 := blk_below hH2 hb3
  clear h0 h1 h2 h3
  obtain ⟨_, h0, h1, h2, h3, _⟩ := Four.mk' hH3
  go_wp2_with fail
  refine (sgs_ok n e p (.slice va vl vc) (.slice ia il ic) zs w3 (hGA2.below hb3) (hT2.below hb3) hp2.1 hp2.2).mono ?_
  rintro x w4 ⟨s, M, rfl, hM, hgr, ⟨D, hown4, hD⟩, hb4⟩
  have hb34 := bcat2 hb3 hb4
  have hB4 := bcat2 hBw2 hb34
  have hR4 := blk_below hR2 hb34
  have HGR := hide hgr
  have HT4 := hide (hT.below hB4)
  have HR4 := hide hR4
  have hn := hg.tab.le
  have hM4 : M < w4.heap.size := hown4.lt
  have HL0 := hide (show Lft (fun a => bs (cjq n zs e s a) n) n [] (Maps.has D) from ⟨by simp, by simp, fun t => by rw [hD t]; simp⟩)
  clear hgr hR4 h0 h1 h2 h3 hD
  go_wp2_with (first | (at_range; refine wpList_range_own _ rfl _ 67 rfl 70 96 key58 und69 _ M n D rfl hown4 ?_; intro w5 hrg5 hg5 hs5))
  go_frame
  have hB5 : Below w4.heap.size w4 w5 := (Below.refl _ w4).grown hg5 (Nat.le_refl _) (by simp)
  obtain ⟨r, hr⟩ : ∃ r, r = w4.heap.size := ⟨_, rfl⟩
  have hs55 : r ≤ w5.heap.size := by rw [hs5, hr]; omega
  rw [← hr] at hrg5 hM4 hB5 ⊢
  have HRR := hide hr
  have hwr : w.heap.size + 1 < r := by rw [hr]; exact HR4.out.lt
  clear hr
  clear hown4 hg5 hs5
  go_loopw [8] (fun cs wr => ∃ (A : List Nat) (left : Lit → Bool) (cnt : Nat), wr.ranges Tryd.prog 70 unitElem M r n D left cnt ∧ Hid (Lft (fun a => bs (cjq n zs e s a) n) n A left) ∧ cs = .int .u64 (bs (cin n zs e s A) n) ∧ r ≤ wr.heap.size ∧ Below r w4 wr) (fun _ wr => wr.rangeLeft M r)
  case atStart => exact ⟨[], _, _, hrg5, HL0, rfl, hs55, hB5⟩
  case round =>
    clear hrg5 hB5 HL0 hs55
    obtain ⟨A, left, cnt, hrg, HL, rfl, hsz, hB⟩ := hrel
    have hinvK : ∀ key kl, keyOf Tryd.prog 70 key = some kl → ∃ x : Int, key = Value.int .u64 x := fun key kl hk => by
      obtain ⟨x, h9, _⟩ := Maps.keyOf_int_inv und58 hk
      exact ⟨x, h9⟩
    have hinvV : ∀ (v : Value) (y : DataW Unit × List MemPlace), unitElem v = some y → ∃ c : Unit, v = (fun _ => Value.agg #[]) c := fun v y hv => ⟨(), (unitElem_inv hv).1⟩
    go_wp2_with (first | (at_next; refine wpList_next_ranges _ rfl _ rfl 70 key58 unitElem (fun x : Int => Value.int .u64 x) (fun _ : Unit => Value.agg #[]) hinvK hinvV M r n D left cnt rfl hrg ?_ ?_))
    · intro hc0 hl0
      have HAL := hide (fun a ha => HL.out.all hl0 a ha)
      have HLI := hide (list_ok n (cin n zs e s A) wr hn (HT4.out.below (by rw [← HRR.out]; exact hB)))
      clear hrg hl0 hinvK hinvV hc0
      go_wp2_with fail
      refine HLI.out.mono ?_
      rintro x w7 ⟨q, rfl, hq, hb7⟩
      have hBr := hB.trans (hb7.mono hsz)
      have hB7 := hB4.trans (hBr.mono (show w.heap.size ≤ r by omega))
      have hR7 := (HR4.out).of_eq (hBr.block _ (by omega))
      obtain ⟨_, y0, y1, fy0, fy1, s0, s1⟩ := Two.mk' hR7
      have hq9 := hq.mono (show w.heap.size ≤ wr.heap.size by omega)
      have HB7 := hide hB7
      clear hB7 hb7 hBr
      go_wp2
      exact bodyPost_ret (v := .tuple #[q, .agg #[.int .i64 0, .int .i64 0]]) (by simp [results, Tryd.results15, go_sem, y0, y1]) rfl ⟨_, s, A, rfl, HGR.out, HL.out.lt, HAL.out, hq9, HB7.out⟩
    · intro x kl y1 y2 w6 cnt6 hkey hlk hv hat hrg6 hlt6 hg6 hs6 hen
      obtain ⟨x', ex, rfl, hwf⟩ := Maps.keyOf_int_inv und58 hkey
      cases ex
      obtain ⟨t, rfl⟩ : ∃ t : Nat, x = t := ⟨x.toNat, by have := wf_nonneg hwf; omega⟩
      obtain ⟨a, ha, hta, hL6⟩ := HL.out.step hlk
      have HL6 := hide hL6
      have HA6 := hide hrg.left_eq
      have HA7 := hide hlt6
      have hB6 : Below r w4 w6 := hB.grown hg6 hsz (fun t e => by injection e with e; omega)
      have hand := and_bs (cin n zs e s A) (cjq n zs e s a) hn
      rw [← cin_snoc] at hand
      try simp only at hta
      clear hL6 hkey hlk hv hat hrg hlt6 hg6 hB hinvK hinvV hwf
      subst hta
      have hsz6 : r ≤ w6.heap.size := by omega
      clear hs6 hsz
      go_wp2
      go_roundw
      case rel => exact ⟨A ++ [a], _, _, hrg6, HL6, rfl, hsz6, hB6⟩
      case measure => rw [hrg6.left_eq, HA6.out]; exact HA7.out
end Go.Proofs.YtolbpjjjoafkkaaDoor

namespace Go.Proofs.YtolbpjjjoafkkaaDoor
open Go Go.RowKit

/-- How many things one thing makes. -/
noncomputable def mk1 (n : Nat) (zs : List Int) (e a : Nat) : Nat → Bool := (mkd_ex' n zs e (fun y => decide (y = a))).choose
theorem mk1_iff (n : Nat) (zs : List Int) (e a : Nat) : ∀ x, x < n → (mk1 n zs e a x = true ↔ Mkd n zs e (fun y => decide (y = a)) x) := (mkd_ex' n zs e (fun y => decide (y = a))).choose_spec
end Go.Proofs.YtolbpjjjoafkkaaDoor
