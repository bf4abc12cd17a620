/- The least subgroup that has a set and is, conjugated by each thing of another, the same; package sub's Closure. Condition: the library's table of places lies as its text lays it. cmp.Compare, slices.Compare at two lists of numbers, and slices.SortFunc of lists by it. What package sylow's All answers: at what is wrong, and at a group and a prime: the conjugates of one of Sylow's subgroups, none twice, sorted. Condition: the library's table of places lies as its text lays it. Package series' steps: from a set on what a function makes of the last one, as long as it is another one. Conditions: what the function answers, and that it comes to an end. Package series' derived and lower: the subgroups, from all on, that the commutators of the last one, or of it with all, make. Condition: the library's table of places lies as its text lays it. What package sylow's Core answers: at what is wrong, and at a group and a prime: what is in all conjugates of one of Sylow's subgroups. Condition: the library's table of places lies as its text lays it. What package sylow's Cauchy answers: the list of all things that make as many as p. Condition: the library's table of places lies as its text lays it. Frobenius' theorem, its first half: primes, parts of a thing, and what is a multiple of the prime's power. No condition. Frobenius' theorem: centralisers, a quotient by what commutes with all, conjugates; how many things are, n times, the one. No condition. Frobenius' theorem: of a number that divides how many things a finite group has, so many things are, so many times, the one, as a multiple of it. No condition. What one thing makes has as many things as its order. No condition. -/
import Derived.Test.YtjiapicknkjhmaaDoorZ5
import Derived.Test.YtjiapicknkjhmaaDoorZ4
import Derived.Test.YtjiapicknkjhmaaDoorZ3
import Derived.Shelf.SlSortCmp.Whole1
import Derived.Shelf.Lay
import Derived.Ground.SlsfProg
import Derived.Laws.OwnMore
import Derived.Lib.SliceRun
import Derived.Maps.RangeWalk
import Derived.Maps.AppendAt
import Derived.Test.YtjiapicknkjhmaaDoorZ1
namespace Go.Proofs.YtjiapicknkjhmaaDoor
open Go Go.RowKit

/-- The things of a set, conjugated by the things of a list. -/
def clx (n : Nat) (zs : List Int) (e : Nat) (q : Nat → Bool) (xs : List Nat) (y : Nat) : Bool := xs.any fun a => cjq n zs e q a y
set_option maxRecDepth 100000 in
set_option maxHeartbeats 4000000 in
theorem kclo_ok (n : Nat) (v u : Value) (zs : List Int) (e : Nat) (q r c : Nat → Bool) (w : World) (hG : GA w n v e u zs) (hT : Tab w) (hc : ∀ a, a < n → (c a = true ↔ Mkd n zs e (clx n zs e q (lst n r)) a)) :
    Calls Tryd.prog 27 #[.agg #[.int .i64 n, v, .int .i64 e, u], .int .u64 (bs q n), .int .u64 (bs r n)] w fun x w' => x = .returned (.int .u64 (bs c n)) ∧ Below w.heap.size w w' := by
  have hg := hG.grp
  have hn := hG.le
  have hB0 : Below w.heap.size w (w.alloc (.cells #[.int .i64 n, v, .int .i64 e, u] 50)) := balloc w _
  have hX0 : Blk (w.alloc (.cells #[.int .i64 n, v, .int .i64 e, u] 50)) w.heap.size 50 [.int .i64 n, v, .int .i64 e, u] := blk4 _ _ _ _
  have HLQ := hide (fun W (h : Below w.heap.size w W) => list_ok n r W hn (hT.below h))
  have HMA := hide (fun W (h : Below w.heap.size w W) => made_ok n v u zs e _ c W (hG.below h) (hT.below h) hc)
  have HM0 := hide (fun x (h : x ∈ lst n r) => (mem_lst.1 h).1)
  have hl0 := Nat.le_trans (lst_len n r) hn
  have HL0 := hide (li_len (lst n r))
  clear hc
  generalize lst n r = xs at *
  generalize bs r n = R at *
  go_enter Tryd.func27, Tryd.ntmps27
  go_wp2_with fail
  generalize w.alloc (.cells #[.int .i64 n, v, .int .i64 e, u] 50) = w0 at *
  refine (HLQ.out _ hB0).mono ?_
  rintro x w1 ⟨rv, rfl, hrv, hb1⟩
  obtain ⟨a0, cap0, pb0, po0, rfl, hr0, hp0, hq0, hm0, _⟩ := hrv
  have hB1 := bcat2 hB0 hb1
  have hX1 := blk_below hX0 hb1
  rw [HL0.out] at hq0 ⊢
  have HR0 := hide hr0
  clear hr0 hX0 hB0 HLQ hm0
  go_wp2_with fail
  go_loopw [7, 13] (fun s i wr => ∃ k : Nat, k ≤ xs.length ∧ i = .int .i64 k ∧ s = .int .u64 (bs (clx n zs e q (xs.take k)) n) ∧ Below w1.heap.size w1 wr) (fun _ i _ => xs.length - (intOf i).toNat)
  case atStart => exact ⟨0, Nat.zero_le _, rfl, by rw [List.take_zero, show bs (clx n zs e q []) n = 0 from bs_none n]; rfl, Below.refl _ _⟩
  case round =>
    obtain ⟨k, hk, rfl, rfl, hB⟩ := hrel
    by_cases hlt : k < xs.length
    · have hck := (HR0.out.below hB hp0).cell k (by rw [HL0.out]; exact hlt)
      rw [li_get hlt] at hck
      obtain rfl := HR0.out.at_ (by rw [HL0.out]; omega)
      obtain ⟨x, hxe⟩ : ∃ x, xs[k] = x := ⟨_, rfl⟩
      have hxn : x < n := by rw [← hxe]; exact HM0.out _ (List.getElem_mem hlt)
      have hsn : xs.take (k + 1) = xs.take k ++ [x] := by rw [List.take_succ_eq_append_getElem hlt, hxe]
      rw [hxe] at hck
      have hor : bits BinOp.or IntKind.u64 (bs (clx n zs e q (xs.take k)) n : Int) (bs (cjq n zs e q x) n : Int) = (bs (clx n zs e q (xs.take (k + 1))) n : Int) := by
        rw [or_bs _ _ hn, hsn]
        congr 2
        funext y
        simp [clx]
      have HCJ := hide (fun W (h : Below wr.heap.size wr W) => conjd_ok n v u zs e x q W (hG.below (bcat2 (bcat2 hB1 hB) h)) (hT.below (bcat2 (bcat2 hB1 hB) h)) hxn)
      obtain ⟨_, g0, g1, g2, g3, _⟩ := Four.mk' (blk_below hX1 hB)
      clear hxe hsn
      generalize bs (cjq n zs e q x) n = C9 at *
      go_wp2_with fail
      clear hck g0 g1 g2 g3
      refine (HCJ.out _ (Below.refl _ _)).mono ?_
      rintro x9 w3 ⟨rfl, hb3⟩
      go_wp2
      go_roundw
      case rel => exact ⟨k + 1, by omega, by go_num, rfl, bcat2 hB hb3⟩
      case measure => simp [intOf]; omega
    · have hkn : k = xs.length := by omega
      subst hkn
      rw [List.take_length]
      obtain ⟨_, g0, g1, g2, g3, _⟩ := Four.mk' (blk_below hX1 hB)
      go_wp2_with fail
      refine (HMA.out _ (bcat2 hB1 hB)).mono ?_
      rintro x9 w8 ⟨rfl, hb8⟩
      go_wp2
      go_ret
      exact ⟨rfl, bcat2 (bcat2 hB1 hB) hb8⟩
theorem clx_all {n e : Nat} {zs : List Int} {q : Nat → Bool} : clx n zs e q (lst n fun _ => true) = cloq n zs e q n := by
  funext y
  unfold clx cloq lst
  rw [List.filter_eq_self.2 (fun _ _ => rfl)]
set_option maxRecDepth 100000 in
set_option maxHeartbeats 4000000 in
theorem clo_good (n e : Nat) (v u0 : Value) (zs l0 : List Int) (p : Nat → Bool) (w : World) (hv : Sl w v zs) (hg : IsGrp n zs e) (hu : Sl w u0 l0) (hT : Tab w) (hc : lfault n l0 = (0, 0)) (hp : ∀ a, a < n → (p a = true ↔ Mkd n zs e (cloq n zs e (pset l0) n) a)) :
    Calls Tryd.prog 8 #[.agg #[.int .i64 n, v], u0] w fun x w' => ∃ r, x = .returned (.tuple #[r, .agg #[.int .i64 0, .int .i64 0]]) ∧ SlF w.heap.size w' r (li (lst n (p))) ∧ Below w.heap.size w w' := by
  obtain ⟨va, vl, vc, rfl⟩ := hv.isSlice
  have HPP := hide hp
  clear hp
  obtain ⟨w0, BG⟩ := Beg.new w n (.slice va vl vc)
  have hv0 := hv.below BG.bel
  obtain ⟨c0, c1, _, _⟩ := BG.box.two
  have HCK := hide (oset_good n e (.slice va vl vc) u0 zs l0 w0 hv0 hg (hu.below BG.bel) hc)
  have HZ0 := hide (show w.heap.size + 2 ≤ w0.heap.size by rw [BG.eq]; simp)
  rw [BG.eq] at c0 c1
  go_enter Tryd.func8, Tryd.ntmps8
  go_wp2_with fail
  rw [← BG.eq]
  refine HCK.out.mono ?_
  rintro x w1 ⟨iv9, rfl, hSI, hb1⟩
  obtain ⟨ia, il, ic, rfl⟩ := hSI.sl.isSlice
  clear c0 c1 HCK
  obtain ⟨w2, hw2⟩ : ∃ w2, w2 = (w1.alloc (.cells #[.int .i64 n, (.slice va vl vc), .int .i64 e, (.slice ia il ic)] 50)).alloc (.cells #[.int .i64 0, .int .i64 0] 27) := ⟨_, rfl⟩
  have hb2 : Below w1.heap.size w1 w2 := by rw [hw2]; exact (balloc w1 _).alloc (by simp) _
  have hB1 : Below w0.heap.size w0 w2 := bcat2 hb1 hb2
  have hF1 : Blk w2 (w1.heap.size + 1) 27 [.int .i64 0, .int .i64 0] := by
    rw [hw2]
    have := blk0 (w := w1.alloc (.cells #[.int .i64 n, (.slice va vl vc), .int .i64 e, (.slice ia il ic)] 50)) (T := 27) (.int .i64 0) (.int .i64 0)
    rwa [World.size_alloc] at this
  have hH2 : Blk w2 w1.heap.size 50 [.int .i64 n, (.slice va vl vc), .int .i64 e, (.slice ia il ic)] := by
    rw [hw2]; exact (blk4 _ _ _ _).alloc _
  have hBw2 := bcat BG.bel hB1 BG.bel.size
  have hR2 := blk_below BG.res hB1
  have hT2 := hT.below hBw2
  have hGA2 : GA w2 n (.slice va vl vc) e (.slice ia il ic) zs := ⟨hg, hv.below hBw2, (hSI.below hb2).sl⟩
  obtain ⟨t0, t1, _, _⟩ := hF1.two
  obtain ⟨_, h0, h1, h2, h3, _⟩ := Four.mk' hH2
  have hx2 := blk_below BG.box hB1
  have HZ1 := hide (Nat.le_trans HZ0.out hb1.size)
  have HZ2 := hide hb2.size
  rw [hw2] at t0 t1 h0 h1 h2 h3
  go_wp2_with fail
  rw [← hw2]
  rw [← hw2] at t0 t1 h0 h1 h2 h3
  clear hw2
  have hS : ∀ W, Below w2.heap.size w2 W → (Below w2.heap.size w2 W ∧ W.cell? ⟨w1.heap.size, 0, none⟩ = some (.int .i64 n) ∧ W.cell? ⟨w1.heap.size, 1, none⟩ = some (.slice va vl vc) ∧ W.cell? ⟨w1.heap.size, 2, none⟩ = some (.int .i64 e) ∧ W.cell? ⟨w1.heap.size, 3, none⟩ = some (.slice ia il ic) ∧ W.cell? ⟨w.heap.size + 1, 0, none⟩ = some (.int .i64 0) ∧ W.cell? ⟨w.heap.size + 1, 1, none⟩ = some (.int .i64 0) ∧ W.frozen? ⟨w.heap.size + 1, 0, none⟩ = false ∧ W.frozen? ⟨w.heap.size + 1, 1, none⟩ = false ∧ W.setCell ⟨w.heap.size + 1, 0, none⟩ (.int .i64 0) = W ∧ W.setCell ⟨w.heap.size + 1, 1, none⟩ (.int .i64 0) = W) := fun W h => by
    obtain ⟨_, y0, y1, fy0, fy1, s0, s1⟩ := Two.mk' (blk_below hR2 h)
    exact ⟨h, below_cell h h0, below_cell h h1, below_cell h h2, below_cell h h3, y0, y1, fy0, fy1, s0, s1⟩
  have hS0 := hS _ (bdrew (Below.refl _ w2))
  have HA := hide (fun W => all_ok n (.slice va vl vc) (.slice ia il ic) e W hg.tab.le)
  have HC := hide (fun W (h : Below w2.heap.size w2 W) => kclo_ok n (.slice va vl vc) (.slice ia il ic) zs e (pset l0) (fun _ => true) p W (hGA2.below h) (hT2.below h) (by rw [clx_all]; exact HPP.out))
  have HL := hide (fun W (h : Below w2.heap.size w2 W) => list_at n w.heap.size p W hg.tab.le (hT2.below h) (Nat.le_trans hBw2.size h.size))
  clear h0 h1 h2 h3 t0 t1
  generalize bs p n = C at *
  generalize bs (fun _ => true) n = A at *
  generalize bs (pset l0) n = P0 at *
  go_region_held3 (fun W => Below w2.heap.size w2 W ∧ W.cell? ⟨w1.heap.size, 0, none⟩ = some (.int .i64 n) ∧ W.cell? ⟨w1.heap.size, 1, none⟩ = some (.slice va vl vc) ∧ W.cell? ⟨w1.heap.size, 2, none⟩ = some (.int .i64 e) ∧ W.cell? ⟨w1.heap.size, 3, none⟩ = some (.slice ia il ic) ∧ W.cell? ⟨w.heap.size + 1, 0, none⟩ = some (.int .i64 0) ∧ W.cell? ⟨w.heap.size + 1, 1, none⟩ = some (.int .i64 0) ∧ W.frozen? ⟨w.heap.size + 1, 0, none⟩ = false ∧ W.frozen? ⟨w.heap.size + 1, 1, none⟩ = false ∧ W.setCell ⟨w.heap.size + 1, 0, none⟩ (.int .i64 0) = W ∧ W.setCell ⟨w.heap.size + 1, 1, none⟩ (.int .i64 0) = W)
    (first | exact hS0 | assumption | exact hS _ (bcat2 (And.left ‹_›) hl1))
    (first
      | (go_at_call 28; refine (HA.out _).mono ?_; rintro e1 W1 ⟨rfl, hl1⟩)
      | (go_at_call 27; refine (HC.out _ (And.left ‹_›)).mono ?_; rintro e2 W2 ⟨rfl, hl1⟩)
      | (go_at_call 29; refine (HL.out _ (And.left ‹_›)).mono ?_; rintro e3 W3 ⟨r, rfl, hrr, hl1⟩))
  all_goals (
    obtain ⟨hB9, _, _, _, _, y0, y1, _⟩ := ‹Below w2.heap.size w2 W3 ∧ _›
    have hBz := bcat hBw2 hB9 hBw2.size
    clear hS hS0
    go_wp2
    exact bodyPost_ret (v := .tuple #[r, .agg #[.int .i64 0, .int .i64 0]]) (by simp [results, Tryd.results8, go_sem, y0, y1]) rfl ⟨_, rfl, hrr, hBz⟩)
end Go.Proofs.YtjiapicknkjhmaaDoor

namespace Go.Proofs.YtjiapicknkjhmaaDoor
open Go Go.RowKit

def cmpI (x y : Int) : Int := if x < y then -1 else if y < x then 1 else 0
theorem isNaN_ok (x : Int) (w : World) : Calls Tryd.prog 107 #[.int .i64 x] w fun e w' => e = .returned (.bool false) ∧ w' = w := by
  have h : (x != x) = false := by simp
  go_enter Tryd.func107, Tryd.ntmps107
  go_wp2
  go_ret
  exact ⟨rfl, rfl⟩
set_option maxRecDepth 100000 in
theorem cmpI_ok (x y : Int) (w : World) : Calls Tryd.prog 68 #[.int .i64 x, .int .i64 y] w fun e w' => e = .returned (.int .i64 (cmpI x y)) ∧ w' = w := by
  unfold cmpI
  by_cases h1 : x < y
  · rw [if_pos h1]
    go_enter Tryd.func68, Tryd.ntmps68
    go_wp2_with fail
    refine (isNaN_ok x w).mono ?_
    rintro e w1 ⟨rfl, rfl⟩
    go_wp2_with fail
    refine (isNaN_ok y w1).mono ?_
    rintro e w2 ⟨rfl, rfl⟩
    go_wp2
    go_ret
    exact ⟨rfl, rfl⟩
  · rw [if_neg h1]
    by_cases h2 : y < x
    · rw [if_pos h2]
      go_enter Tryd.func68, Tryd.ntmps68
      go_wp2_with fail
      refine (isNaN_ok x w).mono ?_
      rintro e w1 ⟨rfl, rfl⟩
      go_wp2_with fail
      refine (isNaN_ok y w1).mono ?_
      rintro e w2 ⟨rfl, rfl⟩
      go_wp2
      go_ret
      exact ⟨rfl, rfl⟩
    · rw [if_neg h2]
      go_enter Tryd.func68, Tryd.ntmps68
      go_wp2_with fail
      refine (isNaN_ok x w).mono ?_
      rintro e w1 ⟨rfl, rfl⟩
      go_wp2_with fail
      refine (isNaN_ok y w1).mono ?_
      rintro e w2 ⟨rfl, rfl⟩
      go_wp2
      go_ret
      exact ⟨rfl, rfl⟩
/-- How two lists compare. -/
def cmpL : List Int → List Int → Int
  | [], [] => 0
  | [], _ :: _ => -1
  | _ :: _, [] => 1
  | x :: xs, y :: ys => if cmpI x y ≠ 0 then cmpI x y else cmpL xs ys
theorem cmpL_step {xs ys : List Int} {k : Nat} (h1 : k < xs.length) (h2 : k < ys.length) : cmpL (xs.drop k) (ys.drop k) = if cmpI xs[k] ys[k] ≠ 0 then cmpI xs[k] ys[k] else cmpL (xs.drop (k + 1)) (ys.drop (k + 1)) := by
  rw [List.drop_eq_getElem_cons h1, List.drop_eq_getElem_cons h2, cmpL]
theorem cmpL_more {xs ys : List Int} {k : Nat} (h1 : k < xs.length) (h2 : ys.length ≤ k) : cmpL (xs.drop k) (ys.drop k) = 1 := by
  rw [List.drop_eq_getElem_cons h1, List.drop_eq_nil_of_le h2, cmpL]
theorem cmpL_less {xs ys : List Int} {k : Nat} (h1 : xs.length ≤ k) (h2 : k < ys.length) : cmpL (xs.drop k) (ys.drop k) = -1 := by
  rw [List.drop_eq_getElem_cons h2, List.drop_eq_nil_of_le h1, cmpL]
theorem cmpL_end {xs ys : List Int} {k : Nat} (h1 : xs.length ≤ k) (h2 : ys.length ≤ k) : cmpL (xs.drop k) (ys.drop k) = 0 := by
  rw [List.drop_eq_nil_of_le h1, List.drop_eq_nil_of_le h2, cmpL]
set_option maxRecDepth 100000 in
set_option maxHeartbeats 2000000 in
theorem scmp_ok (v u : Value) (xs ys : List Int) (w : World) (hv : Sl w v xs) (hu : Sl w u ys) (hx : xs.length ≤ 60) (hy : ys.length ≤ 60) :
    Calls Tryd.prog 36 #[v, u] w fun e w' => e = .returned (.int .i64 (cmpL xs ys)) ∧ w' = w := by
  obtain ⟨xa, xcap, xb, xo, rfl, ⟨x1, x2⟩, _, _, x5⟩ := hv
  obtain ⟨ya, ycap, yb, yo, rfl, ⟨y1, y2⟩, _, _, y5⟩ := hu
  have HX1 := hide x1
  have HX2 := hide x2
  have HY1 := hide y1
  have HY2 := hide y2
  clear x1 x2 y1 y2 x5 y5
  go_enter Tryd.func36, Tryd.ntmps36
  go_wp2
  go_loopw [11] (fun i wr => ∃ k : Nat, k ≤ xs.length ∧ k ≤ ys.length ∧ i = .int .i64 k ∧ cmpL xs ys = cmpL (xs.drop k) (ys.drop k) ∧ wr = w) (fun i _ => xs.length - (intOf i).toNat)
  case atStart => exact ⟨0, Nat.zero_le _, Nat.zero_le _, rfl, by simp, rfl⟩
  case round =>
    obtain ⟨k, hk, hk2, rfl, hc, hwr⟩ := hrel
    rw [hwr]
    clear hwr
    have HC := hide hc
    clear hc
    by_cases hlt : k < xs.length
    · have hki : (k : Int) < (xs.length : Int) := by omega
      obtain rfl := HX1.out (by omega)
      have cx := HX2.out k hlt
      rw [List.getElem?_eq_getElem hlt, Option.getD_some] at cx
      by_cases hlu : k < ys.length
      · have hku : ¬ (k : Int) ≥ (ys.length : Int) := by omega
        have hku' : ¬ (ys.length : Int) ≤ (k : Int) := by omega
        have hki2 : (k : Int) < (ys.length : Int) := by omega
        obtain rfl := HY1.out (by omega)
        have cy := HY2.out k hlu
        rw [List.getElem?_eq_getElem hlu, Option.getD_some] at cy
        have HE := hide (cmpL_step hlt hlu)
        generalize xs[k] = x at *
        generalize ys[k] = y at *
        have HI := hide (cmpI_ok x y w)
        obtain ⟨z, hz⟩ : ∃ z, cmpI x y = z := ⟨_, rfl⟩
        rw [hz] at HI HE
        clear hz
        by_cases hz0 : z = 0
        · subst hz0
          go_wp2_with fail
          refine HI.out.mono ?_
          rintro e w1 ⟨rfl, rfl⟩
          go_wp2
          go_roundw
          case rel => exact ⟨k + 1, by omega, by omega, by go_num, by rw [HC.out, HE.out]; rfl, trivial⟩
          case measure => simp [intOf]; omega
        · have hzb : (z != 0) = true := by simpa using hz0
          have HZ := hide (show cmpL xs ys = z by rw [HC.out, HE.out, if_pos hz0])
          go_wp2_with fail
          refine HI.out.mono ?_
          rintro e w1 ⟨rfl, rfl⟩
          go_wp2
          go_ret
          exact ⟨by rw [HZ.out]; rfl, rfl⟩
      · have hku : (k : Int) ≥ (ys.length : Int) := by omega
        have hku' : (ys.length : Int) ≤ (k : Int) := by omega
        have HZ := hide (show cmpL xs ys = 1 by rw [HC.out, cmpL_more hlt (by omega)])
        go_wp2
        go_ret
        exact ⟨by rw [HZ.out]; rfl, rfl⟩
    · have hki : ¬ (k : Int) < (xs.length : Int) := by omega
      by_cases hlu : xs.length < ys.length
      · have hlu' : (xs.length : Int) < (ys.length : Int) := by omega
        have HZ := hide (show cmpL xs ys = -1 by rw [HC.out, cmpL_less (by omega) (by omega)])
        go_wp2
        go_ret
        exact ⟨by rw [HZ.out]; rfl, rfl⟩
      · have hlu' : ¬ (xs.length : Int) < (ys.length : Int) := by omega
        have HZ := hide (show cmpL xs ys = 0 by rw [HC.out, cmpL_end (by omega) (by omega)])
        go_wp2
        go_ret
        exact ⟨by rw [HZ.out]; rfl, rfl⟩
end Go.Proofs.YtjiapicknkjhmaaDoor

namespace Go.Proofs.YtjiapicknkjhmaaDoor
open Go Go.RowKit

theorem cmpI_neg (x y : Int) : cmpI y x = - cmpI x y := by unfold cmpI; split <;> split <;> (try split) <;> omega
theorem cmpI_lt {x y : Int} : cmpI x y < 0 ↔ x < y := by unfold cmpI; split <;> (try split) <;> omega
theorem cmpI_zero {x y : Int} : cmpI x y = 0 ↔ x = y := by unfold cmpI; split <;> (try split) <;> omega
theorem cmpL_neg : ∀ xs ys : List Int, cmpL ys xs = - cmpL xs ys
  | [], [] => rfl
  | [], _ :: _ => rfl
  | _ :: _, [] => rfl
  | x :: xs, y :: ys => by
    unfold cmpL
    rw [cmpI_neg x y, cmpL_neg xs ys]
    split <;> split <;> omega
theorem cmpL_zero : ∀ xs ys : List Int, cmpL xs ys = 0 ↔ xs = ys
  | [], [] => by simp [cmpL]
  | [], _ :: _ => by simp [cmpL]
  | _ :: _, [] => by simp [cmpL]
  | x :: xs, y :: ys => by
    unfold cmpL
    have h1 := @cmpI_zero x y
    have h2 := cmpL_zero xs ys
    rw [List.cons.injEq]
    split
    · exact ⟨fun h => absurd h (by assumption), fun h => absurd (h1.2 h.1) (by assumption)⟩
    · rename_i h
      rw [Decidable.not_not] at h
      exact ⟨fun k => ⟨h1.1 h, h2.1 k⟩, fun k => h2.2 k.2⟩
theorem cmpL_trans : ∀ xs ys zs : List Int, cmpL xs ys < 0 → cmpL ys zs < 0 → cmpL xs zs < 0
  | [], [], _, h, _ => absurd h (by simp [cmpL])
  | _ :: _, [], _, h, _ => absurd h (by simp [cmpL])
  | _, _ :: _, [], _, h => absurd h (by simp [cmpL])
  | [], _ :: _, _ :: _, _, _ => by simp [cmpL]
  | x :: xs, y :: ys, z :: zs, h1, h2 => by
    unfold cmpL at *
    have a1 := @cmpI_lt x y
    have a2 := @cmpI_lt y z
    have a3 := @cmpI_lt x z
    have b1 := @cmpI_zero x y
    have b2 := @cmpI_zero y z
    have b3 := @cmpI_zero x z
    have ih := cmpL_trans xs ys zs
    split at h1
    · have hxy := a1.1 h1
      split at h2
      · have hyz := a2.1 h2
        have := a3.2 (by omega)
        rw [if_pos (by omega)]; exact this
      · rename_i h
        have := b2.1 (by omega)
        have := a3.2 (by omega)
        rw [if_pos (by omega)]; exact this
    · rename_i h
      have hxy := b1.1 (by omega)
      split at h2
      · have hyz := a2.1 h2
        have := a3.2 (by omega)
        rw [if_pos (by omega)]; exact this
      · rename_i h'
        have := b2.1 (by omega)
        have := b3.2 (by omega)
        rw [if_neg (by omega)]; exact ih h1 h2
theorem cmpL_ge {xs ys zs : List Int} (h1 : ¬ cmpL xs ys < 0) (h2 : ¬ cmpL ys zs < 0) : ¬ cmpL xs zs < 0 := by
  intro h
  have a1 := cmpL_neg xs ys
  have a2 := cmpL_neg ys zs
  have a3 := cmpL_neg xs zs
  by_cases e1 : cmpL xs ys = 0
  · have := (cmpL_zero _ _).1 e1
    subst this
    exact h2 h
  · by_cases e2 : cmpL ys zs = 0
    · have := (cmpL_zero _ _).1 e2
      subst this
      exact h1 h
    · have := cmpL_trans zs ys xs (by omega) (by omega)
      omega
theorem sw_heap {α : Type} [Inhabited α] (enc : α → Value) (w : World) (g m : Nat) (dk : Array α) (os : Array Obj) {b : Nat} (hb : b < w.heap.size) (hne : b ≠ g) : (sortWorld enc w g 0 m dk os).heap[b]? = w.heap[b]? := by
  show ((w.heap.modify g _) ++ os)[b]? = _
  rw [Array.getElem?_append_left (by rw [Array.size_modify]; exact hb), Array.getElem?_modify, if_neg (fun h => hne h.symm)]
theorem sw_size {α : Type} [Inhabited α] (enc : α → Value) (w : World) (g m : Nat) (dk : Array α) (os : Array Obj) : w.heap.size ≤ (sortWorld enc w g 0 m dk os).heap.size := by
  show _ ≤ ((w.heap.modify g _) ++ os).size
  rw [Array.size_append, Array.size_modify]; omega
theorem sw_below {α : Type} [Inhabited α] (enc : α → Value) (w : World) (g m : Nat) (dk : Array α) (os : Array Obj) {B : Nat} (hB : B ≤ g) (hg : g < w.heap.size) : Below B w (sortWorld enc w g 0 m dk os) :=
  ⟨rfl, rfl, rfl, sw_size enc w g m dk os, fun b hb => sw_heap enc w g m dk os (by omega) (by omega)⟩
theorem swo_cmpL {α : Type} (f : α → List Int) : Go.Sort.SWO (ltOf fun i j => cmpL (f i) (f j)) where
  irrefl x := by
    have : cmpL (f x) (f x) = 0 := (cmpL_zero _ _).2 rfl
    unfold ltOf; simp [this]
  trans x y z h1 h2 := by
    unfold ltOf at *
    rw [decide_eq_true_eq] at *
    exact cmpL_trans _ _ _ h1 h2
  ntrans x y z h1 h2 := by
    unfold ltOf at *
    rw [decide_eq_false_iff_not] at *
    exact cmpL_ge h1 h2
shelf_lay_g SlLaysF.n6 Slsf 6 at Tryd 35 as sortLists
theorem ent96 (args : Array Value) (w : World) : (callFunc 36 args).run Tryd.prog w = .ok (.enter 36 args) w := enters_of Tryd.func36 (by kernel_rfl) rfl args w
theorem own_sw {α : Type} [Inhabited α] (enc : α → Value) {w : World} {base g cap m len : Nat} {e : TypeId} {os : Array Obj} {cur : Array Value} (d : Array α) (hl : d.size = len) (hb : base ≤ g) (hh : w.heap[g]? = some (.cells cur e (0, 0))) (h1 : len ≤ cap) (h2 : cap ≤ maxLen) (h3 : cur.size = cap * 1) :
    (sortWorld enc w g 0 m d os).ownsRow base e 1 (.slice (some ⟨g, 0, none⟩) len cap) len (d.toList.map enc) := by
  have hg : g < w.heap.size := (Array.getElem?_eq_some_iff.1 hh).1
  refine ⟨by simp [hl], .inr ⟨g, cap, Go.Sort.putCells enc 0 d cur, rfl, hb, ?_, h1, h2, by simp [Go.Sort.putCells, h3], ?_⟩⟩
  · show ((w.heap.modify g _) ++ os)[g]? = _
    rw [Array.getElem?_append_left (by rw [Array.size_modify]; exact hg), Array.getElem?_modify, if_pos rfl, hh]
    rfl
  · apply List.ext_getElem?
    intro j
    by_cases hj : j < len
    · rw [List.getElem?_take_of_lt (by omega), Array.getElem?_toList]
      simp [Go.Sort.putCells, show j < cur.size by omega, show j < d.size by omega]
    · rw [List.getElem?_take_eq_none (by omega), List.getElem?_eq_none (by simp; omega)]
/-- The lists, as they are sorted. -/
def srt (ms : List (List Int)) : Prop := ∀ i j, i < j → j < ms.length → ¬ cmpL (ms[j]?.getD []) (ms[i]?.getD []) < 0
theorem sort_ok (B g cap : Nat) (vs : List Value) (ls : List (List Int)) (w : World) (hrow : w.ownsRow B 22 1 (.slice (some ⟨g, 0, none⟩) vs.length cap) vs.length vs) (hls : Lsts w B (.slice (some ⟨g, 0, none⟩) vs.length cap) vs ls) (h60 : ∀ l, l ∈ ls → l.length ≤ 60) (hlen : vs.length < 4611686018427387904) (hpos : 0 < vs.length) :
    Calls Tryd.prog 35 #[.slice (some ⟨g, 0, none⟩) vs.length cap, .func (.func 36) #[] #[]] w fun e w' => e = .returned (.tuple #[]) ∧ Below B w w' ∧ ∃ ms : List (List Int), ms.Perm ls ∧ srt ms ∧ ∃ us : List Value, us.length = vs.length ∧ w'.ownsRow B 22 1 (.slice (some ⟨g, 0, none⟩) vs.length cap) vs.length us ∧ Lsts w' B (.slice (some ⟨g, 0, none⟩) vs.length cap) us ms := by
  have hvl := hls.1
  have hown : B ≤ g ∧ g < w.heap.size ∧ vs.length ≤ cap ∧ cap ≤ maxLen ∧ ∃ cur, w.heap[g]? = some (.cells cur 22 (0, 0)) ∧ cur.size = cap * 1 := by
    rcases hrow.2 with ⟨h, _⟩ | ⟨g', cap', cur, h, h1, h2, h3, h4, h9, _⟩
    · cases h
    · injection h with h5 _ h6
      injection h5 with h5
      injection h5 with h5
      subst h5 h6
      exact ⟨h1, (Array.getElem?_eq_some_iff.1 h2).1, h3, h4, cur, h2, h9⟩
  obtain ⟨hBg, hgw, hcap, hcap2, cur, hHP, hcur⟩ := hown
  haveI : Inhabited (Fin ls.length) := ⟨⟨0, by omega⟩⟩
  obtain ⟨enc, henc⟩ : ∃ enc : Fin ls.length → Value, ∀ i : Fin ls.length, vs[i.1]? = some (enc i) := ⟨fun i => vs[i.1]'(by omega), fun i => List.getElem?_eq_getElem (by omega)⟩
  have hval : ∀ i : Fin ls.length, ∃ a c pb po, enc i = .slice a (ls.get i).length c ∧ Reads w a pb po (ls.get i) ∧ pb < w.heap.size ∧ (ls.get i).length ≤ c ∧ c ≤ maxLen ∧ B ≤ pb ∧ pb ≠ g := fun i => by
    obtain ⟨a, c, pb, po, h1, h2, h3, h4, h5, h6, h7⟩ := hls.2 i.1 (enc i) (ls.get i) (henc i) (List.getElem?_eq_getElem i.2)
    exact ⟨a, c, pb, po, h1, h2, h3, h4, h5, h6, h7 g rfl⟩
  have hOne : OneCell enc := fun i => by
    obtain ⟨a, c, pb, po, h1, _⟩ := hval i
    rw [h1]; rfl
  obtain ⟨d, hd⟩ : ∃ d : Array (Fin ls.length), d = Array.ofFn (fun i => i) := ⟨_, rfl⟩
  have hds : d.size = vs.length := by rw [hd, Array.size_ofFn, hvl]
  have hH : Go.Sort.Holds enc w g 0 d := fun j hj => by
    have hj' : j < ls.length := by omega
    have h1 : d[j]! = ⟨j, hj'⟩ := by
      rw [getElem!_pos d j hj]
      simp [hd]
    have h3 := hrow.cells (g := g) rfl j (enc ⟨j, hj'⟩) (henc ⟨j, hj'⟩)
    rw [show (⟨g, 0, none⟩ : Addr).add j = ⟨g, j, none⟩ by unfold Addr.add; split <;> simp_all] at h3
    rw [Nat.zero_add, h1]
    exact ⟨h3, hrow.frozenAt j⟩
  have hSl : ∀ (W : World) (i : Fin ls.length), (∀ b, B ≤ b → b < w.heap.size → b ≠ g → W.heap[b]? = w.heap[b]?) → w.heap.size ≤ W.heap.size → Sl W (enc i) (ls.get i) := fun W i hW hs => by
    obtain ⟨a, c, pb, po, h1, h2, h3, h4, h5, h6, h7⟩ := hval i
    exact ⟨a, c, pb, po, h1, h2.of_eq (hW pb h6 h3 h7), Nat.lt_of_lt_of_le h3 hs, h4, h5⟩
  have hcmp : CmpLays1 Tryd.prog 36 #[] enc (fun i j : Fin ls.length => cmpL (ls.get i) (ls.get j)) g 0 d.size w := by
    intro m os dk _ x y
    have hw := fun b (_ : B ≤ b) (h1 : b < w.heap.size) (h2 : b ≠ g) => sw_heap enc w g m dk os h1 h2
    refine (scmp_ok (enc x) (enc y) (ls.get x) (ls.get y) (sortWorld enc w g 0 m dk os) (hSl _ x hw (sw_size ..)) (hSl _ y hw (sw_size ..)) (h60 _ (List.get_mem ls _)) (h60 _ (List.get_mem ls _))).mono ?_
    rintro e w' ⟨rfl, rfl⟩
    exact ⟨rfl, 0, #[], by rw [Go.Sort.grow_empty]; rfl⟩
  have hcon := Any.slices_SortFunc sortLists enc hOne (fun i j : Fin ls.length => cmpL (ls.get i) (ls.get j)) (swo_cmpL fun i : Fin ls.length => ls.get i) 36 #[] g 0 cap d w ent96 hcmp hH hgw (by omega)
  change Calls Tryd.prog 35 _ _ _ at hcon
  rw [hds] at hcon
  refine hcon.mono ?_
  rintro e w' ⟨rfl, d', n, os, hp, hs, rfl⟩
  refine ⟨rfl, sw_below enc w g n d' os hBg hgw, d'.toList.map (fun i => ls.get i), ?_, ?_, ?_⟩
  · obtain ⟨hp1, _, hp3⟩ := hp
    rw [← hds, show d.extract 0 d.size = d by simp, show d'.extract 0 d.size = d' by rw [← hp1]; simp] at hp3
    have h1 := hp3.map (fun i : Fin ls.length => ls.get i)
    have h2 : d.toList.map (fun i : Fin ls.length => ls.get i) = ls := by
      rw [hd]
      apply List.ext_getElem
      · simp
      · intro k h1 h2
        simp
    rw [h2] at h1
    exact h1
  · intro i j hij hj
    have hsz : d'.size = vs.length := by rw [hp.1, hds]
    have hj' : j < d'.size := by simpa using hj
    have h := hs i j (Nat.zero_le _) hij (by omega)
    unfold ltOf at h
    rw [decide_eq_false_iff_not, getElem!_pos d' i (by omega), getElem!_pos d' j hj'] at h
    rw [List.getElem?_map, List.getElem?_map, Array.getElem?_toList, Array.getElem?_toList, Array.getElem?_eq_getElem hj', Array.getElem?_eq_getElem (by omega)]
    exact h
  · have hsz : d'.size = vs.length := by rw [hp.1, hds]
    refine ⟨d'.toList.map enc, by simp [hsz], own_sw enc d' hsz hBg hHP hcap hcap2 hcur, by simp, fun t x l h1 h2 => ?_⟩
    rw [List.getElem?_map] at h1 h2
    obtain ⟨i, hi1, rfl⟩ := Option.map_eq_some_iff.1 h1
    rw [hi1] at h2
    obtain rfl := Option.some.inj h2
    obtain ⟨a, c, pb, po, k1, k2, k3, k4, k5, k6, k7⟩ := hval i
    exact ⟨a, c, pb, po, k1, k2.of_eq (sw_heap enc w g n d' os k3 k7), Nat.lt_of_lt_of_le k3 (sw_size ..), k4, k5, k6, fun g9 h9 h8 => k7 (h8.trans (Option.some.inj h9).symm)⟩
end Go.Proofs.YtjiapicknkjhmaaDoor

namespace Go.Proofs.YtjiapicknkjhmaaDoor
open Go Go.RowKit Go.Maps

theorem own_keep2 {W W' : World} {B n : Nat} {e : TypeId} {v : Value} {xs : List Value} (h : W.ownsRow B e 1 v n xs) (hk : ∀ g, B ≤ g → g < W.heap.size → W'.heap[g]? = W.heap[g]?) : W'.ownsRow B e 1 v n xs := by
  refine ⟨h.1, ?_⟩
  rcases h.2 with h0 | ⟨g, cap, cur, hv, hg, hh, rest⟩
  · exact .inl h0
  · exact .inr ⟨g, cap, cur, hv, hg, (hk g hg (Array.getElem?_eq_some_iff.1 hh).1).trans hh, rest⟩
theorem und38s : Tryd.prog.underlying 33 = some (.slice 22) := by kernel_rfl
theorem wf_nonneg {x : Int} (h : (Lit.int .u64 x).wf = true) : 0 ≤ x := by
  have h0 : IntKind.u64.min = 0 := rfl
  simp [Lit.wf, h0] at h
  omega
/-- The things by which the sets that are listed so far are conjugates, and what is left of the map. -/
structure Lft (f : Nat → Nat) (n : Nat) (A : List Nat) (left : Lit → Bool) : Prop where
  lt : ∀ a, a ∈ A → a < n
  nd : (A.map f).Nodup
  left : ∀ t : Nat, left (.int .u64 t) = true ↔ (∃ a, a < n ∧ t = f a) ∧ ¬ t ∈ A.map f
theorem nd_of_map {f : Nat → Nat} : ∀ {A : List Nat}, (A.map f).Nodup → A.Nodup
  | [], _ => List.nodup_nil
  | a :: A, h => by
    rw [List.map_cons, List.nodup_cons] at h
    exact List.nodup_cons.2 ⟨fun h9 => h.1 (List.mem_map_of_mem h9), nd_of_map h.2⟩
theorem Lft.len {f : Nat → Nat} {n : Nat} {A : List Nat} {left : Lit → Bool} (h : Lft f n A left) : A.length ≤ n := by
  have := nodup_len A (List.range n) (nd_of_map h.nd) (fun a ha => List.mem_range.2 (h.lt a ha))
  simpa using this
theorem Lft.step {f : Nat → Nat} {n : Nat} {A : List Nat} {left : Lit → Bool} (h : Lft f n A left) {t : Nat} (ht : left (.int .u64 t) = true) : ∃ a, a < n ∧ t = f a ∧ Lft f n (A ++ [a]) (fun z => left z && !z.sameKey (.int .u64 t)) := by
  obtain ⟨⟨a, ha, rfl⟩, hno⟩ := (h.left t).1 ht
  refine ⟨a, ha, rfl, fun b hb => ?_, ?_, fun t => ?_⟩
  · rcases List.mem_append.1 hb with h1 | h1
    · exact h.lt b h1
    · rw [List.mem_singleton.1 h1]; exact ha
  · rw [List.map_append, List.nodup_append]
    refine ⟨h.nd, by simp, fun x hx y hy => ?_⟩
    rw [List.map_cons, List.map_nil, List.mem_singleton] at hy
    rw [hy]
    exact fun e => hno (e ▸ hx)
  · rw [List.map_append, List.mem_append, List.map_cons, List.map_nil, List.mem_singleton, Bool.and_eq_true, h.left t]
    by_cases e : t = f a
    · subst e
      simp [Lit.sameKey]
    · rw [sameKey_ne (fun h9 => e (by injection h9 with _ h9; omega))]
      simp [e]
theorem Lft.all {f : Nat → Nat} {n : Nat} {A : List Nat} {left : Lit → Bool} (h : Lft f n A left) (h0 : ∀ kl, left kl = false) (a : Nat) (ha : a < n) : f a ∈ A.map f := by
  refine Classical.byContradiction fun h9 => ?_
  have := (h.left (f a)).2 ⟨⟨a, ha, rfl⟩, h9⟩
  rw [h0] at this
  cases this
set_option maxRecDepth 100000 in
set_option maxHeartbeats 4000000 in
theorem sall_bad (N p c i : Int) (v : Value) (w : World) (hc : c ≠ 0)
    (hop : ∀ W, Below w.heap.size w W → Calls Tryd.prog 33 #[.agg #[.int .i64 N, v], .int .i64 p] W fun x w' => x = .returned (.tuple #[.agg #[.int .i64 0, .slice none 0 0, .int .i64 0, .slice none 0 0], .agg #[.int .i64 c, .int .i64 i]]) ∧ Below W.heap.size W w') :
    Calls Tryd.prog 10 #[.agg #[.int .i64 N, v], .int .i64 p] w fun x w' => x = .returned (.tuple #[.slice none 0 0, .agg #[.int .i64 c, .int .i64 i]]) ∧ Below w.heap.size w w' := by
  obtain ⟨w0, BG⟩ := Beg.new w N v
  have HCK := hide (hop w0 BG.bel)
  clear hop
  obtain ⟨c0, c1, _, _⟩ := BG.box.two
  have hcb : (c != 0) = true := by simpa using hc
  rw [BG.eq] at c0 c1
  go_enter Tryd.func10, Tryd.ntmps10
  go_wp2_with fail
  rw [← BG.eq]
  refine HCK.out.mono ?_
  rintro x w1 ⟨rfl, hb1⟩
  clear c0 c1
  obtain ⟨w2, hw2⟩ : ∃ w2, w2 = (w1.alloc (.cells #[.int .i64 0, .slice none 0 0, .int .i64 0, .slice none 0 0] 50)).alloc (.cells #[.int .i64 c, .int .i64 i] 27) := ⟨_, rfl⟩
  have hB1 : Below w0.heap.size w0 w2 := by rw [hw2]; exact bcat2 hb1 ((balloc w1 _).alloc (by simp) _)
  have hF1 : Blk w2 (w1.heap.size + 1) 27 [.int .i64 c, .int .i64 i] := by
    rw [hw2]
    have := blk0 (w := w1.alloc (.cells #[.int .i64 0, .slice none 0 0, .int .i64 0, .slice none 0 0] 50)) (T := 27) (.int .i64 c) (.int .i64 i)
    rwa [World.size_alloc] at this
  have hR1 := blk_below BG.res hB1
  have hBw := bcat BG.bel hB1 BG.bel.size
  obtain ⟨y0, y1, fy0, fy1⟩ := hR1.two
  obtain ⟨t0, t1, _, _⟩ := hF1.two
  rw [hw2] at t0 t1
  go_wp2_with fail
  rw [← hw2]
  rw [← hw2] at t0 t1
  clear hw2
  go_region
  all_goals (
    go_wp2
    obtain ⟨hR6, hB6⟩ := put2 hR1 hBw (by omega) c i
    have hB7 := bdrew hB6
    have hR7 : Blk ((w2.setCell ⟨w.heap.size + 1, 0, none⟩ (.int .i64 c)).setCell ⟨w.heap.size + 1, 1, none⟩ (.int .i64 i)).drew (w.heap.size + 1) 27 [.int .i64 c, .int .i64 i] := hR6
    generalize ((w2.setCell ⟨w.heap.size + 1, 0, none⟩ (.int .i64 c)).setCell ⟨w.heap.size + 1, 1, none⟩ (.int .i64 i)).drew = W at hR7 hB7 ⊢
    obtain ⟨z0, z1, _, _⟩ := hR7.two
    exact bodyPost_ret (v := .tuple #[.slice none 0 0, .agg #[.int .i64 c, .int .i64 i]]) (by simp [results, Tryd.results10, go_sem, z0, z1]) rfl ⟨rfl, hB7⟩)
set_option maxRecDepth 100000 in
set_option maxHeartbeats 4000000 in
theorem sall_good (n e p : Nat) (v : Value) (zs : List Int) (w : World) (hv : Sl w v zs) (hg : IsGrp n zs e) (hT : Tab w) (hpr : primeB p = true) :
    Calls Tryd.prog 10 #[.agg #[.int .i64 n, v], .int .i64 p] w fun x w' => ∃ (r1 : Option Addr) (r2 r3 : Nat) (s : Nat → Bool) (A : List Nat) (ms : List (List Int)), x = .returned (.tuple #[.slice r1 r2 r3, .agg #[.int .i64 0, .int .i64 0]]) ∧ Grown n zs e p s ∧ (∀ a, a ∈ A → a < n) ∧ (A.map fun a => bs (cjq n zs e s a) n).Nodup ∧ (∀ a, a < n → bs (cjq n zs e s a) n ∈ A.map fun a => bs (cjq n zs e s a) n) ∧ ms.Perm (A.map fun a => li (lst n (cjq n zs e s a))) ∧ srt ms ∧ (∃ (B : Nat) (us : List Value), w.heap.size ≤ B ∧ us.length = r2 ∧ w'.ownsRow B 22 1 (.slice r1 r2 r3) r2 us ∧ Lsts w' B (.slice r1 r2 r3) us ms) ∧ Below w.heap.size w w' := by
  have hp2 : 2 ≤ p ∧ p ≤ 100 := by
    have := of_decide_eq_true hpr
    omega
  obtain ⟨va, vl, vc, rfl⟩ := hv.isSlice
  obtain ⟨w0, BG⟩ := Beg.new w n (.slice va vl vc)
  have hv0 := hv.below BG.bel
  obtain ⟨c0, c1, _, _⟩ := BG.box.two
  have HCK := hide (sopen_good n e p (.slice va vl vc) zs w0 hv0 hg hpr)
  have HZ0 := hide (show w.heap.size + 2 ≤ w0.heap.size by rw [BG.eq]; simp)
  rw [BG.eq] at c0 c1
  go_enter Tryd.func10, Tryd.ntmps10
  go_wp2_with fail
  rw [← BG.eq]
  refine HCK.out.mono ?_
  rintro x w1 ⟨iv9, rfl, hSI, hb1⟩
  obtain ⟨ia, il, ic, rfl⟩ := hSI.sl.isSlice
  clear c0 c1 HCK
  obtain ⟨w2, hw2⟩ : ∃ w2, w2 = (w1.alloc (.cells #[.int .i64 n, (.slice va vl vc), .int .i64 e, (.slice ia il ic)] 50)).alloc (.cells #[.int .i64 0, .int .i64 0] 27) := ⟨_, rfl⟩
  have hb2 : Below w1.heap.size w1 w2 := by rw [hw2]; exact (balloc w1 _).alloc (by simp) _
  have hB1 : Below w0.heap.size w0 w2 := bcat2 hb1 hb2
  have hF1 : Blk w2 (w1.heap.size + 1) 27 [.int .i64 0, .int .i64 0] := by
    rw [hw2]
    have := blk0 (w := w1.alloc (.cells #[.int .i64 n, (.slice va vl vc), .int .i64 e, (.slice ia il ic)] 50)) (T := 27) (.int .i64 0) (.int .i64 0)
    rwa [World.size_alloc] at this
  have hH2 : Blk w2 w1.heap.size 50 [.int .i64 n, (.slice va vl vc), .int .i64 e, (.slice ia il ic)] := by
    rw [hw2]; exact (blk4 _ _ _ _).alloc _
  have hBw2 := bcat BG.bel hB1 BG.bel.size
  have hR2 := blk_below BG.res hB1
  have hT2 := hT.below hBw2
  have hGA2 : GA w2 n (.slice va vl vc) e (.slice ia il ic) zs := ⟨hg, hv.below hBw2, (hSI.below hb2).sl⟩
  obtain ⟨t0, t1, _, _⟩ := hF1.two
  obtain ⟨_, h0, h1, h2, h3, _⟩ := Four.mk' hH2
  have hx2 := blk_below BG.box hB1
  have HZ1 := hide (Nat.le_trans HZ0.out hb1.size)
  have HZ2 := hide hb2.size
  rw [hw2] at t0 t1 h0 h1 h2 h3
  go_wp2_with fail
  rw [← hw2]
  rw [← hw2] at t0 t1 h0 h1 h2 h3
  clear hw2 t0 t1
  refine (sgs_ok n e p (.slice va vl vc) (.slice ia il ic) zs w2 hGA2 hT2 hp2.1 hp2.2).mono ?_
  rintro x w4 ⟨s, M, rfl, hM, hgr, ⟨D, hown4, hD⟩, hb4⟩
  have hB4 := bcat2 hBw2 hb4
  have hR4 := blk_below hR2 hb4
  obtain ⟨i0, hi, hz0, hz1, hz2⟩ := info_parts info22b
  have HGR := hide hgr
  have HT4 := hide (hT.below hB4)
  have HR4 := hide hR4
  have hn := hg.tab.le
  have hn1 : 0 < n := Nat.lt_of_le_of_lt (Nat.zero_le _) hg.elt
  have hM4 : M < w4.heap.size := hown4.lt
  have HL0 := hide (show Lft (fun a => bs (cjq n zs e s a) n) n [] (Maps.has D) from ⟨by simp, by simp, fun t => by rw [hD t]; simp⟩)
  clear hgr hR4 h0 h1 h2 h3 hD
  go_wp2_with (first | (at_range; refine wpList_range_own _ rfl _ 65 rfl 52 92 key58 und69 _ M n D rfl hown4 ?_; intro w5 hrg5 hg5 hs5))
  go_frame
  have hB5 : Below w4.heap.size w4 w5 := (Below.refl _ w4).grown hg5 (Nat.le_refl _) (by simp)
  obtain ⟨r, hr⟩ : ∃ r, r = w4.heap.size := ⟨_, rfl⟩
  obtain ⟨B0, hB0⟩ : ∃ B0, B0 = w5.heap.size := ⟨_, rfl⟩
  have hrB : r < B0 := by rw [hB0, hs5, hr]; omega
  rw [← hr] at hrg5 hM4 hB5 ⊢
  have HRR := hide hr
  have hwr : w.heap.size + 1 < r := by rw [hr]; exact HR4.out.lt
  clear hr
  clear hown4 hg5 hs5
  go_loopw [8] (fun ls wr => ∃ (A : List Nat) (left : Lit → Bool) (cnt : Nat) (vs : List Value), wr.ranges Tryd.prog 52 unitElem M r n D left cnt ∧ Hid (Lft (fun a => bs (cjq n zs e s a) n) n A left) ∧ wr.ownsRow B0 22 1 ls vs.length vs ∧ Lsts wr B0 ls vs (A.map fun a => li (lst n (cjq n zs e s a))) ∧ B0 ≤ wr.heap.size ∧ Below r w4 wr) (fun _ wr => wr.rangeLeft M r)
  case atStart => exact ⟨[], _, _, [], hrg5, HL0, World.ownsRow_nil _ _ _ _, ⟨by simp, fun t x l h1 _ => by simp at h1⟩, by omega, hB5⟩
  case round =>
    clear hrg5 hB5 HL0 hB0
    obtain ⟨A, left, cnt, vs, hrg, HL, hrow, hls, hsz, hB⟩ := hrel
    have hA60 := HL.out.len
    have HVL := hide (show vs.length = A.length by rw [hls.1, List.length_map])
    have hv60 : vs.length ≤ 60 := by have := HVL.out; omega
    obtain ⟨ra, rcap, rfl⟩ := own_slice' hrow
    have hinvK : ∀ key kl, keyOf Tryd.prog 52 key = some kl → ∃ x : Int, key = Value.int .u64 x := fun key kl hk => by
      obtain ⟨x, h9, _⟩ := Maps.keyOf_int_inv und58 hk
      exact ⟨x, h9⟩
    have hinvV : ∀ (v : Value) (y : DataW Unit × List MemPlace), unitElem v = some y → ∃ c : Unit, v = (fun _ => Value.agg #[]) c := fun v y hv => ⟨(), (unitElem_inv hv).1⟩
    go_wp2_with (first | (at_next; refine wpList_next_ranges _ rfl _ rfl 52 key58 unitElem (fun x : Int => Value.int .u64 x) (fun _ : Unit => Value.agg #[]) hinvK hinvV M r n D left cnt rfl hrg ?_ ?_))
    · intro hc0 hl0
      have HAL := hide (fun a ha => HL.out.all hl0 a ha)
      have hpos : 0 < vs.length := by
        rw [HVL.out]
        obtain ⟨a, ha, _⟩ := List.mem_map.1 (HAL.out 0 hn1)
        exact List.length_pos_of_mem ha
      obtain ⟨g, rfl⟩ : ∃ g, ra = some ⟨g, 0, none⟩ := by
        rcases hrow.2 with ⟨h1, h2⟩ | ⟨g', cap, cur, h1, _⟩
        · omega
        · injection h1 with h1; exact ⟨g', h1⟩
      have HSO := hide (sort_ok B0 g rcap vs (A.map fun a => li (lst n (cjq n zs e s a))) wr hrow hls (fun l hl => by
        obtain ⟨p, _, rfl⟩ := List.mem_map.1 hl
        rw [show (li (lst n (cjq n zs e s p))).length = (lst n (cjq n zs e s p)).length by simp [li]]
        exact Nat.le_trans (lst_len _ _) hn) (by omega) hpos)
      clear hrow hls hrg hl0 hinvK hinvV hc0
      go_wp2_with fail
      refine HSO.out.mono ?_
      rintro x w7 ⟨rfl, hb7, ms, hpm, hsr, us, hul, hown7, hls7⟩
      have hBr := hB.trans (hb7.mono (show r ≤ B0 by omega))
      have hB7 := hB4.trans (hBr.mono (show w.heap.size ≤ r by omega))
      have hR7 := (HR4.out).of_eq (hBr.block _ (by omega))
      obtain ⟨_, y0, y1, fy0, fy1, s0, s1⟩ := Two.mk' hR7
      have HSL := hide (show ∃ (B : Nat) (us : List Value), w.heap.size ≤ B ∧ us.length = vs.length ∧ w7.ownsRow B 22 1 (.slice (some ⟨g, 0, none⟩) vs.length rcap) vs.length us ∧ Lsts w7 B (.slice (some ⟨g, 0, none⟩) vs.length rcap) us ms from ⟨B0, us, by omega, hul, hown7, hls7⟩)
      have HSR := hide hsr
      have HPM := hide hpm
      have HB7 := hide hB7
      clear hsr hpm hB7 hb7 hBr hown7 hls7 hul
      go_wp2
      exact bodyPost_ret (v := .tuple #[.slice (some ⟨g, 0, none⟩) vs.length rcap, .agg #[.int .i64 0, .int .i64 0]]) (by simp [results, Tryd.results10, go_sem, y0, y1]) rfl ⟨_, _, _, s, A, ms, rfl, HGR.out, HL.out.lt, HL.out.nd, HAL.out, HPM.out, HSR.out, HSL.out, HB7.out⟩
    · intro x kl y1 y2 w6 cnt6 hkey hlk hv hat hrg6 hlt6 hg6 hs6 hen
      obtain ⟨x', ex, rfl, hwf⟩ := Maps.keyOf_int_inv und58 hkey
      cases ex
      obtain ⟨t, rfl⟩ : ∃ t : Nat, x = t := ⟨x.toNat, by have := wf_nonneg hwf; omega⟩
      obtain ⟨a, ha, hta, hL6⟩ := HL.out.step hlk
      have HL6 := hide hL6
      have HA6 := hide hrg.left_eq
      have HA7 := hide hlt6
      have hB6 : Below r w4 w6 := hB.grown hg6 (by omega) (fun t e => by injection e with e; omega)
      have hrow6 := own_keep2 hrow (fun g h1 h2 => hg6.block g h2 (by simp; omega))
      have hls6 : Lsts w6 B0 (.slice ra vs.length rcap) vs (A.map fun a => li (lst n (cjq n zs e s a))) := hls.keep (by omega) (fun g h1 h2 _ => hg6.block g h2 (by simp; omega)) (.inl rfl)
      have hb9 := list_ok n (cjq n zs e s a) w6 hn (HT4.out.below (by rw [← HRR.out]; exact hB6))
      have HST := hide (show ((A ++ [a]).map fun a => li (lst n (cjq n zs e s a))) = (A.map fun a => li (lst n (cjq n zs e s a))) ++ [li (lst n (cjq n zs e s a))] by
        rw [List.map_append]; rfl)
      have HB9 := hide hb9
      have hl60 : (li (lst n (cjq n zs e s a))).length ≤ 60 := by rw [show (li (lst n (cjq n zs e s a))).length = (lst n (cjq n zs e s a)).length by simp [li]]; exact Nat.le_trans (lst_len _ _) hn
      try simp only at hta
      clear hb9 hL6 hkey hlk hv hat hrg hlt6 hg6 hrow hls hB hinvK hinvV hwf
      subst hta
      generalize li (lst n (cjq n zs e s a)) = lj at *
      generalize hs9 : bs (cjq n zs e s a) n = s9 at *
      have HS9 := hide hs9
      clear hs9
      go_wp2_with fail
      refine HB9.out.mono ?_
      rintro e3 w5x ⟨r9, rfl, hr9, hb5⟩
      have hs66 : r ≤ w6.heap.size := by omega
      have hB5 : Below r w4 w5x := hB6.trans (hb5.mono hs66)
      have hrg5 := hrg6.kept (below_grown' hb5 none) (by simp) (by simp)
      have hrow5 := own_keep2 hrow6 (fun g _ h2 => hb5.block g h2)
      have hls5 : Lsts w5x B0 (.slice ra vs.length rcap) vs (A.map fun a => li (lst n (cjq n zs e s a))) := hls6.keep hb5.size (fun g _ h2 _ => hb5.block g h2) (.inl rfl)
      have hown2 : ∀ g, (Value.slice ra vs.length rcap).ownBlock = some g → g < w6.heap.size := fun g hg => by
        rcases hrow6.2 with ⟨h1, _⟩ | ⟨g', cap, cur, h1, _, hh9, _⟩
        · rw [h1] at hg; simp [Value.ownBlock] at hg
        · rw [h1] at hg
          simp [Value.ownBlock] at hg
          subst hg
          exact (Array.getElem?_eq_some_iff.1 hh9).1
      obtain ⟨qa, qcap, qb, qo, rfl, hq, hq1, hq2, hq3, hq4⟩ := hr9
      have hs5 := hb5.size
      have HQ := hide hq
      clear hrow6 hls6 hb5 hq hrg6 hB6
      go_wp2_with (first
        | (at_builtin; refine wpList_append_own_at _ rfl _ _ 33 rfl B0 22 i0 (.slice none 0 0) 1 24 und38s hi hz0 hz1 hz2 rfl (by decide) _ _ _ rfl (World.ownsRow.alloc hrow5 _) ⟨w5x.heap.size, 0, none⟩ 1 1 [.slice qa lj.length qcap] rfl rfl ?c1 ?c2 ?c3 ?c4 ?c5 ?_))
      case c1 => exact cell_one_new _ _ _
      case c2 => simp [Value.oneCell']
      case c3 => unfold maxLen; omega
      case c4 => omega
      case c5 => simp; omega
      intro v' w8 hown' hgrow hnil hloc
      obtain ⟨ra', rcap', rfl⟩ := own_slice' hown'
      have hB8 : Below r w4 w8 := (hB5.alloc (by omega) _).grown hgrow (by simp; omega) (fun t e => by have := owns_ge hrow5 t e; omega)
      have hrg8 := (hrg5.alloc (.cells #[.slice qa lj.length qcap] 22)).kept hgrow (fun e => by have := owns_ge hrow5 _ e.symm; omega) (fun e => by have := owns_ge hrow5 _ e.symm; omega)
      have hbl : ∀ g, g < w5x.heap.size → (Value.slice ra vs.length rcap).ownBlock ≠ some g → w8.heap[g]? = w5x.heap[g]? := fun g h1 h2 => (hgrow.block g (by simp; omega) (fun e => h2 e.symm)).trans (Below.block (balloc w5x _) g h1)
      have hs8 : w5x.heap.size < w8.heap.size := by have := hgrow.size; simp at this; omega
      have hlo : (Value.slice ra' (vs.length + 1) rcap').ownBlock = (Value.slice ra vs.length rcap).ownBlock ∨ ∀ g, (Value.slice ra' (vs.length + 1) rcap').ownBlock = some g → w5x.heap.size ≤ g := by
        rcases hloc with h | h
        · exact .inl h
        · right; intro g hg; rw [h] at hg; simp at hg; omega
      have hls8 := (hls5.keep (r' := .slice ra' (vs.length + 1) rcap') (by omega) (fun g _ h2 h3 => hbl g h2 h3) hlo).snoc (x := .slice qa lj.length qcap) (l := lj) ⟨qa, qcap, qb, qo, rfl, HQ.out.of_eq (hbl qb hq1 (fun e => by have := hown2 _ e; omega)), by omega, hq2, hq3, by omega, fun g hg e => by
        subst e
        rcases hlo with h | h
        · have := hown2 _ (h ▸ hg); omega
        · have := h _ hg; omega⟩
      have hrow8 : w8.ownsRow B0 22 1 (.slice ra' (vs.length + 1) rcap') (vs ++ [Value.slice qa lj.length qcap]).length (vs ++ [Value.slice qa lj.length qcap]) := by simpa using hown'
      clear hown' hgrow hloc hlo hbl hrow5 hls5 hB5
      go_wp2
      go_roundw
      case rel => exact ⟨A ++ [a], _, _, _, hrg8, HL6, hrow8, by rw [HST.out]; exact hls8, by omega, hB8⟩
      case measure => rw [hrg8.left_eq, HA6.out]; exact HA7.out
end Go.Proofs.YtjiapicknkjhmaaDoor

namespace Go.Proofs.YtjiapicknkjhmaaDoor
open Go Go.RowKit

/-- What a function makes of a set, again and again. -/
def itr (nx : (Nat → Bool) → Nat → Bool) (q : Nat → Bool) : Nat → Nat → Bool
  | 0 => q
  | i + 1 => nx (itr nx q i)
theorem und108s : Tryd.prog.underlying 99 = some (.slice 52) := by kernel_rfl
theorem info70b : (Tryd.prog.info? 52).map (fun i => (i.zero, i.size, i.bytes)) = some (some (.int .u64 0), 1, 8) := by kernel_rfl
/-- How far steps goes. -/
structure Stp (n : Nat) (nx : (Nat → Bool) → Nat → Bool) (I : (Nat → Bool) → Prop) (M : (Nat → Bool) → Nat) (q0 : Nat → Bool) (K : Nat) : Prop where
  go : ∀ i, i < K → bs (itr nx q0 (i + 1)) n ≠ bs (itr nx q0 i) n
  inv : ∀ i, i ≤ K → I (itr nx q0 i)
  meas : M (itr nx q0 K) + K ≤ 60
def sets (n : Nat) (f : Nat → Nat → Bool) (k : Nat) : List Value := (List.range k).map fun i => Value.int .u64 (bs (f i) n)
theorem sets_len (n : Nat) (f : Nat → Nat → Bool) (k : Nat) : (sets n f k).length = k := by simp [sets]
theorem sets_at {n : Nat} {f : Nat → Nat → Bool} {k i : Nat} (h : i < k) : (sets n f k)[i]? = some (.int .u64 (bs (f i) n)) := by simp [sets, h]
theorem sets_up (n : Nat) (f : Nat → Nat → Bool) (k : Nat) : sets n f (k + 1) = sets n f k ++ [.int .u64 (bs (f k) n)] := by simp [sets, List.range_succ]
set_option maxRecDepth 100000 in
set_option maxHeartbeats 2000000 in
theorem steps_ok (n k : Nat) (caps : Array Value) (nx : (Nat → Bool) → Nat → Bool) (I : (Nat → Bool) → Prop) (M : (Nat → Bool) → Nat) (q0 : Nat → Bool) (w : World)
    (hcall : ∀ x W, Sem.run Tryd.prog (callFunc k (#[.int .u64 x] ++ caps)) W = .ok (.enter k (#[.int .u64 x] ++ caps)) W)
    (hnx : ∀ (W : World) (q : Nat → Bool), Below w.heap.size w W → I q → Calls Tryd.prog k (#[.int .u64 (bs q n)] ++ caps) W fun x W' => x = .returned (.int .u64 (bs (nx q) n)) ∧ Below W.heap.size W W')
    (hI0 : I q0) (hM0 : M q0 ≤ 60) (hI : ∀ q, I q → bs (nx q) n ≠ bs q n → I (nx q) ∧ M (nx q) < M q) :
    Calls Tryd.prog 74 #[.int .u64 (bs q0 n), .func (.func k) #[] caps] w fun x w' => ∃ K g c : Nat, x = .returned (.slice (some ⟨g, 0, none⟩) (K + 1) c) ∧ Stp n nx I M q0 K ∧ bs (itr nx q0 (K + 1)) n = bs (itr nx q0 K) n ∧ w'.ownsRow w.heap.size 52 1 (.slice (some ⟨g, 0, none⟩) (K + 1) c) (K + 1) (sets n (itr nx q0) (K + 1)) ∧ Below w.heap.size w w' := by
  obtain ⟨i0, hi, hz0, hz1, hz2⟩ := info_parts info70b
  have HNX := hide hnx
  have HI := hide hI
  clear hnx hI
  have hrow0 : (w.alloc (.cells #[.int .u64 (bs q0 n)] 52)).ownsRow w.heap.size 52 1 (.slice (some ⟨w.heap.size, 0, none⟩) 1 1) 1 [.int .u64 (bs q0 n)] := World.ownsRow_lit (e := 52) (size := 1) w #[.int .u64 (bs q0 n)] 1 (Nat.le_refl _) (by unfold maxLen; omega) rfl
  have hB0 : Below w.heap.size w (w.alloc (.cells #[.int .u64 (bs q0 n)] 52)) := balloc w _
  go_enter Tryd.func74, Tryd.ntmps74
  go_wp2_with fail
  go_loopw [5] (fun ls wr => ∃ K g c : Nat, ls = .slice (some ⟨g, 0, none⟩) (K + 1) c ∧ Hid (Stp n nx I M q0 K) ∧ wr.ownsRow w.heap.size 52 1 (.slice (some ⟨g, 0, none⟩) (K + 1) c) (K + 1) (sets n (itr nx q0) (K + 1)) ∧ Below w.heap.size w wr) (fun ls _ => 70 - lenOf ls)
  case atStart => exact ⟨0, _, _, rfl, hide ⟨fun i h => by omega, fun i h => by rw [show i = 0 by omega]; exact hI0, hM0⟩, hrow0, hB0⟩
  case round =>
    clear hrow0 hB0 hI0 hM0
    obtain ⟨K, g, c, rfl, HS, hrow, hB⟩ := hrel
    have hK := HS.out.meas
    have hc := hrow.cells (g := g) rfl K _ (sets_at (by omega))
    rw [show (⟨g, 0, none⟩ : Addr).add K = ⟨g, K, none⟩ by unfold Addr.add; split <;> simp_all] at hc
    have hk1 : (((K + 1 : Nat) : Int) - 1) = (K : Int) := by omega
    have HN := hide (fun W (h : Below w.heap.size w W) => HNX.out W (itr nx q0 K) h (HS.out.inv K (Nat.le_refl _)))
    have HE := hide (show itr nx q0 (K + 1) = nx (itr nx q0 K) from rfl)
    rw [← HE.out] at HN
    go_wp2_with fail
    refine (HN.out _ hB).mono ?_
    rintro x w1 ⟨rfl, hb1⟩
    have hB1 := bcat2 hB hb1
    have hrow1 := own_keep2 hrow (fun g9 h1 h2 => hb1.block g9 h2)
    by_cases heq : bs (itr nx q0 (K + 1)) n = bs (itr nx q0 K) n
    · have HQ := hide heq
      rw [heq]
      go_wp2
      go_ret
      exact ⟨K, g, c, rfl, HS.out, HQ.out, hrow1, hB1⟩
    · have hne : ¬ ((bs (itr nx q0 (K + 1)) n : Int) = (bs (itr nx q0 K) n : Int)) := by omega
      have HS2 : Hid (Stp n nx I M q0 (K + 1)) := hide (by
        have h9 := HI.out _ (HS.out.inv K (Nat.le_refl _)) (by rw [← HE.out]; exact heq)
        rw [← HE.out] at h9
        refine ⟨fun i h => ?_, fun i h => ?_, by omega⟩
        · by_cases h1 : i = K
          · rw [h1]; exact heq
          · exact HS.out.go i (by omega)
        · by_cases h1 : i = K + 1
          · rw [h1]; exact h9.1
          · exact HS.out.inv i (by omega))
      have HUP := hide (sets_up n (itr nx q0) (K + 1))
      have hsl := sets_len n (itr nx q0) (K + 1)
      have hb8 := hB1.size
      clear heq hrow hB hb1 hc
      generalize bs (itr nx q0 (K + 1)) n = Y9 at *
      generalize bs (itr nx q0 K) n = X9 at *
      go_wp2_with (first
        | (at_builtin; refine wpList_append_own_at _ rfl _ _ 99 rfl w.heap.size 52 i0 (.int .u64 0) 1 8 und108s hi hz0 hz1 hz2 rfl (by decide) _ _ _ rfl (World.ownsRow.alloc hrow1 _) ⟨w1.heap.size, 0, none⟩ 1 1 [.int .u64 Y9] rfl rfl ?c1 ?c2 ?c3 ?c4 ?c5 ?_))
      case c1 => exact cell_one_new _ _ _
      case c2 => simp [Value.oneCell']
      case c3 => unfold maxLen; omega
      case c4 => omega
      case c5 => simp; omega
      intro v' w8 hown' hgrow hnil hloc
      have hB8 : Below w.heap.size w w8 := (hB1.alloc (by omega) _).grown hgrow (by simp; omega) (fun t e => by have := owns_ge hrow1 t e; omega)
      obtain ⟨g8, c8, rfl⟩ := ownsRow_succ hown'
      have hrow8 : w8.ownsRow w.heap.size 52 1 (.slice (some ⟨g8, 0, none⟩) (K + 1 + 1) c8) (K + 1 + 1) (sets n (itr nx q0) (K + 1 + 1)) := by
        rw [HUP.out]
        simpa using hown'
      clear hown' hgrow hloc hrow1 hB1
      go_wp2
      go_roundw
      case rel => exact ⟨K + 1, g8, c8, rfl, HS2, hrow8, hB8⟩
      case measure => simp [lenOf]; omega
end Go.Proofs.YtjiapicknkjhmaaDoor

namespace Go.Proofs.YtjiapicknkjhmaaDoor
open Go Go.RowKit

section
variable {n e : Nat} {zs : List Int} {q r : Nat → Bool}
/-- What the commutators of two sets make. -/
noncomputable def cmb (n : Nat) (zs : List Int) (e : Nat) (q r : Nat → Bool) : Nat → Bool := (mkd_ex' n zs e (cmq n zs e (lst n q) (lst n r))).choose
theorem cmb_iff (n : Nat) (zs : List Int) (e : Nat) (q r : Nat → Bool) : ∀ a, a < n → (cmb n zs e q r a = true ↔ Mkd n zs e (cmq n zs e (lst n q) (lst n r)) a) := (mkd_ex' n zs e (cmq n zs e (lst n q) (lst n r))).choose_spec
theorem cmq_iff {y : Nat} : cmq n zs e (lst n q) (lst n r) y = true ↔ ∃ a b, a < n ∧ b < n ∧ q a = true ∧ r b = true ∧ Fin.cm (tm n zs) (iv n zs e) a b = y := by
  unfold cmq
  simp only [List.any_eq_true, decide_eq_true_eq, mem_lst]
  exact ⟨fun ⟨a, ⟨h1, h2⟩, b, ⟨h3, h4⟩, h5⟩ => ⟨a, b, h1, h3, h2, h4, h5⟩, fun ⟨a, b, h1, h3, h2, h4, h5⟩ => ⟨a, ⟨h1, h2⟩, b, ⟨h3, h4⟩, h5⟩⟩
theorem cmb_sg (g : IsGrp n zs e) : Fin.Sg (List.range n) (tm n zs) e (fun a => cmb n zs e q r a = true) := made_sg g (cmb_iff n zs e q r)
theorem cmb_in {P : Nat → Prop} (S : Fin.Sg (List.range n) (tm n zs) e P) (h : ∀ a b, a < n → b < n → q a = true → r b = true → P (Fin.cm (tm n zs) (iv n zs e) a b)) {x : Nat} (hx : x < n) (h1 : cmb n zs e q r x = true) : P x :=
  Fin.Gen.least S (fun y _ h2 => by
    obtain ⟨a, b, ha, hb, h3, h4, rfl⟩ := cmq_iff.1 h2
    exact h a b ha hb h3 h4) ((cmb_iff n zs e q r x hx).1 h1)
theorem cm_lt (g : IsGrp n zs e) {a b : Nat} (ha : a < n) (hb : b < n) : Fin.cm (tm n zs) (iv n zs e) a b < n := List.mem_range.1 (Fin.cm_mem (grp_fg g) (grp_iv g) (List.mem_range.2 ha) (List.mem_range.2 hb))
theorem cmb_base (g : IsGrp n zs e) {a b : Nat} (ha : a < n) (hb : b < n) (h1 : q a = true) (h2 : r b = true) : cmb n zs e q r (Fin.cm (tm n zs) (iv n zs e) a b) = true :=
  (cmb_iff n zs e q r _ (cm_lt g ha hb)).2 (Fin.Gen.base (List.mem_range.2 (cm_lt g ha hb)) (cmq_iff.2 ⟨a, b, ha, hb, h1, h2, rfl⟩))
theorem cm_as (g : IsGrp n zs e) {a b : Nat} (ha : a < n) (hb : b < n) : Fin.cm (tm n zs) (iv n zs e) a b = tm n zs (iv n zs e a) (Fin.cj (tm n zs) (iv n zs e) a b) := by
  unfold Fin.cm Fin.cj
  rw [g.ass _ _ _ (iv_spec g ha).1 (iv_spec g hb).1 (tm_lt g.tab ha hb)]
/-- A normal subgroup. -/
structure Nsg (n : Nat) (zs : List Int) (e : Nat) (q : Nat → Bool) : Prop where
  sg : Fin.Sg (List.range n) (tm n zs) e (fun a => q a = true)
  nm : Fin.Nm (List.range n) (tm n zs) (iv n zs e) (fun a => q a = true)
theorem Nsg.cm_in (g : IsGrp n zs e) (h : Nsg n zs e q) {a b : Nat} (ha : a < n) (hb : b < n) (hq : q a = true) : q (Fin.cm (tm n zs) (iv n zs e) a b) = true := by
  have F := grp_fg g
  have V := grp_iv g
  have ha' := List.mem_range.2 ha
  have hb' := List.mem_range.2 hb
  rw [cm_as g ha hb]
  exact h.sg.mul _ _ (V a ha').1 (Fin.cj_mem F V ha' hb') (h.sg.inv F ha' (V a ha').1 (V a ha').2.1 hq) (h.nm a b ha' hb' hq)
theorem Nsg.all : Nsg n zs e (fun _ => true) := ⟨⟨rfl, fun _ _ _ _ _ _ => rfl⟩, fun _ _ _ _ _ => rfl⟩
theorem Nsg.low (g : IsGrp n zs e) (h : Nsg n zs e q) : Nsg n zs e (cmb n zs e q (fun _ => true)) := by
  have F := grp_fg g
  have V := grp_iv g
  refine ⟨cmb_sg g, fun x a hx ha h1 => ?_⟩
  have hm := Fin.cj_mem F V hx ha
  refine (cmb_iff n zs e q _ _ (List.mem_range.1 hm)).2 ?_
  refine Fin.gen_nm F V (X := fun y => cmq n zs e (lst n q) (lst n fun _ => true) y = true) (fun y b hy hb h2 => ?_) x a hx ha ((cmb_iff n zs e q _ x (List.mem_range.1 hx)).1 h1)
  obtain ⟨c, d, hc, hd, h3, _, rfl⟩ := cmq_iff.1 h2
  have hc' := List.mem_range.2 hc
  have hd' := List.mem_range.2 hd
  rw [Fin.cm_cj F V hc' hd' hb]
  exact cmq_iff.2 ⟨_, _, List.mem_range.1 (Fin.cj_mem F V hc' hb), List.mem_range.1 (Fin.cj_mem F V hd' hb), h.nm c b hc' hb h3, rfl, rfl⟩
theorem low_in (g : IsGrp n zs e) (h : Nsg n zs e q) {x : Nat} (hx : x < n) (h1 : cmb n zs e q (fun _ => true) x = true) : q x = true :=
  cmb_in h.sg (fun _ _ ha hb h2 _ => h.cm_in g ha hb h2) hx h1
theorem der_in (g : IsGrp n zs e) (S : Fin.Sg (List.range n) (tm n zs) e (fun a => q a = true)) {x : Nat} (hx : x < n) (h1 : cmb n zs e q q x = true) : q x = true := by
  have F := grp_fg g
  have V := grp_iv g
  refine cmb_in S (fun a b ha hb h2 h3 => ?_) hx h1
  have ha' := List.mem_range.2 ha
  have hb' := List.mem_range.2 hb
  have i1 := S.inv F ha' (V a ha').1 (V a ha').2.1 h2
  have i2 := S.inv F hb' (V b hb').1 (V b hb').2.1 h3
  exact S.mul _ _ (F.cl _ _ (V a ha').1 (V b hb').1) (F.cl _ _ ha' hb') (S.mul _ _ (V a ha').1 (V b hb').1 i1 i2) (S.mul _ _ ha' hb' h2 h3)
theorem less_of (n : Nat) {p q : Nat → Bool} (h : ∀ x, x < n → p x = true → q x = true) (hne : bs p n ≠ bs q n) : (lst n p).length < (lst n q).length :=
  (lst_less h).2 (Classical.byContradiction fun h9 => hne (bs_ext fun x hx => by
    rw [Bool.eq_iff_iff]
    exact ⟨h x hx, fun h1 => Classical.byContradiction fun h2 => h9 ⟨x, hx, h1, h2⟩⟩))
end

theorem own_le {w : World} {B B' n : Nat} {t : TypeId} {v : Value} {xs : List Value} (h : w.ownsRow B t 1 v n xs) (hb : B' ≤ B) : w.ownsRow B' t 1 v n xs := by
  refine ⟨h.1, ?_⟩
  rcases h.2 with h1 | ⟨g, cap, cur, h1, h2, h3⟩
  · exact .inl h1
  · exact .inr ⟨g, cap, cur, h1, by omega, h3⟩
theorem call105 (x : Int) (y : Value) (W : World) : Sem.run Tryd.prog (callFunc 108 (#[.int .u64 x] ++ #[y])) W = .ok (.enter 108 (#[.int .u64 x] ++ #[y])) W := by kernel_rfl
set_option maxRecDepth 100000 in
theorem der1_ok (n : Nat) (v u : Value) (zs : List Int) (e gb : Nat) (q : Nat → Bool) (w : World) (hG : GA w n v e u zs) (hT : Tab w) (hb : Box4 w gb n e v u) :
    Calls Tryd.prog 108 (#[.int .u64 (bs q n)] ++ #[.pointer (some ⟨gb, 0, none⟩)]) w fun x w' => x = .returned (.int .u64 (bs (cmb n zs e q q) n)) ∧ Below w.heap.size w w' := by
  show Calls Tryd.prog 108 #[.int .u64 (bs q n), .pointer (some ⟨gb, 0, none⟩)] w _
  have HC := hide (cmms_ok n v u zs e q q (cmb n zs e q q) w hG hT (cmb_iff n zs e q q))
  obtain ⟨c0, c1, c2, c3⟩ := hb.cells
  go_enter Tryd.func108, Tryd.ntmps108
  go_wp2_with fail
  refine HC.out.mono ?_
  rintro x w1 ⟨rfl, hb1⟩
  go_wp2
  go_ret
  exact ⟨rfl, hb1⟩
/-- What derived and lower answer. -/
def SerA (w w' : World) (n : Nat) (nx : (Nat → Bool) → Nat → Bool) (I : (Nat → Bool) → Prop) (M : (Nat → Bool) → Nat) (q0 : Nat → Bool) (x : Value) : Prop := ∃ K g c : Nat, x = .slice (some ⟨g, 0, none⟩) (K + 1) c ∧ Stp n nx I M q0 K ∧ bs (itr nx q0 (K + 1)) n = bs (itr nx q0 K) n ∧ w'.ownsRow w.heap.size 52 1 (.slice (some ⟨g, 0, none⟩) (K + 1) c) (K + 1) (sets n (itr nx q0) (K + 1))
set_option maxRecDepth 100000 in
theorem derived_ok (n : Nat) (v u : Value) (zs : List Int) (e : Nat) (w : World) (hG : GA w n v e u zs) (hT : Tab w) :
    Calls Tryd.prog 77 #[.agg #[.int .i64 n, v, .int .i64 e, u]] w fun x w' => ∃ y, x = .returned y ∧ SerA w w' n (fun q => cmb n zs e q q) (fun q => Fin.Sg (List.range n) (tm n zs) e (fun a => q a = true)) (fun q => (lst n q).length) (fun _ => true) y ∧ Below w.heap.size w w' := by
  have hg := hG.grp
  have hn := hG.le
  have hB0 : Below w.heap.size w (w.alloc (.cells #[.int .i64 n, v, .int .i64 e, u] 50)) := balloc w _
  have hX0 := Box4.new w n e v u
  obtain ⟨c0, c1, c2, c3⟩ := hX0.cells
  go_enter Tryd.func77, Tryd.ntmps77
  go_wp2_with fail
  clear c0 c1 c2 c3
  generalize w.alloc (.cells #[.int .i64 n, v, .int .i64 e, u] 50) = w0 at *
  refine (all_ok n v u e w0 hn).mono ?_
  rintro x w1 ⟨rfl, hb1⟩
  have hB1 := bcat2 hB0 hb1
  have hX1 := hX0.below hb1
  go_wp2_with fail
  refine (steps_ok n 108 #[.pointer (some ⟨w.heap.size, 0, none⟩)] (fun q => cmb n zs e q q) (fun q => Fin.Sg (List.range n) (tm n zs) e (fun a => q a = true)) (fun q => (lst n q).length) (fun _ => true) w1 (fun x W => call105 x _ W) (fun W q h _ => der1_ok n v u zs e _ q W (hG.below (bcat2 hB1 h)) (hT.below (bcat2 hB1 h)) (hX1.below h)) Nsg.all.sg (Nat.le_trans (lst_len _ _) hn) (fun q h1 h2 => ⟨cmb_sg hg, less_of n (fun x hx h3 => der_in hg h1 hx h3) h2⟩)).mono ?_
  rintro x w2 ⟨K, g, c, rfl, hst, hend, hrow, hb2⟩
  have hrow2 := own_le hrow hB1.size
  have hB2 := bcat2 hB1 hb2
  go_wp2
  go_ret
  exact ⟨_, rfl, ⟨K, g, c, rfl, hst, hend, hrow2⟩, hB2⟩
end Go.Proofs.YtjiapicknkjhmaaDoor

namespace Go.Proofs.YtjiapicknkjhmaaDoor
open Go Go.RowKit Go.Maps

/-- What is in all conjugates by some things. -/
def cin (n : Nat) (zs : List Int) (e : Nat) (s : Nat → Bool) (A : List Nat) (x : Nat) : Bool := A.all fun a => cjq n zs e s a x
theorem cin_snoc (n : Nat) (zs : List Int) (e : Nat) (s : Nat → Bool) (A : List Nat) (a : Nat) : cin n zs e s (A ++ [a]) = fun x => cin n zs e s A x && cjq n zs e s a x := by
  funext x
  simp [cin]
end Go.Proofs.YtjiapicknkjhmaaDoor

namespace Go.Proofs.YtjiapicknkjhmaaDoor
open Go Go.RowKit

/-- How many things one thing makes. -/
noncomputable def mk1 (n : Nat) (zs : List Int) (e a : Nat) : Nat → Bool := (mkd_ex' n zs e (fun y => decide (y = a))).choose
theorem mk1_iff (n : Nat) (zs : List Int) (e a : Nat) : ∀ x, x < n → (mk1 n zs e a x = true ↔ Mkd n zs e (fun y => decide (y = a)) x) := (mkd_ex' n zs e (fun y => decide (y = a))).choose_spec
end Go.Proofs.YtjiapicknkjhmaaDoor

namespace Go.Proofs.YtjiapicknkjhmaaDoor.Fin

def Pr (p : Nat) : Prop := 2 ≤ p ∧ ∀ d, d ∣ p → d = 1 ∨ d = p
theorem pr_exists {n : Nat} (hn : 2 ≤ n) : ∃ p, Pr p ∧ p ∣ n := by
  obtain ⟨d, hd, ⟨h2, hdn⟩, hmin⟩ := least_pos (P := fun d => 2 ≤ d ∧ d ∣ n) n (by omega) ⟨hn, Nat.dvd_refl n⟩
  refine ⟨d, ⟨h2, fun c hc => ?_⟩, hdn⟩
  have h0 : c ≠ 0 := fun h => by rw [h] at hc; have := Nat.eq_zero_of_zero_dvd hc; omega
  have hle := Nat.le_of_dvd hd hc
  rcases Nat.lt_or_ge c 2 with h | h
  · exact .inl (by omega)
  · rcases Nat.lt_or_ge c d with h3 | h3
    · exact absurd ⟨h, Nat.dvd_trans hc hdn⟩ (hmin c (by omega) h3)
    · exact .inr (by omega)
theorem pr_cop {p c : Nat} (hp : Pr p) (h : ¬ p ∣ c) : Nat.Coprime p c := by
  rcases hp.2 (Nat.gcd p c) (Nat.gcd_dvd_left p c) with h1 | h1
  · exact h1
  · exact absurd (by rw [← h1]; exact Nat.gcd_dvd_right p c) h
theorem pr_split {p : Nat} (hp : Pr p) : ∀ n, 0 < n → ∃ k s, n = p ^ k * s ∧ ¬ p ∣ s := by
  intro n
  induction n using Nat.strongRecOn with
  | _ n ih =>
    intro hn
    rcases Classical.em (p ∣ n) with ⟨c, hc⟩ | h
    · have hc0 : 0 < c := by
        rcases Nat.eq_zero_or_pos c with h | h
        · subst h; simp at hc; omega
        · exact h
      have hlt : c < n := by
        rw [hc]
        have : 2 * c ≤ p * c := Nat.mul_le_mul_right c hp.1
        omega
      obtain ⟨k, s, h1, h2⟩ := ih c hlt hc0
      exact ⟨k + 1, s, by rw [hc, h1, Nat.pow_succ, Nat.mul_comm (p ^ k) p, Nat.mul_assoc], h2⟩
    · exact ⟨0, n, by simp, h⟩
theorem pr_pow_dvd {p k d : Nat} (hp : Pr p) (h : d ∣ p ^ (k + 1)) (h2 : ¬ d ∣ p ^ k) : d = p ^ (k + 1) := by
  obtain ⟨c, hc⟩ := h
  have hp0 : 0 < p := by have := hp.1; omega
  have hpos : 0 < p ^ (k + 1) := Nat.pow_pos hp0
  rcases Classical.em (p ∣ c) with ⟨c', hc'⟩ | hn
  · exfalso
    apply h2
    refine ⟨c', ?_⟩
    have h3 : p * p ^ k = p * (d * c') := by rw [← Nat.pow_succ', hc, hc']; rw [← Nat.mul_assoc, ← Nat.mul_assoc, Nat.mul_comm d p]
    exact Nat.eq_of_mul_eq_mul_left hp0 h3
  · have h3 : Nat.Coprime (p ^ (k + 1)) c := Nat.Coprime.pow_left _ (pr_cop hp hn)
    have h4 : c ∣ 1 := by
      rw [← h3]
      exact Nat.dvd_gcd ⟨d, by rw [hc, Nat.mul_comm]⟩ (Nat.dvd_refl c)
    have h5 : c = 1 := Nat.eq_one_of_dvd_one h4
    rw [hc, h5, Nat.mul_one]
theorem inv_mod {s q : Nat} (hq : 0 < q) (h : Nat.Coprime s q) (c : Nat) : ∃ i, i < q ∧ (s * i) % q = c % q := by
  refine meets (n := q) (f := fun i => (s * i) % q) (fun i _ => Nat.mod_lt _ hq) (fun i j hi hj hij => ?_) (Nat.mod_lt c hq)
  have key : ∀ i j, i < q → j < q → i ≤ j → (s * i) % q = (s * j) % q → i = j := fun i j hi hj hle he => by
    have h1 : q ∣ s * (j - i) := by
      rw [Nat.mul_sub]
      exact Nat.dvd_of_mod_eq_zero (Nat.sub_mod_eq_zero_of_mod_eq he.symm)
    have h2 : q ∣ j - i := Nat.Coprime.dvd_of_dvd_mul_left h.symm h1
    rcases Nat.eq_zero_or_pos (j - i) with h0 | h0
    · omega
    · have := Nat.le_of_dvd h0 h2
      omega
  rcases Nat.le_total i j with hl | hl
  · exact key i j hi hj hl hij
  · exact (key j i hj hi hl hij.symm).symm

/-- The numbers of which one takes a thing's parts. -/
structure Parts (p k s q a b : Nat) : Prop where
  pr : Pr p
  cop : ¬ p ∣ s
  s0 : 0 < s
  hq : q = p ^ (k + 1)
  sa : s ∣ a
  aq : a % q = 1 % q
  qb : q ∣ b
  bs : b % s = 1 % s
theorem Parts.mk' {p k s : Nat} (hp : Pr p) (hs : ¬ p ∣ s) (h0 : 0 < s) : ∃ q a b, Parts p k s q a b := by
  have hp0 : 0 < p := by have := hp.1; omega
  have hc : Nat.Coprime (p ^ (k + 1)) s := Nat.Coprime.pow_left _ (pr_cop hp hs)
  obtain ⟨i, _, hi⟩ := inv_mod (s := s) (q := p ^ (k + 1)) (Nat.pow_pos hp0) hc.symm 1
  obtain ⟨j, _, hj⟩ := inv_mod (s := p ^ (k + 1)) (q := s) h0 hc 1
  exact ⟨p ^ (k + 1), s * i, p ^ (k + 1) * j, hp, hs, h0, rfl, ⟨i, rfl⟩, hi, ⟨j, rfl⟩, hj⟩
variable {p k s q a b : Nat}
theorem Parts.q0 (h : Parts p k s q a b) : 0 < q := by rw [h.hq]; exact Nat.pow_pos (by have := h.pr.1; omega)
theorem Parts.q2 (h : Parts p k s q a b) : 2 ≤ q := by
  rw [h.hq, Nat.pow_succ]
  have h1 : 1 ≤ p ^ k := Nat.pow_pos (by have := h.pr.1; omega)
  have := h.pr.1
  calc 2 ≤ 1 * p := by omega
    _ ≤ p ^ k * p := Nat.mul_le_mul_right p h1
theorem Parts.cqs (h : Parts p k s q a b) : Nat.Coprime q s := by rw [h.hq]; exact Nat.Coprime.pow_left _ (pr_cop h.pr h.cop)
theorem Parts.qp (h : Parts p k s q a b) : q = p ^ k * p := by rw [h.hq, Nat.pow_succ]
theorem Parts.sum (h : Parts p k s q a b) : ∃ t, a + b = 1 + q * s * t := by
  have h2 := h.q2
  have ha : 1 ≤ a := by
    rcases Nat.eq_zero_or_pos a with h0 | h0
    · have := h.aq; rw [h0, Nat.zero_mod, Nat.mod_eq_of_lt (by omega)] at this; omega
    · exact h0
  have h3 : q ∣ a + b - 1 := by
    apply Nat.dvd_of_mod_eq_zero
    apply Nat.sub_mod_eq_zero_of_mod_eq
    obtain ⟨j, hj⟩ := h.qb
    rw [hj, Nat.add_mul_mod_self_left]; exact h.aq
  have h4 : s ∣ a + b - 1 := by
    apply Nat.dvd_of_mod_eq_zero
    apply Nat.sub_mod_eq_zero_of_mod_eq
    obtain ⟨i, hi⟩ := h.sa
    rw [hi, Nat.add_comm, Nat.add_mul_mod_self_left]; exact h.bs
  obtain ⟨t, ht⟩ := Nat.Coprime.mul_dvd_of_dvd_of_dvd h.cqs h3 h4
  exact ⟨t, by omega⟩

variable {l : List Nat} {m : Nat → Nat → Nat} {e : Nat}
theorem po_z (h : Fg l m e) {x : Nat} (hx : x ∈ l) {n : Nat} (hn : po m e x n = e) (t : Nat) : po m e x (n * t) = e := by rw [← po_mul h hx, hn, po_e h]
theorem po_z' (h : Fg l m e) {x : Nat} (hx : x ∈ l) {n j : Nat} (hn : po m e x n = e) (hj : n ∣ j) : po m e x j = e := by obtain ⟨t, rfl⟩ := hj; exact po_z h hx hn t
theorem po_off (h : Fg l m e) {x : Nat} (hx : x ∈ l) {n : Nat} (hn : po m e x n = e) (i t : Nat) : po m e x (i + n * t) = po m e x i := by rw [po_add h hx, po_z h hx hn, h.right _ (po_mem h hx i)]
/-- What is taken away: so many times p it is the one, and not without p. -/
def AA (l : List Nat) (m : Nat → Nat → Nat) (e q n s : Nat) : List Nat := l.filter fun x => decide (po m e x (q * s) = e) && !decide (po m e x (n * s) = e)
theorem AA_iff {n x : Nat} : x ∈ AA l m e q n s ↔ x ∈ l ∧ po m e x (q * s) = e ∧ ¬ po m e x (n * s) = e := by
  unfold AA
  rw [List.mem_filter]
  simp
/-- The part whose order is the prime's power. -/
theorem part_ord (h : Fg l m e) (P : Parts p k s q a b) {x : Nat} (hA : x ∈ AA l m e q (p ^ k) s) : ∀ i, po m e (po m e x a) i = e ↔ q ∣ i := by
  obtain ⟨hx, h1, h2⟩ := AA_iff.1 hA
  have hy := po_mem h hx a
  obtain ⟨d, hd, ho⟩ := order h hy
  have hdq : d ∣ q := (ho q).1 (by
    rw [po_mul h hx]
    obtain ⟨i, hi⟩ := P.sa
    exact po_z' h hx h1 ⟨i, by rw [hi]; simp [Nat.mul_comm, Nat.mul_left_comm]⟩)
  have hnk : ¬ d ∣ p ^ k := fun hc => by
    apply h2
    have h3 := (ho _).2 hc
    obtain ⟨t, ht⟩ := P.sum
    have h4 : x = po m e x (a + b) := by rw [ht, po_off h hx h1, po_one h hx]
    have h5 : po m e x (p ^ k * s) = po m e (po m e x (a + b)) (p ^ k * s) := by rw [← h4]
    rw [h5, po_add h hx, po_prod h (po_mem h hx a) (po_mem h hx b) (po_pow_com h hx a b), po_z' h hy h3 ⟨s, rfl⟩, po_mul h hx, h.left _ (po_mem h hx _)]
    obtain ⟨j, hj⟩ := P.qb
    exact po_z' h hx h1 ⟨j * p ^ k, by rw [hj]; grind⟩
  rw [P.hq] at hdq ⊢
  have := pr_pow_dvd P.pr hdq hnk
  rw [← this]; exact ho

theorem rel_iff (h : Fg l m e) (P : Parts p k s q a b) {x y : Nat} (hx : x ∈ l) (h1 : po m e x (q * s) = e) :
    ((List.range (p ^ k)).any (fun i => decide (po m e x (1 + p * s * i) = y))) = true ↔ ∃ t, po m e x (1 + p * s * t) = y := by
  have hk : 0 < p ^ k := Nat.pow_pos (by have := P.pr.1; omega)
  simp only [List.any_eq_true, List.mem_range, decide_eq_true_eq]
  constructor
  · rintro ⟨i, _, hi⟩; exact ⟨i, hi⟩
  · rintro ⟨t, ht⟩
    refine ⟨t % p ^ k, Nat.mod_lt _ hk, ?_⟩
    rw [← ht]
    have : 1 + p * s * t = (1 + p * s * (t % p ^ k)) + q * s * (t / p ^ k) := by
      have h3 := Nat.div_add_mod t (p ^ k)
      rw [P.qp]
      generalize t / p ^ k = u at *
      generalize t % p ^ k = v at *
      rw [← h3]
      grind
    rw [this, po_off h hx h1]
theorem cop_u (P : Parts p k s q a b) (t : Nat) : Nat.Coprime (1 + p * s * t) (p ^ k) := by
  have : ¬ p ∣ 1 + p * s * t := fun hc => by
    have h1 : p ∣ p * s * t := ⟨s * t, by rw [Nat.mul_assoc]⟩
    have h2 := (Nat.dvd_add_iff_left h1).2 hc
    have := Nat.le_of_dvd (by omega) h2
    have := P.pr.1
    omega
  exact (Nat.Coprime.pow_left k (pr_cop P.pr this)).symm
theorem half_one (h : Fg l m e) (P : Parts p k s q a b) : p ^ k ∣ (AA l m e q (p ^ k) s).length := by
  have hk : 0 < p ^ k := Nat.pow_pos (by have := P.pr.1; omega)
  have hA : ∀ x, x ∈ AA l m e q (p ^ k) s → x ∈ l ∧ po m e x (q * s) = e ∧ ¬ po m e x (p ^ k * s) = e := fun x hx => AA_iff.1 hx
  have htr : ∀ x y z, x ∈ l → (∃ t, po m e x (1 + p * s * t) = y) → (∃ t, po m e y (1 + p * s * t) = z) → ∃ t, po m e x (1 + p * s * t) = z := fun x y z hx ⟨t, h1⟩ ⟨u, h2⟩ => by
    refine ⟨t + u + p * s * t * u, ?_⟩
    rw [← h2, ← h1, po_mul h hx]
    congr 1
    grind
  have hsy : ∀ x y, x ∈ l → po m e x (q * s) = e → (∃ t, po m e x (1 + p * s * t) = y) → ∃ t, po m e y (1 + p * s * t) = x := fun x y hx h1 ⟨t, ht⟩ => by
    obtain ⟨u, _, hu⟩ := inv_mod hk (cop_u P t) (p ^ k - t % p ^ k)
    have h0 : (t + (1 + p * s * t) * u) % p ^ k = 0 := by
      rw [Nat.add_mod, hu, ← Nat.add_mod]
      have h3 := Nat.div_add_mod t (p ^ k)
      have h4 := Nat.mod_lt t hk
      have : t + (p ^ k - t % p ^ k) = p ^ k * (t / p ^ k + 1) := by rw [Nat.mul_add, Nat.mul_one]; omega
      rw [this, Nat.mul_mod_right]
    obtain ⟨v, hv⟩ := Nat.dvd_of_mod_eq_zero h0
    refine ⟨u, ?_⟩
    rw [← ht, po_mul h hx]
    have : (1 + p * s * t) * (1 + p * s * u) = 1 + q * s * v := by
      have h5 : (1 + p * s * t) * (1 + p * s * u) = 1 + p * s * (t + (1 + p * s * t) * u) := by grind
      rw [h5, hv, P.qp]
      grind
    rw [this, po_off h hx h1, po_one h hx]
  refine part_dvd _ (fun x y => (List.range (p ^ k)).any (fun i => decide (po m e x (1 + p * s * i) = y))) _ _ (Nat.le_refl _) (fun x hx => ?_) (fun x y z hx hy _ hxy => ?_) (fun x hx => ?_)
  · obtain ⟨hl, h1, _⟩ := hA x hx
    exact (rel_iff h P hl h1).2 ⟨0, by rw [Nat.mul_zero, Nat.add_zero, po_one h hl]⟩
  · obtain ⟨hl, h1, _⟩ := hA x hx
    obtain ⟨hl', h1', _⟩ := hA y hy
    have hxy := (rel_iff h P hl h1).1 hxy
    show _ = _
    rw [Bool.eq_iff_iff, rel_iff h P hl h1, rel_iff h P hl' h1']
    exact ⟨fun hz => htr y x z hl' (hsy x y hl h1 hxy) hz, fun hz => htr x y z hl hxy hz⟩
  · obtain ⟨hl, h1, h2⟩ := hA x hx
    have ho := part_ord h P hx
    have key : ∀ i j, i < p ^ k → j < p ^ k → i ≤ j → po m e x (1 + p * s * i) = po m e x (1 + p * s * j) → i = j := fun i j hi hj hle he => by
      have h3 := po_back h hl (Nat.add_le_add_left (Nat.mul_le_mul_left _ hle) 1) he
      have h4 : 1 + p * s * j - (1 + p * s * i) = p * (s * (j - i)) := by rw [Nat.add_sub_add_left, ← Nat.mul_sub, Nat.mul_assoc]
      rw [h4] at h3
      have h5 := (ho (p * (s * (j - i)))).1 (by rw [po_mul h hl]; exact po_z' h hl h3 ⟨a, by rw [Nat.mul_comm]⟩)
      rw [P.qp, Nat.mul_comm (p ^ k) p] at h5
      have h6 : p ^ k ∣ s * (j - i) := Nat.dvd_of_mul_dvd_mul_left (by have := P.pr.1; omega) h5
      have h7 : p ^ k ∣ j - i := Nat.Coprime.dvd_of_dvd_mul_left (Nat.Coprime.pow_left k (pr_cop P.pr P.cop)) h6
      rcases Nat.eq_zero_or_pos (j - i) with h0 | h0
      · omega
      · have := Nat.le_of_dvd h0 h7
        omega
    have := bij_len (l1 := List.range (p ^ k)) (l2 := (AA l m e q (p ^ k) s).filter fun y => (List.range (p ^ k)).any (fun i => decide (po m e x (1 + p * s * i) = y))) (fun i => po m e x (1 + p * s * i)) List.nodup_range ((h.nd.filter _).filter _) (fun i _ => by
        refine List.mem_filter.2 ⟨AA_iff.2 ⟨po_mem h hl _, ?_, ?_⟩, (rel_iff h P hl h1).2 ⟨i, rfl⟩⟩
        · rw [po_mul h hl]; exact po_z' h hl h1 ⟨1 + p * s * i, by rw [Nat.mul_comm]⟩
        · rw [po_mul h hl]
          have : (1 + p * s * i) * (p ^ k * s) = p ^ k * s + q * s * (s * i) := by rw [P.qp]; grind
          rw [this, po_off h hl h1]; exact h2) (fun i j hi hj hij => by
        rw [List.mem_range] at hi hj
        rcases Nat.le_total i j with hle | hle
        · exact key i j hi hj hle hij
        · exact (key j i hj hi hle hij.symm).symm) (fun y hy => by
        obtain ⟨_, h4⟩ := List.mem_filter.1 hy
        simp only [List.any_eq_true, decide_eq_true_eq] at h4
        exact h4)
    rw [List.length_range] at this
    exact ⟨1, by rw [Nat.mul_one]; exact this.symm⟩
end Go.Proofs.YtjiapicknkjhmaaDoor.Fin

namespace Go.Proofs.YtjiapicknkjhmaaDoor.Fin
variable {l : List Nat} {m : Nat → Nat → Nat} {e : Nat}

/-- What commutes with a thing. -/
def cent (l : List Nat) (m : Nat → Nat → Nat) (y : Nat) : List Nat := l.filter fun c => decide (m c y = m y c)
theorem cent_iff {y c : Nat} : c ∈ cent l m y ↔ c ∈ l ∧ m c y = m y c := by
  unfold cent; rw [List.mem_filter, decide_eq_true_eq]
theorem cent_fg (h : Fg l m e) {y : Nat} (hy : y ∈ l) : Fg (cent l m y) m e := by
  refine sub_fg h (h.nd.filter _) (fun x hx => (cent_iff.1 hx).1) (cent_iff.2 ⟨h.one, by rw [h.left y hy, h.right y hy]⟩) (fun a b ha hb => ?_)
  obtain ⟨ha1, ha2⟩ := cent_iff.1 ha
  obtain ⟨hb1, hb2⟩ := cent_iff.1 hb
  exact cent_iff.2 ⟨h.cl _ _ ha1 hb1, by rw [h.ass _ _ _ ha1 hb1 hy, hb2, ← h.ass _ _ _ ha1 hy hb1, ha2, h.ass _ _ _ hy ha1 hb1]⟩

/-- The coset of the powers of y. -/
def inco (m : Nat → Nat → Nat) (e y q x c : Nat) : Bool := (List.range q).any fun i => decide (m x (po m e y i) = c)
def rep (l : List Nat) (m : Nat → Nat → Nat) (e y q x : Nat) : Nat := ((l.filter fun c => inco m e y q x c).head?).getD 0
structure Cen (l : List Nat) (m : Nat → Nat → Nat) (e y q : Nat) : Prop where
  fg : Fg l m e
  hy : y ∈ l
  com : ∀ c, c ∈ l → m c y = m y c
  q0 : 0 < q
  ho : ∀ i, po m e y i = e ↔ q ∣ i
variable {y q : Nat}
theorem inco_iff (H : Cen l m e y q) {x c : Nat} : inco m e y q x c = true ↔ ∃ i, m x (po m e y i) = c := by
  unfold inco
  simp only [List.any_eq_true, List.mem_range, decide_eq_true_eq]
  constructor
  · rintro ⟨i, _, hi⟩; exact ⟨i, hi⟩
  · rintro ⟨i, hi⟩
    refine ⟨i % q, Nat.mod_lt _ H.q0, ?_⟩
    rw [← hi]
    have h1 : po m e y i = po m e y (i % q + q * (i / q)) := by congr 1; have := Nat.div_add_mod i q; omega
    rw [h1, po_off H.fg H.hy ((H.ho q).2 ⟨1, by simp⟩)]
theorem inco_refl (H : Cen l m e y q) {x : Nat} (hx : x ∈ l) : inco m e y q x x = true := (inco_iff H).2 ⟨0, H.fg.right x hx⟩
theorem inco_symm (H : Cen l m e y q) {x c : Nat} (hx : x ∈ l) (h : inco m e y q x c = true) : inco m e y q c x = true := by
  obtain ⟨i, hi⟩ := (inco_iff H).1 h
  have hq := H.q0
  refine (inco_iff H).2 ⟨q * i - i, ?_⟩
  have hle : i ≤ q * i := Nat.le_mul_of_pos_left i hq
  rw [← hi, H.fg.ass _ _ _ hx (po_mem H.fg H.hy _) (po_mem H.fg H.hy _), ← po_add H.fg H.hy, show i + (q * i - i) = q * i by omega, (H.ho _).2 ⟨i, rfl⟩, H.fg.right x hx]
theorem inco_trans (H : Cen l m e y q) {x c d : Nat} (hx : x ∈ l) (h : inco m e y q x c = true) (k : inco m e y q c d = true) : inco m e y q x d = true := by
  obtain ⟨i, hi⟩ := (inco_iff H).1 h
  obtain ⟨j, hj⟩ := (inco_iff H).1 k
  exact (inco_iff H).2 ⟨i + j, by rw [po_add H.fg H.hy, ← H.fg.ass _ _ _ hx (po_mem H.fg H.hy _) (po_mem H.fg H.hy _), hi, hj]⟩
theorem rep_spec (H : Cen l m e y q) {x : Nat} (hx : x ∈ l) : rep l m e y q x ∈ l ∧ inco m e y q x (rep l m e y q x) = true := by
  have hm : x ∈ l.filter fun c => inco m e y q x c := List.mem_filter.2 ⟨hx, inco_refl H hx⟩
  unfold rep
  cases hf : l.filter fun c => inco m e y q x c with
  | nil => rw [hf] at hm; cases hm
  | cons c t =>
    have : c ∈ l.filter fun c => inco m e y q x c := by rw [hf]; simp
    obtain ⟨h1, h2⟩ := List.mem_filter.1 this
    exact ⟨h1, h2⟩
theorem rep_eq (H : Cen l m e y q) {x c : Nat} (hx : x ∈ l) (hc : c ∈ l) (h : inco m e y q x c = true) : rep l m e y q x = rep l m e y q c := by
  unfold rep
  rw [filter_eq (q := fun d => inco m e y q c d)]
  intro d _
  rw [Bool.eq_iff_iff]
  exact ⟨fun k => inco_trans H hc (inco_symm H hx h) k, fun k => inco_trans H hx h k⟩
theorem rep_iff (H : Cen l m e y q) {x c : Nat} (hx : x ∈ l) (hc : c ∈ l) : rep l m e y q x = rep l m e y q c ↔ inco m e y q x c = true := by
  refine ⟨fun h => ?_, rep_eq H hx hc⟩
  have h1 := (rep_spec H hx).2
  have h2 := (rep_spec H hc).2
  rw [h] at h1
  exact inco_trans H hx h1 (inco_symm H hc h2)
theorem rep_rep (H : Cen l m e y q) {x : Nat} (hx : x ∈ l) : rep l m e y q (rep l m e y q x) = rep l m e y q x := (rep_eq H hx (rep_spec H hx).1 (rep_spec H hx).2).symm
theorem com_pow (H : Cen l m e y q) {c : Nat} (hc : c ∈ l) (i : Nat) : m c (po m e y i) = m (po m e y i) c := (po_com H.fg H.hy hc (H.com c hc).symm i).symm
theorem rep_mul (H : Cen l m e y q) {a b : Nat} (ha : a ∈ l) (hb : b ∈ l) : rep l m e y q (m (rep l m e y q a) (rep l m e y q b)) = rep l m e y q (m a b) := by
  obtain ⟨ra, ia⟩ := rep_spec H ha
  obtain ⟨rb, ib⟩ := rep_spec H hb
  obtain ⟨i, hi⟩ := (inco_iff H).1 ia
  obtain ⟨j, hj⟩ := (inco_iff H).1 ib
  have pi := po_mem H.fg H.hy i
  have pj := po_mem H.fg H.hy j
  refine (rep_eq H (H.fg.cl _ _ ha hb) (H.fg.cl _ _ ra rb) ((inco_iff H).2 ⟨i + j, ?_⟩)).symm
  rw [← hi, ← hj, po_add H.fg H.hy, H.fg.ass _ _ _ ha hb (H.fg.cl _ _ pi pj), ← H.fg.ass _ _ _ hb pi pj, com_pow H hb i, H.fg.ass _ _ _ pi hb pj, ← H.fg.ass _ _ _ ha pi (H.fg.cl _ _ hb pj)]

/-- The quotient. -/
def quo (l : List Nat) (m : Nat → Nat → Nat) (e y q : Nat) : List Nat := l.filter fun x => decide (rep l m e y q x = x)
def mq (l : List Nat) (m : Nat → Nat → Nat) (e y q : Nat) (a b : Nat) : Nat := rep l m e y q (m a b)
theorem quo_iff {x : Nat} : x ∈ quo l m e y q ↔ x ∈ l ∧ rep l m e y q x = x := by unfold quo; rw [List.mem_filter, decide_eq_true_eq]
theorem rep_quo (H : Cen l m e y q) {x : Nat} (hx : x ∈ l) : rep l m e y q x ∈ quo l m e y q := quo_iff.2 ⟨(rep_spec H hx).1, rep_rep H hx⟩
theorem quo_fg (H : Cen l m e y q) : Fg (quo l m e y q) (mq l m e y q) (rep l m e y q e) := by
  refine ⟨H.fg.nd.filter _, rep_quo H H.fg.one, fun a b ha hb => ?_, fun a b c ha hb hc => ?_, fun a ha => ?_, fun a ha => ?_, fun a ha => ?_⟩
  · exact rep_quo H (H.fg.cl _ _ (quo_iff.1 ha).1 (quo_iff.1 hb).1)
  · obtain ⟨ha, ea⟩ := quo_iff.1 ha
    obtain ⟨hb, eb⟩ := quo_iff.1 hb
    obtain ⟨hc, ec⟩ := quo_iff.1 hc
    have h1 := rep_mul H (H.fg.cl _ _ ha hb) hc
    have h2 := rep_mul H ha (H.fg.cl _ _ hb hc)
    rw [ec] at h1
    rw [ea] at h2
    unfold mq
    rw [h1, h2, H.fg.ass _ _ _ ha hb hc]
  · obtain ⟨ha, ea⟩ := quo_iff.1 ha
    have h1 := rep_mul H H.fg.one ha
    rw [ea, H.fg.left a ha, ea] at h1
    exact h1
  · obtain ⟨ha, ea⟩ := quo_iff.1 ha
    have h1 := rep_mul H ha H.fg.one
    rw [ea, H.fg.right a ha, ea] at h1
    exact h1
  · obtain ⟨ha, ea⟩ := quo_iff.1 ha
    obtain ⟨b, hb, h1, h2⟩ := H.fg.inv a ha
    refine ⟨rep l m e y q b, rep_quo H hb, ?_, ?_⟩
    · have := rep_mul H ha hb
      rw [ea, h1] at this
      exact this
    · have := rep_mul H hb ha
      rw [ea, h2] at this
      exact this
theorem po_quo (H : Cen l m e y q) {x : Nat} (hx : x ∈ l) : ∀ k, po (mq l m e y q) (rep l m e y q e) (rep l m e y q x) k = rep l m e y q (po m e x k)
  | 0 => rfl
  | k + 1 => by
    show mq l m e y q (po (mq l m e y q) (rep l m e y q e) (rep l m e y q x) k) (rep l m e y q x) = _
    rw [po_quo H hx k]
    exact rep_mul H (po_mem H.fg hx k) hx
theorem quo_len (H : Cen l m e y q) : l.length = (quo l m e y q).length * q := by
  refine fib_len (rep l m e y q) q _ _ (H.fg.nd.filter _) (fun x hx => rep_quo H hx) (fun k hk => ?_)
  obtain ⟨hk1, hk2⟩ := quo_iff.1 hk
  have := bij_len (l1 := List.range q) (l2 := l.filter fun x => decide (rep l m e y q x = k)) (fun i => m k (po m e y i)) List.nodup_range (H.fg.nd.filter _) (fun i _ => by
      have hm := H.fg.cl _ _ hk1 (po_mem H.fg H.hy i)
      refine List.mem_filter.2 ⟨hm, ?_⟩
      rw [decide_eq_true_eq, ← rep_eq H hk1 hm ((inco_iff H).2 ⟨i, rfl⟩), hk2]) (fun i j hi hj hij => by
      rw [List.mem_range] at hi hj
      have h1 := H.fg.can hk1 (po_mem H.fg H.hy i) (po_mem H.fg H.hy j) hij
      have key : ∀ i j, i < q → j < q → i ≤ j → po m e y i = po m e y j → i = j := fun i j hi hj hle he => by
        have h1 := (H.ho _).1 (po_back H.fg H.hy hle he)
        rcases Nat.eq_zero_or_pos (j - i) with h0 | h0
        · omega
        · have := Nat.le_of_dvd h0 h1
          omega
      rcases Nat.le_total i j with hl | hl
      · exact key i j hi hj hl h1
      · exact (key j i hj hi hl h1.symm).symm) (fun x hx => by
      obtain ⟨hx1, hx2⟩ := List.mem_filter.1 hx
      rw [decide_eq_true_eq] at hx2
      have h3 := (rep_iff H hk1 hx1).1 (by rw [hk2, hx2])
      unfold inco at h3
      simp only [List.any_eq_true, decide_eq_true_eq] at h3
      exact h3)
  rw [List.length_range] at this
  exact this.symm
theorem quo_cnt (H : Cen l m e y q) {s : Nat} (hs : Nat.Coprime s q) : cnt l m e s = cnt (quo l m e y q) (mq l m e y q) (rep l m e y q e) s := by
  unfold cnt
  refine bij_len (rep l m e y q) (H.fg.nd.filter _) ((H.fg.nd.filter _).filter _) (fun z hz => ?_) (fun z w hz hw hzw => ?_) (fun x hx => ?_)
  · obtain ⟨hz1, hz2⟩ := List.mem_filter.1 hz
    rw [decide_eq_true_eq] at hz2
    exact List.mem_filter.2 ⟨rep_quo H hz1, by rw [decide_eq_true_eq, po_quo H hz1, hz2]⟩
  · obtain ⟨hz1, hz2⟩ := List.mem_filter.1 hz
    obtain ⟨hw1, hw2⟩ := List.mem_filter.1 hw
    rw [decide_eq_true_eq] at hz2 hw2
    obtain ⟨i, hi⟩ := (inco_iff H).1 ((rep_iff H hz1 hw1).1 hzw)
    have pi := po_mem H.fg H.hy i
    rw [← hi, po_prod H.fg hz1 pi (com_pow H hz1 i), hz2, po_mul H.fg H.hy, H.fg.left _ (po_mem H.fg H.hy _), H.ho] at hw2
    have h3 : q ∣ i := Nat.Coprime.dvd_of_dvd_mul_right hs.symm hw2
    rw [← hi, (H.ho i).2 h3, H.fg.right z hz1]
  · obtain ⟨hx1, hx2⟩ := List.mem_filter.1 hx
    obtain ⟨hx3, hx4⟩ := quo_iff.1 hx1
    rw [decide_eq_true_eq] at hx2
    have h5 := po_quo H hx3 s
    rw [hx4, hx2] at h5
    obtain ⟨j, hj⟩ := (inco_iff H).1 ((rep_iff H H.fg.one (po_mem H.fg hx3 s)).1 h5)
    rw [H.fg.left _ (po_mem H.fg H.hy j)] at hj
    obtain ⟨i, _, hi⟩ := inv_mod H.q0 hs (q - j % q)
    have pi := po_mem H.fg H.hy i
    refine ⟨m x (po m e y i), List.mem_filter.2 ⟨H.fg.cl _ _ hx3 pi, ?_⟩, ?_⟩
    · rw [decide_eq_true_eq, po_prod H.fg hx3 pi (com_pow H hx3 i), ← hj, po_mul H.fg H.hy, ← po_add H.fg H.hy, H.ho]
      apply Nat.dvd_of_mod_eq_zero
      rw [Nat.mul_comm i s, Nat.add_mod, hi, ← Nat.add_mod]
      have h3 := Nat.div_add_mod j q
      have h4 := Nat.mod_lt j H.q0
      have : j + (q - j % q) = q * (j / q + 1) := by rw [Nat.mul_add, Nat.mul_one]; omega
      rw [this, Nat.mul_mod_right]
    · rw [← rep_eq H hx3 (H.fg.cl _ _ hx3 pi) ((inco_iff H).2 ⟨i, rfl⟩), hx4]
end Go.Proofs.YtjiapicknkjhmaaDoor.Fin

namespace Go.Proofs.YtjiapicknkjhmaaDoor.Fin
variable {l : List Nat} {m : Nat → Nat → Nat} {e : Nat}

/-- Conjugated by g: g x = x' g. -/
theorem con_mk (h : Fg l m e) {g gi x : Nat} (hg : g ∈ l) (hi : gi ∈ l) (h1 : m gi g = e) (hx : x ∈ l) : m g x = m (m (m g x) gi) g := by
  rw [h.ass _ _ _ (h.cl _ _ hg hx) hi hg, h1, h.right _ (h.cl _ _ hg hx)]
theorem con_e (h : Fg l m e) {g x x' : Nat} (hg : g ∈ l) (hx : x ∈ l) (hx' : x' ∈ l) (hc : m g x = m x' g) (i : Nat) : po m e x i = e ↔ po m e x' i = e := by
  have h1 := po_conj h hg hx hx' hc i
  constructor
  · intro h2
    rw [h2, h.right g hg] at h1
    exact h.canR hg (po_mem h hx' i) h.one (by rw [← h1, h.left g hg])
  · intro h2
    rw [h2, h.left g hg] at h1
    exact h.can hg (po_mem h hx i) h.one (by rw [h1, h.right g hg])
theorem con_back (h : Fg l m e) {g gi x x' : Nat} (hg : g ∈ l) (hi : gi ∈ l) (h1 : m gi g = e) (h2 : m g gi = e) (hx : x ∈ l) (hx' : x' ∈ l) (hc : m g x = m x' g) : m gi x' = m x gi := by
  have h3 : m (m gi (m g x)) gi = m (m gi (m x' g)) gi := by rw [hc]
  rw [← h.ass _ _ _ hi hg hx, h1, h.left x hx, ← h.ass _ _ _ hi hx' hg, h.ass _ _ _ (h.cl _ _ hi hx') hg hi, h2, h.right _ (h.cl _ _ hi hx')] at h3
  exact h3.symm
theorem con_trans (h : Fg l m e) {g k x y z : Nat} (hg : g ∈ l) (hk : k ∈ l) (hx : x ∈ l) (hy : y ∈ l) (hz : z ∈ l) (h1 : m g x = m y g) (h2 : m k y = m z k) : m (m k g) x = m z (m k g) := by
  rw [h.ass _ _ _ hk hg hx, h1, ← h.ass _ _ _ hk hy hg, h2, h.ass _ _ _ hz hk hg]
def con (l : List Nat) (m : Nat → Nat → Nat) (x y : Nat) : Bool := l.any fun g => decide (m g x = m y g)
theorem con_iff {x y : Nat} : con l m x y = true ↔ ∃ g, g ∈ l ∧ m g x = m y g := by unfold con; simp
theorem con_refl (h : Fg l m e) {x : Nat} (hx : x ∈ l) : con l m x x = true := con_iff.2 ⟨e, h.one, by rw [h.left x hx, h.right x hx]⟩
theorem con_symm (h : Fg l m e) {x y : Nat} (hx : x ∈ l) (hy : y ∈ l) (hc : con l m x y = true) : con l m y x = true := by
  obtain ⟨g, hg, h1⟩ := con_iff.1 hc
  obtain ⟨gi, hi, h2, h3⟩ := h.inv g hg
  exact con_iff.2 ⟨gi, hi, con_back h hg hi h3 h2 hx hy h1⟩
theorem con_tr (h : Fg l m e) {x y z : Nat} (hx : x ∈ l) (hy : y ∈ l) (hz : z ∈ l) (h1 : con l m x y = true) (h2 : con l m y z = true) : con l m x z = true := by
  obtain ⟨g, hg, h1⟩ := con_iff.1 h1
  obtain ⟨k, hk, h2⟩ := con_iff.1 h2
  exact con_iff.2 ⟨m k g, h.cl _ _ hk hg, con_trans h hg hk hx hy hz h1 h2⟩
theorem con_same (h : Fg l m e) {x y z : Nat} (hx : x ∈ l) (hy : y ∈ l) (hz : z ∈ l) (h1 : con l m x y = true) : con l m x z = con l m y z := by
  rw [Bool.eq_iff_iff]
  exact ⟨fun k => con_tr h hy hx hz (con_symm h hx hy h1) k, fun k => con_tr h hx hy hz h1 k⟩
/-- All that a thing is conjugate to. -/
def cls (l : List Nat) (m : Nat → Nat → Nat) (y : Nat) : List Nat := l.filter fun z => con l m y z
theorem cls_len (h : Fg l m e) {y : Nat} (hy : y ∈ l) : l.length = (cls l m y).length * (cent l m y).length := by
  have hiv : ∀ g, g ∈ l → m g (po m e g (l.length - 1)) = e ∧ m (po m e g (l.length - 1)) g = e := fun g hg => by
    have hp := h.pos
    have h1 := po_len h hg
    constructor
    · have : po m e g l.length = m (po m e g 1) (po m e g (l.length - 1)) := by rw [← po_add h hg]; congr 1; omega
      rw [po_one h hg] at this
      rw [← this]; exact h1
    · have : po m e g l.length = m (po m e g (l.length - 1)) (po m e g 1) := by rw [← po_add h hg]; congr 1; omega
      rw [po_one h hg] at this
      rw [← this]; exact h1
  have hpm : ∀ g, g ∈ l → po m e g (l.length - 1) ∈ l := fun g hg => po_mem h hg _
  refine fib_len (fun g => m (m g y) (po m e g (l.length - 1))) _ _ _ (h.nd.filter _) (fun g hg => ?_) (fun k hk => ?_)
  · exact List.mem_filter.2 ⟨h.cl _ _ (h.cl _ _ hg hy) (hpm g hg), con_iff.2 ⟨g, hg, con_mk h hg (hpm g hg) (hiv g hg).2 hy⟩⟩
  · obtain ⟨hk1, hk2⟩ := List.mem_filter.1 hk
    obtain ⟨g, hg, hgk⟩ := con_iff.1 hk2
    have fib : ∀ f, f ∈ l → (m (m f y) (po m e f (l.length - 1)) = k ↔ m f y = m k f) := fun f hf => by
      have h1 := con_mk h hf (hpm f hf) (hiv f hf).2 hy
      have hm := h.cl _ _ (h.cl _ _ hf hy) (hpm f hf)
      exact ⟨fun h2 => by rw [h2] at h1; exact h1, fun h2 => h.canR hf hm hk1 (by rw [← h1, h2])⟩
    symm
    refine bij_len (m g) ((h.nd).filter _) (h.nd.filter _) (fun c hc => ?_) (fun a b ha hb hab => ?_) (fun f hf => ?_)
    · obtain ⟨hc1, hc2⟩ := cent_iff.1 hc
      have hm := h.cl _ _ hg hc1
      refine List.mem_filter.2 ⟨hm, ?_⟩
      rw [decide_eq_true_eq, fib _ hm, h.ass _ _ _ hg hc1 hy, hc2, ← h.ass _ _ _ hg hy hc1, hgk, h.ass _ _ _ hk1 hg hc1]
    · exact h.can hg (cent_iff.1 ha).1 (cent_iff.1 hb).1 hab
    · obtain ⟨hf1, hf2⟩ := List.mem_filter.1 hf
      rw [decide_eq_true_eq, fib f hf1] at hf2
      obtain ⟨gi, hi, h2, h3⟩ := h.inv g hg
      have hb := con_back h hg hi h3 h2 hy hk1 hgk
      refine ⟨m gi f, cent_iff.2 ⟨h.cl _ _ hi hf1, ?_⟩, ?_⟩
      · rw [h.ass _ _ _ hi hf1 hy, hf2, ← h.ass _ _ _ hi hk1 hf1, hb, h.ass _ _ _ hy hi hf1]
      · rw [← h.ass _ _ _ hg hi hf1, h2, h.left f hf1]

variable {p k s q a b : Nat}
/-- Things of A with a given part, and what commutes with the part. -/
theorem part_cnt (h : Fg l m e) (P : Parts p k s q a b) {x : Nat} (hA : x ∈ AA l m e q (p ^ k) s) :
    ((AA l m e q (p ^ k) s).filter fun z => decide (po m e z a = po m e x a)).length = cnt (cent l m (po m e x a)) m e s := by
  obtain ⟨hx, h1, h2⟩ := AA_iff.1 hA
  have ho := part_ord h P hA
  have hy := po_mem h hx a
  generalize po m e x a = y at *
  obtain ⟨t, ht⟩ := P.sum
  have hq1 : po m e y q = e := (ho q).2 (Nat.dvd_refl q)
  unfold cnt
  refine bij_len (fun z => po m e z b) ((h.nd.filter _).filter _) ((h.nd.filter _).filter _) (fun z hz => ?_) (fun z w hz hw hzw => ?_) (fun z hz => ?_)
  · obtain ⟨hz1, hz2⟩ := List.mem_filter.1 hz
    rw [decide_eq_true_eq] at hz2
    obtain ⟨hzl, hz3, _⟩ := AA_iff.1 hz1
    refine List.mem_filter.2 ⟨cent_iff.2 ⟨po_mem h hzl b, by rw [← hz2]; exact po_pow_com h hzl b a⟩, ?_⟩
    rw [decide_eq_true_eq, po_mul h hzl]
    obtain ⟨j, hj⟩ := P.qb
    exact po_z' h hzl hz3 ⟨j, by rw [hj]; grind⟩
  · obtain ⟨hz1, hz2⟩ := List.mem_filter.1 hz
    obtain ⟨hw1, hw2⟩ := List.mem_filter.1 hw
    rw [decide_eq_true_eq] at hz2 hw2
    obtain ⟨hzl, hz3, _⟩ := AA_iff.1 hz1
    obtain ⟨hwl, hw3, _⟩ := AA_iff.1 hw1
    have ez : z = po m e z (a + b) := by rw [ht, po_off h hzl hz3, po_one h hzl]
    have ew : w = po m e w (a + b) := by rw [ht, po_off h hwl hw3, po_one h hwl]
    rw [po_add h hzl, hz2] at ez
    rw [po_add h hwl, hw2] at ew
    have hzw' : po m e z b = po m e w b := hzw
    rw [ez, ew, hzw']
  · obtain ⟨hz1, hz2⟩ := List.mem_filter.1 hz
    rw [decide_eq_true_eq] at hz2
    obtain ⟨hzl, hzc⟩ := cent_iff.1 hz1
    have hm := h.cl _ _ hy hzl
    have hpr : ∀ i, po m e (m y z) i = m (po m e y i) (po m e z i) := po_prod h hy hzl hzc.symm
    obtain ⟨i, hi⟩ := P.sa
    obtain ⟨j, hj⟩ := P.qb
    have ya : po m e y a = y := by
      have h3 := Nat.div_add_mod a q
      rw [P.aq, Nat.mod_eq_of_lt (by have := P.q2; omega)] at h3
      rw [← h3, Nat.add_comm, po_off h hy hq1, po_one h hy]
    have za : po m e z a = e := po_z' h hzl hz2 ⟨i, hi⟩
    have yb : po m e y b = e := po_z' h hy hq1 ⟨j, hj⟩
    have zb : po m e z b = z := by
      have h3 := Nat.div_add_mod b s
      rw [P.bs] at h3
      rcases Nat.lt_or_ge 1 s with h4 | h4
      · rw [Nat.mod_eq_of_lt h4] at h3
        rw [← h3, Nat.add_comm, po_off h hzl hz2, po_one h hzl]
      · have hs1 : s = 1 := by have := P.s0; omega
        rw [hs1, po_one h hzl] at hz2
        rw [hz2, po_e h]
    refine ⟨m y z, List.mem_filter.2 ⟨AA_iff.2 ⟨hm, ?_, ?_⟩, ?_⟩, ?_⟩
    · rw [hpr, po_z' h hy hq1 ⟨s, rfl⟩, po_z' h hzl hz2 ⟨q, Nat.mul_comm q s⟩, h.left e h.one]
    · rw [hpr, po_z' h hzl hz2 ⟨p ^ k, Nat.mul_comm _ s⟩, h.right _ (po_mem h hy _), ho, P.qp]
      intro hc
      have h5 : p ∣ s := Nat.dvd_of_mul_dvd_mul_left (Nat.pow_pos (by have := P.pr.1; omega)) hc
      exact P.cop h5
    · rw [decide_eq_true_eq, hpr, ya, za, h.right y hy]
    · show po m e (m y z) b = z
      rw [hpr, yb, zb, h.left z hzl]
theorem half_two (h : Fg l m e) (P : Parts p k s q a b) (hsN : s ∣ l.length)
    (IH : ∀ (l' : List Nat) (m' : Nat → Nat → Nat) (e' : Nat), Fg l' m' e' → l'.length < l.length → ∀ n, n ∣ l'.length → n ∣ cnt l' m' e' n) : s ∣ (AA l m e q (p ^ k) s).length := by
  have hA : ∀ x, x ∈ AA l m e q (p ^ k) s → x ∈ l ∧ po m e x (q * s) = e ∧ ¬ po m e x (p ^ k * s) = e := fun x hx => AA_iff.1 hx
  have hyl : ∀ x, x ∈ AA l m e q (p ^ k) s → po m e x a ∈ l := fun x hx => po_mem h (hA x hx).1 a
  refine part_dvd _ (fun x z => con l m (po m e x a) (po m e z a)) _ _ (Nat.le_refl _) (fun x hx => con_refl h (hyl x hx)) (fun x y z hx hy hz hxy => con_same h (hyl x hx) (hyl y hy) (hyl z hz) hxy) (fun x hx => ?_)
  have hy := hyl x hx
  have hpc := part_cnt h P hx
  have ho := part_ord h P hx
  have hX : ((AA l m e q (p ^ k) s).filter fun z => con l m (po m e x a) (po m e z a)).length = (cls l m (po m e x a)).length * cnt (cent l m (po m e x a)) m e s := by
    rw [← hpc]
    refine fib_len (fun z => po m e z a) _ _ _ (h.nd.filter _) (fun z hz => ?_) (fun c hc => ?_)
    · obtain ⟨hz1, hz2⟩ := List.mem_filter.1 hz
      exact List.mem_filter.2 ⟨hyl z hz1, hz2⟩
    · obtain ⟨hc1, hc2⟩ := List.mem_filter.1 hc
      rw [List.filter_filter, filter_eq (q := fun z => decide (po m e z a = c))]
      · obtain ⟨g, hg, hgc⟩ := con_iff.1 hc2
        obtain ⟨gi, hi, h2, h3⟩ := h.inv g hg
        have hb := con_back h hg hi h3 h2 hy hc1 hgc
        have step : ∀ g gi u v, g ∈ l → gi ∈ l → m gi g = e → u ∈ l → v ∈ l → m g u = m v g → ∀ z, z ∈ (AA l m e q (p ^ k) s).filter (fun z => decide (po m e z a = u)) → m (m g z) gi ∈ (AA l m e q (p ^ k) s).filter (fun z => decide (po m e z a = v)) := fun g gi u v hg hi h3 hu hv huv z hz => by
          obtain ⟨hz1, hz2⟩ := List.mem_filter.1 hz
          rw [decide_eq_true_eq] at hz2
          obtain ⟨hzl, h4, h5⟩ := hA z hz1
          have hm := h.cl _ _ (h.cl _ _ hg hzl) hi
          have hcz := con_mk h hg hi h3 hzl
          refine List.mem_filter.2 ⟨AA_iff.2 ⟨hm, (con_e h hg hzl hm hcz _).1 h4, fun h6 => h5 ((con_e h hg hzl hm hcz _).2 h6)⟩, ?_⟩
          rw [decide_eq_true_eq]
          have h7 := po_conj h hg hzl hm hcz a
          rw [hz2, huv] at h7
          exact (h.canR hg hv (po_mem h hm a) h7).symm
        refine (bij_len (fun z => m (m g z) gi) ((h.nd.filter _).filter _) ((h.nd.filter _).filter _) (step g gi _ c hg hi h3 hy hc1 hgc) (fun z w hz hw hzw => ?_) (fun z hz => ?_)).symm
        · obtain ⟨hz1, _⟩ := List.mem_filter.1 hz
          obtain ⟨hw1, _⟩ := List.mem_filter.1 hw
          have e1 := h.canR hi (h.cl _ _ hg (hA z hz1).1) (h.cl _ _ hg (hA w hw1).1) hzw
          exact h.can hg (hA z hz1).1 (hA w hw1).1 e1
        · refine ⟨m (m gi z) g, step gi g c _ hi hg h2 hc1 hy hb z hz, ?_⟩
          have hzl := (hA z (List.mem_filter.1 hz).1).1
          show m (m g (m (m gi z) g)) gi = z
          rw [← h.ass _ _ _ hg (h.cl _ _ hi hzl) hg, ← h.ass _ _ _ hg hi hzl, h2, h.left z hzl, h.ass _ _ _ hzl hg hi, h2, h.right z hzl]
      · intro z _
        by_cases e1 : po m e z a = c
        · simp [e1, hc2]
        · simp [e1]
  rw [hX]
  have hcls := cls_len h hy
  have hH : Cen (cent l m (po m e x a)) m e (po m e x a) q := ⟨cent_fg h hy, cent_iff.2 ⟨hy, rfl⟩, fun c hc => (cent_iff.1 hc).2, P.q0, ho⟩
  have hql := quo_len hH
  have hqc := quo_cnt hH P.cqs.symm
  have hqf := quo_fg hH
  rw [hqc]
  generalize quo (cent l m (po m e x a)) m e (po m e x a) q = L at *
  generalize mq (cent l m (po m e x a)) m e (po m e x a) q = mm at *
  generalize rep (cent l m (po m e x a)) m e (po m e x a) q e = ee at *
  have hlt : L.length < l.length := by
    have h1 := hqf.pos
    have h2 := P.q2
    have h3 : L.length * 2 ≤ L.length * q := Nat.mul_le_mul_left _ h2
    have h4 : (cent l m (po m e x a)).length ≤ l.length := List.length_filter_le _ _
    omega
  have hd := IH L mm ee hqf hlt (Nat.gcd s L.length) (Nat.gcd_dvd_right _ _)
  rw [← cnt_gcd hqf] at hd
  rw [hcls, hql, ← Nat.mul_assoc] at hsN
  have h5 : s ∣ (cls l m (po m e x a)).length * L.length := Nat.Coprime.dvd_of_dvd_mul_right P.cqs.symm hsN
  have h6 : s ∣ (cls l m (po m e x a)).length * Nat.gcd s L.length := by
    rw [← Nat.gcd_mul_left]
    exact Nat.dvd_gcd ⟨_, Nat.mul_comm _ _⟩ h5
  exact Nat.dvd_trans h6 (Nat.mul_dvd_mul_left _ hd)

/-- FROBENIUS. -/
theorem frob : ∀ (N : Nat) (l : List Nat) (m : Nat → Nat → Nat) (e : Nat), Fg l m e → l.length = N → ∀ n, n ∣ N → n ∣ cnt l m e n := by
  intro N
  induction N using Nat.strongRecOn with
  | _ N ih =>
    intro l m e h hN
    have IH : ∀ (l' : List Nat) (m' : Nat → Nat → Nat) (e' : Nat), Fg l' m' e' → l'.length < l.length → ∀ n, n ∣ l'.length → n ∣ cnt l' m' e' n := fun l' m' e' h' hlt n hn => ih l'.length (by omega) l' m' e' h' rfl n hn
    have hpos := h.pos
    have down : ∀ r n, n ∣ N → N - n ≤ r → n ∣ cnt l m e n := by
      intro r
      induction r with
      | zero =>
        intro n hn hr
        have : n = N := by have := Nat.le_of_dvd (by omega) hn; omega
        subst this
        have : cnt l m e n = n := by
          unfold cnt
          rw [List.filter_eq_self.2 (fun x hx => by rw [decide_eq_true_eq, ← hN]; exact po_len h hx), hN]
        rw [this]; exact Nat.dvd_refl n
      | succ r ihr =>
        intro n hn hr
        obtain ⟨c, hc⟩ := id hn
        have hn0 : 0 < n := by
          rcases Nat.eq_zero_or_pos n with h0 | h0
          · subst h0; simp at hc; omega
          · exact h0
        rcases Nat.lt_or_ge c 2 with h2 | h2
        · have : c = 1 := by
            rcases Nat.eq_zero_or_pos c with h0 | h0
            · subst h0; simp at hc; omega
            · omega
          subst this
          exact ihr n hn (by omega)
        · obtain ⟨p, hp, hpc⟩ := pr_exists h2
          obtain ⟨k, s, hks, hs⟩ := pr_split hp n hn0
          have hs0 : 0 < s := by
            rcases Nat.eq_zero_or_pos s with h0 | h0
            · subst h0; simp at hs
            · exact h0
          obtain ⟨q, a, b, P⟩ := Parts.mk' (k := k) hp hs hs0
          have hnp : q * s = n * p := by rw [P.qp, hks]; grind
          have hd : n * p ∣ N := by rw [hc]; exact Nat.mul_dvd_mul_left n hpc
          have hgt : n < n * p := by
            have := hp.1
            calc n = n * 1 := by omega
              _ < n * p := Nat.mul_lt_mul_of_pos_left (by omega) hn0
          have hle := Nat.le_of_dvd (by omega) hd
          have h3 := ihr (n * p) hd (by omega)
          have h4 : n ∣ cnt l m e (n * p) := Nat.dvd_trans ⟨p, rfl⟩ h3
          have h5 : cnt l m e (n * p) = cnt l m e n + (AA l m e q (p ^ k) s).length := by
            unfold cnt AA
            rw [split_len (fun x => decide (po m e x n = e)) (l.filter fun x => decide (po m e x (n * p) = e)), List.filter_filter, List.filter_filter]
            congr 2
            · apply filter_eq
              intro x hx
              by_cases e1 : po m e x n = e
              · simp [e1, po_z h hx e1 p]
              · simp [e1]
            · apply filter_eq
              intro x _
              rw [hnp, ← hks, Bool.and_comm]
          have h6 : n ∣ (AA l m e q (p ^ k) s).length := by
            rw [hks]
            exact Nat.Coprime.mul_dvd_of_dvd_of_dvd (Nat.Coprime.pow_left k (pr_cop hp hs)) (half_one h P) (half_two h P (by rw [hN]; exact Nat.dvd_trans ⟨p ^ k, by rw [hks, Nat.mul_comm]⟩ hn) IH)
          rw [h5] at h4
          exact (Nat.dvd_add_iff_left h6).2 h4
    intro n hn
    exact down N n hn (by omega)
end Go.Proofs.YtjiapicknkjhmaaDoor.Fin

namespace Go.Proofs.YtjiapicknkjhmaaDoor

theorem po_pw (n : Nat) (zs : List Int) (e a : Nat) : ∀ k, Fin.po (tm n zs) e a k = pw n zs e a k
  | 0 => rfl
  | k + 1 => by
    show tm n zs (Fin.po (tm n zs) e a k) a = tm n zs (pw n zs e a k) a
    rw [po_pw n zs e a k]
theorem ord_iff {n e : Nat} {zs : List Int} (g : IsGrp n zs e) {a : Nat} (ha : a < n) (i : Nat) : Fin.po (tm n zs) e a i = e ↔ ordN n zs e a ∣ i := by
  rw [po_pw]
  refine ⟨fun h => ord_dvd g ha h, ?_⟩
  rintro ⟨q, rfl⟩
  exact pw_ord_mul g ha q
/-- What one thing makes: its powers. -/
theorem mk1_len {n e : Nat} {zs : List Int} (g : IsGrp n zs e) {a : Nat} (ha : a < n) : (lst n (mk1 n zs e a)).length = ordN n zs e a := by
  have hF := Fin.cyc_fg (grp_fg g) (List.mem_range.2 ha) (ord_pos (n := n) (zs := zs) (e := e) a) (ord_iff g ha)
  have hnd1 : (lst n (mk1 n zs e a)).Nodup := List.nodup_range.sublist List.filter_sublist
  have hmem : ∀ x, x ∈ lst n (mk1 n zs e a) ↔ x ∈ (List.range (ordN n zs e a)).map (Fin.po (tm n zs) e a) := fun x => by
    rw [mem_lst]
    constructor
    · rintro ⟨hx, h1⟩
      exact Fin.Gen.least (P := fun x => x ∈ (List.range (ordN n zs e a)).map (Fin.po (tm n zs) e a)) ⟨hF.1.one, fun y z _ _ hy hz => hF.1.cl y z hy hz⟩ (fun y _ hy => by
        have hy : y = a := of_decide_eq_true hy
        rw [hy]
        by_cases h1 : ordN n zs e a = 1
        · have h2 := (ord_iff g ha 1).2 (by rw [h1]; exact Nat.dvd_refl 1)
          have h3 : Fin.po (tm n zs) e a 1 = a := g.left a ha
          rw [h3] at h2
          exact List.mem_map.2 ⟨0, List.mem_range.2 (by omega), h2.symm⟩
        · have h2 := ord_pos (n := n) (zs := zs) (e := e) a
          exact List.mem_map.2 ⟨1, List.mem_range.2 (by omega), g.left a ha⟩) ((mk1_iff n zs e a x hx).1 h1)
    · intro hx
      have hxl := List.mem_range.1 (hF.2 x hx)
      refine ⟨hxl, (mk1_iff n zs e a x hxl).2 ?_⟩
      obtain ⟨i, _, rfl⟩ := List.mem_map.1 hx
      exact Fin.Sg.pow (grp_fg g) (Fin.Gen.sg _) (List.mem_range.2 ha) (Fin.Gen.base (List.mem_range.2 ha) (by simp)) i
  have h1 := nodup_len _ _ hnd1 (fun z hz => (hmem z).1 hz)
  have h2 := nodup_len _ _ hF.1.nd (fun z hz => (hmem z).2 hz)
  rw [List.length_map, List.length_range] at h1 h2
  omega
theorem prime_of {p : Nat} (hpr : primeB p = true) : 2 ≤ p ∧ ∀ d, d ∣ p → d = 1 ∨ d = p := by
  have h := of_decide_eq_true hpr
  have h2 : 2 ≤ p := by omega
  refine ⟨h2, fun d hd => ?_⟩
  have h3 := Nat.le_of_dvd (by omega) hd
  have h4 : d ≠ 0 := fun e => by subst e; have := Nat.eq_zero_of_zero_dvd hd; omega
  by_cases h5 : d = 1
  · exact .inl h5
  · by_cases h6 : d = p
    · exact .inr h6
    · exact absurd (Nat.mod_eq_zero_of_dvd hd) (by have := h.2.2 d (by simp; omega) (by omega); simpa using this)
end Go.Proofs.YtjiapicknkjhmaaDoor
