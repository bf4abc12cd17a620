/- What the law SubNormal answers: true, at every table and every list; what it reaches, walked. -/
import Derived.Test.YtoiemlnmcfmakaaDoorCj2
import Derived.Test.YtoiemlnmcfmakaaDoorNrm
import Derived.Test.YtoiemlnmcfmakaaDoorDedW
import Derived.Test.YtoiemlnmcfmakaaDoorChnM
import Derived.Test.YtoiemlnmcfmakaaDoorMakW
import Derived.Deep.AppendLies
import Derived.Test.YtoiemlnmcfmakaaDoorBads
import Derived.Deep.DeepCutAuto
namespace Go.Proofs.YtoiemlnmcfmakaaDoor
open Go Go.RowKit

theorem pset_self {n : Nat} {l : List Int} (h : lfault n l = (0, 0)) : pset l = fun a => decide (a ∈ lst n (pset l)) := by
  have hli := set_lst (show (lfault n l).1 = 0 by rw [h])
  funext a
  have : pset l a = pset (li (lst n (pset l))) a := by rw [← hli]
  rw [this]
  unfold pset
  rw [Bool.eq_iff_iff, decide_eq_true_eq, decide_eq_true_eq, mem_li]
/-- Closed, of a list with which nothing is wrong. -/
theorem closed_set (n e : Nat) (v u : Value) (zs l : List Int) (w : World) (hv : Sl w v zs) (hg : IsGrp n zs e) (hu : Sl w u l) (hl : lfault n l = (0, 0)) :
    Calls Tryd.prog 21 #[.agg #[.int .i64 n, v], u] w fun x w' => x = .returned (.bool (subT n zs e (pset l))) ∧ Below w.heap.size w w' := by
  have hli := set_lst (show (lfault n l).1 = 0 by rw [hl])
  have h := closed_ok n e v u zs (lst n (pset l)) w hv hg (by rw [← hli]; exact hu) (fun x hx => (mem_lst.1 hx).1) (Nat.le_trans (lst_len _ _) (by have := hg.tab.le; omega))
  rwa [← pset_self hl] at h

set_option maxRecDepth 100000 in
set_option maxHeartbeats 4000000 in
theorem rsub_any (N : Int) (v u : Value) (zs l : List Int) (w : World) (hv : Sl w v zs) (hu : Sl w u l) :
    Calls Tryd.prog 46 #[.agg #[.int .i64 N, v], u] w fun x w' => x = .returned (.agg #[.int .i64 (ufault N zs l).1, .int .i64 (ufault N zs l).2]) ∧ Below w.heap.size w w' := by
  obtain ⟨w0, BG⟩ := Beg.new w N v
  obtain ⟨c0, c1, _, _⟩ := BG.box.two
  have HSF := hide (rset_any N v u zs l w0 (hv.below BG.bel) (hu.below BG.bel))
  by_cases hc : (sfault N zs l).1 = 0
  · obtain ⟨n, e, rfl, hg, hl, h0⟩ := sfault_zero hc
    rw [ufault_u hg hl]
    rw [h0] at HSF
    have HCL := hide (fun W (h : Below w.heap.size w W) => closed_set n e v u zs l W (hv.below h) hg (hu.below h) hl)
    simp only at HSF
    clear h0 hc hl
    obtain ⟨b, hb⟩ : ∃ b, subT n zs e (pset l) = b := ⟨_, rfl⟩
    rw [hb] at HCL ⊢
    clear hb
    rw [BG.eq] at c0 c1
    go_enter Tryd.func46, Tryd.ntmps46
    go_wp2_with fail
    rw [← BG.eq]
    clear c0 c1
    refine HSF.out.mono ?_
    rintro x w1 ⟨rfl, hb1⟩
    have hb2 := bcat2 hb1 (balloc w1 (.cells #[.int .i64 0, .int .i64 0] 28))
    have hF2 := blk0 (w := w1) (T := 28) (.int .i64 0) (.int .i64 0)
    have hX2 := blk_below BG.box hb2
    have HS1 := hide (blk_below BG.res hb1).lt
    obtain ⟨c0, c1, _, _⟩ := hX2.two
    obtain ⟨t0, t1, _, _⟩ := hF2.two
    have hBw := bcat BG.bel hb2 BG.bel.size
    go_wp2_with fail
    generalize w1.alloc (.cells #[.int .i64 0, .int .i64 0] 28) = w2 at *
    clear c0 c1 t0 t1
    refine (HCL.out w2 hBw).mono ?_
    rintro x w3 ⟨rfl, hb3⟩
    have hF3 := blk_below hF2 hb3
    have hB3 := bcat hBw hb3 hBw.size
    have hR3 := blk_below BG.res (bcat2 hb2 hb3)
    cases b with
    | true =>
      obtain ⟨t0, t1, _, _⟩ := hF3.two
      obtain ⟨_, y0, y1, fy0, fy1, s0, s1⟩ := Two.mk' hR3
      go_wp2
      exact bodyPost_ret (v := .agg #[.int .i64 0, .int .i64 0]) (by simp [results, Tryd.results46, go_sem, y0, y1]) rfl ⟨rfl, hB3⟩
    | false =>
      go_wp2_with fail
      refine (f_any 7 0 w3).mono ?_
      rintro x w4 ⟨rfl, hb4⟩
      have hF4 := blk_below hF3 hb4
      have hB4 := bcat hB3 hb4 hB3.size
      have hR4 := blk_below hR3 hb4
      obtain ⟨t0, t1, tf0, tf1⟩ := hF4.two
      obtain ⟨hF5, hB5⟩ := put2 hF4 hB4 (by have := HS1.out; omega) 7 0
      have hR5 := (hR4.other (p := ⟨w1.heap.size, 0, none⟩) (by have := HS1.out; simp; omega) (.int .i64 7)).other (p := ⟨w1.heap.size, 1, none⟩) (by have := HS1.out; simp; omega) (.int .i64 0)
      obtain ⟨f0, f1, _, _⟩ := hF5.two
      obtain ⟨y0, y1, fy0, fy1⟩ := hR5.two
      go_wp2_with fail
      generalize (w4.setCell ⟨w1.heap.size, 0, none⟩ (.int .i64 7)).setCell ⟨w1.heap.size, 1, none⟩ (.int .i64 0) = w5 at *
      obtain ⟨hR6, hB6⟩ := put2 hR5 hB5 (by omega) 7 0
      go_wp2
      generalize (w5.setCell ⟨w.heap.size + 1, 0, none⟩ (.int .i64 7)).setCell ⟨w.heap.size + 1, 1, none⟩ (.int .i64 0) = W at hR6 hB6 ⊢
      obtain ⟨z0, z1, _, _⟩ := hR6.two
      exact bodyPost_ret (v := .agg #[.int .i64 7, .int .i64 0]) (by simp [results, Tryd.results46, go_sem, z0, z1]) rfl ⟨rfl, hB6⟩
  · rw [ufault_s hc]
    obtain ⟨c, i, hci⟩ : ∃ c i, sfault N zs l = (c, i) := ⟨_, _, rfl⟩
    rw [hci] at HSF hc ⊢
    simp only at HSF hc ⊢
    clear hci
    have hcb : (c == 0) = false := by simpa using hc
    rw [BG.eq] at c0 c1
    go_enter Tryd.func46, Tryd.ntmps46
    go_wp2_with fail
    rw [← BG.eq]
    clear c0 c1
    refine HSF.out.mono ?_
    rintro x w1 ⟨rfl, hb1⟩
    have hb2 := bcat2 hb1 (balloc w1 (.cells #[.int .i64 c, .int .i64 i] 28))
    have hF2 := blk0 (w := w1) (T := 28) (.int .i64 c) (.int .i64 i)
    obtain ⟨t0, t1, _, _⟩ := hF2.two
    have hBw := bcat BG.bel hb2 BG.bel.size
    have hR2 := blk_below BG.res hb2
    obtain ⟨y0, y1, fy0, fy1⟩ := hR2.two
    obtain ⟨hR6, hB6⟩ := put2 hR2 hBw (by omega) c i
    go_wp2
    generalize ((w1.alloc (.cells #[.int .i64 c, .int .i64 i] 28)).setCell ⟨w.heap.size + 1, 0, none⟩ (.int .i64 c)).setCell ⟨w.heap.size + 1, 1, none⟩ (.int .i64 i) = W at hR6 hB6 ⊢
    obtain ⟨z0, z1, _, _⟩ := hR6.two
    exact bodyPost_ret (v := .agg #[.int .i64 c, .int .i64 i]) (by simp [results, Tryd.results46, go_sem, z0, z1]) rfl ⟨rfl, hB6⟩
end Go.Proofs.YtoiemlnmcfmakaaDoor

namespace Go.Proofs.YtoiemlnmcfmakaaDoor
open Go Go.RowKit

theorem rcj_lt {n e x a : Nat} {zs : List Int} (g : IsGrp n zs e) (hx : x < n) (ha : a < n) : Fin.cj (tm n zs) (iv n zs e) x a < n := List.mem_range.1 (Fin.cj_mem (grp_fg g) (grp_iv g) (List.mem_range.2 hx) (List.mem_range.2 ha))
theorem call96 (a : Int) (x y z : Value) (W : World) : Sem.run Tryd.prog (callFunc 99 (#[.int .i64 a] ++ #[x, y, z])) W = .ok (.enter 99 (#[.int .i64 a] ++ #[x, y, z])) W := by kernel_rfl
set_option maxRecDepth 100000 in
set_option maxHeartbeats 4000000 in
theorem shf1_ok (n e y a lb gb ab : Nat) (v lv : Value) (zs : List Int) (xs : List Nat) (w : World) (g : IsGrp n zs e) (hv : Sl w v zs) (ha : a < n) (hL : Boxed w lb 22 lv) (hsL : Sl w lv (li xs)) (hX : BoxG w gb n v) (hA : Boxed w ab 3 (.int .i64 a)) (hm : ∀ x, x ∈ xs → x < n) :
    Calls Tryd.prog 99 (#[.int .i64 y] ++ #[.pointer (some ⟨lb, 0, none⟩), .pointer (some ⟨gb, 0, none⟩), .pointer (some ⟨ab, 0, none⟩)]) w fun z w' => z = .returned (.bool (cjl n zs e xs a y)) ∧ Below w.heap.size w w' := by
  show Calls Tryd.prog 99 #[.int .i64 y, .pointer (some ⟨lb, 0, none⟩), .pointer (some ⟨gb, 0, none⟩), .pointer (some ⟨ab, 0, none⟩)] w _
  obtain ⟨la, cap, pb, po, rfl, hr, hp, hq3, hq4⟩ := hsL
  have hml : xs.length ≤ 9223372036854775807 := by rw [li_len] at hq3; unfold maxLen at hq4; omega
  rw [li_len] at *
  have HR := hide hr
  have HLL := hide (li_len xs)
  have HM9 := hide hm
  clear hr hq3 hq4 hm
  go_enter Tryd.func99, Tryd.ntmps99
  go_wp2
  go_loopw [6] (fun i wr => ∃ k : Nat, k ≤ xs.length ∧ i = .int .i64 k ∧ (∀ t, (ht : t < xs.length) → t < k → ¬ Fin.cj (tm n zs) (iv n zs e) xs[t] a = y) ∧ Below w.heap.size w wr) (fun i _ => xs.length - (intOf i).toNat)
  case atStart => exact ⟨0, Nat.zero_le _, rfl, fun t _ ht => by omega, Below.refl _ _⟩
  case round =>
    obtain ⟨k, hk, rfl, hno, hBw⟩ := hrel
    have HNO := hide hno
    clear hno
    have hLc := (Boxed.below hL hBw).cell
    by_cases hlt : k < xs.length
    · have hck := (HR.out.below hBw hp).cell k (by rw [HLL.out]; exact hlt)
      rw [li_get hlt] at hck
      obtain rfl := HR.out.at_ (by rw [HLL.out]; omega)
      obtain ⟨x, hxe⟩ : ∃ x, xs[k] = x := ⟨_, rfl⟩
      have hxn : x < n := by rw [← hxe]; exact HM9.out _ (List.getElem_mem hlt)
      rw [hxe] at hck
      have HXE := hide hxe
      clear hxe
      have HC := hide (fun W (h : Below wr.heap.size wr W) => rcj_ok n e x a v zs W g ((hv.below hBw).below h) hxn ha)
      obtain ⟨g0, g1, _, _⟩ := (blk_below hX hBw).two
      have a0 := (Boxed.below hA hBw).cell
      have hki : (k : Int) < (xs.length : Int) := by omega
      have hS : ∀ W, Below wr.heap.size wr W → (Below wr.heap.size wr W ∧ W.cell? ⟨lb, 0, none⟩ = some (.slice (some ⟨pb, po, none⟩) xs.length cap) ∧ W.cell? ⟨gb, 0, none⟩ = some (.int .i64 n) ∧ W.cell? ⟨gb, 1, none⟩ = some v ∧ W.cell? ⟨ab, 0, none⟩ = some (.int .i64 a) ∧ W.cell? ⟨pb, po + k, none⟩ = some (.int .i64 x)) := fun W h => ⟨h, below_cell h hLc, below_cell h g0, below_cell h g1, below_cell h a0, below_cell h hck⟩
      have hS0 := hS _ (bdrew (Below.refl _ wr))
      clear hck g0 g1 a0
      by_cases heq : Fin.cj (tm n zs) (iv n zs e) x a = y
      · have HD := hide (show cjl n zs e xs a y = true by
          unfold cjl
          rw [List.any_eq_true]
          exact ⟨xs[k], List.getElem_mem hlt, by rw [HXE.out]; simpa using heq⟩)
        rw [heq] at HC
        go_wp2_with fail
        go_region_held3 (fun W => Below wr.heap.size wr W ∧ W.cell? ⟨lb, 0, none⟩ = some (.slice (some ⟨pb, po, none⟩) xs.length cap) ∧ W.cell? ⟨gb, 0, none⟩ = some (.int .i64 n) ∧ W.cell? ⟨gb, 1, none⟩ = some v ∧ W.cell? ⟨ab, 0, none⟩ = some (.int .i64 a) ∧ W.cell? ⟨pb, po + k, none⟩ = some (.int .i64 x))
          (first | exact hS0 | assumption | exact hS _ (bcat2 (And.left ‹_›) hl1))
          (first | (go_at_call 54; refine (HC.out _ (And.left ‹_›)).mono ?_; rintro e3 W3 ⟨rfl, hl1⟩))
        all_goals (
          have hB9 := And.left ‹Below wr.heap.size wr W3 ∧ _›
          go_wp2
          go_ret
          exact ⟨by rw [HD.out]; first | rfl | simp, bcat hBw hB9 hBw.size⟩)
      · have HN := hide (show ∀ t, (ht : t < xs.length) → t < k + 1 → ¬ Fin.cj (tm n zs) (iv n zs e) xs[t] a = y from fun t h1 h2 => by
          by_cases e9 : t = k
          · subst e9; rw [HXE.out]; exact heq
          · exact HNO.out t h1 (by omega))
        generalize Fin.cj (tm n zs) (iv n zs e) x a = c at *
        have hci : ¬ (c : Int) = (y : Int) := by omega
        go_wp2_with fail
        go_region_held3 (fun W => Below wr.heap.size wr W ∧ W.cell? ⟨lb, 0, none⟩ = some (.slice (some ⟨pb, po, none⟩) xs.length cap) ∧ W.cell? ⟨gb, 0, none⟩ = some (.int .i64 n) ∧ W.cell? ⟨gb, 1, none⟩ = some v ∧ W.cell? ⟨ab, 0, none⟩ = some (.int .i64 a) ∧ W.cell? ⟨pb, po + k, none⟩ = some (.int .i64 x))
          (first | exact hS0 | assumption | exact hS _ (bcat2 (And.left ‹_›) hl1))
          (first | (go_at_call 54; refine (HC.out _ (And.left ‹_›)).mono ?_; rintro e3 W3 ⟨rfl, hl1⟩))
        all_goals (
          have hB9 := And.left ‹Below wr.heap.size wr W3 ∧ _›
          go_wp2
          go_roundw
          case rel => exact ⟨k + 1, by omega, by go_num, HN.out, bcat hBw hB9 hBw.size⟩
          case measure => simp [intOf]; omega)
    · have HD := hide (show cjl n zs e xs a y = false by
        unfold cjl
        rw [List.any_eq_false]
        intro z hz
        obtain ⟨t, ht, rfl⟩ := List.mem_iff_getElem.1 hz
        simpa using HNO.out t ht (by omega))
      go_wp2
      go_ret
      exact ⟨by rw [HD.out]; rfl, hBw⟩
end Go.Proofs.YtoiemlnmcfmakaaDoor

namespace Go.Proofs.YtoiemlnmcfmakaaDoor
open Go Go.RowKit

set_option maxRecDepth 100000 in
set_option maxHeartbeats 4000000 in
theorem shf_ok (n e a : Nat) (v lv : Value) (zs : List Int) (xs : List Nat) (w : World) (g : IsGrp n zs e) (hv : Sl w v zs) (ha : a < n) (hsL : Sl w lv (li xs)) (hm : ∀ x, x ∈ xs → x < n) :
    Calls Tryd.prog 50 #[.agg #[.int .i64 n, v], lv, .int .i64 a] w fun x w' => ∃ r, x = .returned r ∧ Row w' w.heap.size r (li (lst n (cjl n zs e xs a))) ∧ Below w.heap.size w w' := by
  obtain ⟨l1, l2, l3, rfl⟩ := hsL.isSlice
  obtain ⟨w0, hw0⟩ : ∃ w0, w0 = ((w.alloc (.cells #[.int .i64 n, v] 24)).alloc (.cells #[.slice l1 l2 l3] 22)).alloc (.cells #[.int .i64 a] 3) := ⟨_, rfl⟩
  have hB0 : Below w.heap.size w w0 := by rw [hw0]; exact ((balloc w _).alloc (by simp) _).alloc (by simp; omega) _
  have hX0 : BoxG w0 w.heap.size n v := by rw [hw0]; exact ((blk0 (w := w) (T := 24) _ _).alloc _).alloc _
  have hL0 : Boxed w0 (w.heap.size + 1) 22 (.slice l1 l2 l3) := by
    have h := (Boxed.new (w.alloc (.cells #[.int .i64 n, v] 24)) 22 (.slice l1 l2 l3)).alloc (.cells #[.int .i64 a] 3)
    rw [World.size_alloc] at h
    rw [hw0]; exact h
  have hA0 : Boxed w0 (w.heap.size + 1 + 1) 3 (.int .i64 a) := by
    have h := Boxed.new ((w.alloc (.cells #[.int .i64 n, v] 24)).alloc (.cells #[.slice l1 l2 l3] 22)) 3 (.int .i64 a)
    rw [World.size_alloc, World.size_alloc] at h
    rw [hw0]; exact h
  obtain ⟨c0, c1, _, _⟩ := hX0.two
  rw [hw0] at c0 c1
  go_enter Tryd.func50, Tryd.ntmps50
  go_wp2_with fail
  rw [← hw0]
  clear hw0 c0 c1
  refine (rthose_ok n 99 v _ (cjl n zs e xs a) w0 g.tab.le (fun a W => call96 a _ _ _ W) (fun W x hW hx => shf1_ok n e x a (w.heap.size + 1) w.heap.size (w.heap.size + 1 + 1) v (.slice l1 l2 l3) zs xs W g ((hv.below hB0).below hW) ha (Boxed.below hL0 hW) ((hsL.below hB0).below hW) (blk_below hX0 hW) (Boxed.below hA0 hW) hm)).mono ?_
  rintro x w1 ⟨r, rfl, hr, hb1⟩
  go_wp2
  go_ret
  exact ⟨_, rfl, owns_mono hr hB0.size, bcat2 hB0 hb1⟩

def isn (n : Nat) (zs : List Int) (e : Nat) (xs : List Nat) : Bool := (List.range n).all fun a => xs.all fun x => decide (Fin.cj (tm n zs) (iv n zs e) x a ∈ xs)
theorem isn_iff {n e : Nat} {zs : List Int} {xs : List Nat} : isn n zs e xs = true ↔ ∀ a, a < n → ∀ x, x ∈ xs → Fin.cj (tm n zs) (iv n zs e) x a ∈ xs := by
  unfold isn
  simp only [List.all_eq_true, List.mem_range, decide_eq_true_eq]

set_option maxRecDepth 100000 in
set_option maxHeartbeats 8000000 in
theorem isnorm_ok (n e : Nat) (v u : Value) (zs : List Int) (xs : List Nat) (w : World) (hv : Sl w v zs) (hg : IsGrp n zs e) (hu : Sl w u (li xs)) (hx : ∀ x, x ∈ xs → x < n) (hxl : xs.length ≤ 100000) :
    Calls Tryd.prog 47 #[.agg #[.int .i64 n, v], u] w fun x w' => x = .returned (.bool (isn n zs e xs)) ∧ Below w.heap.size w w' := by
  have HSUB := hide (isn_iff (n := n) (zs := zs) (e := e) (xs := xs))
  have hn := hg.tab.le
  have hB0 : Below w.heap.size w (w.alloc (.cells #[.int .i64 n, v] 24)) := balloc w _
  have hX0 : BoxG (w.alloc (.cells #[.int .i64 n, v] 24)) w.heap.size n v := blk0 _ _
  obtain ⟨ua, ucap, pb, po, rfl, hur, hup, huq, hum⟩ := id hu
  have HUR := hide hur
  have HX := hide hx
  have HHS := hide (fun a W (h : Below w.heap.size w W) => has_sl _ xs a W (hu.below h))
  clear hur hx hum
  rw [li_len] at *
  have HUL := hide (li_len xs)
  go_enter Tryd.func47, Tryd.ntmps47
  go_wp2
  generalize w.alloc (.cells #[.int .i64 n, v] 24) = w2 at *
  go_loopw [5] (fun i wr => ∃ k : Nat, k ≤ n ∧ i = .int .i64 k ∧ (∀ t, t < k → ∀ y, y ∈ xs → Fin.cj (tm n zs) (iv n zs e) y t ∈ xs) ∧ Below w2.heap.size w2 wr) (fun i _ => n - (intOf i).toNat)
  case atStart => exact ⟨0, Nat.zero_le _, rfl, fun t ht => by omega, Below.refl _ _⟩
  case round =>
    obtain ⟨k, hk, rfl, hno, hB⟩ := hrel
    have HNO := hide hno
    clear hno
    have hXr := blk_below hX0 hB
    obtain ⟨g0, g1, _, _⟩ := hXr.two
    by_cases hlt : k < n
    · have hki : (k : Int) < (n : Int) := by omega
      go_wp2
      clear g0 g1
      generalize hwo : wr = wrO at *
      go_loopw [6] (fun i wr' => ∃ j : Nat, j ≤ xs.length ∧ i = .int .i64 j ∧ (∀ t, (ht : t < xs.length) → t < j → Fin.cj (tm n zs) (iv n zs e) xs[t] k ∈ xs) ∧ Below wrO.heap.size wrO wr') (fun i _ => xs.length - (intOf i).toNat)
      case atStart => exact ⟨0, Nat.zero_le _, rfl, fun t _ ht => by omega, Below.refl _ _⟩
      case round =>
        obtain ⟨j, hj, rfl, hnj, hBj⟩ := hrel
        have HNJ := hide hnj
        clear hnj
        have hBw := bcat2 hB0 (bcat2 hB hBj)
        by_cases hltj : j < xs.length
        · have hcj := (HUR.out.below hBw hup).cell j (by rw [HUL.out]; exact hltj)
          rw [li_get hltj] at hcj
          obtain rfl := HUR.out.at_ (by rw [HUL.out]; omega)
          obtain ⟨y, hye⟩ : ∃ y, xs[j] = y := ⟨_, rfl⟩
          have hym : y ∈ xs := by rw [← hye]; exact List.getElem_mem hltj
          have hyn : y < n := HX.out _ hym
          rw [hye] at hcj
          have HYE := hide hye
          clear hye
          have hji : (j : Int) < (xs.length : Int) := by omega
          obtain ⟨g0, g1, _, _⟩ := (blk_below hXr hBj).two
          have hvr := hv.below hBw
          have HMM := hide (fun W (h : Below wr.heap.size wr W) => rcj_ok n e y k v zs W hg (hvr.below h) hyn hlt)
          have HH := hide (fun W (h : Below wr.heap.size wr W) => HHS.out (Fin.cj (tm n zs) (iv n zs e) y k) W (bcat2 hBw h))
          have hS : ∀ W, Below wr.heap.size wr W → (Below wr.heap.size wr W ∧ W.cell? ⟨w.heap.size, 0, none⟩ = some (.int .i64 n) ∧ W.cell? ⟨w.heap.size, 1, none⟩ = some v ∧ W.cell? ⟨pb, po + j, none⟩ = some (.int .i64 y)) := fun W h => ⟨h, below_cell h g0, below_cell h g1, below_cell h hcj⟩
          have hS0 := hS _ (bdrew (Below.refl _ wr))
          clear g0 g1 hcj
          by_cases htin : Fin.cj (tm n zs) (iv n zs e) y k ∈ xs
          · rw [decide_eq_true htin] at HH
            have HTQ := hide htin
            obtain ⟨t, ht⟩ : ∃ t, Fin.cj (tm n zs) (iv n zs e) y k = t := ⟨_, rfl⟩
            rw [ht] at HMM HH
            clear ht htin
            go_wp2_with fail
            go_region_held3 (fun W => Below wr.heap.size wr W ∧ W.cell? ⟨w.heap.size, 0, none⟩ = some (.int .i64 n) ∧ W.cell? ⟨w.heap.size, 1, none⟩ = some v ∧ W.cell? ⟨pb, po + j, none⟩ = some (.int .i64 y))
              (first | exact hS0 | assumption | exact hS _ (bcat2 (And.left ‹_›) hl1))
              (first
                | (go_at_call 54; refine (HMM.out _ (And.left ‹_›)).mono ?_; rintro e1 U1 ⟨rfl, hl1⟩)
                | (go_at_call 53; refine (HH.out _ (And.left ‹_›)).mono ?_; rintro e2 U2 ⟨rfl, hl1⟩))
            all_goals (
              have hB9 := And.left ‹Below wr.heap.size wr U2 ∧ _›
              clear hS hS0 HH HMM hl1
              go_wp2
              go_roundw
              case rel => exact ⟨j + 1, by omega, by go_num, fun t9 h1 h2 => by
                by_cases e9 : t9 = j
                · subst e9; rw [HYE.out]; exact HTQ.out
                · exact HNJ.out t9 h1 (by omega), bcat2 hBj hB9⟩
              case measure => simp [intOf]; omega)
          · rw [decide_eq_false htin] at HH
            have HD := hide (show isn n zs e xs = false by
              rw [← Bool.not_eq_true]
              exact fun h => htin (HSUB.out.1 h k hlt y hym))
            clear htin
            generalize Fin.cj (tm n zs) (iv n zs e) y k = t at *
            go_wp2_with fail
            go_region_held3 (fun W => Below wr.heap.size wr W ∧ W.cell? ⟨w.heap.size, 0, none⟩ = some (.int .i64 n) ∧ W.cell? ⟨w.heap.size, 1, none⟩ = some v ∧ W.cell? ⟨pb, po + j, none⟩ = some (.int .i64 y))
              (first | exact hS0 | assumption | exact hS _ (bcat2 (And.left ‹_›) hl1))
              (first
                | (go_at_call 54; refine (HMM.out _ (And.left ‹_›)).mono ?_; rintro e1 U1 ⟨rfl, hl1⟩)
                | (go_at_call 53; refine (HH.out _ (And.left ‹_›)).mono ?_; rintro e2 U2 ⟨rfl, hl1⟩))
            all_goals (
              have hB9 := And.left ‹Below wr.heap.size wr U2 ∧ _›
              go_wp2
              go_ret
              exact ⟨by rw [HD.out]; rfl, bcat2 hBw hB9⟩)
        · go_wp2
          go_roundw
          case rel => exact ⟨k + 1, by omega, by go_num, fun t h2 y hy => by
            by_cases e9 : t = k
            · subst e9
              obtain ⟨t9, h9, rfl⟩ := List.mem_iff_getElem.1 hy
              exact HNJ.out t9 h9 (by omega)
            · exact HNO.out t (by omega) y hy, bcat2 hB hBj⟩
          case measure => simp [intOf]; omega
    · have HD := hide (show isn n zs e xs = true from HSUB.out.2 (fun a ha => HNO.out a (by omega)))
      go_wp2
      go_ret
      exact ⟨by rw [HD.out]; rfl, bcat2 hB0 hB⟩
end Go.Proofs.YtoiemlnmcfmakaaDoor

namespace Go.Proofs.YtoiemlnmcfmakaaDoor
open Go Go.RowKit

theorem call48 (a : Int) (x y : Value) (W : World) : Sem.run Tryd.prog (callFunc 49 (#[.int .i64 a] ++ #[x, y])) W = .ok (.enter 49 (#[.int .i64 a] ++ #[x, y])) W := by kernel_rfl
theorem call51 (a : Int) (x y : Value) (W : World) : Sem.run Tryd.prog (callFunc 52 (#[.int .i64 a] ++ #[x, y])) W = .ok (.enter 52 (#[.int .i64 a] ++ #[x, y])) W := by kernel_rfl
theorem call47 (x y : Value) (W : World) : Sem.run Tryd.prog (callFunc 48 #[x, y]) W = .ok (.enter 48 #[x, y]) W := by kernel_rfl
theorem call50 (x y : Value) (W : World) : Sem.run Tryd.prog (callFunc 51 #[x, y]) W = .ok (.enter 51 #[x, y]) W := by kernel_rfl
theorem call54 (x y : Value) (W : World) : Sem.run Tryd.prog (callFunc 55 #[x, y]) W = .ok (.enter 55 #[x, y]) W := by kernel_rfl
def nrl (n : Nat) (zs : List Int) (e : Nat) (xs : List Nat) (a : Nat) : Bool := decide (li (lst n (cjl n zs e xs a)) = li xs)
def crl (n : Nat) (zs : List Int) (e : Nat) (xs : List Nat) (y : Nat) : Bool := (List.range n).all fun a => decide (Fin.cj (tm n zs) (iv n zs e) y a ∈ xs)
set_option maxRecDepth 100000 in
set_option maxHeartbeats 4000000 in
theorem nrl1_ok (n e a gb lb : Nat) (v lv : Value) (zs : List Int) (xs : List Nat) (w : World) (g : IsGrp n zs e) (hv : Sl w v zs) (ha : a < n) (hX : BoxG w gb n v) (hL : Boxed w lb 22 lv) (hsL : Sl w lv (li xs)) (hm : ∀ x, x ∈ xs → x < n) :
    Calls Tryd.prog 49 (#[.int .i64 a] ++ #[.pointer (some ⟨gb, 0, none⟩), .pointer (some ⟨lb, 0, none⟩)]) w fun z w' => z = .returned (.bool (nrl n zs e xs a)) ∧ Below w.heap.size w w' := by
  show Calls Tryd.prog 49 #[.int .i64 a, .pointer (some ⟨gb, 0, none⟩), .pointer (some ⟨lb, 0, none⟩)] w _
  obtain ⟨l1, l2, l3, rfl⟩ := hsL.isSlice
  have h0 : 0 < w.heap.size := Nat.lt_of_le_of_lt (Nat.zero_le _) hX.lt
  have HC := hide (fun W (h : Below w.heap.size w W) => those_sl (Nat.lt_of_lt_of_le h0 h.size) (shf_ok n e a v (.slice l1 l2 l3) zs xs W g (hv.below h) ha (hsL.below h) hm))
  have HI := hide (fun W r (h : Below w.heap.size w W) (hr : Sl W r (li (lst n (cjl n zs e xs a)))) => ints_any r (.slice l1 l2 l3) (li (lst n (cjl n zs e xs a))) (li xs) W hr (hsL.below h))
  obtain ⟨g0, g1, _, _⟩ := hX.two
  have c2 := hL.cell
  have hS : ∀ W, Below w.heap.size w W → (Below w.heap.size w W ∧ W.cell? ⟨gb, 0, none⟩ = some (.int .i64 n) ∧ W.cell? ⟨gb, 1, none⟩ = some v ∧ W.cell? ⟨lb, 0, none⟩ = some (.slice l1 l2 l3)) := fun W h => ⟨h, below_cell h g0, below_cell h g1, below_cell h c2⟩
  have hS0 := hS _ (bdrew (Below.refl _ w))
  clear g0 g1 c2
  unfold nrl
  go_enter Tryd.func49, Tryd.ntmps49
  go_wp2_with fail
  go_region_held3 (fun W => Below w.heap.size w W ∧ W.cell? ⟨gb, 0, none⟩ = some (.int .i64 n) ∧ W.cell? ⟨gb, 1, none⟩ = some v ∧ W.cell? ⟨lb, 0, none⟩ = some (.slice l1 l2 l3))
    (first | exact hS0 | assumption | exact hS _ (bcat2 (And.left ‹_›) hl1))
    (first
      | (go_at_call 50; refine (HC.out _ (And.left ‹_›)).mono ?_; rintro e1 U1 ⟨r1, r2, r3, rfl, hr, hl1⟩)
      | (go_at_call 23; refine (HI.out _ _ (And.left ‹_›) (by assumption)).mono ?_; rintro e2 U2 ⟨rfl, hl1⟩))
  all_goals (
    have hB9 := And.left ‹Below w.heap.size w U2 ∧ _›
    go_wp2
    go_ret
    exact ⟨rfl, hB9⟩)
set_option maxRecDepth 100000 in
set_option maxHeartbeats 4000000 in
theorem crl1_ok (n e y gb lb : Nat) (v lv : Value) (zs : List Int) (xs : List Nat) (w : World) (g : IsGrp n zs e) (hv : Sl w v zs) (hy : y < n) (hX : BoxG w gb n v) (hL : Boxed w lb 22 lv) (hsL : Sl w lv (li xs)) :
    Calls Tryd.prog 52 (#[.int .i64 y] ++ #[.pointer (some ⟨gb, 0, none⟩), .pointer (some ⟨lb, 0, none⟩)]) w fun z w' => z = .returned (.bool (crl n zs e xs y)) ∧ Below w.heap.size w w' := by
  show Calls Tryd.prog 52 #[.int .i64 y, .pointer (some ⟨gb, 0, none⟩), .pointer (some ⟨lb, 0, none⟩)] w _
  obtain ⟨l1, l2, l3, rfl⟩ := hsL.isSlice
  have hn := g.tab.le
  go_enter Tryd.func52, Tryd.ntmps52
  go_wp2
  go_loopw [5] (fun i wr => ∃ k : Nat, k ≤ n ∧ i = .int .i64 k ∧ (∀ t, t < k → Fin.cj (tm n zs) (iv n zs e) y t ∈ xs) ∧ Below w.heap.size w wr) (fun i _ => n - (intOf i).toNat)
  case atStart => exact ⟨0, Nat.zero_le _, rfl, fun t ht => by omega, Below.refl _ _⟩
  case round =>
    obtain ⟨k, hk, rfl, hno, hB⟩ := hrel
    have HNO := hide hno
    clear hno
    obtain ⟨g0, g1, _, _⟩ := (blk_below hX hB).two
    have c2 := (Boxed.below hL hB).cell
    by_cases hlt : k < n
    · have hki : (k : Int) < (n : Int) := by omega
      have HMM := hide (fun W (h : Below wr.heap.size wr W) => rcj_ok n e y k v zs W g ((hv.below hB).below h) hy hlt)
      have HH := hide (fun W (h : Below wr.heap.size wr W) => has_sl (.slice l1 l2 l3) xs (Fin.cj (tm n zs) (iv n zs e) y k) W ((hsL.below hB).below h))
      have hS : ∀ W, Below wr.heap.size wr W → (Below wr.heap.size wr W ∧ W.cell? ⟨gb, 0, none⟩ = some (.int .i64 n) ∧ W.cell? ⟨gb, 1, none⟩ = some v ∧ W.cell? ⟨lb, 0, none⟩ = some (.slice l1 l2 l3)) := fun W h => ⟨h, below_cell h g0, below_cell h g1, below_cell h c2⟩
      have hS0 := hS _ (bdrew (Below.refl _ wr))
      by_cases htin : Fin.cj (tm n zs) (iv n zs e) y k ∈ xs
      · rw [decide_eq_true htin] at HH
        have HTQ := hide htin
        obtain ⟨t, ht⟩ : ∃ t, Fin.cj (tm n zs) (iv n zs e) y k = t := ⟨_, rfl⟩
        rw [ht] at HMM HH
        clear ht htin
        go_wp2_with fail
        clear g0 g1 c2
        go_region_held3 (fun W => Below wr.heap.size wr W ∧ W.cell? ⟨gb, 0, none⟩ = some (.int .i64 n) ∧ W.cell? ⟨gb, 1, none⟩ = some v ∧ W.cell? ⟨lb, 0, none⟩ = some (.slice l1 l2 l3))
          (first | exact hS0 | assumption | exact hS _ (bcat2 (And.left ‹_›) hl1))
          (first
            | (go_at_call 54; refine (HMM.out _ (And.left ‹_›)).mono ?_; rintro e1 U1 ⟨rfl, hl1⟩)
            | (go_at_call 53; refine (HH.out _ (And.left ‹_›)).mono ?_; rintro e2 U2 ⟨rfl, hl1⟩))
        all_goals (
          have hB9 := And.left ‹Below wr.heap.size wr U2 ∧ _›
          clear hS hS0 HH HMM hl1
          go_wp2
          go_roundw
          case rel => exact ⟨k + 1, by omega, by go_num, fun t9 h2 => by
            by_cases e9 : t9 = k
            · subst e9; exact HTQ.out
            · exact HNO.out t9 (by omega), bcat2 hB hB9⟩
          case measure => simp [intOf]; omega)
      · rw [decide_eq_false htin] at HH
        have HD := hide (show crl n zs e xs y = false by
          rw [← Bool.not_eq_true]
          unfold crl
          simp only [List.all_eq_true, List.mem_range, decide_eq_true_eq]
          exact fun h => htin (h k hlt))
        clear htin
        generalize Fin.cj (tm n zs) (iv n zs e) y k = t at *
        go_wp2_with fail
        clear g0 g1 c2
        go_region_held3 (fun W => Below wr.heap.size wr W ∧ W.cell? ⟨gb, 0, none⟩ = some (.int .i64 n) ∧ W.cell? ⟨gb, 1, none⟩ = some v ∧ W.cell? ⟨lb, 0, none⟩ = some (.slice l1 l2 l3))
          (first | exact hS0 | assumption | exact hS _ (bcat2 (And.left ‹_›) hl1))
          (first
            | (go_at_call 54; refine (HMM.out _ (And.left ‹_›)).mono ?_; rintro e1 U1 ⟨rfl, hl1⟩)
            | (go_at_call 53; refine (HH.out _ (And.left ‹_›)).mono ?_; rintro e2 U2 ⟨rfl, hl1⟩))
        all_goals (
          have hB9 := And.left ‹Below wr.heap.size wr U2 ∧ _›
          go_wp2
          go_ret
          exact ⟨by rw [HD.out]; rfl, bcat2 hB hB9⟩)
    · have HD := hide (show crl n zs e xs y = true by
        unfold crl
        simp only [List.all_eq_true, List.mem_range, decide_eq_true_eq]
        exact fun a ha => HNO.out a (by omega))
      go_wp2
      go_ret
      exact ⟨by rw [HD.out]; rfl, hB⟩
set_option maxRecDepth 100000 in
set_option maxHeartbeats 4000000 in
theorem cl47_ok (n e gb lb : Nat) (v lv : Value) (zs : List Int) (xs : List Nat) (w : World) (g : IsGrp n zs e) (hv : Sl w v zs) (hX : BoxG w gb n v) (hL : Boxed w lb 22 lv) (hsL : Sl w lv (li xs)) (hm : ∀ x, x ∈ xs → x < n) :
    Calls Tryd.prog 48 #[.pointer (some ⟨gb, 0, none⟩), .pointer (some ⟨lb, 0, none⟩)] w fun x w' => ∃ r, x = .returned r ∧ Sl w' r (li (lst n (nrl n zs e xs))) ∧ Below w.heap.size w w' := by
  have h0 : 0 < w.heap.size := Nat.lt_of_le_of_lt (Nat.zero_le _) hX.lt
  obtain ⟨c0, c1, _, _⟩ := hX.two
  go_enter Tryd.func48, Tryd.ntmps48
  go_wp2_with fail
  refine (those_sl h0 (rthose_ok n 49 v _ (nrl n zs e xs) w g.tab.le (fun a W => call48 a _ _ W) (fun W x hW hx => nrl1_ok n e x gb lb v lv zs xs W g (hv.below hW) hx (blk_below hX hW) (Boxed.below hL hW) (hsL.below hW) hm))).mono ?_
  rintro x w1 ⟨r1, r2, r3, rfl, hr, hb1⟩
  go_wp2
  go_ret
  exact ⟨_, rfl, hr, hb1⟩
set_option maxRecDepth 100000 in
set_option maxHeartbeats 4000000 in
theorem cl50_ok (n e gb lb : Nat) (v lv : Value) (zs : List Int) (xs : List Nat) (w : World) (g : IsGrp n zs e) (hv : Sl w v zs) (hX : BoxG w gb n v) (hL : Boxed w lb 22 lv) (hsL : Sl w lv (li xs)) :
    Calls Tryd.prog 51 #[.pointer (some ⟨gb, 0, none⟩), .pointer (some ⟨lb, 0, none⟩)] w fun x w' => ∃ r, x = .returned r ∧ Sl w' r (li (lst n (crl n zs e xs))) ∧ Below w.heap.size w w' := by
  have h0 : 0 < w.heap.size := Nat.lt_of_le_of_lt (Nat.zero_le _) hX.lt
  obtain ⟨c0, c1, _, _⟩ := hX.two
  go_enter Tryd.func51, Tryd.ntmps51
  go_wp2_with fail
  refine (those_sl h0 (rthose_ok n 52 v _ (crl n zs e xs) w g.tab.le (fun a W => call51 a _ _ W) (fun W x hW hx => crl1_ok n e x gb lb v lv zs xs W g (hv.below hW) hx (blk_below hX hW) (Boxed.below hL hW) (hsL.below hW)))).mono ?_
  rintro x w1 ⟨r1, r2, r3, rfl, hr, hb1⟩
  go_wp2
  go_ret
  exact ⟨_, rfl, hr, hb1⟩
end Go.Proofs.YtoiemlnmcfmakaaDoor

namespace Go.Proofs.YtoiemlnmcfmakaaDoor
open Go Go.RowKit

def cjs (n : Nat) (zs : List Int) (e : Nat) (xs : List Nat) (k : Nat) : List Nat := (List.range k).flatMap fun a => xs.map fun x => Fin.cj (tm n zs) (iv n zs e) x a
theorem cjs_succ (n : Nat) (zs : List Int) (e : Nat) (xs : List Nat) (k : Nat) : cjs n zs e xs (k + 1) = cjs n zs e xs k ++ xs.map fun x => Fin.cj (tm n zs) (iv n zs e) x k := by
  simp [cjs, List.range_succ]
theorem cjs_len (n : Nat) (zs : List Int) (e : Nat) (xs : List Nat) : ∀ k, (cjs n zs e xs k).length = k * xs.length
  | 0 => by simp [cjs]
  | k + 1 => by rw [cjs_succ, List.length_append, cjs_len n zs e xs k, List.length_map, Nat.succ_mul]
theorem mem_cjs {n : Nat} {zs : List Int} {e : Nat} {xs : List Nat} {k y : Nat} : y ∈ cjs n zs e xs k ↔ ∃ a x, a < k ∧ x ∈ xs ∧ Fin.cj (tm n zs) (iv n zs e) x a = y := by
  simp only [cjs, List.mem_flatMap, List.mem_range, List.mem_map]
  exact ⟨fun ⟨a, h, x, h1, h2⟩ => ⟨a, x, h, h1, h2⟩, fun ⟨a, x, h, h1, h2⟩ => ⟨a, h, x, h1, h2⟩⟩
theorem li_app (xs ys : List Nat) : li (xs ++ ys) = li xs ++ li ys := by simp [li]
theorem take_map_snoc {xs : List Nat} {f : Nat → Nat} {k : Nat} (hk : k < xs.length) : (xs.take (k + 1)).map f = (xs.take k).map f ++ [f xs[k]] := by
  rw [List.take_add_one, List.map_append, List.getElem?_eq_getElem hk]; rfl
set_option maxRecDepth 100000 in
set_option maxHeartbeats 8000000 in
theorem cl54_ok (n e gb lb : Nat) (v lv : Value) (zs : List Int) (xs : List Nat) (p : Nat → Bool) (w : World) (g : IsGrp n zs e) (hv : Sl w v zs) (hX : BoxG w gb n v) (hL : Boxed w lb 22 lv) (hsL : Sl w lv (li xs)) (hm : ∀ x, x ∈ xs → x < n) (hxl : xs.length ≤ 60) (hp : ∀ a, a < n → (p a = true ↔ Mkd n zs e (fun a => decide (a ∈ cjs n zs e xs n)) a)) :
    Calls Tryd.prog 55 #[.pointer (some ⟨gb, 0, none⟩), .pointer (some ⟨lb, 0, none⟩)] w fun x w' => ∃ r, x = .returned r ∧ Sl w' r (li (lst n p)) ∧ Below w.heap.size w w' := by
  obtain ⟨i0, hi, hz0, hz1, hz2⟩ := info_parts info3b
  have hn := g.tab.le
  have h00 : 0 < w.heap.size := Nat.lt_of_le_of_lt (Nat.zero_le _) hX.lt
  obtain ⟨la, cap, pb, po, rfl, hr, hpb, hq3, hq4⟩ := id hsL
  rw [li_len] at *
  have HR := hide hr
  have HLL := hide (li_len xs)
  have HM9 := hide hm
  have HP := hide hp
  clear hr hq3 hq4 hm hp
  go_enter Tryd.func55, Tryd.ntmps55
  go_wp2
  go_loopw [3, 4] (fun r i wr => ∃ k : Nat, k ≤ n ∧ i = .int .i64 k ∧ Row wr w.heap.size r (li (cjs n zs e xs k)) ∧ Below w.heap.size w wr) (fun _ i _ => n - (intOf i).toNat)
  case atStart => exact ⟨0, Nat.zero_le _, rfl, nil_row _ _, Below.refl _ _⟩
  case round =>
    obtain ⟨k, hk, rfl, hrow, hB⟩ := hrel
    obtain ⟨r, rfl⟩ : ∃ r, r = u3 := ⟨_, rfl⟩
    obtain ⟨g0, g1, _, _⟩ := (blk_below hX hB).two
    have c2 := (Boxed.below hL hB).cell
    by_cases hlt : k < n
    · have hki : (k : Int) < (n : Int) := by omega
      go_wp2
      clear g0 g1 c2
      go_loopw [3, 5] (fun r i wr => ∃ j : Nat, j ≤ xs.length ∧ i = .int .i64 j ∧ Row wr w.heap.size r (li (cjs n zs e xs k ++ (xs.take j).map fun x => Fin.cj (tm n zs) (iv n zs e) x k)) ∧ Below w.heap.size w wr) (fun _ i _ => xs.length - (intOf i).toNat)
      case atStart => exact ⟨0, Nat.zero_le _, rfl, by simpa using hrow, hB⟩
      case round =>
        clear hrow hB
        obtain ⟨j, hj, rfl, hrow, hB⟩ := hrel
        obtain ⟨r, rfl⟩ : ∃ r, r = u3 := ⟨_, rfl⟩
        have hBs := hB.size
        by_cases hltj : j < xs.length
        · have hcj := HR.out.cell j (by rw [HLL.out]; exact hltj)
          rw [li_get hltj] at hcj
          obtain rfl := HR.out.at_ (by rw [HLL.out]; omega)
          obtain ⟨y, hye⟩ : ∃ y, xs[j] = y := ⟨_, rfl⟩
          have hyn : y < n := by rw [← hye]; exact HM9.out _ (List.getElem_mem hltj)
          have HE := hide (show li (cjs n zs e xs k ++ (xs.take (j + 1)).map fun x => Fin.cj (tm n zs) (iv n zs e) x k) = li (cjs n zs e xs k ++ (xs.take j).map fun x => Fin.cj (tm n zs) (iv n zs e) x k) ++ [(Fin.cj (tm n zs) (iv n zs e) y k : Int)] by
            rw [take_map_snoc hltj, ← List.append_assoc, li_app, hye]; rfl)
          rw [hye] at hcj
          clear hye
          have hji : (j : Int) < (xs.length : Int) := by omega
          have HMM := hide (fun W (h : Below w.heap.size w W) => rcj_ok n e y k v zs W g (hv.below h) hyn hlt)
          have HL9 := hide (show (li (cjs n zs e xs k ++ (xs.take j).map fun x => Fin.cj (tm n zs) (iv n zs e) x k)).length ≤ 3720 by
            rw [li_len, List.length_append, cjs_len, List.length_map, List.length_take]
            have := Nat.mul_le_mul (show k ≤ 60 by omega) hxl
            omega)
          generalize Fin.cj (tm n zs) (iv n zs e) y k = c at *
          generalize li (cjs n zs e xs k ++ (xs.take j).map fun x => Fin.cj (tm n zs) (iv n zs e) x k) = ls at *
          obtain ⟨g0, g1, _, _⟩ := hX.two
          have c2 := hL.cell
          have hS : ∀ W, Below w.heap.size w W → (Below w.heap.size w W ∧ W.cell? ⟨gb, 0, none⟩ = some (.int .i64 n) ∧ W.cell? ⟨gb, 1, none⟩ = some v ∧ W.cell? ⟨lb, 0, none⟩ = some (.slice (some ⟨pb, po, none⟩) xs.length cap) ∧ W.cell? ⟨pb, po + j, none⟩ = some (.int .i64 y)) := fun W h => ⟨h, below_cell h g0, below_cell h g1, below_cell h c2, below_cell h hcj⟩
          have hS0 := hS _ (bdrew hB)
          have c2 := below_cell hB c2
          go_wp2_with fail
          clear g0 g1 c2 hcj
          go_region_held3 (fun W => Below w.heap.size w W ∧ W.cell? ⟨gb, 0, none⟩ = some (.int .i64 n) ∧ W.cell? ⟨gb, 1, none⟩ = some v ∧ W.cell? ⟨lb, 0, none⟩ = some (.slice (some ⟨pb, po, none⟩) xs.length cap) ∧ W.cell? ⟨pb, po + j, none⟩ = some (.int .i64 y))
            (first | exact hS0 | assumption | exact hS _ (bcat2 (And.left ‹_›) hl1) | exact hS _ hBa | exact hS _ hB2)
            (first
              | (go_at_call 54; refine (HMM.out _ (And.left ‹_›)).mono ?_; rintro e1 U1 ⟨rfl, hl1⟩; have hown : U1.ownsRow w.heap.size 3 1 r ls.length (ls.map (Value.int .i64)) := row_below hrow (undrew hl1); have hB1 := bcat2 (And.left ‹_›) hl1; have hBa := hB1.alloc hB1.size (.cells #[.int .i64 c] 3); have hsz9 := hB1.size)
              | (refine step_append_lies _ rfl _ _ 22 rfl w.heap.size 3 i0 (.int .i64 0) 1 8 under22b hi hz0 hz1 hz2 rfl (by decide) _ _ _ rfl (World.ownsRow.alloc hown _) ⟨U1.heap.size, 0, none⟩ 1 1 [.int .i64 c] rfl rfl (cell_one_new _ _ _) (by simp [Value.oneCell']) (by decide) (by unfold maxLen; have := HL9.out; omega) (by have := HL9.out; omega) (by simp; omega) _ rfl ?_; intro g' cap' w2 hown' hgrow _ _; have hB2 : Below w.heap.size w w2 := hBa.grown hgrow (by simp; omega) (fun t e => owns_ge hown t e)))
          all_goals (
            have hrow2 : Row w2 w.heap.size (.slice (some ⟨g', 0, none⟩) (ls.length + 1) cap') (li (cjs n zs e xs k ++ (xs.take (j + 1)).map fun x => Fin.cj (tm n zs) (iv n zs e) x k)) := by
              unfold Row
              rw [HE.out]
              simpa using hown'
            go_wp2
            go_roundw
            case rel => exact ⟨j + 1, by omega, by go_num, hrow2, hB2⟩
            case measure => simp [intOf]; omega)
        · have hjj : j = xs.length := by omega
          subst hjj
          have hrow9 : Row wr w.heap.size r (li (cjs n zs e xs (k + 1))) := by rw [cjs_succ]; simpa using hrow
          have c2 := (Boxed.below hL hB).cell
          go_wp2
          go_roundw
          case rel => exact ⟨k + 1, by omega, by go_num, hrow9, hB⟩
          case measure => simp [intOf]; omega
    · have hkk : k = n := by omega
      subst hkk
      have hrs := row_sl hrow (Nat.lt_of_lt_of_le h00 hB.size)
      have HSP := hide (span_ok k e v r zs (cjs k zs e xs k) p wr (hv.below hB) g hrs (fun y hy => by
        obtain ⟨a, x, h1, h2, rfl⟩ := mem_cjs.1 hy
        exact rcj_lt g (HM9.out x h2) h1) (by
        rw [cjs_len]
        have := Nat.mul_le_mul hn hxl
        omega) HP.out)
      go_wp2_with fail
      refine HSP.out.mono ?_
      rintro x w1 ⟨r9, rfl, hr9, hb1⟩
      have hs9 := row_sl hr9 (Nat.lt_of_lt_of_le (Nat.lt_of_lt_of_le h00 hB.size) hb1.size)
      go_wp2
      go_ret
      exact ⟨_, rfl, hs9, bcat hB hb1 hB.size⟩
end Go.Proofs.YtoiemlnmcfmakaaDoor

namespace Go.Proofs.YtoiemlnmcfmakaaDoor
open Go Go.RowKit

/-- A list that is new since B: it reads so, whatever lies ahead of B. -/
def Frs (B : Nat) (W : World) (v : Value) (zs : List Int) : Prop := 0 < W.heap.size ∧ ∀ W' : World, (∀ g, B ≤ g → g < W.heap.size → W'.heap[g]? = W.heap[g]?) → W.heap.size ≤ W'.heap.size → Sl W' v zs
theorem Frs.sl {B : Nat} {W : World} {v : Value} {zs : List Int} (h : Frs B W v zs) : Sl W v zs := h.2 W (fun _ _ _ => rfl) (Nat.le_refl _)
theorem Frs.set {B b o : Nat} {W : World} {v y : Value} {zs : List Int} (h : Frs B W v zs) (hb : b < B) : Frs B (W.setCell ⟨b, o, none⟩ y) v zs :=
  ⟨by rw [size_set]; exact h.1, fun W' hk hs => h.2 W' (fun g h1 h2 => (hk g h1 (by rw [size_set]; exact h2)).trans (Below.heap_setCell _ _ _ g (by simp; omega))) (by rw [size_set] at hs; exact hs)⟩
theorem Frs.sl2 {B b o : Nat} {W : World} {v y : Value} {zs : List Int} (h : Frs B W v zs) (hb : b < B) : Sl (W.setCell ⟨b, o, none⟩ y) v zs := (h.set hb).sl
theorem SlF.frs {B : Nat} {W : World} {v : Value} {zs : List Int} (h : SlF B W v zs) (h0 : 0 < W.heap.size) : Frs B W v zs := ⟨h0, fun _ hk hs => (h.keep hk hs).sl⟩
theorem nil_frs {B : Nat} {W : World} (h0 : 0 < W.heap.size) : Frs B W (.slice none 0 0) [] := ⟨h0, fun W' _ hs => row_sl (nil_row W' 0) (Nat.lt_of_lt_of_le h0 hs)⟩
/-- A list and a fault that a function answers. -/
def Ans (c i : Int) (zs : List Int) (w : World) (x : Ending) (w' : World) : Prop := ∃ r1 r2 r3, x = .returned (.tuple #[.slice r1 r2 r3, .agg #[.int .i64 c, .int .i64 i]]) ∧ Frs w.heap.size w' (.slice r1 r2 r3) zs ∧ Below w.heap.size w w'
theorem ans_good {f : Nat} {args : Array Value} {w : World} {zs : List Int} (h0 : 0 < w.heap.size) (h : Calls Tryd.prog f args w fun x w' => ∃ r, x = .returned (.tuple #[r, .agg #[.int .i64 0, .int .i64 0]]) ∧ SlF w.heap.size w' r zs ∧ Below w.heap.size w w') :
    Calls Tryd.prog f args w (Ans 0 0 zs w) := by
  refine h.mono ?_
  rintro x w' ⟨r, rfl, hr, hb⟩
  obtain ⟨a, l, c, rfl⟩ := hr.sl.isSlice
  exact ⟨a, l, c, rfl, hr.frs (Nat.lt_of_lt_of_le h0 hb.size), hb⟩
theorem ans_bad {f : Nat} {args : Array Value} {w : World} {c i : Int} (h0 : 0 < w.heap.size) (h : Calls Tryd.prog f args w fun x w' => x = .returned (.tuple #[.slice none 0 0, .agg #[.int .i64 c, .int .i64 i]]) ∧ Below w.heap.size w w') :
    Calls Tryd.prog f args w (Ans c i [] w) := by
  refine h.mono ?_
  rintro x w' ⟨rfl, hb⟩
  exact ⟨none, 0, 0, rfl, nil_frs (Nat.lt_of_lt_of_le h0 hb.size), hb⟩
def CRel (w1 : World) (zs : List Int) (c i : Int) (s6 s7 : Value) (W : World) : Prop := ∃ fb a l k, s6 = .slice a l k ∧ s7 = .pointer (some ⟨fb, 0, none⟩) ∧ Blk W fb 28 [.int .i64 c, .int .i64 i] ∧ Sl W (.slice a l k) zs ∧ Below w1.heap.size w1 W
def BRel (w1 : World) (b : Bool) (c i : Int) (s6 s7 : Value) (W : World) : Prop := ∃ fb, s6 = .bool b ∧ s7 = .pointer (some ⟨fb, 0, none⟩) ∧ Blk W fb 28 [.int .i64 c, .int .i64 i] ∧ Below w1.heap.size w1 W

set_option maxRecDepth 100000 in
set_option maxHeartbeats 40000000 in
theorem normal_walk (N : Int) (v1 : Option Addr) (v2 v3 : Nat) (u1 : Option Addr) (u2 u3 : Nat) (zs l : List Int) (w : World) (hv : Sl w (.slice v1 v2 v3) zs) (hu : Sl w (.slice u1 u2 u3) l) (hT : Tab w) (hz : zs.length * 8 ≤ 140737488355328) (hl8 : l.length * 8 ≤ 140737488355328)
    (c i d j : Int) (b : Bool) (rn rc rk : List Int) (hcb : c = 0 ∨ b = false)
    (HN : Hid (∀ W x m, Below w.heap.size w W → Sl W x zs → Sl W m l → Calls Tryd.prog 42 #[.agg #[.int .i64 N, x], m] W (Ans c i rn W)))
    (HI : Hid (∀ W x m, Below w.heap.size w W → Sl W x zs → Sl W m l → Calls Tryd.prog 43 #[.agg #[.int .i64 N, x], m] W fun e W' => e = .returned (.tuple #[.bool b, .agg #[.int .i64 c, .int .i64 i]]) ∧ Below W.heap.size W W'))
    (HC : Hid (∀ W x m, Below w.heap.size w W → Sl W x zs → Sl W m l → Calls Tryd.prog 44 #[.agg #[.int .i64 N, x], m] W (Ans c i rc W)))
    (HK : Hid (∀ W x m, Below w.heap.size w W → Sl W x zs → Sl W m l → Calls Tryd.prog 45 #[.agg #[.int .i64 N, x], m] W (Ans d j rk W)))
    (HU : Hid (∀ W, Below w.heap.size w W → Calls Tryd.prog 46 #[.agg #[.int .i64 N, .slice v1 v2 v3], .slice u1 u2 u3] W fun e W' => e = .returned (.agg #[.int .i64 c, .int .i64 i]) ∧ Below W.heap.size W W'))
    (HS : Hid (∀ W, Below w.heap.size w W → Calls Tryd.prog 19 #[.agg #[.int .i64 N, .slice v1 v2 v3], .slice u1 u2 u3] W fun e W' => e = .returned (.agg #[.int .i64 d, .int .i64 j]) ∧ Below W.heap.size W W'))
    (HM : Hid (c = 0 → ∀ W, Below w.heap.size w W → Calls Tryd.prog 47 #[.agg #[.int .i64 N, .slice v1 v2 v3], .slice u1 u2 u3] W fun e W' => e = .returned (.bool b) ∧ Below W.heap.size W W'))
    (HL1 : Hid (∀ W r gb lb, Below w.heap.size w W → BoxG W gb N (.slice v1 v2 v3) → Boxed W lb 22 (.slice u1 u2 u3) → Sl W r rn → Calls Tryd.prog 24 #[r, .agg #[.int .i64 c, .int .i64 i], .agg #[.int .i64 c, .int .i64 i], .func (.func 48) #[] #[.pointer (some ⟨gb, 0, none⟩), .pointer (some ⟨lb, 0, none⟩)]] W fun e W' => e = .returned (.bool true) ∧ Below W.heap.size W W'))
    (HL2 : Hid (∀ W r gb lb, Below w.heap.size w W → BoxG W gb N (.slice v1 v2 v3) → Boxed W lb 22 (.slice u1 u2 u3) → Sl W r rc → Calls Tryd.prog 24 #[r, .agg #[.int .i64 c, .int .i64 i], .agg #[.int .i64 c, .int .i64 i], .func (.func 51) #[] #[.pointer (some ⟨gb, 0, none⟩), .pointer (some ⟨lb, 0, none⟩)]] W fun e W' => e = .returned (.bool true) ∧ Below W.heap.size W W'))
    (HL3 : Hid (∀ W r gb lb, Below w.heap.size w W → BoxG W gb N (.slice v1 v2 v3) → Boxed W lb 22 (.slice u1 u2 u3) → Sl W r rk → Calls Tryd.prog 24 #[r, .agg #[.int .i64 d, .int .i64 j], .agg #[.int .i64 d, .int .i64 j], .func (.func 55) #[] #[.pointer (some ⟨gb, 0, none⟩), .pointer (some ⟨lb, 0, none⟩)]] W fun e W' => e = .returned (.bool true) ∧ Below W.heap.size W W')) :
    Calls Tryd.prog 5 #[.agg #[.int .i64 N, .slice v1 v2 v3], .slice u1 u2 u3] w fun e w' => e = .returned (.bool true) ∧ Below w.heap.size w w' := by
  obtain ⟨w0, hw0⟩ : ∃ w0, w0 = (w.alloc (.cells #[.int .i64 N, .slice v1 v2 v3] 24)).alloc (.cells #[.slice u1 u2 u3] 22) := ⟨_, rfl⟩
  have hBW : Below w.heap.size w w0 := by rw [hw0]; exact (balloc w _).alloc (by simp) _
  have hX : BoxG w0 w.heap.size N (.slice v1 v2 v3) := by rw [hw0]; exact (blk0 (w := w) (T := 24) _ _).alloc _
  have hL : Boxed w0 (w.heap.size + 1) 22 (.slice u1 u2 u3) := by
    have h := Boxed.new (w.alloc (.cells #[.int .i64 N, .slice v1 v2 v3] 24)) 22 (.slice u1 u2 u3)
    rw [World.size_alloc] at h
    rw [hw0]; exact h
  have h00 := hT.lt
  obtain ⟨c0, c1, _, _⟩ := hX.two
  rw [hw0] at c0 c1
  go_enter Tryd.func5, Tryd.ntmps5
  go_wp2_with fail
  rw [← hw0]
  clear c0 c1 hw0
  refine (ownGroup_row N (.slice v1 v2 v3) zs w0 (hv.below hBW) hz).mono ?_
  rintro x w1 ⟨x9, rfl, hx9, hb1⟩
  obtain ⟨a1, a3, rfl⟩ := row_len hx9
  have hbn := bcat2 hb1 (balloc w1 (.cells #[.int .i64 N, .slice a1 zs.length a3] 24))
  have hGB := blk0 (w := w1) (T := 24) (.int .i64 N) (.slice a1 zs.length a3)
  have hx := (row_sl hx9 (by have := hBW.size; have := hb1.size; omega)).alloc (.cells #[.int .i64 N, .slice a1 zs.length a3] 24)
  have hL := Boxed.below hL hbn
  have hX := blk_below hX hbn
  have hBW := bcat2 hBW hbn
  have hsx := hBW.size
  clear hbn hb1 hx9
  go_wp2_with fail
  generalize w1.alloc (.cells #[.int .i64 N, .slice a1 zs.length a3] 24) = wx at *
  generalize w1.heap.size = gb at *
  go_cut [6, 7] (fun s6 s7 wy => CRel wx rn c i s6 s7 wy)
  case first =>
    have HOWp := hide (fun W (h : Below wx.heap.size wx W) => own_any (.slice u1 u2 u3) l W (hu.below (bcat2 hBW h)) hl8)
    have HNp := hide (fun W m (h : Below wx.heap.size wx W) (hm : Sl W m l) => HN.out W (.slice a1 zs.length a3) m (bcat2 hBW h) (hx.below h) hm)
    obtain ⟨c0, c1, _, _⟩ := hGB.two
    have c2 := hL.cell
    have hS : ∀ W, Below wx.heap.size wx W → (Below wx.heap.size wx W ∧ W.cell? ⟨gb, 0, none⟩ = some (.int .i64 N) ∧ W.cell? ⟨gb, 1, none⟩ = some (.slice a1 zs.length a3) ∧ W.cell? ⟨w.heap.size + 1, 0, none⟩ = some (.slice u1 u2 u3)) := fun W h => ⟨h, below_cell h c0, below_cell h c1, below_cell h c2⟩
    have hS0 := hS _ (bdrew (Below.refl _ wx))
    go_region_held3 (fun W => Below wx.heap.size wx W ∧ W.cell? ⟨gb, 0, none⟩ = some (.int .i64 N) ∧ W.cell? ⟨gb, 1, none⟩ = some (.slice a1 zs.length a3) ∧ W.cell? ⟨w.heap.size + 1, 0, none⟩ = some (.slice u1 u2 u3))
      (first | exact hS0 | assumption | exact hS _ (bcat2 (And.left ‹_›) hl1) | exact hS _ (bcat2 (And.left ‹_›) (balloc _ _)) | (refine hS _ ?_; repeat (first | exact hU2 | (refine bAlloc ?_) | (refine bSet ?_ (by omega)))))
      (first
        | (go_at_call 16; refine (HOWp.out _ (And.left ‹_›)).mono ?_; rintro e1 U1 ⟨m9, rfl, hm9, hl1⟩; obtain ⟨m1, m3, rfl⟩ := own_slice hm9; have hlA := hl1; have hU1 := bcat2 (And.left ‹_›) hl1; have hzA := hlA.size; have hz1 := hU1.size; have hp1 := cell_eq hl1; have hq1 := frozen_eq hl1; have hmS := row_sl hm9 (by omega))
        | (go_at_call 42; refine (HNp.out _ _ (And.left ‹_›) (by first | exact hmS | exact hmS.alloc _)).mono ?_; rintro e2 U2 ⟨r1, r2, r3, rfl, hr, hl1⟩; have hlB := hl1; have hU2 := bcat2 (And.left ‹_›) hl1; have hz2 := hU2.size; have hp2 := cell_eq hl1; have hq2 := frozen_eq hl1))
    all_goals (go_wp2; go_meet)
    all_goals (have hzB := hlB.size; try simp only [World.size_alloc] at hzA; try simp only [World.size_alloc] at hzB)
    all_goals first
      | exact ⟨_, _, _, _, rfl, rfl, blk0 _ _, (hr.sl).alloc _, bAlloc hU2⟩
      | exact ⟨_, _, _, _, rfl, rfl, ((blk_below (blk0 _ _) hlB).set 0 _).set 1 _, (hr.set (by simp only [World.size_alloc]; omega)).sl2 (by simp only [World.size_alloc]; omega), bSet (bSet hU2 (by omega)) (by omega)⟩
      | exact ⟨_, _, _, _, rfl, rfl, ((blk_below (blk_below (blkd _ _) hlA) hlB).set 0 _).set 1 _, (hr.set (Nat.lt_of_lt_of_le (Nat.lt_succ_self _) (show wx.heap.size + 1 ≤ U1.heap.size by simpa using hlA.size))).sl2 (Nat.lt_of_lt_of_le (Nat.lt_succ_self _) (show wx.heap.size + 1 ≤ U1.heap.size by simpa using hlA.size)), bSet (bSet hU2 (by omega)) (by omega)⟩
  case rest =>
    obtain ⟨f6, r6, l6, k6, rfl, rfl, hF6, hR6, hbn⟩ := hcut
    have hGB := blk_below hGB hbn
    have hL := Boxed.below hL hbn
    have hX := blk_below hX hbn
    have hx := hx.below hbn
    have hBW := bcat2 hBW hbn
    have hsx := hBW.size
    go_wp2_with fail
    go_cut [8, 9] (fun s8 s9 wy => BRel wc b c i s8 s9 wy)
    case first =>
      have HOWp := hide (fun W (h : Below wc.heap.size wc W) => own_any (.slice u1 u2 u3) l W (hu.below (bcat2 hBW h)) hl8)
      have HIp := hide (fun W m (h : Below wc.heap.size wc W) (hm : Sl W m l) => HI.out W (.slice a1 zs.length a3) m (bcat2 hBW h) (hx.below h) hm)
      obtain ⟨c0, c1, _, _⟩ := hGB.two
      have c2 := hL.cell
      have hS : ∀ W, Below wc.heap.size wc W → (Below wc.heap.size wc W ∧ W.cell? ⟨gb, 0, none⟩ = some (.int .i64 N) ∧ W.cell? ⟨gb, 1, none⟩ = some (.slice a1 zs.length a3) ∧ W.cell? ⟨w.heap.size + 1, 0, none⟩ = some (.slice u1 u2 u3)) := fun W h => ⟨h, below_cell h c0, below_cell h c1, below_cell h c2⟩
      have hS0 := hS _ (bdrew (Below.refl _ wc))
      go_region_held3 (fun W => Below wc.heap.size wc W ∧ W.cell? ⟨gb, 0, none⟩ = some (.int .i64 N) ∧ W.cell? ⟨gb, 1, none⟩ = some (.slice a1 zs.length a3) ∧ W.cell? ⟨w.heap.size + 1, 0, none⟩ = some (.slice u1 u2 u3))
        (first | exact hS0 | assumption | exact hS _ (bcat2 (And.left ‹_›) hl1) | exact hS _ (bcat2 (And.left ‹_›) (balloc _ _)) | (refine hS _ ?_; repeat (first | exact hU2 | (refine bAlloc ?_) | (refine bSet ?_ (by omega)))))
        (first
          | (go_at_call 16; refine (HOWp.out _ (And.left ‹_›)).mono ?_; rintro e1 U1 ⟨m9, rfl, hm9, hl1⟩; obtain ⟨m1, m3, rfl⟩ := own_slice hm9; have hlA := hl1; have hU1 := bcat2 (And.left ‹_›) hl1; have hzA := hlA.size; have hz1 := hU1.size; have hp1 := cell_eq hl1; have hq1 := frozen_eq hl1; have hmS := row_sl hm9 (by omega))
          | (go_at_call 43; refine (HIp.out _ _ (And.left ‹_›) (by first | exact hmS | exact hmS.alloc _)).mono ?_; rintro e2 U2 ⟨rfl, hl1⟩; have hlB := hl1; have hU2 := bcat2 (And.left ‹_›) hl1; have hz2 := hU2.size; have hp2 := cell_eq hl1; have hq2 := frozen_eq hl1))
      all_goals (go_wp2; go_meet)
      all_goals (have hzB := hlB.size; try simp only [World.size_alloc] at hzA; try simp only [World.size_alloc] at hzB)
      all_goals first
        | exact ⟨_, rfl, rfl, blk0 _ _, bAlloc hU2⟩
        | exact ⟨_, rfl, rfl, ((blk_below (blk0 _ _) hlB).set 0 _).set 1 _, bSet (bSet hU2 (by omega)) (by omega)⟩
        | exact ⟨_, rfl, rfl, ((blk_below (blk_below (blkd _ _) hlA) hlB).set 0 _).set 1 _, bSet (bSet hU2 (by omega)) (by omega)⟩
    case rest =>
      obtain ⟨f8, rfl, rfl, hF8, hbn⟩ := hcut
      have hGB := blk_below hGB hbn
      have hL := Boxed.below hL hbn
      have hX := blk_below hX hbn
      have hx := hx.below hbn
      have hBW := bcat2 hBW hbn
      have hF6 := blk_below hF6 hbn
      have hR6 := hR6.below hbn
      have hsx := hBW.size
      go_wp2_with fail
      go_cut [10, 11] (fun s10 s11 wy => CRel wc rc c i s10 s11 wy)
      case first =>
        have HOWp := hide (fun W (h : Below wc.heap.size wc W) => own_any (.slice u1 u2 u3) l W (hu.below (bcat2 hBW h)) hl8)
        have HCp := hide (fun W m (h : Below wc.heap.size wc W) (hm : Sl W m l) => HC.out W (.slice a1 zs.length a3) m (bcat2 hBW h) (hx.below h) hm)
        obtain ⟨c0, c1, _, _⟩ := hGB.two
        have c2 := hL.cell
        have hS : ∀ W, Below wc.heap.size wc W → (Below wc.heap.size wc W ∧ W.cell? ⟨gb, 0, none⟩ = some (.int .i64 N) ∧ W.cell? ⟨gb, 1, none⟩ = some (.slice a1 zs.length a3) ∧ W.cell? ⟨w.heap.size + 1, 0, none⟩ = some (.slice u1 u2 u3)) := fun W h => ⟨h, below_cell h c0, below_cell h c1, below_cell h c2⟩
        have hS0 := hS _ (bdrew (Below.refl _ wc))
        go_region_held3 (fun W => Below wc.heap.size wc W ∧ W.cell? ⟨gb, 0, none⟩ = some (.int .i64 N) ∧ W.cell? ⟨gb, 1, none⟩ = some (.slice a1 zs.length a3) ∧ W.cell? ⟨w.heap.size + 1, 0, none⟩ = some (.slice u1 u2 u3))
          (first | exact hS0 | assumption | exact hS _ (bcat2 (And.left ‹_›) hl1) | exact hS _ (bcat2 (And.left ‹_›) (balloc _ _)) | (refine hS _ ?_; repeat (first | exact hU2 | (refine bAlloc ?_) | (refine bSet ?_ (by omega)))))
          (first
            | (go_at_call 16; refine (HOWp.out _ (And.left ‹_›)).mono ?_; rintro e1 U1 ⟨m9, rfl, hm9, hl1⟩; obtain ⟨m1, m3, rfl⟩ := own_slice hm9; have hlA := hl1; have hU1 := bcat2 (And.left ‹_›) hl1; have hzA := hlA.size; have hz1 := hU1.size; have hp1 := cell_eq hl1; have hq1 := frozen_eq hl1; have hmS := row_sl hm9 (by omega))
            | (go_at_call 44; refine (HCp.out _ _ (And.left ‹_›) (by first | exact hmS | exact hmS.alloc _)).mono ?_; rintro e2 U2 ⟨r1, r2, r3, rfl, hr, hl1⟩; have hlB := hl1; have hU2 := bcat2 (And.left ‹_›) hl1; have hz2 := hU2.size; have hp2 := cell_eq hl1; have hq2 := frozen_eq hl1))
        all_goals (go_wp2; go_meet)
        all_goals (have hzB := hlB.size; try simp only [World.size_alloc] at hzA; try simp only [World.size_alloc] at hzB)
        all_goals first
          | exact ⟨_, _, _, _, rfl, rfl, blk0 _ _, (hr.sl).alloc _, bAlloc hU2⟩
          | exact ⟨_, _, _, _, rfl, rfl, ((blk_below (blk0 _ _) hlB).set 0 _).set 1 _, (hr.set (by simp only [World.size_alloc]; omega)).sl2 (by simp only [World.size_alloc]; omega), bSet (bSet hU2 (by omega)) (by omega)⟩
          | exact ⟨_, _, _, _, rfl, rfl, ((blk_below (blk_below (blkd _ _) hlA) hlB).set 0 _).set 1 _, (hr.set (Nat.lt_of_lt_of_le (Nat.lt_succ_self _) (show wc.heap.size + 1 ≤ U1.heap.size by simpa using hlA.size))).sl2 (Nat.lt_of_lt_of_le (Nat.lt_succ_self _) (show wc.heap.size + 1 ≤ U1.heap.size by simpa using hlA.size)), bSet (bSet hU2 (by omega)) (by omega)⟩
      case rest =>
        obtain ⟨f10, r10, l10, k10, rfl, rfl, hF10, hR10, hbn⟩ := hcut
        have hGB := blk_below hGB hbn
        have hL := Boxed.below hL hbn
        have hX := blk_below hX hbn
        have hx := hx.below hbn
        have hBW := bcat2 hBW hbn
        have hF6 := blk_below hF6 hbn
        have hF8 := blk_below hF8 hbn
        have hR6 := hR6.below hbn
        have hsx := hBW.size
        go_wp2_with fail
        go_cut [12, 13] (fun s12 s13 wy => CRel wc rk d j s12 s13 wy)
        case first =>
          have HOWp := hide (fun W (h : Below wc.heap.size wc W) => own_any (.slice u1 u2 u3) l W (hu.below (bcat2 hBW h)) hl8)
          have HKp := hide (fun W m (h : Below wc.heap.size wc W) (hm : Sl W m l) => HK.out W (.slice a1 zs.length a3) m (bcat2 hBW h) (hx.below h) hm)
          obtain ⟨c0, c1, _, _⟩ := hGB.two
          have c2 := hL.cell
          have hS : ∀ W, Below wc.heap.size wc W → (Below wc.heap.size wc W ∧ W.cell? ⟨gb, 0, none⟩ = some (.int .i64 N) ∧ W.cell? ⟨gb, 1, none⟩ = some (.slice a1 zs.length a3) ∧ W.cell? ⟨w.heap.size + 1, 0, none⟩ = some (.slice u1 u2 u3)) := fun W h => ⟨h, below_cell h c0, below_cell h c1, below_cell h c2⟩
          have hS0 := hS _ (bdrew (Below.refl _ wc))
          go_region_held3 (fun W => Below wc.heap.size wc W ∧ W.cell? ⟨gb, 0, none⟩ = some (.int .i64 N) ∧ W.cell? ⟨gb, 1, none⟩ = some (.slice a1 zs.length a3) ∧ W.cell? ⟨w.heap.size + 1, 0, none⟩ = some (.slice u1 u2 u3))
            (first | exact hS0 | assumption | exact hS _ (bcat2 (And.left ‹_›) hl1) | exact hS _ (bcat2 (And.left ‹_›) (balloc _ _)) | (refine hS _ ?_; repeat (first | exact hU2 | (refine bAlloc ?_) | (refine bSet ?_ (by omega)))))
            (first
              | (go_at_call 16; refine (HOWp.out _ (And.left ‹_›)).mono ?_; rintro e1 U1 ⟨m9, rfl, hm9, hl1⟩; obtain ⟨m1, m3, rfl⟩ := own_slice hm9; have hlA := hl1; have hU1 := bcat2 (And.left ‹_›) hl1; have hzA := hlA.size; have hz1 := hU1.size; have hp1 := cell_eq hl1; have hq1 := frozen_eq hl1; have hmS := row_sl hm9 (by omega))
              | (go_at_call 45; refine (HKp.out _ _ (And.left ‹_›) (by first | exact hmS | exact hmS.alloc _)).mono ?_; rintro e2 U2 ⟨r1, r2, r3, rfl, hr, hl1⟩; have hlB := hl1; have hU2 := bcat2 (And.left ‹_›) hl1; have hz2 := hU2.size; have hp2 := cell_eq hl1; have hq2 := frozen_eq hl1))
          all_goals (go_wp2; go_meet)
          all_goals (have hzB := hlB.size; try simp only [World.size_alloc] at hzA; try simp only [World.size_alloc] at hzB)
          all_goals first
            | exact ⟨_, _, _, _, rfl, rfl, blk0 _ _, (hr.sl).alloc _, bAlloc hU2⟩
            | exact ⟨_, _, _, _, rfl, rfl, ((blk_below (blk0 _ _) hlB).set 0 _).set 1 _, (hr.set (by simp only [World.size_alloc]; omega)).sl2 (by simp only [World.size_alloc]; omega), bSet (bSet hU2 (by omega)) (by omega)⟩
            | exact ⟨_, _, _, _, rfl, rfl, ((blk_below (blk_below (blkd _ _) hlA) hlB).set 0 _).set 1 _, (hr.set (Nat.lt_of_lt_of_le (Nat.lt_succ_self _) (show wc.heap.size + 1 ≤ U1.heap.size by simpa using hlA.size))).sl2 (Nat.lt_of_lt_of_le (Nat.lt_succ_self _) (show wc.heap.size + 1 ≤ U1.heap.size by simpa using hlA.size)), bSet (bSet hU2 (by omega)) (by omega)⟩
        case rest =>
          obtain ⟨f12, r12, l12, k12, rfl, rfl, hF12, hR12, hbn⟩ := hcut
          have hGB := blk_below hGB hbn
          have hL := Boxed.below hL hbn
          have hX := blk_below hX hbn
          have hx := hx.below hbn
          have hBW := bcat2 hBW hbn
          have hF6 := blk_below hF6 hbn
          have hF8 := blk_below hF8 hbn
          have hF10 := blk_below hF10 hbn
          have hR6 := hR6.below hbn
          have hR10 := hR10.below hbn
          have hsx := hBW.size
          obtain ⟨c0, c1, _, _⟩ := hX.two
          have c2 := hL.cell
          go_wp2_with fail
          clear c0 c1 c2
          refine (HU.out _ hBW).mono ?_
          rintro x w4 ⟨rfl, hb4⟩
          have hbn := bcat2 hb4 (balloc w4 (.cells #[.int .i64 c, .int .i64 i] 28))
          have hF14 := blk0 (w := w4) (T := 28) (.int .i64 c) (.int .i64 i)
          have hL := Boxed.below hL hbn
          have hX := blk_below hX hbn
          have hBW := bcat2 hBW hbn
          have hF6 := blk_below hF6 hbn
          have hF8 := blk_below hF8 hbn
          have hF10 := blk_below hF10 hbn
          have hF12 := blk_below hF12 hbn
          have hR6 := hR6.below hbn
          have hR10 := hR10.below hbn
          have hR12 := hR12.below hbn
          go_wp2_with fail
          generalize w4.alloc (.cells #[.int .i64 c, .int .i64 i] 28) = w5 at *
          clear hbn hb4
          refine (subBegun_any _ (hT.below hBW)).mono ?_
          rintro x w6 ⟨rfl, hbn⟩
          have hL := Boxed.below hL hbn
          have hX := blk_below hX hbn
          have hBW := bcat2 hBW hbn
          have hF6 := blk_below hF6 hbn
          have hF8 := blk_below hF8 hbn
          have hF10 := blk_below hF10 hbn
          have hF12 := blk_below hF12 hbn
          have hF14 := blk_below hF14 hbn
          have hR6 := hR6.below hbn
          have hR10 := hR10.below hbn
          have hR12 := hR12.below hbn
          generalize w4.heap.size = f14 at *
          clear hbn hGB
          have key : ∀ w7 : World, Below w6.heap.size w6 w7 → True := fun _ _ => trivial
          clear key
          obtain ⟨c0, c1, _, _⟩ := hX.two
          have c2 := hL.cell
          obtain ⟨p0, p1, _, _⟩ := hF8.two
          obtain ⟨q0, q1, _, _⟩ := hF14.two
          by_cases hc : c = 0
          · have HM' := hide (HM.out hc)
            subst hc
            clear HM
            go_wp2_with fail
            refine (HM'.out _ hBW).mono ?_
            rintro x w7 ⟨rfl, hbn⟩
            clear c0 c1 c2 p0 p1 q0 q1
            have hL := Boxed.below hL hbn
            have hX := blk_below hX hbn
            have hBW := bcat2 hBW hbn
            have hF6 := blk_below hF6 hbn
            have hF10 := blk_below hF10 hbn
            have hF12 := blk_below hF12 hbn
            have hF14 := blk_below hF14 hbn
            have hR6 := hR6.below hbn
            have hR10 := hR10.below hbn
            have hR12 := hR12.below hbn
            have H1 := hide (fun W (h : Below w7.heap.size w7 W) => HL1.out W (.slice r6 l6 k6) w.heap.size (w.heap.size + 1) (bcat2 hBW h) (blk_below hX h) (Boxed.below hL h) (hR6.below h))
            have H2 := hide (fun W (h : Below w7.heap.size w7 W) => HL2.out W (.slice r10 l10 k10) w.heap.size (w.heap.size + 1) (bcat2 hBW h) (blk_below hX h) (Boxed.below hL h) (hR10.below h))
            have H3 := hide (fun W (h : Below w7.heap.size w7 W) => HL3.out W (.slice r12 l12 k12) w.heap.size (w.heap.size + 1) (bcat2 hBW h) (blk_below hX h) (Boxed.below hL h) (hR12.below h))
            have hk1 : Hid True := hide trivial
            have hk2 : Hid True := hide trivial
            have HS' := hide (fun W (h : Below w7.heap.size w7 W) => HS.out W (bcat2 hBW h))
            obtain ⟨c0, c1, _, _⟩ := hX.two
            have c2 := hL.cell
            obtain ⟨p0, p1, _, _⟩ := hF6.two
            obtain ⟨p2, p3, _, _⟩ := hF10.two
            obtain ⟨p4, p5, _, _⟩ := hF12.two
            obtain ⟨q0, q1, _, _⟩ := hF14.two
            have hS : ∀ W, Below w7.heap.size w7 W → (Below w7.heap.size w7 W ∧ W.cell? ⟨w.heap.size, 0, none⟩ = some (.int .i64 N) ∧ W.cell? ⟨w.heap.size, 1, none⟩ = some (.slice v1 v2 v3) ∧ W.cell? ⟨w.heap.size + 1, 0, none⟩ = some (.slice u1 u2 u3) ∧ W.cell? ⟨f6, 0, none⟩ = some (.int .i64 0) ∧ W.cell? ⟨f6, 1, none⟩ = some (.int .i64 i) ∧ W.cell? ⟨f10, 0, none⟩ = some (.int .i64 0) ∧ W.cell? ⟨f10, 1, none⟩ = some (.int .i64 i) ∧ W.cell? ⟨f12, 0, none⟩ = some (.int .i64 d) ∧ W.cell? ⟨f12, 1, none⟩ = some (.int .i64 j) ∧ W.cell? ⟨f14, 0, none⟩ = some (.int .i64 0) ∧ W.cell? ⟨f14, 1, none⟩ = some (.int .i64 i)) := fun W h => ⟨h, below_cell h c0, below_cell h c1, below_cell h c2, below_cell h p0, below_cell h p1, below_cell h p2, below_cell h p3, below_cell h p4, below_cell h p5, below_cell h q0, below_cell h q1⟩
            have hS0 := hS _ (bdrew (Below.refl _ w7))
            cases b
            all_goals (
              go_wp2_with fail
              clear c0 c1 c2 p0 p1 p2 p3 p4 p5 q0 q1
              go_region_held3 (fun W => Below w7.heap.size w7 W ∧ W.cell? ⟨w.heap.size, 0, none⟩ = some (.int .i64 N) ∧ W.cell? ⟨w.heap.size, 1, none⟩ = some (.slice v1 v2 v3) ∧ W.cell? ⟨w.heap.size + 1, 0, none⟩ = some (.slice u1 u2 u3) ∧ W.cell? ⟨f6, 0, none⟩ = some (.int .i64 0) ∧ W.cell? ⟨f6, 1, none⟩ = some (.int .i64 i) ∧ W.cell? ⟨f10, 0, none⟩ = some (.int .i64 0) ∧ W.cell? ⟨f10, 1, none⟩ = some (.int .i64 i) ∧ W.cell? ⟨f12, 0, none⟩ = some (.int .i64 d) ∧ W.cell? ⟨f12, 1, none⟩ = some (.int .i64 j) ∧ W.cell? ⟨f14, 0, none⟩ = some (.int .i64 0) ∧ W.cell? ⟨f14, 1, none⟩ = some (.int .i64 i))
                (first | exact hS0 | assumption | exact hS _ (bcat2 (And.left ‹_›) hl1))
                (first
                  | (go_at_call 19; refine (HS'.out _ (And.left ‹_›)).mono ?_; rintro e1 U1 ⟨rfl, hl1⟩)
                  | (go_at_call 24; clear hk1; refine (H1.out _ (And.left ‹_›)).mono ?_; rintro e1 U1 ⟨rfl, hl1⟩)
                  | (go_at_call 24; clear hk2; refine (H2.out _ (And.left ‹_›)).mono ?_; rintro e1 U1 ⟨rfl, hl1⟩)
                  | (go_at_call 24; refine (H3.out _ (And.left ‹_›)).mono ?_; rintro e1 U1 ⟨rfl, hl1⟩))
              all_goals (
                have hB9 := And.left ‹Below w7.heap.size w7 U1 ∧ _›
                clear hS hS0
                go_wp2
                go_ret
                exact ⟨rfl, bcat2 hBW hB9⟩))
          · obtain rfl : b = false := hcb.resolve_left hc
            have hcz : (c == 0) = false := by simpa using hc
            have hbn := Below.refl w6.heap.size w6
            clear HM
            have H1 := hide (fun W (h : Below w6.heap.size w6 W) => HL1.out W (.slice r6 l6 k6) w.heap.size (w.heap.size + 1) (bcat2 hBW h) (blk_below hX h) (Boxed.below hL h) (hR6.below h))
            have H2 := hide (fun W (h : Below w6.heap.size w6 W) => HL2.out W (.slice r10 l10 k10) w.heap.size (w.heap.size + 1) (bcat2 hBW h) (blk_below hX h) (Boxed.below hL h) (hR10.below h))
            have H3 := hide (fun W (h : Below w6.heap.size w6 W) => HL3.out W (.slice r12 l12 k12) w.heap.size (w.heap.size + 1) (bcat2 hBW h) (blk_below hX h) (Boxed.below hL h) (hR12.below h))
            have hk1 : Hid True := hide trivial
            have hk2 : Hid True := hide trivial
            have HS' := hide (fun W (h : Below w6.heap.size w6 W) => HS.out W (bcat2 hBW h))
            obtain ⟨s0, s1, _, _⟩ := hF6.two
            obtain ⟨p2, p3, _, _⟩ := hF10.two
            obtain ⟨p4, p5, _, _⟩ := hF12.two
            have hS : ∀ W, Below w6.heap.size w6 W → (Below w6.heap.size w6 W ∧ W.cell? ⟨w.heap.size, 0, none⟩ = some (.int .i64 N) ∧ W.cell? ⟨w.heap.size, 1, none⟩ = some (.slice v1 v2 v3) ∧ W.cell? ⟨w.heap.size + 1, 0, none⟩ = some (.slice u1 u2 u3) ∧ W.cell? ⟨f6, 0, none⟩ = some (.int .i64 c) ∧ W.cell? ⟨f6, 1, none⟩ = some (.int .i64 i) ∧ W.cell? ⟨f10, 0, none⟩ = some (.int .i64 c) ∧ W.cell? ⟨f10, 1, none⟩ = some (.int .i64 i) ∧ W.cell? ⟨f12, 0, none⟩ = some (.int .i64 d) ∧ W.cell? ⟨f12, 1, none⟩ = some (.int .i64 j) ∧ W.cell? ⟨f14, 0, none⟩ = some (.int .i64 c) ∧ W.cell? ⟨f14, 1, none⟩ = some (.int .i64 i)) := fun W h => ⟨h, below_cell h c0, below_cell h c1, below_cell h c2, below_cell h s0, below_cell h s1, below_cell h p2, below_cell h p3, below_cell h p4, below_cell h p5, below_cell h q0, below_cell h q1⟩
            have hS0 := hS _ (bdrew (Below.refl _ w6))
            go_wp2_with fail
            clear c0 c1 c2 p0 p1 s0 s1 p2 p3 p4 p5 q0 q1
            go_region_held3 (fun W => Below w6.heap.size w6 W ∧ W.cell? ⟨w.heap.size, 0, none⟩ = some (.int .i64 N) ∧ W.cell? ⟨w.heap.size, 1, none⟩ = some (.slice v1 v2 v3) ∧ W.cell? ⟨w.heap.size + 1, 0, none⟩ = some (.slice u1 u2 u3) ∧ W.cell? ⟨f6, 0, none⟩ = some (.int .i64 c) ∧ W.cell? ⟨f6, 1, none⟩ = some (.int .i64 i) ∧ W.cell? ⟨f10, 0, none⟩ = some (.int .i64 c) ∧ W.cell? ⟨f10, 1, none⟩ = some (.int .i64 i) ∧ W.cell? ⟨f12, 0, none⟩ = some (.int .i64 d) ∧ W.cell? ⟨f12, 1, none⟩ = some (.int .i64 j) ∧ W.cell? ⟨f14, 0, none⟩ = some (.int .i64 c) ∧ W.cell? ⟨f14, 1, none⟩ = some (.int .i64 i))
              (first | exact hS0 | assumption | exact hS _ (bcat2 (And.left ‹_›) hl1))
              (first
                | (go_at_call 19; refine (HS'.out _ (And.left ‹_›)).mono ?_; rintro e1 U1 ⟨rfl, hl1⟩)
                | (go_at_call 24; clear hk1; refine (H1.out _ (And.left ‹_›)).mono ?_; rintro e1 U1 ⟨rfl, hl1⟩)
                | (go_at_call 24; clear hk2; refine (H2.out _ (And.left ‹_›)).mono ?_; rintro e1 U1 ⟨rfl, hl1⟩)
                | (go_at_call 24; refine (H3.out _ (And.left ‹_›)).mono ?_; rintro e1 U1 ⟨rfl, hl1⟩))
            all_goals (
              have hB9 := And.left ‹Below w6.heap.size w6 U1 ∧ _›
              clear hS hS0
              go_wp2
              go_ret
              exact ⟨rfl, bcat2 hBW hB9⟩)
end Go.Proofs.YtoiemlnmcfmakaaDoor

namespace Go.Proofs.YtoiemlnmcfmakaaDoor
open Go Go.RowKit

set_option maxRecDepth 100000 in
set_option maxHeartbeats 8000000 in
theorem las_nil (k : Nat) (caps : Array Value) (c i : Int) (r : Value) (w : World) (_h0 : 0 < w.heap.size) (hr : Sl w r []) (hc : c ≠ 0) :
    Calls Tryd.prog 24 #[r, .agg #[.int .i64 c, .int .i64 i], .agg #[.int .i64 c, .int .i64 i], .func (.func k) #[] caps] w fun x w' => x = .returned (.bool true) ∧ Below w.heap.size w w' := by
  obtain ⟨ra, rc, _, _, rfl, _, _, _, _⟩ := hr
  have hcb : (c != 0) = true := by simpa using hc
  have hF1 : Blk ((w.alloc (.cells #[.int .i64 c, .int .i64 i] 28)).alloc (.cells #[.int .i64 c, .int .i64 i] 28)) w.heap.size 28 [.int .i64 c, .int .i64 i] := (blk0 _ _).alloc _
  have hF2 := blk0 (w := w.alloc (.cells #[.int .i64 c, .int .i64 i] 28)) (T := 28) (.int .i64 c) (.int .i64 i)
  rw [World.size_alloc] at hF2
  have hb : Below w.heap.size w ((w.alloc (.cells #[.int .i64 c, .int .i64 i] 28)).alloc (.cells #[.int .i64 c, .int .i64 i] 28)) := (balloc w _).alloc (by simp) _
  obtain ⟨f0, f1, _, _⟩ := hF1.two
  obtain ⟨g0, g1, _, _⟩ := hF2.two
  show Calls Tryd.prog 24 #[.slice ra 0 rc, .agg #[.int .i64 c, .int .i64 i], .agg #[.int .i64 c, .int .i64 i], .func (.func k) #[] caps] w _
  go_enter Tryd.func24, Tryd.ntmps24
  go_wp2
  go_ret
  exact ⟨rfl, hb⟩
theorem nrl_eq {n e : Nat} {zs : List Int} {q : Nat → Bool} : lst n (nrl n zs e (lst n q)) = lst n (norq n zs e q) := by
  refine lst_congr fun a _ => ?_
  unfold nrl norq
  rw [Bool.eq_iff_iff, decide_eq_true_eq, decide_eq_true_eq]
  constructor
  · intro h
    exact bs_ext fun y hy => by rw [Bool.eq_iff_iff]; exact lst_inj.1 (li_inj h) y hy
  · intro h
    exact congrArg li (lst_inj.2 fun y hy => by rw [← Bool.eq_iff_iff]; exact bs_inj h y hy)
theorem crl_eq {n e : Nat} {zs : List Int} {q : Nat → Bool} (g : IsGrp n zs e) : lst n (crl n zs e (lst n q)) = lst n (corq n zs e q n) := by
  refine lst_congr fun y hy => ?_
  rw [Bool.eq_iff_iff, cor_iff g hy]
  unfold crl Fin.Core
  simp only [List.all_eq_true, decide_eq_true_eq, mem_lst]
  exact ⟨fun h a ha => (h a ha).2, fun h a ha => ⟨rcj_lt g hy (List.mem_range.1 ha), h a ha⟩⟩
theorem clo_eq {n e : Nat} {zs : List Int} {q : Nat → Bool} : (fun a => decide (a ∈ cjs n zs e (lst n q) n)) = cloq n zs e q n := by
  funext y
  rw [Bool.eq_iff_iff, decide_eq_true_eq, mem_cjs, clo_iff]
  unfold Fin.Conj
  simp only [mem_lst, List.mem_range]
  exact ⟨fun ⟨a, x, h1, ⟨h2, h3⟩, h4⟩ => ⟨x, a, h2, h1, h3, h4⟩, fun ⟨x, a, h1, h2, h3, h4⟩ => ⟨a, x, h2, ⟨h1, h3⟩, h4⟩⟩
theorem isn_eq {n e : Nat} {zs : List Int} {q : Nat → Bool} (g : IsGrp n zs e) : isn n zs e (lst n q) = nrmq n zs e q := by
  rw [Bool.eq_iff_iff, isn_iff, nrm_iff g]
  unfold Fin.Nm
  simp only [mem_lst, List.mem_range]
  exact ⟨fun h x a hx ha hq => (h a ha x ⟨hx, hq⟩).2, fun h a ha x hx => ⟨rcj_lt g hx.1 ha, h x a hx.1 ha hx.2⟩⟩

theorem normal_law (N : Int) (v u : Value) (zs l : List Int) (w : World) (hv : Sl w v zs) (hu : Sl w u l) (hT : Tab w) (hz : zs.length * 8 ≤ 140737488355328) (hl8 : l.length * 8 ≤ 140737488355328) :
    Calls Tryd.prog 5 #[.agg #[.int .i64 N, v], u] w fun e w' => e = .returned (.bool true) ∧ Below w.heap.size w w' := by
  obtain ⟨v1, v2, v3, rfl⟩ := hv.isSlice
  obtain ⟨u1, u2, u3, rfl⟩ := hu.isSlice
  have h0 := hT.lt
  have HU := hide (fun W (h : Below w.heap.size w W) => rsub_any N (.slice v1 v2 v3) (.slice u1 u2 u3) zs l W (hv.below h) (hu.below h))
  have HS := hide (fun W (h : Below w.heap.size w W) => rset_any N (.slice v1 v2 v3) (.slice u1 u2 u3) zs l W (hv.below h) (hu.below h))
  have at0 : ∀ W : World, Below w.heap.size w W → 0 < W.heap.size := fun W h => Nat.lt_of_lt_of_le h0 h.size
  by_cases hs : (sfault N zs l).1 = 0
  · obtain ⟨n, e, rfl, hg, hl0, hs0⟩ := sfault_zero hs
    have hli := set_lst (show (lfault n l).1 = 0 by rw [hl0])
    have hxm : ∀ x, x ∈ lst n (pset l) → x < n := fun x hx => (mem_lst.1 hx).1
    have hxl : (lst n (pset l)).length ≤ 60 := Nat.le_trans (lst_len _ _) hg.tab.le
    obtain ⟨p, hp⟩ := mkd_test n zs e (cloq n zs e (pset l) n)
    have hu9 : ∀ W, Below w.heap.size w W → Sl W (.slice u1 u2 u3) (li (lst n (pset l))) := fun W h => by rw [← hli]; exact hu.below h
    have HK := hide (fun W x m (h : Below w.heap.size w W) (h1 : Sl W x zs) (h2 : Sl W m l) => ans_good (at0 W h) (clo_good n e x m zs l p W h1 hg h2 (hT.below h) hl0 hp))
    have HL3 := hide (fun W r gb lb (h : Below w.heap.size w W) (hX : BoxG W gb n (.slice v1 v2 v3)) (hL : Boxed W lb 22 (.slice u1 u2 u3)) (hr : Sl W r (li (lst n p))) => las_good 55 #[.pointer (some ⟨gb, 0, none⟩), .pointer (some ⟨lb, 0, none⟩)] r (li (lst n p)) (li (lst n p)) W hr (fun W => call54 _ _ W) (fun W' hW => cl54_ok n e gb lb (.slice v1 v2 v3) (.slice u1 u2 u3) zs (lst n (pset l)) p W' hg (hv.below (bcat2 h hW)) (blk_below hX hW) (Boxed.below hL hW) (hu9 W' (bcat2 h hW)) hxm hxl (by rw [clo_eq]; exact hp)))
    rw [show decide (li (lst n p) = li (lst n p)) = true by simp] at HL3
    rw [hs0] at HS
    by_cases hc : (ufault n zs l).1 = 0
    · have hsb : subT n zs e (pset l) = true := by
        rw [ufault_u hg hl0] at hc
        by_cases h9 : subT n zs e (pset l) = true
        · exact h9
        · rw [if_neg h9] at hc; simp at hc
      rw [show ufault n zs l = (0, 0) by rw [ufault_u hg hl0, if_pos hsb]] at HU
      have HN := hide (fun W x m (h : Below w.heap.size w W) (h1 : Sl W x zs) (h2 : Sl W m l) => ans_good (at0 W h) (nor_good n e x m zs l W h1 hg h2 (hT.below h) hl0 hsb))
      have HI := hide (fun W x m (h : Below w.heap.size w W) (h1 : Sl W x zs) (h2 : Sl W m l) => nrm_good n e x m zs l W h1 hg h2 (hT.below h) hl0 hsb)
      have HC := hide (fun W x m (h : Below w.heap.size w W) (h1 : Sl W x zs) (h2 : Sl W m l) => ans_good (at0 W h) (core_good n e x m zs l W h1 hg h2 (hT.below h) hl0 hsb))
      have HM := hide (fun (_ : (0 : Int) = 0) W (h : Below w.heap.size w W) => isnorm_ok n e (.slice v1 v2 v3) (.slice u1 u2 u3) zs (lst n (pset l)) W (hv.below h) hg (hu9 W h) hxm (by omega))
      rw [isn_eq hg] at HM
      have HL1 := hide (fun W r gb lb (h : Below w.heap.size w W) (hX : BoxG W gb n (.slice v1 v2 v3)) (hL : Boxed W lb 22 (.slice u1 u2 u3)) (hr : Sl W r (li (lst n (norq n zs e (pset l))))) => las_good 48 #[.pointer (some ⟨gb, 0, none⟩), .pointer (some ⟨lb, 0, none⟩)] r (li (lst n (norq n zs e (pset l)))) (li (lst n (nrl n zs e (lst n (pset l))))) W hr (fun W => call47 _ _ W) (fun W' hW => cl47_ok n e gb lb (.slice v1 v2 v3) (.slice u1 u2 u3) zs (lst n (pset l)) W' hg (hv.below (bcat2 h hW)) (blk_below hX hW) (Boxed.below hL hW) (hu9 W' (bcat2 h hW)) hxm))
      rw [show decide (li (lst n (norq n zs e (pset l))) = li (lst n (nrl n zs e (lst n (pset l))))) = true by simp [nrl_eq]] at HL1
      have HL2 := hide (fun W r gb lb (h : Below w.heap.size w W) (hX : BoxG W gb n (.slice v1 v2 v3)) (hL : Boxed W lb 22 (.slice u1 u2 u3)) (hr : Sl W r (li (lst n (corq n zs e (pset l) n)))) => las_good 51 #[.pointer (some ⟨gb, 0, none⟩), .pointer (some ⟨lb, 0, none⟩)] r (li (lst n (corq n zs e (pset l) n))) (li (lst n (crl n zs e (lst n (pset l))))) W hr (fun W => call50 _ _ W) (fun W' hW => cl50_ok n e gb lb (.slice v1 v2 v3) (.slice u1 u2 u3) zs (lst n (pset l)) W' hg (hv.below (bcat2 h hW)) (blk_below hX hW) (Boxed.below hL hW) (hu9 W' (bcat2 h hW))))
      rw [show decide (li (lst n (corq n zs e (pset l) n)) = li (lst n (crl n zs e (lst n (pset l))))) = true by simp [crl_eq hg]] at HL2
      exact normal_walk n v1 v2 v3 u1 u2 u3 zs l w hv hu hT hz hl8 0 0 0 0 (nrmq n zs e (pset l)) _ _ _ (.inl rfl) HN HI HC HK HU HS HM HL1 HL2 HL3
    · have HN := hide (fun W x m (h : Below w.heap.size w W) (h1 : Sl W x zs) (h2 : Sl W m l) => ans_bad (at0 W h) (nor_bad n x m zs l W h1 h2 (hT.below h) hc))
      have HI := hide (fun W x m (h : Below w.heap.size w W) (h1 : Sl W x zs) (h2 : Sl W m l) => nrm_bad n x m zs l W h1 h2 (hT.below h) hc)
      have HC := hide (fun W x m (h : Below w.heap.size w W) (h1 : Sl W x zs) (h2 : Sl W m l) => ans_bad (at0 W h) (core_bad n x m zs l W h1 h2 (hT.below h) hc))
      exact normal_walk n v1 v2 v3 u1 u2 u3 zs l w hv hu hT hz hl8 _ _ 0 0 false _ _ _ (.inr rfl) HN HI HC HK HU HS (hide fun h => absurd h hc) (hide fun W r gb lb h _ _ hr => las_nil 48 _ _ _ r W (at0 W h) hr hc) (hide fun W r gb lb h _ _ hr => las_nil 51 _ _ _ r W (at0 W h) hr hc) HL3
  · have hc : (ufault N zs l).1 ≠ 0 := by rw [ufault_s hs]; exact hs
    have HN := hide (fun W x m (h : Below w.heap.size w W) (h1 : Sl W x zs) (h2 : Sl W m l) => ans_bad (at0 W h) (nor_bad N x m zs l W h1 h2 (hT.below h) hc))
    have HI := hide (fun W x m (h : Below w.heap.size w W) (h1 : Sl W x zs) (h2 : Sl W m l) => nrm_bad N x m zs l W h1 h2 (hT.below h) hc)
    have HC := hide (fun W x m (h : Below w.heap.size w W) (h1 : Sl W x zs) (h2 : Sl W m l) => ans_bad (at0 W h) (core_bad N x m zs l W h1 h2 (hT.below h) hc))
    have HK := hide (fun W x m (h : Below w.heap.size w W) (h1 : Sl W x zs) (h2 : Sl W m l) => ans_bad (at0 W h) (clo_bad N x m zs l W h1 h2 hs))
    exact normal_walk N v1 v2 v3 u1 u2 u3 zs l w hv hu hT hz hl8 _ _ _ _ false _ _ _ (.inr rfl) HN HI HC HK HU HS (hide fun h => absurd h hc) (hide fun W r gb lb h _ _ hr => las_nil 48 _ _ _ r W (at0 W h) hr hc) (hide fun W r gb lb h _ _ hr => las_nil 51 _ _ _ r W (at0 W h) hr hc) (hide fun W r gb lb h _ _ hr => las_nil 55 _ _ _ r W (at0 W h) hr hs)
end Go.Proofs.YtoiemlnmcfmakaaDoor
