/- The closures of the law SubNormal. -/
import Derived.Test.YtccilfkaflpnbaaDoorShf2
import Derived.Test.YtccilfkaflpnbaaDoorChnM
import Derived.Test.YtccilfkaflpnbaaDoorMakW
namespace Go.Proofs.YtccilfkaflpnbaaDoor
open Go Go.RowKit

theorem call48 (a : Int) (x y : Value) (W : World) : Sem.run Tryd.prog (callFunc 48 (#[.int .i64 a] ++ #[x, y])) W = .ok (.enter 48 (#[.int .i64 a] ++ #[x, y])) W := by kernel_rfl
theorem call51 (a : Int) (x y : Value) (W : World) : Sem.run Tryd.prog (callFunc 51 (#[.int .i64 a] ++ #[x, y])) W = .ok (.enter 51 (#[.int .i64 a] ++ #[x, y])) W := by kernel_rfl
theorem call47 (x y : Value) (W : World) : Sem.run Tryd.prog (callFunc 47 #[x, y]) W = .ok (.enter 47 #[x, y]) W := by kernel_rfl
theorem call50 (x y : Value) (W : World) : Sem.run Tryd.prog (callFunc 50 #[x, y]) W = .ok (.enter 50 #[x, y]) W := by kernel_rfl
theorem call54 (x y : Value) (W : World) : Sem.run Tryd.prog (callFunc 54 #[x, y]) W = .ok (.enter 54 #[x, y]) W := by kernel_rfl
def nrl (n : Nat) (zs : List Int) (e : Nat) (xs : List Nat) (a : Nat) : Bool := decide (li (lst n (cjl n zs e xs a)) = li xs)
def crl (n : Nat) (zs : List Int) (e : Nat) (xs : List Nat) (y : Nat) : Bool := (List.range n).all fun a => decide (Fin.cj (tm n zs) (iv n zs e) y a ∈ xs)
set_option maxRecDepth 100000 in
set_option maxHeartbeats 4000000 in
theorem nrl1_ok (n e a gb lb : Nat) (v lv : Value) (zs : List Int) (xs : List Nat) (w : World) (g : IsGrp n zs e) (hv : Sl w v zs) (ha : a < n) (hX : BoxG w gb n v) (hL : Boxed w lb 22 lv) (hsL : Sl w lv (li xs)) (hm : ∀ x, x ∈ xs → x < n) :
    Calls Tryd.prog 48 (#[.int .i64 a] ++ #[.pointer (some ⟨gb, 0, none⟩), .pointer (some ⟨lb, 0, none⟩)]) w fun z w' => z = .returned (.bool (nrl n zs e xs a)) ∧ Below w.heap.size w w' := by
  show Calls Tryd.prog 48 #[.int .i64 a, .pointer (some ⟨gb, 0, none⟩), .pointer (some ⟨lb, 0, none⟩)] w _
  obtain ⟨l1, l2, l3, rfl⟩ := hsL.isSlice
  have h0 : 0 < w.heap.size := Nat.lt_of_le_of_lt (Nat.zero_le _) hX.lt
  have HC := hide (fun W (h : Below w.heap.size w W) => those_sl (Nat.lt_of_lt_of_le h0 h.size) (shf_ok n e a v (.slice l1 l2 l3) zs xs W g (hv.below h) ha (hsL.below h) hm))
  have HI := hide (fun W r (h : Below w.heap.size w W) (hr : Sl W r (li (lst n (cjl n zs e xs a)))) => ints_any r (.slice l1 l2 l3) (li (lst n (cjl n zs e xs a))) (li xs) W hr (hsL.below h))
  obtain ⟨g0, g1, _, _⟩ := hX.two
  have c2 := hL.cell
  have hS : ∀ W, Below w.heap.size w W → (Below w.heap.size w W ∧ W.cell? ⟨gb, 0, none⟩ = some (.int .i64 n) ∧ W.cell? ⟨gb, 1, none⟩ = some v ∧ W.cell? ⟨lb, 0, none⟩ = some (.slice l1 l2 l3)) := fun W h => ⟨h, below_cell h g0, below_cell h g1, below_cell h c2⟩
  have hS0 := hS _ (bdrew (Below.refl _ w))
  clear g0 g1 c2
  unfold nrl
  go_enter Tryd.func48, Tryd.ntmps48
  go_wp2_with fail
  go_region_held3 (fun W => Below w.heap.size w W ∧ W.cell? ⟨gb, 0, none⟩ = some (.int .i64 n) ∧ W.cell? ⟨gb, 1, none⟩ = some v ∧ W.cell? ⟨lb, 0, none⟩ = some (.slice l1 l2 l3))
    (first | exact hS0 | assumption | exact hS _ (bcat2 (And.left ‹_›) hl1))
    (first
      | (go_at_call 49; refine (HC.out _ (And.left ‹_›)).mono ?_; rintro e1 U1 ⟨r1, r2, r3, rfl, hr, hl1⟩)
      | (go_at_call 21; refine (HI.out _ _ (And.left ‹_›) (by assumption)).mono ?_; rintro e2 U2 ⟨rfl, hl1⟩))
  all_goals (
    have hB9 := And.left ‹Below w.heap.size w U2 ∧ _›
    go_wp2
    go_ret
    exact ⟨rfl, hB9⟩)
set_option maxRecDepth 100000 in
set_option maxHeartbeats 4000000 in
theorem crl1_ok (n e y gb lb : Nat) (v lv : Value) (zs : List Int) (xs : List Nat) (w : World) (g : IsGrp n zs e) (hv : Sl w v zs) (hy : y < n) (hX : BoxG w gb n v) (hL : Boxed w lb 22 lv) (hsL : Sl w lv (li xs)) :
    Calls Tryd.prog 51 (#[.int .i64 y] ++ #[.pointer (some ⟨gb, 0, none⟩), .pointer (some ⟨lb, 0, none⟩)]) w fun z w' => z = .returned (.bool (crl n zs e xs y)) ∧ Below w.heap.size w w' := by
  show Calls Tryd.prog 51 #[.int .i64 y, .pointer (some ⟨gb, 0, none⟩), .pointer (some ⟨lb, 0, none⟩)] w _
  obtain ⟨l1, l2, l3, rfl⟩ := hsL.isSlice
  have hn := g.tab.le
  go_enter Tryd.func51, Tryd.ntmps51
  go_wp2
  go_loopw [5] (fun i wr => ∃ k : Nat, k ≤ n ∧ i = .int .i64 k ∧ (∀ t, t < k → Fin.cj (tm n zs) (iv n zs e) y t ∈ xs) ∧ Below w.heap.size w wr) (fun i _ => n - (intOf i).toNat)
  case atStart => exact ⟨0, Nat.zero_le _, rfl, fun t ht => by omega, Below.refl _ _⟩
  case round =>
    obtain ⟨k, hk, rfl, hno, hB⟩ := hrel
    have HNO := hide hno
    clear hno
    obtain ⟨g0, g1, _, _⟩ := (blk_below hX hB).two
    have c2 := (Boxed.below hL hB).cell
    by_cases hlt : k < n
    · have hki : (k : Int) < (n : Int) := by omega
      have HMM := hide (fun W (h : Below wr.heap.size wr W) => rcj_ok n e y k v zs W g ((hv.below hB).below h) hy hlt)
      have HH := hide (fun W (h : Below wr.heap.size wr W) => has_sl (.slice l1 l2 l3) xs (Fin.cj (tm n zs) (iv n zs e) y k) W ((hsL.below hB).below h))
      have hS : ∀ W, Below wr.heap.size wr W → (Below wr.heap.size wr W ∧ W.cell? ⟨gb, 0, none⟩ = some (.int .i64 n) ∧ W.cell? ⟨gb, 1, none⟩ = some v ∧ W.cell? ⟨lb, 0, none⟩ = some (.slice l1 l2 l3)) := fun W h => ⟨h, below_cell h g0, below_cell h g1, below_cell h c2⟩
      have hS0 := hS _ (bdrew (Below.refl _ wr))
      by_cases htin : Fin.cj (tm n zs) (iv n zs e) y k ∈ xs
      · rw [decide_eq_true htin] at HH
        have HTQ := hide htin
        obtain ⟨t, ht⟩ : ∃ t, Fin.cj (tm n zs) (iv n zs e) y k = t := ⟨_, rfl⟩
        rw [ht] at HMM HH
        clear ht htin
        go_wp2_with fail
        clear g0 g1 c2
        go_region_held3 (fun W => Below wr.heap.size wr W ∧ W.cell? ⟨gb, 0, none⟩ = some (.int .i64 n) ∧ W.cell? ⟨gb, 1, none⟩ = some v ∧ W.cell? ⟨lb, 0, none⟩ = some (.slice l1 l2 l3))
          (first | exact hS0 | assumption | exact hS _ (bcat2 (And.left ‹_›) hl1))
          (first
            | (go_at_call 53; refine (HMM.out _ (And.left ‹_›)).mono ?_; rintro e1 U1 ⟨rfl, hl1⟩)
            | (go_at_call 52; refine (HH.out _ (And.left ‹_›)).mono ?_; rintro e2 U2 ⟨rfl, hl1⟩))
        all_goals (
          have hB9 := And.left ‹Below wr.heap.size wr U2 ∧ _›
          clear hS hS0 HH HMM hl1
          go_wp2
          go_roundw
          case rel => exact ⟨k + 1, by omega, by go_num, fun t9 h2 => by
            by_cases e9 : t9 = k
            · subst e9; exact HTQ.out
            · exact HNO.out t9 (by omega), bcat2 hB hB9⟩
          case measure => simp [intOf]; omega)
      · rw [decide_eq_false htin] at HH
        have HD := hide (show crl n zs e xs y = false by
          rw [← Bool.not_eq_true]
          unfold crl
          simp only [List.all_eq_true, List.mem_range, decide_eq_true_eq]
          exact fun h => htin (h k hlt))
        clear htin
        generalize Fin.cj (tm n zs) (iv n zs e) y k = t at *
        go_wp2_with fail
        clear g0 g1 c2
        go_region_held3 (fun W => Below wr.heap.size wr W ∧ W.cell? ⟨gb, 0, none⟩ = some (.int .i64 n) ∧ W.cell? ⟨gb, 1, none⟩ = some v ∧ W.cell? ⟨lb, 0, none⟩ = some (.slice l1 l2 l3))
          (first | exact hS0 | assumption | exact hS _ (bcat2 (And.left ‹_›) hl1))
          (first
            | (go_at_call 53; refine (HMM.out _ (And.left ‹_›)).mono ?_; rintro e1 U1 ⟨rfl, hl1⟩)
            | (go_at_call 52; refine (HH.out _ (And.left ‹_›)).mono ?_; rintro e2 U2 ⟨rfl, hl1⟩))
        all_goals (
          have hB9 := And.left ‹Below wr.heap.size wr U2 ∧ _›
          go_wp2
          go_ret
          exact ⟨by rw [HD.out]; rfl, bcat2 hB hB9⟩)
    · have HD := hide (show crl n zs e xs y = true by
        unfold crl
        simp only [List.all_eq_true, List.mem_range, decide_eq_true_eq]
        exact fun a ha => HNO.out a (by omega))
      go_wp2
      go_ret
      exact ⟨by rw [HD.out]; rfl, hB⟩
set_option maxRecDepth 100000 in
set_option maxHeartbeats 4000000 in
theorem cl47_ok (n e gb lb : Nat) (v lv : Value) (zs : List Int) (xs : List Nat) (w : World) (g : IsGrp n zs e) (hv : Sl w v zs) (hX : BoxG w gb n v) (hL : Boxed w lb 22 lv) (hsL : Sl w lv (li xs)) (hm : ∀ x, x ∈ xs → x < n) :
    Calls Tryd.prog 47 #[.pointer (some ⟨gb, 0, none⟩), .pointer (some ⟨lb, 0, none⟩)] w fun x w' => ∃ r, x = .returned r ∧ Sl w' r (li (lst n (nrl n zs e xs))) ∧ Below w.heap.size w w' := by
  have h0 : 0 < w.heap.size := Nat.lt_of_le_of_lt (Nat.zero_le _) hX.lt
  obtain ⟨c0, c1, _, _⟩ := hX.two
  go_enter Tryd.func47, Tryd.ntmps47
  go_wp2_with fail
  refine (those_sl h0 (rthose_ok n 48 v _ (nrl n zs e xs) w g.tab.le (fun a W => call48 a _ _ W) (fun W x hW hx => nrl1_ok n e x gb lb v lv zs xs W g (hv.below hW) hx (blk_below hX hW) (Boxed.below hL hW) (hsL.below hW) hm))).mono ?_
  rintro x w1 ⟨r1, r2, r3, rfl, hr, hb1⟩
  go_wp2
  go_ret
  exact ⟨_, rfl, hr, hb1⟩
set_option maxRecDepth 100000 in
set_option maxHeartbeats 4000000 in
theorem cl50_ok (n e gb lb : Nat) (v lv : Value) (zs : List Int) (xs : List Nat) (w : World) (g : IsGrp n zs e) (hv : Sl w v zs) (hX : BoxG w gb n v) (hL : Boxed w lb 22 lv) (hsL : Sl w lv (li xs)) :
    Calls Tryd.prog 50 #[.pointer (some ⟨gb, 0, none⟩), .pointer (some ⟨lb, 0, none⟩)] w fun x w' => ∃ r, x = .returned r ∧ Sl w' r (li (lst n (crl n zs e xs))) ∧ Below w.heap.size w w' := by
  have h0 : 0 < w.heap.size := Nat.lt_of_le_of_lt (Nat.zero_le _) hX.lt
  obtain ⟨c0, c1, _, _⟩ := hX.two
  go_enter Tryd.func50, Tryd.ntmps50
  go_wp2_with fail
  refine (those_sl h0 (rthose_ok n 51 v _ (crl n zs e xs) w g.tab.le (fun a W => call51 a _ _ W) (fun W x hW hx => crl1_ok n e x gb lb v lv zs xs W g (hv.below hW) hx (blk_below hX hW) (Boxed.below hL hW) (hsL.below hW)))).mono ?_
  rintro x w1 ⟨r1, r2, r3, rfl, hr, hb1⟩
  go_wp2
  go_ret
  exact ⟨_, rfl, hr, hb1⟩
end Go.Proofs.YtccilfkaflpnbaaDoor
