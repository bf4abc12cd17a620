/- What the law CosetDouble answers: true, at every table and every two lists. -/
import Derived.Test.YtoiemlnmcfmakaaDoorSbf
import Derived.Test.YtoiemlnmcfmakaaDoorNrm
import Derived.Test.YtoiemlnmcfmakaaDoorDedW
import Derived.Test.YtoiemlnmcfmakaaDoorCsa
import Derived.Deep.DeepCutAuto
namespace Go.Proofs.YtoiemlnmcfmakaaDoor
open Go Go.RowKit

theorem rcj_lt {n e x a : Nat} {zs : List Int} (g : IsGrp n zs e) (hx : x < n) (ha : a < n) : Fin.cj (tm n zs) (iv n zs e) x a < n := List.mem_range.1 (Fin.cj_mem (grp_fg g) (grp_iv g) (List.mem_range.2 hx) (List.mem_range.2 ha))
theorem call96 (a : Int) (x y z : Value) (W : World) : Sem.run Tryd.prog (callFunc 99 (#[.int .i64 a] ++ #[x, y, z])) W = .ok (.enter 99 (#[.int .i64 a] ++ #[x, y, z])) W := by kernel_rfl
set_option maxRecDepth 100000 in
set_option maxHeartbeats 4000000 in
theorem shf1_ok (n e y a lb gb ab : Nat) (v lv : Value) (zs : List Int) (xs : List Nat) (w : World) (g : IsGrp n zs e) (hv : Sl w v zs) (ha : a < n) (hL : Boxed w lb 22 lv) (hsL : Sl w lv (li xs)) (hX : BoxG w gb n v) (hA : Boxed w ab 3 (.int .i64 a)) (hm : ∀ x, x ∈ xs → x < n) :
    Calls Tryd.prog 99 (#[.int .i64 y] ++ #[.pointer (some ⟨lb, 0, none⟩), .pointer (some ⟨gb, 0, none⟩), .pointer (some ⟨ab, 0, none⟩)]) w fun z w' => z = .returned (.bool (cjl n zs e xs a y)) ∧ Below w.heap.size w w' := by
  show Calls Tryd.prog 99 #[.int .i64 y, .pointer (some ⟨lb, 0, none⟩), .pointer (some ⟨gb, 0, none⟩), .pointer (some ⟨ab, 0, none⟩)] w _
  obtain ⟨la, cap, pb, po, rfl, hr, hp, hq3, hq4⟩ := hsL
  have hml : xs.length ≤ 9223372036854775807 := by rw [li_len] at hq3; unfold maxLen at hq4; omega
  rw [li_len] at *
  have HR := hide hr
  have HLL := hide (li_len xs)
  have HM9 := hide hm
  clear hr hq3 hq4 hm
  go_enter Tryd.func99, Tryd.ntmps99
  go_wp2
  go_loopw [6] (fun i wr => ∃ k : Nat, k ≤ xs.length ∧ i = .int .i64 k ∧ (∀ t, (ht : t < xs.length) → t < k → ¬ Fin.cj (tm n zs) (iv n zs e) xs[t] a = y) ∧ Below w.heap.size w wr) (fun i _ => xs.length - (intOf i).toNat)
  case atStart => exact ⟨0, Nat.zero_le _, rfl, fun t _ ht => by omega, Below.refl _ _⟩
  case round =>
    obtain ⟨k, hk, rfl, hno, hBw⟩ := hrel
    have HNO := hide hno
    clear hno
    have hLc := (Boxed.below hL hBw).cell
    by_cases hlt : k < xs.length
    · have hck := (HR.out.below hBw hp).cell k (by rw [HLL.out]; exact hlt)
      rw [li_get hlt] at hck
      obtain rfl := HR.out.at_ (by rw [HLL.out]; omega)
      obtain ⟨x, hxe⟩ : ∃ x, xs[k] = x := ⟨_, rfl⟩
      have hxn : x < n := by rw [← hxe]; exact HM9.out _ (List.getElem_mem hlt)
      rw [hxe] at hck
      have HXE := hide hxe
      clear hxe
      have HC := hide (fun W (h : Below wr.heap.size wr W) => rcj_ok n e x a v zs W g ((hv.below hBw).below h) hxn ha)
      obtain ⟨g0, g1, _, _⟩ := (blk_below hX hBw).two
      have a0 := (Boxed.below hA hBw).cell
      have hki : (k : Int) < (xs.length : Int) := by omega
      have hS : ∀ W, Below wr.heap.size wr W → (Below wr.heap.size wr W ∧ W.cell? ⟨lb, 0, none⟩ = some (.slice (some ⟨pb, po, none⟩) xs.length cap) ∧ W.cell? ⟨gb, 0, none⟩ = some (.int .i64 n) ∧ W.cell? ⟨gb, 1, none⟩ = some v ∧ W.cell? ⟨ab, 0, none⟩ = some (.int .i64 a) ∧ W.cell? ⟨pb, po + k, none⟩ = some (.int .i64 x)) := fun W h => ⟨h, below_cell h hLc, below_cell h g0, below_cell h g1, below_cell h a0, below_cell h hck⟩
      have hS0 := hS _ (bdrew (Below.refl _ wr))
      clear hck g0 g1 a0
      by_cases heq : Fin.cj (tm n zs) (iv n zs e) x a = y
      · have HD := hide (show cjl n zs e xs a y = true by
          unfold cjl
          rw [List.any_eq_true]
          exact ⟨xs[k], List.getElem_mem hlt, by rw [HXE.out]; simpa using heq⟩)
        rw [heq] at HC
        go_wp2_with fail
        go_region_held3 (fun W => Below wr.heap.size wr W ∧ W.cell? ⟨lb, 0, none⟩ = some (.slice (some ⟨pb, po, none⟩) xs.length cap) ∧ W.cell? ⟨gb, 0, none⟩ = some (.int .i64 n) ∧ W.cell? ⟨gb, 1, none⟩ = some v ∧ W.cell? ⟨ab, 0, none⟩ = some (.int .i64 a) ∧ W.cell? ⟨pb, po + k, none⟩ = some (.int .i64 x))
          (first | exact hS0 | assumption | exact hS _ (bcat2 (And.left ‹_›) hl1))
          (first | (go_at_call 54; refine (HC.out _ (And.left ‹_›)).mono ?_; rintro e3 W3 ⟨rfl, hl1⟩))
        all_goals (
          have hB9 := And.left ‹Below wr.heap.size wr W3 ∧ _›
          go_wp2
          go_ret
          exact ⟨by rw [HD.out]; first | rfl | simp, bcat hBw hB9 hBw.size⟩)
      · have HN := hide (show ∀ t, (ht : t < xs.length) → t < k + 1 → ¬ Fin.cj (tm n zs) (iv n zs e) xs[t] a = y from fun t h1 h2 => by
          by_cases e9 : t = k
          · subst e9; rw [HXE.out]; exact heq
          · exact HNO.out t h1 (by omega))
        generalize Fin.cj (tm n zs) (iv n zs e) x a = c at *
        have hci : ¬ (c : Int) = (y : Int) := by omega
        go_wp2_with fail
        go_region_held3 (fun W => Below wr.heap.size wr W ∧ W.cell? ⟨lb, 0, none⟩ = some (.slice (some ⟨pb, po, none⟩) xs.length cap) ∧ W.cell? ⟨gb, 0, none⟩ = some (.int .i64 n) ∧ W.cell? ⟨gb, 1, none⟩ = some v ∧ W.cell? ⟨ab, 0, none⟩ = some (.int .i64 a) ∧ W.cell? ⟨pb, po + k, none⟩ = some (.int .i64 x))
          (first | exact hS0 | assumption | exact hS _ (bcat2 (And.left ‹_›) hl1))
          (first | (go_at_call 54; refine (HC.out _ (And.left ‹_›)).mono ?_; rintro e3 W3 ⟨rfl, hl1⟩))
        all_goals (
          have hB9 := And.left ‹Below wr.heap.size wr W3 ∧ _›
          go_wp2
          go_roundw
          case rel => exact ⟨k + 1, by omega, by go_num, HN.out, bcat hBw hB9 hBw.size⟩
          case measure => simp [intOf]; omega)
    · have HD := hide (show cjl n zs e xs a y = false by
        unfold cjl
        rw [List.any_eq_false]
        intro z hz
        obtain ⟨t, ht, rfl⟩ := List.mem_iff_getElem.1 hz
        simpa using HNO.out t ht (by omega))
      go_wp2
      go_ret
      exact ⟨by rw [HD.out]; rfl, hBw⟩
end Go.Proofs.YtoiemlnmcfmakaaDoor

namespace Go.Proofs.YtoiemlnmcfmakaaDoor
open Go Go.RowKit

set_option maxRecDepth 100000 in
set_option maxHeartbeats 4000000 in
theorem shf_ok (n e a : Nat) (v lv : Value) (zs : List Int) (xs : List Nat) (w : World) (g : IsGrp n zs e) (hv : Sl w v zs) (ha : a < n) (hsL : Sl w lv (li xs)) (hm : ∀ x, x ∈ xs → x < n) :
    Calls Tryd.prog 50 #[.agg #[.int .i64 n, v], lv, .int .i64 a] w fun x w' => ∃ r, x = .returned r ∧ Row w' w.heap.size r (li (lst n (cjl n zs e xs a))) ∧ Below w.heap.size w w' := by
  obtain ⟨l1, l2, l3, rfl⟩ := hsL.isSlice
  obtain ⟨w0, hw0⟩ : ∃ w0, w0 = ((w.alloc (.cells #[.int .i64 n, v] 24)).alloc (.cells #[.slice l1 l2 l3] 22)).alloc (.cells #[.int .i64 a] 3) := ⟨_, rfl⟩
  have hB0 : Below w.heap.size w w0 := by rw [hw0]; exact ((balloc w _).alloc (by simp) _).alloc (by simp; omega) _
  have hX0 : BoxG w0 w.heap.size n v := by rw [hw0]; exact ((blk0 (w := w) (T := 24) _ _).alloc _).alloc _
  have hL0 : Boxed w0 (w.heap.size + 1) 22 (.slice l1 l2 l3) := by
    have h := (Boxed.new (w.alloc (.cells #[.int .i64 n, v] 24)) 22 (.slice l1 l2 l3)).alloc (.cells #[.int .i64 a] 3)
    rw [World.size_alloc] at h
    rw [hw0]; exact h
  have hA0 : Boxed w0 (w.heap.size + 1 + 1) 3 (.int .i64 a) := by
    have h := Boxed.new ((w.alloc (.cells #[.int .i64 n, v] 24)).alloc (.cells #[.slice l1 l2 l3] 22)) 3 (.int .i64 a)
    rw [World.size_alloc, World.size_alloc] at h
    rw [hw0]; exact h
  obtain ⟨c0, c1, _, _⟩ := hX0.two
  rw [hw0] at c0 c1
  go_enter Tryd.func50, Tryd.ntmps50
  go_wp2_with fail
  rw [← hw0]
  clear hw0 c0 c1
  refine (rthose_ok n 99 v _ (cjl n zs e xs a) w0 g.tab.le (fun a W => call96 a _ _ _ W) (fun W x hW hx => shf1_ok n e x a (w.heap.size + 1) w.heap.size (w.heap.size + 1 + 1) v (.slice l1 l2 l3) zs xs W g ((hv.below hB0).below hW) ha (Boxed.below hL0 hW) ((hsL.below hB0).below hW) (blk_below hX0 hW) (Boxed.below hA0 hW) hm)).mono ?_
  rintro x w1 ⟨r, rfl, hr, hb1⟩
  go_wp2
  go_ret
  exact ⟨_, rfl, owns_mono hr hB0.size, bcat2 hB0 hb1⟩

def isn (n : Nat) (zs : List Int) (e : Nat) (xs : List Nat) : Bool := (List.range n).all fun a => xs.all fun x => decide (Fin.cj (tm n zs) (iv n zs e) x a ∈ xs)
theorem isn_iff {n e : Nat} {zs : List Int} {xs : List Nat} : isn n zs e xs = true ↔ ∀ a, a < n → ∀ x, x ∈ xs → Fin.cj (tm n zs) (iv n zs e) x a ∈ xs := by
  unfold isn
  simp only [List.all_eq_true, List.mem_range, decide_eq_true_eq]

set_option maxRecDepth 100000 in
set_option maxHeartbeats 8000000 in
theorem isnorm_ok (n e : Nat) (v u : Value) (zs : List Int) (xs : List Nat) (w : World) (hv : Sl w v zs) (hg : IsGrp n zs e) (hu : Sl w u (li xs)) (hx : ∀ x, x ∈ xs → x < n) (hxl : xs.length ≤ 100000) :
    Calls Tryd.prog 47 #[.agg #[.int .i64 n, v], u] w fun x w' => x = .returned (.bool (isn n zs e xs)) ∧ Below w.heap.size w w' := by
  have HSUB := hide (isn_iff (n := n) (zs := zs) (e := e) (xs := xs))
  have hn := hg.tab.le
  have hB0 : Below w.heap.size w (w.alloc (.cells #[.int .i64 n, v] 24)) := balloc w _
  have hX0 : BoxG (w.alloc (.cells #[.int .i64 n, v] 24)) w.heap.size n v := blk0 _ _
  obtain ⟨ua, ucap, pb, po, rfl, hur, hup, huq, hum⟩ := id hu
  have HUR := hide hur
  have HX := hide hx
  have HHS := hide (fun a W (h : Below w.heap.size w W) => has_sl _ xs a W (hu.below h))
  clear hur hx hum
  rw [li_len] at *
  have HUL := hide (li_len xs)
  go_enter Tryd.func47, Tryd.ntmps47
  go_wp2
  generalize w.alloc (.cells #[.int .i64 n, v] 24) = w2 at *
  go_loopw [5] (fun i wr => ∃ k : Nat, k ≤ n ∧ i = .int .i64 k ∧ (∀ t, t < k → ∀ y, y ∈ xs → Fin.cj (tm n zs) (iv n zs e) y t ∈ xs) ∧ Below w2.heap.size w2 wr) (fun i _ => n - (intOf i).toNat)
  case atStart => exact ⟨0, Nat.zero_le _, rfl, fun t ht => by omega, Below.refl _ _⟩
  case round =>
    obtain ⟨k, hk, rfl, hno, hB⟩ := hrel
    have HNO := hide hno
    clear hno
    have hXr := blk_below hX0 hB
    obtain ⟨g0, g1, _, _⟩ := hXr.two
    by_cases hlt : k < n
    · have hki : (k : Int) < (n : Int) := by omega
      go_wp2
      clear g0 g1
      generalize hwo : wr = wrO at *
      go_loopw [6] (fun i wr' => ∃ j : Nat, j ≤ xs.length ∧ i = .int .i64 j ∧ (∀ t, (ht : t < xs.length) → t < j → Fin.cj (tm n zs) (iv n zs e) xs[t] k ∈ xs) ∧ Below wrO.heap.size wrO wr') (fun i _ => xs.length - (intOf i).toNat)
      case atStart => exact ⟨0, Nat.zero_le _, rfl, fun t _ ht => by omega, Below.refl _ _⟩
      case round =>
        obtain ⟨j, hj, rfl, hnj, hBj⟩ := hrel
        have HNJ := hide hnj
        clear hnj
        have hBw := bcat2 hB0 (bcat2 hB hBj)
        by_cases hltj : j < xs.length
        · have hcj := (HUR.out.below hBw hup).cell j (by rw [HUL.out]; exact hltj)
          rw [li_get hltj] at hcj
          obtain rfl := HUR.out.at_ (by rw [HUL.out]; omega)
          obtain ⟨y, hye⟩ : ∃ y, xs[j] = y := ⟨_, rfl⟩
          have hym : y ∈ xs := by rw [← hye]; exact List.getElem_mem hltj
          have hyn : y < n := HX.out _ hym
          rw [hye] at hcj
          have HYE := hide hye
          clear hye
          have hji : (j : Int) < (xs.length : Int) := by omega
          obtain ⟨g0, g1, _, _⟩ := (blk_below hXr hBj).two
          have hvr := hv.below hBw
          have HMM := hide (fun W (h : Below wr.heap.size wr W) => rcj_ok n e y k v zs W hg (hvr.below h) hyn hlt)
          have HH := hide (fun W (h : Below wr.heap.size wr W) => HHS.out (Fin.cj (tm n zs) (iv n zs e) y k) W (bcat2 hBw h))
          have hS : ∀ W, Below wr.heap.size wr W → (Below wr.heap.size wr W ∧ W.cell? ⟨w.heap.size, 0, none⟩ = some (.int .i64 n) ∧ W.cell? ⟨w.heap.size, 1, none⟩ = some v ∧ W.cell? ⟨pb, po + j, none⟩ = some (.int .i64 y)) := fun W h => ⟨h, below_cell h g0, below_cell h g1, below_cell h hcj⟩
          have hS0 := hS _ (bdrew (Below.refl _ wr))
          clear g0 g1 hcj
          by_cases htin : Fin.cj (tm n zs) (iv n zs e) y k ∈ xs
          · rw [decide_eq_true htin] at HH
            have HTQ := hide htin
            obtain ⟨t, ht⟩ : ∃ t, Fin.cj (tm n zs) (iv n zs e) y k = t := ⟨_, rfl⟩
            rw [ht] at HMM HH
            clear ht htin
            go_wp2_with fail
            go_region_held3 (fun W => Below wr.heap.size wr W ∧ W.cell? ⟨w.heap.size, 0, none⟩ = some (.int .i64 n) ∧ W.cell? ⟨w.heap.size, 1, none⟩ = some v ∧ W.cell? ⟨pb, po + j, none⟩ = some (.int .i64 y))
              (first | exact hS0 | assumption | exact hS _ (bcat2 (And.left ‹_›) hl1))
              (first
                | (go_at_call 54; refine (HMM.out _ (And.left ‹_›)).mono ?_; rintro e1 U1 ⟨rfl, hl1⟩)
                | (go_at_call 53; refine (HH.out _ (And.left ‹_›)).mono ?_; rintro e2 U2 ⟨rfl, hl1⟩))
            all_goals (
              have hB9 := And.left ‹Below wr.heap.size wr U2 ∧ _›
              clear hS hS0 HH HMM hl1
              go_wp2
              go_roundw
              case rel => exact ⟨j + 1, by omega, by go_num, fun t9 h1 h2 => by
                by_cases e9 : t9 = j
                · subst e9; rw [HYE.out]; exact HTQ.out
                · exact HNJ.out t9 h1 (by omega), bcat2 hBj hB9⟩
              case measure => simp [intOf]; omega)
          · rw [decide_eq_false htin] at HH
            have HD := hide (show isn n zs e xs = false by
              rw [← Bool.not_eq_true]
              exact fun h => htin (HSUB.out.1 h k hlt y hym))
            clear htin
            generalize Fin.cj (tm n zs) (iv n zs e) y k = t at *
            go_wp2_with fail
            go_region_held3 (fun W => Below wr.heap.size wr W ∧ W.cell? ⟨w.heap.size, 0, none⟩ = some (.int .i64 n) ∧ W.cell? ⟨w.heap.size, 1, none⟩ = some v ∧ W.cell? ⟨pb, po + j, none⟩ = some (.int .i64 y))
              (first | exact hS0 | assumption | exact hS _ (bcat2 (And.left ‹_›) hl1))
              (first
                | (go_at_call 54; refine (HMM.out _ (And.left ‹_›)).mono ?_; rintro e1 U1 ⟨rfl, hl1⟩)
                | (go_at_call 53; refine (HH.out _ (And.left ‹_›)).mono ?_; rintro e2 U2 ⟨rfl, hl1⟩))
            all_goals (
              have hB9 := And.left ‹Below wr.heap.size wr U2 ∧ _›
              go_wp2
              go_ret
              exact ⟨by rw [HD.out]; rfl, bcat2 hBw hB9⟩)
        · go_wp2
          go_roundw
          case rel => exact ⟨k + 1, by omega, by go_num, fun t h2 y hy => by
            by_cases e9 : t = k
            · subst e9
              obtain ⟨t9, h9, rfl⟩ := List.mem_iff_getElem.1 hy
              exact HNJ.out t9 h9 (by omega)
            · exact HNO.out t (by omega) y hy, bcat2 hB hBj⟩
          case measure => simp [intOf]; omega
    · have HD := hide (show isn n zs e xs = true from HSUB.out.2 (fun a ha => HNO.out a (by omega)))
      go_wp2
      go_ret
      exact ⟨by rw [HD.out]; rfl, bcat2 hB0 hB⟩
end Go.Proofs.YtoiemlnmcfmakaaDoor

namespace Go.Proofs.YtoiemlnmcfmakaaDoor
open Go Go.RowKit

/-- A double coset. -/
def dblq (n : Nat) (zs : List Int) (xs ys : List Nat) (a y : Nat) : Bool := xs.any fun x => lftq n zs ys (tm n zs x a) y
set_option maxRecDepth 100000 in
set_option maxHeartbeats 4000000 in
theorem dbl_ok (n : Nat) (v lv mv : Value) (zs : List Int) (xs ys : List Nat) (a : Nat) (w : World) (ht : IsTab n zs) (hv : Sl w v zs) (hs : Sl w lv (li xs)) (hm : Sl w mv (li ys)) (hx : ∀ x, x ∈ xs → x < n) (hy : ∀ x, x ∈ ys → x < n) (ha : a < n) :
    Calls Tryd.prog 110 #[.agg #[.int .i64 n, v], lv, mv, .int .i64 a] w fun e w' => e = .returned (.int .u64 (bs (dblq n zs xs ys a) n)) ∧ Below w.heap.size w w' := by
  have hn := ht.le
  have hB0 : Below w.heap.size w (w.alloc (.cells #[.int .i64 n, v] 24)) := balloc w _
  have hX0 : BoxG (w.alloc (.cells #[.int .i64 n, v] 24)) w.heap.size n v := blk0 _ _
  have hv0 := hv.below hB0
  have hm0 := hm.below hB0
  obtain ⟨q1, q2, q3, rfl⟩ := hm.isSlice
  obtain ⟨ra, rc, pb, po, rfl, hr, hp, hq3, hq4⟩ := hs.below hB0
  have hml : xs.length ≤ 9223372036854775807 := by rw [li_len] at hq3; unfold maxLen at hq4; omega
  rw [li_len] at hq3 ⊢
  have HM := hide hx
  have HR := hide hr
  have HLL := hide (li_len xs)
  clear hr hq4 hx hs
  go_enter Tryd.func110, Tryd.ntmps110
  go_wp2
  generalize w.alloc (.cells #[.int .i64 n, v] 24) = w1 at *
  go_loopw [9, 14] (fun s i wr => ∃ k : Nat, k ≤ xs.length ∧ i = .int .i64 k ∧ s = .int .u64 (bs (dblq n zs (xs.take k) ys a) n) ∧ Below w1.heap.size w1 wr) (fun _ i _ => xs.length - (intOf i).toNat)
  case atStart => exact ⟨0, Nat.zero_le _, rfl, by rw [List.take_zero, show bs (dblq n zs [] ys a) n = 0 from bs_none n]; rfl, Below.refl _ _⟩
  case round =>
    obtain ⟨k, hk, rfl, rfl, hB⟩ := hrel
    by_cases hlt : k < xs.length
    · have hck := (HR.out.below hB hp).cell k (by rw [HLL.out]; exact hlt)
      rw [li_get hlt] at hck
      obtain rfl := HR.out.at_ (by rw [HLL.out]; omega)
      obtain ⟨x, hxe⟩ : ∃ x, xs[k] = x := ⟨_, rfl⟩
      have hxn : x < n := by rw [← hxe]; exact HM.out _ (List.getElem_mem hlt)
      have hsn : xs.take (k + 1) = xs.take k ++ [x] := by rw [List.take_succ_eq_append_getElem hlt, hxe]
      rw [hxe] at hck
      have hki : (k : Int) < (xs.length : Int) := by omega
      have hct : tm n zs x a < n := tm_lt ht hxn ha
      have hor := or_bs (dblq n zs (xs.take k) ys a) (lftq n zs ys (tm n zs x a)) hn
      have he : (fun y => dblq n zs (xs.take k) ys a y || lftq n zs ys (tm n zs x a) y) = dblq n zs (xs.take (k + 1)) ys a := by
        funext y
        unfold dblq
        rw [hsn, List.any_append]
        simp
      rw [he] at hor
      have HCM := hide (fun W (h : Below wr.heap.size wr W) => cprd_ok n v zs x a W ht ((hv0.below hB).below h) hxn ha)
      have HLF := hide (fun W (h : Below wr.heap.size wr W) => lft_ok n v (.slice q1 q2 q3) zs ys (tm n zs x a) W ht ((hv0.below hB).below h) ((hm0.below hB).below h) hy hct)
      obtain ⟨g0, g1, _, _⟩ := (blk_below hX0 hB).two
      have hS : ∀ W, Below wr.heap.size wr W → (Below wr.heap.size wr W ∧ W.cell? ⟨w.heap.size, 0, none⟩ = some (.int .i64 n) ∧ W.cell? ⟨w.heap.size, 1, none⟩ = some v) := fun W h => ⟨h, below_cell h g0, below_cell h g1⟩
      have hS0 := hS _ (bdrew (Below.refl _ wr))
      clear g0 g1 hsn hxe he
      generalize tm n zs x a = t at *
      generalize bs (lftq n zs ys t) n = T9 at *
      generalize hY9 : bs (dblq n zs (xs.take (k + 1)) ys a) n = Y9 at *
      have HY9 := hide hY9
      clear hY9
      generalize bs (dblq n zs (xs.take k) ys a) n = X9 at *
      go_wp2_with fail
      go_region_held3 (fun W => Below wr.heap.size wr W ∧ W.cell? ⟨w.heap.size, 0, none⟩ = some (.int .i64 n) ∧ W.cell? ⟨w.heap.size, 1, none⟩ = some v)
        (first | exact hS0 | assumption | exact hS _ (bcat2 (And.left ‹_›) hl1))
        (first
          | (go_at_call 113; refine (HCM.out _ (And.left ‹_›)).mono ?_; rintro e1 U1 ⟨rfl, hl1⟩)
          | (go_at_call 105; refine (HLF.out _ (And.left ‹_›)).mono ?_; rintro e2 U2 ⟨rfl, hl1⟩))
      all_goals (
        have hB9 := And.left ‹Below wr.heap.size wr U2 ∧ _›
        go_wp2
        go_roundw
        case rel => exact ⟨k + 1, by omega, by go_num, by rw [HY9.out], bcat2 hB hB9⟩
        case measure => simp [intOf]; omega)
    · have hki : ¬ (k : Int) < (xs.length : Int) := by omega
      rw [List.take_of_length_le (show xs.length ≤ k by omega)]
      go_wp2
      go_ret
      exact ⟨rfl, bcat2 hB0 hB⟩
theorem ent109 (a : Int) (x y z : Value) (W : World) : Sem.run Tryd.prog (callFunc 109 (#[.int .i64 a] ++ #[x, y, z])) W = .ok (.enter 109 (#[.int .i64 a] ++ #[x, y, z])) W := by kernel_rfl
set_option maxRecDepth 100000 in
set_option maxHeartbeats 4000000 in
theorem dbl1_ok (n : Nat) (v lv mv : Value) (zs : List Int) (xs ys : List Nat) (a gb lb mb : Nat) (w : World) (ht : IsTab n zs) (hv : Sl w v zs) (hs : Sl w lv (li xs)) (hm : Sl w mv (li ys)) (hx : ∀ x, x ∈ xs → x < n) (hy : ∀ x, x ∈ ys → x < n) (ha : a < n) (hX : BoxG w gb n v) (hL : Boxed w lb 22 lv) (hM : Boxed w mb 22 mv) :
    Calls Tryd.prog 109 (#[.int .i64 a] ++ #[.pointer (some ⟨gb, 0, none⟩), .pointer (some ⟨lb, 0, none⟩), .pointer (some ⟨mb, 0, none⟩)]) w fun e w' => e = .returned (.int .u64 (bs (dblq n zs xs ys a) n)) ∧ Below w.heap.size w w' := by
  show Calls Tryd.prog 109 #[.int .i64 a, .pointer (some ⟨gb, 0, none⟩), .pointer (some ⟨lb, 0, none⟩), .pointer (some ⟨mb, 0, none⟩)] w _
  have HD := hide (dbl_ok n v lv mv zs xs ys a w ht hv hs hm hx hy ha)
  obtain ⟨c0, c1, _, _⟩ := hX.two
  have c2 := hL.cell
  have c3 := hM.cell
  go_enter Tryd.func109, Tryd.ntmps109
  go_wp2_with fail
  refine HD.out.mono ?_
  rintro x w1 ⟨rfl, hb1⟩
  go_wp2
  go_ret
  exact ⟨rfl, hb1⟩
/-- Four boxes: a group, two lists, and a fault that is answered. -/
structure Beg4d (w w0 : World) (N : Int) (v u m : Value) : Prop where
  eq : w0 = (((w.alloc (.cells #[.int .i64 N, v] 24)).alloc (.cells #[u] 22)).alloc (.cells #[m] 22)).alloc (.cells #[.int .i64 0, .int .i64 0] 28)
  bel : Below w.heap.size w w0
  box : BoxG w0 w.heap.size N v
  lis : Boxed w0 (w.heap.size + 1) 22 u
  lim : Boxed w0 (w.heap.size + 1 + 1) 22 m
  res : Blk w0 (w.heap.size + 1 + 1 + 1) 28 [.int .i64 0, .int .i64 0]
theorem Beg4d.new (w : World) (N : Int) (v u m : Value) : ∃ w0, Beg4d w w0 N v u m := by
  refine ⟨_, rfl, (((balloc w _).alloc (by simp) _).alloc (by simp; omega) _).alloc (by simp; omega) _, (((blk0 (w := w) (T := 24) _ _).alloc _).alloc _).alloc _, ?_, ?_, ?_⟩
  · have h := ((Boxed.new (w.alloc (.cells #[.int .i64 N, v] 24)) 22 u).alloc (.cells #[m] 22)).alloc (.cells #[.int .i64 0, .int .i64 0] 28)
    rw [World.size_alloc] at h
    exact h
  · have h := (Boxed.new ((w.alloc (.cells #[.int .i64 N, v] 24)).alloc (.cells #[u] 22)) 22 m).alloc (.cells #[.int .i64 0, .int .i64 0] 28)
    rw [World.size_alloc, World.size_alloc] at h
    exact h
  · have h := blk0 (w := ((w.alloc (.cells #[.int .i64 N, v] 24)).alloc (.cells #[u] 22)).alloc (.cells #[m] 22)) (T := 28) (.int .i64 0) (.int .i64 0)
    rw [World.size_alloc, World.size_alloc, World.size_alloc] at h
    exact h
theorem cell2 (w : World) (x y : Value) (T : TypeId) : (w.alloc (.cells #[x, y] T)).cell? ⟨w.heap.size, 0, none⟩ = some x ∧ (w.alloc (.cells #[x, y] T)).cell? ⟨w.heap.size, 1, none⟩ = some y := by
  obtain ⟨h1, h2, _, _⟩ := (blk0 (w := w) (T := T) x y).two
  exact ⟨h1, h2⟩
set_option maxRecDepth 100000 in
set_option maxHeartbeats 1000000 in
theorem dou_bad (N : Int) (v u m : Value) (zs l k : List Int) (w : World) (hv : Sl w v zs) (hu : Sl w u l) (hm : Sl w m k) (hT : Tab w) (hc : (wfault N zs [l, k]).1 ≠ 0) :
    Calls Tryd.prog 73 #[.agg #[.int .i64 N, v], u, m] w fun x w' => x = .returned (.tuple #[.slice none 0 0, .agg #[.int .i64 (wfault N zs [l, k]).1, .int .i64 (wfault N zs [l, k]).2]]) ∧ Below w.heap.size w w' := by
  obtain ⟨u1, u2, u3, rfl⟩ := hu.isSlice
  obtain ⟨m1, m2, m3, rfl⟩ := hm.isSlice
  obtain ⟨w0, BG⟩ := Beg4d.new w N v (.slice u1 u2 u3) (.slice m1 m2 m3)
  have hu0 := (hu.below BG.bel).alloc (.cells #[.slice u1 u2 u3, .slice m1 m2 m3] 22)
  have hm0 := (hm.below BG.bel).alloc (.cells #[.slice u1 u2 u3, .slice m1 m2 m3] 22)
  have hv0 := (hv.below BG.bel).alloc (.cells #[.slice u1 u2 u3, .slice m1 m2 m3] 22)
  have hT0 := (hT.below BG.bel).below (balloc w0 (.cells #[.slice u1 u2 u3, .slice m1 m2 m3] 22))
  have HW := hide (wrong_ok N v zs w0.heap.size 2 [l, k] (w0.alloc (.cells #[.slice u1 u2 u3, .slice m1 m2 m3] 22)) hv0 hT0 (by simp) (fun t ht => by
    by_cases h9 : t = 0
    · subst h9
      exact ⟨_, (cell2 _ _ _ _).1, hu0⟩
    · have h8 : t = 1 := by simp at ht; omega
      subst h8
      exact ⟨_, (cell2 _ _ _ _).2, hm0⟩))
  have hs0 : w0.heap.size = w.heap.size + 1 + 1 + 1 + 1 := by rw [BG.eq]; simp
  rw [hs0, show [l, k].length = 2 from rfl] at HW
  obtain ⟨c0, c1, _, _⟩ := BG.box.two
  have c2 := BG.lis.cell
  have c3 := BG.lim.cell
  rw [BG.eq] at c0 c1 c2 c3
  obtain ⟨c, i, hci⟩ : ∃ c i, wfault N zs [l, k] = (c, i) := ⟨_, _, rfl⟩
  rw [hci] at HW hc ⊢
  simp only at HW hc ⊢
  clear hci
  have hcb : (c != 0) = true := by simpa using hc
  go_enter Tryd.func73, Tryd.ntmps73
  go_wp2_with fail
  rw [← BG.eq]
  clear c0 c1 c2 c3
  refine HW.out.mono ?_
  rintro x w1 ⟨rfl, hb1⟩
  have hb1 := bcat2 (balloc w0 (.cells #[.slice u1 u2 u3, .slice m1 m2 m3] 22)) hb1
  have hb2 := bcat2 hb1 (balloc w1 (.cells #[.int .i64 c, .int .i64 i] 28))
  have hF2 := blk0 (w := w1) (T := 28) (.int .i64 c) (.int .i64 i)
  have hBw := bcat BG.bel hb2 BG.bel.size
  have hR2 := blk_below BG.res hb2
  obtain ⟨t0, t1, _, _⟩ := hF2.two
  obtain ⟨y0, y1, fy0, fy1⟩ := hR2.two
  obtain ⟨hR6, hB6⟩ := put2 hR2 hBw (by omega) c i
  go_wp2_with fail
  go_region
  all_goals (
    go_wp2
    obtain ⟨z0, z1, _, _⟩ := hR6.two
    exact bodyPost_ret (v := .tuple #[.slice none 0 0, .agg #[.int .i64 c, .int .i64 i]]) (by simp [results, Tryd.results73, go_sem, z0, z1]) rfl ⟨rfl, bdrew hB6⟩)
set_option maxRecDepth 100000 in
set_option maxHeartbeats 1000000 in
theorem dou_good (n e : Nat) (v u m : Value) (zs l k : List Int) (w : World) (hv : Sl w v zs) (hg : IsGrp n zs e) (hu : Sl w u l) (hm : Sl w m k) (hT : Tab w) (hl : lfault n l = (0, 0)) (hsb : subT n zs e (pset l) = true) (hk : lfault n k = (0, 0)) (hsk : subT n zs e (pset k) = true) :
    Calls Tryd.prog 73 #[.agg #[.int .i64 n, v], u, m] w fun x w' => ∃ r vs, x = .returned (.tuple #[r, .agg #[.int .i64 0, .int .i64 0]]) ∧ w'.ownsRow w.heap.size 22 1 r vs.length vs ∧ Lsts w' w.heap.size r vs (csl n (dblq n zs (lst n (pset l)) (lst n (pset k))) n) ∧ Below w.heap.size w w' := by
  obtain ⟨u1, u2, u3, rfl⟩ := hu.isSlice
  obtain ⟨m1, m2, m3, rfl⟩ := hm.isSlice
  obtain ⟨w0, BG⟩ := Beg4d.new w n v (.slice u1 u2 u3) (.slice m1 m2 m3)
  have hu0 := (hu.below BG.bel).alloc (.cells #[.slice u1 u2 u3, .slice m1 m2 m3] 22)
  have hm0 := (hm.below BG.bel).alloc (.cells #[.slice u1 u2 u3, .slice m1 m2 m3] 22)
  have hv0 := (hv.below BG.bel).alloc (.cells #[.slice u1 u2 u3, .slice m1 m2 m3] 22)
  have hT0 := (hT.below BG.bel).below (balloc w0 (.cells #[.slice u1 u2 u3, .slice m1 m2 m3] 22))
  have HW := hide (wrong_ok n v zs w0.heap.size 2 [l, k] (w0.alloc (.cells #[.slice u1 u2 u3, .slice m1 m2 m3] 22)) hv0 hT0 (by simp) (fun t ht => by
    by_cases h9 : t = 0
    · subst h9
      exact ⟨_, (cell2 _ _ _ _).1, hu0⟩
    · have h8 : t = 1 := by simp at ht; omega
      subst h8
      exact ⟨_, (cell2 _ _ _ _).2, hm0⟩))
  have hs0 : w0.heap.size = w.heap.size + 1 + 1 + 1 + 1 := by rw [BG.eq]; simp
  rw [hs0, show [l, k].length = 2 from rfl] at HW
  obtain ⟨c0, c1, _, _⟩ := BG.box.two
  have c2 := BG.lis.cell
  have c3 := BG.lim.cell
  rw [BG.eq] at c0 c1 c2 c3
  have hw00 : wfault n zs [l, k] = (0, 0) := by
    have h1 : ufault n zs l = (0, 0) := by rw [ufault_u hg hl, if_pos hsb]
    have h2 : ufault n zs k = (0, 0) := by rw [ufault_u hg hk, if_pos hsk]
    simp [wfault, h1, h2]
  rw [hw00] at HW
  simp only at HW
  have hli := set_lst (show (lfault n l).1 = 0 by rw [hl])
  have hu9 : Sl w (.slice u1 u2 u3) (li (lst n (pset l))) := by rw [← hli]; exact hu
  have hxm : ∀ x, x ∈ lst n (pset l) → x < n := fun x hx => (mem_lst.1 hx).1
  have hlk := set_lst (show (lfault n k).1 = 0 by rw [hk])
  have hm9 : Sl w (.slice m1 m2 m3) (li (lst n (pset k))) := by rw [← hlk]; exact hm
  have hym : ∀ x, x ∈ lst n (pset k) → x < n := fun x hx => (mem_lst.1 hx).1
  go_enter Tryd.func73, Tryd.ntmps73
  go_wp2_with fail
  rw [← BG.eq]
  clear c0 c1 c2 c3
  refine HW.out.mono ?_
  rintro x w1 ⟨rfl, hb1⟩
  have hb1 := bcat2 (balloc w0 (.cells #[.slice u1 u2 u3, .slice m1 m2 m3] 22)) hb1
  have hb2 := bcat2 hb1 (balloc w1 (.cells #[.int .i64 0, .int .i64 0] 28))
  have hF2 := blk0 (w := w1) (T := 28) (.int .i64 0) (.int .i64 0)
  have hBw := bcat BG.bel hb2 BG.bel.size
  have hX2 := blk_below BG.box hb2
  have hL2 := Boxed.below BG.lis hb2
  have hM2 := Boxed.below BG.lim hb2
  have hR2 := blk_below BG.res hb2
  obtain ⟨t0, t1, _, _⟩ := hF2.two
  obtain ⟨c0, c1, _, _⟩ := hX2.two
  go_wp2_with fail
  generalize w1.alloc (.cells #[.int .i64 0, .int .i64 0] 28) = w2 at *
  clear t0 t1 c0 c1
  refine (parts_ok n 109 #[.pointer (some ⟨w.heap.size, 0, none⟩), .pointer (some ⟨w.heap.size + 1, 0, none⟩), .pointer (some ⟨w.heap.size + 1 + 1, 0, none⟩)] (dblq n zs (lst n (pset l)) (lst n (pset k))) w2 hg.tab.le (hT.below hBw) (fun a W => ent109 a _ _ _ W) (fun W a hW ha => dbl1_ok n v (.slice u1 u2 u3) (.slice m1 m2 m3) zs (lst n (pset l)) (lst n (pset k)) a w.heap.size (w.heap.size + 1) (w.heap.size + 1 + 1) W hg.tab ((hv.below hBw).below hW) ((hu9.below hBw).below hW) ((hm9.below hBw).below hW) hxm hym ha (blk_below hX2 hW) (Boxed.below hL2 hW) (Boxed.below hM2 hW))).mono ?_
  rintro x w3 ⟨r, vs, D, rfl, hrow, hls, _, _, hb3⟩
  obtain ⟨ra, rcap, rfl⟩ := own_slice' hrow
  have hlt2 := hR2.lt
  have hB3 := bcat2 hBw hb3
  have hR3 := blk_below hR2 hb3
  obtain ⟨y0, y1, fy0, fy1⟩ := hR3.two
  obtain ⟨hR6, hB6⟩ := put2 hR3 hB3 (by omega) 0 0
  have hk6 : ∀ g, w2.heap.size + 1 ≤ g → g < w3.heap.size → ((w3.setCell ⟨w.heap.size + 1 + 1 + 1, 0, none⟩ (.int .i64 0)).setCell ⟨w.heap.size + 1 + 1 + 1, 1, none⟩ (.int .i64 0)).heap[g]? = w3.heap[g]? := fun g h1 _ => (Below.heap_setCell _ _ _ g (by simp; omega)).trans (Below.heap_setCell _ _ _ g (by simp; omega))
  have hrow6 := own_keep' hrow hk6
  have hls6 := hls.keep (by rw [size_set, size_set]; exact Nat.le_refl _) (fun g h1 h2 _ => hk6 g h1 h2) (.inl rfl)
  have hsz : w.heap.size ≤ w2.heap.size + 1 := by have := hBw.size; omega
  have hrow7 := owns_mono hrow6 hsz
  have hls7 := hls6.mono hsz
  clear hrow hls hrow6 hls6 hk6
  go_wp2
  generalize (w3.setCell ⟨w.heap.size + 1 + 1 + 1, 0, none⟩ (.int .i64 0)).setCell ⟨w.heap.size + 1 + 1 + 1, 1, none⟩ (.int .i64 0) = W at hR6 hB6 hrow7 hls7 ⊢
  obtain ⟨z0, z1, _, _⟩ := hR6.two
  exact bodyPost_ret (v := .tuple #[.slice ra vs.length rcap, .agg #[.int .i64 0, .int .i64 0]]) (by simp [results, Tryd.results73, go_sem, z0, z1]) rfl ⟨_, vs, rfl, hrow7, hls7, hB6⟩
end Go.Proofs.YtoiemlnmcfmakaaDoor

namespace Go.Proofs.YtoiemlnmcfmakaaDoor
open Go Go.RowKit

section
variable {n e : Nat} {zs : List Int} {p q : Nat → Bool}
theorem mem_dbl {xs ys : List Nat} {a y : Nat} : dblq n zs xs ys a y = true ↔ ∃ x z, x ∈ xs ∧ z ∈ ys ∧ tm n zs (tm n zs x a) z = y := by
  unfold dblq
  simp only [List.any_eq_true, mem_lft]
  exact ⟨fun ⟨x, hx, z, hz, h⟩ => ⟨x, z, hx, hz, h⟩, fun ⟨x, z, hx, hz, h⟩ => ⟨x, hx, z, hz, h⟩⟩
theorem dbl_parts (g : IsGrp n zs e) (hp : subT n zs e p = true) (hq : subT n zs e q = true) : Prts n (dblq n zs (lst n p) (lst n q)) where
  refl := fun a ha => mem_dbl.2 ⟨e, e, mem_lst.2 ⟨g.elt, (subT_iff.1 hp).one⟩, mem_lst.2 ⟨g.elt, (subT_iff.1 hq).one⟩, by rw [g.left a ha, g.right a ha]⟩
  same := fun a b ha hb hab c hc => by
    obtain ⟨x, z, hx, hz, rfl⟩ := mem_dbl.1 hab
    obtain ⟨hxn, hpx⟩ := mem_lst.1 hx
    obtain ⟨hzn, hqz⟩ := mem_lst.1 hz
    obtain ⟨x1, x2⟩ := sub_iv g hp hxn hpx
    obtain ⟨z1, z2⟩ := sub_iv g hq hzn hqz
    obtain ⟨_, _, x4, _⟩ := iv_spec g hxn
    obtain ⟨_, z3, _, _⟩ := iv_spec g hzn
    have hxa := tm_lt g.tab hxn ha
    rw [Bool.eq_iff_iff, mem_dbl, mem_dbl]
    constructor
    · rintro ⟨y, t, hy, ht, rfl⟩
      obtain ⟨hyn, hpy⟩ := mem_lst.1 hy
      obtain ⟨htn, hqt⟩ := mem_lst.1 ht
      refine ⟨tm n zs y (iv n zs e x), tm n zs (iv n zs e z) t, mem_lst.2 ⟨tm_lt g.tab hyn x1, sub_mul hp hyn x1 hpy x2⟩, mem_lst.2 ⟨tm_lt g.tab z1 htn, sub_mul hq z1 htn z2 hqt⟩, ?_⟩
      rw [g.ass y _ _ hyn x1 hb, ← g.ass _ _ z x1 hxa hzn, ← g.ass _ x a x1 hxn ha, x4, g.left a ha, ← g.ass y a z hyn ha hzn]
      have hya := tm_lt g.tab hyn ha
      rw [g.ass _ z _ hya hzn (tm_lt g.tab z1 htn), ← g.ass z _ t hzn z1 htn, z3, g.left t htn]
    · rintro ⟨y, t, hy, ht, rfl⟩
      obtain ⟨hyn, hpy⟩ := mem_lst.1 hy
      obtain ⟨htn, hqt⟩ := mem_lst.1 ht
      refine ⟨tm n zs y x, tm n zs z t, mem_lst.2 ⟨tm_lt g.tab hyn hxn, sub_mul hp hyn hxn hpy hpx⟩, mem_lst.2 ⟨tm_lt g.tab hzn htn, sub_mul hq hzn htn hqz hqt⟩, ?_⟩
      have hyxa := tm_lt g.tab hyn hxa
      rw [g.ass y x a hyn hxn ha, ← g.ass _ z t hyxa hzn htn, g.ass y _ z hyn hxa hzn]
theorem dbl_iff (g : IsGrp n zs e) {xs : List Nat} (hx : ∀ x, x ∈ xs → x < n) {a b : Nat} (ha : a < n) (hb : b < n) : dblq n zs xs (lst n q) a b = xs.any fun x => decide (tm n zs (iv n zs e (tm n zs x a)) b ∈ lst n q) := by
  unfold dblq
  rw [Bool.eq_iff_iff, List.any_eq_true, List.any_eq_true]
  exact ⟨fun ⟨x, h1, h2⟩ => ⟨x, h1, by rw [← lft_iff g (tm_lt g.tab (hx x h1) ha) hb]; exact h2⟩, fun ⟨x, h1, h2⟩ => ⟨x, h1, by rw [lft_iff g (tm_lt g.tab (hx x h1) ha) hb]; exact h2⟩⟩
theorem mem_cjl {xs : List Nat} {a y : Nat} : cjl n zs e xs a y = true ↔ ∃ x, x ∈ xs ∧ Fin.cj (tm n zs) (iv n zs e) x a = y := by
  unfold cjl; simp only [List.any_eq_true, decide_eq_true_eq]
/-- FROBENIUS: how many things a double coset has. -/
theorem dbl_size (g : IsGrp n zs e) (hp : subT n zs e p = true) (hq : subT n zs e q = true) {a : Nat} (ha : a < n) :
    (lst n (dblq n zs (lst n p) (lst n q) a)).length * (lst n (fun y => cjl n zs e (lst n p) a y && q y)).length = (lst n p).length * (lst n q).length := by
  have F := grp_fg g
  have V := grp_iv g
  have ham := List.mem_range.2 ha
  obtain ⟨a1, a2, a3, _⟩ := iv_spec g ha
  have S : Fin.Sg (List.range n) (tm n zs) e (fun y => cjl n zs e (lst n p) a y = true) := ⟨mem_cjl.2 ⟨e, mem_lst.2 ⟨g.elt, (subT_iff.1 hp).one⟩, Fin.cj_one F V ham⟩, fun x y hx hy h1 h2 => by
    obtain ⟨x', hx', rfl⟩ := mem_cjl.1 h1
    obtain ⟨y', hy', rfl⟩ := mem_cjl.1 h2
    obtain ⟨hxn, hpx⟩ := mem_lst.1 hx'
    obtain ⟨hyn, hpy⟩ := mem_lst.1 hy'
    exact mem_cjl.2 ⟨tm n zs x' y', mem_lst.2 ⟨tm_lt g.tab hxn hyn, sub_mul hp hxn hyn hpx hpy⟩, Fin.cj_mul F V (List.mem_range.2 hxn) (List.mem_range.2 hyn) ham⟩⟩
  have key := Fin.prod_formula F (N := n) (fun x hx => List.mem_range.1 hx) S (subT_iff.1 hq) (fun y => dblq n zs (lst n p) (lst n q) a (tm n zs a y)) (fun y hy => by
    have hyn := List.mem_range.1 hy
    rw [mem_dbl]
    constructor
    · rintro ⟨x, z, hx, hz, h⟩
      obtain ⟨hxn, hpx⟩ := mem_lst.1 hx
      obtain ⟨hzn, hqz⟩ := mem_lst.1 hz
      have hc := Fin.cj_mem F V (List.mem_range.2 hxn) ham
      refine ⟨_, z, hc, List.mem_range.2 hzn, mem_cjl.2 ⟨x, hx, rfl⟩, hqz, ?_⟩
      refine F.can ham (F.cl _ _ hc (List.mem_range.2 hzn)) hy ?_
      rw [← F.ass _ _ _ ham hc (List.mem_range.2 hzn), Fin.cj_eq F V (List.mem_range.2 hxn) ham]
      exact h
    · rintro ⟨u, z, hu, hz, h1, h2, h3⟩
      obtain ⟨x, hx, rfl⟩ := mem_cjl.1 h1
      obtain ⟨hxn, hpx⟩ := mem_lst.1 hx
      refine ⟨x, z, hx, mem_lst.2 ⟨List.mem_range.1 hz, h2⟩, ?_⟩
      rw [← h3, ← F.ass _ _ _ ham hu hz, Fin.cj_eq F V (List.mem_range.2 hxn) ham])
  have h1 : ((List.range n).filter fun y => dblq n zs (lst n p) (lst n q) a (tm n zs a y)).length = (lst n (dblq n zs (lst n p) (lst n q) a)).length := by
    refine Fin.bij_len (fun y => tm n zs a y) (List.nodup_range.sublist List.filter_sublist) (List.nodup_range.sublist List.filter_sublist) (fun x hx => ?_) (fun x y hx hy h => ?_) (fun y hy => ?_)
    · obtain ⟨h1, h2⟩ := List.mem_filter.1 hx
      exact mem_lst.2 ⟨tm_lt g.tab ha (List.mem_range.1 h1), h2⟩
    · exact F.can ham (List.mem_filter.1 hx).1 (List.mem_filter.1 hy).1 h
    · obtain ⟨h1, h2⟩ := mem_lst.1 hy
      have h3 : tm n zs a (tm n zs (iv n zs e a) y) = y := by rw [← g.ass a _ y ha a1 h1, a2, g.left y h1]
      exact ⟨tm n zs (iv n zs e a) y, List.mem_filter.2 ⟨List.mem_range.2 (tm_lt g.tab a1 h1), by rw [h3]; exact h2⟩, h3⟩
  have h2 : ((List.range n).filter fun y => cjl n zs e (lst n p) a y).length = (lst n p).length := by
    symm
    refine Fin.bij_len (fun x => Fin.cj (tm n zs) (iv n zs e) x a) (List.nodup_range.sublist List.filter_sublist) (List.nodup_range.sublist List.filter_sublist) (fun x hx => ?_) (fun x y hx hy h => ?_) (fun y hy => ?_)
    · exact List.mem_filter.2 ⟨Fin.cj_mem F V (List.mem_range.2 (mem_lst.1 hx).1) ham, mem_cjl.2 ⟨x, hx, rfl⟩⟩
    · have hx1 := (Fin.cj_back F V (List.mem_range.2 (mem_lst.1 hx).1) ham).1
      have hy1 := (Fin.cj_back F V (List.mem_range.2 (mem_lst.1 hy).1) ham).1
      have h9 : Fin.cj (tm n zs) (iv n zs e) x a = Fin.cj (tm n zs) (iv n zs e) y a := h
      rw [h9] at hx1
      exact hx1.symm.trans hy1
    · obtain ⟨x, hx, he⟩ := mem_cjl.1 (List.mem_filter.1 hy).2
      exact ⟨x, hx, he⟩
  rw [h1, h2] at key
  exact key
theorem both_len (r q : Nat → Bool) : ((li (lst n r)).filter fun a => decide (a ∈ li (lst n q))).length = (lst n (fun y => r y && q y)).length := by
  unfold li
  rw [List.filter_map, List.length_map]
  unfold lst
  rw [List.filter_filter]
  congr 1
  refine List.filter_congr fun x hx => ?_
  have h9 : decide ((x : Int) ∈ (lst n q).map fun (y : Nat) => (y : Int)) = q x := by
    rw [Bool.eq_iff_iff, decide_eq_true_eq]
    exact ⟨fun h => (mem_lst.1 (mem_li.1 h)).2, fun h => mem_li.2 (mem_lst.2 ⟨List.mem_range.1 hx, h⟩)⟩
  have h8 : ((fun a => decide (a ∈ (lst n q).map fun (y : Nat) => (y : Int))) ∘ fun (y : Nat) => (y : Int)) x = q x := h9
  rw [Bool.and_comm]
  exact congrArg _ h8
end
end Go.Proofs.YtoiemlnmcfmakaaDoor

namespace Go.Proofs.YtoiemlnmcfmakaaDoor
open Go Go.RowKit

theorem ent111 (a b : Int) (x y z : Value) (W : World) : Sem.run Tryd.prog (callFunc 111 (#[.int .i64 a, .int .i64 b] ++ #[x, y, z])) W = .ok (.enter 111 (#[.int .i64 a, .int .i64 b] ++ #[x, y, z])) W := by kernel_rfl
theorem ent75 (x y z : Value) (W : World) : Sem.run Tryd.prog (callFunc 75 #[x, y, z]) W = .ok (.enter 75 #[x, y, z]) W := by kernel_rfl
set_option maxRecDepth 100000 in
set_option maxHeartbeats 8000000 in
theorem dts_ok (n e a b gb lb mb : Nat) (v lv mv : Value) (zs : List Int) (xs ys : List Nat) (w : World) (g : IsGrp n zs e) (hv : Sl w v zs) (ha : a < n) (hb : b < n) (hX : BoxG w gb n v) (hL : Boxed w lb 22 lv) (hK : Boxed w mb 22 mv) (hsL : Sl w lv (li xs)) (hsM : Sl w mv (li ys)) (hx : ∀ x, x ∈ xs → x < n) :
    Calls Tryd.prog 111 (#[.int .i64 a, .int .i64 b] ++ #[.pointer (some ⟨lb, 0, none⟩), .pointer (some ⟨mb, 0, none⟩), .pointer (some ⟨gb, 0, none⟩)]) w fun z w' => z = .returned (.bool (xs.any fun x => decide (tm n zs (iv n zs e (tm n zs x a)) b ∈ ys))) ∧ Below w.heap.size w w' := by
  show Calls Tryd.prog 111 #[.int .i64 a, .int .i64 b, .pointer (some ⟨lb, 0, none⟩), .pointer (some ⟨mb, 0, none⟩), .pointer (some ⟨gb, 0, none⟩)] w _
  obtain ⟨m1, m2, m3, rfl⟩ := hsM.isSlice
  obtain ⟨la, lc, pb, po, rfl, hr, hp, hq3, hq4⟩ := hsL
  have hml : xs.length ≤ 9223372036854775807 := by rw [li_len] at hq3; unfold maxLen at hq4; omega
  rw [li_len] at *
  have HX := hide hx
  have HR := hide hr
  have HLL := hide (li_len xs)
  clear hq3 hq4 hx hr
  have cL := hL.cell
  go_enter Tryd.func111, Tryd.ntmps111
  go_wp2
  go_loopw [8] (fun i wr => ∃ k : Nat, k ≤ xs.length ∧ i = .int .i64 k ∧ (∀ t, (ht : t < xs.length) → t < k → ¬ tm n zs (iv n zs e (tm n zs xs[t] a)) b ∈ ys) ∧ Below w.heap.size w wr) (fun i _ => xs.length - (intOf i).toNat)
  case atStart => exact ⟨0, Nat.zero_le _, rfl, fun t _ ht => by omega, Below.refl _ _⟩
  case round =>
    obtain ⟨k, hk, rfl, hno, hB⟩ := hrel
    have HNO := hide hno
    clear hno
    have cL := below_cell hB cL
    by_cases hlt : k < xs.length
    · have hck := (HR.out.below hB hp).cell k (by rw [HLL.out]; exact hlt)
      rw [li_get hlt] at hck
      obtain rfl := HR.out.at_ (by rw [HLL.out]; omega)
      obtain ⟨x, hxe⟩ : ∃ x, xs[k] = x := ⟨_, rfl⟩
      have hxn : x < n := by rw [← hxe]; exact HX.out _ (List.getElem_mem hlt)
      rw [hxe] at hck
      have HXE := hide hxe
      clear hxe
      have hki : (k : Int) < (xs.length : Int) := by omega
      have hct := tm_lt g.tab hxn ha
      obtain ⟨hic, _, _, _⟩ := iv_spec g hct
      have HI := hide (fun W (h : Below wr.heap.size wr W) => Iiv_ok n (tm n zs x a) e v zs W g ((hv.below hB).below h) hct)
      have HM := hide (fun W y z (h : Below wr.heap.size wr W) (hy : y < n) (hz : z < n) => M_ok n v zs y z W g.tab ((hv.below hB).below h) hy hz)
      have HH := hide (fun W (h : Below wr.heap.size wr W) => has_sl (.slice m1 m2 m3) ys (tm n zs (iv n zs e (tm n zs x a)) b) W ((hsM.below hB).below h))
      obtain ⟨g0, g1, _, _⟩ := (blk_below hX hB).two
      have c3 := (Boxed.below hK hB).cell
      have hS : ∀ W, Below wr.heap.size wr W → (Below wr.heap.size wr W ∧ W.cell? ⟨gb, 0, none⟩ = some (.int .i64 n) ∧ W.cell? ⟨gb, 1, none⟩ = some v ∧ W.cell? ⟨lb, 0, none⟩ = some (.slice (some ⟨pb, po, none⟩) xs.length lc) ∧ W.cell? ⟨mb, 0, none⟩ = some (.slice m1 m2 m3) ∧ W.cell? ⟨pb, po + k, none⟩ = some (.int .i64 x)) := fun W h => ⟨h, below_cell h g0, below_cell h g1, below_cell h cL, below_cell h c3, below_cell h hck⟩
      have hS0 := hS _ (bdrew (Below.refl _ wr))
      clear g0 g1 c3 hck
      by_cases hin : tm n zs (iv n zs e (tm n zs x a)) b ∈ ys
      · have HD := hide (show (xs.any fun x => decide (tm n zs (iv n zs e (tm n zs x a)) b ∈ ys)) = true by
          rw [List.any_eq_true]
          exact ⟨xs[k], List.getElem_mem hlt, by rw [HXE.out]; simpa using hin⟩)
        rw [decide_eq_true hin] at HH
        go_wp2_with fail
        go_region_held3 (fun W => Below wr.heap.size wr W ∧ W.cell? ⟨gb, 0, none⟩ = some (.int .i64 n) ∧ W.cell? ⟨gb, 1, none⟩ = some v ∧ W.cell? ⟨lb, 0, none⟩ = some (.slice (some ⟨pb, po, none⟩) xs.length lc) ∧ W.cell? ⟨mb, 0, none⟩ = some (.slice m1 m2 m3) ∧ W.cell? ⟨pb, po + k, none⟩ = some (.int .i64 x))
          (first | exact hS0 | assumption | exact hS _ (bcat2 (And.left ‹_›) hl1))
          (first
            | (go_at_call 58; refine (HI.out _ (And.left ‹_›)).mono ?_; rintro e1 U1 ⟨rfl, hl1⟩)
            | (go_at_call 31; refine (HM.out _ _ _ (And.left ‹_›) (by assumption) (by assumption)).mono ?_; rintro e2 U2 ⟨rfl, hl1⟩)
            | (go_at_call 53; refine (HH.out _ (And.left ‹_›)).mono ?_; rintro e3 U3 ⟨rfl, hl1⟩))
        all_goals (
          have hB9 := And.left ‹Below wr.heap.size wr U3 ∧ _›
          go_wp2
          go_ret
          exact ⟨by rw [HD.out]; rfl, bcat2 hB hB9⟩)
      · rw [decide_eq_false hin] at HH
        go_wp2_with fail
        go_region_held3 (fun W => Below wr.heap.size wr W ∧ W.cell? ⟨gb, 0, none⟩ = some (.int .i64 n) ∧ W.cell? ⟨gb, 1, none⟩ = some v ∧ W.cell? ⟨lb, 0, none⟩ = some (.slice (some ⟨pb, po, none⟩) xs.length lc) ∧ W.cell? ⟨mb, 0, none⟩ = some (.slice m1 m2 m3) ∧ W.cell? ⟨pb, po + k, none⟩ = some (.int .i64 x))
          (first | exact hS0 | assumption | exact hS _ (bcat2 (And.left ‹_›) hl1))
          (first
            | (go_at_call 58; refine (HI.out _ (And.left ‹_›)).mono ?_; rintro e1 U1 ⟨rfl, hl1⟩)
            | (go_at_call 31; refine (HM.out _ _ _ (And.left ‹_›) (by assumption) (by assumption)).mono ?_; rintro e2 U2 ⟨rfl, hl1⟩)
            | (go_at_call 53; refine (HH.out _ (And.left ‹_›)).mono ?_; rintro e3 U3 ⟨rfl, hl1⟩))
        all_goals (
          have hB9 := And.left ‹Below wr.heap.size wr U3 ∧ _›
          go_wp2
          go_roundw
          case rel => exact ⟨k + 1, by omega, by go_num, fun t h1 h2 => by
            by_cases e9 : t = k
            · subst e9; rw [HXE.out]; exact hin
            · exact HNO.out t h1 (by omega), bcat2 hB hB9⟩
          case measure => simp [intOf]; omega)
    · have hki : ¬ (k : Int) < (xs.length : Int) := by omega
      have HD := hide (show (xs.any fun x => decide (tm n zs (iv n zs e (tm n zs x a)) b ∈ ys)) = false by
        rw [List.any_eq_false]
        intro z hz
        obtain ⟨t, ht, rfl⟩ := List.mem_iff_getElem.1 hz
        simpa using HNO.out t ht (by omega))
      go_wp2
      go_ret
      exact ⟨by rw [HD.out]; rfl, hB⟩
/-- The document's double cosets. -/
def dtq (n : Nat) (zs : List Int) (e : Nat) (xs ys : List Nat) (a b : Nat) : Bool := xs.any fun x => decide (tm n zs (iv n zs e (tm n zs x a)) b ∈ ys)
set_option maxRecDepth 100000 in
set_option maxHeartbeats 2000000 in
theorem dof_ok (n e : Nat) (v lv mv : Value) (zs : List Int) (xs ys : List Nat) (w : World) (g : IsGrp n zs e) (hv : Sl w v zs) (hs : Sl w lv (li xs)) (hm : Sl w mv (li ys)) (hx : ∀ x, x ∈ xs → x < n) :
    Calls Tryd.prog 76 #[.agg #[.int .i64 n, v], lv, mv] w fun x w' => ∃ r, x = .returned r ∧ SlL w' r (rcs n (dtq n zs e xs ys) n) ∧ Below w.heap.size w w' := by
  obtain ⟨l1, l2, l3, rfl⟩ := hs.isSlice
  obtain ⟨m1, m2, m3, rfl⟩ := hm.isSlice
  obtain ⟨W0, hW0⟩ : ∃ W0, W0 = ((w.alloc (.cells #[.int .i64 n, v] 24)).alloc (.cells #[.slice l1 l2 l3] 22)).alloc (.cells #[.slice m1 m2 m3] 22) := ⟨_, rfl⟩
  have hX0 : BoxG W0 w.heap.size n v := by rw [hW0]; exact ((blk0 (w := w) (T := 24) _ _).alloc _).alloc _
  have hF0 : Boxed W0 (w.heap.size + 1) 22 (.slice l1 l2 l3) := by
    have h := (Boxed.new (w.alloc (.cells #[.int .i64 n, v] 24)) 22 (.slice l1 l2 l3)).alloc (.cells #[.slice m1 m2 m3] 22)
    rw [World.size_alloc, ← hW0] at h
    exact h
  have hM0 : Boxed W0 (w.heap.size + 1 + 1) 22 (.slice m1 m2 m3) := by
    have h := Boxed.new ((w.alloc (.cells #[.int .i64 n, v] 24)).alloc (.cells #[.slice l1 l2 l3] 22)) 22 (.slice m1 m2 m3)
    rw [World.size_alloc, World.size_alloc, ← hW0] at h
    exact h
  have hb0 : Below w.heap.size w W0 := by rw [hW0]; exact ((balloc w _).alloc (by simp) _).alloc (by simp; omega) _
  have HC := hide (cosets_ok n 111 v #[.pointer (some ⟨w.heap.size + 1, 0, none⟩), .pointer (some ⟨w.heap.size + 1 + 1, 0, none⟩), .pointer (some ⟨w.heap.size, 0, none⟩)] (dtq n zs e xs ys) W0 g.tab.le (fun a b W => ent111 a b _ _ _ W) (fun W a b hW ha hb => dts_ok n e a b w.heap.size (w.heap.size + 1) (w.heap.size + 1 + 1) v (.slice l1 l2 l3) (.slice m1 m2 m3) zs xs ys W g ((hv.below hb0).below hW) ha hb (blk_below hX0 hW) (Boxed.below hF0 hW) (Boxed.below hM0 hW) ((hs.below hb0).below hW) ((hm.below hb0).below hW) hx))
  have h9 : 0 < W0.heap.size := Nat.lt_of_le_of_lt (Nat.zero_le _) hX0.lt
  obtain ⟨c0, c1, _, _⟩ := hX0.two
  rw [hW0] at c0 c1
  go_enter Tryd.func76, Tryd.ntmps76
  go_wp2_with fail
  rw [← hW0]
  clear c0 c1
  refine HC.out.mono ?_
  rintro x w1 ⟨r, vs, rfl, hrow, hls, hb1⟩
  have hR := SlL.of_own hrow hls (Nat.lt_of_lt_of_le h9 hb1.size)
  obtain ⟨r1, r2, r3, rfl⟩ := hR.isSlice
  clear hrow hls
  go_wp2
  go_ret
  exact ⟨_, rfl, hR, bcat2 hb0 hb1⟩
set_option maxRecDepth 100000 in
set_option maxHeartbeats 2000000 in
theorem cl75_ok (n e gb lb mb : Nat) (v lv mv : Value) (zs : List Int) (xs ys : List Nat) (w : World) (g : IsGrp n zs e) (hv : Sl w v zs) (hs : Sl w lv (li xs)) (hm : Sl w mv (li ys)) (hx : ∀ x, x ∈ xs → x < n) (hX : BoxG w gb n v) (hL : Boxed w lb 22 lv) (hM : Boxed w mb 22 mv) :
    Calls Tryd.prog 75 #[.pointer (some ⟨gb, 0, none⟩), .pointer (some ⟨lb, 0, none⟩), .pointer (some ⟨mb, 0, none⟩)] w fun x w' => ∃ r, x = .returned r ∧ SlL w' r (rcs n (dtq n zs e xs ys) n) ∧ Below w.heap.size w w' := by
  obtain ⟨c0, c1, _, _⟩ := hX.two
  have c2 := hL.cell
  have c3 := hM.cell
  have HC := hide (dof_ok n e v lv mv zs xs ys w g hv hs hm hx)
  go_enter Tryd.func75, Tryd.ntmps75
  go_wp2_with fail
  refine HC.out.mono ?_
  rintro x w1 ⟨r, rfl, hR, hb1⟩
  obtain ⟨r1, r2, r3, rfl⟩ := hR.isSlice
  go_wp2
  go_ret
  exact ⟨_, rfl, hR, hb1⟩
set_option maxRecDepth 100000 in
theorem rf_ok (c i : Int) (w : World) : Calls Tryd.prog 74 #[.int .i64 c, .int .i64 i] w fun x w' => x = .returned (.agg #[.int .i64 c, .int .i64 i]) ∧ Below w.heap.size w w' := by
  obtain ⟨z0, z1, _, _⟩ := (blk0 (w := w) (T := 28) (.int .i64 c) (.int .i64 i)).two
  go_enter Tryd.func74, Tryd.ntmps74
  go_wp2
  exact bodyPost_ret (v := .agg #[.int .i64 c, .int .i64 i]) (by simp [results, Tryd.results74, go_sem, z0, z1]) rfl ⟨rfl, balloc w _⟩
end Go.Proofs.YtoiemlnmcfmakaaDoor

namespace Go.Proofs.YtoiemlnmcfmakaaDoor
open Go Go.RowKit

/-- Lists that are new since B: they read so, whatever lies ahead of B. -/
def FrsL (B : Nat) (W : World) (v : Value) (rs : List (List Int)) : Prop := 0 < W.heap.size ∧ ∀ W' : World, (∀ g, B ≤ g → g < W.heap.size → W'.heap[g]? = W.heap[g]?) → W.heap.size ≤ W'.heap.size → SlL W' v rs
theorem FrsL.sl {B : Nat} {W : World} {v : Value} {rs : List (List Int)} (h : FrsL B W v rs) : SlL W v rs := h.2 W (fun _ _ _ => rfl) (Nat.le_refl _)
theorem FrsL.set {B b o : Nat} {W : World} {v y : Value} {rs : List (List Int)} (h : FrsL B W v rs) (hb : b < B) : FrsL B (W.setCell ⟨b, o, none⟩ y) v rs :=
  ⟨by rw [size_set]; exact h.1, fun W' hk hs => h.2 W' (fun g h1 h2 => (hk g h1 (by rw [size_set]; exact h2)).trans (Below.heap_setCell _ _ _ g (by simp; omega))) (by rw [size_set] at hs; exact hs)⟩
theorem FrsL.sl2 {B b o : Nat} {W : World} {v y : Value} {rs : List (List Int)} (h : FrsL B W v rs) (hb : b < B) : SlL (W.setCell ⟨b, o, none⟩ y) v rs := (h.set hb).sl
theorem FrsL.of_own {W : World} {B : Nat} {v : Value} {vs : List Value} {rs : List (List Int)} (h0 : 0 < W.heap.size) (h : W.ownsRow B 22 1 v vs.length vs) (hl : Lsts W B v vs rs) : FrsL B W v rs :=
  ⟨h0, fun _ hk hs => SlL.of_own (own_keep' h hk) (hl.keep hs (fun g h1 h2 _ => hk g h1 h2) (.inl rfl)) (Nat.lt_of_lt_of_le h0 hs)⟩
theorem nil_frsL {B : Nat} {W : World} (h0 : 0 < W.heap.size) : FrsL B W (.slice none 0 0) [] := ⟨h0, fun _ _ hs => ⟨none, 0, 0, 0, rfl, by simp, by simp, Nat.lt_of_lt_of_le h0 hs, by simp, by unfold maxLen; omega⟩⟩
/-- What a cut leaves: lists, and a fault in a box of its own. -/
def DbRel (w1 : World) (rs : List (List Int)) (c i : Int) (s6 s7 : Value) (W : World) : Prop := ∃ fb a l k, s6 = .slice a l k ∧ s7 = .pointer (some ⟨fb, 0, none⟩) ∧ Blk W fb 28 [.int .i64 c, .int .i64 i] ∧ SlL W (.slice a l k) rs ∧ Below w1.heap.size w1 W
set_option maxRecDepth 100000 in
set_option maxHeartbeats 40000000 in
theorem double_walk (N : Int) (v1 : Option Addr) (v2 v3 : Nat) (u1 : Option Addr) (u3 : Nat) (m1 : Option Addr) (m3 : Nat) (zs l k : List Int) (w : World) (hv : Sl w (.slice v1 v2 v3) zs) (hu : Sl w (.slice u1 l.length u3) l) (hm : Sl w (.slice m1 k.length m3) k) (hT : Tab w) (hz : zs.length * 8 ≤ 140737488355328) (hl8 : l.length * 8 ≤ 140737488355328) (hk8 : k.length * 8 ≤ 140737488355328)
    (c i c1 i1 c2 i2 : Int) (b : Bool) (rd : List (List Int)) (sh : List Int → List Int)
    (HD : Hid (∀ W x y z, Below w.heap.size w W → Sl W x zs → Sl W y l → Sl W z k → Calls Tryd.prog 73 #[.agg #[.int .i64 N, x], y, z] W fun x W' => ∃ r1 r2 r3, x = .returned (.tuple #[.slice r1 r2 r3, .agg #[.int .i64 c, .int .i64 i]]) ∧ FrsL W.heap.size W' (.slice r1 r2 r3) rd ∧ Below W.heap.size W W'))
    (HU : Hid (∀ W, Below w.heap.size w W → Calls Tryd.prog 46 #[.agg #[.int .i64 N, .slice v1 v2 v3], .slice u1 l.length u3] W fun e W' => e = .returned (.agg #[.int .i64 c1, .int .i64 i1]) ∧ Below W.heap.size W W'))
    (HN1 : Hid (¬ c1 = 0 → c = c1 ∧ i = i1))
    (HZ : Hid (c1 = 0 → (∀ W, Below w.heap.size w W → Calls Tryd.prog 39 #[.agg #[.int .i64 N, .slice v1 v2 v3], .slice m1 k.length m3] W fun e W' => e = .returned (.agg #[.int .i64 c2, .int .i64 i2]) ∧ Below W.heap.size W W') ∧ (∀ W, Below w.heap.size w W → c2 = 0 → Calls Tryd.prog 21 #[.agg #[.int .i64 N, .slice v1 v2 v3], .slice m1 k.length m3] W fun e W' => e = .returned (.bool b) ∧ Below W.heap.size W W') ∧ (¬ c2 = 0 → c = c2 ∧ i = i2) ∧ (c2 = 0 → b = false → c = 7 ∧ i = 0) ∧ (c2 = 0 → b = true → c = c2 ∧ i = i2)))
    (HLA : Hid (∀ W r, Below w.heap.size w W → BoxG W w.heap.size N (.slice v1 v2 v3) → Boxed W (w.heap.size + 1) 22 (.slice u1 l.length u3) → Boxed W (w.heap.size + 1 + 1) 22 (.slice m1 k.length m3) → SlL W r rd → Calls Tryd.prog 68 #[r, .agg #[.int .i64 c, .int .i64 i], .agg #[.int .i64 c, .int .i64 i], .func (.func 75) #[] #[.pointer (some ⟨w.heap.size, 0, none⟩), .pointer (some ⟨w.heap.size + 1, 0, none⟩), .pointer (some ⟨w.heap.size + 1 + 1, 0, none⟩)]] W fun e W' => e = .returned (.bool true) ∧ Below W.heap.size W W'))
    (HNE : Hid (∀ y, y ∈ rd → ∃ x t, y = x :: t))
    (HSH : Hid (∀ W y x t, Below w.heap.size w W → y ∈ rd → y = x :: t → Calls Tryd.prog 50 #[.agg #[.int .i64 N, .slice v1 v2 v3], .slice u1 l.length u3, .int .i64 x] W fun e W' => ∃ r, e = .returned r ∧ Row W' W.heap.size r (sh y) ∧ Below W.heap.size W W'))
    (HLEN : Hid (∀ y, y ∈ rd → (sh y).length ≤ 60 ∧ (y.length : Int) * (((sh y).filter fun a => decide (a ∈ k)).length : Int) = (l.length : Int) * (k.length : Int))) :
    Calls Tryd.prog 11 #[.agg #[.int .i64 N, .slice v1 v2 v3], .slice u1 l.length u3, .slice m1 k.length m3] w fun e w' => e = .returned (.bool true) ∧ Below w.heap.size w w' := by
  obtain ⟨w0, hw0⟩ : ∃ w0, w0 = ((w.alloc (.cells #[.int .i64 N, .slice v1 v2 v3] 24)).alloc (.cells #[.slice u1 l.length u3] 22)).alloc (.cells #[.slice m1 k.length m3] 22) := ⟨_, rfl⟩
  have hB0 : Below w.heap.size w w0 := by rw [hw0]; exact ((balloc w _).alloc (by simp) _).alloc (by simp; omega) _
  have hX0 : BoxG w0 w.heap.size N (.slice v1 v2 v3) := by rw [hw0]; exact ((blk0 (w := w) (T := 24) _ _).alloc _).alloc _
  have hL0 : Boxed w0 (w.heap.size + 1) 22 (.slice u1 l.length u3) := by
    have h := (Boxed.new (w.alloc (.cells #[.int .i64 N, .slice v1 v2 v3] 24)) 22 (.slice u1 l.length u3)).alloc (.cells #[.slice m1 k.length m3] 22)
    rw [World.size_alloc, ← hw0] at h
    exact h
  have hM0 : Boxed w0 (w.heap.size + 1 + 1) 22 (.slice m1 k.length m3) := by
    have h := Boxed.new ((w.alloc (.cells #[.int .i64 N, .slice v1 v2 v3] 24)).alloc (.cells #[.slice u1 l.length u3] 22)) 22 (.slice m1 k.length m3)
    rw [World.size_alloc, World.size_alloc, ← hw0] at h
    exact h
  go_enter Tryd.func11, Tryd.ntmps11
  go_wp2_with fail
  rw [← hw0]
  clear hw0
  go_cut [7, 8] (fun s7 s8 wy => DbRel w0 rd c i s7 s8 wy)
  case first =>
    have HOG := hide (fun W (h : Below w0.heap.size w0 W) => ownGroup_row N (.slice v1 v2 v3) zs W ((hv.below hB0).below h) hz)
    have hux := hu.below hB0
    have hmx := hm.below hB0
    have HOW := hide (fun W s q (h : Below w0.heap.size w0 W) (hs : Sl w0 s q) (hq : q.length * 8 ≤ 140737488355328) => own_any s q W (hs.below h) hq)
    have HDp := hide (fun W x y z (h : Below w0.heap.size w0 W) (hx : Sl W x zs) (hy : Sl W y l) (hz : Sl W z k) => HD.out W x y z (bcat2 hB0 h) hx hy hz)
    obtain ⟨c0, c1, _, _⟩ := hX0.two
    have c2 := hL0.cell
    have c3 := hM0.cell
    have hS : ∀ W, Below w0.heap.size w0 W → (Below w0.heap.size w0 W ∧ W.cell? ⟨w.heap.size, 0, none⟩ = some (.int .i64 N) ∧ W.cell? ⟨w.heap.size, 1, none⟩ = some (.slice v1 v2 v3) ∧ W.cell? ⟨w.heap.size + 1, 0, none⟩ = some (.slice u1 l.length u3) ∧ W.cell? ⟨w.heap.size + 1 + 1, 0, none⟩ = some (.slice m1 k.length m3)) := fun W h => ⟨h, below_cell h c0, below_cell h c1, below_cell h c2, below_cell h c3⟩
    have hS0 := hS _ (bdrew (Below.refl _ w0))
    have hk1 : Hid True := hide trivial
    have h00 : 0 < w0.heap.size := Nat.lt_of_le_of_lt (Nat.zero_le _) hX0.lt
    clear hu hm hv
    go_region_held3 (fun W => Below w0.heap.size w0 W ∧ W.cell? ⟨w.heap.size, 0, none⟩ = some (.int .i64 N) ∧ W.cell? ⟨w.heap.size, 1, none⟩ = some (.slice v1 v2 v3) ∧ W.cell? ⟨w.heap.size + 1, 0, none⟩ = some (.slice u1 l.length u3) ∧ W.cell? ⟨w.heap.size + 1 + 1, 0, none⟩ = some (.slice m1 k.length m3))
      (first | exact hS0 | assumption | exact hS _ (bcat2 (And.left ‹_›) hl1) | exact hS _ (bcat2 (And.left ‹_›) (balloc _ _)) | (refine hS _ ?_; repeat (first | exact hU2 | (refine bAlloc ?_) | (refine bSet ?_ (by omega)))))
      (first
        | (go_at_call 15; refine (HOG.out _ (And.left ‹_›)).mono ?_; rintro e0 U0 ⟨x9, rfl, hx9, hl1⟩; obtain ⟨x1, x3, rfl⟩ := row_len hx9; have hlG := hl1; have hU0 := bcat2 (And.left ‹_›) hl1; have hzG := hlG.size; (try simp only [World.size_alloc] at hzG); have hz0 := hU0.size; have hp0 := cell_eq hl1; have hq0 := frozen_eq hl1; have hxS := row_sl hx9 (by omega))
        | (go_at_call 16; clear hk1; refine (HOW.out _ _ _ (And.left ‹_›) (by assumption) (by assumption)).mono ?_; rintro e1 U1 ⟨m9, rfl, hm9, hl1⟩; obtain ⟨n1, n3, rfl⟩ := own_slice hm9; (first | have hxP := hxS.below hl1 | have hxP := (hxS.alloc _).below hl1); have hlA := hl1; have hU1 := bcat2 (And.left ‹_›) hl1; have hzA := hlA.size; (try simp only [World.size_alloc] at hzA); have hz1 := hU1.size; have hp1 := cell_eq hl1; have hq1 := frozen_eq hl1; (try have hp01 := cell_eq (bcat2 hlG hl1)); (try have hq01 := frozen_eq (bcat2 hlG hl1)); have hmS := row_sl hm9 (by omega))
        | (go_at_call 16; refine (HOW.out _ _ _ (And.left ‹_›) (by assumption) (by assumption)).mono ?_; rintro e3 U3 ⟨m8, rfl, hm8, hl1⟩; obtain ⟨n4, n6, rfl⟩ := own_slice hm8; (first | have hxQ := hxP.below hl1 | have hxQ := (hxP.alloc _).below hl1); (first | have hmP := hmS.below hl1 | have hmP := (hmS.alloc _).below hl1); have hlC := hl1; have hU3 := bcat2 (And.left ‹_›) hl1; have hzC := hlC.size; (try simp only [World.size_alloc] at hzC); have hz3 := hU3.size; have hp3 := cell_eq hl1; have hq3 := frozen_eq hl1; (try have hp13 := cell_eq (bcat2 hlA hl1)); (try have hq13 := frozen_eq (bcat2 hlA hl1)); (try have hp013 := cell_eq (bcat2 (bcat2 hlG hlA) hl1)); (try have hq013 := frozen_eq (bcat2 (bcat2 hlG hlA) hl1)); have hmQ := row_sl hm8 (by omega))
        | (go_at_call 73; refine (HDp.out _ _ _ _ (And.left ‹_›) (by (first | assumption | exact Sl.alloc (by assumption) _)) (by (first | assumption | exact Sl.alloc (by assumption) _)) (by (first | assumption | exact Sl.alloc (by assumption) _))).mono ?_; rintro e2 U2 ⟨r1, r2, r3, rfl, hr, hl1⟩; have hlB := hl1; have hU2 := bcat2 (And.left ‹_›) hl1; have hz2 := hU2.size; have hp2 := cell_eq hl1; have hq2 := frozen_eq hl1; (try have hp23 := cell_eq (bcat2 hlC hl1)); (try have hq23 := frozen_eq (bcat2 hlC hl1)); (try have hp123 := cell_eq (bcat2 (bcat2 hlA hlC) hl1)); (try have hq123 := frozen_eq (bcat2 (bcat2 hlA hlC) hl1)); (try have hp0123 := cell_eq (bcat2 (bcat2 (bcat2 hlG hlA) hlC) hl1)); (try have hq0123 := frozen_eq (bcat2 (bcat2 (bcat2 hlG hlA) hlC) hl1))))
    all_goals (go_wp2; go_meet)
    all_goals (have hzB := hlB.size; try simp only [World.size_alloc] at hzB)
    all_goals first
      | exact ⟨_, _, _, _, rfl, rfl, blk0 _ _, (hr.sl).below (balloc _ _), bAlloc hU2⟩
      | exact ⟨_, _, _, _, rfl, rfl, ((blk_below (blk0 _ _) hlB).set 0 _).set 1 _, (hr.set (by simp only [World.size_alloc]; omega)).sl2 (by simp only [World.size_alloc]; omega), bSet (bSet hU2 (by omega)) (by omega)⟩
      | exact ⟨_, _, _, _, rfl, rfl, ((blk_below (blk_below (blk0 _ _) hlC) hlB).set 0 _).set 1 _, (hr.set (by omega)).sl2 (by omega), bSet (bSet hU2 (by omega)) (by omega)⟩
      | exact ⟨_, _, _, _, rfl, rfl, ((blk_below (blk_below (blk_below (blk0 _ _) hlA) hlC) hlB).set 0 _).set 1 _, (hr.set (by omega)).sl2 (by omega), bSet (bSet hU2 (by omega)) (by omega)⟩
      | exact ⟨_, _, _, _, rfl, rfl, ((blk_below (blk_below (blk_below (blk_below (blkd _ _) hlG) hlA) hlC) hlB).set 0 _).set 1 _, (hr.set (Nat.lt_of_lt_of_le (Nat.lt_of_lt_of_le (Nat.lt_of_lt_of_le (Nat.lt_succ_self _) (show w0.heap.size + 1 ≤ U0.heap.size by simpa using hlG.size)) hlA.size) hlC.size)).sl2 (Nat.lt_of_lt_of_le (Nat.lt_of_lt_of_le (Nat.lt_of_lt_of_le (Nat.lt_succ_self _) (show w0.heap.size + 1 ≤ U0.heap.size by simpa using hlG.size)) hlA.size) hlC.size), bSet (bSet hU2 (by omega)) (by omega)⟩
  case rest =>
    obtain ⟨f8, d1, d2, d3, rfl, rfl, hF8, hR, hbn⟩ := hcut
    have hXp := blk_below hX0 hbn
    have hLp := Boxed.below hL0 hbn
    have hMp := Boxed.below hM0 hbn
    have hBp := bcat2 hB0 hbn
    clear hbn hX0 hL0 hM0 hB0 HD
    obtain ⟨c0, c1, _, _⟩ := hXp.two
    have c2 := hLp.cell
    go_wp2_with fail
    clear c0 c1 c2
    refine (HU.out _ hBp).mono ?_
    rintro x wp ⟨rfl, hbp⟩
    have hXp := blk_below hXp hbp
    have hLp := Boxed.below hLp hbp
    have hMp := Boxed.below hMp hbp
    have hBp := bcat2 hBp hbp
    have hF8 := blk_below hF8 hbp
    have hR := hR.below hbp
    clear hbp HU
    obtain ⟨da, dcap, dpb, dpo, hde, hD1, hD2, _, _, hD5⟩ := id hR
    injection hde with hde1 hde2 hde3
    subst hde1 hde2 hde3
    have hrd : rd.length ≤ 9223372036854775807 := by unfold maxLen at hD5; omega
    have HD1 := hide hD1
    have HD2 := hide hD2
    clear hD1 hD2 hD5
    have hQ0 := blk0 (w := wp) (T := 28) (.int .i64 c1) (.int .i64 i1)
    have hz0 : Below wp.heap.size wp (wp.alloc (.cells #[.int .i64 c1, .int .i64 i1] 28)) := balloc wp _
    by_cases h1 : c1 = 0
    · obtain ⟨hLF, hCL, hf2, hf3, hf4⟩ := HZ.out h1
      have HLF := hide hLF
      have HCL := hide hCL
      clear hLF hCL
      subst h1
      obtain ⟨q0, q1, _, _⟩ := hQ0.two
      obtain ⟨c0, c1, _, _⟩ := (blk_below hXp hz0).two
      have c3 := (Boxed.below hMp hz0).cell
      go_wp2_with fail
      clear q0 q1 c0 c1 c3
      refine (HLF.out _ (bcat2 hBp hz0)).mono ?_
      rintro x w4 ⟨rfl, hb4⟩
      have hQ4 := blk_below hQ0 hb4
      have hz4 := bcat2 hz0 hb4
      obtain ⟨a0, a1, b0, b1⟩ := hQ4.two
      have hQ5 := (hQ4.set 0 (.int .i64 c2)).set 1 (.int .i64 i2)
      have hz5 : Below wp.heap.size wp ((w4.setCell ⟨wp.heap.size, 0, none⟩ (.int .i64 c2)).setCell ⟨wp.heap.size, 1, none⟩ (.int .i64 i2)) := bSet (bSet hz4 (Nat.le_refl _)) (Nat.le_refl _)
      obtain ⟨s0, s1, s2, s3⟩ := hQ5.two
      obtain ⟨c0, c1, _, _⟩ := (blk_below hXp hz5).two
      have c3 := (Boxed.below hMp hz5).cell
      by_cases h2 : c2 = 0
      · subst h2
        go_wp2_with fail
        generalize (w4.setCell ⟨wp.heap.size, 0, none⟩ (.int .i64 0)).setCell ⟨wp.heap.size, 1, none⟩ (.int .i64 i2) = w5 at *
        clear c0 c1 c3 a0 a1 b0 b1 hQ4
        refine (HCL.out _ (bcat2 hBp hz5) (by simp)).mono ?_
        rintro x w6 ⟨rfl, hb6⟩
        have hQ6 := blk_below hQ5 hb6
        have hz6 := bcat2 hz5 hb6
        cases b with
        | true =>
          obtain ⟨hc9, hi9⟩ := hf4 (by simp) (by simp)
          have hzp : Below wp.heap.size wp w6 := hz6
          have hQ : Blk w6 wp.heap.size 28 [.int .i64 c, .int .i64 i] := by rw [hc9, hi9]; exact hQ6
          clear hQ5 hQ6 hz5 hz6 s0 s1 s2 s3 hQ0 hz0 hz4 hb6 hb4 HLF HCL
          subst hc9 hi9
          obtain ⟨q0, q1, _, _⟩ := hQ.two
          go_wp2_with fail
          clear q0 q1
          refine (cosetBegun_any _ (hT.below (bcat2 hBp hzp))).mono ?_
          rintro x wy ⟨rfl, hby⟩
          have hzp := bcat2 hzp hby
          have hQ := blk_below hQ hby
          obtain ⟨q0, q1, _, _⟩ := hQ.two
          obtain ⟨p0, p1, _, _⟩ := (blk_below hF8 hzp).two
          go_wp2_with fail
          clear q0 q1 p0 p1
          refine (HLA.out _ _ (bcat2 hBp hzp) (blk_below hXp hzp) (Boxed.below hLp hzp) (Boxed.below hMp hzp) (hR.below hzp)).mono ?_
          rintro x wx ⟨rfl, hbx⟩
          have hzp := bcat2 hzp hbx
          clear hQ hby hbx
          go_wp2
          go_loopw [10] (fun i9 wr => ∃ j : Nat, j ≤ rd.length ∧ i9 = .int .i64 j ∧ Below wp.heap.size wp wr) (fun i9 _ => rd.length - (intOf i9).toNat)
          case atStart => exact ⟨0, Nat.zero_le _, rfl, hzp⟩
          case round =>
            clear hzp
            obtain ⟨j, hj, rfl, hB⟩ := hrel
            by_cases hlt : j < rd.length
            · have hji : (j : Int) < (rd.length : Int) := by omega
              obtain rfl := HD1.out (by omega)
              obtain ⟨y9, cy, hy⟩ := HD2.out j hlt
              rw [List.getElem?_eq_getElem hlt] at hy
              have hmem := List.getElem_mem hlt
              obtain ⟨y, hye⟩ : ∃ y, rd[j] = y := ⟨_, rfl⟩
              rw [hye] at hmem
              have hy : Sl wp y9 y := by rw [← hye]; exact hy
              clear hye
              obtain ⟨x, t, hxt⟩ := HNE.out y hmem
              have cy := below_cell hB cy
              obtain ⟨y1, ycap, yb, yo, rfl, hyr, hyb, hyc, hym⟩ := hy.below hB
              have hylen : 0 < y.length := by rw [hxt]; simp
              have cx := hyr.cell 0 hylen
              rw [show y[0]?.getD 0 = x by rw [hxt]; rfl, Nat.add_zero] at cx
              obtain rfl := hyr.at_ hylen
              have hyl : ((0 : Nat) : Int) < (y.length : Int) := by omega
              have hyl9 : y.length ≤ 9223372036854775807 := by unfold maxLen at hym; omega
              obtain ⟨hsl, heq⟩ := HLEN.out y hmem
              have HSHp := hide (fun W (h : Below wr.heap.size wr W) => HSH.out W y x t (bcat2 hBp (bcat2 hB h)) hmem hxt)
              have HBO := hide (fun W s9 (h : Below wr.heap.size wr W) (h1 : Sl W s9 (sh y)) => both_ok s9 (.slice m1 k.length m3) (sh y) k W h1 ((hm.below (bcat2 hBp hB)).below h) hsl)
              obtain ⟨c0, c1, _, _⟩ := (blk_below hXp hB).two
              have c2 := (Boxed.below hLp hB).cell
              have c3 := (Boxed.below hMp hB).cell
              have hS : ∀ W, Below wr.heap.size wr W → (Below wr.heap.size wr W ∧ W.cell? ⟨w.heap.size, 0, none⟩ = some (.int .i64 N) ∧ W.cell? ⟨w.heap.size, 1, none⟩ = some (.slice v1 v2 v3) ∧ W.cell? ⟨w.heap.size + 1, 0, none⟩ = some (.slice u1 l.length u3) ∧ W.cell? ⟨w.heap.size + 1 + 1, 0, none⟩ = some (.slice m1 k.length m3) ∧ W.cell? ⟨dpb, dpo + j, none⟩ = some (.slice (some ⟨yb, yo, none⟩) y.length ycap) ∧ W.cell? ⟨yb, yo, none⟩ = some (.int .i64 x)) := fun W h => ⟨h, below_cell h c0, below_cell h c1, below_cell h c2, below_cell h c3, below_cell h cy, below_cell h cx⟩
              have hS0 := hS _ (bdrew (Below.refl _ wr))
              have h0r : 0 < wr.heap.size := Nat.lt_of_le_of_lt (Nat.zero_le _) hyb
              clear c0 c1 c2 c3 cy cx hyr hyc hym hxt hy
              generalize hfl : (sh y).filter (fun a => decide (a ∈ k)) = fl at *
              have HFL := hide hfl
              clear hfl
              go_wp2_with fail
              go_region_held3 (fun W => Below wr.heap.size wr W ∧ W.cell? ⟨w.heap.size, 0, none⟩ = some (.int .i64 N) ∧ W.cell? ⟨w.heap.size, 1, none⟩ = some (.slice v1 v2 v3) ∧ W.cell? ⟨w.heap.size + 1, 0, none⟩ = some (.slice u1 l.length u3) ∧ W.cell? ⟨w.heap.size + 1 + 1, 0, none⟩ = some (.slice m1 k.length m3) ∧ W.cell? ⟨dpb, dpo + j, none⟩ = some (.slice (some ⟨yb, yo, none⟩) y.length ycap) ∧ W.cell? ⟨yb, yo, none⟩ = some (.int .i64 x))
                (first | exact hS0 | assumption | exact hS _ (bcat2 (And.left ‹_›) hl1))
                (first
                  | (go_at_call 50; refine (HSHp.out _ (And.left ‹_›)).mono ?_; rintro e1 U1 ⟨s9, rfl, hs9, hl1⟩; obtain ⟨s1, s3, rfl⟩ := row_len hs9; have hz1 := hl1.size; have hU1 := bcat2 (And.left ‹_›) hl1; have hzz := hU1.size; have hsS := row_sl hs9 (by omega))
                  | (go_at_call 56; refine (HBO.out _ _ (And.left ‹_›) (by first | exact hsS | assumption)).mono ?_; rintro e2 U2 ⟨q9, rfl, hq9, hl1⟩; obtain ⟨g1, g3, rfl⟩ := row_len hq9))
              all_goals (
                have hB9 := And.left ‹Below wr.heap.size wr U2 ∧ _›
                go_wp2_with fail
                go_quiet (fail)
                have hBq := bdrewN hB9 nq
                go_wp2
                go_roundw
                case rel => exact ⟨j + 1, by omega, by go_num, bcat2 hB hBq⟩
                case measure => simp [intOf]; omega)
            · have hji : ¬ (j : Int) < (rd.length : Int) := by omega
              go_wp2
              go_ret
              exact ⟨rfl, bcat2 hBp hB⟩
        | false =>
          obtain ⟨hc9, hi9⟩ := hf3 (by simp) (by simp)
          go_wp2_with fail
          refine (rf_ok 7 0 w6).mono ?_
          rintro x w7 ⟨rfl, hb7⟩
          have hQ7 := blk_below hQ6 hb7
          have hz7 := bcat2 hz6 hb7
          obtain ⟨a0, a1, b0, b1⟩ := hQ7.two
          have hQ : Blk ((w7.setCell ⟨wp.heap.size, 0, none⟩ (.int .i64 7)).setCell ⟨wp.heap.size, 1, none⟩ (.int .i64 0)) wp.heap.size 28 [.int .i64 c, .int .i64 i] := by rw [hc9, hi9]; exact (hQ7.set 0 (.int .i64 7)).set 1 (.int .i64 0)
          have hzp : Below wp.heap.size wp ((w7.setCell ⟨wp.heap.size, 0, none⟩ (.int .i64 7)).setCell ⟨wp.heap.size, 1, none⟩ (.int .i64 0)) := bSet (bSet hz7 (Nat.le_refl _)) (Nat.le_refl _)
          clear hQ5 hQ6 hz5 hz6 s0 s1 s2 s3 hQ0 hz0 hz4 hb6 hb4 HLF HCL hQ7 hz7 hb7
          subst hc9 hi9
          obtain ⟨q0, q1, _, _⟩ := hQ.two
          go_wp2_with fail
          clear q0 q1
          refine (cosetBegun_any _ (hT.below (bcat2 hBp hzp))).mono ?_
          rintro x wy ⟨rfl, hby⟩
          have hzp := bcat2 hzp hby
          have hQ := blk_below hQ hby
          obtain ⟨q0, q1, _, _⟩ := hQ.two
          obtain ⟨p0, p1, _, _⟩ := (blk_below hF8 hzp).two
          go_wp2_with fail
          clear q0 q1 p0 p1
          refine (HLA.out _ _ (bcat2 hBp hzp) (blk_below hXp hzp) (Boxed.below hLp hzp) (Boxed.below hMp hzp) (hR.below hzp)).mono ?_
          rintro x wx ⟨rfl, hbx⟩
          have hzp := bcat2 hzp hbx
          clear hQ hby hbx
          go_wp2
          go_loopw [10] (fun i9 wr => ∃ j : Nat, j ≤ rd.length ∧ i9 = .int .i64 j ∧ Below wp.heap.size wp wr) (fun i9 _ => rd.length - (intOf i9).toNat)
          case atStart => exact ⟨0, Nat.zero_le _, rfl, hzp⟩
          case round =>
            clear hzp
            obtain ⟨j, hj, rfl, hB⟩ := hrel
            by_cases hlt : j < rd.length
            · have hji : (j : Int) < (rd.length : Int) := by omega
              obtain rfl := HD1.out (by omega)
              obtain ⟨y9, cy, hy⟩ := HD2.out j hlt
              rw [List.getElem?_eq_getElem hlt] at hy
              have hmem := List.getElem_mem hlt
              obtain ⟨y, hye⟩ : ∃ y, rd[j] = y := ⟨_, rfl⟩
              rw [hye] at hmem
              have hy : Sl wp y9 y := by rw [← hye]; exact hy
              clear hye
              obtain ⟨x, t, hxt⟩ := HNE.out y hmem
              have cy := below_cell hB cy
              obtain ⟨y1, ycap, yb, yo, rfl, hyr, hyb, hyc, hym⟩ := hy.below hB
              have hylen : 0 < y.length := by rw [hxt]; simp
              have cx := hyr.cell 0 hylen
              rw [show y[0]?.getD 0 = x by rw [hxt]; rfl, Nat.add_zero] at cx
              obtain rfl := hyr.at_ hylen
              have hyl : ((0 : Nat) : Int) < (y.length : Int) := by omega
              have hyl9 : y.length ≤ 9223372036854775807 := by unfold maxLen at hym; omega
              obtain ⟨hsl, heq⟩ := HLEN.out y hmem
              have HSHp := hide (fun W (h : Below wr.heap.size wr W) => HSH.out W y x t (bcat2 hBp (bcat2 hB h)) hmem hxt)
              have HBO := hide (fun W s9 (h : Below wr.heap.size wr W) (h1 : Sl W s9 (sh y)) => both_ok s9 (.slice m1 k.length m3) (sh y) k W h1 ((hm.below (bcat2 hBp hB)).below h) hsl)
              obtain ⟨c0, c1, _, _⟩ := (blk_below hXp hB).two
              have c2 := (Boxed.below hLp hB).cell
              have c3 := (Boxed.below hMp hB).cell
              have hS : ∀ W, Below wr.heap.size wr W → (Below wr.heap.size wr W ∧ W.cell? ⟨w.heap.size, 0, none⟩ = some (.int .i64 N) ∧ W.cell? ⟨w.heap.size, 1, none⟩ = some (.slice v1 v2 v3) ∧ W.cell? ⟨w.heap.size + 1, 0, none⟩ = some (.slice u1 l.length u3) ∧ W.cell? ⟨w.heap.size + 1 + 1, 0, none⟩ = some (.slice m1 k.length m3) ∧ W.cell? ⟨dpb, dpo + j, none⟩ = some (.slice (some ⟨yb, yo, none⟩) y.length ycap) ∧ W.cell? ⟨yb, yo, none⟩ = some (.int .i64 x)) := fun W h => ⟨h, below_cell h c0, below_cell h c1, below_cell h c2, below_cell h c3, below_cell h cy, below_cell h cx⟩
              have hS0 := hS _ (bdrew (Below.refl _ wr))
              have h0r : 0 < wr.heap.size := Nat.lt_of_le_of_lt (Nat.zero_le _) hyb
              clear c0 c1 c2 c3 cy cx hyr hyc hym hxt hy
              generalize hfl : (sh y).filter (fun a => decide (a ∈ k)) = fl at *
              have HFL := hide hfl
              clear hfl
              go_wp2_with fail
              go_region_held3 (fun W => Below wr.heap.size wr W ∧ W.cell? ⟨w.heap.size, 0, none⟩ = some (.int .i64 N) ∧ W.cell? ⟨w.heap.size, 1, none⟩ = some (.slice v1 v2 v3) ∧ W.cell? ⟨w.heap.size + 1, 0, none⟩ = some (.slice u1 l.length u3) ∧ W.cell? ⟨w.heap.size + 1 + 1, 0, none⟩ = some (.slice m1 k.length m3) ∧ W.cell? ⟨dpb, dpo + j, none⟩ = some (.slice (some ⟨yb, yo, none⟩) y.length ycap) ∧ W.cell? ⟨yb, yo, none⟩ = some (.int .i64 x))
                (first | exact hS0 | assumption | exact hS _ (bcat2 (And.left ‹_›) hl1))
                (first
                  | (go_at_call 50; refine (HSHp.out _ (And.left ‹_›)).mono ?_; rintro e1 U1 ⟨s9, rfl, hs9, hl1⟩; obtain ⟨s1, s3, rfl⟩ := row_len hs9; have hz1 := hl1.size; have hU1 := bcat2 (And.left ‹_›) hl1; have hzz := hU1.size; have hsS := row_sl hs9 (by omega))
                  | (go_at_call 56; refine (HBO.out _ _ (And.left ‹_›) (by first | exact hsS | assumption)).mono ?_; rintro e2 U2 ⟨q9, rfl, hq9, hl1⟩; obtain ⟨g1, g3, rfl⟩ := row_len hq9))
              all_goals (
                have hB9 := And.left ‹Below wr.heap.size wr U2 ∧ _›
                go_wp2_with fail
                go_quiet (fail)
                have hBq := bdrewN hB9 nq
                go_wp2
                go_roundw
                case rel => exact ⟨j + 1, by omega, by go_num, bcat2 hB hBq⟩
                case measure => simp [intOf]; omega)
            · have hji : ¬ (j : Int) < (rd.length : Int) := by omega
              go_wp2
              go_ret
              exact ⟨rfl, bcat2 hBp hB⟩
      · have h2b : (c2 == 0) = false := by simp [h2]
        obtain ⟨hc9, hi9⟩ := hf2 h2
        have hzp := hz5
        have hQ : Blk ((w4.setCell ⟨wp.heap.size, 0, none⟩ (.int .i64 c2)).setCell ⟨wp.heap.size, 1, none⟩ (.int .i64 i2)) wp.heap.size 28 [.int .i64 c, .int .i64 i] := by rw [hc9, hi9]; exact hQ5
        clear hQ5 hz5 hQ4 hQ0 hz0 hz4 hb4 HLF HCL c0 c1 c3
        subst hc9 hi9
        obtain ⟨q0, q1, _, _⟩ := hQ.two
        go_wp2_with fail
        clear q0 q1
        refine (cosetBegun_any _ (hT.below (bcat2 hBp hzp))).mono ?_
        rintro x wy ⟨rfl, hby⟩
        have hzp := bcat2 hzp hby
        have hQ := blk_below hQ hby
        obtain ⟨q0, q1, _, _⟩ := hQ.two
        obtain ⟨p0, p1, _, _⟩ := (blk_below hF8 hzp).two
        go_wp2_with fail
        clear q0 q1 p0 p1
        refine (HLA.out _ _ (bcat2 hBp hzp) (blk_below hXp hzp) (Boxed.below hLp hzp) (Boxed.below hMp hzp) (hR.below hzp)).mono ?_
        rintro x wx ⟨rfl, hbx⟩
        have hzp := bcat2 hzp hbx
        clear hQ hby hbx
        go_wp2
        go_loopw [10] (fun i9 wr => ∃ j : Nat, j ≤ rd.length ∧ i9 = .int .i64 j ∧ Below wp.heap.size wp wr) (fun i9 _ => rd.length - (intOf i9).toNat)
        case atStart => exact ⟨0, Nat.zero_le _, rfl, hzp⟩
        case round =>
          clear hzp
          obtain ⟨j, hj, rfl, hB⟩ := hrel
          by_cases hlt : j < rd.length
          · have hji : (j : Int) < (rd.length : Int) := by omega
            obtain rfl := HD1.out (by omega)
            obtain ⟨y9, cy, hy⟩ := HD2.out j hlt
            rw [List.getElem?_eq_getElem hlt] at hy
            have hmem := List.getElem_mem hlt
            obtain ⟨y, hye⟩ : ∃ y, rd[j] = y := ⟨_, rfl⟩
            rw [hye] at hmem
            have hy : Sl wp y9 y := by rw [← hye]; exact hy
            clear hye
            obtain ⟨x, t, hxt⟩ := HNE.out y hmem
            have cy := below_cell hB cy
            obtain ⟨y1, ycap, yb, yo, rfl, hyr, hyb, hyc, hym⟩ := hy.below hB
            have hylen : 0 < y.length := by rw [hxt]; simp
            have cx := hyr.cell 0 hylen
            rw [show y[0]?.getD 0 = x by rw [hxt]; rfl, Nat.add_zero] at cx
            obtain rfl := hyr.at_ hylen
            have hyl : ((0 : Nat) : Int) < (y.length : Int) := by omega
            have hyl9 : y.length ≤ 9223372036854775807 := by unfold maxLen at hym; omega
            obtain ⟨hsl, heq⟩ := HLEN.out y hmem
            have HSHp := hide (fun W (h : Below wr.heap.size wr W) => HSH.out W y x t (bcat2 hBp (bcat2 hB h)) hmem hxt)
            have HBO := hide (fun W s9 (h : Below wr.heap.size wr W) (h1 : Sl W s9 (sh y)) => both_ok s9 (.slice m1 k.length m3) (sh y) k W h1 ((hm.below (bcat2 hBp hB)).below h) hsl)
            obtain ⟨c0, c1, _, _⟩ := (blk_below hXp hB).two
            have c2 := (Boxed.below hLp hB).cell
            have c3 := (Boxed.below hMp hB).cell
            have hS : ∀ W, Below wr.heap.size wr W → (Below wr.heap.size wr W ∧ W.cell? ⟨w.heap.size, 0, none⟩ = some (.int .i64 N) ∧ W.cell? ⟨w.heap.size, 1, none⟩ = some (.slice v1 v2 v3) ∧ W.cell? ⟨w.heap.size + 1, 0, none⟩ = some (.slice u1 l.length u3) ∧ W.cell? ⟨w.heap.size + 1 + 1, 0, none⟩ = some (.slice m1 k.length m3) ∧ W.cell? ⟨dpb, dpo + j, none⟩ = some (.slice (some ⟨yb, yo, none⟩) y.length ycap) ∧ W.cell? ⟨yb, yo, none⟩ = some (.int .i64 x)) := fun W h => ⟨h, below_cell h c0, below_cell h c1, below_cell h c2, below_cell h c3, below_cell h cy, below_cell h cx⟩
            have hS0 := hS _ (bdrew (Below.refl _ wr))
            have h0r : 0 < wr.heap.size := Nat.lt_of_le_of_lt (Nat.zero_le _) hyb
            clear c0 c1 c2 c3 cy cx hyr hyc hym hxt hy
            generalize hfl : (sh y).filter (fun a => decide (a ∈ k)) = fl at *
            have HFL := hide hfl
            clear hfl
            go_wp2_with fail
            go_region_held3 (fun W => Below wr.heap.size wr W ∧ W.cell? ⟨w.heap.size, 0, none⟩ = some (.int .i64 N) ∧ W.cell? ⟨w.heap.size, 1, none⟩ = some (.slice v1 v2 v3) ∧ W.cell? ⟨w.heap.size + 1, 0, none⟩ = some (.slice u1 l.length u3) ∧ W.cell? ⟨w.heap.size + 1 + 1, 0, none⟩ = some (.slice m1 k.length m3) ∧ W.cell? ⟨dpb, dpo + j, none⟩ = some (.slice (some ⟨yb, yo, none⟩) y.length ycap) ∧ W.cell? ⟨yb, yo, none⟩ = some (.int .i64 x))
              (first | exact hS0 | assumption | exact hS _ (bcat2 (And.left ‹_›) hl1))
              (first
                | (go_at_call 50; refine (HSHp.out _ (And.left ‹_›)).mono ?_; rintro e1 U1 ⟨s9, rfl, hs9, hl1⟩; obtain ⟨s1, s3, rfl⟩ := row_len hs9; have hz1 := hl1.size; have hU1 := bcat2 (And.left ‹_›) hl1; have hzz := hU1.size; have hsS := row_sl hs9 (by omega))
                | (go_at_call 56; refine (HBO.out _ _ (And.left ‹_›) (by first | exact hsS | assumption)).mono ?_; rintro e2 U2 ⟨q9, rfl, hq9, hl1⟩; obtain ⟨g1, g3, rfl⟩ := row_len hq9))
            all_goals (
              have hB9 := And.left ‹Below wr.heap.size wr U2 ∧ _›
              go_wp2_with fail
              go_quiet (fail)
              have hBq := bdrewN hB9 nq
              go_wp2
              go_roundw
              case rel => exact ⟨j + 1, by omega, by go_num, bcat2 hB hBq⟩
              case measure => simp [intOf]; omega)
          · have hji : ¬ (j : Int) < (rd.length : Int) := by omega
            go_wp2
            go_ret
            exact ⟨rfl, bcat2 hBp hB⟩
    · have h1b : (c1 == 0) = false := by simp [h1]
      obtain ⟨hc9, hi9⟩ := HN1.out h1
      have hzp := hz0
      have hQ : Blk (wp.alloc (.cells #[.int .i64 c1, .int .i64 i1] 28)) wp.heap.size 28 [.int .i64 c, .int .i64 i] := by rw [hc9, hi9]; exact hQ0
      obtain ⟨s0, s1, _, _⟩ := hQ0.two
      clear hQ0 hz0
      subst hc9 hi9
      obtain ⟨q0, q1, _, _⟩ := hQ.two
      go_wp2_with fail
      clear q0 q1
      refine (cosetBegun_any _ (hT.below (bcat2 hBp hzp))).mono ?_
      rintro x wy ⟨rfl, hby⟩
      have hzp := bcat2 hzp hby
      have hQ := blk_below hQ hby
      obtain ⟨q0, q1, _, _⟩ := hQ.two
      obtain ⟨p0, p1, _, _⟩ := (blk_below hF8 hzp).two
      go_wp2_with fail
      clear q0 q1 p0 p1
      refine (HLA.out _ _ (bcat2 hBp hzp) (blk_below hXp hzp) (Boxed.below hLp hzp) (Boxed.below hMp hzp) (hR.below hzp)).mono ?_
      rintro x wx ⟨rfl, hbx⟩
      have hzp := bcat2 hzp hbx
      clear hQ hby hbx
      go_wp2
      go_loopw [10] (fun i9 wr => ∃ j : Nat, j ≤ rd.length ∧ i9 = .int .i64 j ∧ Below wp.heap.size wp wr) (fun i9 _ => rd.length - (intOf i9).toNat)
      case atStart => exact ⟨0, Nat.zero_le _, rfl, hzp⟩
      case round =>
        clear hzp
        obtain ⟨j, hj, rfl, hB⟩ := hrel
        by_cases hlt : j < rd.length
        · have hji : (j : Int) < (rd.length : Int) := by omega
          obtain rfl := HD1.out (by omega)
          obtain ⟨y9, cy, hy⟩ := HD2.out j hlt
          rw [List.getElem?_eq_getElem hlt] at hy
          have hmem := List.getElem_mem hlt
          obtain ⟨y, hye⟩ : ∃ y, rd[j] = y := ⟨_, rfl⟩
          rw [hye] at hmem
          have hy : Sl wp y9 y := by rw [← hye]; exact hy
          clear hye
          obtain ⟨x, t, hxt⟩ := HNE.out y hmem
          have cy := below_cell hB cy
          obtain ⟨y1, ycap, yb, yo, rfl, hyr, hyb, hyc, hym⟩ := hy.below hB
          have hylen : 0 < y.length := by rw [hxt]; simp
          have cx := hyr.cell 0 hylen
          rw [show y[0]?.getD 0 = x by rw [hxt]; rfl, Nat.add_zero] at cx
          obtain rfl := hyr.at_ hylen
          have hyl : ((0 : Nat) : Int) < (y.length : Int) := by omega
          have hyl9 : y.length ≤ 9223372036854775807 := by unfold maxLen at hym; omega
          obtain ⟨hsl, heq⟩ := HLEN.out y hmem
          have HSHp := hide (fun W (h : Below wr.heap.size wr W) => HSH.out W y x t (bcat2 hBp (bcat2 hB h)) hmem hxt)
          have HBO := hide (fun W s9 (h : Below wr.heap.size wr W) (h1 : Sl W s9 (sh y)) => both_ok s9 (.slice m1 k.length m3) (sh y) k W h1 ((hm.below (bcat2 hBp hB)).below h) hsl)
          obtain ⟨c0, c1, _, _⟩ := (blk_below hXp hB).two
          have c2 := (Boxed.below hLp hB).cell
          have c3 := (Boxed.below hMp hB).cell
          have hS : ∀ W, Below wr.heap.size wr W → (Below wr.heap.size wr W ∧ W.cell? ⟨w.heap.size, 0, none⟩ = some (.int .i64 N) ∧ W.cell? ⟨w.heap.size, 1, none⟩ = some (.slice v1 v2 v3) ∧ W.cell? ⟨w.heap.size + 1, 0, none⟩ = some (.slice u1 l.length u3) ∧ W.cell? ⟨w.heap.size + 1 + 1, 0, none⟩ = some (.slice m1 k.length m3) ∧ W.cell? ⟨dpb, dpo + j, none⟩ = some (.slice (some ⟨yb, yo, none⟩) y.length ycap) ∧ W.cell? ⟨yb, yo, none⟩ = some (.int .i64 x)) := fun W h => ⟨h, below_cell h c0, below_cell h c1, below_cell h c2, below_cell h c3, below_cell h cy, below_cell h cx⟩
          have hS0 := hS _ (bdrew (Below.refl _ wr))
          have h0r : 0 < wr.heap.size := Nat.lt_of_le_of_lt (Nat.zero_le _) hyb
          clear c0 c1 c2 c3 cy cx hyr hyc hym hxt hy
          generalize hfl : (sh y).filter (fun a => decide (a ∈ k)) = fl at *
          have HFL := hide hfl
          clear hfl
          go_wp2_with fail
          go_region_held3 (fun W => Below wr.heap.size wr W ∧ W.cell? ⟨w.heap.size, 0, none⟩ = some (.int .i64 N) ∧ W.cell? ⟨w.heap.size, 1, none⟩ = some (.slice v1 v2 v3) ∧ W.cell? ⟨w.heap.size + 1, 0, none⟩ = some (.slice u1 l.length u3) ∧ W.cell? ⟨w.heap.size + 1 + 1, 0, none⟩ = some (.slice m1 k.length m3) ∧ W.cell? ⟨dpb, dpo + j, none⟩ = some (.slice (some ⟨yb, yo, none⟩) y.length ycap) ∧ W.cell? ⟨yb, yo, none⟩ = some (.int .i64 x))
            (first | exact hS0 | assumption | exact hS _ (bcat2 (And.left ‹_›) hl1))
            (first
              | (go_at_call 50; refine (HSHp.out _ (And.left ‹_›)).mono ?_; rintro e1 U1 ⟨s9, rfl, hs9, hl1⟩; obtain ⟨s1, s3, rfl⟩ := row_len hs9; have hz1 := hl1.size; have hU1 := bcat2 (And.left ‹_›) hl1; have hzz := hU1.size; have hsS := row_sl hs9 (by omega))
              | (go_at_call 56; refine (HBO.out _ _ (And.left ‹_›) (by first | exact hsS | assumption)).mono ?_; rintro e2 U2 ⟨q9, rfl, hq9, hl1⟩; obtain ⟨g1, g3, rfl⟩ := row_len hq9))
          all_goals (
            have hB9 := And.left ‹Below wr.heap.size wr U2 ∧ _›
            go_wp2_with fail
            go_quiet (fail)
            have hBq := bdrewN hB9 nq
            go_wp2
            go_roundw
            case rel => exact ⟨j + 1, by omega, by go_num, bcat2 hB hBq⟩
            case measure => simp [intOf]; omega)
        · have hji : ¬ (j : Int) < (rd.length : Int) := by omega
          go_wp2
          go_ret
          exact ⟨rfl, bcat2 hBp hB⟩
end Go.Proofs.YtoiemlnmcfmakaaDoor

namespace Go.Proofs.YtoiemlnmcfmakaaDoor
open Go Go.RowKit

theorem sl_len {w : World} {v : Value} {zs : List Int} (h : Sl w v zs) : ∃ a c, v = .slice a zs.length c := by
  obtain ⟨a, c, _, _, rfl, _⟩ := h
  exact ⟨a, c, rfl⟩
theorem dlists_good {f : Nat} {args : Array Value} {w : World} {rs : List (List Int)} (h0 : 0 < w.heap.size) (h : Calls Tryd.prog f args w fun x w' => ∃ r vs, x = .returned (.tuple #[r, .agg #[.int .i64 0, .int .i64 0]]) ∧ w'.ownsRow w.heap.size 22 1 r vs.length vs ∧ Lsts w' w.heap.size r vs rs ∧ Below w.heap.size w w') :
    Calls Tryd.prog f args w fun x w' => ∃ r1 r2 r3, x = .returned (.tuple #[.slice r1 r2 r3, .agg #[.int .i64 0, .int .i64 0]]) ∧ FrsL w.heap.size w' (.slice r1 r2 r3) rs ∧ Below w.heap.size w w' := by
  refine h.mono ?_
  rintro x w' ⟨r, vs, rfl, hrow, hls, hb⟩
  have hs := FrsL.of_own (Nat.lt_of_lt_of_le h0 hb.size) hrow hls
  obtain ⟨a, l, c, rfl⟩ := hs.sl.isSlice
  exact ⟨a, l, c, rfl, hs, hb⟩
theorem dlists_bad {f : Nat} {args : Array Value} {w : World} {c i : Int} (h0 : 0 < w.heap.size) (h : Calls Tryd.prog f args w fun x w' => x = .returned (.tuple #[.slice none 0 0, .agg #[.int .i64 c, .int .i64 i]]) ∧ Below w.heap.size w w') :
    Calls Tryd.prog f args w fun x w' => ∃ r1 r2 r3, x = .returned (.tuple #[.slice r1 r2 r3, .agg #[.int .i64 c, .int .i64 i]]) ∧ FrsL w.heap.size w' (.slice r1 r2 r3) [] ∧ Below w.heap.size w w' := by
  refine h.mono ?_
  rintro x w' ⟨rfl, hb⟩
  exact ⟨none, 0, 0, rfl, nil_frsL (Nat.lt_of_lt_of_le h0 hb.size), hb⟩
theorem ps_test {n : Nat} {k : List Int} (h : li (lst n (pset k)) = k) : (fun a => decide (a ∈ lst n (pset k))) = pset k := by
  funext a
  have : pset k a = pset (li (lst n (pset k))) a := by rw [h]
  rw [this]
  unfold pset
  rw [Bool.eq_iff_iff, decide_eq_true_eq, decide_eq_true_eq, mem_li]
theorem double_law (N : Int) (v u m : Value) (zs l k : List Int) (w : World) (hv : Sl w v zs) (hu : Sl w u l) (hm : Sl w m k) (hT : Tab w) (hz : zs.length * 8 ≤ 140737488355328) (hl8 : l.length * 8 ≤ 140737488355328) (hk8 : k.length * 8 ≤ 140737488355328) :
    Calls Tryd.prog 11 #[.agg #[.int .i64 N, v], u, m] w fun e w' => e = .returned (.bool true) ∧ Below w.heap.size w w' := by
  obtain ⟨v1, v2, v3, rfl⟩ := hv.isSlice
  obtain ⟨u1, u3, rfl⟩ := sl_len hu
  obtain ⟨m1, m3, rfl⟩ := sl_len hm
  have at0 : ∀ W : World, Below w.heap.size w W → 0 < W.heap.size := fun W h => Nat.lt_of_lt_of_le hT.lt h.size
  have HU := hide (fun W (h : Below w.heap.size w W) => rsub_any N (.slice v1 v2 v3) (.slice u1 l.length u3) zs l W (hv.below h) (hu.below h))
  have hbad : ∀ (c1 i1 c2 i2 : Int) (b : Bool), (wfault N zs [l, k]).1 ≠ 0 →
      Hid (∀ W, Below w.heap.size w W → Calls Tryd.prog 46 #[.agg #[.int .i64 N, .slice v1 v2 v3], .slice u1 l.length u3] W fun e W' => e = .returned (.agg #[.int .i64 c1, .int .i64 i1]) ∧ Below W.heap.size W W') →
      Hid (¬ c1 = 0 → (wfault N zs [l, k]).1 = c1 ∧ (wfault N zs [l, k]).2 = i1) →
      Hid (c1 = 0 → (∀ W, Below w.heap.size w W → Calls Tryd.prog 39 #[.agg #[.int .i64 N, .slice v1 v2 v3], .slice m1 k.length m3] W fun e W' => e = .returned (.agg #[.int .i64 c2, .int .i64 i2]) ∧ Below W.heap.size W W') ∧ (∀ W, Below w.heap.size w W → c2 = 0 → Calls Tryd.prog 21 #[.agg #[.int .i64 N, .slice v1 v2 v3], .slice m1 k.length m3] W fun e W' => e = .returned (.bool b) ∧ Below W.heap.size W W') ∧ (¬ c2 = 0 → (wfault N zs [l, k]).1 = c2 ∧ (wfault N zs [l, k]).2 = i2) ∧ (c2 = 0 → b = false → (wfault N zs [l, k]).1 = 7 ∧ (wfault N zs [l, k]).2 = 0) ∧ (c2 = 0 → b = true → (wfault N zs [l, k]).1 = c2 ∧ (wfault N zs [l, k]).2 = i2)) →
      Calls Tryd.prog 11 #[.agg #[.int .i64 N, .slice v1 v2 v3], .slice u1 l.length u3, .slice m1 k.length m3] w fun e w' => e = .returned (.bool true) ∧ Below w.heap.size w w' := fun c1 i1 c2 i2 b hc HU1 HN1 HZ =>
    double_walk N v1 v2 v3 u1 u3 m1 m3 zs l k w hv hu hm hT hz hl8 hk8 _ _ c1 i1 c2 i2 b [] id
      (hide fun W x y z h h1 h2 h3 => dlists_bad (at0 W h) (dou_bad N x y z zs l k W h1 h2 h3 (hT.below h) hc)) HU1 HN1 HZ
      (hide fun W r h _ _ _ hr => lsas_nil 75 _ _ _ r W (at0 W h) hr hc) (hide fun y hy => absurd hy (by simp)) (hide fun _ y _ _ _ hy => absurd hy (by simp)) (hide fun y hy => absurd hy (by simp))
  by_cases hc : (ufault N zs l).1 = 0
  · obtain ⟨n, e, rfl, hg, hl0, hsb, hu0⟩ := ufault_zero hc
    have hw1 : wfault n zs [l, k] = ufault n zs k := by
      show (if (ufault n zs l).1 ≠ 0 then ufault n zs l else wfault n zs [k]) = _
      rw [if_neg (by rw [hu0]; simp), wfault_one]
    have HLF := fun W (h : Below w.heap.size w W) => rlist_any n (.slice v1 v2 v3) (.slice m1 k.length m3) k W hg.tab.le (hm.below h)
    rw [hu0] at HU
    by_cases hk : (lfault n k).1 = 0
    · have hk0 : lfault n k = (0, 0) := (lfault_zero hk).1
      have hlk := set_lst (show (lfault n k).1 = 0 by rw [hk0])
      have hxm : ∀ x, x ∈ lst n (pset k) → x < n := fun x hx => (mem_lst.1 hx).1
      have hxl : (lst n (pset k)).length ≤ 100000 := Nat.le_trans (lst_len _ _) (by have := hg.tab.le; omega)
      have hm9 : ∀ W, Below w.heap.size w W → Sl W (.slice m1 k.length m3) (li (lst n (pset k))) := fun W h => by rw [← hlk]; exact hm.below h
      have HCL := fun W (h : Below w.heap.size w W) => closed_ok n e (.slice v1 v2 v3) (.slice m1 k.length m3) zs (lst n (pset k)) W (hv.below h) hg (hm9 W h) hxm hxl
      rw [ps_test hlk.symm] at HCL
      rw [hk0] at HLF
      by_cases hsk : subT n zs e (pset k) = true
      · have hll := set_lst (show (lfault n l).1 = 0 by rw [hl0])
        have hu9 : ∀ W, Below w.heap.size w W → Sl W (.slice u1 l.length u3) (li (lst n (pset l))) := fun W h => by rw [← hll]; exact hu.below h
        have hxl9 : ∀ x, x ∈ lst n (pset l) → x < n := fun x hx => (mem_lst.1 hx).1
        rw [hsk] at HCL
        have P := dbl_parts hg hsb hsk
        have hlen1 : l.length = (lst n (pset l)).length := by
          have := congrArg List.length hll
          rw [li_len] at this
          exact this
        have hlen2 : k.length = (lst n (pset k)).length := by
          have := congrArg List.length hlk
          rw [li_len] at this
          exact this
        have hmem : ∀ y, y ∈ csl n (dblq n zs (lst n (pset l)) (lst n (pset k))) n → ∃ a, a < n ∧ y = li (lst n (dblq n zs (lst n (pset l)) (lst n (pset k)) a)) ∧ (lst n (dblq n zs (lst n (pset l)) (lst n (pset k)) a)).head? = some a := fun y hy => by
          unfold csl at hy
          obtain ⟨a, ha, rfl⟩ := List.mem_map.1 hy
          rw [P.fsts, List.mem_filter, decide_eq_true_eq] at ha
          exact ⟨a, List.mem_range.1 ha.1, rfl, ha.2⟩
        have hhd : ∀ (y : List Int) (x : Int) (t : List Int) (a : Nat), y = x :: t → y = li (lst n (dblq n zs (lst n (pset l)) (lst n (pset k)) a)) → (lst n (dblq n zs (lst n (pset l)) (lst n (pset k)) a)).head? = some a → x = (a : Int) := fun y x t a h1 h2 h3 => by
          have h4 := congrArg List.head? (h1.symm.trans h2)
          unfold li at h4
          rw [List.head?_map, h3] at h4
          simpa using h4
        refine double_walk n v1 v2 v3 u1 u3 m1 m3 zs l k w hv hu hm hT hz hl8 hk8 0 0 0 0 0 0 true (csl n (dblq n zs (lst n (pset l)) (lst n (pset k))) n) (fun y => li (lst n (cjl n zs e (lst n (pset l)) (y.headD 0).toNat)))
          (hide fun W x y z h h1 h2 h3 => dlists_good (at0 W h) (dou_good n e x y z zs l k W h1 hg h2 h3 (hT.below h) hl0 hsb hk0 hsk)) HU (hide fun h => absurd rfl h)
          (hide fun _ => ⟨HLF, fun W h _ => HCL W h, fun h => absurd rfl h, fun _ h => absurd h (by decide), fun _ _ => ⟨rfl, rfl⟩⟩)
          (hide fun W r h hX hL hM hr => ?_) (hide fun y hy => ?_) (hide fun W y x t h hy hxt => ?_) (hide fun y hy => ?_)
        · have hls := lsas_good 75 #[.pointer (some ⟨w.heap.size, 0, none⟩), .pointer (some ⟨w.heap.size + 1, 0, none⟩), .pointer (some ⟨w.heap.size + 1 + 1, 0, none⟩)] r _ _ W hr (fun W => ent75 _ _ _ W) (fun W' hW => cl75_ok n e w.heap.size (w.heap.size + 1) (w.heap.size + 1 + 1) (.slice v1 v2 v3) (.slice u1 l.length u3) (.slice m1 k.length m3) zs (lst n (pset l)) (lst n (pset k)) W' hg (hv.below (bcat2 h hW)) (hu9 W' (bcat2 h hW)) (hm9 W' (bcat2 h hW)) hxl9 (blk_below hX hW) (Boxed.below hL hW) (Boxed.below hM hW))
          have heq : csl n (dblq n zs (lst n (pset l)) (lst n (pset k))) n = rcs n (dtq n zs e (lst n (pset l)) (lst n (pset k))) n := P.csl_rcs fun a b ha hb => (dbl_iff hg hxl9 ha hb).symm
          rw [decide_eq_true heq] at hls
          exact hls
        · obtain ⟨a, ha, rfl, hh⟩ := hmem y hy
          cases hlc : lst n (dblq n zs (lst n (pset l)) (lst n (pset k)) a) with
          | nil => rw [hlc] at hh; simp at hh
          | cons x t => exact ⟨(x : Int), li t, rfl⟩
        · obtain ⟨a, ha, hya, hh⟩ := hmem y hy
          have hxa := hhd y x t a hxt hya hh
          subst hxa
          have := shf_ok n e a (.slice v1 v2 v3) (.slice u1 l.length u3) zs (lst n (pset l)) W hg (hv.below h) ha (hu9 W h) hxl9
          rw [hxt]
          exact this
        · obtain ⟨a, ha, rfl, hh⟩ := hmem y hy
          have hd : (((li (lst n (dblq n zs (lst n (pset l)) (lst n (pset k)) a))).headD 0).toNat) = a := by
            cases hlc : lst n (dblq n zs (lst n (pset l)) (lst n (pset k)) a) with
            | nil => rw [hlc] at hh; simp at hh
            | cons x t =>
              rw [hlc] at hh
              simp at hh
              subst hh
              rfl
          refine ⟨by rw [hd, li_len]; exact Nat.le_trans (lst_len _ _) hg.tab.le, ?_⟩
          have hb := both_len (n := n) (cjl n zs e (lst n (pset l)) a) (pset k)
          rw [← hlk] at hb
          rw [hd, hb, li_len, hlen1, hlen2, ← Int.natCast_mul, ← Int.natCast_mul, dbl_size hg hsb hsk ha]
      · have hu2 : ufault n zs k = (7, 0) := by rw [ufault_u hg hk0, if_neg hsk]
        refine hbad 0 0 0 0 false (by rw [hw1, hu2]; simp) HU (hide fun h => absurd rfl h) (hide fun _ => ⟨HLF, fun W h _ => ?_, fun h => absurd rfl h, fun _ _ => by rw [hw1, hu2]; exact ⟨rfl, rfl⟩, fun _ h => absurd h (by decide)⟩)
        have := HCL W h
        rw [Bool.eq_false_iff.2 hsk] at this
        exact this
    · have hu2 : ufault n zs k = lfault n k := (ufault_s (by rw [sfault_l hg]; exact hk)).trans (sfault_l hg)
      exact hbad 0 0 _ _ false (by rw [hw1, hu2]; exact hk) HU (hide fun h => absurd rfl h) (hide fun _ => ⟨HLF, fun W h h9 => absurd h9 hk, fun _ => by rw [hw1, hu2]; exact ⟨rfl, rfl⟩, fun h9 => absurd h9 hk, fun h9 => absurd h9 hk⟩)
  · have hw1 : wfault N zs [l, k] = ufault N zs l := by
      show (if (ufault N zs l).1 ≠ 0 then ufault N zs l else wfault N zs [k]) = _
      rw [if_pos hc]
    exact hbad _ _ 0 0 false (by rw [hw1]; exact hc) HU (hide fun _ => by rw [hw1]; exact ⟨rfl, rfl⟩) (hide fun h => absurd h hc)
end Go.Proofs.YtoiemlnmcfmakaaDoor
