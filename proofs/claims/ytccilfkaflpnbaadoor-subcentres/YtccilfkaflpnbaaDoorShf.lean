/- What the document's IsNormal and Shifted answer. -/
import Derived.Test.YtccilfkaflpnbaaDoorSbf
import Derived.Test.YtccilfkaflpnbaaDoorNrm
namespace Go.Proofs.YtccilfkaflpnbaaDoor
open Go Go.RowKit

theorem rcj_lt {n e x a : Nat} {zs : List Int} (g : IsGrp n zs e) (hx : x < n) (ha : a < n) : Fin.cj (tm n zs) (iv n zs e) x a < n := List.mem_range.1 (Fin.cj_mem (grp_fg g) (grp_iv g) (List.mem_range.2 hx) (List.mem_range.2 ha))
theorem call96 (a : Int) (x y z : Value) (W : World) : Sem.run Tryd.prog (callFunc 106 (#[.int .i64 a] ++ #[x, y, z])) W = .ok (.enter 106 (#[.int .i64 a] ++ #[x, y, z])) W := by kernel_rfl
set_option maxRecDepth 100000 in
set_option maxHeartbeats 4000000 in
theorem shf1_ok (n e y a lb gb ab : Nat) (v lv : Value) (zs : List Int) (xs : List Nat) (w : World) (g : IsGrp n zs e) (hv : Sl w v zs) (ha : a < n) (hL : Boxed w lb 22 lv) (hsL : Sl w lv (li xs)) (hX : BoxG w gb n v) (hA : Boxed w ab 3 (.int .i64 a)) (hm : ∀ x, x ∈ xs → x < n) :
    Calls Tryd.prog 106 (#[.int .i64 y] ++ #[.pointer (some ⟨lb, 0, none⟩), .pointer (some ⟨gb, 0, none⟩), .pointer (some ⟨ab, 0, none⟩)]) w fun z w' => z = .returned (.bool (cjl n zs e xs a y)) ∧ Below w.heap.size w w' := by
  show Calls Tryd.prog 106 #[.int .i64 y, .pointer (some ⟨lb, 0, none⟩), .pointer (some ⟨gb, 0, none⟩), .pointer (some ⟨ab, 0, none⟩)] w _
  obtain ⟨la, cap, pb, po, rfl, hr, hp, hq3, hq4⟩ := hsL
  have hml : xs.length ≤ 9223372036854775807 := by rw [li_len] at hq3; unfold maxLen at hq4; omega
  rw [li_len] at *
  have HR := hide hr
  have HLL := hide (li_len xs)
  have HM9 := hide hm
  clear hr hq3 hq4 hm
  go_enter Tryd.func106, Tryd.ntmps106
  go_wp2
  go_loopw [6] (fun i wr => ∃ k : Nat, k ≤ xs.length ∧ i = .int .i64 k ∧ (∀ t, (ht : t < xs.length) → t < k → ¬ Fin.cj (tm n zs) (iv n zs e) xs[t] a = y) ∧ Below w.heap.size w wr) (fun i _ => xs.length - (intOf i).toNat)
  case atStart => exact ⟨0, Nat.zero_le _, rfl, fun t _ ht => by omega, Below.refl _ _⟩
  case round =>
    obtain ⟨k, hk, rfl, hno, hBw⟩ := hrel
    have HNO := hide hno
    clear hno
    have hLc := (Boxed.below hL hBw).cell
    by_cases hlt : k < xs.length
    · have hck := (HR.out.below hBw hp).cell k (by rw [HLL.out]; exact hlt)
      rw [li_get hlt] at hck
      obtain rfl := HR.out.at_ (by rw [HLL.out]; omega)
      obtain ⟨x, hxe⟩ : ∃ x, xs[k] = x := ⟨_, rfl⟩
      have hxn : x < n := by rw [← hxe]; exact HM9.out _ (List.getElem_mem hlt)
      rw [hxe] at hck
      have HXE := hide hxe
      clear hxe
      have HC := hide (fun W (h : Below wr.heap.size wr W) => rcj_ok n e x a v zs W g ((hv.below hBw).below h) hxn ha)
      obtain ⟨g0, g1, _, _⟩ := (blk_below hX hBw).two
      have a0 := (Boxed.below hA hBw).cell
      have hki : (k : Int) < (xs.length : Int) := by omega
      have hS : ∀ W, Below wr.heap.size wr W → (Below wr.heap.size wr W ∧ W.cell? ⟨lb, 0, none⟩ = some (.slice (some ⟨pb, po, none⟩) xs.length cap) ∧ W.cell? ⟨gb, 0, none⟩ = some (.int .i64 n) ∧ W.cell? ⟨gb, 1, none⟩ = some v ∧ W.cell? ⟨ab, 0, none⟩ = some (.int .i64 a) ∧ W.cell? ⟨pb, po + k, none⟩ = some (.int .i64 x)) := fun W h => ⟨h, below_cell h hLc, below_cell h g0, below_cell h g1, below_cell h a0, below_cell h hck⟩
      have hS0 := hS _ (bdrew (Below.refl _ wr))
      clear hck g0 g1 a0
      by_cases heq : Fin.cj (tm n zs) (iv n zs e) x a = y
      · have HD := hide (show cjl n zs e xs a y = true by
          unfold cjl
          rw [List.any_eq_true]
          exact ⟨xs[k], List.getElem_mem hlt, by rw [HXE.out]; simpa using heq⟩)
        rw [heq] at HC
        go_wp2_with fail
        go_region_held3 (fun W => Below wr.heap.size wr W ∧ W.cell? ⟨lb, 0, none⟩ = some (.slice (some ⟨pb, po, none⟩) xs.length cap) ∧ W.cell? ⟨gb, 0, none⟩ = some (.int .i64 n) ∧ W.cell? ⟨gb, 1, none⟩ = some v ∧ W.cell? ⟨ab, 0, none⟩ = some (.int .i64 a) ∧ W.cell? ⟨pb, po + k, none⟩ = some (.int .i64 x))
          (first | exact hS0 | assumption | exact hS _ (bcat2 (And.left ‹_›) hl1))
          (first | (go_at_call 53; refine (HC.out _ (And.left ‹_›)).mono ?_; rintro e3 W3 ⟨rfl, hl1⟩))
        all_goals (
          have hB9 := And.left ‹Below wr.heap.size wr W3 ∧ _›
          go_wp2
          go_ret
          exact ⟨by rw [HD.out]; first | rfl | simp, bcat hBw hB9 hBw.size⟩)
      · have HN := hide (show ∀ t, (ht : t < xs.length) → t < k + 1 → ¬ Fin.cj (tm n zs) (iv n zs e) xs[t] a = y from fun t h1 h2 => by
          by_cases e9 : t = k
          · subst e9; rw [HXE.out]; exact heq
          · exact HNO.out t h1 (by omega))
        generalize Fin.cj (tm n zs) (iv n zs e) x a = c at *
        have hci : ¬ (c : Int) = (y : Int) := by omega
        go_wp2_with fail
        go_region_held3 (fun W => Below wr.heap.size wr W ∧ W.cell? ⟨lb, 0, none⟩ = some (.slice (some ⟨pb, po, none⟩) xs.length cap) ∧ W.cell? ⟨gb, 0, none⟩ = some (.int .i64 n) ∧ W.cell? ⟨gb, 1, none⟩ = some v ∧ W.cell? ⟨ab, 0, none⟩ = some (.int .i64 a) ∧ W.cell? ⟨pb, po + k, none⟩ = some (.int .i64 x))
          (first | exact hS0 | assumption | exact hS _ (bcat2 (And.left ‹_›) hl1))
          (first | (go_at_call 53; refine (HC.out _ (And.left ‹_›)).mono ?_; rintro e3 W3 ⟨rfl, hl1⟩))
        all_goals (
          have hB9 := And.left ‹Below wr.heap.size wr W3 ∧ _›
          go_wp2
          go_roundw
          case rel => exact ⟨k + 1, by omega, by go_num, HN.out, bcat hBw hB9 hBw.size⟩
          case measure => simp [intOf]; omega)
    · have HD := hide (show cjl n zs e xs a y = false by
        unfold cjl
        rw [List.any_eq_false]
        intro z hz
        obtain ⟨t, ht, rfl⟩ := List.mem_iff_getElem.1 hz
        simpa using HNO.out t ht (by omega))
      go_wp2
      go_ret
      exact ⟨by rw [HD.out]; rfl, hBw⟩
end Go.Proofs.YtccilfkaflpnbaaDoor
