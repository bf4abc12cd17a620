/- The closures of the law SubCentres. -/
import Derived.Test.YtccilfkaflpnbaaDoorNrmL
namespace Go.Proofs.YtccilfkaflpnbaaDoor
open Go Go.RowKit

def cml (n : Nat) (zs : List Int) (xs : List Nat) (a : Nat) : Bool := xs.all fun x => decide (tm n zs a x = tm n zs x a)
set_option maxRecDepth 100000 in
set_option maxHeartbeats 4000000 in
theorem cl29_ok (n a gb : Nat) (v lv : Value) (zs : List Int) (xs : List Nat) (w : World) (ht : IsTab n zs) (hv : Sl w v zs) (ha : a < n) (hX : BoxG w gb n v) (hs : Sl w lv (li xs)) (hx : ∀ x, x ∈ xs → x < n) :
    Calls Tryd.prog 29 #[.int .i64 a, lv, .pointer (some ⟨gb, 0, none⟩)] w fun y w' => y = .returned (.bool (cml n zs xs a)) ∧ Below w.heap.size w w' := by
  obtain ⟨la, cap, pb, po, rfl, hr, hp, hq3, hq4⟩ := hs
  have hml : xs.length ≤ 9223372036854775807 := by rw [li_len] at hq3; unfold maxLen at hq4; omega
  rw [li_len] at *
  have HX := hide hx
  have HR := hide hr
  have HLL := hide (li_len xs)
  clear hq3 hq4 hx hr
  unfold cml
  go_enter Tryd.func29, Tryd.ntmps29
  go_wp2
  go_loopw [6] (fun i wr => ∃ k : Nat, k ≤ xs.length ∧ i = .int .i64 k ∧ (∀ t, (ht : t < xs.length) → t < k → tm n zs a xs[t] = tm n zs xs[t] a) ∧ Below w.heap.size w wr) (fun i _ => xs.length - (intOf i).toNat)
  case atStart => exact ⟨0, Nat.zero_le _, rfl, fun t _ ht => by omega, Below.refl _ _⟩
  case round =>
    obtain ⟨k, hk, rfl, hno, hB⟩ := hrel
    have HNO := hide hno
    clear hno
    by_cases hlt : k < xs.length
    · have hck := (HR.out.below hB hp).cell k (by rw [HLL.out]; exact hlt)
      rw [li_get hlt] at hck
      obtain rfl := HR.out.at_ (by rw [HLL.out]; omega)
      obtain ⟨x, hxe⟩ : ∃ x, xs[k] = x := ⟨_, rfl⟩
      have hxn : x < n := by rw [← hxe]; exact HX.out _ (List.getElem_mem hlt)
      rw [hxe] at hck
      have HXE := hide hxe
      clear hxe
      have hki : (k : Int) < (xs.length : Int) := by omega
      have HP := hide (fun W y z (h : Below wr.heap.size wr W) (hy : y < n) (hz : z < n) => M_ok n v zs y z W ht ((hv.below hB).below h) hy hz)
      obtain ⟨g0, g1, _, _⟩ := (blk_below hX hB).two
      have hS : ∀ W, Below wr.heap.size wr W → (Below wr.heap.size wr W ∧ W.cell? ⟨gb, 0, none⟩ = some (.int .i64 n) ∧ W.cell? ⟨gb, 1, none⟩ = some v ∧ W.cell? ⟨pb, po + k, none⟩ = some (.int .i64 x)) := fun W h => ⟨h, below_cell h g0, below_cell h g1, below_cell h hck⟩
      have hS0 := hS _ (bdrew (Below.refl _ wr))
      clear g0 g1 hck
      by_cases heq : tm n zs a x = tm n zs x a
      · have heqi : ((tm n zs a x : Nat) : Int) = ((tm n zs x a : Nat) : Int) := by rw [heq]
        go_wp2_with fail
        go_region_held3 (fun W => Below wr.heap.size wr W ∧ W.cell? ⟨gb, 0, none⟩ = some (.int .i64 n) ∧ W.cell? ⟨gb, 1, none⟩ = some v ∧ W.cell? ⟨pb, po + k, none⟩ = some (.int .i64 x))
          (first | exact hS0 | assumption | exact hS _ (bcat2 (And.left ‹_›) hl1))
          (first | (go_at_call 30; refine (HP.out _ _ _ (And.left ‹_›) (by assumption) (by assumption)).mono ?_; rintro e1 W1 ⟨rfl, hl1⟩))
        all_goals (
          have hB9 := And.left ‹Below wr.heap.size wr W1 ∧ _›
          go_wp2
          go_roundw
          case rel => exact ⟨k + 1, by omega, by go_num, fun t h1 h2 => by
            by_cases e9 : t = k
            · subst e9; rw [HXE.out]; exact heq
            · exact HNO.out t h1 (by omega), bcat hB hB9 hB.size⟩
          case measure => simp [intOf]; omega)
      · have heqi : ¬ ((tm n zs a x : Nat) : Int) = ((tm n zs x a : Nat) : Int) := by omega
        have HD := hide (show (xs.all fun x => decide (tm n zs a x = tm n zs x a)) = false by
          rw [List.all_eq_false]
          exact ⟨xs[k], List.getElem_mem hlt, by rw [HXE.out]; simpa using heq⟩)
        go_wp2_with fail
        go_region_held3 (fun W => Below wr.heap.size wr W ∧ W.cell? ⟨gb, 0, none⟩ = some (.int .i64 n) ∧ W.cell? ⟨gb, 1, none⟩ = some v ∧ W.cell? ⟨pb, po + k, none⟩ = some (.int .i64 x))
          (first | exact hS0 | assumption | exact hS _ (bcat2 (And.left ‹_›) hl1))
          (first | (go_at_call 30; refine (HP.out _ _ _ (And.left ‹_›) (by assumption) (by assumption)).mono ?_; rintro e1 W1 ⟨rfl, hl1⟩))
        all_goals (
          have hB9 := And.left ‹Below wr.heap.size wr W1 ∧ _›
          go_wp2
          go_ret
          exact ⟨by rw [HD.out]; rfl, bcat hB hB9 hB.size⟩)
    · have HD := hide (show (xs.all fun x => decide (tm n zs a x = tm n zs x a)) = true by
        rw [List.all_eq_true]
        intro z hz
        obtain ⟨t, ht, rfl⟩ := List.mem_iff_getElem.1 hz
        simpa using HNO.out t ht (by omega))
      go_wp2
      go_ret
      exact ⟨by rw [HD.out]; rfl, hB⟩
theorem call34 (a : Int) (x y : Value) (W : World) : Sem.run Tryd.prog (callFunc 34 (#[.int .i64 a] ++ #[x, y])) W = .ok (.enter 34 (#[.int .i64 a] ++ #[x, y])) W := by kernel_rfl
theorem call33 (x y z : Value) (W : World) : Sem.run Tryd.prog (callFunc 33 #[x, y, z]) W = .ok (.enter 33 #[x, y, z]) W := by kernel_rfl
set_option maxRecDepth 100000 in
set_option maxHeartbeats 4000000 in
theorem cl34_ok (n a gb cb lb : Nat) (v lv : Value) (zs : List Int) (xs : List Nat) (w : World) (ht : IsTab n zs) (hv : Sl w v zs) (ha : a < n) (hX : BoxG w gb n v) (hC : Boxed w cb 47 (.func (.func 29) #[] #[.pointer (some ⟨gb, 0, none⟩)])) (hL : Boxed w lb 22 lv) (hs : Sl w lv (li xs)) (hx : ∀ x, x ∈ xs → x < n) :
    Calls Tryd.prog 34 (#[.int .i64 a] ++ #[.pointer (some ⟨cb, 0, none⟩), .pointer (some ⟨lb, 0, none⟩)]) w fun y w' => y = .returned (.bool (cml n zs xs a)) ∧ Below w.heap.size w w' := by
  show Calls Tryd.prog 34 #[.int .i64 a, .pointer (some ⟨cb, 0, none⟩), .pointer (some ⟨lb, 0, none⟩)] w _
  have c0 := hC.cell
  have c1 := hL.cell
  go_enter Tryd.func34, Tryd.ntmps34
  go_wp2_with fail
  refine (cl29_ok n a gb v lv zs xs w ht hv ha hX hs hx).mono ?_
  rintro x w1 ⟨rfl, hb1⟩
  go_wp2
  go_ret
  exact ⟨rfl, hb1⟩
set_option maxRecDepth 100000 in
set_option maxHeartbeats 4000000 in
theorem cl33_ok (n gb cb lb : Nat) (v lv : Value) (zs : List Int) (xs : List Nat) (w : World) (ht : IsTab n zs) (hv : Sl w v zs) (hX : BoxG w gb n v) (hC : Boxed w cb 47 (.func (.func 29) #[] #[.pointer (some ⟨gb, 0, none⟩)])) (hL : Boxed w lb 22 lv) (hs : Sl w lv (li xs)) (hx : ∀ x, x ∈ xs → x < n) :
    Calls Tryd.prog 33 #[.pointer (some ⟨gb, 0, none⟩), .pointer (some ⟨cb, 0, none⟩), .pointer (some ⟨lb, 0, none⟩)] w fun x w' => ∃ r, x = .returned r ∧ Sl w' r (li (lst n (cml n zs xs))) ∧ Below w.heap.size w w' := by
  have h0 : 0 < w.heap.size := Nat.lt_of_le_of_lt (Nat.zero_le _) hX.lt
  obtain ⟨c0, c1, _, _⟩ := hX.two
  go_enter Tryd.func33, Tryd.ntmps33
  go_wp2_with fail
  refine (those_sl h0 (rthose_ok n 34 v _ (cml n zs xs) w ht.le (fun a W => call34 a _ _ W) (fun W x hW hx' => cl34_ok n x gb cb lb v lv zs xs W ht (hv.below hW) hx' (blk_below hX hW) (Boxed.below hC hW) (Boxed.below hL hW) (hs.below hW) hx))).mono ?_
  rintro x w1 ⟨r1, r2, r3, rfl, hr, hb1⟩
  go_wp2
  go_ret
  exact ⟨_, rfl, hr, hb1⟩
theorem call37 (a : Int) (x y : Value) (W : World) : Sem.run Tryd.prog (callFunc 37 (#[.int .i64 a] ++ #[x, y])) W = .ok (.enter 37 (#[.int .i64 a] ++ #[x, y])) W := by kernel_rfl
theorem call36 (x y z : Value) (W : World) : Sem.run Tryd.prog (callFunc 36 #[x, y, z]) W = .ok (.enter 36 #[x, y, z]) W := by kernel_rfl
set_option maxRecDepth 100000 in
set_option maxHeartbeats 4000000 in
theorem cl37_ok (n a gb cb lb : Nat) (v lv : Value) (zs : List Int) (xs : List Nat) (w : World) (ht : IsTab n zs) (hv : Sl w v zs) (ha : a < n) (hX : BoxG w gb n v) (hC : Boxed w cb 47 (.func (.func 29) #[] #[.pointer (some ⟨gb, 0, none⟩)])) (hL : Boxed w lb 22 lv) (hs : Sl w lv (li xs)) (hx : ∀ x, x ∈ xs → x < n) :
    Calls Tryd.prog 37 (#[.int .i64 a] ++ #[.pointer (some ⟨cb, 0, none⟩), .pointer (some ⟨lb, 0, none⟩)]) w fun y w' => y = .returned (.bool (cml n zs xs a)) ∧ Below w.heap.size w w' := by
  show Calls Tryd.prog 37 #[.int .i64 a, .pointer (some ⟨cb, 0, none⟩), .pointer (some ⟨lb, 0, none⟩)] w _
  have c0 := hC.cell
  have c1 := hL.cell
  go_enter Tryd.func37, Tryd.ntmps37
  go_wp2_with fail
  refine (cl29_ok n a gb v lv zs xs w ht hv ha hX hs hx).mono ?_
  rintro x w1 ⟨rfl, hb1⟩
  go_wp2
  go_ret
  exact ⟨rfl, hb1⟩
set_option maxRecDepth 100000 in
set_option maxHeartbeats 4000000 in
theorem cl36_ok (n gb cb lb : Nat) (v lv : Value) (zs : List Int) (xs : List Nat) (w : World) (ht : IsTab n zs) (hv : Sl w v zs) (hX : BoxG w gb n v) (hC : Boxed w cb 47 (.func (.func 29) #[] #[.pointer (some ⟨gb, 0, none⟩)])) (hL : Boxed w lb 22 lv) (hs : Sl w lv (li xs)) (hx : ∀ x, x ∈ xs → x < n) :
    Calls Tryd.prog 36 #[.pointer (some ⟨gb, 0, none⟩), .pointer (some ⟨cb, 0, none⟩), .pointer (some ⟨lb, 0, none⟩)] w fun x w' => ∃ r, x = .returned r ∧ Sl w' r (li (lst n (cml n zs xs))) ∧ Below w.heap.size w w' := by
  have h0 : 0 < w.heap.size := Nat.lt_of_le_of_lt (Nat.zero_le _) hX.lt
  obtain ⟨c0, c1, _, _⟩ := hX.two
  go_enter Tryd.func36, Tryd.ntmps36
  go_wp2_with fail
  refine (those_sl h0 (rthose_ok n 37 v _ (cml n zs xs) w ht.le (fun a W => call37 a _ _ W) (fun W x hW hx' => cl37_ok n x gb cb lb v lv zs xs W ht (hv.below hW) hx' (blk_below hX hW) (Boxed.below hC hW) (Boxed.below hL hW) (hs.below hW) hx))).mono ?_
  rintro x w1 ⟨r1, r2, r3, rfl, hr, hb1⟩
  go_wp2
  go_ret
  exact ⟨_, rfl, hr, hb1⟩
theorem call35 (a : Int) (W : World) : Sem.run Tryd.prog (callFunc 35 (#[.int .i64 a] ++ #[])) W = .ok (.enter 35 (#[.int .i64 a] ++ #[])) W := by kernel_rfl
theorem call39 (x y z : Value) (W : World) : Sem.run Tryd.prog (callFunc 39 #[x, y, z]) W = .ok (.enter 39 #[x, y, z]) W := by kernel_rfl
set_option maxRecDepth 100000 in
theorem cl35_ok (a : Int) (w : World) : Calls Tryd.prog 35 (#[.int .i64 a] ++ #[]) w fun e w' => e = .returned (.bool true) ∧ Below w.heap.size w w' := by
  show Calls Tryd.prog 35 #[.int .i64 a] w _
  go_enter Tryd.func35, Tryd.ntmps35
  go_wp2
  go_ret
  exact ⟨rfl, Below.refl _ _⟩
end Go.Proofs.YtccilfkaflpnbaaDoor
