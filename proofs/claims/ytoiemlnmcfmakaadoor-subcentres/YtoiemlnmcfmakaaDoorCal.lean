/- What the law SubCentres answers: true, at every table and every two lists; what it reaches, walked. -/
import Derived.Test.YtoiemlnmcfmakaaDoorNal
import Derived.Deep.AppendLies
import Derived.Deep.DeepCutAuto
import Derived.Laws.EntriesVeiled
namespace Go.Proofs.YtoiemlnmcfmakaaDoor
open Go Go.RowKit

def cml (n : Nat) (zs : List Int) (xs : List Nat) (a : Nat) : Bool := xs.all fun x => decide (tm n zs a x = tm n zs x a)
set_option maxRecDepth 100000 in
set_option maxHeartbeats 4000000 in
theorem cl29_ok (n a gb : Nat) (v lv : Value) (zs : List Int) (xs : List Nat) (w : World) (ht : IsTab n zs) (hv : Sl w v zs) (ha : a < n) (hX : BoxG w gb n v) (hs : Sl w lv (li xs)) (hx : ∀ x, x ∈ xs → x < n) :
    Calls Tryd.prog 30 #[.int .i64 a, lv, .pointer (some ⟨gb, 0, none⟩)] w fun y w' => y = .returned (.bool (cml n zs xs a)) ∧ Below w.heap.size w w' := by
  obtain ⟨la, cap, pb, po, rfl, hr, hp, hq3, hq4⟩ := hs
  have hml : xs.length ≤ 9223372036854775807 := by rw [li_len] at hq3; unfold maxLen at hq4; omega
  rw [li_len] at *
  have HX := hide hx
  have HR := hide hr
  have HLL := hide (li_len xs)
  clear hq3 hq4 hx hr
  unfold cml
  go_enter Tryd.func30, Tryd.ntmps30
  go_wp2
  go_loopw [6] (fun i wr => ∃ k : Nat, k ≤ xs.length ∧ i = .int .i64 k ∧ (∀ t, (ht : t < xs.length) → t < k → tm n zs a xs[t] = tm n zs xs[t] a) ∧ Below w.heap.size w wr) (fun i _ => xs.length - (intOf i).toNat)
  case atStart => exact ⟨0, Nat.zero_le _, rfl, fun t _ ht => by omega, Below.refl _ _⟩
  case round =>
    obtain ⟨k, hk, rfl, hno, hB⟩ := hrel
    have HNO := hide hno
    clear hno
    by_cases hlt : k < xs.length
    · have hck := (HR.out.below hB hp).cell k (by rw [HLL.out]; exact hlt)
      rw [li_get hlt] at hck
      obtain rfl := HR.out.at_ (by rw [HLL.out]; omega)
      obtain ⟨x, hxe⟩ : ∃ x, xs[k] = x := ⟨_, rfl⟩
      have hxn : x < n := by rw [← hxe]; exact HX.out _ (List.getElem_mem hlt)
      rw [hxe] at hck
      have HXE := hide hxe
      clear hxe
      have hki : (k : Int) < (xs.length : Int) := by omega
      have HP := hide (fun W y z (h : Below wr.heap.size wr W) (hy : y < n) (hz : z < n) => M_ok n v zs y z W ht ((hv.below hB).below h) hy hz)
      obtain ⟨g0, g1, _, _⟩ := (blk_below hX hB).two
      have hS : ∀ W, Below wr.heap.size wr W → (Below wr.heap.size wr W ∧ W.cell? ⟨gb, 0, none⟩ = some (.int .i64 n) ∧ W.cell? ⟨gb, 1, none⟩ = some v ∧ W.cell? ⟨pb, po + k, none⟩ = some (.int .i64 x)) := fun W h => ⟨h, below_cell h g0, below_cell h g1, below_cell h hck⟩
      have hS0 := hS _ (bdrew (Below.refl _ wr))
      clear g0 g1 hck
      by_cases heq : tm n zs a x = tm n zs x a
      · have heqi : ((tm n zs a x : Nat) : Int) = ((tm n zs x a : Nat) : Int) := by rw [heq]
        go_wp2_with fail
        go_region_held3 (fun W => Below wr.heap.size wr W ∧ W.cell? ⟨gb, 0, none⟩ = some (.int .i64 n) ∧ W.cell? ⟨gb, 1, none⟩ = some v ∧ W.cell? ⟨pb, po + k, none⟩ = some (.int .i64 x))
          (first | exact hS0 | assumption | exact hS _ (bcat2 (And.left ‹_›) hl1))
          (first | (go_at_call 31; refine (HP.out _ _ _ (And.left ‹_›) (by assumption) (by assumption)).mono ?_; rintro e1 W1 ⟨rfl, hl1⟩))
        all_goals (
          have hB9 := And.left ‹Below wr.heap.size wr W1 ∧ _›
          go_wp2
          go_roundw
          case rel => exact ⟨k + 1, by omega, by go_num, fun t h1 h2 => by
            by_cases e9 : t = k
            · subst e9; rw [HXE.out]; exact heq
            · exact HNO.out t h1 (by omega), bcat hB hB9 hB.size⟩
          case measure => simp [intOf]; omega)
      · have heqi : ¬ ((tm n zs a x : Nat) : Int) = ((tm n zs x a : Nat) : Int) := by omega
        have HD := hide (show (xs.all fun x => decide (tm n zs a x = tm n zs x a)) = false by
          rw [List.all_eq_false]
          exact ⟨xs[k], List.getElem_mem hlt, by rw [HXE.out]; simpa using heq⟩)
        go_wp2_with fail
        go_region_held3 (fun W => Below wr.heap.size wr W ∧ W.cell? ⟨gb, 0, none⟩ = some (.int .i64 n) ∧ W.cell? ⟨gb, 1, none⟩ = some v ∧ W.cell? ⟨pb, po + k, none⟩ = some (.int .i64 x))
          (first | exact hS0 | assumption | exact hS _ (bcat2 (And.left ‹_›) hl1))
          (first | (go_at_call 31; refine (HP.out _ _ _ (And.left ‹_›) (by assumption) (by assumption)).mono ?_; rintro e1 W1 ⟨rfl, hl1⟩))
        all_goals (
          have hB9 := And.left ‹Below wr.heap.size wr W1 ∧ _›
          go_wp2
          go_ret
          exact ⟨by rw [HD.out]; rfl, bcat hB hB9 hB.size⟩)
    · have HD := hide (show (xs.all fun x => decide (tm n zs a x = tm n zs x a)) = true by
        rw [List.all_eq_true]
        intro z hz
        obtain ⟨t, ht, rfl⟩ := List.mem_iff_getElem.1 hz
        simpa using HNO.out t ht (by omega))
      go_wp2
      go_ret
      exact ⟨by rw [HD.out]; rfl, hB⟩
theorem call34 (a : Int) (x y : Value) (W : World) : Sem.run Tryd.prog (callFunc 34 (#[.int .i64 a] ++ #[x, y])) W = .ok (.enter 34 (#[.int .i64 a] ++ #[x, y])) W := by kernel_rfl
theorem call33 (x y z : Value) (W : World) : Sem.run Tryd.prog (callFunc 32 #[x, y, z]) W = .ok (.enter 32 #[x, y, z]) W := by kernel_rfl
set_option maxRecDepth 100000 in
set_option maxHeartbeats 4000000 in
theorem cl34_ok (n a gb cb lb : Nat) (v lv : Value) (zs : List Int) (xs : List Nat) (w : World) (ht : IsTab n zs) (hv : Sl w v zs) (ha : a < n) (hX : BoxG w gb n v) (hC : Boxed w cb 44 (.func (.func 30) #[] #[.pointer (some ⟨gb, 0, none⟩)])) (hL : Boxed w lb 22 lv) (hs : Sl w lv (li xs)) (hx : ∀ x, x ∈ xs → x < n) :
    Calls Tryd.prog 34 (#[.int .i64 a] ++ #[.pointer (some ⟨cb, 0, none⟩), .pointer (some ⟨lb, 0, none⟩)]) w fun y w' => y = .returned (.bool (cml n zs xs a)) ∧ Below w.heap.size w w' := by
  show Calls Tryd.prog 34 #[.int .i64 a, .pointer (some ⟨cb, 0, none⟩), .pointer (some ⟨lb, 0, none⟩)] w _
  have c0 := hC.cell
  have c1 := hL.cell
  go_enter Tryd.func34, Tryd.ntmps34
  go_wp2_with fail
  refine (cl29_ok n a gb v lv zs xs w ht hv ha hX hs hx).mono ?_
  rintro x w1 ⟨rfl, hb1⟩
  go_wp2
  go_ret
  exact ⟨rfl, hb1⟩
set_option maxRecDepth 100000 in
set_option maxHeartbeats 4000000 in
theorem cl33_ok (n gb cb lb : Nat) (v lv : Value) (zs : List Int) (xs : List Nat) (w : World) (ht : IsTab n zs) (hv : Sl w v zs) (hX : BoxG w gb n v) (hC : Boxed w cb 44 (.func (.func 30) #[] #[.pointer (some ⟨gb, 0, none⟩)])) (hL : Boxed w lb 22 lv) (hs : Sl w lv (li xs)) (hx : ∀ x, x ∈ xs → x < n) :
    Calls Tryd.prog 32 #[.pointer (some ⟨gb, 0, none⟩), .pointer (some ⟨cb, 0, none⟩), .pointer (some ⟨lb, 0, none⟩)] w fun x w' => ∃ r, x = .returned r ∧ Sl w' r (li (lst n (cml n zs xs))) ∧ Below w.heap.size w w' := by
  have h0 : 0 < w.heap.size := Nat.lt_of_le_of_lt (Nat.zero_le _) hX.lt
  obtain ⟨c0, c1, _, _⟩ := hX.two
  go_enter Tryd.func32, Tryd.ntmps32
  go_wp2_with fail
  refine (those_sl h0 (rthose_ok n 34 v _ (cml n zs xs) w ht.le (fun a W => call34 a _ _ W) (fun W x hW hx' => cl34_ok n x gb cb lb v lv zs xs W ht (hv.below hW) hx' (blk_below hX hW) (Boxed.below hC hW) (Boxed.below hL hW) (hs.below hW) hx))).mono ?_
  rintro x w1 ⟨r1, r2, r3, rfl, hr, hb1⟩
  go_wp2
  go_ret
  exact ⟨_, rfl, hr, hb1⟩
theorem call37 (a : Int) (x y : Value) (W : World) : Sem.run Tryd.prog (callFunc 38 (#[.int .i64 a] ++ #[x, y])) W = .ok (.enter 38 (#[.int .i64 a] ++ #[x, y])) W := by kernel_rfl
theorem call36 (x y z : Value) (W : World) : Sem.run Tryd.prog (callFunc 37 #[x, y, z]) W = .ok (.enter 37 #[x, y, z]) W := by kernel_rfl
set_option maxRecDepth 100000 in
set_option maxHeartbeats 4000000 in
theorem cl37_ok (n a gb cb lb : Nat) (v lv : Value) (zs : List Int) (xs : List Nat) (w : World) (ht : IsTab n zs) (hv : Sl w v zs) (ha : a < n) (hX : BoxG w gb n v) (hC : Boxed w cb 44 (.func (.func 30) #[] #[.pointer (some ⟨gb, 0, none⟩)])) (hL : Boxed w lb 22 lv) (hs : Sl w lv (li xs)) (hx : ∀ x, x ∈ xs → x < n) :
    Calls Tryd.prog 38 (#[.int .i64 a] ++ #[.pointer (some ⟨cb, 0, none⟩), .pointer (some ⟨lb, 0, none⟩)]) w fun y w' => y = .returned (.bool (cml n zs xs a)) ∧ Below w.heap.size w w' := by
  show Calls Tryd.prog 38 #[.int .i64 a, .pointer (some ⟨cb, 0, none⟩), .pointer (some ⟨lb, 0, none⟩)] w _
  have c0 := hC.cell
  have c1 := hL.cell
  go_enter Tryd.func38, Tryd.ntmps38
  go_wp2_with fail
  refine (cl29_ok n a gb v lv zs xs w ht hv ha hX hs hx).mono ?_
  rintro x w1 ⟨rfl, hb1⟩
  go_wp2
  go_ret
  exact ⟨rfl, hb1⟩
set_option maxRecDepth 100000 in
set_option maxHeartbeats 4000000 in
theorem cl36_ok (n gb cb lb : Nat) (v lv : Value) (zs : List Int) (xs : List Nat) (w : World) (ht : IsTab n zs) (hv : Sl w v zs) (hX : BoxG w gb n v) (hC : Boxed w cb 44 (.func (.func 30) #[] #[.pointer (some ⟨gb, 0, none⟩)])) (hL : Boxed w lb 22 lv) (hs : Sl w lv (li xs)) (hx : ∀ x, x ∈ xs → x < n) :
    Calls Tryd.prog 37 #[.pointer (some ⟨gb, 0, none⟩), .pointer (some ⟨cb, 0, none⟩), .pointer (some ⟨lb, 0, none⟩)] w fun x w' => ∃ r, x = .returned r ∧ Sl w' r (li (lst n (cml n zs xs))) ∧ Below w.heap.size w w' := by
  have h0 : 0 < w.heap.size := Nat.lt_of_le_of_lt (Nat.zero_le _) hX.lt
  obtain ⟨c0, c1, _, _⟩ := hX.two
  go_enter Tryd.func37, Tryd.ntmps37
  go_wp2_with fail
  refine (those_sl h0 (rthose_ok n 38 v _ (cml n zs xs) w ht.le (fun a W => call37 a _ _ W) (fun W x hW hx' => cl37_ok n x gb cb lb v lv zs xs W ht (hv.below hW) hx' (blk_below hX hW) (Boxed.below hC hW) (Boxed.below hL hW) (hs.below hW) hx))).mono ?_
  rintro x w1 ⟨r1, r2, r3, rfl, hr, hb1⟩
  go_wp2
  go_ret
  exact ⟨_, rfl, hr, hb1⟩
theorem call35 (a : Int) (W : World) : Sem.run Tryd.prog (callFunc 36 (#[.int .i64 a] ++ #[])) W = .ok (.enter 36 (#[.int .i64 a] ++ #[])) W := by kernel_rfl
theorem call39 (x y z : Value) (W : World) : Sem.run Tryd.prog (callFunc 40 #[x, y, z]) W = .ok (.enter 40 #[x, y, z]) W := by kernel_rfl
set_option maxRecDepth 100000 in
theorem cl35_ok (a : Int) (w : World) : Calls Tryd.prog 36 (#[.int .i64 a] ++ #[]) w fun e w' => e = .returned (.bool true) ∧ Below w.heap.size w w' := by
  show Calls Tryd.prog 36 #[.int .i64 a] w _
  go_enter Tryd.func36, Tryd.ntmps36
  go_wp2
  go_ret
  exact ⟨rfl, Below.refl _ _⟩
end Go.Proofs.YtoiemlnmcfmakaaDoor

namespace Go.Proofs.YtoiemlnmcfmakaaDoor
open Go Go.RowKit

def cms (n : Nat) (zs : List Int) (e : Nat) (xs ys : List Nat) : List Nat := xs.flatMap fun a => ys.map fun b => Fin.cm (tm n zs) (iv n zs e) a b
theorem cms_snoc (n : Nat) (zs : List Int) (e : Nat) (xs ys : List Nat) {k : Nat} (hk : k < xs.length) : cms n zs e (xs.take (k + 1)) ys = cms n zs e (xs.take k) ys ++ ys.map fun b => Fin.cm (tm n zs) (iv n zs e) xs[k] b := by
  unfold cms
  rw [List.take_add_one, List.getElem?_eq_getElem hk, List.flatMap_append]; simp only [Option.toList, List.flatMap_cons, List.flatMap_nil, List.append_nil]
theorem cms_len (n : Nat) (zs : List Int) (e : Nat) (ys : List Nat) : ∀ xs, (cms n zs e xs ys).length = xs.length * ys.length
  | [] => by simp [cms]
  | x :: xs => by
    have := cms_len n zs e ys xs
    simp only [cms, List.flatMap_cons, List.length_append, List.length_map, List.length_cons, Nat.succ_mul] at this ⊢
    omega
theorem mem_cms {n : Nat} {zs : List Int} {e : Nat} {xs ys : List Nat} {y : Nat} : y ∈ cms n zs e xs ys ↔ ∃ a b, a ∈ xs ∧ b ∈ ys ∧ Fin.cm (tm n zs) (iv n zs e) a b = y := by
  simp only [cms, List.mem_flatMap, List.mem_map]
  exact ⟨fun ⟨a, h, x, h1, h2⟩ => ⟨a, x, h, h1, h2⟩, fun ⟨a, x, h, h1, h2⟩ => ⟨a, h, x, h1, h2⟩⟩
theorem cms_eq {n e : Nat} {zs : List Int} {xs ys : List Nat} : (fun a => decide (a ∈ cms n zs e xs ys)) = cmq n zs e xs ys := by
  funext y
  rw [Bool.eq_iff_iff, decide_eq_true_eq, mem_cms]
  unfold cmq
  simp only [List.any_eq_true, decide_eq_true_eq]
  exact ⟨fun ⟨a, b, h1, h2, h3⟩ => ⟨a, h1, b, h2, h3⟩, fun ⟨a, h1, b, h2, h3⟩ => ⟨a, b, h1, h2, h3⟩⟩
set_option maxRecDepth 100000 in
set_option maxHeartbeats 8000000 in
theorem cl39_ok (n e gb lb kb : Nat) (v lv kv : Value) (zs : List Int) (xs ys : List Nat) (p : Nat → Bool) (w : World) (g : IsGrp n zs e) (hv : Sl w v zs) (hX : BoxG w gb n v) (hL : Boxed w lb 22 lv) (hsL : Sl w lv (li xs)) (hK : Boxed w kb 22 kv) (hsK : Sl w kv (li ys)) (hm : ∀ x, x ∈ xs → x < n) (hm2 : ∀ x, x ∈ ys → x < n) (hxl : xs.length ≤ 60) (hyl : ys.length ≤ 60) (hp : ∀ a, a < n → (p a = true ↔ Mkd n zs e (fun a => decide (a ∈ cms n zs e xs ys)) a)) :
    Calls Tryd.prog 40 #[.pointer (some ⟨lb, 0, none⟩), .pointer (some ⟨kb, 0, none⟩), .pointer (some ⟨gb, 0, none⟩)] w fun x w' => ∃ r, x = .returned r ∧ Sl w' r (li (lst n p)) ∧ Below w.heap.size w w' := by
  obtain ⟨i0, hi, hz0, hz1, hz2⟩ := info_parts info3b
  have hn := g.tab.le
  have h00 : 0 < w.heap.size := Nat.lt_of_le_of_lt (Nat.zero_le _) hX.lt
  obtain ⟨la, cap, pb, po, rfl, hr, hpb, hq3, hq4⟩ := id hsL
  obtain ⟨ka, kcap, qb, qo, rfl, hr2, hqb, hq5, hq6⟩ := id hsK
  simp only [li_len] at *
  have HR := hide hr
  have HR2 := hide hr2
  have HLL2 := hide (li_len ys)
  have HM2 := hide hm2
  have HLL := hide (li_len xs)
  have HM9 := hide hm
  have HP := hide hp
  clear hr hq3 hq4 hm hp hr2 hq5 hq6 hm2
  go_enter Tryd.func40, Tryd.ntmps40
  go_wp2
  go_loopw [4, 5] (fun r i wr => ∃ k : Nat, k ≤ xs.length ∧ i = .int .i64 k ∧ Row wr w.heap.size r (li (cms n zs e (xs.take k) ys)) ∧ Below w.heap.size w wr) (fun _ i _ => xs.length - (intOf i).toNat)
  case atStart => exact ⟨0, Nat.zero_le _, rfl, nil_row _ _, Below.refl _ _⟩
  case round =>
    obtain ⟨k, hk, rfl, hrow, hB⟩ := hrel
    obtain ⟨r, rfl⟩ : ∃ r, r = u4 := ⟨_, rfl⟩
    obtain ⟨g0, g1, _, _⟩ := (blk_below hX hB).two
    have c2 := (Boxed.below hL hB).cell
    by_cases hlt : k < xs.length
    · have hki : (k : Int) < (xs.length : Int) := by omega
      obtain rfl := HR.out.at_ (by rw [HLL.out]; omega)
      obtain ⟨x, hxe⟩ : ∃ x, xs[k] = x := ⟨_, rfl⟩
      have hxn : x < n := by rw [← hxe]; exact HM9.out _ (List.getElem_mem hlt)
      have hcx := HR.out.cell k (by rw [HLL.out]; exact hlt)
      rw [li_get hlt, hxe] at hcx
      have HXE := hide hxe
      clear hxe
      go_wp2
      clear g0 g1 c2
      go_loopw [4, 6] (fun r i wr => ∃ j : Nat, j ≤ ys.length ∧ i = .int .i64 j ∧ Row wr w.heap.size r (li (cms n zs e (xs.take k) ys ++ (ys.take j).map fun b => Fin.cm (tm n zs) (iv n zs e) x b)) ∧ Below w.heap.size w wr) (fun _ i _ => ys.length - (intOf i).toNat)
      case atStart => exact ⟨0, Nat.zero_le _, rfl, by simpa using hrow, hB⟩
      case round =>
        clear hrow hB
        obtain ⟨j, hj, rfl, hrow, hB⟩ := hrel
        obtain ⟨r, rfl⟩ : ∃ r, r = u4 := ⟨_, rfl⟩
        have hBs := hB.size
        have d2 := (Boxed.below hK hB).cell
        by_cases hltj : j < ys.length
        · have hcj := HR2.out.cell j (by rw [HLL2.out]; exact hltj)
          rw [li_get hltj] at hcj
          obtain rfl := HR2.out.at_ (by rw [HLL2.out]; omega)
          obtain ⟨y, hye⟩ : ∃ y, ys[j] = y := ⟨_, rfl⟩
          have hyn : y < n := by rw [← hye]; exact HM2.out _ (List.getElem_mem hltj)
          have HE := hide (show li (cms n zs e (xs.take k) ys ++ (ys.take (j + 1)).map fun b => Fin.cm (tm n zs) (iv n zs e) x b) = li (cms n zs e (xs.take k) ys ++ (ys.take j).map fun b => Fin.cm (tm n zs) (iv n zs e) x b) ++ [(Fin.cm (tm n zs) (iv n zs e) x y : Int)] by
            rw [take_map_snoc hltj, ← List.append_assoc, li_app, hye]; rfl)
          rw [hye] at hcj
          clear hye
          have hji : (j : Int) < (ys.length : Int) := by omega
          have HMM := hide (fun W (h : Below w.heap.size w W) => rcm_ok n e x y v zs W g (hv.below h) hxn hyn)
          have HL9 := hide (show (li (cms n zs e (xs.take k) ys ++ (ys.take j).map fun b => Fin.cm (tm n zs) (iv n zs e) x b)).length ≤ 3720 by
            rw [li_len, List.length_append, cms_len, List.length_map, List.length_take, List.length_take]
            have := Nat.mul_le_mul (show min k xs.length ≤ 60 by omega) hyl
            omega)
          generalize Fin.cm (tm n zs) (iv n zs e) x y = c at *
          generalize li (cms n zs e (xs.take k) ys ++ (ys.take j).map fun b => Fin.cm (tm n zs) (iv n zs e) x b) = ls at *
          obtain ⟨g0, g1, _, _⟩ := hX.two
          have c2 := hL.cell
          have c3 := hK.cell
          have hS : ∀ W, Below w.heap.size w W → (Below w.heap.size w W ∧ W.cell? ⟨gb, 0, none⟩ = some (.int .i64 n) ∧ W.cell? ⟨gb, 1, none⟩ = some v ∧ W.cell? ⟨lb, 0, none⟩ = some (.slice (some ⟨pb, po, none⟩) xs.length cap) ∧ W.cell? ⟨kb, 0, none⟩ = some (.slice (some ⟨qb, qo, none⟩) ys.length kcap) ∧ W.cell? ⟨pb, po + k, none⟩ = some (.int .i64 x) ∧ W.cell? ⟨qb, qo + j, none⟩ = some (.int .i64 y)) := fun W h => ⟨h, below_cell h g0, below_cell h g1, below_cell h c2, below_cell h c3, below_cell h hcx, below_cell h hcj⟩
          have hS0 := hS _ (bdrew hB)
          go_wp2_with fail
          clear g0 g1 c2 c3 hcj d2
          go_region_held3 (fun W => Below w.heap.size w W ∧ W.cell? ⟨gb, 0, none⟩ = some (.int .i64 n) ∧ W.cell? ⟨gb, 1, none⟩ = some v ∧ W.cell? ⟨lb, 0, none⟩ = some (.slice (some ⟨pb, po, none⟩) xs.length cap) ∧ W.cell? ⟨kb, 0, none⟩ = some (.slice (some ⟨qb, qo, none⟩) ys.length kcap) ∧ W.cell? ⟨pb, po + k, none⟩ = some (.int .i64 x) ∧ W.cell? ⟨qb, qo + j, none⟩ = some (.int .i64 y))
            (first | exact hS0 | assumption | exact hS _ (bcat2 (And.left ‹_›) hl1) | exact hS _ hBa | exact hS _ hB2)
            (first
              | (go_at_call 41; refine (HMM.out _ (And.left ‹_›)).mono ?_; rintro e1 U1 ⟨rfl, hl1⟩; have hown : U1.ownsRow w.heap.size 3 1 r ls.length (ls.map (Value.int .i64)) := row_below hrow (undrew hl1); have hB1 := bcat2 (And.left ‹_›) hl1; have hBa := hB1.alloc hB1.size (.cells #[.int .i64 c] 3); have hsz9 := hB1.size)
              | (refine step_append_lies _ rfl _ _ 22 rfl w.heap.size 3 i0 (.int .i64 0) 1 8 under22b hi hz0 hz1 hz2 rfl (by decide) _ _ _ rfl (World.ownsRow.alloc hown _) ⟨U1.heap.size, 0, none⟩ 1 1 [.int .i64 c] rfl rfl (cell_one_new _ _ _) (by simp [Value.oneCell']) (by decide) (by unfold maxLen; have := HL9.out; omega) (by have := HL9.out; omega) (by simp; omega) _ rfl ?_; intro g' cap' w2 hown' hgrow _ _; have hB2 : Below w.heap.size w w2 := hBa.grown hgrow (by simp; omega) (fun t e => owns_ge hown t e)))
          all_goals (
            have hrow2 : Row w2 w.heap.size (.slice (some ⟨g', 0, none⟩) (ls.length + 1) cap') (li (cms n zs e (xs.take k) ys ++ (ys.take (j + 1)).map fun b => Fin.cm (tm n zs) (iv n zs e) x b)) := by
              unfold Row
              rw [HE.out]
              simpa using hown'
            go_wp2
            go_roundw
            case rel => exact ⟨j + 1, by omega, by go_num, hrow2, hB2⟩
            case measure => simp [intOf]; omega)
        · have hjj : j = ys.length := by omega
          subst hjj
          have hrow9 : Row wr w.heap.size r (li (cms n zs e (xs.take (k + 1)) ys)) := by rw [cms_snoc n zs e xs ys hlt, HXE.out]; simpa using hrow
          go_wp2
          go_roundw
          case rel => exact ⟨k + 1, by omega, by go_num, hrow9, hB⟩
          case measure => simp [intOf]; omega
    · have hkk : k = xs.length := by omega
      subst hkk
      rw [List.take_length] at hrow
      have hrs := row_sl hrow (Nat.lt_of_lt_of_le h00 hB.size)
      have HSP := hide (span_ok n e v r zs (cms n zs e xs ys) p wr (hv.below hB) g hrs (fun y hy => by
        obtain ⟨a, b, h1, h2, rfl⟩ := mem_cms.1 hy
        exact List.mem_range.1 (Fin.cm_mem (grp_fg g) (grp_iv g) (List.mem_range.2 (HM9.out a h1)) (List.mem_range.2 (HM2.out b h2)))) (by
        rw [cms_len]
        have := Nat.mul_le_mul hxl hyl
        omega) HP.out)
      go_wp2_with fail
      refine HSP.out.mono ?_
      rintro x w1 ⟨r9, rfl, hr9, hb1⟩
      have hs9 := row_sl hr9 (Nat.lt_of_lt_of_le (Nat.lt_of_lt_of_le h00 hB.size) hb1.size)
      go_wp2
      go_ret
      exact ⟨_, rfl, hs9, bcat hB hb1 hB.size⟩
end Go.Proofs.YtoiemlnmcfmakaaDoor

namespace Go.Proofs.YtoiemlnmcfmakaaDoor
open Go Go.RowKit

set_option maxRecDepth 100000 in
set_option maxHeartbeats 40000000 in
theorem centres_walk (N : Int) (v1 : Option Addr) (v2 v3 : Nat) (u1 : Option Addr) (u2 u3 : Nat) (m1 : Option Addr) (m2 m3 : Nat) (zs l k : List Int) (w : World) (hv : Sl w (.slice v1 v2 v3) zs) (hu : Sl w (.slice u1 u2 u3) l) (hm : Sl w (.slice m1 m2 m3) k) (hT : Tab w) (hz : zs.length * 8 ≤ 140737488355328) (hl8 : l.length * 8 ≤ 140737488355328) (hk8 : k.length * 8 ≤ 140737488355328)
    (c i cg ig d j : Int) (ra rz rd qa : List Int) (hcg : cg ≠ 0 → c ≠ 0) (hcd : c ≠ 0 → d = c ∧ j = i) (hqa : cg ≠ 0 → qa = [])
    (HA : Hid (∀ W x m, Below w.heap.size w W → Sl W x zs → Sl W m l → Calls Tryd.prog 27 #[.agg #[.int .i64 N, x], m] W (Ans c i ra W)))
    (HZ : Hid (∀ W x, Below w.heap.size w W → Sl W x zs → Calls Tryd.prog 28 #[.agg #[.int .i64 N, x]] W (Ans cg ig rz W)))
    (HD : Hid (∀ W x y z, Below w.heap.size w W → Sl W x zs → Sl W y l → Sl W z k → Calls Tryd.prog 29 #[.agg #[.int .i64 N, x], y, z] W (Ans d j rd W)))
    (HS : Hid (∀ W, Below w.heap.size w W → Calls Tryd.prog 19 #[.agg #[.int .i64 N, .slice v1 v2 v3], .slice u1 u2 u3] W fun e W' => e = .returned (.agg #[.int .i64 c, .int .i64 i]) ∧ Below W.heap.size W W'))
    (HG : Hid (∀ W, Below w.heap.size w W → Calls Tryd.prog 35 #[.agg #[.int .i64 N, .slice v1 v2 v3]] W fun e W' => e = .returned (.agg #[.int .i64 cg, .int .i64 ig]) ∧ Below W.heap.size W W'))
    (HM : Hid (c = 0 → ∀ W, Below w.heap.size w W → Calls Tryd.prog 39 #[.agg #[.int .i64 N, .slice v1 v2 v3], .slice m1 m2 m3] W fun e W' => e = .returned (.agg #[.int .i64 d, .int .i64 j]) ∧ Below W.heap.size W W'))
    (HTH : Hid (cg = 0 → ∀ W, Below w.heap.size w W → Calls Tryd.prog 33 #[.agg #[.int .i64 N, .slice v1 v2 v3], .func (.func 36) #[] #[]] W fun e W' => ∃ r1 r2 r3, e = .returned (.slice r1 r2 r3) ∧ Frs W.heap.size W' (.slice r1 r2 r3) qa ∧ Below W.heap.size W W'))
    (HL1 : Hid (∀ W r gb cb lb, Below w.heap.size w W → BoxG W gb N (.slice v1 v2 v3) → Boxed W cb 44 (.func (.func 30) #[] #[.pointer (some ⟨gb, 0, none⟩)]) → Boxed W lb 22 (.slice u1 u2 u3) → Sl W r ra → Calls Tryd.prog 24 #[r, .agg #[.int .i64 c, .int .i64 i], .agg #[.int .i64 c, .int .i64 i], .func (.func 32) #[] #[.pointer (some ⟨gb, 0, none⟩), .pointer (some ⟨cb, 0, none⟩), .pointer (some ⟨lb, 0, none⟩)]] W fun e W' => e = .returned (.bool true) ∧ Below W.heap.size W W'))
    (HL2 : Hid (∀ W r gb cb ab av, Below w.heap.size w W → BoxG W gb N (.slice v1 v2 v3) → Boxed W cb 44 (.func (.func 30) #[] #[.pointer (some ⟨gb, 0, none⟩)]) → Boxed W ab 22 av → (cg = 0 → Sl W av qa) → Sl W r rz → Calls Tryd.prog 24 #[r, .agg #[.int .i64 cg, .int .i64 ig], .agg #[.int .i64 cg, .int .i64 ig], .func (.func 37) #[] #[.pointer (some ⟨gb, 0, none⟩), .pointer (some ⟨cb, 0, none⟩), .pointer (some ⟨ab, 0, none⟩)]] W fun e W' => e = .returned (.bool true) ∧ Below W.heap.size W W'))
    (HL3 : Hid (∀ W r gb lb kb, Below w.heap.size w W → BoxG W gb N (.slice v1 v2 v3) → Boxed W lb 22 (.slice u1 u2 u3) → Boxed W kb 22 (.slice m1 m2 m3) → Sl W r rd → Calls Tryd.prog 24 #[r, .agg #[.int .i64 d, .int .i64 j], .agg #[.int .i64 d, .int .i64 j], .func (.func 40) #[] #[.pointer (some ⟨lb, 0, none⟩), .pointer (some ⟨kb, 0, none⟩), .pointer (some ⟨gb, 0, none⟩)]] W fun e W' => e = .returned (.bool true) ∧ Below W.heap.size W W')) :
    Calls Tryd.prog 4 #[.agg #[.int .i64 N, .slice v1 v2 v3], .slice u1 u2 u3, .slice m1 m2 m3] w fun e w' => e = .returned (.bool true) ∧ Below w.heap.size w w' := by
  obtain ⟨w0, hw0⟩ : ∃ w0, w0 = ((w.alloc (.cells #[.int .i64 N, .slice v1 v2 v3] 24)).alloc (.cells #[.slice u1 u2 u3] 22)).alloc (.cells #[.slice m1 m2 m3] 22) := ⟨_, rfl⟩
  have hBW : Below w.heap.size w w0 := by rw [hw0]; exact ((balloc w _).alloc (by simp) _).alloc (by simp; omega) _
  have hX : BoxG w0 w.heap.size N (.slice v1 v2 v3) := by rw [hw0]; exact ((blk0 (w := w) (T := 24) _ _).alloc _).alloc _
  have hL : Boxed w0 (w.heap.size + 1) 22 (.slice u1 u2 u3) := by
    have h := (Boxed.new (w.alloc (.cells #[.int .i64 N, .slice v1 v2 v3] 24)) 22 (.slice u1 u2 u3)).alloc (.cells #[.slice m1 m2 m3] 22)
    rw [World.size_alloc] at h
    rw [hw0]; exact h
  have hK : Boxed w0 (w.heap.size + 1 + 1) 22 (.slice m1 m2 m3) := by
    have h := Boxed.new ((w.alloc (.cells #[.int .i64 N, .slice v1 v2 v3] 24)).alloc (.cells #[.slice u1 u2 u3] 22)) 22 (.slice m1 m2 m3)
    rw [World.size_alloc, World.size_alloc] at h
    rw [hw0]; exact h
  have h00 := hT.lt
  obtain ⟨c0, c1, _, _⟩ := hX.two
  rw [hw0] at c0 c1
  go_enter Tryd.func4, Tryd.ntmps4
  go_wp2_with fail
  rw [← hw0]
  clear c0 c1 hw0
  refine (ownGroup_row N (.slice v1 v2 v3) zs w0 (hv.below hBW) hz).mono ?_
  rintro x w1 ⟨x9, rfl, hx9, hb1⟩
  obtain ⟨a1, a3, rfl⟩ := row_len hx9
  have hbn := bcat2 hb1 (balloc w1 (.cells #[.int .i64 N, .slice a1 zs.length a3] 24))
  have hGB := blk0 (w := w1) (T := 24) (.int .i64 N) (.slice a1 zs.length a3)
  have hx := (row_sl hx9 (by have := hBW.size; have := hb1.size; omega)).alloc (.cells #[.int .i64 N, .slice a1 zs.length a3] 24)
  have hL := Boxed.below hL hbn
  have hK := Boxed.below hK hbn
  have hX := blk_below hX hbn
  have hBW := bcat2 hBW hbn
  have hsx := hBW.size
  clear hbn hb1 hx9
  go_wp2_with fail
  generalize w1.alloc (.cells #[.int .i64 N, .slice a1 zs.length a3] 24) = wx at *
  generalize w1.heap.size = gb at *
  go_cut [8, 9] (fun s8 s9 wy => CRel wx ra c i s8 s9 wy)
  case first =>
    have HOWp := hide (fun W (h : Below wx.heap.size wx W) => own_any (.slice u1 u2 u3) l W (hu.below (bcat2 hBW h)) hl8)
    have HAp := hide (fun W m (h : Below wx.heap.size wx W) (hm : Sl W m l) => HA.out W (.slice a1 zs.length a3) m (bcat2 hBW h) (hx.below h) hm)
    obtain ⟨c0, c1, _, _⟩ := hGB.two
    have c2 := hL.cell
    have hS : ∀ W, Below wx.heap.size wx W → (Below wx.heap.size wx W ∧ W.cell? ⟨gb, 0, none⟩ = some (.int .i64 N) ∧ W.cell? ⟨gb, 1, none⟩ = some (.slice a1 zs.length a3) ∧ W.cell? ⟨w.heap.size + 1, 0, none⟩ = some (.slice u1 u2 u3)) := fun W h => ⟨h, below_cell h c0, below_cell h c1, below_cell h c2⟩
    have hS0 := hS _ (bdrew (Below.refl _ wx))
    go_region_held3 (fun W => Below wx.heap.size wx W ∧ W.cell? ⟨gb, 0, none⟩ = some (.int .i64 N) ∧ W.cell? ⟨gb, 1, none⟩ = some (.slice a1 zs.length a3) ∧ W.cell? ⟨w.heap.size + 1, 0, none⟩ = some (.slice u1 u2 u3))
      (first | exact hS0 | assumption | exact hS _ (bcat2 (And.left ‹_›) hl1) | exact hS _ (bcat2 (And.left ‹_›) (balloc _ _)) | (refine hS _ ?_; repeat (first | exact hU2 | (refine bAlloc ?_) | (refine bSet ?_ (by omega)))))
      (first
        | (go_at_call 16; refine (HOWp.out _ (And.left ‹_›)).mono ?_; rintro e1 U1 ⟨m9, rfl, hm9, hl1⟩; obtain ⟨m1, m3, rfl⟩ := own_slice hm9; have hlA := hl1; have hU1 := bcat2 (And.left ‹_›) hl1; have hzA := hlA.size; have hz1 := hU1.size; have hp1 := cell_eq hl1; have hq1 := frozen_eq hl1; have hmS := row_sl hm9 (by omega))
        | (go_at_call 27; refine (HAp.out _ _ (And.left ‹_›) (by first | exact hmS | exact hmS.alloc _)).mono ?_; rintro e2 U2 ⟨r1, r2, r3, rfl, hr, hl1⟩; have hlB := hl1; have hU2 := bcat2 (And.left ‹_›) hl1; have hz2 := hU2.size; have hp2 := cell_eq hl1; have hq2 := frozen_eq hl1))
    all_goals (go_wp2; go_meet)
    all_goals (have hzB := hlB.size; try simp only [World.size_alloc] at hzA; try simp only [World.size_alloc] at hzB)
    all_goals first
      | exact ⟨_, _, _, _, rfl, rfl, blk0 _ _, (hr.sl).alloc _, bAlloc hU2⟩
      | exact ⟨_, _, _, _, rfl, rfl, ((blk_below (blk0 _ _) hlB).set 0 _).set 1 _, (hr.set (by simp only [World.size_alloc]; omega)).sl2 (by simp only [World.size_alloc]; omega), bSet (bSet hU2 (by omega)) (by omega)⟩
      | exact ⟨_, _, _, _, rfl, rfl, ((blk_below (blk_below (blkd _ _) hlA) hlB).set 0 _).set 1 _, (hr.set (Nat.lt_of_lt_of_le (Nat.lt_succ_self _) (show wx.heap.size + 1 ≤ U1.heap.size by simpa using hlA.size))).sl2 (Nat.lt_of_lt_of_le (Nat.lt_succ_self _) (show wx.heap.size + 1 ≤ U1.heap.size by simpa using hlA.size)), bSet (bSet hU2 (by omega)) (by omega)⟩
  case rest =>
    obtain ⟨f8, r8, l8, k8, rfl, rfl, hF8, hR8, hbn⟩ := hcut
    have hGB := blk_below hGB hbn
    have hL := Boxed.below hL hbn
    have hX := blk_below hX hbn
    have hx := hx.below hbn
    have hBW := bcat2 hBW hbn
    have hK := Boxed.below hK hbn
    have hsx := hBW.size
    obtain ⟨c0, c1, _, _⟩ := hGB.two
    go_wp2_with fail
    clear c0 c1 hbn
    refine (HZ.out _ _ hBW hx).mono ?_
    rintro x w2 ⟨r10, l10, k10, rfl, hr, hb2⟩
    have hbn := bcat2 hb2 (balloc w2 (.cells #[.int .i64 cg, .int .i64 ig] 28))
    have hF10 := blk0 (w := w2) (T := 28) (.int .i64 cg) (.int .i64 ig)
    have hR10 := hr.sl.alloc (.cells #[.int .i64 cg, .int .i64 ig] 28)
    have hGB := blk_below hGB hbn
    have hL := Boxed.below hL hbn
    have hX := blk_below hX hbn
    have hx := hx.below hbn
    have hBW := bcat2 hBW hbn
    have hF8 := blk_below hF8 hbn
    have hR8 := hR8.below hbn
    have hK := Boxed.below hK hbn
    have hsx := hBW.size
    clear hbn hb2 hr
    go_wp2_with fail
    generalize w2.alloc (.cells #[.int .i64 cg, .int .i64 ig] 28) = wx at *
    generalize w2.heap.size = f10 at *
    go_cut [12, 13] (fun s12 s13 wy => CRel wx rd d j s12 s13 wy)
    case first =>
      have hux := hu.below hBW
      have hmx := hm.below hBW
      have HOWp := hide (fun W s q (h : Below wx.heap.size wx W) (hs : Sl wx s q) (hq : q.length * 8 ≤ 140737488355328) => own_any s q W (hs.below h) hq)
      have HDp := hide (fun W y z (h : Below wx.heap.size wx W) (hy : Sl W y l) (hz : Sl W z k) => HD.out W (.slice a1 zs.length a3) y z (bcat2 hBW h) (hx.below h) hy hz)
      obtain ⟨c0, c1, _, _⟩ := hGB.two
      have c2 := hL.cell
      have c3 := hK.cell
      have hS : ∀ W, Below wx.heap.size wx W → (Below wx.heap.size wx W ∧ W.cell? ⟨gb, 0, none⟩ = some (.int .i64 N) ∧ W.cell? ⟨gb, 1, none⟩ = some (.slice a1 zs.length a3) ∧ W.cell? ⟨w.heap.size + 1, 0, none⟩ = some (.slice u1 u2 u3) ∧ W.cell? ⟨w.heap.size + 1 + 1, 0, none⟩ = some (.slice m1 m2 m3)) := fun W h => ⟨h, below_cell h c0, below_cell h c1, below_cell h c2, below_cell h c3⟩
      have hS0 := hS _ (bdrew (Below.refl _ wx))
      have hk1 : Hid True := hide trivial
      clear hx hu hm hv
      go_region_held3 (fun W => Below wx.heap.size wx W ∧ W.cell? ⟨gb, 0, none⟩ = some (.int .i64 N) ∧ W.cell? ⟨gb, 1, none⟩ = some (.slice a1 zs.length a3) ∧ W.cell? ⟨w.heap.size + 1, 0, none⟩ = some (.slice u1 u2 u3) ∧ W.cell? ⟨w.heap.size + 1 + 1, 0, none⟩ = some (.slice m1 m2 m3))
        (first | exact hS0 | assumption | exact hS _ (bcat2 (And.left ‹_›) hl1) | exact hS _ (bcat2 (And.left ‹_›) (balloc _ _)) | (refine hS _ ?_; repeat (first | exact hU2 | (refine bAlloc ?_) | (refine bSet ?_ (by omega)))))
        (first
          | (go_at_call 16; clear hk1; refine (HOWp.out _ _ _ (And.left ‹_›) (by assumption) (by assumption)).mono ?_; rintro e1 U1 ⟨m9, rfl, hm9, hl1⟩; obtain ⟨n1, n3, rfl⟩ := own_slice hm9; have hlA := hl1; have hU1 := bcat2 (And.left ‹_›) hl1; have hzA := hlA.size; (try simp only [World.size_alloc] at hzA); have hz1 := hU1.size; have hp1 := cell_eq hl1; have hq1 := frozen_eq hl1; have hmS := row_sl hm9 (by omega))
          | (go_at_call 16; refine (HOWp.out _ _ _ (And.left ‹_›) (by assumption) (by assumption)).mono ?_; rintro e3 U3 ⟨m8, rfl, hm8, hl1⟩; obtain ⟨n4, n6, rfl⟩ := own_slice hm8; (first | have hmP := hmS.below hl1 | have hmP := (hmS.alloc _).below hl1); have hlC := hl1; have hU3 := bcat2 (And.left ‹_›) hl1; have hzC := hlC.size; (try simp only [World.size_alloc] at hzC); have hz3 := hU3.size; have hp3 := cell_eq hl1; have hq3 := frozen_eq hl1; (try have hp13 := cell_eq (bcat2 hlA hl1)); (try have hq13 := frozen_eq (bcat2 hlA hl1)); have hmQ := row_sl hm8 (by omega))
          | (go_at_call 29; refine (HDp.out _ _ _ (And.left ‹_›) (by first | assumption | exact Sl.alloc (by assumption) _) (by first | assumption | exact Sl.alloc (by assumption) _)).mono ?_; rintro e2 U2 ⟨r1, r2, r3, rfl, hr, hl1⟩; have hlB := hl1; have hU2 := bcat2 (And.left ‹_›) hl1; have hz2 := hU2.size; have hp2 := cell_eq hl1; have hq2 := frozen_eq hl1; (try have hp23 := cell_eq (bcat2 hlC hl1)); (try have hq23 := frozen_eq (bcat2 hlC hl1))))
      all_goals (go_wp2; go_meet)
      all_goals (have hzB := hlB.size; try simp only [World.size_alloc] at hzB)
      all_goals first
        | exact ⟨_, _, _, _, rfl, rfl, blk0 _ _, (hr.sl).alloc _, bAlloc hU2⟩
        | exact ⟨_, _, _, _, rfl, rfl, ((blk_below (blk0 _ _) hlB).set 0 _).set 1 _, (hr.set (by simp only [World.size_alloc]; omega)).sl2 (by simp only [World.size_alloc]; omega), bSet (bSet hU2 (by omega)) (by omega)⟩
        | exact ⟨_, _, _, _, rfl, rfl, ((blk_below (blk_below (blk0 _ _) hlC) hlB).set 0 _).set 1 _, (hr.set (by omega)).sl2 (by omega), bSet (bSet hU2 (by omega)) (by omega)⟩
        | exact ⟨_, _, _, _, rfl, rfl, ((blk_below (blk_below (blk_below (blkd _ _) hlA) hlC) hlB).set 0 _).set 1 _, (hr.set (Nat.lt_of_lt_of_le (Nat.lt_of_lt_of_le (Nat.lt_succ_self _) (show wx.heap.size + 1 ≤ U1.heap.size by simpa using hlA.size)) hzC)).sl2 (Nat.lt_of_lt_of_le (Nat.lt_of_lt_of_le (Nat.lt_succ_self _) (show wx.heap.size + 1 ≤ U1.heap.size by simpa using hlA.size)) hzC), bSet (bSet hU2 (by omega)) (by omega)⟩
    case rest =>
      obtain ⟨f12, r12, l12, k12, rfl, rfl, hF12, hR12, hbn⟩ := hcut
      have hK := Boxed.below hK hbn
      have hX := blk_below hX hbn
      have hL := Boxed.below hL hbn
      have hBW := bcat2 hBW hbn
      have hF8 := blk_below hF8 hbn
      have hR8 := hR8.below hbn
      have hF10 := blk_below hF10 hbn
      have hR10 := hR10.below hbn
      have hF12 := hF12
      clear hbn hGB hx HA HZ HD
      obtain ⟨cb, hcbd⟩ : ∃ cb, cb = wc.heap.size := ⟨_, rfl⟩
      obtain ⟨wb, hwb⟩ : ∃ wb, wb = wc.alloc (.cells #[.func (.func 30) #[] #[.pointer (some ⟨w.heap.size, 0, none⟩)]] 44) := ⟨_, rfl⟩
      have hbn : Below wc.heap.size wc wb := by rw [hwb]; exact balloc _ _
      have hCb : Boxed wb cb 44 (.func (.func 30) #[] #[.pointer (some ⟨w.heap.size, 0, none⟩)]) := by rw [hwb, hcbd]; exact Boxed.new wc 44 _
      have hK := Boxed.below hK hbn
      have hX := blk_below hX hbn
      have hL := Boxed.below hL hbn
      have hBW := bcat2 hBW hbn
      have hF8 := blk_below hF8 hbn
      have hR8 := hR8.below hbn
      have hF10 := blk_below hF10 hbn
      have hR10 := hR10.below hbn
      have hF12 := blk_below hF12 hbn
      have hR12 := hR12.below hbn
      clear hbn
      obtain ⟨c0, c1, _, _⟩ := hX.two
      have c2 := hL.cell
      rw [hwb] at c0 c1 c2
      go_wp2_with fail
      rw [← hwb, ← hcbd]
      clear hwb hcbd c0 c1 c2
      refine (HS.out _ hBW).mono ?_
      rintro x w6 ⟨rfl, hb6⟩
      have hb7 := bcat2 hb6 (balloc w6 (.cells #[.int .i64 c, .int .i64 i] 28))
      have hF15 := blk0 (w := w6) (T := 28) (.int .i64 c) (.int .i64 i)
      have hs15 := hb6.size
      go_wp2_with fail
      generalize w6.alloc (.cells #[.int .i64 c, .int .i64 i] 28) = w7 at *
      generalize w6.heap.size = f15 at *
      clear hb6
      refine (subBegun_any _ (hT.below (bcat2 hBW hb7))).mono ?_
      rintro x w8 ⟨rfl, hb8⟩
      have hF15 := blk_below hF15 hb8
      have hb8 := bcat2 hb7 hb8
      clear hb7
      obtain ⟨p0, p1, _, _⟩ := (blk_below hF8 hb8).two
      obtain ⟨q0, q1, _, _⟩ := hF15.two
      go_wp2_with fail
      clear p0 p1 q0 q1
      refine (HL1.out w8 _ _ _ _ (bcat2 hBW hb8) (blk_below hX hb8) (Boxed.below hCb hb8) (Boxed.below hL hb8) (hR8.below hb8)).mono ?_
      rintro x w9 ⟨rfl, hb9⟩
      have hF15 := blk_below hF15 hb9
      have hb9 := bcat2 hb8 hb9
      clear hb8 HL1 hF8 hR8 HS
      obtain ⟨wA, hwA⟩ : ∃ wA, wA = (w9.alloc (.cells #[] 3)).alloc (.cells #[.slice (some ⟨w9.heap.size, 0, none⟩) 0 0] 22) := ⟨_, rfl⟩
      have hb9A : Below w9.heap.size w9 wA := by rw [hwA]; exact (balloc w9 _).alloc (by simp) _
      have hAb : Boxed wA (w9.heap.size + 1) 22 (.slice (some ⟨w9.heap.size, 0, none⟩) 0 0) := by
        have h := Boxed.new (w9.alloc (.cells #[] 3)) 22 (.slice (some ⟨w9.heap.size, 0, none⟩) 0 0)
        rw [World.size_alloc] at h
        rw [hwA]; exact h
      have hlt15 := hF15.lt
      have hsb9 := hb9.size
      have hF15 := blk_below hF15 hb9A
      have hbA := bcat2 hb9 hb9A
      obtain ⟨c0, c1, _, _⟩ := (blk_below hX hbA).two
      rw [hwA] at c0 c1
      go_wp2_with fail
      rw [← hwA]
      clear hwA c0 c1 hb9A
      generalize w9.heap.size = ab0 at *
      refine (HG.out _ (bcat2 hBW hbA)).mono ?_
      rintro x w10 ⟨rfl, hb10⟩
      have hF15 := blk_below hF15 hb10
      have hAb := Boxed.below hAb hb10
      have hbA := bcat2 hbA hb10
      clear hb10
      by_cases hgz : cg = 0
      · subst hgz
        have HTH' := hide (HTH.out rfl)
        have hfd := field27 0 ig w10
        obtain ⟨c0, c1, _, _⟩ := (blk_below hX hbA).two
        go_wp2_with fail
        clear c0 c1
        clear hfd
        refine (HTH'.out _ (bcat2 hBW hbA)).mono ?_
        rintro x w11 ⟨t1, t2, t3, rfl, hr, hb11⟩
        have hF15 := blk_below hF15 hb11
        have hltA := hAb.lt
        have hAb := Boxed.below hAb hb11
        have hbA := bcat2 hbA hb11
        have hac := hAb.cell
        have haf := hAb.frozen
        obtain ⟨wS, hwS⟩ : ∃ wS, wS = w11.setCell ⟨ab0 + 1, 0, none⟩ (.slice t1 t2 t3) := ⟨_, rfl⟩
        have hSA : Sl wS (.slice t1 t2 t3) qa := by rw [hwS]; exact hr.sl2 hltA
        have hAb : Boxed wS (ab0 + 1) 22 (.slice t1 t2 t3) := by rw [hwS]; exact hAb.set _
        have hbR : Below wb.heap.size wb wS := by rw [hwS]; exact bSet hbA (by omega)
        have hF15 : Blk wS f15 28 [.int .i64 c, .int .i64 i] := by rw [hwS]; exact hF15.other (p := ⟨ab0 + 1, 0, none⟩) (by simp; omega) _
        clear hbA hr hb11
        by_cases hcz : c = 0
        · have HM' := hide (HM.out hcz)
          subst hcz
          have HGp := hide (fun W (h : Below wS.heap.size wS W) => HG.out W (bcat2 hBW (bcat2 hbR h)))
          have HLp := hide (fun W (h : Below wS.heap.size wS W) => HL2.out W (.slice r10 l10 k10) w.heap.size cb (ab0 + 1) (.slice t1 t2 t3) (bcat2 hBW (bcat2 hbR h)) (blk_below hX (bcat2 hbR h)) (Boxed.below hCb (bcat2 hbR h)) (Boxed.below hAb h) (fun _ => hSA.below h) (hR10.below (bcat2 hbR h)))
          obtain ⟨c0, c1, _, _⟩ := (blk_below hX hbR).two
          obtain ⟨p0, p1, _, _⟩ := (blk_below hF10 hbR).two
          have hS : ∀ W, Below wS.heap.size wS W → (Below wS.heap.size wS W ∧ W.cell? ⟨w.heap.size, 0, none⟩ = some (.int .i64 N) ∧ W.cell? ⟨w.heap.size, 1, none⟩ = some (.slice v1 v2 v3) ∧ W.cell? ⟨f10, 0, none⟩ = some (.int .i64 0) ∧ W.cell? ⟨f10, 1, none⟩ = some (.int .i64 ig)) := fun W h => ⟨h, below_cell h c0, below_cell h c1, below_cell h p0, below_cell h p1⟩
          have hS0 := hS _ (bdrew (Below.refl _ wS))
          clear c0 c1 p0 p1
          go_wp2_with fail
          rw [← hwS]
          clear hwS hac haf
          go_region_held3 (fun W => Below wS.heap.size wS W ∧ W.cell? ⟨w.heap.size, 0, none⟩ = some (.int .i64 N) ∧ W.cell? ⟨w.heap.size, 1, none⟩ = some (.slice v1 v2 v3) ∧ W.cell? ⟨f10, 0, none⟩ = some (.int .i64 0) ∧ W.cell? ⟨f10, 1, none⟩ = some (.int .i64 ig))
            (first | exact hS0 | assumption | exact hS _ (bcat2 (And.left ‹_›) hl1))
            (first
              | (go_at_call 35; refine (HGp.out _ (And.left ‹_›)).mono ?_; rintro e1 U1 ⟨rfl, hl1⟩)
              | (go_at_call 24; refine (HLp.out _ (And.left ‹_›)).mono ?_; rintro e1 U2 ⟨rfl, hl1⟩))
          all_goals (
            have hB9 := And.left ‹Below wS.heap.size wS U2 ∧ _›
            clear hS hS0 HGp HLp
            have hF15 := blk_below hF15 hB9
            have hbT := bcat2 hbR hB9
            obtain ⟨c0, c1, _, _⟩ := (blk_below hX hbT).two
            have c2 := (Boxed.below hK hbT).cell
            obtain ⟨q0, q1, _, _⟩ := hF15.two
            go_wp2_with fail
            clear c0 c1 c2 q0 q1
            refine (HM'.out _ (bcat2 hBW hbT)).mono ?_
            rintro x w15 ⟨rfl, hb15⟩
            have hF15 := blk_below hF15 hb15
            have hbT := bcat2 hbT hb15
            clear hb15
            obtain ⟨q0, q1, fq0, fq1⟩ := hF15.two
            obtain ⟨hF16, hB16⟩ := put2 hF15 hbT (by omega) d j
            obtain ⟨p0, p1, _, _⟩ := (blk_below hF12 hB16).two
            obtain ⟨s0, s1, _, _⟩ := hF16.two
            go_wp2_with fail
            clear q0 q1 fq0 fq1 p0 p1 s0 s1
            refine (HL3.out _ _ _ _ _ (bcat2 hBW hB16) (blk_below hX hB16) (Boxed.below hL hB16) (Boxed.below hK hB16) (hR12.below hB16)).mono ?_
            rintro x w17 ⟨rfl, hb17⟩
            go_wp2
            go_ret
            exact ⟨rfl, bcat2 hBW (bcat2 hB16 hb17)⟩)
        · obtain ⟨rfl, rfl⟩ := hcd hcz
          have hcz2 : (d == 0) = false := by simpa using hcz
          have HGp := hide (fun W (h : Below wS.heap.size wS W) => HG.out W (bcat2 hBW (bcat2 hbR h)))
          have HLp := hide (fun W (h : Below wS.heap.size wS W) => HL2.out W (.slice r10 l10 k10) w.heap.size cb (ab0 + 1) (.slice t1 t2 t3) (bcat2 hBW (bcat2 hbR h)) (blk_below hX (bcat2 hbR h)) (Boxed.below hCb (bcat2 hbR h)) (Boxed.below hAb h) (fun _ => hSA.below h) (hR10.below (bcat2 hbR h)))
          obtain ⟨c0, c1, _, _⟩ := (blk_below hX hbR).two
          obtain ⟨p0, p1, _, _⟩ := (blk_below hF10 hbR).two
          have hS : ∀ W, Below wS.heap.size wS W → (Below wS.heap.size wS W ∧ W.cell? ⟨w.heap.size, 0, none⟩ = some (.int .i64 N) ∧ W.cell? ⟨w.heap.size, 1, none⟩ = some (.slice v1 v2 v3) ∧ W.cell? ⟨f10, 0, none⟩ = some (.int .i64 0) ∧ W.cell? ⟨f10, 1, none⟩ = some (.int .i64 ig)) := fun W h => ⟨h, below_cell h c0, below_cell h c1, below_cell h p0, below_cell h p1⟩
          have hS0 := hS _ (bdrew (Below.refl _ wS))
          clear c0 c1 p0 p1
          go_wp2_with fail
          rw [← hwS]
          clear hwS hac haf
          go_region_held3 (fun W => Below wS.heap.size wS W ∧ W.cell? ⟨w.heap.size, 0, none⟩ = some (.int .i64 N) ∧ W.cell? ⟨w.heap.size, 1, none⟩ = some (.slice v1 v2 v3) ∧ W.cell? ⟨f10, 0, none⟩ = some (.int .i64 0) ∧ W.cell? ⟨f10, 1, none⟩ = some (.int .i64 ig))
            (first | exact hS0 | assumption | exact hS _ (bcat2 (And.left ‹_›) hl1))
            (first
              | (go_at_call 35; refine (HGp.out _ (And.left ‹_›)).mono ?_; rintro e1 U1 ⟨rfl, hl1⟩)
              | (go_at_call 24; refine (HLp.out _ (And.left ‹_›)).mono ?_; rintro e1 U2 ⟨rfl, hl1⟩))
          all_goals (
            have hB9 := And.left ‹Below wS.heap.size wS U2 ∧ _›
            clear hS hS0 HGp HLp
            have hF15 := blk_below hF15 hB9
            have hbT := bcat2 hbR hB9
            obtain ⟨q0, q1, _, _⟩ := hF15.two
            obtain ⟨p0, p1, _, _⟩ := (blk_below hF12 hbT).two
            go_wp2_with fail
            clear q0 q1 p0 p1
            refine (HL3.out _ _ _ _ _ (bcat2 hBW hbT) (blk_below hX hbT) (Boxed.below hL hbT) (Boxed.below hK hbT) (hR12.below hbT)).mono ?_
            rintro x w17 ⟨rfl, hb17⟩
            go_wp2
            go_ret
            exact ⟨rfl, bcat2 hBW (bcat2 hbT hb17)⟩)
      · have hcz := hcg hgz
        obtain ⟨rfl, rfl⟩ := hcd hcz
        have hcz2 : (d == 0) = false := by simpa using hcz
        have hgz2 : (cg == 0) = false := by simpa using hgz
        have hbR := hbA
        have hfd := field27 cg ig w10
        have HGp := hide (fun W (h : Below w10.heap.size w10 W) => HG.out W (bcat2 hBW (bcat2 hbR h)))
        have HLp := hide (fun W (h : Below w10.heap.size w10 W) => HL2.out W (.slice r10 l10 k10) w.heap.size cb (ab0 + 1) (.slice (some ⟨ab0, 0, none⟩) 0 0) (bcat2 hBW (bcat2 hbR h)) (blk_below hX (bcat2 hbR h)) (Boxed.below hCb (bcat2 hbR h)) (Boxed.below hAb h) (fun h9 => absurd h9 hgz) (hR10.below (bcat2 hbR h)))
        obtain ⟨c0, c1, _, _⟩ := (blk_below hX hbR).two
        obtain ⟨p0, p1, _, _⟩ := (blk_below hF10 hbR).two
        have hS : ∀ W, Below w10.heap.size w10 W → (Below w10.heap.size w10 W ∧ W.cell? ⟨w.heap.size, 0, none⟩ = some (.int .i64 N) ∧ W.cell? ⟨w.heap.size, 1, none⟩ = some (.slice v1 v2 v3) ∧ W.cell? ⟨f10, 0, none⟩ = some (.int .i64 cg) ∧ W.cell? ⟨f10, 1, none⟩ = some (.int .i64 ig)) := fun W h => ⟨h, below_cell h c0, below_cell h c1, below_cell h p0, below_cell h p1⟩
        have hS0 := hS _ (bdrew (Below.refl _ w10))
        clear c0 c1 p0 p1
        go_wp2_with fail
        go_region_held3 (fun W => Below w10.heap.size w10 W ∧ W.cell? ⟨w.heap.size, 0, none⟩ = some (.int .i64 N) ∧ W.cell? ⟨w.heap.size, 1, none⟩ = some (.slice v1 v2 v3) ∧ W.cell? ⟨f10, 0, none⟩ = some (.int .i64 cg) ∧ W.cell? ⟨f10, 1, none⟩ = some (.int .i64 ig))
          (first | exact hS0 | assumption | exact hS _ (bcat2 (And.left ‹_›) hl1))
          (first
            | (go_at_call 35; refine (HGp.out _ (And.left ‹_›)).mono ?_; rintro e1 U1 ⟨rfl, hl1⟩)
            | (go_at_call 24; refine (HLp.out _ (And.left ‹_›)).mono ?_; rintro e1 U2 ⟨rfl, hl1⟩))
        all_goals (
          have hB9 := And.left ‹Below w10.heap.size w10 U2 ∧ _›
          clear hS hS0 HGp HLp
          have hF15 := blk_below hF15 hB9
          have hbT := bcat2 hbR hB9
          obtain ⟨q0, q1, _, _⟩ := hF15.two
          obtain ⟨p0, p1, _, _⟩ := (blk_below hF12 hbT).two
          go_wp2_with fail
          clear q0 q1 p0 p1
          refine (HL3.out _ _ _ _ _ (bcat2 hBW hbT) (blk_below hX hbT) (Boxed.below hL hbT) (Boxed.below hK hbT) (hR12.below hbT)).mono ?_
          rintro x w17 ⟨rfl, hb17⟩
          go_wp2
          go_ret
          exact ⟨rfl, bcat2 hBW (bcat2 hbT hb17)⟩)
end Go.Proofs.YtoiemlnmcfmakaaDoor

namespace Go.Proofs.YtoiemlnmcfmakaaDoor
open Go Go.RowKit

theorem row_frs {B : Nat} {W : World} {v : Value} {zs : List Int} (h : Row W B v zs) (h0 : 0 < W.heap.size) : Frs B W v zs := ⟨h0, fun _ hk hs => row_sl (row_keep h hk) (Nat.lt_of_lt_of_le h0 hs)⟩
theorem centres_law (N : Int) (v u m : Value) (zs l k : List Int) (w : World) (hv : Sl w v zs) (hu : Sl w u l) (hm : Sl w m k) (hT : Tab w) (hz : zs.length * 8 ≤ 140737488355328) (hl8 : l.length * 8 ≤ 140737488355328) (hk8 : k.length * 8 ≤ 140737488355328) :
    Calls Tryd.prog 4 #[.agg #[.int .i64 N, v], u, m] w fun e w' => e = .returned (.bool true) ∧ Below w.heap.size w w' := by
  obtain ⟨v1, v2, v3, rfl⟩ := hv.isSlice
  obtain ⟨u1, u2, u3, rfl⟩ := hu.isSlice
  obtain ⟨m1, m2, m3, rfl⟩ := hm.isSlice
  have h0 := hT.lt
  have at0 : ∀ W : World, Below w.heap.size w W → 0 < W.heap.size := fun W h => Nat.lt_of_lt_of_le h0 h.size
  have HS := hide (fun W (h : Below w.heap.size w W) => rset_any N (.slice v1 v2 v3) (.slice u1 u2 u3) zs l W (hv.below h) (hu.below h))
  have HG := hide (fun W (h : Below w.heap.size w W) => groupFault_any N (.slice v1 v2 v3) zs W (hv.below h))
  by_cases hgf : (gfault N zs).1 = 0
  · obtain ⟨n, e, rfl, hg, hgf0⟩ := gfault_grp hgf
    have hn := hg.tab.le
    rw [hgf0] at HG
    rw [sfault_l hg] at HS
    have HZ := hide (fun W x (h : Below w.heap.size w W) (h1 : Sl W x zs) => ans_good (at0 W h) (centre_good n e x zs W h1 hg (hT.below h)))
    have HM := hide (fun W (h : Below w.heap.size w W) => rlist_any n (.slice v1 v2 v3) (.slice m1 m2 m3) k W hn (hm.below h))
    have HTH : Hid ((0 : Int) = 0 → ∀ W, Below w.heap.size w W → Calls Tryd.prog 33 #[.agg #[.int .i64 n, .slice v1 v2 v3], .func (.func 36) #[] #[]] W fun e W' => ∃ r1 r2 r3, e = .returned (.slice r1 r2 r3) ∧ Frs W.heap.size W' (.slice r1 r2 r3) (li (lst n fun _ => true)) ∧ Below W.heap.size W W') := hide (fun _ W h => by
      refine (rthose_ok n 36 (.slice v1 v2 v3) #[] (fun _ => true) W hn (fun a W => call35 a W) (fun W a _ _ => cl35_ok a W)).mono ?_
      rintro x w' ⟨r, rfl, hr, hb⟩
      have h9 := Nat.lt_of_lt_of_le (at0 W h) hb.size
      obtain ⟨a, l, c, rfl⟩ := (row_sl hr h9).isSlice
      exact ⟨a, l, c, rfl, row_frs hr h9, hb⟩)
    have hall : ∀ x, x ∈ lst n (fun _ => true) → x < n := fun x hx => (mem_lst.1 hx).1
    have HL2 := hide (fun W r gb cb ab av (h : Below w.heap.size w W) (hX : BoxG W gb n (.slice v1 v2 v3)) (hC : Boxed W cb 44 (.func (.func 30) #[] #[.pointer (some ⟨gb, 0, none⟩)])) (hA : Boxed W ab 22 av) (hs : (0 : Int) = 0 → Sl W av (li (lst n fun _ => true))) (hr : Sl W r (li (lst n (cenq n zs fun _ => true)))) => las_good 37 #[.pointer (some ⟨gb, 0, none⟩), .pointer (some ⟨cb, 0, none⟩), .pointer (some ⟨ab, 0, none⟩)] r (li (lst n (cenq n zs fun _ => true))) (li (lst n (cml n zs (lst n fun _ => true)))) W hr (fun W => call36 _ _ _ W) (fun W' hW => cl36_ok n gb cb ab (.slice v1 v2 v3) av zs (lst n fun _ => true) W' hg.tab (hv.below (bcat2 h hW)) (blk_below hX hW) (Boxed.below hC hW) (Boxed.below hA hW) ((hs rfl).below hW) hall))
    rw [show decide (li (lst n (cenq n zs fun _ => true)) = li (lst n (cml n zs (lst n fun _ => true)))) = true from decide_eq_true rfl] at HL2
    by_cases hl : (lfault n l).1 = 0
    · have hl0 := (lfault_zero hl).1
      rw [hl0] at HS
      have hli := set_lst hl
      have hxm : ∀ x, x ∈ lst n (pset l) → x < n := fun x hx => (mem_lst.1 hx).1
      have hxl : (lst n (pset l)).length ≤ 60 := Nat.le_trans (lst_len _ _) hn
      have hu9 : ∀ W, Below w.heap.size w W → Sl W (.slice u1 u2 u3) (li (lst n (pset l))) := fun W h => by rw [← hli]; exact hu.below h
      have HA := hide (fun W x m (h : Below w.heap.size w W) (h1 : Sl W x zs) (h2 : Sl W m l) => ans_good (at0 W h) (central_good n e x m zs l W h1 hg h2 (hT.below h) hl0))
      have HL1 := hide (fun W r gb cb lb (h : Below w.heap.size w W) (hX : BoxG W gb n (.slice v1 v2 v3)) (hC : Boxed W cb 44 (.func (.func 30) #[] #[.pointer (some ⟨gb, 0, none⟩)])) (hL : Boxed W lb 22 (.slice u1 u2 u3)) (hr : Sl W r (li (lst n (cenq n zs (pset l))))) => las_good 32 #[.pointer (some ⟨gb, 0, none⟩), .pointer (some ⟨cb, 0, none⟩), .pointer (some ⟨lb, 0, none⟩)] r (li (lst n (cenq n zs (pset l)))) (li (lst n (cml n zs (lst n (pset l))))) W hr (fun W => call33 _ _ _ W) (fun W' hW => cl33_ok n gb cb lb (.slice v1 v2 v3) (.slice u1 u2 u3) zs (lst n (pset l)) W' hg.tab (hv.below (bcat2 h hW)) (blk_below hX hW) (Boxed.below hC hW) (Boxed.below hL hW) (hu9 W' (bcat2 h hW)) hxm))
      rw [show decide (li (lst n (cenq n zs (pset l))) = li (lst n (cml n zs (lst n (pset l))))) = true from decide_eq_true rfl] at HL1
      by_cases hk : (lfault n k).1 = 0
      · have hk0 := (lfault_zero hk).1
        rw [hk0] at HM
        have hki := set_lst hk
        have hkm : ∀ x, x ∈ lst n (pset k) → x < n := fun x hx => (mem_lst.1 hx).1
        have hkl : (lst n (pset k)).length ≤ 60 := Nat.le_trans (lst_len _ _) hn
        have hm9 : ∀ W, Below w.heap.size w W → Sl W (.slice m1 m2 m3) (li (lst n (pset k))) := fun W h => by rw [← hki]; exact hm.below h
        obtain ⟨p, hp⟩ := mkd_test n zs e (cmq n zs e (lst n (pset l)) (lst n (pset k)))
        have HD := hide (fun W x y z (h : Below w.heap.size w W) (h1 : Sl W x zs) (h2 : Sl W y l) (h3 : Sl W z k) => ans_good (at0 W h) (comm_good n e x y z zs l k p W h1 hg h2 (hT.below h) hl0 h3 hk0 hp))
        have HL3 := hide (fun W r gb lb kb (h : Below w.heap.size w W) (hX : BoxG W gb n (.slice v1 v2 v3)) (hL : Boxed W lb 22 (.slice u1 u2 u3)) (hK : Boxed W kb 22 (.slice m1 m2 m3)) (hr : Sl W r (li (lst n p))) => las_good 40 #[.pointer (some ⟨lb, 0, none⟩), .pointer (some ⟨kb, 0, none⟩), .pointer (some ⟨gb, 0, none⟩)] r (li (lst n p)) (li (lst n p)) W hr (fun W => call39 _ _ _ W) (fun W' hW => cl39_ok n e gb lb kb (.slice v1 v2 v3) (.slice u1 u2 u3) (.slice m1 m2 m3) zs (lst n (pset l)) (lst n (pset k)) p W' hg (hv.below (bcat2 h hW)) (blk_below hX hW) (Boxed.below hL hW) (hu9 W' (bcat2 h hW)) (Boxed.below hK hW) (hm9 W' (bcat2 h hW)) hxm hkm hxl hkl (by rw [cms_eq]; exact hp)))
        rw [show decide (li (lst n p) = li (lst n p)) = true by simp] at HL3
        exact centres_walk n v1 v2 v3 u1 u2 u3 m1 m2 m3 zs l k w hv hu hm hT hz hl8 hk8 0 0 0 0 0 0 _ _ _ (li (lst n fun _ => true)) (fun h => absurd rfl h) (fun h => absurd rfl h) (fun h => absurd rfl h) HA HZ HD HS HG (hide fun _ => HM.out) HTH HL1 HL2 HL3
      · have HD := hide (fun W x y z (h : Below w.heap.size w W) (h1 : Sl W x zs) (h2 : Sl W y l) (h3 : Sl W z k) => ans_bad (at0 W h) (commx_good n e x y z zs l k W h1 hg h2 (hT.below h) hl0 h3 hk))
        exact centres_walk n v1 v2 v3 u1 u2 u3 m1 m2 m3 zs l k w hv hu hm hT hz hl8 hk8 0 0 0 0 _ _ _ _ _ (li (lst n fun _ => true)) (fun h => absurd rfl h) (fun h => absurd rfl h) (fun h => absurd rfl h) HA HZ HD HS HG (hide fun _ => HM.out) HTH HL1 HL2 (hide fun W r gb lb kb h _ _ _ hr => las_nil 40 _ _ _ r W (at0 W h) hr hk)
    · have hsf : (sfault n zs l).1 ≠ 0 := by rw [sfault_l hg]; exact hl
      have HA := hide (fun W x m (h : Below w.heap.size w W) (h1 : Sl W x zs) (h2 : Sl W m l) => ans_bad (at0 W h) (central_bad n x m zs l W h1 h2 hsf))
      have HD := hide (fun W x y z (h : Below w.heap.size w W) (h1 : Sl W x zs) (h2 : Sl W y l) (_ : Sl W z k) => ans_bad (at0 W h) (comm_bad n x y z zs l W h1 h2 hsf))
      rw [sfault_l hg] at HA HD
      exact centres_walk n v1 v2 v3 u1 u2 u3 m1 m2 m3 zs l k w hv hu hm hT hz hl8 hk8 _ _ 0 0 _ _ _ _ _ (li (lst n fun _ => true)) (fun h => absurd rfl h) (fun _ => ⟨rfl, rfl⟩) (fun h => absurd rfl h) HA HZ HD HS HG (hide fun h => absurd h hl) HTH (hide fun W r gb cb lb h _ _ _ hr => las_nil 32 _ _ _ r W (at0 W h) hr hl) HL2 (hide fun W r gb lb kb h _ _ _ hr => las_nil 40 _ _ _ r W (at0 W h) hr hl)
  · have hsf : (sfault N zs l).1 ≠ 0 := by rw [sfault_g hgf]; exact hgf
    have HA := hide (fun W x m (h : Below w.heap.size w W) (h1 : Sl W x zs) (h2 : Sl W m l) => ans_bad (at0 W h) (central_bad N x m zs l W h1 h2 hsf))
    have HZ := hide (fun W x (h : Below w.heap.size w W) (h1 : Sl W x zs) => ans_bad (at0 W h) (centre_bad N x zs W h1 hgf))
    have HD := hide (fun W x y z (h : Below w.heap.size w W) (h1 : Sl W x zs) (h2 : Sl W y l) (_ : Sl W z k) => ans_bad (at0 W h) (comm_bad N x y z zs l W h1 h2 hsf))
    exact centres_walk N v1 v2 v3 u1 u2 u3 m1 m2 m3 zs l k w hv hu hm hT hz hl8 hk8 _ _ _ _ _ _ _ _ _ [] (fun _ => hsf) (fun _ => ⟨rfl, rfl⟩) (fun _ => rfl) HA HZ HD HS HG (hide fun h => absurd h hsf) (hide fun h => absurd h hgf) (hide fun W r gb cb lb h _ _ _ hr => las_nil 32 _ _ _ r W (at0 W h) hr hsf) (hide fun W r gb cb ab av h _ _ _ _ hr => las_nil 37 _ _ _ r W (at0 W h) hr hgf) (hide fun W r gb lb kb h _ _ _ hr => las_nil 40 _ _ _ r W (at0 W h) hr hsf)
end Go.Proofs.YtoiemlnmcfmakaaDoor
