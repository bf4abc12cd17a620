/- The closures of HomChecks. -/
import Derived.Test.YtodabkjadejekaaDoorHy
import Derived.Test.YtodabkjadejekaaDoorRef1
namespace Go.Proofs.YtodabkjadejekaaDoor
open Go Go.RowKit

theorem call22 (a : Int) (x y : Value) (W : World) : Sem.run Tryd.prog (callFunc 22 (#[.int .i64 a] ++ #[x, y])) W = .ok (.enter 22 (#[.int .i64 a] ++ #[x, y])) W := by kernel_rfl
theorem call25 (a : Int) (x : Value) (W : World) : Sem.run Tryd.prog (callFunc 25 (#[.int .i64 a] ++ #[x])) W = .ok (.enter 25 (#[.int .i64 a] ++ #[x])) W := by kernel_rfl
theorem call20 (x y z : Value) (W : World) : Sem.run Tryd.prog (callFunc 20 #[x, y, z]) W = .ok (.enter 20 #[x, y, z]) W := by kernel_rfl
theorem call24 (x y : Value) (W : World) : Sem.run Tryd.prog (callFunc 24 #[x, y]) W = .ok (.enter 24 #[x, y]) W := by kernel_rfl
set_option maxRecDepth 100000 in
set_option maxHeartbeats 4000000 in
theorem hc11_ok (n m d a mb yb : Nat) (y mv : Value) (ys ms : List Int) (w : World) (hy : Sl w y ys) (hh : IsGrp m ys d) (hm : Sl w mv ms) (hl : ms.length = n) (ha : a < n) (hM : Boxed w mb 22 mv) (hY : BoxG w yb m y) :
    Calls Tryd.prog 22 (#[.int .i64 a] ++ #[.pointer (some ⟨mb, 0, none⟩), .pointer (some ⟨yb, 0, none⟩)]) w fun x w' => x = .returned (.bool (kerq ms d a)) ∧ Below w.heap.size w w' := by
  show Calls Tryd.prog 22 #[.int .i64 a, .pointer (some ⟨mb, 0, none⟩), .pointer (some ⟨yb, 0, none⟩)] w _
  have HE := hide (fun W (h : Below w.heap.size w W) => E_ok m y ys W hh.tab (hy.below h))
  rw [hh.one] at HE
  have hmc := hM.cell
  obtain ⟨k0, k1, _, _⟩ := hY.two
  obtain ⟨ma, mc, mk, mo, rfl, hmr, hmb, _, hmm⟩ := hm
  have hat := hmr.at_ (by omega)
  have hcl := hmr.cell a (by omega)
  rw [hl] at *
  clear hmr hmm hl
  obtain rfl := hat
  have hai : (a : Int) < (n : Int) := by omega
  have HN : Hid (kerq ms d a = decide (ms[a]?.getD 0 = (d : Int))) := rfl
  generalize ms[a]?.getD 0 = z at *
  have hS : ∀ W, Below w.heap.size w W → (Below w.heap.size w W ∧ W.cell? ⟨mb, 0, none⟩ = some (.slice (some ⟨mk, mo, none⟩) n mc) ∧ W.cell? ⟨mk, mo + a, none⟩ = some (.int .i64 z) ∧ W.cell? ⟨yb, 0, none⟩ = some (.int .i64 m) ∧ W.cell? ⟨yb, 1, none⟩ = some y) := fun W h => ⟨h, below_cell h hmc, below_cell h hcl, below_cell h k0, below_cell h k1⟩
  have hS0 := hS _ (bdrew (Below.refl _ w))
  clear hmc hcl k0 k1
  by_cases heq : z = (d : Int)
  · rw [decide_eq_true heq] at HN
    subst heq
    go_enter Tryd.func22, Tryd.ntmps22
    go_wp2_with fail
    go_region_held3 (fun W => Below w.heap.size w W ∧ W.cell? ⟨mb, 0, none⟩ = some (.slice (some ⟨mk, mo, none⟩) n mc) ∧ W.cell? ⟨mk, mo + a, none⟩ = some (.int .i64 (d : Int)) ∧ W.cell? ⟨yb, 0, none⟩ = some (.int .i64 m) ∧ W.cell? ⟨yb, 1, none⟩ = some y)
      (first | exact hS0 | assumption | exact hS _ (bcat2 (And.left ‹_›) hl1))
      (first | (go_at_call 23; refine (HE.out _ (And.left ‹_›)).mono ?_; rintro e1 W1 ⟨rfl, hl1⟩))
    all_goals (
      have hB9 := And.left ‹Below w.heap.size w W1 ∧ _›
      go_wp2
      go_ret
      exact ⟨by rw [HN.out]; simp, hB9⟩)
  · rw [decide_eq_false heq] at HN
    go_enter Tryd.func22, Tryd.ntmps22
    go_wp2_with fail
    go_region_held3 (fun W => Below w.heap.size w W ∧ W.cell? ⟨mb, 0, none⟩ = some (.slice (some ⟨mk, mo, none⟩) n mc) ∧ W.cell? ⟨mk, mo + a, none⟩ = some (.int .i64 z) ∧ W.cell? ⟨yb, 0, none⟩ = some (.int .i64 m) ∧ W.cell? ⟨yb, 1, none⟩ = some y)
      (first | exact hS0 | assumption | exact hS _ (bcat2 (And.left ‹_›) hl1))
      (first | (go_at_call 23; refine (HE.out _ (And.left ‹_›)).mono ?_; rintro e1 W1 ⟨rfl, hl1⟩))
    all_goals (
      have hB9 := And.left ‹Below w.heap.size w W1 ∧ _›
      go_wp2
      go_ret
      exact ⟨by rw [HN.out]; simp [heq], hB9⟩)
set_option maxRecDepth 100000 in
set_option maxHeartbeats 4000000 in
theorem hc1_ok (n m d mb xb yb : Nat) (v y mv : Value) (ys ms : List Int) (w : World) (hn : n ≤ 60) (hy : Sl w y ys) (hh : IsGrp m ys d) (hm : Sl w mv ms) (hl : ms.length = n) (hX : BoxG w xb n v) (hM : Boxed w mb 22 mv) (hY : BoxG w yb m y) :
    Calls Tryd.prog 20 #[.pointer (some ⟨xb, 0, none⟩), .pointer (some ⟨mb, 0, none⟩), .pointer (some ⟨yb, 0, none⟩)] w fun x w' => ∃ r, x = .returned r ∧ Sl w' r (li (lst n (kerq ms d))) ∧ Below w.heap.size w w' := by
  have HT := hide (rthose_ok n 22 v #[.pointer (some ⟨mb, 0, none⟩), .pointer (some ⟨yb, 0, none⟩)] (kerq ms d) w hn (fun a W => call22 a _ _ W) (fun W a hW ha => hc11_ok n m d a mb yb y mv ys ms W (hy.below hW) hh (hm.below hW) hl ha (Boxed.below hM hW) (blk_below hY hW)))
  obtain ⟨k0, k1, _, _⟩ := hX.two
  go_enter Tryd.func20, Tryd.ntmps20
  go_wp2_with fail
  refine HT.out.mono ?_
  rintro x w1 ⟨r, rfl, hr, hb1⟩
  have HZ := hide (show 0 < w1.heap.size by have h1 := hM.lt; have h2 := hb1.size; omega)
  go_wp2
  go_ret
  exact ⟨_, rfl, Sl.of_own hr HZ.out, hb1⟩
set_option maxRecDepth 100000 in
set_option maxHeartbeats 4000000 in
theorem hc21_ok (a mb : Nat) (mv : Value) (xs : List Nat) (w : World) (hm : Sl w mv (li xs)) (hM : Boxed w mb 22 mv) :
    Calls Tryd.prog 25 (#[.int .i64 a] ++ #[.pointer (some ⟨mb, 0, none⟩)]) w fun x w' => x = .returned (.bool (decide (a ∈ xs))) ∧ Below w.heap.size w w' := by
  show Calls Tryd.prog 25 #[.int .i64 a, .pointer (some ⟨mb, 0, none⟩)] w _
  have HH := hide (rhas_ok mv (li xs) a w hm)
  have hmc := hM.cell
  have HD := hide (show decide ((a : Int) ∈ li xs) = decide (a ∈ xs) by
    rw [decide_eq_decide]
    simp only [li, List.mem_map]
    exact ⟨fun ⟨b, hb, he⟩ => by have : b = a := by omega
                                 exact this ▸ hb, fun h => ⟨a, h, rfl⟩⟩)
  obtain ⟨m1, m2, m3, rfl⟩ := hm.isSlice
  go_enter Tryd.func25, Tryd.ntmps25
  go_wp2_with fail
  refine HH.out.mono ?_
  rintro x w1 ⟨rfl, rfl⟩
  go_wp2
  go_ret
  exact ⟨by rw [← HD.out]; rfl, Below.refl _ _⟩
set_option maxRecDepth 100000 in
set_option maxHeartbeats 4000000 in
theorem hc2_ok (m mb yb : Nat) (y mv : Value) (xs : List Nat) (w : World) (hm6 : m ≤ 60) (hm : Sl w mv (li xs)) (hM : Boxed w mb 22 mv) (hY : BoxG w yb m y) :
    Calls Tryd.prog 24 #[.pointer (some ⟨yb, 0, none⟩), .pointer (some ⟨mb, 0, none⟩)] w fun x w' => ∃ r, x = .returned r ∧ Sl w' r (li (lst m (fun a => decide (a ∈ xs)))) ∧ Below w.heap.size w w' := by
  have HT := hide (rthose_ok m 25 y #[.pointer (some ⟨mb, 0, none⟩)] (fun a => decide (a ∈ xs)) w hm6 (fun a W => call25 a _ W) (fun W a hW _ => hc21_ok a mb mv xs W (hm.below hW) (Boxed.below hM hW)))
  obtain ⟨k0, k1, _, _⟩ := hY.two
  go_enter Tryd.func24, Tryd.ntmps24
  go_wp2_with fail
  refine HT.out.mono ?_
  rintro x w1 ⟨r, rfl, hr, hb1⟩
  have HZ := hide (show 0 < w1.heap.size by have h1 := hM.lt; have h2 := hb1.size; omega)
  go_wp2
  go_ret
  exact ⟨_, rfl, Sl.of_own hr HZ.out, hb1⟩
end Go.Proofs.YtodabkjadejekaaDoor
