/- What the law SubDedekind answers: true, at every table and every three lists. Condition: the library's table of places lies as its text lays it. -/
import Derived.Test.YtoiemlnmcfmakaaDoorProdW
namespace Go.Proofs.YtoiemlnmcfmakaaDoor
open Go Go.RowKit

theorem call63 (a : Int) (x y : Value) (W : World) : Sem.run Tryd.prog (callFunc 59 (#[.int .i64 a] ++ #[x, y])) W = .ok (.enter 59 (#[.int .i64 a] ++ #[x, y])) W := by kernel_rfl
set_option maxRecDepth 100000 in
set_option maxHeartbeats 1000000 in
/-- Is a number in one of two lists? -/
theorem orcl_ok (a : Int) (xb yb : Nat) (xv yv : Value) (xs ys : List Int) (w : World) (hX : Boxed w xb 22 xv) (hx : Sl w xv xs) (hY : Boxed w yb 22 yv) (hy : Sl w yv ys) :
    Calls Tryd.prog 59 (#[.int .i64 a] ++ #[.pointer (some ⟨xb, 0, none⟩), .pointer (some ⟨yb, 0, none⟩)]) w fun y w' => y = .returned (.bool (decide (a ∈ xs) || decide (a ∈ ys))) ∧ Below w.heap.size w w' := by
  show Calls Tryd.prog 59 #[.int .i64 a, .pointer (some ⟨xb, 0, none⟩), .pointer (some ⟨yb, 0, none⟩)] w _
  have c0 := hX.cell
  have c1 := hY.cell
  have H1 := hide (rhas_ok xv xs a w hx)
  have H2 := hide (rhas_ok yv ys a w hy)
  by_cases h1 : a ∈ xs
  · rw [decide_eq_true h1] at H1 ⊢
    go_enter Tryd.func59, Tryd.ntmps59
    go_wp2_with fail
    refine H1.out.mono ?_
    rintro x w1 ⟨rfl, rfl⟩
    go_wp2
    go_ret
    exact ⟨rfl, Below.refl _ _⟩
  · rw [decide_eq_false h1] at H1 ⊢
    go_enter Tryd.func59, Tryd.ntmps59
    go_wp2_with fail
    refine H1.out.mono ?_
    rintro x w1 ⟨rfl, rfl⟩
    go_wp2_with fail
    refine H2.out.mono ?_
    rintro x w2 ⟨rfl, rfl⟩
    go_wp2
    go_ret
    exact ⟨rfl, Below.refl _ _⟩

set_option maxRecDepth 100000 in
set_option maxHeartbeats 2000000 in
/-- Products of two lists. -/
theorem prdl_ok (n e gb : Nat) (v av bv : Value) (zs : List Int) (xs ys : List Nat) (w : World) (g : IsGrp n zs e) (hv : Sl w v zs) (hsA : Sl w av (li xs)) (hsB : Sl w bv (li ys)) (hX : BoxG w gb n v) (hm : ∀ a, a ∈ xs → a < n) :
    Calls Tryd.prog 61 #[av, bv, .pointer (some ⟨gb, 0, none⟩)] w fun x w' => ∃ r, x = .returned r ∧ Row w' w.heap.size r (li (lst n (prq n zs e xs ys))) ∧ Below w.heap.size w w' := by
  obtain ⟨a1, a2, a3, rfl⟩ := hsA.isSlice
  obtain ⟨b1, b2, b3, rfl⟩ := hsB.isSlice
  have hA0 := (Boxed.new w 22 (.slice a1 a2 a3)).alloc (.cells #[.slice b1 b2 b3] 22)
  have hB0 := Boxed.new (w.alloc (.cells #[.slice a1 a2 a3] 22)) 22 (.slice b1 b2 b3)
  rw [World.size_alloc] at hB0
  have hb0 : Below w.heap.size w ((w.alloc (.cells #[.slice a1 a2 a3] 22)).alloc (.cells #[.slice b1 b2 b3] 22)) := (balloc w _).alloc (by simp) _
  obtain ⟨c0, c1, _, _⟩ := (blk_below hX hb0).two
  go_enter Tryd.func61, Tryd.ntmps61
  go_wp2_with fail
  generalize (w.alloc (.cells #[.slice a1 a2 a3] 22)).alloc (.cells #[.slice b1 b2 b3] 22) = w0 at *
  refine (rthose_ok n 62 v _ (prq n zs e xs ys) w0 g.tab.le (fun a W => call66 a _ _ _ W) (fun W x hW hx => pcl66_ok n e x w.heap.size (w.heap.size + 1) gb v _ _ zs xs ys W g ((hv.below hb0).below hW) hx (Boxed.below hA0 hW) ((hsA.below hb0).below hW) (Boxed.below hB0 hW) ((hsB.below hb0).below hW) ((blk_below hX hb0) |> fun h => blk_below h hW) hm)).mono ?_
  rintro x w1 ⟨r, rfl, hr, hb1⟩
  go_wp2
  go_ret
  exact ⟨_, rfl, owns_mono hr hb0.size, bcat2 hb0 hb1⟩

/-- DEDEKIND'S LAW, of tests. -/
theorem dedekind_math {n e : Nat} {zs : List Int} (g : IsGrp n zs e) {p q r : Nat → Bool} (Sp : Fin.Sg (List.range n) (tm n zs) e (fun a => p a = true)) (Sr : Fin.Sg (List.range n) (tm n zs) e (fun a => r a = true)) (hpr : ∀ a, a < n → p a = true → r a = true) :
    lst n (prq n zs e (lst n p) (lst n fun a => q a && r a)) = lst n (fun a => prq n zs e (lst n p) (lst n q) a && r a) := by
  refine lst_congr fun x hx => ?_
  rw [Bool.eq_iff_iff, Bool.and_eq_true, prq_iff g hx, prq_iff g hx]
  constructor
  · rintro ⟨a, b, ha, hb, hpa, hqb, he⟩
    simp only [Bool.and_eq_true] at hqb
    refine ⟨⟨a, b, ha, hb, hpa, hqb.1, he⟩, ?_⟩
    rw [← he]
    exact Sr.mul a b ha hb (hpr a (List.mem_range.1 ha) hpa) hqb.2
  · rintro ⟨⟨a, b, ha, hb, hpa, hqb, he⟩, hrx⟩
    refine ⟨a, b, ha, hb, hpa, ?_, he⟩
    simp only [Bool.and_eq_true]
    refine ⟨hqb, ?_⟩
    have ha' := List.mem_range.1 ha
    have hb' := List.mem_range.1 hb
    obtain ⟨h1, h2, h3, _⟩ := iv_spec g ha'
    have h4 : b = tm n zs (iv n zs e a) x := by rw [← he, ← g.ass _ _ _ h1 ha' hb', h3, g.left b hb']
    rw [h4]
    exact Sr.mul _ _ (List.mem_range.2 h1) (List.mem_range.2 hx) (hpr _ h1 (Sp.inv (grp_fg g) ha (List.mem_range.2 h1) h2 hpa)) hrx
theorem both_li {n : Nat} {p q : Nat → Bool} : (li (lst n p)).filter (fun a => decide (a ∈ li (lst n q))) = li (lst n fun a => p a && q a) := by
  unfold li
  rw [List.filter_map]
  congr 1
  unfold lst
  rw [List.filter_filter]
  refine List.filter_congr fun a ha => ?_
  have h9 := mem_li (xs := lst n q) (a := a)
  unfold li lst at h9
  show (decide ((a : Int) ∈ List.map (fun (x : Nat) => (x : Int)) ((List.range n).filter q)) && p a) = (p a && q a)
  rw [Bool.and_comm]
  congr 1
  rw [Bool.eq_iff_iff, decide_eq_true_eq, h9, List.mem_filter]
  exact ⟨fun h => h.2, fun h => ⟨ha, h⟩⟩
end Go.Proofs.YtoiemlnmcfmakaaDoor
