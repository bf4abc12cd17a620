/- TableChecks returns true at every table that fits the machine and every int. -/
import Derived.Test.YtpcgacelljbkdaaBegun
import Derived.Test.YtpcgacelljbkdaaFrame
namespace Go.Proofs.Ytpcgacelljbkdaa
open Go Go.RowKit

theorem call23 (x : Value) (W : World) : Sem.run Try.prog (callFunc 23 #[x]) W = .ok (.enter 23 #[x]) W := by kernel_rfl
theorem call26 (x y : Value) (W : World) : Sem.run Try.prog (callFunc 26 #[x, y]) W = .ok (.enter 26 #[x, y]) W := by kernel_rfl

set_option maxRecDepth 100000 in
set_option maxHeartbeats 8000000 in
theorem eBox_ok (b n : Nat) (v : Value) (zs : List Int) (w : World) (ht : IsTab n zs) (hg : BoxG w b n v) (hv : Sl w v zs) :
    Calls Try.prog 23 #[.pointer (some ⟨b, 0, none⟩)] w fun e w' => e = .returned (.int .i64 (one n zs)) ∧ Below w.heap.size w w' := by
  obtain ⟨c0, c1, _, _⟩ := hg.two
  go_enter Try.func23, Try.ntmps23
  go_wp2_with fail
  refine (E_ok n v zs w ht hv).mono ?_
  rintro x w1 ⟨rfl, hb1⟩
  go_wp2
  go_ret
  exact ⟨retI rfl, hb1⟩

set_option maxRecDepth 100000 in
set_option maxHeartbeats 8000000 in
theorem iBox_ok (b b2 n a : Nat) (v : Value) (zs : List Int) (w : World) (ht : IsTab n zs) (hg : BoxG w b n v) (h2 : Boxed w b2 3 (.int .i64 a)) (hv : Sl w v zs) (ha : a < n) :
    Calls Try.prog 26 #[.pointer (some ⟨b, 0, none⟩), .pointer (some ⟨b2, 0, none⟩)] w fun e w' => e = .returned (.int .i64 (invR n zs a)) ∧ Below w.heap.size w w' := by
  obtain ⟨c0, c1, _, _⟩ := hg.two
  have c2 := h2.cell
  go_enter Try.func26, Try.ntmps26
  go_wp2_with fail
  refine (I_ok n a v zs w ht hv ha).mono ?_
  rintro x w1 ⟨rfl, hb1⟩
  go_wp2
  go_ret
  exact ⟨retI rfl, hb1⟩

theorem sl1 (W : World) (a : Int) : Sl (W.alloc (.cells #[.int .i64 a] 3)) (.slice (some ⟨W.heap.size, 0, none⟩) 1 1) [a] :=
  Sl.of_blk (zs := [a]) (World.alloc_heap_new W _) rfl (by simp)

/-- In a group, what is an inverse for the program is one for the document. -/
theorem invR_grp {n e : Nat} {zs : List Int} (h : IsGrp n zs e) {a : Nat} (ha : a < n) : invR n zs a = invL n zs (one n zs) a :=
  invR_eq h.tab (by rw [h.one]; omega) (fun t ht => assB_iff.2 (fun b c hb hc => h.ass t b c ht hb hc)) ha

set_option maxRecDepth 100000 in
set_option maxHeartbeats 8000000 in
theorem checks_any (N a : Int) (v : Value) (zs : List Int) (w : World) (hv : SlA w v zs) (hbz : zs.length * 8 ≤ 140737488355328) :
    Calls Try.prog 3 #[.agg #[.int .i64 N, v], .int .i64 a] w fun e w' => e = .returned (.bool true) ∧ Below w.heap.size w w' := by
  obtain ⟨c, i, hci⟩ : ∃ c i, gfault N zs = (c, i) := ⟨_, _, rfl⟩
  obtain ⟨d, j, hdj⟩ : ∃ d j, tfault N zs a = (d, j) := ⟨_, _, rfl⟩
  have Hown := hide (fun (W : World) (h : Sl W v zs) => ownGroup_any N v zs W h hbz)
  have Hck := hide (fun (r : Value) (W : World) (h : Sl W r zs) => check_any N r zs W h)
  have Hone := hide (fun (r : Value) (W : World) (h : Sl W r zs) => one_any N r zs W h)
  have Hinv := hide (fun (r : Value) (W : World) (h : Sl W r zs) => inv_any N a r zs W h)
  have Habe := hide (fun (r : Value) (W : World) (h : Sl W r zs) => abelian_any N r zs W h)
  have Hgf := hide (fun (r : Value) (W : World) (h : Sl W r zs) => groupFault_any N r zs W h)
  have Hsam := hide (fun (r s : Value) (W : World) (h : Sl W r zs) (k : Sl W s zs) => sameGroup_any N N r s zs zs W h k)
  have Htf := hide (fun (r s : Value) (W : World) (h : Sl W r zs) (k : Sl W s [a]) => thingFault_any N r s zs [a] W h k (by simp))
  rw [hci] at Hck Hone Habe Hgf
  rw [hdj] at Hinv
  rw [tfl_one, hdj] at Htf
  simp only [decide_true, Bool.and_self] at Hsam
  have HE : Hid (∀ (b : Nat) (r : Value) (W : World), BoxG W b N r → Sl W r zs → c = 0 → Calls Try.prog 23 #[.pointer (some ⟨b, 0, none⟩)] W fun e w' => e = .returned (.int .i64 (one N.toNat zs)) ∧ Below W.heap.size W w') := fun b r W hg h h0 => by
    obtain ⟨n, e, rfl, hgr, _⟩ := gfault_grp (N := N) (zs := zs) (by rw [hci]; exact h0)
    rw [Int.toNat_natCast]
    exact eBox_ok b n r zs W hgr.tab hg h
  have HI : Hid (∀ (b b2 : Nat) (r : Value) (W : World), BoxG W b N r → Boxed W b2 3 (.int .i64 a) → Sl W r zs → d = 0 → Calls Try.prog 26 #[.pointer (some ⟨b, 0, none⟩), .pointer (some ⟨b2, 0, none⟩)] W fun e w' => e = .returned (.int .i64 (invL N.toNat zs (one N.toNat zs) a.toNat)) ∧ Below W.heap.size W w') := fun b b2 r W hg h2 h h0 => by
    obtain ⟨n, e, k, rfl, rfl, hgr, hkn, _⟩ := tfault_grp (N := N) (zs := zs) (a := a) (by rw [hdj]; exact h0)
    rw [Int.toNat_natCast, Int.toNat_natCast, ← invR_grp hgr hkn]
    exact iBox_ok b b2 n k r zs W hgr.tab hg h2 h hkn
  have HC : Hid (∀ (r : Value) (W : World), Sl W r zs → c = 0 → Calls Try.prog 21 #[.agg #[.int .i64 N, r]] W fun e w' => e = .returned (.bool (comB N.toNat zs)) ∧ Below W.heap.size W w') := fun r W h h0 => by
    obtain ⟨n, e, rfl, hgr, _⟩ := gfault_grp (N := N) (zs := zs) (by rw [hci]; exact h0)
    rw [Int.toNat_natCast]
    exact commutes_ok n r zs W hgr.tab h
  generalize one N.toNat zs = o at *
  generalize invL N.toNat zs o a.toNat = iv at *
  generalize comB N.toNat zs = cm at *
  clear hci hdj
  obtain ⟨w0, hw0⟩ : ∃ w0, w0 = (w.alloc (.cells #[.int .i64 N, v] 24)).alloc (.cells #[.int .i64 a] 3) := ⟨_, rfl⟩
  have hB0 : Below w.heap.size w w0 := by rw [hw0]; exact (balloc w _).alloc (by simp) _
  have hg0 : BoxG w0 w.heap.size N v := by rw [hw0]; exact (blk0 _ _).alloc _
  have ha0 : Boxed w0 (w.heap.size + 1) 3 (.int .i64 a) := by
    rw [hw0]
    have := Boxed.new (w.alloc (.cells #[.int .i64 N, v] 24)) 3 (.int .i64 a)
    rw [World.size_alloc] at this; exact this
  have hv0 := hv.up hB0 (by have := hg0.lt; omega)
  obtain ⟨k0, k1, _, _⟩ := hg0.two
  rw [hw0] at k0 k1
  go_enter Try.func3, Try.ntmps3
  go_wp2_with fail
  rw [← hw0]
  refine (Hown.out _ hv0).mono ?_
  rintro e w1 ⟨u, rfl, hu1, hb1⟩
  clear k0 k1 hw0
  obtain ⟨a9, cap9, _, _, rfl, _⟩ := id hu1
  generalize zs.length = l9 at *
  have hA1 := balloc w1 (.cells #[.int .i64 N, .slice a9 l9 cap9] 24)
  have hX1 : BoxG (w1.alloc (.cells #[.int .i64 N, .slice a9 l9 cap9] 24)) w1.heap.size N (.slice a9 l9 cap9) := blk0 _ _
  have hu1 := hu1.below hA1
  have to1 := bcat2 hb1 hA1
  go_wp2_with fail
  refine (Hck.out _ _ hu1).mono ?_
  rintro e w2 ⟨rfl, hb2⟩
  have al2 := bcat2 hb2 (balloc w2 (.cells #[.int .i64 c, .int .i64 i] 27))
  have N6 : Blk (w2.alloc (.cells #[.int .i64 c, .int .i64 i] 27)) w2.heap.size 27 [.int .i64 c, .int .i64 i] := blk0 _ _
  obtain ⟨x0, x1, _, _⟩ := (blk_below hX1 al2).two
  go_wp2_with fail
  refine (Hone.out _ _ (hu1.below al2)).mono ?_
  rintro e w3 ⟨rfl, hb3⟩
  have al3 := bcat2 hb3 (balloc w3 (.cells #[.int .i64 c, .int .i64 i] 27))
  have to3 := bcat2 al2 al3
  have N8 : Blk (w3.alloc (.cells #[.int .i64 c, .int .i64 i] 27)) w3.heap.size 27 [.int .i64 c, .int .i64 i] := blk0 _ _
  clear x0 x1
  obtain ⟨x0, x1, _, _⟩ := (blk_below hX1 to3).two
  have xa := below_cell (bcat2 to1 to3) ha0.cell
  go_wp2_with fail
  refine (Hinv.out _ _ (hu1.below to3)).mono ?_
  rintro e w4 ⟨rfl, hb4⟩
  have al4 := bcat2 hb4 (balloc w4 (.cells #[.int .i64 d, .int .i64 j] 27))
  have to4 := bcat2 to3 al4
  have N10 : Blk (w4.alloc (.cells #[.int .i64 d, .int .i64 j] 27)) w4.heap.size 27 [.int .i64 d, .int .i64 j] := blk0 _ _
  clear x0 x1 xa
  obtain ⟨x0, x1, _, _⟩ := (blk_below hX1 to4).two
  go_wp2_with fail
  refine (Habe.out _ _ (hu1.below to4)).mono ?_
  rintro e w5 ⟨rfl, hb5⟩
  have al5 := bcat2 hb5 (balloc w5 (.cells #[.int .i64 c, .int .i64 i] 27))
  have to5 := bcat2 to4 al5
  have N12 : Blk (w5.alloc (.cells #[.int .i64 c, .int .i64 i] 27)) w5.heap.size 27 [.int .i64 c, .int .i64 i] := blk0 _ _
  clear x0 x1
  have g05 := below_cell (bcat2 to1 to5) hg0.two.1
  have g15 := below_cell (bcat2 to1 to5) hg0.two.2.1
  go_wp2_with fail
  refine (Hgf.out _ _ (hv0.below (bcat2 to1 to5))).mono ?_
  rintro e w6 ⟨rfl, hb6⟩
  have al6 := bcat2 hb6 (balloc w6 (.cells #[.int .i64 c, .int .i64 i] 27))
  have to6 := bcat2 to5 al6
  have N13 : Blk (w6.alloc (.cells #[.int .i64 c, .int .i64 i] 27)) w6.heap.size 27 [.int .i64 c, .int .i64 i] := blk0 _ _
  have N6' := blk_below N6 (bcat2 (bcat2 al3 al4) (bcat2 al5 al6))
  have N8' := blk_below N8 (bcat2 al4 (bcat2 al5 al6))
  have N10' := blk_below N10 (bcat2 al5 al6)
  have N12' := blk_below N12 al6
  have hX' := blk_below hX1 to6
  have hu' := hu1.below to6
  have to7 := bcat2 to1 to6
  have hg' := blk_below hg0 to7
  have ha' := Boxed.below ha0 to7
  have hv' := hv0.below to7
  have hB' := bcat hB0 to7 hB0.size
  clear g05 g15 hb2 hb3 hb4 hb5 hb6 al2 al3 al4 al5 al6 to1 to3 to4 to5 to6 to7 N6 N8 N10 N12 hX1 hu1 hg0 ha0 hv0 hA1 hb1 Hown Hck Hone Hinv Habe Hgf hB0
  generalize hw7 : w6.alloc (.cells #[.int .i64 c, .int .i64 i] 27) = w7 at *
  go_wp2_with fail
  obtain ⟨hg0c, hg1c, _, _⟩ := hg'.two
  have hac := ha'.cell
  obtain ⟨hx0, hx1, _, _⟩ := hX'.two
  obtain ⟨n60, n61, _, _⟩ := N6'.two
  obtain ⟨n80, n81, _, _⟩ := N8'.two
  obtain ⟨n100, n101, _, _⟩ := N10'.two
  obtain ⟨n120, n121, _, _⟩ := N12'.two
  obtain ⟨n130, n131, _, _⟩ := N13.two
  have hS : ∀ W, Below w7.heap.size w7 W → (Below w7.heap.size w7 W ∧ W.cell? ⟨w.heap.size, 0, none⟩ = some (.int .i64 N) ∧ W.cell? ⟨w.heap.size, 1, none⟩ = some (v) ∧ W.cell? ⟨w.heap.size + 1, 0, none⟩ = some (.int .i64 a) ∧ W.cell? ⟨w1.heap.size, 0, none⟩ = some (.int .i64 N) ∧ W.cell? ⟨w1.heap.size, 1, none⟩ = some (.slice a9 l9 cap9) ∧ W.cell? ⟨w2.heap.size, 0, none⟩ = some (.int .i64 c) ∧ W.cell? ⟨w2.heap.size, 1, none⟩ = some (.int .i64 i) ∧ W.cell? ⟨w3.heap.size, 0, none⟩ = some (.int .i64 c) ∧ W.cell? ⟨w3.heap.size, 1, none⟩ = some (.int .i64 i) ∧ W.cell? ⟨w4.heap.size, 0, none⟩ = some (.int .i64 d) ∧ W.cell? ⟨w4.heap.size, 1, none⟩ = some (.int .i64 j) ∧ W.cell? ⟨w5.heap.size, 0, none⟩ = some (.int .i64 c) ∧ W.cell? ⟨w5.heap.size, 1, none⟩ = some (.int .i64 i) ∧ W.cell? ⟨w6.heap.size, 0, none⟩ = some (.int .i64 c) ∧ W.cell? ⟨w6.heap.size, 1, none⟩ = some (.int .i64 i)) := fun W h => ⟨h, below_cell h hg0c, below_cell h hg1c, below_cell h hac, below_cell h hx0, below_cell h hx1, below_cell h n60, below_cell h n61, below_cell h n80, below_cell h n81, below_cell h n100, below_cell h n101, below_cell h n120, below_cell h n121, below_cell h n130, below_cell h n131⟩
  have HS := hide hS
  clear hw7 hS hg0c hg1c hac hx0 hx1 n60 n61 n80 n81 n100 n101 n120 n121 n130 n131
  have HN1 : Hid (∀ W, Below w7.heap.size w7 W → Calls Try.prog 22 #[.int .i64 (okI c o), .agg #[.int .i64 c, .int .i64 i], .agg #[.int .i64 c, .int .i64 i], .func (.func 23) #[] #[.pointer (some ⟨w.heap.size, 0, none⟩)]] W fun e w' => e = .returned (.bool true) ∧ Below W.heap.size W w') := fun W h =>
    numberAs_any _ c i 23 _ o W rfl (fun W => call23 _ W) (fun W2 h2 h0 => HE.out _ _ W2 (blk_below hg' (bcat2 h h2)) (hv'.below (bcat2 h h2)) h0)
  have HN2 : Hid (∀ W, Below w7.heap.size w7 W → Calls Try.prog 22 #[.int .i64 (okI d iv), .agg #[.int .i64 d, .int .i64 j], .agg #[.int .i64 d, .int .i64 j], .func (.func 26) #[] #[.pointer (some ⟨w.heap.size, 0, none⟩), .pointer (some ⟨w.heap.size + 1, 0, none⟩)]] W fun e w' => e = .returned (.bool true) ∧ Below W.heap.size W w') := fun W h =>
    numberAs_any _ d j 26 _ iv W rfl (fun W => call26 _ _ W) (fun W2 h2 h0 => HI.out _ _ _ W2 (blk_below hg' (bcat2 h h2)) (Boxed.below ha' (bcat2 h h2)) (hv'.below (bcat2 h h2)) h0)
  clear HE HI
  refine (begun_any w7).mono ?_
  rintro e w8 ⟨rfl, hb8⟩
  obtain ⟨_, khg0c, khg1c, khac, khx0, khx1, kn60, kn61, kn80, kn81, kn100, kn101, kn120, kn121, kn130, kn131⟩ := HS.out _ hb8
  go_wp2_with fail
  refine (Hsam.out _ _ _ (hu'.below hb8) (hv'.below hb8)).mono ?_
  rintro e w9 ⟨rfl, hb9⟩
  have hB9 := bcat2 hb8 hb9
  clear khg0c khg1c khac khx0 khx1 kn60 kn61 kn80 kn81 kn100 kn101 kn120 kn121 kn130 kn131 hb8 hb9
  obtain ⟨_, khg0c, khg1c, khac, khx0, khx1, kn60, kn61, kn80, kn81, kn100, kn101, kn120, kn121, kn130, kn131⟩ := HS.out _ hB9
  by_cases hc : c = 0
  · subst hc
    rw [show okB 0 cm = cm by simp [okB]]
    go_wp2_with fail
    refine (HC.out _ _ (hv'.below hB9) (by first | rfl | trivial)).mono ?_
    rintro e w10 ⟨rfl, hb10⟩
    have hB10 := bcat2 hB9 hb10
    have hcm : (cm != cm) = false := by simp
    clear khg0c khg1c khac khx0 khx1 kn60 kn61 kn80 kn81 kn100 kn101 kn120 kn121 kn130 kn131 hb10
    go_wp2_with fail
    have hS0 := HS.out _ (bdrew hB10)
    have hS := HS.out
    go_region_held3 (fun W => Below w7.heap.size w7 W ∧ W.cell? ⟨w.heap.size, 0, none⟩ = some (.int .i64 N) ∧ W.cell? ⟨w.heap.size, 1, none⟩ = some (v) ∧ W.cell? ⟨w.heap.size + 1, 0, none⟩ = some (.int .i64 a) ∧ W.cell? ⟨w1.heap.size, 0, none⟩ = some (.int .i64 N) ∧ W.cell? ⟨w1.heap.size, 1, none⟩ = some (.slice a9 l9 cap9) ∧ W.cell? ⟨w2.heap.size, 0, none⟩ = some (.int .i64 0) ∧ W.cell? ⟨w2.heap.size, 1, none⟩ = some (.int .i64 i) ∧ W.cell? ⟨w3.heap.size, 0, none⟩ = some (.int .i64 0) ∧ W.cell? ⟨w3.heap.size, 1, none⟩ = some (.int .i64 i) ∧ W.cell? ⟨w4.heap.size, 0, none⟩ = some (.int .i64 d) ∧ W.cell? ⟨w4.heap.size, 1, none⟩ = some (.int .i64 j) ∧ W.cell? ⟨w5.heap.size, 0, none⟩ = some (.int .i64 0) ∧ W.cell? ⟨w5.heap.size, 1, none⟩ = some (.int .i64 i) ∧ W.cell? ⟨w6.heap.size, 0, none⟩ = some (.int .i64 0) ∧ W.cell? ⟨w6.heap.size, 1, none⟩ = some (.int .i64 i))
      (first | exact hS0 | assumption | exact hS _ (bcat2 (And.left ‹_›) hl1) | exact hS _ (bcat2 (And.left ‹_›) (balloc _ _)))
      (first
        | (go_at_call_of 22 (Value.int IntKind.i64 (okI 0 o)); refine (HN1.out _ (And.left ‹_›)).mono ?_; rintro e U1 ⟨rfl, hl1⟩)
        | (go_at_call 25; refine (Htf.out _ _ _ (hv'.below (And.left ‹_›)) (sl1 _ _)).mono ?_; rintro e U2 ⟨rfl, hl1⟩)
        | (go_at_call_of 22 (Value.int IntKind.i64 (okI d iv)); refine (HN2.out _ (And.left ‹_›)).mono ?_; rintro e U3 ⟨rfl, hl1⟩))
    all_goals (
      obtain ⟨hU, _⟩ := ‹Below w7.heap.size w7 U3 ∧ _›
      have hBU := bcat hB' hU hB'.size
      clear hS hS0
      go_wp2
      go_ret
      exact ⟨rfl, hBU⟩)
  · have hcb : (c == 0) = false := by simpa using hc
    rw [show okB c cm = false by simp [okB, hc]]
    have hB10 := hB9
    go_wp2_with fail
    have hS0 := HS.out _ (bdrew hB10)
    have hS := HS.out
    go_region_held3 (fun W => Below w7.heap.size w7 W ∧ W.cell? ⟨w.heap.size, 0, none⟩ = some (.int .i64 N) ∧ W.cell? ⟨w.heap.size, 1, none⟩ = some (v) ∧ W.cell? ⟨w.heap.size + 1, 0, none⟩ = some (.int .i64 a) ∧ W.cell? ⟨w1.heap.size, 0, none⟩ = some (.int .i64 N) ∧ W.cell? ⟨w1.heap.size, 1, none⟩ = some (.slice a9 l9 cap9) ∧ W.cell? ⟨w2.heap.size, 0, none⟩ = some (.int .i64 c) ∧ W.cell? ⟨w2.heap.size, 1, none⟩ = some (.int .i64 i) ∧ W.cell? ⟨w3.heap.size, 0, none⟩ = some (.int .i64 c) ∧ W.cell? ⟨w3.heap.size, 1, none⟩ = some (.int .i64 i) ∧ W.cell? ⟨w4.heap.size, 0, none⟩ = some (.int .i64 d) ∧ W.cell? ⟨w4.heap.size, 1, none⟩ = some (.int .i64 j) ∧ W.cell? ⟨w5.heap.size, 0, none⟩ = some (.int .i64 c) ∧ W.cell? ⟨w5.heap.size, 1, none⟩ = some (.int .i64 i) ∧ W.cell? ⟨w6.heap.size, 0, none⟩ = some (.int .i64 c) ∧ W.cell? ⟨w6.heap.size, 1, none⟩ = some (.int .i64 i))
      (first | exact hS0 | assumption | exact hS _ (bcat2 (And.left ‹_›) hl1) | exact hS _ (bcat2 (And.left ‹_›) (balloc _ _)))
      (first
        | (go_at_call_of 22 (Value.int IntKind.i64 (okI c o)); refine (HN1.out _ (And.left ‹_›)).mono ?_; rintro e U1 ⟨rfl, hl1⟩)
        | (go_at_call 25; refine (Htf.out _ _ _ (hv'.below (And.left ‹_›)) (sl1 _ _)).mono ?_; rintro e U2 ⟨rfl, hl1⟩)
        | (go_at_call_of 22 (Value.int IntKind.i64 (okI d iv)); refine (HN2.out _ (And.left ‹_›)).mono ?_; rintro e U3 ⟨rfl, hl1⟩))
    all_goals (
      obtain ⟨hU, _⟩ := ‹Below w7.heap.size w7 U3 ∧ _›
      have hBU := bcat hB' hU hB'.size
      clear hS hS0
      go_wp2
      go_ret
      exact ⟨rfl, hBU⟩)
end Go.Proofs.Ytpcgacelljbkdaa
