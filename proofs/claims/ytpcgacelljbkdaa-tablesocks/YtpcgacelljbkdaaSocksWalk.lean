/- Inverses and orders in a group: what follows of them; TableSocks returns true at every table and every two ints. -/
import Derived.Test.YtpcgacelljbkdaaBegun
import Derived.Test.YtpcgacelljbkdaaFrame
namespace Go.Proofs.Ytpcgacelljbkdaa
open Go Go.RowKit

theorem invL_eq {n e : Nat} {zs : List Int} (h : IsGrp n zs e) {a x : Nat} (ha : a < n) (hx : x < n) (hax : tm n zs a x = e) : invL n zs (one n zs) a = (x : Int) := by
  unfold invL
  rw [h.one]
  rcases least_cases n (fun b => decide ((tm n zs a b : Int) = (e : Int))) with ⟨k, hk, hp, _, he⟩ | ⟨hno, _⟩
  · have h1 : tm n zs a k = e := by have := of_decide_eq_true hp; omega
    rw [he, grp_cancel h ha hk hx (h1.trans hax.symm)]
  · have := hno x hx
    simp [hax] at this
theorem pr_inv {n e : Nat} {zs : List Int} (h : IsGrp n zs e) {a x : Nat} (ha : a < n) (hx : x < n) (hax : tm n zs a x = e) : ∀ k, tm n zs (pr n zs a k) (pr n zs x k) = e
  | 0 => hax
  | k + 1 => by
    have h1 := pr_add h hx 0 k
    rw [Nat.zero_add] at h1
    have ha1 := pr_lt h.tab ha k
    have hx1 := pr_lt h.tab hx k
    rw [h1]
    show tm n zs (tm n zs (pr n zs a k) a) (tm n zs x (pr n zs x k)) = e
    rw [h.ass _ _ _ ha1 ha (tm_lt h.tab hx hx1), ← h.ass a x _ ha hx hx1, hax, h.left _ hx1]
    exact pr_inv h ha hx hax k
theorem ord_inv {n e : Nat} {zs : List Int} (h : IsGrp n zs e) {a x : Nat} (ha : a < n) (hx : x < n) (hax : tm n zs a x = e) : ordN n zs e x = ordN n zs e a := by
  unfold ordN
  rw [least_congr (q := fun k => decide (pr n zs a k = e)) fun k _ => ?_]
  have h1 := pr_inv h ha hx hax k
  have ha1 := pr_lt h.tab ha k
  have hx1 := pr_lt h.tab hx k
  rw [Bool.eq_iff_iff, decide_eq_true_eq, decide_eq_true_eq]
  constructor
  · intro h2; rw [h2, h.right _ ha1] at h1; exact h1
  · intro h2; rw [h2, h.left _ hx1] at h1; exact h1
theorem pr_turn {n e : Nat} {zs : List Int} (h : IsGrp n zs e) {a b : Nat} (ha : a < n) (hb : b < n) : ∀ k, tm n zs (pr n zs (tm n zs a b) k) a = tm n zs a (pr n zs (tm n zs b a) k)
  | 0 => h.ass a b a ha hb ha
  | k + 1 => by
    have hab := tm_lt h.tab ha hb
    have hba := tm_lt h.tab hb ha
    have h1 := pr_lt h.tab hab k
    have h2 := pr_lt h.tab hba k
    show tm n zs (tm n zs (pr n zs (tm n zs a b) k) (tm n zs a b)) a = tm n zs a (tm n zs (pr n zs (tm n zs b a) k) (tm n zs b a))
    rw [h.ass _ _ _ h1 hab ha, h.ass a b a ha hb ha, ← h.ass _ _ _ h1 ha hba, pr_turn h ha hb k, h.ass _ _ _ ha h2 hba]
theorem ord_turn {n e : Nat} {zs : List Int} (h : IsGrp n zs e) {a b : Nat} (ha : a < n) (hb : b < n) : ordN n zs e (tm n zs b a) = ordN n zs e (tm n zs a b) := by
  unfold ordN
  rw [least_congr (q := fun k => decide (pr n zs (tm n zs a b) k = e)) fun k _ => ?_]
  have h1 := pr_turn h ha hb k
  have ha1 := pr_lt h.tab (tm_lt h.tab ha hb) k
  have hb1 := pr_lt h.tab (tm_lt h.tab hb ha) k
  rw [Bool.eq_iff_iff, decide_eq_true_eq, decide_eq_true_eq]
  constructor
  · intro h2
    rw [h2, h.right _ ha] at h1
    exact grp_cancel_right h ha ha1 h.elt (h1.trans (h.left _ ha).symm)
  · intro h2
    rw [h2, h.left _ ha] at h1
    exact grp_cancel h ha hb1 h.elt ((h.right _ ha).trans h1).symm

theorem inv_ok {n e : Nat} {zs : List Int} (h : IsGrp n zs e) {a x : Nat} (ha : a < n) (hx : x < n) (hax : tm n zs a x = e) (v : Value) (w : World) (hv : Sl w v zs) :
    Calls Try.prog 16 #[.agg #[.int .i64 n, v], .int .i64 a] w fun r w' => r = .returned (.tuple #[.int .i64 x, .agg #[.int .i64 0, .int .i64 0]]) ∧ Below w.heap.size w w' := by
  have h1 := inv_any n a v zs w hv
  have h2 : tfault n zs a = (0, 0) := by
    unfold tfault
    rw [gfault_of_grp h, if_neg (by simp), if_pos (by omega)]
  rw [h2, okI_zero, Int.toNat_natCast, Int.toNat_natCast, invL_eq h ha hx hax] at h1
  exact h1
theorem tfl_two {N : Int} {zs : List Int} {a b : Int} (h : (tfl N zs [a, b]).1 = 0) : ∃ n e x y : Nat, N = n ∧ a = x ∧ b = y ∧ IsGrp n zs e ∧ x < n ∧ y < n ∧ tfl N zs [a, b] = (0, 0) := by
  unfold tfl at h ⊢
  by_cases h1 : (gfault N zs).1 ≠ 0
  · rw [if_pos h1] at h; exact absurd h h1
  · rw [if_neg h1] at h ⊢
    obtain ⟨n, e, rfl, hg, _⟩ := gfault_grp (Decidable.not_not.1 h1)
    by_cases h2 : least [a, b].length (fun i => decide ([a, b][i]?.getD 0 < 0 ∨ (n : Int) ≤ [a, b][i]?.getD 0)) ≠ -1
    · rw [if_pos h2] at h; cases h
    · rw [if_neg h2]
      have h3 := least_neg.1 (Decidable.not_not.1 h2)
      have ha := of_decide_eq_false (h3 0 (by simp))
      have hb := of_decide_eq_false (h3 1 (by simp))
      simp at ha hb
      exact ⟨n, e, a.toNat, b.toNat, rfl, by omega, by omega, hg, by omega, by omega, rfl⟩
theorem sl2 (W : World) (a b : Int) : Sl (W.alloc (.cells #[.int .i64 a, .int .i64 b] 3)) (.slice (some ⟨W.heap.size, 0, none⟩) 2 2) [a, b] :=
  Sl.of_blk (zs := [a, b]) (World.alloc_heap_new W _) rfl (by simp)

theorem cell_eq {a b : World} (h : Below a.heap.size a b) (p : Addr) (hp : (a.cell? p).isSome = true) : b.cell? p = a.cell? p := by
  obtain ⟨v, hv⟩ := Option.isSome_iff_exists.1 hp
  rw [hv]; exact below_cell h hv
theorem frozen_eq {a b : World} (h : Below a.heap.size a b) (p : Addr) (hp : (a.cell? p).isSome = true) : b.frozen? p = a.frozen? p := by
  obtain ⟨v, hv⟩ := Option.isSome_iff_exists.1 hp
  simp [World.frozen?, h.block _ (World.block_lt_of_cell? a p hv)]
theorem two_drew {w U : World} (h : Below (w.drew.alloc (.cells #[.int .i64 0, .int .i64 0] 27)).heap.size (w.drew.alloc (.cells #[.int .i64 0, .int .i64 0] 27)) U) : Two U w.heap.size := (Two.new w.drew).below h
theorem set_same (W : World) (b o : Nat) (v : Value) (h : W.cell? ⟨b, o, none⟩ = some v) : W.setCell ⟨b, o, none⟩ v = W := by
  cases hb : W.heap[b]? with
  | none => simp [World.cell?, hb] at h
  | some x =>
    cases x with
    | cells c T fz =>
      refine setCell_self hb ?_
      simp [World.cell?, hb] at h
      apply Array.ext
      · simp
      · intro i h1 h2
        rw [Array.getElem_setIfInBounds]
        split
        · rename_i e; subst e
          rw [Array.getElem?_eq_getElem h2] at h
          simpa using h.symm
        · rfl
    | _ => simp [World.cell?, hb] at h
set_option maxRecDepth 100000 in
set_option maxHeartbeats 8000000 in
theorem socks_any (N a b : Int) (v : Value) (zs : List Int) (w : World) (hv : SlA w v zs) :
    Calls Try.prog 9 #[.agg #[.int .i64 N, v], .int .i64 a, .int .i64 b] w fun e w' => e = .returned (.bool true) ∧ Below w.heap.size w w' := by
  have hB0 : Below w.heap.size w (w.alloc (.cells #[.int .i64 N, v] 24)) := balloc w _
  have hg0 : BoxG (w.alloc (.cells #[.int .i64 N, v] 24)) w.heap.size N v := blk0 _ _
  have hv0 := hv.up hB0 (by have := hg0.lt; omega)
  have Htf := hide (fun (s : Value) (W : World) (h : Sl W v zs) (k : Sl W s [a, b]) => thingFault_any N v s zs [a, b] W h k (by simp))
  have hfd := field27
  by_cases hc : (tfl N zs [a, b]).1 = 0
  · obtain ⟨n, e, x, y, rfl, rfl, rfl, h, hx, hy, hz⟩ := tfl_two hc
    rw [hz] at Htf
    obtain ⟨ix, hix, h1, h1'⟩ := grp_inv h hx
    obtain ⟨iy, hiy, h2, h2'⟩ := grp_inv h hy
    have hxy := tm_lt h.tab hx hy
    have hyx := tm_lt h.tab hy hx
    have hz3 : tm n zs (tm n zs x y) (tm n zs iy ix) = e := by
      rw [h.ass x y _ hx hy (tm_lt h.tab hiy hix), ← h.ass y iy ix hy hiy hix, h2, h.left _ hix, h1]
    have hsol : tm n zs x (tm n zs ix y) = y := by rw [← h.ass x ix y hx hix hy, h1, h.left _ hy]
    have Hix := hide (fun W (hW : Sl W v zs) => inv_ok h hx hix h1 v W hW)
    have Hiy := hide (fun W (hW : Sl W v zs) => inv_ok h hy hiy h2 v W hW)
    have Hixy := hide (fun W (hW : Sl W v zs) => inv_ok h hxy (tm_lt h.tab hiy hix) hz3 v W hW)
    have Hor := hide (fun W (hW : Sl W v zs) => orders_ok n e v zs W h hW)
    have hol := ordL_len n zs e
    have ho1 : (ordL n zs e)[x]?.getD 0 = (ordN n zs e x : Int) := by simp [ordL, hx]
    have ho2 : (ordL n zs e)[ix]?.getD 0 = (ordN n zs e x : Int) := by rw [← ord_inv h hx hix h1]; simp [ordL, hix]
    have ho3 : (ordL n zs e)[tm n zs x y]?.getD 0 = (ordN n zs e (tm n zs x y) : Int) := by simp [ordL, hxy]
    have ho4 : (ordL n zs e)[tm n zs y x]?.getD 0 = (ordN n zs e (tm n zs x y) : Int) := by rw [← ord_turn h hx hy]; simp [ordL, hyx]
    have HT := hide h.tab
    have hle := h.tab.le
    have HO := hide (And.intro hol (And.intro ho1 (And.intro ho2 (And.intro ho3 ho4))))
    have HSOL := hide hsol
    clear h h1 h1' h2 h2' hz hc hol ho1 ho2 ho3 ho4 hsol hz3
    go_enter Try.func9, Try.ntmps9
    go_wp2_with fail
    generalize w.alloc (.cells #[.int .i64 n, v] 24) = w0 at *
    refine (begun_any w0).mono ?_
    rintro r w1 ⟨rfl, hb1⟩
    obtain ⟨g0, g1, _, _⟩ := hg0.two
    have k0 := below_cell hb1 g0
    have k1 := below_cell hb1 g1
    go_wp2_with fail
    have hA1 := bcat2 hb1 (balloc w1 (.cells #[.int .i64 x, .int .i64 y] 3))
    refine (Htf.out _ _ (hv0.below hA1) (sl2 _ _ _)).mono ?_
    rintro r w2 ⟨rfl, hb2⟩
    have to2 := bcat2 hA1 hb2
    clear k0 k1 hA1 hb1 hb2
    have k0 := below_cell to2 g0
    have k1 := below_cell to2 g1
    go_wp2_with fail
    refine (Hix.out _ (hv0.below to2)).mono ?_
    rintro r w3 ⟨rfl, hb3⟩
    have al3 := bcat2 hb3 (balloc w3 (.cells #[.int .i64 0, .int .i64 0] 27))
    have to3 := bcat2 to2 al3
    have N8 := Two.new w3
    clear k0 k1
    have k0 := below_cell to3 g0
    have k1 := below_cell to3 g1
    go_wp2_with fail
    refine (Hiy.out _ (hv0.below to3)).mono ?_
    rintro r w4 ⟨rfl, hb4⟩
    have al4 := bcat2 hb4 (balloc w4 (.cells #[.int .i64 0, .int .i64 0] 27))
    have to4 := bcat2 to3 al4
    have N10 := Two.new w4
    have N8' := N8.below al4
    clear k0 k1
    have k0 := below_cell to4 g0
    have k1 := below_cell to4 g1
    go_wp2_with fail
    generalize w4.alloc (.cells #[.int .i64 0, .int .i64 0] 27) = w5 at *
    have hv5 := hv0.below to4
    have hS : ∀ W, Below w5.heap.size w5 W → (Below w5.heap.size w5 W ∧ W.cell? ⟨w.heap.size, 0, none⟩ = some (.int .i64 n) ∧ W.cell? ⟨w.heap.size, 1, none⟩ = some v) := fun W h => ⟨h, below_cell h k0, below_cell h k1⟩
    have hS0 := hS _ (bdrew (Below.refl _ w5))
    have hss := set_same
    go_region_held3 (fun W => Below w5.heap.size w5 W ∧ W.cell? ⟨w.heap.size, 0, none⟩ = some (.int .i64 n) ∧ W.cell? ⟨w.heap.size, 1, none⟩ = some v)
      (first | exact hS0 | assumption | exact hS _ (bcat2 (And.left ‹_›) hl1) | exact hS _ (bcat2 (And.left ‹_›) (balloc _ _)))
      (first
        | (go_at_call 40; refine (M_ok n v zs x y _ HT.out (hv5.below (And.left ‹_›)) hx hy).mono ?_; rintro r U1 ⟨rfl, hlM⟩; have hl1 := hlM; have hp1 := cell_eq hl1; have hq1 := frozen_eq hl1)
        | (go_at_call 16; refine (Hixy.out _ (hv5.below (And.left ‹_›))).mono ?_; rintro r U2 ⟨rfl, hlI⟩; have hl1 := hlI; have hp2 := cell_eq hl1; have hq2 := frozen_eq hl1))
    · have hT := Two.new U2
      have hB6 := And.left ‹Below w5.heap.size w5 (U2.alloc _) ∧ _›
      clear hlM hlI
      generalize U2.heap.size = b12 at *
      clear hS hS0 hss hl1 hp1 hp2 hq1 hq2
      have q0 := below_cell hB6 k0
      have q1 := below_cell hB6 k1
      go_wp2_with fail
      refine (Hor.out _ (hv5.below hB6)).mono ?_
      rintro r w7 ⟨ro, rfl, hro, hb7⟩
      have al7 := bcat2 hb7 (balloc w7 (.cells #[.int .i64 0, .int .i64 0] 27))
      have N14 := Two.new w7
      have N12' := hT.below al7
      have to8 := bcat2 hB6 al7
      have N8'' := N8'.below to8
      have N10'' := N10.below to8
      have hro := hro.below (balloc w7 (.cells #[.int .i64 0, .int .i64 0] 27))
      clear q0 q1
      have q0 := below_cell to8 k0
      have q1 := below_cell to8 k1
      have hv8 := hv5.below to8
      have hB8 := bcat hB0 (bcat2 to4 to8) hB0.size
      obtain ⟨hol, ho1, ho2, ho3, ho4⟩ := HO.out
      obtain ⟨a8, cap8, pb, po, rfl, hrd, hpb, hc1, hc2⟩ := hro
      rw [hol] at hc1
      have hca := hrd.cell x (by rw [hol]; exact hx)
      have hcb := hrd.cell ix (by rw [hol]; exact hix)
      have hcc := hrd.cell (tm n zs x y) (by rw [hol]; exact hxy)
      have hcd := hrd.cell (tm n zs y x) (by rw [hol]; exact hyx)
      rw [ho1] at hca
      rw [ho2] at hcb
      rw [ho3] at hcc
      rw [ho4] at hcd
      obtain rfl := hrd.at_ (by rw [hol]; omega)
      rw [hol]
      obtain ⟨_, a80, _, _, _, _, _⟩ := N8''
      obtain ⟨_, a100, _, _, _, _, _⟩ := N10''
      obtain ⟨_, a120, _, _, _, _, _⟩ := N12'
      obtain ⟨_, a140, _, _, _, _, _⟩ := N14
      have i1 : decide ((ix : Int) < 0) = false := decide_eq_false (by omega)
      have i2 : decide ((n : Int) ≤ (ix : Int)) = false := decide_eq_false (by omega)
      have i3 : decide ((iy : Int) < 0) = false := decide_eq_false (by omega)
      have i4 : decide ((n : Int) ≤ (iy : Int)) = false := decide_eq_false (by omega)
      have j1 : (x : Int) < (n : Int) := by omega
      have j2 : (ix : Int) < (n : Int) := by omega
      have j3 : (tm n zs x y : Int) < (n : Int) := by omega
      have j4 : (tm n zs y x : Int) < (n : Int) := by omega
      have hb1 := tm_lt HT.out hix hy
      have hsol := HSOL.out
      clear hol ho1 ho2 ho3 ho4 HO hrd N8' N10 hT to8 al7 hb7 to4 to3 to2 hB6
      go_wp2_with fail
      generalize w7.alloc (.cells #[.int .i64 0, .int .i64 0] 27) = w8 at *
      have hS : ∀ W, Below w8.heap.size w8 W → (Below w8.heap.size w8 W ∧ W.cell? ⟨w.heap.size, 0, none⟩ = some (.int .i64 n) ∧ W.cell? ⟨w.heap.size, 1, none⟩ = some v ∧ W.cell? ⟨pb, po + x, none⟩ = some (.int .i64 (ordN n zs e x)) ∧ W.cell? ⟨pb, po + ix, none⟩ = some (.int .i64 (ordN n zs e x)) ∧ W.cell? ⟨pb, po + tm n zs x y, none⟩ = some (.int .i64 (ordN n zs e (tm n zs x y))) ∧ W.cell? ⟨pb, po + tm n zs y x, none⟩ = some (.int .i64 (ordN n zs e (tm n zs x y)))) := fun W h => ⟨h, below_cell h q0, below_cell h q1, below_cell h hca, below_cell h hcb, below_cell h hcc, below_cell h hcd⟩
      have hS0 := hS _ (bdrew (Below.refl _ w8))
      clear hca hcb hcc hcd a80 a100 a120 a140 q0 q1
      go_region_held3 (fun W => Below w8.heap.size w8 W ∧ W.cell? ⟨w.heap.size, 0, none⟩ = some (.int .i64 n) ∧ W.cell? ⟨w.heap.size, 1, none⟩ = some v ∧ W.cell? ⟨pb, po + x, none⟩ = some (.int .i64 (ordN n zs e x)) ∧ W.cell? ⟨pb, po + ix, none⟩ = some (.int .i64 (ordN n zs e x)) ∧ W.cell? ⟨pb, po + tm n zs x y, none⟩ = some (.int .i64 (ordN n zs e (tm n zs x y))) ∧ W.cell? ⟨pb, po + tm n zs y x, none⟩ = some (.int .i64 (ordN n zs e (tm n zs x y))))
        (first | exact hS0 | assumption | exact hS _ (bcat2 (And.left ‹_›) hl1))
        (first | (go_at_call 40; refine (M_ok n v zs _ _ _ HT.out (hv8.below (And.left ‹_›)) (by assumption) (by assumption)).mono ?_; rintro r V1 ⟨rfl, hl1⟩))
      all_goals (
        obtain ⟨hU, _⟩ := ‹Below w8.heap.size w8 V1 ∧ _›
        have hBU := bcat hB8 hU hB8.size
        clear hS hS0
        go_wp2
        go_ret
        exact ⟨rfl, hBU⟩)
    · have hT := (Two.new U1).below hlI
      have hB6 := And.left ‹Below w5.heap.size w5 U2 ∧ _›
      clear hlM hlI
      clear hS hS0 hss hl1 hp1 hp2 hq1 hq2
      have q0 := below_cell hB6 k0
      have q1 := below_cell hB6 k1
      go_wp2_with fail
      refine (Hor.out _ (hv5.below hB6)).mono ?_
      rintro r w7 ⟨ro, rfl, hro, hb7⟩
      have al7 := bcat2 hb7 (balloc w7 (.cells #[.int .i64 0, .int .i64 0] 27))
      have N14 := Two.new w7
      have N12' := hT.below al7
      have to8 := bcat2 hB6 al7
      have N8'' := N8'.below to8
      have N10'' := N10.below to8
      have hro := hro.below (balloc w7 (.cells #[.int .i64 0, .int .i64 0] 27))
      clear q0 q1
      have q0 := below_cell to8 k0
      have q1 := below_cell to8 k1
      have hv8 := hv5.below to8
      have hB8 := bcat hB0 (bcat2 to4 to8) hB0.size
      obtain ⟨hol, ho1, ho2, ho3, ho4⟩ := HO.out
      obtain ⟨a8, cap8, pb, po, rfl, hrd, hpb, hc1, hc2⟩ := hro
      rw [hol] at hc1
      have hca := hrd.cell x (by rw [hol]; exact hx)
      have hcb := hrd.cell ix (by rw [hol]; exact hix)
      have hcc := hrd.cell (tm n zs x y) (by rw [hol]; exact hxy)
      have hcd := hrd.cell (tm n zs y x) (by rw [hol]; exact hyx)
      rw [ho1] at hca
      rw [ho2] at hcb
      rw [ho3] at hcc
      rw [ho4] at hcd
      obtain rfl := hrd.at_ (by rw [hol]; omega)
      rw [hol]
      obtain ⟨_, a80, _, _, _, _, _⟩ := N8''
      obtain ⟨_, a100, _, _, _, _, _⟩ := N10''
      obtain ⟨_, a120, _, _, _, _, _⟩ := N12'
      obtain ⟨_, a140, _, _, _, _, _⟩ := N14
      have i1 : decide ((ix : Int) < 0) = false := decide_eq_false (by omega)
      have i2 : decide ((n : Int) ≤ (ix : Int)) = false := decide_eq_false (by omega)
      have i3 : decide ((iy : Int) < 0) = false := decide_eq_false (by omega)
      have i4 : decide ((n : Int) ≤ (iy : Int)) = false := decide_eq_false (by omega)
      have j1 : (x : Int) < (n : Int) := by omega
      have j2 : (ix : Int) < (n : Int) := by omega
      have j3 : (tm n zs x y : Int) < (n : Int) := by omega
      have j4 : (tm n zs y x : Int) < (n : Int) := by omega
      have hb1 := tm_lt HT.out hix hy
      have hsol := HSOL.out
      clear hol ho1 ho2 ho3 ho4 HO hrd N8' N10 hT to8 al7 hb7 to4 to3 to2 hB6
      go_wp2_with fail
      generalize w7.alloc (.cells #[.int .i64 0, .int .i64 0] 27) = w8 at *
      have hS : ∀ W, Below w8.heap.size w8 W → (Below w8.heap.size w8 W ∧ W.cell? ⟨w.heap.size, 0, none⟩ = some (.int .i64 n) ∧ W.cell? ⟨w.heap.size, 1, none⟩ = some v ∧ W.cell? ⟨pb, po + x, none⟩ = some (.int .i64 (ordN n zs e x)) ∧ W.cell? ⟨pb, po + ix, none⟩ = some (.int .i64 (ordN n zs e x)) ∧ W.cell? ⟨pb, po + tm n zs x y, none⟩ = some (.int .i64 (ordN n zs e (tm n zs x y))) ∧ W.cell? ⟨pb, po + tm n zs y x, none⟩ = some (.int .i64 (ordN n zs e (tm n zs x y)))) := fun W h => ⟨h, below_cell h q0, below_cell h q1, below_cell h hca, below_cell h hcb, below_cell h hcc, below_cell h hcd⟩
      have hS0 := hS _ (bdrew (Below.refl _ w8))
      clear hca hcb hcc hcd a80 a100 a120 a140 q0 q1
      go_region_held3 (fun W => Below w8.heap.size w8 W ∧ W.cell? ⟨w.heap.size, 0, none⟩ = some (.int .i64 n) ∧ W.cell? ⟨w.heap.size, 1, none⟩ = some v ∧ W.cell? ⟨pb, po + x, none⟩ = some (.int .i64 (ordN n zs e x)) ∧ W.cell? ⟨pb, po + ix, none⟩ = some (.int .i64 (ordN n zs e x)) ∧ W.cell? ⟨pb, po + tm n zs x y, none⟩ = some (.int .i64 (ordN n zs e (tm n zs x y))) ∧ W.cell? ⟨pb, po + tm n zs y x, none⟩ = some (.int .i64 (ordN n zs e (tm n zs x y))))
        (first | exact hS0 | assumption | exact hS _ (bcat2 (And.left ‹_›) hl1))
        (first | (go_at_call 40; refine (M_ok n v zs _ _ _ HT.out (hv8.below (And.left ‹_›)) (by assumption) (by assumption)).mono ?_; rintro r V1 ⟨rfl, hl1⟩))
      all_goals (
        obtain ⟨hU, _⟩ := ‹Below w8.heap.size w8 V1 ∧ _›
        have hBU := bcat hB8 hU hB8.size
        clear hS hS0
        go_wp2
        go_ret
        exact ⟨rfl, hBU⟩)
    · have hT := (two_drew hlM).below hlI
      have hB6 := And.left ‹Below w5.heap.size w5 U2 ∧ _›
      clear hlM hlI
      clear hS hS0 hss hl1 hp1 hp2 hq1 hq2
      have q0 := below_cell hB6 k0
      have q1 := below_cell hB6 k1
      go_wp2_with fail
      refine (Hor.out _ (hv5.below hB6)).mono ?_
      rintro r w7 ⟨ro, rfl, hro, hb7⟩
      have al7 := bcat2 hb7 (balloc w7 (.cells #[.int .i64 0, .int .i64 0] 27))
      have N14 := Two.new w7
      have N12' := hT.below al7
      have to8 := bcat2 hB6 al7
      have N8'' := N8'.below to8
      have N10'' := N10.below to8
      have hro := hro.below (balloc w7 (.cells #[.int .i64 0, .int .i64 0] 27))
      clear q0 q1
      have q0 := below_cell to8 k0
      have q1 := below_cell to8 k1
      have hv8 := hv5.below to8
      have hB8 := bcat hB0 (bcat2 to4 to8) hB0.size
      obtain ⟨hol, ho1, ho2, ho3, ho4⟩ := HO.out
      obtain ⟨a8, cap8, pb, po, rfl, hrd, hpb, hc1, hc2⟩ := hro
      rw [hol] at hc1
      have hca := hrd.cell x (by rw [hol]; exact hx)
      have hcb := hrd.cell ix (by rw [hol]; exact hix)
      have hcc := hrd.cell (tm n zs x y) (by rw [hol]; exact hxy)
      have hcd := hrd.cell (tm n zs y x) (by rw [hol]; exact hyx)
      rw [ho1] at hca
      rw [ho2] at hcb
      rw [ho3] at hcc
      rw [ho4] at hcd
      obtain rfl := hrd.at_ (by rw [hol]; omega)
      rw [hol]
      obtain ⟨_, a80, _, _, _, _, _⟩ := N8''
      obtain ⟨_, a100, _, _, _, _, _⟩ := N10''
      obtain ⟨_, a120, _, _, _, _, _⟩ := N12'
      obtain ⟨_, a140, _, _, _, _, _⟩ := N14
      have i1 : decide ((ix : Int) < 0) = false := decide_eq_false (by omega)
      have i2 : decide ((n : Int) ≤ (ix : Int)) = false := decide_eq_false (by omega)
      have i3 : decide ((iy : Int) < 0) = false := decide_eq_false (by omega)
      have i4 : decide ((n : Int) ≤ (iy : Int)) = false := decide_eq_false (by omega)
      have j1 : (x : Int) < (n : Int) := by omega
      have j2 : (ix : Int) < (n : Int) := by omega
      have j3 : (tm n zs x y : Int) < (n : Int) := by omega
      have j4 : (tm n zs y x : Int) < (n : Int) := by omega
      have hb1 := tm_lt HT.out hix hy
      have hsol := HSOL.out
      clear hol ho1 ho2 ho3 ho4 HO hrd N8' N10 hT to8 al7 hb7 to4 to3 to2 hB6
      go_wp2_with fail
      generalize w7.alloc (.cells #[.int .i64 0, .int .i64 0] 27) = w8 at *
      have hS : ∀ W, Below w8.heap.size w8 W → (Below w8.heap.size w8 W ∧ W.cell? ⟨w.heap.size, 0, none⟩ = some (.int .i64 n) ∧ W.cell? ⟨w.heap.size, 1, none⟩ = some v ∧ W.cell? ⟨pb, po + x, none⟩ = some (.int .i64 (ordN n zs e x)) ∧ W.cell? ⟨pb, po + ix, none⟩ = some (.int .i64 (ordN n zs e x)) ∧ W.cell? ⟨pb, po + tm n zs x y, none⟩ = some (.int .i64 (ordN n zs e (tm n zs x y))) ∧ W.cell? ⟨pb, po + tm n zs y x, none⟩ = some (.int .i64 (ordN n zs e (tm n zs x y)))) := fun W h => ⟨h, below_cell h q0, below_cell h q1, below_cell h hca, below_cell h hcb, below_cell h hcc, below_cell h hcd⟩
      have hS0 := hS _ (bdrew (Below.refl _ w8))
      clear hca hcb hcc hcd a80 a100 a120 a140 q0 q1
      go_region_held3 (fun W => Below w8.heap.size w8 W ∧ W.cell? ⟨w.heap.size, 0, none⟩ = some (.int .i64 n) ∧ W.cell? ⟨w.heap.size, 1, none⟩ = some v ∧ W.cell? ⟨pb, po + x, none⟩ = some (.int .i64 (ordN n zs e x)) ∧ W.cell? ⟨pb, po + ix, none⟩ = some (.int .i64 (ordN n zs e x)) ∧ W.cell? ⟨pb, po + tm n zs x y, none⟩ = some (.int .i64 (ordN n zs e (tm n zs x y))) ∧ W.cell? ⟨pb, po + tm n zs y x, none⟩ = some (.int .i64 (ordN n zs e (tm n zs x y))))
        (first | exact hS0 | assumption | exact hS _ (bcat2 (And.left ‹_›) hl1))
        (first | (go_at_call 40; refine (M_ok n v zs _ _ _ HT.out (hv8.below (And.left ‹_›)) (by assumption) (by assumption)).mono ?_; rintro r V1 ⟨rfl, hl1⟩))
      all_goals (
        obtain ⟨hU, _⟩ := ‹Below w8.heap.size w8 V1 ∧ _›
        have hBU := bcat hB8 hU hB8.size
        clear hS hS0
        go_wp2
        go_ret
        exact ⟨rfl, hBU⟩)
  · obtain ⟨c, i, hci⟩ : ∃ c i, tfl N zs [a, b] = (c, i) := ⟨_, _, rfl⟩
    rw [hci] at Htf hc
    have hcb : (c != 0) = true := by simpa using hc
    clear hci hc
    go_enter Try.func9, Try.ntmps9
    go_wp2_with fail
    generalize w.alloc (.cells #[.int .i64 N, v] 24) = w0 at *
    refine (begun_any w0).mono ?_
    rintro r w1 ⟨rfl, hb1⟩
    obtain ⟨g0, g1, _, _⟩ := hg0.two
    have k0 := below_cell hb1 g0
    have k1 := below_cell hb1 g1
    go_wp2_with fail
    have hA1 := bcat2 hb1 (balloc w1 (.cells #[.int .i64 a, .int .i64 b] 3))
    refine (Htf.out _ _ (hv0.below hA1) (sl2 _ _ _)).mono ?_
    rintro r w2 ⟨rfl, hb2⟩
    have to2 := bcat hB0 (bcat2 hA1 hb2) hB0.size
    clear k0 k1
    go_wp2
    go_ret
    exact ⟨rfl, to2⟩
end Go.Proofs.Ytpcgacelljbkdaa
