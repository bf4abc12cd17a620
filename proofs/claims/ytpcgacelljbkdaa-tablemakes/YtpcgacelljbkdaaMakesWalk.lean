/- TableMakes returns true at every number. -/
import Derived.Test.YtpcgacelljbkdaaBegun
import Derived.Test.YtpcgacelljbkdaaMakers
import Derived.Test.YtpcgacelljbkdaaMmath
import Derived.Test.YtpcgacelljbkdaaNog
import Derived.Test.YtpcgacelljbkdaaOref
namespace Go.Proofs.Ytpcgacelljbkdaa
open Go Go.RowKit

set_option maxRecDepth 100000 in
set_option maxHeartbeats 8000000 in
theorem makes_bad (n : Int) (w : World) (hn : n < 1 ∨ 60 < n) :
    Calls Try.prog 5 #[.int .i64 n] w fun r w' => r = .returned (.bool true) ∧ Below w.heap.size w w' := by
  have H1 := hide (fun W => cyclic_bad n W hn)
  have H2 := hide (fun W => dihedral_bad n W (by omega))
  have H3 := hide (fun W => dicyclic_bad n W (by omega))
  rcases hn with hn | hn
  all_goals (
    go_enter Try.func5, Try.ntmps5
    go_wp2_with fail
    refine (H1.out _).mono ?_
    rintro r w1 ⟨rfl, hb1⟩
    obtain ⟨v1, hv1, g3, f4, hl1⟩ := boxes w1 0 (.slice none 0 0) 3 0
    go_wp2_with fail
    rw [← hv1]
    clear hv1
    refine (H2.out _).mono ?_
    rintro r w2 ⟨rfl, hb2⟩
    obtain ⟨v2, hv2, g5, f6, hl2⟩ := boxes w2 0 (.slice none 0 0) 3 0
    go_wp2_with fail
    rw [← hv2]
    clear hv2
    refine (H3.out _).mono ?_
    rintro r w3 ⟨rfl, hb3⟩
    obtain ⟨v3, hv3, g7, f8, hl3⟩ := boxes w3 0 (.slice none 0 0) 3 0
    go_wp2_with fail
    rw [← hv3]
    clear hv3
    refine (begun_any v3).mono ?_
    rintro r w4 ⟨rfl, hb4⟩
    go_wp2_with fail
    refine (f_any _ _ _).mono ?_
    rintro r w5 ⟨rfl, hb5⟩
    have h9 : Blk (w5.alloc (.cells #[.int .i64 3, .int .i64 0] 27)) w5.heap.size 27 [.int .i64 3, .int .i64 0] := blk0 _ _
    have t3 := bcat2 hb4 (bcat2 hb5 (balloc w5 (.cells #[.int .i64 3, .int .i64 0] 27)))
    have t2 := bcat2 (bcat2 hb3 hl3) t3
    have t1 := bcat2 (bcat2 hb2 hl2) t2
    have t0 := bcat2 (bcat2 hb1 hl1) t1
    have g3 := blk_below g3 t1
    have f4 := blk_below f4 t1
    have g5 := blk_below g5 t2
    have f6 := blk_below f6 t2
    have g7 := blk_below g7 t3
    have f8 := blk_below f8 t3
    clear hb1 hb2 hb3 hb4 hb5 hl1 hl2 hl3 t1 t2 t3 H1 H2 H3
    have a0 := g3.c0
    have a1 := g3.c1
    have b0 := f4.c0
    have b1 := f4.c1
    have d0 := f6.c0
    have d1 := f6.c1
    have e0 := f8.c0
    have e1 := f8.c1
    have i0 := h9.c0
    have i1 := h9.c1
    go_wp2_with fail
    generalize w5.alloc (.cells #[.int .i64 3, .int .i64 0] 27) = v5 at *
    refine (noGroup_none _).mono ?_
    rintro r x1 ⟨rfl, hx1⟩
    clear a0 a1 b0 b1 d0 d1 e0 e1 i0 i1
    have a0 := below_cell hx1 g5.c0
    have a1 := below_cell hx1 g5.c1
    go_wp2_with fail
    refine (noGroup_none _).mono ?_
    rintro r x2 ⟨rfl, hx2⟩
    clear a0 a1
    have a0 := below_cell (bcat2 hx1 hx2) g7.c0
    have a1 := below_cell (bcat2 hx1 hx2) g7.c1
    go_wp2_with fail
    refine (noGroup_none _).mono ?_
    rintro r x3 ⟨rfl, hx3⟩
    clear a0 a1
    go_wp2
    go_ret
    exact ⟨rfl, bcat2 t0 (bcat2 hx1 (bcat2 hx2 hx3))⟩)
theorem orImp {A B C D E F G H I : Prop} {X Y : Prop} (f : X → Y) (h : (A ∧ B ∧ C ∧ X) ∨ (D ∧ E ∧ F ∧ G ∧ H ∧ I)) : (A ∧ B ∧ C ∧ Y) ∨ (D ∧ E ∧ F ∧ G ∧ H ∧ I) := by
  rcases h with ⟨a, b, c, x⟩ | h
  · exact .inl ⟨a, b, c, f x⟩
  · exact .inr h
/-- A group by the document has no fault. -/

theorem groupFault_ok {n e : Nat} {zs : List Int} (h : IsGrp n zs e) (v : Value) (w : World) (hv : Sl w v zs) :
    Calls Try.prog 18 #[.agg #[.int .i64 n, v]] w fun x w' => x = .returned (.agg #[.int .i64 0, .int .i64 0]) ∧ Below w.heap.size w w' := by
  have h1 := groupFault_any n v zs w hv
  rw [gfault_of_grp h] at h1
  exact h1
theorem M_is {n a b r : Nat} {zs : List Int} (h : IsTab n zs) (ha : a < n) (hb : b < n) (hr : tm n zs a b = r) (v : Value) (w : World) (hv : Sl w v zs) :
    Calls Try.prog 40 #[.agg #[.int .i64 n, v], .int .i64 a, .int .i64 b] w fun e w' => e = .returned (.int .i64 r) ∧ Below w.heap.size w w' := by
  have h1 := M_ok n v zs a b w h hv ha hb
  rw [hr] at h1
  exact h1

theorem movesSl (n i s : Nat) (v w : World) (h1 : 1 ≤ n) (h2 : n ≤ 60) (hi : i < n) (hs : s ≤ 1) (hv : 0 < v.heap.size) (hB : Below v.heap.size v w) :
    Calls Try.prog 42 #[.int .i64 n, .int .i64 i, .int .i64 s] w fun e w' => ∃ r, e = .returned r ∧ Sl w' r (movL n i s) ∧ Below w.heap.size w w' := by
  refine (moves_ok n i s w h1 h2 hi hs).mono ?_
  rintro e w' ⟨r, rfl, hr, hb⟩
  exact ⟨r, rfl, hr.sl (by have := hB.size; have := hb.size; omega), hb⟩
theorem thenSl (n i s k t : Nat) (x y : Value) (v w : World) (h1 : 1 ≤ n) (h2 : n ≤ 60) (hv : 0 < v.heap.size) (hx : Sl w x (movL n i s)) (hy : Sl w y (movL n k t)) (hB : Below v.heap.size v w) :
    Calls Try.prog 43 #[x, y] w fun e w' => ∃ r, e = .returned r ∧ Sl w' r (thenL (movL n i s) (movL n k t)) ∧ Below w.heap.size w w' := by
  refine (then_ok x y _ _ w hx hy (fun j hj => ?_) (by rw [movL_len]; omega) (by rw [movL_len]; omega)).mono ?_
  · rw [movL_len] at hj
    exact ⟨mv n i s j, movL_get hj, by rw [movL_len]; exact mv_lt h1⟩
  · rintro e w' ⟨r, rfl, hr, hb⟩
    exact ⟨r, rfl, hr.sl (by have := hB.size; have := hb.size; omega), hb⟩
theorem ints_true {xs ys : List Int} (h : xs = ys) (u v : Value) (w : World) (hu : Sl w u xs) (hv : Sl w v ys) :
    Calls Try.prog 41 #[u, v] w fun e w' => e = .returned (.bool true) ∧ Below w.heap.size w w' := by
  have h1 := ints_any u v xs ys w hu hv
  rw [decide_eq_true h] at h1
  exact h1

set_option maxRecDepth 100000 in
set_option maxHeartbeats 32000000 in
theorem makes_ok (n : Nat) (w : World) (h1 : 1 ≤ n) (h2 : n ≤ 60) :
    Calls Try.prog 5 #[.int .i64 n] w fun r w' => r = .returned (.bool true) ∧ Below w.heap.size w w' := by
  obtain ⟨M, hM⟩ : ∃ M, 2 * n = M := ⟨_, rfl⟩
  obtain ⟨K, hK⟩ : ∃ K, 2 * (2 * n) = K := ⟨_, rfl⟩
  have Hc := hide (fun W => cyclic_ok n W h1 h2)
  have HGc := hide (fun (x : Value) W (h : Sl W x (mkT n (fun a b => (a + b) % n))) => groupFault_ok (cyc_grp h1 h2) x W h)
  have HMc := hide (fun (x : Value) W (a b : Nat) (ha : a < n) (hb : b < n) (h : Sl W x (mkT n (fun a b => (a + b) % n))) => M_is (r := (a + b) % n) (cyc_grp h1 h2).tab ha hb (tm_mk ha hb) x W h)
  have Hd : ∀ W, Calls Try.prog 36 #[.int .i64 n] W fun e w' => ∃ D a l cap c, e = .returned (.tuple #[.agg #[.int .i64 D, .slice a l cap], .agg #[.int .i64 c, .int .i64 0]]) ∧ ((n ≤ 30 ∧ D = (M : Int) ∧ c = 0 ∧ Sl w' (.slice a l cap) (mkT M (tf n 0))) ∨ (30 < n ∧ D = 0 ∧ c = 3 ∧ a = none ∧ l = 0 ∧ cap = 0)) ∧ Below W.heap.size W w' := by
    intro W
    by_cases h30 : n ≤ 30
    · refine (dihedral_ok n W h1 h30).mono ?_
      rintro e w' ⟨u, rfl, hu, hb⟩
      obtain ⟨a, cap, _, _, rfl, _⟩ := id hu
      rw [hM] at hu ⊢
      exact ⟨_, _, _, _, _, rfl, .inl ⟨h30, rfl, rfl, hu.sl⟩, hb⟩
    · refine (dihedral_bad n W (by omega)).mono ?_
      rintro e w' ⟨rfl, hb⟩
      exact ⟨_, _, _, _, _, rfl, .inr ⟨by omega, rfl, rfl, rfl, rfl, rfl⟩, hb⟩
  have Hq : ∀ W, Calls Try.prog 37 #[.int .i64 n] W fun e w' => ∃ D a l cap c, e = .returned (.tuple #[.agg #[.int .i64 D, .slice a l cap], .agg #[.int .i64 c, .int .i64 0]]) ∧ ((n ≤ 15 ∧ D = (K : Int) ∧ c = 0 ∧ Sl w' (.slice a l cap) (mkT K (tf M n))) ∨ (15 < n ∧ D = 0 ∧ c = 3 ∧ a = none ∧ l = 0 ∧ cap = 0)) ∧ Below W.heap.size W w' := by
    intro W
    by_cases h15 : n ≤ 15
    · refine (dicyclic_ok n W h1 h15).mono ?_
      rintro e w' ⟨u, rfl, hu, hb⟩
      obtain ⟨a, cap, _, _, rfl, _⟩ := id hu
      rw [hK, hM] at hu ⊢
      exact ⟨_, _, _, _, _, rfl, .inl ⟨h15, rfl, rfl, hu.sl⟩, hb⟩
    · refine (dicyclic_bad n W (by omega)).mono ?_
      rintro e w' ⟨rfl, hb⟩
      exact ⟨_, _, _, _, _, rfl, .inr ⟨by omega, rfl, rfl, rfl, rfl, rfl⟩, hb⟩
  have HGd := hide (fun (h30 : n ≤ 30) => by
    have h := tf_grp (m := n) (q := 0) h1 h30 ⟨0, by omega⟩
    rw [hM] at h
    exact (show ∀ (x : Value) W (_ : Sl W x (mkT M (tf n 0))), Calls Try.prog 18 #[.agg #[.int .i64 M, x]] W fun e w' => e = .returned (.agg #[.int .i64 0, .int .i64 0]) ∧ Below W.heap.size W w' from fun x W hs => groupFault_ok h x W hs))
  have HMd := hide (fun (h30 : n ≤ 30) => by
    have h := tf_grp (m := n) (q := 0) h1 h30 ⟨0, by omega⟩
    rw [hM] at h
    exact (show ∀ (x : Value) W (a b : Nat) (_ : a < M) (_ : b < M) (_ : Sl W x (mkT M (tf n 0))), Calls Try.prog 40 #[.agg #[.int .i64 M, x], .int .i64 a, .int .i64 b] W fun e w' => e = .returned (.int .i64 (tf n 0 a b : Nat)) ∧ Below W.heap.size W w' from fun x W a b ha hb hs => M_is h.tab ha hb (tm_mk ha hb) x W hs))
  have HGq := hide (fun (h15 : n ≤ 15) => by
    have h := dic_grp h1 h15
    rw [hK, hM] at h
    exact (show ∀ (x : Value) W (_ : Sl W x (mkT K (tf M n))), Calls Try.prog 18 #[.agg #[.int .i64 K, x]] W fun e w' => e = .returned (.agg #[.int .i64 0, .int .i64 0]) ∧ Below W.heap.size W w' from fun x W hs => groupFault_ok h x W hs))
  have HPq := hide (fun (h15 : n ≤ 15) => by
    have h := dic_grp h1 h15
    have hz := fun i (hi : i < 2 * n) => dic_pz (i := i) h1 h15 hi
    rw [hK, hM] at h hz
    exact (show ∀ (x : Value) W (i : Nat) (_ : i < M) (_ : Sl W x (mkT K (tf M n))), Calls Try.prog 32 #[.agg #[.int .i64 K, x], .int .i64 1, .int .i64 i] W fun e w' => e = .returned (.int .i64 i) ∧ Below W.heap.size W w' from fun x W i hi hs => by
      have h5 := P_ok h (a := 1) (by omega) i x W hs
      rw [hz i hi] at h5
      exact h5))
  have HTq := hide (fun (h15 : n ≤ 15) => by
    have h := dic_grp h1 h15
    have hz := fun i (hi : i < 2 * n) => dic_turn (i := i) h1 hi
    rw [hK, hM] at h hz
    exact (show ∀ (x : Value) W (i : Nat) (_ : i < M) (_ : Sl W x (mkT K (tf M n))), Calls Try.prog 40 #[.agg #[.int .i64 K, x], .int .i64 i, .int .i64 M] W fun e w' => e = .returned (.int .i64 ((M : Int) + (i : Int))) ∧ Below W.heap.size W w' from fun x W i hi hs => by
      have h5 := M_is h.tab (a := i) (b := M) (by omega) (by omega) (hz i hi) x W hs
      exact h5))
  have HSq := hide (fun (h15 : n ≤ 15) => by
    have h := dic_grp h1 h15
    have hz := dic_sq h1
    rw [hK, hM] at h hz
    exact (show ∀ (x : Value) W (_ : Sl W x (mkT K (tf M n))), Calls Try.prog 40 #[.agg #[.int .i64 K, x], .int .i64 M, .int .i64 M] W fun e w' => e = .returned (.int .i64 n) ∧ Below W.heap.size W w' from fun x W hs => M_is h.tab (a := M) (b := M) (by omega) (by omega) hz x W hs))
  have HXq := hide (fun (h15 : n ≤ 15) => by
    have h := dic_grp h1 h15
    have hz := dic_x1 h1
    rw [hK, hM] at h hz
    exact (show ∀ (x : Value) W (_ : Sl W x (mkT K (tf M n))), Calls Try.prog 40 #[.agg #[.int .i64 K, x], .int .i64 M, .int .i64 1] W fun e w' => e = .returned (.int .i64 (M + (M - 1) : Nat)) ∧ Below W.heap.size W w' from fun x W hs => M_is h.tab (a := M) (b := 1) (by omega) (by omega) hz x W hs))
  have HYq := hide (fun (h15 : n ≤ 15) => by
    have h := dic_grp h1 h15
    have hz := dic_y h1
    rw [hK, hM] at h hz
    exact (show ∀ (x : Value) W (_ : Sl W x (mkT K (tf M n))), Calls Try.prog 40 #[.agg #[.int .i64 K, x], .int .i64 (M - 1 : Nat), .int .i64 M] W fun e w' => e = .returned (.int .i64 (M + (M - 1) : Nat)) ∧ Below W.heap.size W w' from fun x W hs => M_is h.tab (a := M - 1) (b := M) (by omega) (by omega) hz x W hs))
  have HIq := hide (fun (h15 : n ≤ 15) => by
    have h := dic_grp h1 h15
    have hz := dic_inv h1 h15
    rw [hK, hM] at h hz
    exact (show ∀ (x : Value) W (_ : Sl W x (mkT K (tf M n))), Calls Try.prog 27 #[.agg #[.int .i64 K, x], .int .i64 1] W fun e w' => e = .returned (.int .i64 (M - 1 : Nat)) ∧ Below W.heap.size W w' from fun x W hs => by
      have h5 := I_ok K 1 x _ W h.tab hs (by omega)
      rw [hz] at h5
      exact h5))
  have HOq := hide (fun (h15 : n ≤ 15) => by
    have h := dic_grp h1 h15
    have hz := dic_ord h1 h15
    rw [hK, hM] at h hz
    exact (show ∀ (x : Value) W (_ : Sl W x (mkT K (tf M n))), Calls Try.prog 33 #[.agg #[.int .i64 K, x], .int .i64 1] W fun e w' => e = .returned (.int .i64 M) ∧ Below W.heap.size W w' from fun x W hs => by
      have h5 := O_ok h (a := 1) (by omega) x W hs
      rw [hz] at h5
      exact h5))
  have HCd := hide (fun (h3 : n < 3) => by
    have h := tf_grp (m := n) (q := 0) h1 (by omega) ⟨0, by omega⟩
    have hc : comB (2 * n) (mkT (2 * n) (tf n 0)) = true := by
      rcases (show n = 1 ∨ n = 2 by omega) with rfl | rfl
      · exact dih_com1
      · exact dih_com2
    rw [hM] at h hc
    exact (show ∀ (x : Value) W (_ : Sl W x (mkT M (tf n 0))), Calls Try.prog 21 #[.agg #[.int .i64 M, x]] W fun e w' => e = .returned (.bool true) ∧ Below W.heap.size W w' from fun x W hs => by
      have h5 := commutes_ok M x _ W h.tab hs
      rw [hc] at h5
      exact h5))
  have HOd := hide (fun (h3 : n = 2) => by
    have h := tf_grp (m := n) (q := 0) h1 (by omega) ⟨0, by omega⟩
    have hc : ordN (2 * n) (mkT (2 * n) (tf n 0)) 0 1 = 2 := by
      subst h3
      exact dih_ord2
    rw [hM] at h hc
    exact (show ∀ (x : Value) W (_ : Sl W x (mkT M (tf n 0))), Calls Try.prog 33 #[.agg #[.int .i64 M, x], .int .i64 1] W fun e w' => e = .returned (.int .i64 2) ∧ Below W.heap.size W w' from fun x W hs => by
      have h5 := O_ok h (a := 1) (by omega) x W hs
      rw [hc] at h5
      exact h5))
  have HMV := hide (fun a b (ha : a < 2 * n) (hb : b < 2 * n) => And.intro (dih_moves h1 ha hb) (And.intro (tf_kind h1 ha hb) (And.intro (kind_le h1 ha) (kind_le h1 hb))))
  rw [hM] at HMV
  generalize M - 1 = P1 at *
  generalize M + P1 = X1 at *
  have hmul : (2 : Int) * (n : Int) = (M : Int) := by omega
  have hmul4 : (4 : Int) * (n : Int) = (K : Int) := by omega
  have HD := hide Hd
  have HQ := hide Hq
  have hMl : M ≤ 120 := by omega
  have hKl : K ≤ 240 := by omega
  have hM2 : 2 ≤ M := by omega
  have HnM := hide (show n < M by omega)
  have HKM := hide (show M < K ∧ 1 < K by omega)
  clear Hd Hq hM hK
  generalize mkT n (fun a b => (a + b) % n) = Tc at *
  generalize mkT M (tf n 0) = Td at *
  generalize mkT K (tf M n) = Tq at *
  go_enter Try.func5, Try.ntmps5
  go_wp2_with fail
  refine (Hc.out _).mono ?_
  rintro r w1 ⟨uc, rfl, huc, hb1⟩
  have huc := huc.sl
  obtain ⟨ac, cc, _, _, rfl, _⟩ := id huc
  generalize Tc.length = lc' at *
  obtain ⟨v1, hv1, g3, f4, hl1⟩ := boxes w1 n (.slice ac lc' cc) 0 0
  go_wp2_with fail
  rw [← hv1]
  clear hv1
  refine (HD.out _).mono ?_
  rintro r w2 ⟨D, ad, ld, cd, fd, rfl, hud, hb2⟩
  obtain ⟨v2, hv2, g5, f6, hl2⟩ := boxes w2 D (.slice ad ld cd) fd 0
  go_wp2_with fail
  rw [← hv2]
  clear hv2
  refine (HQ.out _).mono ?_
  rintro r w3 ⟨Q, aq, lq, cq, fq, rfl, huq, hb3⟩
  obtain ⟨v3, hv3, g7, f8, hl3⟩ := boxes w3 Q (.slice aq lq cq) fq 0
  go_wp2_with fail
  rw [← hv3]
  clear hv3
  refine (begun_any v3).mono ?_
  rintro r w4 ⟨rfl, hb4⟩
  go_wp2_with fail
  refine (f_any _ _ _).mono ?_
  rintro r w5 ⟨rfl, hb5⟩
  have h9 : Blk (w5.alloc (.cells #[.int .i64 3, .int .i64 0] 27)) w5.heap.size 27 [.int .i64 3, .int .i64 0] := blk0 _ _
  have t3 := bcat2 hb4 (bcat2 hb5 (balloc w5 (.cells #[.int .i64 3, .int .i64 0] 27)))
  have t2 := bcat2 (bcat2 hb3 hl3) t3
  have t1 := bcat2 (bcat2 hb2 hl2) t2
  have t0 := bcat2 (bcat2 hb1 hl1) t1
  have g3 := blk_below g3 t1
  have f4 := blk_below f4 t1
  have g5 := blk_below g5 t2
  have f6 := blk_below f6 t2
  have g7 := blk_below g7 t3
  have f8 := blk_below f8 t3
  have sc := huc.below (bcat2 hl1 t1)
  have sd := orImp (fun h => Sl.below h (bcat2 hl2 t2)) hud
  have sq := orImp (fun h => Sl.below h (bcat2 hl3 t3)) huq
  have SD := hide sd
  have SQ := hide sq
  clear hb1 hb2 hb3 hb4 hb5 hl1 hl2 hl3 t1 t2 t3 Hc HD HQ huc hud huq sd sq
  have b0 := f4.c0
  have a0 := g3.c0
  have a1 := g3.c1
  go_wp2_with fail
  generalize w5.alloc (.cells #[.int .i64 3, .int .i64 0] 27) = v5 at *
  refine (HGc.out _ _ sc).mono ?_
  rintro r x1 ⟨rfl, hx1⟩
  clear a0 a1 b0
  have a0 := below_cell hx1 g3.c0
  have hf27 := field27
  go_wp2
  clear a0 hf27
  go_loopw [10] (fun i wr => ∃ a : Nat, a ≤ n ∧ i = .int .i64 a ∧ Below v5.heap.size v5 wr) (fun i _ => n - (intOf i).toNat)
  case atStart => exact ⟨0, Nat.zero_le _, rfl, hx1⟩
  case round =>
    clear hx1
    obtain ⟨a, ha, rfl, hBa⟩ := hrel
    by_cases hlta : a < n
    · go_wp2
      go_loopw [11] (fun i wr => ∃ b : Nat, b ≤ n ∧ i = .int .i64 b ∧ Below v5.heap.size v5 wr) (fun i _ => n - (intOf i).toNat)
      case atStart => exact ⟨0, Nat.zero_le _, rfl, hBa⟩
      case round =>
        clear hBa
        obtain ⟨b, hb, rfl, hBb⟩ := hrel
        by_cases hltb : b < n
        · have hr := nmod (x := (a : Int) + (b : Int)) (y := a + b) (m := n) (by omega)
          have hwr : IntKind.i64.wrap ((a : Int) + (b : Int)) = (a : Int) + (b : Int) := by rw [IntKind.wrap_i64]; omega
          have hrl : (a + b) % n < n := Nat.mod_lt _ (by omega)
          have hm0 : ¬ ((n : Int) = 0) := by omega
          have hm1 : ¬ n = 0 := by omega
          have HMab := hide (fun x W h => HMc.out x W a b hlta hltb h)
          generalize (a + b) % n = r9 at *
          have hS : ∀ W, Below v5.heap.size v5 W → (Below v5.heap.size v5 W ∧ W.cell? ⟨w1.heap.size, 0, none⟩ = some (.int .i64 n) ∧ W.cell? ⟨w1.heap.size, 1, none⟩ = some (.slice ac lc' cc)) := fun W h => ⟨h, below_cell h g3.c0, below_cell h g3.c1⟩
          have hS0 := hS _ (bdrew hBb)
          go_wp2_with fail
          go_region_held3 (fun W => Below v5.heap.size v5 W ∧ W.cell? ⟨w1.heap.size, 0, none⟩ = some (.int .i64 n) ∧ W.cell? ⟨w1.heap.size, 1, none⟩ = some (.slice ac lc' cc))
            (first | exact hS0 | assumption | exact hS _ (bcat2 (And.left ‹_›) hl1))
            (first | (go_at_call 40; refine (HMab.out _ _ (sc.below (And.left ‹_›))).mono ?_; rintro r V2 ⟨rfl, hl1⟩))
          obtain ⟨hB4, _⟩ := ‹Below v5.heap.size v5 V2 ∧ _›
          clear hS hS0 hBb
          go_wp2
          go_roundw
          case rel => exact ⟨b + 1, by omega, by go_num, hB4⟩
          case measure => simp [intOf]; omega
        · go_wp2
          go_roundw
          case rel => exact ⟨a + 1, by omega, by go_num, hBb⟩
          case measure => simp [intOf]; omega
    · clear HGc HMc sc g3 f4
      rcases SD.out with ⟨h30, rfl, rfl, hsd⟩ | ⟨h30, rfl, rfl, rfl, rfl, rfl⟩
      · have a0 := below_cell hBa f6.c0
        have e0 := below_cell hBa g5.c0
        have e1 := below_cell hBa g5.c1
        have hf27 := field27
        go_wp2_with fail
        refine (HGd.out h30 _ _ (hsd.below hBa)).mono ?_
        rintro r x2 ⟨rfl, hx2⟩
        have hX := bcat2 hBa hx2
        clear a0 e0 e1
        go_wp2
        clear hf27 hBa hx2 ha hlta
        go_loopw [12] (fun i wr => ∃ a : Nat, a ≤ M ∧ i = .int .i64 a ∧ Below v5.heap.size v5 wr) (fun i _ => M - (intOf i).toNat)
        case atStart => exact ⟨0, Nat.zero_le _, rfl, hX⟩
        case round =>
          clear hX
          obtain ⟨a2, ha2, rfl, hBa⟩ := hrel
          by_cases hlta : a2 < M
          · go_wp2
            go_loopw [13] (fun i wr => ∃ b : Nat, b ≤ M ∧ i = .int .i64 b ∧ Below v5.heap.size v5 wr) (fun i _ => M - (intOf i).toNat)
            case atStart => exact ⟨0, Nat.zero_le _, rfl, hBa⟩
            case round =>
              clear hBa
              obtain ⟨b2, hb2, rfl, hBb⟩ := hrel
              by_cases hltb : b2 < M
              · by_cases hn3 : 2 < n
                · obtain ⟨e9, ⟨l1, l2⟩, ⟨l3, l4⟩, l5, l6⟩ := HMV.out a2 b2 hlta hltb
                  have HMx := hide (fun W h => HMd.out h30 (.slice ad ld cd) W a2 b2 hlta hltb h)
                  have E9 := hide e9
                  clear e9
                  generalize tf n 0 a2 b2 = x9 at *
                  have e0 := below_cell hBb g5.c0
                  have e1 := below_cell hBb g5.c1
                  go_wp2_with fail
                  refine (HMx.out _ (hsd.below hBb)).mono ?_
                  rintro r y1 ⟨rfl, hy1⟩
                  clear e0 e1
                  have hB1 := bcat2 hBb hy1
                  have q1 := nmod (x := (x9 : Int)) (y := x9) (m := n) rfl
                  have q2 := ndiv (x := x9) (y := n)
                  have q3 := nmod (x := (a2 : Int)) (y := a2) (m := n) rfl
                  have q4 := ndiv (x := a2) (y := n)
                  have q5 := nmod (x := (b2 : Int)) (y := b2) (m := n) rfl
                  have q6 := ndiv (x := b2) (y := n)
                  generalize x9 % n = xr at *
                  generalize x9 / n = xq at *
                  generalize a2 % n = ar at *
                  generalize a2 / n = aq2 at *
                  generalize b2 % n = br at *
                  generalize b2 / n = bq at *
                  have hv0 : 0 < v5.heap.size := by have := g5.lt; omega
                  have HVx := hide (fun W (h : Below v5.heap.size v5 W) => movesSl n xr xq v5 W h1 h2 l1 l2 hv0 h)
                  have HVa := hide (fun W (h : Below v5.heap.size v5 W) => movesSl n ar aq2 v5 W h1 h2 l3 l4 hv0 h)
                  have HVb := hide (fun W (h : Below v5.heap.size v5 W) => movesSl n br bq v5 W h1 h2 l5 l6 hv0 h)
                  have HT := hide (fun (r s : Value) W (h : Sl W r (movL n br bq)) (k : Sl W s (movL n ar aq2)) (hB : Below v5.heap.size v5 W) => thenSl n br bq ar aq2 r s v5 W h1 h2 hv0 h k hB)
                  have HI := hide (fun (r s : Value) W (h : Sl W r (movL n xr xq)) (k : Sl W s (thenL (movL n br bq) (movL n ar aq2))) => ints_true E9.out r s W h k)
                  have hm0 : ¬ ((n : Int) = 0) := by omega
                  have hm1 : ¬ n = 0 := by omega
                  have hw1 : IntKind.i64.wrap (xq : Int) = (xq : Int) := by rw [IntKind.wrap_i64]; omega
                  have hw2 : IntKind.i64.wrap (aq2 : Int) = (aq2 : Int) := by rw [IntKind.wrap_i64]; omega
                  have hw3 : IntKind.i64.wrap (bq : Int) = (bq : Int) := by rw [IntKind.wrap_i64]; omega
                  have hS : ∀ W, Below v5.heap.size v5 W → (Below v5.heap.size v5 W ∧ W.cell? ⟨w2.heap.size, 0, none⟩ = some (.int .i64 M)) := fun W h => ⟨h, below_cell h g5.c0⟩
                  have hS0 := hS _ (bdrew hB1)
                  go_wp2_with fail
                  go_region_held3 (fun W => Below v5.heap.size v5 W ∧ W.cell? ⟨w2.heap.size, 0, none⟩ = some (.int .i64 M))
                    (first | exact hS0 | assumption | exact hS _ (bcat2 (And.left ‹_›) hl1))
                    (first
                      | (go_at_call_of 42 (Value.int IntKind.i64 (xr : Int)); refine (HVx.out _ (And.left ‹_›)).mono ?_; rintro r U1 ⟨r1, rfl, hr1, hl1⟩)
                      | (go_at_call_of 42 (Value.int IntKind.i64 (br : Int)); refine (HVb.out _ (And.left ‹_›)).mono ?_; rintro r U2 ⟨r2, rfl, hr2, hl1⟩; have hA := hl1)
                      | (go_at_call_of 42 (Value.int IntKind.i64 (ar : Int)); refine (HVa.out _ (And.left ‹_›)).mono ?_; rintro r U3 ⟨r3, rfl, hr3, hl1⟩; have hC := hl1)
                      | (go_at_call 43; refine (HT.out _ _ _ (hr2.below hl1) hr3 (And.left ‹_›)).mono ?_; rintro r U4 ⟨r4, rfl, hr4, hl1⟩; have hE := hl1)
                      | (go_at_call 41; refine (HI.out _ _ _ (((hr1.below hA).below hC).below hE) hr4).mono ?_; rintro r U5 ⟨rfl, hl1⟩))
                  obtain ⟨hB4, _⟩ := ‹Below v5.heap.size v5 U5 ∧ _›
                  clear hS hS0 hBb
                  go_wp2
                  go_roundw
                  case rel => exact ⟨b2 + 1, by omega, by go_num, hB4⟩
                  case measure => simp [intOf]; omega
                · go_wp2
                  go_roundw
                  case rel => exact ⟨a2 + 1, by omega, by go_num, hBb⟩
                  case measure => simp [intOf]; omega
              · go_wp2
                go_roundw
                case rel => exact ⟨a2 + 1, by omega, by go_num, hBb⟩
                case measure => simp [intOf]; omega
          · by_cases h3 : n < 3
            · have c3 : (n : Int) < 3 := by omega
              have e0 := below_cell hBa g5.c0
              have e1 := below_cell hBa g5.c1
              by_cases hn2 : n = 2
              · have c2q : ((n : Int) == 2) = true := by simp; omega
                have HN2 := hide hn2
                clear hn2
                go_wp2_with fail
                refine (HCd.out (by omega) _ _ (hsd.below hBa)).mono ?_
                rintro r y1 ⟨rfl, hy1⟩
                clear e0 e1
                have e0 := below_cell (bcat2 hBa hy1) g5.c0
                have e1 := below_cell (bcat2 hBa hy1) g5.c1
                go_wp2_with fail
                refine (HOd.out HN2.out _ _ (hsd.below (bcat2 hBa hy1))).mono ?_
                rintro r y2 ⟨rfl, hy2⟩
                clear e0 e1
                have hX := bcat2 (bcat2 hBa hy1) hy2
                rcases SQ.out with ⟨h15, rfl, rfl, hsq⟩ | ⟨h15, rfl, rfl, rfl, rfl, rfl⟩
                · have a0 := below_cell hX f8.c0
                  have e0 := below_cell hX g7.c0
                  have e1 := below_cell hX g7.c1
                  have hf27 := field27
                  go_wp2_with fail
                  refine (HGq.out h15 _ _ (hsq.below hX)).mono ?_
                  rintro r z1 ⟨rfl, hz1⟩
                  have hY := bcat2 hX hz1
                  clear a0 e0 e1
                  have e0 := below_cell hY g7.c0
                  go_wp2
                  clear hf27 e0
                  go_loopw [16] (fun i wr => ∃ a : Nat, a ≤ M ∧ i = .int .i64 a ∧ Below v5.heap.size v5 wr) (fun i _ => M - (intOf i).toNat)
                  case atStart => exact ⟨0, Nat.zero_le _, rfl, hY⟩
                  case round =>
                    clear hX hY hz1
                    obtain ⟨k, hk, rfl, hBk⟩ := hrel
                    by_cases hltk : k < M
                    · have e0 := below_cell hBk g7.c0
                      have e1 := below_cell hBk g7.c1
                      go_wp2_with fail
                      refine (HPq.out h15 _ _ k hltk (hsq.below hBk)).mono ?_
                      rintro r z2 ⟨rfl, hz2⟩
                      clear e0 e1
                      have e0 := below_cell (bcat2 hBk hz2) g7.c0
                      have e1 := below_cell (bcat2 hBk hz2) g7.c1
                      go_wp2_with fail
                      refine (HTq.out h15 _ _ k hltk (hsq.below (bcat2 hBk hz2))).mono ?_
                      rintro r z3 ⟨rfl, hz3⟩
                      clear e0 e1
                      go_wp2
                      go_roundw
                      case rel => exact ⟨k + 1, by omega, by go_num, bcat2 (bcat2 hBk hz2) hz3⟩
                      case measure => simp [intOf]; omega
                    · have hr := nmod (x := (n : Int)) (y := n) (m := M) rfl
                      rw [Nat.mod_eq_of_lt HnM.out] at hr
                      have hm0 : ¬ ((M : Int) = 0) := by omega
                      have hm1 : ¬ M = 0 := by omega
                      have hwM : IntKind.i64.wrap (M : Int) = (M : Int) := by rw [IntKind.wrap_i64]; omega
                      have hS : ∀ W, Below v5.heap.size v5 W → (Below v5.heap.size v5 W ∧ W.cell? ⟨w3.heap.size, 0, none⟩ = some (.int .i64 K) ∧ W.cell? ⟨w3.heap.size, 1, none⟩ = some (.slice aq lq cq)) := fun W h => ⟨h, below_cell h g7.c0, below_cell h g7.c1⟩
                      have hS0 := hS _ (bdrew hBk)
                      go_wp2_with fail
                      go_region_held3 (fun W => Below v5.heap.size v5 W ∧ W.cell? ⟨w3.heap.size, 0, none⟩ = some (.int .i64 K) ∧ W.cell? ⟨w3.heap.size, 1, none⟩ = some (.slice aq lq cq))
                        (first | exact hS0 | assumption | exact hS _ (bcat2 (And.left ‹_›) hl1))
                        (first
                          | (go_at_call_of 40 (Value.int IntKind.i64 (P1 : Int)); refine (HYq.out h15 _ _ (hsq.below (And.left ‹_›))).mono ?_; rintro r U3 ⟨rfl, hl1⟩)
                          | (go_at_call_of 40 (Value.int IntKind.i64 1); refine (HXq.out h15 _ _ (hsq.below (And.left ‹_›))).mono ?_; rintro r U2 ⟨rfl, hl1⟩)
                          | (go_at_call 40; refine (HSq.out h15 _ _ (hsq.below (And.left ‹_›))).mono ?_; rintro r U1 ⟨rfl, hl1⟩)
                          | (go_at_call 27; refine (HIq.out h15 _ _ (hsq.below (And.left ‹_›))).mono ?_; rintro r U4 ⟨rfl, hl1⟩)
                          | (go_at_call 33; refine (HOq.out h15 _ _ (hsq.below (And.left ‹_›))).mono ?_; rintro r U5 ⟨rfl, hl1⟩))
                      obtain ⟨hB4, _⟩ := ‹Below v5.heap.size v5 U5 ∧ _›
                      go_wp2
                      go_ret
                      exact ⟨rfl, bcat2 t0 hB4⟩
                · omega
              · have c2q : ((n : Int) == 2) = false := by simp; omega
                go_wp2_with fail
                refine (HCd.out h3 _ _ (hsd.below hBa)).mono ?_
                rintro r y1 ⟨rfl, hy1⟩
                clear e0 e1
                have hX := bcat2 hBa hy1
                rcases SQ.out with ⟨h15, rfl, rfl, hsq⟩ | ⟨h15, rfl, rfl, rfl, rfl, rfl⟩
                · have a0 := below_cell hX f8.c0
                  have e0 := below_cell hX g7.c0
                  have e1 := below_cell hX g7.c1
                  have hf27 := field27
                  go_wp2_with fail
                  refine (HGq.out h15 _ _ (hsq.below hX)).mono ?_
                  rintro r z1 ⟨rfl, hz1⟩
                  have hY := bcat2 hX hz1
                  clear a0 e0 e1
                  have e0 := below_cell hY g7.c0
                  go_wp2
                  clear hf27 e0
                  go_loopw [16] (fun i wr => ∃ a : Nat, a ≤ M ∧ i = .int .i64 a ∧ Below v5.heap.size v5 wr) (fun i _ => M - (intOf i).toNat)
                  case atStart => exact ⟨0, Nat.zero_le _, rfl, hY⟩
                  case round =>
                    clear hX hY hz1
                    obtain ⟨k, hk, rfl, hBk⟩ := hrel
                    by_cases hltk : k < M
                    · have e0 := below_cell hBk g7.c0
                      have e1 := below_cell hBk g7.c1
                      go_wp2_with fail
                      refine (HPq.out h15 _ _ k hltk (hsq.below hBk)).mono ?_
                      rintro r z2 ⟨rfl, hz2⟩
                      clear e0 e1
                      have e0 := below_cell (bcat2 hBk hz2) g7.c0
                      have e1 := below_cell (bcat2 hBk hz2) g7.c1
                      go_wp2_with fail
                      refine (HTq.out h15 _ _ k hltk (hsq.below (bcat2 hBk hz2))).mono ?_
                      rintro r z3 ⟨rfl, hz3⟩
                      clear e0 e1
                      go_wp2
                      go_roundw
                      case rel => exact ⟨k + 1, by omega, by go_num, bcat2 (bcat2 hBk hz2) hz3⟩
                      case measure => simp [intOf]; omega
                    · have hr := nmod (x := (n : Int)) (y := n) (m := M) rfl
                      rw [Nat.mod_eq_of_lt HnM.out] at hr
                      have hm0 : ¬ ((M : Int) = 0) := by omega
                      have hm1 : ¬ M = 0 := by omega
                      have hwM : IntKind.i64.wrap (M : Int) = (M : Int) := by rw [IntKind.wrap_i64]; omega
                      have hS : ∀ W, Below v5.heap.size v5 W → (Below v5.heap.size v5 W ∧ W.cell? ⟨w3.heap.size, 0, none⟩ = some (.int .i64 K) ∧ W.cell? ⟨w3.heap.size, 1, none⟩ = some (.slice aq lq cq)) := fun W h => ⟨h, below_cell h g7.c0, below_cell h g7.c1⟩
                      have hS0 := hS _ (bdrew hBk)
                      go_wp2_with fail
                      go_region_held3 (fun W => Below v5.heap.size v5 W ∧ W.cell? ⟨w3.heap.size, 0, none⟩ = some (.int .i64 K) ∧ W.cell? ⟨w3.heap.size, 1, none⟩ = some (.slice aq lq cq))
                        (first | exact hS0 | assumption | exact hS _ (bcat2 (And.left ‹_›) hl1))
                        (first
                          | (go_at_call_of 40 (Value.int IntKind.i64 (P1 : Int)); refine (HYq.out h15 _ _ (hsq.below (And.left ‹_›))).mono ?_; rintro r U3 ⟨rfl, hl1⟩)
                          | (go_at_call_of 40 (Value.int IntKind.i64 1); refine (HXq.out h15 _ _ (hsq.below (And.left ‹_›))).mono ?_; rintro r U2 ⟨rfl, hl1⟩)
                          | (go_at_call 40; refine (HSq.out h15 _ _ (hsq.below (And.left ‹_›))).mono ?_; rintro r U1 ⟨rfl, hl1⟩)
                          | (go_at_call 27; refine (HIq.out h15 _ _ (hsq.below (And.left ‹_›))).mono ?_; rintro r U4 ⟨rfl, hl1⟩)
                          | (go_at_call 33; refine (HOq.out h15 _ _ (hsq.below (And.left ‹_›))).mono ?_; rintro r U5 ⟨rfl, hl1⟩))
                      obtain ⟨hB4, _⟩ := ‹Below v5.heap.size v5 U5 ∧ _›
                      go_wp2
                      go_ret
                      exact ⟨rfl, bcat2 t0 hB4⟩
                · omega
            · have c3 : ¬ (n : Int) < 3 := by omega
              have c2q : ((n : Int) == 2) = false := by simp; omega
              have hX := hBa
              rcases SQ.out with ⟨h15, rfl, rfl, hsq⟩ | ⟨h15, rfl, rfl, rfl, rfl, rfl⟩
              · have a0 := below_cell hX f8.c0
                have e0 := below_cell hX g7.c0
                have e1 := below_cell hX g7.c1
                have hf27 := field27
                go_wp2_with fail
                refine (HGq.out h15 _ _ (hsq.below hX)).mono ?_
                rintro r z1 ⟨rfl, hz1⟩
                have hY := bcat2 hX hz1
                clear a0 e0 e1
                have e0 := below_cell hY g7.c0
                go_wp2
                clear hf27 e0
                go_loopw [16] (fun i wr => ∃ a : Nat, a ≤ M ∧ i = .int .i64 a ∧ Below v5.heap.size v5 wr) (fun i _ => M - (intOf i).toNat)
                case atStart => exact ⟨0, Nat.zero_le _, rfl, hY⟩
                case round =>
                  clear hX hY hz1
                  obtain ⟨k, hk, rfl, hBk⟩ := hrel
                  by_cases hltk : k < M
                  · have e0 := below_cell hBk g7.c0
                    have e1 := below_cell hBk g7.c1
                    go_wp2_with fail
                    refine (HPq.out h15 _ _ k hltk (hsq.below hBk)).mono ?_
                    rintro r z2 ⟨rfl, hz2⟩
                    clear e0 e1
                    have e0 := below_cell (bcat2 hBk hz2) g7.c0
                    have e1 := below_cell (bcat2 hBk hz2) g7.c1
                    go_wp2_with fail
                    refine (HTq.out h15 _ _ k hltk (hsq.below (bcat2 hBk hz2))).mono ?_
                    rintro r z3 ⟨rfl, hz3⟩
                    clear e0 e1
                    go_wp2
                    go_roundw
                    case rel => exact ⟨k + 1, by omega, by go_num, bcat2 (bcat2 hBk hz2) hz3⟩
                    case measure => simp [intOf]; omega
                  · have hr := nmod (x := (n : Int)) (y := n) (m := M) rfl
                    rw [Nat.mod_eq_of_lt HnM.out] at hr
                    have hm0 : ¬ ((M : Int) = 0) := by omega
                    have hm1 : ¬ M = 0 := by omega
                    have hwM : IntKind.i64.wrap (M : Int) = (M : Int) := by rw [IntKind.wrap_i64]; omega
                    have hS : ∀ W, Below v5.heap.size v5 W → (Below v5.heap.size v5 W ∧ W.cell? ⟨w3.heap.size, 0, none⟩ = some (.int .i64 K) ∧ W.cell? ⟨w3.heap.size, 1, none⟩ = some (.slice aq lq cq)) := fun W h => ⟨h, below_cell h g7.c0, below_cell h g7.c1⟩
                    have hS0 := hS _ (bdrew hBk)
                    go_wp2_with fail
                    go_region_held3 (fun W => Below v5.heap.size v5 W ∧ W.cell? ⟨w3.heap.size, 0, none⟩ = some (.int .i64 K) ∧ W.cell? ⟨w3.heap.size, 1, none⟩ = some (.slice aq lq cq))
                      (first | exact hS0 | assumption | exact hS _ (bcat2 (And.left ‹_›) hl1))
                      (first
                        | (go_at_call_of 40 (Value.int IntKind.i64 (P1 : Int)); refine (HYq.out h15 _ _ (hsq.below (And.left ‹_›))).mono ?_; rintro r U3 ⟨rfl, hl1⟩)
                        | (go_at_call_of 40 (Value.int IntKind.i64 1); refine (HXq.out h15 _ _ (hsq.below (And.left ‹_›))).mono ?_; rintro r U2 ⟨rfl, hl1⟩)
                        | (go_at_call 40; refine (HSq.out h15 _ _ (hsq.below (And.left ‹_›))).mono ?_; rintro r U1 ⟨rfl, hl1⟩)
                        | (go_at_call 27; refine (HIq.out h15 _ _ (hsq.below (And.left ‹_›))).mono ?_; rintro r U4 ⟨rfl, hl1⟩)
                        | (go_at_call 33; refine (HOq.out h15 _ _ (hsq.below (And.left ‹_›))).mono ?_; rintro r U5 ⟨rfl, hl1⟩))
                    obtain ⟨hB4, _⟩ := ‹Below v5.heap.size v5 U5 ∧ _›
                    go_wp2
                    go_ret
                    exact ⟨rfl, bcat2 t0 hB4⟩
              · have a0 := below_cell hX f8.c0
                have a1 := below_cell hX f8.c1
                have i0 := below_cell hX h9.c0
                have i1 := below_cell hX h9.c1
                have e0 := below_cell hX g7.c0
                have e1 := below_cell hX g7.c1
                go_wp2_with fail
                refine (noGroup_none _).mono ?_
                rintro r x3 ⟨rfl, hx3⟩
                clear a0 a1 e0 e1 i0 i1
                go_wp2
                go_ret
                exact ⟨rfl, bcat2 t0 (bcat2 hX hx3)⟩
      · rcases SQ.out with ⟨h15, _⟩ | ⟨h15, rfl, rfl, rfl, rfl, rfl⟩
        · omega
        · have a0 := below_cell hBa f6.c0
          have a1 := below_cell hBa f6.c1
          have i0 := below_cell hBa h9.c0
          have i1 := below_cell hBa h9.c1
          have e0 := below_cell hBa g5.c0
          have e1 := below_cell hBa g5.c1
          go_wp2_with fail
          refine (noGroup_none _).mono ?_
          rintro r x2 ⟨rfl, hx2⟩
          clear a0 a1 e0 e1 i0 i1
          have hX := bcat2 hBa hx2
          have a0 := below_cell hX f8.c0
          have a1 := below_cell hX f8.c1
          have i0 := below_cell hX h9.c0
          have i1 := below_cell hX h9.c1
          have e0 := below_cell hX g7.c0
          have e1 := below_cell hX g7.c1
          go_wp2_with fail
          refine (noGroup_none _).mono ?_
          rintro r x3 ⟨rfl, hx3⟩
          clear a0 a1 e0 e1 i0 i1
          go_wp2
          go_ret
          exact ⟨rfl, bcat2 t0 (bcat2 hX hx3)⟩
theorem makes_any (n : Int) (w : World) : Calls Try.prog 5 #[.int .i64 n] w fun r w' => r = .returned (.bool true) ∧ Below w.heap.size w w' := by
  by_cases h : n < 1 ∨ 60 < n
  · exact makes_bad n w h
  · obtain ⟨k, rfl⟩ : ∃ k : Nat, n = k := ⟨n.toNat, by omega⟩
    exact makes_ok k w (by omega) (by omega)
end Go.Proofs.Ytpcgacelljbkdaa
