/- What the law QuotMakes answers, by what it calls. -/
import Derived.Test.YtodabkjadejekaaDoorQz
import Derived.Test.YtodabkjadejekaaDoorQy
namespace Go.Proofs.YtodabkjadejekaaDoor
open Go Go.RowKit

set_option maxRecDepth 100000 in
set_option maxHeartbeats 4000000 in
theorem noGroup_any (a : Option Addr) (c : Nat) (w : World) : Calls Tryd.prog 40 #[.agg #[.int .i64 0, .slice a 0 c]] w fun r w' => r = .returned (.bool true) ∧ Below w.heap.size w w' := by
  have hB0 : Below w.heap.size w (w.alloc (.cells #[.int .i64 0, .slice a 0 c] 24)) := balloc w _
  have N0 : Blk (w.alloc (.cells #[.int .i64 0, .slice a 0 c] 24)) w.heap.size 24 [.int .i64 0, .slice a 0 c] := blk0 _ _
  obtain ⟨c0, c1, _, _⟩ := N0.two
  go_enter Tryd.func40, Tryd.ntmps40
  go_wp2
  go_ret
  exact ⟨rfl, hB0⟩
set_option maxRecDepth 100000 in
set_option maxHeartbeats 8000000 in
theorem qmakes_walk (N : Int) (v1 : Option Addr) (v2 v3 : Nat) (u1 : Option Addr) (u2 u3 : Nat) (zs l : List Int) (w : World) (hv : Sl w (.slice v1 v2 v3) zs) (hu : Sl w (.slice u1 u2 u3) l) (hT : Tab w) (hz : zs.length * 8 ≤ 140737488355328) (hl8 : l.length * 8 ≤ 140737488355328)
    (Nq c i : Int) (ys ms : List Int)
    (HQ : Hid (∀ W x m, Below w.heap.size w W → Sl W x zs → Sl W m l → Calls Tryd.prog 36 #[.agg #[.int .i64 N, x], m] W fun x W' => ∃ r1 r2 r3 s1 s2 s3, x = .returned (.tuple #[.agg #[.int .i64 Nq, .slice r1 r2 r3], .slice s1 s2 s3, .agg #[.int .i64 c, .int .i64 i]]) ∧ Sl W' (.slice r1 r2 r3) ys ∧ Sl W' (.slice s1 s2 s3) ms ∧ Below W.heap.size W W'))
    (HF : Hid (∀ W, Below w.heap.size w W → Calls Tryd.prog 37 #[.agg #[.int .i64 N, .slice v1 v2 v3], .slice u1 u2 u3] W fun e W' => e = .returned (.agg #[.int .i64 c, .int .i64 i]) ∧ Below W.heap.size W W'))
    (HI : Hid (c = 0 → ∀ W qv mv, Below w.heap.size w W → Sl W qv ys → Sl W mv ms → Calls Tryd.prog 41 #[.agg #[.int .i64 N, .slice v1 v2 v3], .slice u1 u2 u3, .agg #[.int .i64 Nq, qv], mv] W fun e W' => e = .returned (.bool true) ∧ Below W.heap.size W W'))
    (HG : Hid (c = 0 → gfault Nq ys = (0, 0)))
    (HB : Hid (¬ c = 0 → Nq = 0 ∧ ys = [] ∧ ms = [])) :
    Calls Tryd.prog 7 #[.agg #[.int .i64 N, .slice v1 v2 v3], .slice u1 u2 u3] w fun e w' => e = .returned (.bool true) ∧ Below w.heap.size w w' := by
  have hB0 : Below w.heap.size w (w.alloc (.cells #[.int .i64 N, .slice v1 v2 v3] 24)) := balloc w _
  have hX0 : BoxG (w.alloc (.cells #[.int .i64 N, .slice v1 v2 v3] 24)) w.heap.size N (.slice v1 v2 v3) := blk0 _ _
  have HOG := hide (fun W (h : Below w.heap.size w W) => ownGroup_row N (.slice v1 v2 v3) zs W (hv.below h) hz)
  have HOW := hide (fun W (h : Below w.heap.size w W) => own_any (.slice u1 u2 u3) l W (hu.below h) hl8)
  have at0 : ∀ W : World, Below w.heap.size w W → 0 < W.heap.size := fun W h => Nat.lt_of_lt_of_le hT.lt h.size
  obtain ⟨c0, c1, _, _⟩ := hX0.two
  go_enter Tryd.func7, Tryd.ntmps7
  go_wp2_with fail
  generalize w.alloc (.cells #[.int .i64 N, .slice v1 v2 v3] 24) = w0 at *
  clear c0 c1
  refine (HOG.out _ hB0).mono ?_
  rintro x w1 ⟨x9, rfl, hx9, hb1⟩
  obtain ⟨a1, a3, rfl⟩ := row_len hx9
  have hB1 := bcat2 hB0 hb1
  have hX1 := blk_below hX0 hb1
  have hx1 := row_sl hx9 (at0 _ hB1)
  go_wp2_with fail
  refine (HOW.out _ hB1).mono ?_
  rintro x w2 ⟨m9, rfl, hm9, hb2⟩
  obtain ⟨m1, m3, rfl⟩ := own_slice hm9
  have hB2 := bcat2 hB1 hb2
  have hX2 := blk_below hX1 hb2
  have hx2 := hx1.below hb2
  have hm2 := row_sl hm9 (at0 _ hB2)
  have hG3 := blk0 (w := w2) (T := 24) (.int .i64 N) (.slice a1 zs.length a3)
  have hb3 := balloc w2 (.cells #[.int .i64 N, .slice a1 zs.length a3] 24)
  have hB3 := bcat2 hB2 hb3
  have hX3 := blk_below hX2 hb3
  have hx3 := hx2.below hb3
  have hm3 := hm2.below hb3
  obtain ⟨c0, c1, _, _⟩ := hG3.two
  go_wp2_with fail
  generalize w2.alloc (.cells #[.int .i64 N, .slice a1 zs.length a3] 24) = w3 at *
  clear c0 c1 hx9 hm9 hx1 hx2 hm2 hX1 hX2 HOG HOW
  refine (HQ.out _ _ _ hB3 hx3 hm3).mono ?_
  rintro x w4 ⟨r1, r2, r3, s1, s2, s3, rfl, hq4, hs4, hb4⟩
  obtain ⟨W, hW⟩ : ∃ W, W = (w4.alloc (.cells #[.int .i64 Nq, .slice r1 r2 r3] 24)).alloc (.cells #[.int .i64 c, .int .i64 i] 28) := ⟨_, rfl⟩
  have hbW : Below w4.heap.size w4 W := by rw [hW]; exact (balloc w4 _).alloc (by simp) _
  have hQ5 : BoxG W w4.heap.size Nq (.slice r1 r2 r3) := by rw [hW]; exact (blk0 (w := w4) (T := 24) _ _).alloc _
  have hF5 : Blk W (w4.heap.size + 1) 28 [.int .i64 c, .int .i64 i] := by
    have := blk0 (w := w4.alloc (.cells #[.int .i64 Nq, .slice r1 r2 r3] 24)) (T := 28) (.int .i64 c) (.int .i64 i)
    rw [World.size_alloc] at this
    rw [hW]; exact this
  have hb45 := bcat2 hb4 hbW
  have hB5 := bcat2 hB3 hb45
  have hX5 := blk_below hX3 hb45
  have hG5 := blk_below hG3 hb45
  have hx5 := hx3.below hb45
  have hm5 := hm3.below hb45
  have hq5 := hq4.below hbW
  have hs5 := hs4.below hbW
  obtain ⟨c0, c1, _, _⟩ := hX5.two
  rw [hW] at c0 c1
  go_wp2_with fail
  rw [← hW] at c0 c1 ⊢
  clear hW c0 c1 hq4 hs4 hx3 hm3 hX3 hG3
  refine (HF.out _ hB5).mono ?_
  rintro x w6 ⟨rfl, hb6⟩
  have hb67 := bcat2 hb6 (balloc w6 (.cells #[.int .i64 c, .int .i64 i] 28))
  have hW7 := blk0 (w := w6) (T := 28) (.int .i64 c) (.int .i64 i)
  have hB7 := bcat2 hB5 hb67
  have hX7 := blk_below hX5 hb67
  have hG7 := blk_below hG5 hb67
  have hQ7 := blk_below hQ5 hb67
  have hF7 := blk_below hF5 hb67
  have hx7 := hx5.below hb67
  have hm7 := hm5.below hb67
  have hq7 := hq5.below hb67
  have hs7 := hs5.below hb67
  go_wp2_with fail
  generalize w6.alloc (.cells #[.int .i64 c, .int .i64 i] 28) = w7 at *
  clear hX5 hG5 hQ5 hF5 hx5 hm5 hq5 hs5
  refine (quotBegun_any _ (hT.below hB7)).mono ?_
  rintro x w8 ⟨rfl, hb8⟩
  have hB8 := bcat2 hB7 hb8
  have hX8 := blk_below hX7 hb8
  have hG8 := blk_below hG7 hb8
  have hQ8 := blk_below hQ7 hb8
  have hF8 := blk_below hF7 hb8
  have hW8 := blk_below hW7 hb8
  have hx8 := hx7.below hb8
  have hm8 := hm7.below hb8
  have hq8 := hq7.below hb8
  have hs8 := hs7.below hb8
  clear hX7 hG7 hQ7 hF7 hx7 hm7 hq7 hs7 hW7
  obtain ⟨c0, c1, _, _⟩ := hX8.two
  obtain ⟨d0, d1, _, _⟩ := hG8.two
  obtain ⟨f0, f1, _, _⟩ := hF8.two
  obtain ⟨t0, t1, _, _⟩ := hW8.two
  go_wp2_with fail
  clear c0 c1 d0 d1 f0 f1 t0 t1
  have HSG := sameGroup_any N N (.slice a1 zs.length a3) (.slice v1 v2 v3) zs zs w8 hx8 (hv.below hB8)
  simp only [decide_true, Bool.and_self] at HSG
  refine HSG.mono ?_
  rintro x w9 ⟨rfl, hb9⟩
  have hB9 := bcat2 hB8 hb9
  have hm9 := hm8.below hb9
  go_wp2_with fail
  have HIN := ints_any (.slice m1 l.length m3) (.slice u1 u2 u3) l l w9 hm9 (hu.below hB9)
  simp only [decide_true] at HIN
  refine HIN.mono ?_
  rintro x w10 ⟨rfl, hb10⟩
  have hb90 := bcat2 hb9 hb10
  have hB10 := bcat2 hB8 hb90
  have hX10 := blk_below hX8 hb90
  have hQ10 := blk_below hQ8 hb90
  have hW10 := blk_below hW8 hb90
  have hq10 := hq8.below hb90
  have hs10 := hs8.below hb90
  clear hX8 hG8 hQ8 hF8 hW8 hx8 hm8 hq8 hs8 hm9 HSG HIN
  obtain ⟨t0, t1, _, _⟩ := hW10.two
  obtain ⟨q0, q1, _, _⟩ := hQ10.two
  by_cases hc : c = 0
  · subst hc
    have HI' := hide (HI.out rfl)
    have HG' := hide (HG.out rfl)
    obtain ⟨c0, c1, _, _⟩ := hX10.two
    clear HI HG HB HQ HF
    go_wp2_with fail
    refine (HI'.out _ _ _ hB10 hq10 hs10).mono ?_
    rintro x w11 ⟨rfl, hb11⟩
    have hB11 := bcat2 hB10 hb11
    have hQ11 := blk_below hQ10 hb11
    have hq11 := hq10.below hb11
    clear t0 t1 q0 q1 c0 c1
    obtain ⟨q0, q1, _, _⟩ := hQ11.two
    go_wp2_with fail
    have HGF := groupFault_any Nq (.slice r1 r2 r3) ys w11 hq11
    rw [HG'.out] at HGF
    refine HGF.mono ?_
    rintro x w12 ⟨rfl, hb12⟩
    have hB12 := bcat2 hB11 hb12
    have hfd := field27 0 0 w12
    go_wp2
    go_ret
    exact ⟨rfl, hB12⟩
  · obtain ⟨rfl, rfl, rfl⟩ := HB.out hc
    have hcb : (c != 0) = true := by simpa using hc
    obtain ⟨qa, qc, _, _, hqe, _⟩ := id hq10
    obtain ⟨sa, sc, _, _, hse, _⟩ := id hs10
    injection hqe with e1 e2 e3
    injection hse with e4 e5 e6
    simp only [List.length_nil] at e2 e5
    subst e2 e5
    clear hq10 hs10 e1 e3 e4 e6
    go_wp2_with fail
    refine (noGroup_any _ _ _).mono ?_
    rintro x w11 ⟨rfl, hb11⟩
    have hB11 := bcat2 hB10 hb11
    go_wp2
    go_ret
    exact ⟨rfl, hB11⟩
theorem quot_sl {f : Nat} {args : Array Value} {w : World} {c i : Int} (h0 : 0 < w.heap.size) (h : Calls Tryd.prog f args w fun x w' => x = .returned (.tuple #[.agg #[.int .i64 0, .slice none 0 0], .slice none 0 0, .agg #[.int .i64 c, .int .i64 i]]) ∧ Below w.heap.size w w') :
    Calls Tryd.prog f args w fun x W' => ∃ r1 r2 r3 s1 s2 s3, x = .returned (.tuple #[.agg #[.int .i64 0, .slice r1 r2 r3], .slice s1 s2 s3, .agg #[.int .i64 c, .int .i64 i]]) ∧ Sl W' (.slice r1 r2 r3) [] ∧ Sl W' (.slice s1 s2 s3) [] ∧ Below w.heap.size w W' := by
  refine h.mono ?_
  rintro x w' ⟨rfl, hb⟩
  have := Nat.lt_of_lt_of_le h0 hb.size
  exact ⟨none, 0, 0, none, 0, 0, rfl, Sl.nil this, Sl.nil this, hb⟩
theorem quoIs_good {n e : Nat} {zs l : List Int} {v u qv mv : Value} {W : World} (hg : IsGrp n zs e) (hl0 : lfault n l = (0, 0)) (hsb : subT n zs e (pset l) = true) (hN : nrmq n zs e (pset l) = true) (hv : Sl W v zs) (hu : Sl W u l)
    (hq : Sl W qv (mkT (fsts n (rgtq n zs (lst n (pset l))) n).length (quoF n zs (rgtq n zs (lst n (pset l)))))) (hm : Sl W mv (ontoL n (rgtq n zs (lst n (pset l))))) :
    Calls Tryd.prog 41 #[.agg #[.int .i64 n, v], u, .agg #[.int .i64 (fsts n (rgtq n zs (lst n (pset l))) n).length, qv], mv] W fun x w' => x = .returned (.bool true) ∧ Below W.heap.size W w' := by
  have PP := rgt_parts hg hsb
  have G := quo_grp hg hsb hN
  have hli := set_lst (show (lfault n l).1 = 0 by rw [hl0])
  refine quoIs_ok n e _ v u qv mv zs _ _ (lst n (pset l)) (csl n (rgtq n zs (lst n (pset l))) n) (num n (rgtq n zs (lst n (pset l)))) W hg hv (by rw [← hli]; exact hu) hq hm (PP.csl_rcs fun a b ha hb => (rgt_iff hg ha hb).symm).symm (csl_len _ _ _) G.tab (ontoL_len _ _) (fun a ha => ontoL_get ha) (fun a ha => (prts_num_lt PP ha).1) (fun a ha => prts_which PP ha) (fun a b ha hb => ?_)
  rw [tm_mk (prts_num_lt PP ha).1 (prts_num_lt PP hb).1]
  exact quo_hom hg hsb hN ha hb
theorem qmakes_law (N : Int) (v u : Value) (zs l : List Int) (w : World) (hv : Sl w v zs) (hu : Sl w u l) (hT : Tab w) (hz : zs.length * 8 ≤ 140737488355328) (hl8 : l.length * 8 ≤ 140737488355328) :
    Calls Tryd.prog 7 #[.agg #[.int .i64 N, v], u] w fun e w' => e = .returned (.bool true) ∧ Below w.heap.size w w' := by
  obtain ⟨v1, v2, v3, rfl⟩ := hv.isSlice
  obtain ⟨u1, u2, u3, rfl⟩ := hu.isSlice
  have at0 : ∀ W : World, Below w.heap.size w W → 0 < W.heap.size := fun W h => Nat.lt_of_lt_of_le hT.lt h.size
  have HF := hide (fun W (h : Below w.heap.size w W) => nfault_ok N (.slice v1 v2 v3) (.slice u1 u2 u3) zs l W (hv.below h) (hu.below h))
  by_cases hc : (ufault N zs l).1 = 0
  · obtain ⟨n, e, rfl, hg, hl0, hsb, hu0⟩ := ufault_zero hc
    rw [qfault_u hg hu0] at HF
    cases hN : nrmq n zs e (pset l) with
    | true =>
      rw [hN] at HF
      exact qmakes_walk n v1 v2 v3 u1 u2 u3 zs l w hv hu hT hz hl8 _ 0 0 _ _ (hide fun W x m h h1 h2 => quo_good n e x m zs l W h1 hg h2 (hT.below h) hl0 hsb hN) HF
        (hide fun _ W qv mv h h1 h2 => quoIs_good hg hl0 hsb hN (hv.below h) (hu.below h) h1 h2) (hide fun _ => gfault_of_grp (quo_grp hg hsb hN)) (hide fun h => absurd rfl h)
    | false =>
      rw [hN] at HF
      exact qmakes_walk n v1 v2 v3 u1 u2 u3 zs l w hv hu hT hz hl8 0 4 0 [] [] (hide fun W x m h h1 h2 => quot_sl (at0 W h) (quo_odd n e x m zs l W h1 hg h2 (hT.below h) hl0 hsb hN)) HF
        (hide fun h => absurd h (by decide)) (hide fun h => absurd h (by decide)) (hide fun _ => ⟨rfl, rfl, rfl⟩)
  · rw [qfault_bad hc] at HF
    exact qmakes_walk N v1 v2 v3 u1 u2 u3 zs l w hv hu hT hz hl8 0 _ _ [] [] (hide fun W x m h h1 h2 => quot_sl (at0 W h) (quo_bad N x m zs l W h1 h2 (hT.below h) hc)) HF
      (hide fun h => absurd h hc) (hide fun h => absurd h hc) (hide fun _ => ⟨rfl, rfl, rfl⟩)
end Go.Proofs.YtodabkjadejekaaDoor
