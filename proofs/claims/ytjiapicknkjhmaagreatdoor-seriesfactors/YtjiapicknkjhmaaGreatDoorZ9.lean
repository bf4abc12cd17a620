/- The law SylowFrattini: its closure, and what it answers at what is wrong. Condition: the library's table of places lies as its text lays it. Package series' checkedStep: what is wrong with a subgroup as the one behind another one; its walks, what it calls as premises. Package series' checkedStep: what is wrong with a subgroup as the one behind another one; its walks, what it calls as premises. Package series' checkedStep: the code that it answers of two subgroups. Condition: the library's table of places lies as its text lays it. Package series' checked: what is wrong with the sets of a series, each by itself. Condition: the library's table of places lies as its text lays it. How a list of lists that came in reads, with how great its lists can be; and the law's own copy of it. No condition. slices.Sort at a list of the call's own, nil or not. No condition. Package series' Factors: its walks, what it calls as premises. Package series' greatest, walked: a greatest normal subgroup of a subgroup. Condition: the library's table of places lies as its text lays it. -/
import Derived.Test.YtjiapicknkjhmaaGreatDoorZ8
import Derived.BigQuiet
import Derived.Test.YtjiapicknkjhmaaGreatDoorZ4
import Derived.Shelf.Sort.Plain
import Derived.Shelf.Slices.In.SortNone
import Derived.Sort.OwnSortedInts
import Derived.Shelf.Lay
import Derived.Deep.AppendLies
import Derived.Test.YtjiapicknkjhmaaGreatDoorZ7
namespace Go.Proofs.YtjiapicknkjhmaaGreatDoor
open Go Go.RowKit

set_option maxRecDepth 100000 in
set_option maxHeartbeats 4000000 in
theorem clo_bad (N : Int) (v u0 : Value) (zs l0 : List Int) (w : World) (hv : Sl w v zs) (hu : Sl w u0 l0) (hc : (sfault N zs l0).1 ≠ 0) :
    Calls Tryz.prog 16 #[.agg #[.int .i64 N, v], u0] w fun x w' => x = .returned (.tuple #[.slice none 0 0, .agg #[.int .i64 (sfault N zs l0).1, .int .i64 (sfault N zs l0).2]]) ∧ Below w.heap.size w w' := by
  obtain ⟨w0, BG⟩ := Beg.new w N v
  have hv0 := hv.below BG.bel
  obtain ⟨c0, c1, _, _⟩ := BG.box.two
  have hck := oset_bad N v u0 zs l0 w0 hv0 (hu.below BG.bel) hc
  obtain ⟨c, i, hci⟩ : ∃ c i, sfault N zs l0 = (c, i) := ⟨_, _, rfl⟩
  rw [hci] at hck hc ⊢
  simp only at hc hck
  have HCK := hide hck
  clear hck hci
  have hcb : (c != 0) = true := by simpa using hc
  rw [BG.eq] at c0 c1
  go_enter Tryz.func16, Tryz.ntmps16
  go_wp2_with fail
  rw [← BG.eq]
  refine HCK.out.mono ?_
  rintro x w1 ⟨rfl, hb1⟩
  clear c0 c1
  obtain ⟨w2, hw2⟩ : ∃ w2, w2 = (w1.alloc (.cells #[.int .i64 0, .slice none 0 0, .int .i64 0, .slice none 0 0] 66)).alloc (.cells #[.int .i64 c, .int .i64 i] 28) := ⟨_, rfl⟩
  have hB1 : Below w0.heap.size w0 w2 := by rw [hw2]; exact bcat2 hb1 ((balloc w1 _).alloc (by simp) _)
  have hF1 : Blk w2 (w1.heap.size + 1) 28 [.int .i64 c, .int .i64 i] := by
    rw [hw2]
    have := blk0 (w := w1.alloc (.cells #[.int .i64 0, .slice none 0 0, .int .i64 0, .slice none 0 0] 66)) (T := 28) (.int .i64 c) (.int .i64 i)
    rwa [World.size_alloc] at this
  have hR1 := blk_below BG.res hB1
  have hBw := bcat BG.bel hB1 BG.bel.size
  obtain ⟨y0, y1, fy0, fy1⟩ := hR1.two
  obtain ⟨t0, t1, _, _⟩ := hF1.two
  rw [hw2] at t0 t1
  go_wp2_with fail
  rw [← hw2]
  rw [← hw2] at t0 t1
  clear hw2
  go_region
  all_goals (
    go_wp2
    obtain ⟨hR6, hB6⟩ := put2 hR1 hBw (by omega) c i
    have hB7 := bdrew hB6
    have hR7 : Blk ((w2.setCell ⟨w.heap.size + 1, 0, none⟩ (.int .i64 c)).setCell ⟨w.heap.size + 1, 1, none⟩ (.int .i64 i)).drew (w.heap.size + 1) 28 [.int .i64 c, .int .i64 i] := hR6
    generalize ((w2.setCell ⟨w.heap.size + 1, 0, none⟩ (.int .i64 c)).setCell ⟨w.heap.size + 1, 1, none⟩ (.int .i64 i)).drew = W at hR7 hB7 ⊢
    obtain ⟨z0, z1, _, _⟩ := hR7.two
    exact bodyPost_ret (v := .tuple #[.slice none 0 0, .agg #[.int .i64 c, .int .i64 i]]) (by simp [results, Tryz.results16, go_sem, z0, z1]) rfl ⟨rfl, hB7⟩)
theorem part_of_lst (n e : Nat) (v u : Value) (zs : List Int) (q : Nat → Bool) (w : World) (hv : Sl w v zs) (hg : IsGrp n zs e) (hu : Sl w u (li (lst n q))) (hT : Tab w) (hs : subT n zs e q = true) :
    Calls Tryz.prog 17 #[.agg #[.int .i64 n, v], u] w fun x w' => ∃ r1 r2 r3, x = .returned (.tuple #[.agg #[.int .i64 (lst n q).length, .slice r1 r2 r3], .agg #[.int .i64 0, .int .i64 0]]) ∧ Sl w' (.slice r1 r2 r3) (mkT (lst n q).length (parF n zs (lst n q))) ∧ Below w.heap.size w w' := by
  have h := part_good n e v u zs (li (lst n q)) w hv hg hu hT (lst_fault n q) ((subT_congr hg fun a ha => pset_lst ha).trans hs)
  rwa [lst_pset] at h
theorem pfault_zero {n e : Nat} {zs : List Int} {p : Int} (g : IsGrp n zs e) (h : primeB p = true) : pfault n zs p = (0, 0) := by
  unfold pfault
  rw [h, if_neg (by simp), gfault_of_grp g]
/-- What stays true while the law goes on. -/
structure FS (w : World) (n : Nat) (v nv : Value) (b : Nat) (NL : List Int) (W : World) : Prop where
  bel : Below w.heap.size w W
  x : BoxG W w.heap.size n v
  nb : Boxed W b 22 nv
  f : Blk W (b + 1) 28 [.int .i64 0, .int .i64 0]
  sn : Sl W nv NL
theorem FS.below {w : World} {n : Nat} {v nv : Value} {b : Nat} {NL : List Int} {W W' : World} (h : FS w n v nv b NL W) (hb : Below W.heap.size W W') : FS w n v nv b NL W' :=
  ⟨bcat2 h.bel hb, blk_below h.x hb, Boxed.below h.nb hb, blk_below h.f hb, h.sn.below hb⟩
end Go.Proofs.YtjiapicknkjhmaaGreatDoor

namespace Go.Proofs.YtjiapicknkjhmaaGreatDoor
open Go Go.RowKit

set_option maxRecDepth 100000 in
set_option maxHeartbeats 8000000 in
theorem quo_goodF (n e : Nat) (v u : Value) (zs l : List Int) (w : World) (hv : Sl w v zs) (hg : IsGrp n zs e) (hu : Sl w u l) (hT : Tab w) (hl : lfault n l = (0, 0)) (hsb : subT n zs e (pset l) = true) (hN : nrmq n zs e (pset l) = true) :
    Calls Tryz.prog 18 #[.agg #[.int .i64 n, v], u] w fun x w' => ∃ r1 r2 r3 s1 s2 s3, x = .returned (.tuple #[.agg #[.int .i64 (fsts n (rgtq n zs (lst n (pset l))) n).length, .slice r1 r2 r3], .slice s1 s2 s3, .agg #[.int .i64 0, .int .i64 0]]) ∧ SlF w.heap.size w' (.slice r1 r2 r3) (mkT (fsts n (rgtq n zs (lst n (pset l))) n).length (quoF n zs (rgtq n zs (lst n (pset l))))) ∧ SlF w.heap.size w' (.slice s1 s2 s3) (ontoL n (rgtq n zs (lst n (pset l)))) ∧ Below w.heap.size w w' := by
  obtain ⟨i0, hi, hz0, hz1, hz2⟩ := info_parts info3b
  have hn := hg.tab.le
  have PP := rgt_parts hg hsb
  obtain ⟨w0, BG⟩ := BegQ.new w n v
  have HN := hide (nrm_good n e v u zs l w0 (hv.below BG.bel) hg (hu.below BG.bel) (hT.below BG.bel) hl hsb)
  rw [hN] at HN
  have HRG := hide (fun W (h : Below w.heap.size w W) => lists_sl (Nat.lt_of_lt_of_le hT.lt h.size) (rgt_good n e v u zs l W (hv.below h) hg (hu.below h) (hT.below h) hl hsb))
  obtain ⟨f, hf⟩ : ∃ f, f = rgtq n zs (lst n (pset l)) := ⟨_, rfl⟩
  rw [← hf] at HRG PP ⊢
  clear hf
  obtain ⟨K, hK⟩ : ∃ K, K = (fsts n f n).length := ⟨_, rfl⟩
  have hK6 : K ≤ 60 := by rw [hK]; exact Nat.le_trans (fsts_len n f n) hn
  have HCL := hide (show (csl n f n).length = K by rw [csl_len, hK])
  have HNUM := hide (fun W v9 (h : SlL W v9 (csl n f n)) => numbers_ok v9 (csl n f n) W h (by rw [HCL.out]; exact hK6) (fun t _ => Nat.le_trans (csl_len_le t) hn) (fun t a ha => by
    obtain ⟨b, hb, rfl, _⟩ := (csl_at PP t a).1 ha
    omega) (fun s t a h1 h2 => by
    obtain ⟨b, hb, rfl, h3⟩ := (csl_at PP s a).1 h1
    obtain ⟨b', hb', he, h4⟩ := (csl_at PP t _).1 h2
    have : b = b' := by omega
    subst this
    omega))
  have HNL := hide (fun a (ha : a < n) => (prts_num_lt PP ha).1)
  rw [← hK] at HNL
  have HAT := hide (fun (D : DataW Unit) (h : MLs (csl n f n) (csl n f n).length 0 D) a (ha : a < n) => h.old (num n f a) (by rw [csl_len]; exact (prts_num_lt PP ha).1) a ((csl_at PP _ _).2 ⟨a, ha, rfl, rfl⟩))
  have HGR := hide (fun W lv mb c (D : DataW Unit) (h : Below w.heap.size w W) (hL : SlL W lv (csl n f n)) (hm : W.ownsMap Tryz.prog 3 (plainElem Tryz.prog 3) mb c D) (hM : MLs (csl n f n) (csl n f n).length 0 D) =>
    group_ok n K v lv zs (csl n f n) (fun i => (fsts n f n)[i]?.getD 0) (quoF n zs f) mb c D W hg.tab (hv.below h) hL HCL.out hK6 (fun i hi => by
      rw [hK] at hi
      obtain ⟨s, hs⟩ := csl_head PP hi
      exact ⟨s, hs, by rw [List.getElem?_eq_getElem hi]; exact fst_lt hi⟩) hm (fun i j hi hj => by
      rw [hK] at hi hj
      have h1 := fst_lt hi
      have h2 := fst_lt hj
      unfold quoF
      simp only [List.getElem?_eq_getElem hi, List.getElem?_eq_getElem hj, Option.getD_some]
      exact HAT.out D hM _ (tm_lt hg.tab h1 h2)) (fun i j hi hj => by
      rw [hK] at hi hj
      unfold quoF
      simp only [List.getElem?_eq_getElem hi, List.getElem?_eq_getElem hj, Option.getD_some]
      have := HNL.out _ (tm_lt hg.tab (fst_lt hi) (fst_lt hj))
      omega))
  rw [← hK]
  have HK := hide hK
  clear hK PP hN
  obtain ⟨c0, c1, _, _⟩ := BG.box.two
  rw [BG.eq] at c0 c1
  go_enter Tryz.func18, Tryz.ntmps18
  go_wp2_with fail
  rw [← BG.eq]
  clear c0 c1
  refine HN.out.mono ?_
  rintro x w1 ⟨rfl, hb1⟩
  have hb2 := bcat2 hb1 (balloc w1 (.cells #[.int .i64 0, .int .i64 0] 28))
  have hF2 := blk0 (w := w1) (T := 28) (.int .i64 0) (.int .i64 0)
  have hBw := bcat BG.bel hb2 BG.bel.size
  have hX2 := blk_below BG.box hb2
  have hG2 := blk_below BG.grp hb2
  have hR2 := blk_below BG.res hb2
  obtain ⟨t0, t1, _, _⟩ := hF2.two
  obtain ⟨c0, c1, _, _⟩ := hX2.two
  go_wp2_with fail
  generalize w1.alloc (.cells #[.int .i64 0, .int .i64 0] 28) = w2 at *
  clear t0 t1 c0 c1 hb1 hb2
  refine (HRG.out _ hBw).mono ?_
  rintro x w3 ⟨r1, r2, r3, rfl, hr, hb3⟩
  have hF3 := blk_below hF2 hb3
  have hX3 := blk_below hX2 hb3
  have hG3 := blk_below hG2 hb3
  have hR3 := blk_below hR2 hb3
  have hBw3 := bcat2 hBw hb3
  obtain ⟨t0, t1, ft0, ft1⟩ := hF3.two
  obtain ⟨s0, s1⟩ := hF3.self
  go_wp2_with fail
  clear t0 t1 ft0 ft1 s0 s1
  refine (HNUM.out _ _ hr).mono ?_
  rintro x w4 ⟨D, rfl, hmap, hML, hb4⟩
  have hX4 := blk_below hX3 hb4
  have hG4 := blk_below hG3 hb4
  have hR4 := blk_below hR3 hb4
  have hr4 := hr.below hb4
  have hBw4 := bcat2 hBw3 hb4
  obtain ⟨k0, k1, _, _⟩ := hX4.two
  clear hX2 hX3 hG2 hG3 hR2 hR3 hF2 hF3 hr hBw hBw3 HNUM HRG HN
  go_wp2_with (first
    | (at_make; refine wpList_make_full _ rfl _ _ 22 rfl w4.heap.size 3 i0 (.int .i64 0) 1 under22b hi hz0 hz1 _ _ _ _ n rfl rfl rfl rfl (by rw [hz2]; omega) (by unfold maxLen; omega) (by simp) ?_))
  intro w5 hown hgr
  have hM5 : Blk w5 w4.heap.size 3 ((ontoU n f 0).map (Value.int .i64)) := by
    have := Blk.of_owns hown
    rw [made_rep] at this
    rw [ontoU_zero, List.map_replicate]; exact this
  have hb5 : Below w4.heap.size w4 w5 := (Below.refl _ w4).grown hgr (Nat.le_refl _) (by simp)
  clear hown hgr k0 k1
  have hw34 := hb4.size
  have HMP := hide hmap
  clear hmap
  go_wp2
  go_loopw [46] (fun i wr => ∃ a : Nat, a ≤ n ∧ i = .int .i64 a ∧ Blk wr w4.heap.size 3 ((ontoU n f a).map (Value.int .i64)) ∧ Below w4.heap.size w4 wr) (fun i _ => n - (intOf i).toNat)
  case atStart => exact ⟨0, Nat.zero_le _, rfl, hM5, hb5⟩
  case round =>
    obtain ⟨a, ha, rfl, hMa, hBa⟩ := hrel
    clear hM5 hb5
    by_cases hlt : a < n
    · have hai : (a : Int) < (n : Int) := by omega
      have hlk := look_int (HMP.out.kept (below_grown hBa none) (by simp)) (show a < 60 by omega) (HAT.out D hML a hlt)
      have hMc := hMa.int (y := a) (by rw [ontoU_len]; exact hlt)
      have hMf := hMa.frozen a
      have hM6 := hMa.setInt a (num n f a : Int)
      rw [← ontoU_set] at hM6
      have hB6 := hBa.setCell (p := ⟨w4.heap.size, a, none⟩) (Nat.le_refl _) (.int .i64 (num n f a : Int))
      go_wp2
      go_roundw
      case rel => exact ⟨a + 1, by omega, by go_num, hM6, hB6⟩
      case measure => simp [intOf]; omega
    · have hai : ¬ (a : Int) < (n : Int) := by omega
      have han : a = n := by omega
      rw [han, ontoU_all] at hMa
      clear han
      have hXr := blk_below hX4 hBa
      have hGr := blk_below hG4 hBa
      have hRr := blk_below hR4 hBa
      have hBr := bcat2 hBw4 hBa
      obtain ⟨k0, k1, _, _⟩ := hXr.two
      go_wp2_with fail
      clear k0 k1
      refine (HGR.out wr _ _ _ D hBr (hr4.below hBa) (HMP.out.kept (below_grown hBa none) (by simp)) hML).mono ?_
      rintro x w6 ⟨r, rfl, hrow, hb6⟩
      obtain ⟨T, hTe⟩ : ∃ T, T = mkT K (quoF n zs f) := ⟨_, rfl⟩
      rw [← hTe] at hrow
      have HTE := hide hTe
      clear hTe
      obtain ⟨rx, rcap, rfl⟩ := own_slice hrow
      have hMl := hMa.lt
      have hRl := hRr.lt
      have hGl := hGr.lt
      have hG6 := blk_below hGr hb6
      have hR6 := blk_below hRr hb6
      have hM6 := blk_below hMa hb6
      have hB6 := bcat2 hBr hb6
      obtain ⟨g0, g1, fg0, fg1⟩ := hG6.two
      have hG7 := (hG6.set 0 (.int .i64 K)).set 1 (.slice rx T.length rcap)
      have hR7 := (hR6.other (p := ⟨w.heap.size + 1, 0, none⟩) (by simp) (.int .i64 K)).other (p := ⟨w.heap.size + 1, 1, none⟩) (by simp) (.slice rx T.length rcap)
      have hMne : w4.heap.size ≠ w.heap.size + 1 := by have := hG4.lt; omega
      have hM7 := (hM6.other (p := ⟨w.heap.size + 1, 0, none⟩) (by simpa using hMne) (.int .i64 K)).other (p := ⟨w.heap.size + 1, 1, none⟩) (by simpa using hMne) (.slice rx T.length rcap)
      have hB7 := (hB6.setCell (p := ⟨w.heap.size + 1, 0, none⟩) (by simp) (.int .i64 K)).setCell (p := ⟨w.heap.size + 1, 1, none⟩) (by simp) (.slice rx T.length rcap)
      have hrow7 := row_keep (W' := (w6.setCell ⟨w.heap.size + 1, 0, none⟩ (.int .i64 K)).setCell ⟨w.heap.size + 1, 1, none⟩ (.slice rx T.length rcap)) hrow (fun g h1 _ => (Below.heap_setCell _ _ _ g (by simp; omega)).trans (Below.heap_setCell _ _ _ g (by simp; omega)))
      obtain ⟨y0, y1, fy0, fy1⟩ := hR7.two
      obtain ⟨s0, s1⟩ := hR7.self
      obtain ⟨v0, v1, fv0, fv1⟩ := hR6.two
      obtain ⟨z0, z1, _, _⟩ := hG7.two
      have hse := slF_blk hM7 (ontoL_len n f).symm (by rw [ontoL_len]; omega) hBw4.size
      go_wp2
      exact bodyPost_ret (v := .tuple #[.agg #[.int .i64 K, .slice rx T.length rcap], .slice (some ⟨w4.heap.size, 0, none⟩) n n, .agg #[.int .i64 0, .int .i64 0]]) (by simp [results, Tryz.results18, go_sem, z0, z1, y0, y1]) rfl ⟨_, _, _, _, _, _, rfl, by rw [← HTE.out]; exact slF_row hrow7 hBr.size (by rw [HTE.out, mkT_len]; have := HNL.out e hg.elt; exact Nat.mul_pos (by omega) (by omega)), hse, hB7⟩
theorem mkG {X U : World} {x y : Value} (k : Below (X.alloc (.cells #[x, y] 24)).heap.size (X.alloc (.cells #[x, y] 24)) U) : Blk U X.heap.size 24 [x, y] := blk_below (blk0 x y) k
/-- A table in a box of its own behind a region. -/
def GRel (w0 : World) (K : Nat) (T : List Int) (s17 : Value) (wx : World) : Prop := ∃ (b : Nat) (r1 : Option Addr) (r2 r3 : Nat), s17 = .pointer (some ⟨b, 0, none⟩) ∧ w0.heap.size ≤ b ∧ BoxG wx b K (.slice r1 r2 r3) ∧ Sl wx (.slice r1 r2 r3) T ∧ Below w0.heap.size w0 wx
theorem grel_new {w0 U : World} {K : Nat} {T : List Int} {r1 : Option Addr} {r2 r3 S : Nat} (hB : Below w0.heap.size w0 U) (hr : SlF S U (.slice r1 r2 r3) T) : GRel w0 K T (.pointer (some ⟨U.heap.size, 0, none⟩)) (U.alloc (.cells #[.int .i64 K, .slice r1 r2 r3] 24)) :=
  ⟨U.heap.size, r1, r2, r3, rfl, hB.size, blk0 _ _, hr.sl.below (balloc _ _), bcat2 hB (balloc _ _)⟩
theorem grel_put {w0 U : World} {K : Nat} {T : List Int} {r1 : Option Addr} {r2 r3 S b : Nat} {x y : Value} (hb : w0.heap.size ≤ b) (hB : Below w0.heap.size w0 U) (hp : Blk U b 24 [x, y]) (hlt : b < S) (hr : SlF S U (.slice r1 r2 r3) T) : GRel w0 K T (.pointer (some ⟨b, 0, none⟩)) ((U.setCell ⟨b, 0, none⟩ (.int .i64 K)).setCell ⟨b, 1, none⟩ (.slice r1 r2 r3)) :=
  ⟨b, r1, r2, r3, rfl, hb, (hp.set 0 _).set 1 _, (hr.keep (fun c h1 _ => (Below.heap_setCell _ _ _ _ (by simp; omega)).trans (Below.heap_setCell _ _ _ _ (by simp; omega))) (by rw [size_set, size_set]; exact Nat.le_refl _)).sl, bSet (bSet hB hb) hb⟩
set_option maxRecDepth 100000 in
set_option maxHeartbeats 8000000 in
theorem cst_out (n : Nat) (X1 X2 : Nat) (v1 : Option Addr) (v2 v3 : Nat) (a1 : Option Addr) (a2 a3 : Nat) (l1 : Option Addr) (l2 l3 : Nat) (w : World)
    (HO1 : Hid (∀ W, Below w.heap.size w W → Calls Tryz.prog 58 #[.slice l1 l2 l3] W fun x W' => x = .returned (.int .u64 X1) ∧ W' = W))
    (HO2 : Hid (∀ W, Below w.heap.size w W → Calls Tryz.prog 58 #[.slice a1 a2 a3] W fun x W' => x = .returned (.int .u64 X2) ∧ W' = W))
    (HIN : Hid (∀ W, Calls Tryz.prog 59 #[.int .u64 X1, .int .u64 X2] W fun x W' => x = .returned (.bool false) ∧ W' = W)) :
    Calls Tryz.prog 24 #[.agg #[.int .i64 n, .slice v1 v2 v3], .slice a1 a2 a3, .slice l1 l2 l3] w fun e w' => e = .returned (.int .i64 7) ∧ Below w.heap.size w w' := by
  have hB0 : Below w.heap.size w (w.alloc (.cells #[.int .i64 n, .slice v1 v2 v3] 24)) := balloc w _
  have hX0 : BoxG (w.alloc (.cells #[.int .i64 n, .slice v1 v2 v3] 24)) w.heap.size n (.slice v1 v2 v3) := blk0 (w := w) (T := 24) _ _
  go_enter Tryz.func24, Tryz.ntmps24
  go_wp2_with fail
  generalize w.alloc (.cells #[.int .i64 n, .slice v1 v2 v3] 24) = w0 at *
  refine (HO1.out _ hB0).mono ?_
  rintro x w1 ⟨rfl, rfl⟩
  go_wp2_with fail
  refine (HO2.out _ hB0).mono ?_
  rintro x w1 ⟨rfl, rfl⟩
  go_wp2_with fail
  refine (HIN.out _).mono ?_
  rintro x w1 ⟨rfl, rfl⟩
  go_wp2
  go_ret
  exact ⟨rfl, hB0⟩
set_option maxRecDepth 100000 in
set_option maxHeartbeats 8000000 in
theorem cst_in (n K M : Nat) (TA TQ PL : List Int) (bb : Bool) (X1 X2 : Nat) (v1 : Option Addr) (v2 v3 : Nat) (a1 : Option Addr) (a2 a3 : Nat) (l1 : Option Addr) (l2 l3 : Nat) (w : World)
    (HO1 : Hid (∀ W, Below w.heap.size w W → Calls Tryz.prog 58 #[.slice l1 l2 l3] W fun x W' => x = .returned (.int .u64 X1) ∧ W' = W))
    (HO2 : Hid (∀ W, Below w.heap.size w W → Calls Tryz.prog 58 #[.slice a1 a2 a3] W fun x W' => x = .returned (.int .u64 X2) ∧ W' = W))
    (HIN : Hid (∀ W, Calls Tryz.prog 59 #[.int .u64 X1, .int .u64 X2] W fun x W' => x = .returned (.bool true) ∧ W' = W))
    (HPA : Hid (∀ W, Below w.heap.size w W → Calls Tryz.prog 17 #[.agg #[.int .i64 n, .slice v1 v2 v3], .slice a1 a2 a3] W fun x W' => ∃ t1 t2 t3, x = .returned (.tuple #[.agg #[.int .i64 K, .slice t1 t2 t3], .agg #[.int .i64 0, .int .i64 0]]) ∧ Sl W' (.slice t1 t2 t3) TA ∧ Below W.heap.size W W'))
    (HPL : Hid (∀ W, Below w.heap.size w W → Calls Tryz.prog 60 #[.slice a1 a2 a3, .slice l1 l2 l3] W fun x W' => ∃ r1 r2 r3, x = .returned (.slice r1 r2 r3) ∧ Sl W' (.slice r1 r2 r3) PL ∧ Below W.heap.size W W'))
    (HQU : Hid (∀ W a1 a2 a3 b1 b2 b3, Below w.heap.size w W → Sl W (.slice a1 a2 a3) TA → Sl W (.slice b1 b2 b3) PL → Calls Tryz.prog 18 #[.agg #[.int .i64 K, .slice a1 a2 a3], .slice b1 b2 b3] W fun x W' => ∃ r1 r2 r3 s1 s2 s3, x = .returned (.tuple #[.agg #[.int .i64 M, .slice r1 r2 r3], .slice s1 s2 s3, .agg #[.int .i64 0, .int .i64 0]]) ∧ SlF W.heap.size W' (.slice r1 r2 r3) TQ ∧ Below W.heap.size W W'))
    (HSI : Hid (∀ W a1 a2 a3, Below w.heap.size w W → Sl W (.slice a1 a2 a3) TQ → Calls Tryz.prog 61 #[.agg #[.int .i64 M, .slice a1 a2 a3]] W fun x W' => x = .returned (.tuple #[.bool bb, .agg #[.int .i64 0, .int .i64 0]]) ∧ Below W.heap.size W W')) :
    Calls Tryz.prog 24 #[.agg #[.int .i64 n, .slice v1 v2 v3], .slice a1 a2 a3, .slice l1 l2 l3] w fun e w' => e = .returned (.int .i64 (if bb then 0 else 6)) ∧ Below w.heap.size w w' := by
  have hB0 : Below w.heap.size w (w.alloc (.cells #[.int .i64 n, .slice v1 v2 v3] 24)) := balloc w _
  have hX0 : BoxG (w.alloc (.cells #[.int .i64 n, .slice v1 v2 v3] 24)) w.heap.size n (.slice v1 v2 v3) := blk0 (w := w) (T := 24) _ _
  go_enter Tryz.func24, Tryz.ntmps24
  go_wp2_with fail
  generalize w.alloc (.cells #[.int .i64 n, .slice v1 v2 v3] 24) = w0 at *
  refine (HO1.out _ hB0).mono ?_
  rintro x w1 ⟨rfl, rfl⟩
  go_wp2_with fail
  refine (HO2.out _ hB0).mono ?_
  rintro x w1 ⟨rfl, rfl⟩
  go_wp2_with fail
  refine (HIN.out _).mono ?_
  rintro x w1 ⟨rfl, rfl⟩
  obtain ⟨c0, c1, _, _⟩ := hX0.two
  go_wp2_with fail
  clear c0 c1
  refine (HPA.out _ hB0).mono ?_
  rintro x w3 ⟨t1, t2, t3, rfl, hst, hb3⟩
  obtain ⟨w4, hw4⟩ : ∃ w4, w4 = (w3.alloc (.cells #[.int .i64 K, .slice t1 t2 t3] 24)).alloc (.cells #[.int .i64 0, .int .i64 0] 28) := ⟨_, rfl⟩
  have hbw4 : Below w3.heap.size w3 w4 := by rw [hw4]; exact (balloc w3 _).alloc (by simp) _
  have hY4 : BoxG w4 w3.heap.size K (.slice t1 t2 t3) := by rw [hw4]; exact (blk0 (w := w3) (T := 24) _ _).alloc _
  have hF4 : Blk w4 (w3.heap.size + 1) 28 [.int .i64 0, .int .i64 0] := by
    rw [hw4]
    have := blk0 (w := w3.alloc (.cells #[.int .i64 K, .slice t1 t2 t3] 24)) (T := 28) (.int .i64 0) (.int .i64 0)
    rwa [World.size_alloc] at this
  have hB4 := bcat2 hB0 (bcat2 hb3 hbw4)
  have hst4 := hst.below hbw4
  have hs3 : w.heap.size ≤ w3.heap.size := Nat.le_trans hB0.size hb3.size
  obtain ⟨c0, c1, _, _⟩ := hY4.two
  obtain ⟨f0, f1, f2, f3⟩ := hF4.two
  rw [hw4] at c0 c1 f0 f1 f2 f3
  go_wp2_with fail
  rw [← hw4] at c0 c1 f0 f1 f2 f3 ⊢
  clear hw4 hb3 hbw4 hst HPA HO1 HO2 HIN hX0 hB0
  have hS : ∀ W9, Below w4.heap.size w4 W9 → (Below w4.heap.size w4 W9 ∧ W9.cell? ⟨w3.heap.size, 0, none⟩ = some (.int .i64 K) ∧ W9.cell? ⟨w3.heap.size, 1, none⟩ = some (.slice t1 t2 t3) ∧ W9.cell? ⟨w3.heap.size + 1, 0, none⟩ = some (.int .i64 0) ∧ W9.cell? ⟨w3.heap.size + 1, 1, none⟩ = some (.int .i64 0) ∧ W9.frozen? ⟨w3.heap.size + 1, 0, none⟩ = false ∧ W9.frozen? ⟨w3.heap.size + 1, 1, none⟩ = false ∧ W9.setCell ⟨w3.heap.size + 1, 0, none⟩ (.int .i64 0) = W9 ∧ W9.setCell ⟨w3.heap.size + 1, 1, none⟩ (.int .i64 0) = W9) := fun W9 h => by
    have hF9 := blk_below hF4 h
    obtain ⟨u0, u1, u2, u3⟩ := hF9.two
    obtain ⟨s0, s1⟩ := hF9.self
    exact ⟨h, below_cell h c0, below_cell h c1, u0, u1, u2, u3, s0, s1⟩
  have hS0 := hS _ (bdrew (Below.refl _ w4))
  go_cut [9, 10] (fun s17 _ wx => GRel w4 M TQ s17 wx)
  case first =>
    clear c0 c1 f0 f1 f2 f3
    go_region_held3 (fun W9 => Below w4.heap.size w4 W9 ∧ W9.cell? ⟨w3.heap.size, 0, none⟩ = some (.int .i64 K) ∧ W9.cell? ⟨w3.heap.size, 1, none⟩ = some (.slice t1 t2 t3) ∧ W9.cell? ⟨w3.heap.size + 1, 0, none⟩ = some (.int .i64 0) ∧ W9.cell? ⟨w3.heap.size + 1, 1, none⟩ = some (.int .i64 0) ∧ W9.frozen? ⟨w3.heap.size + 1, 0, none⟩ = false ∧ W9.frozen? ⟨w3.heap.size + 1, 1, none⟩ = false ∧ W9.setCell ⟨w3.heap.size + 1, 0, none⟩ (.int .i64 0) = W9 ∧ W9.setCell ⟨w3.heap.size + 1, 1, none⟩ (.int .i64 0) = W9)
      (first | exact hS0 | assumption | exact hS _ (bcat2 (And.left ‹_›) hl6) | exact hS _ (bcat2 (And.left ‹_›) hl5) | exact hS _ (bcat2 (And.left ‹_›) (balloc _ _)) | exact hS _ (bcat2 hU6 (balloc _ _)) | exact hS _ (bSet (bSet hU6 hU5.size) hU5.size) | exact hS _ (bSet (bSet hU6 (Nat.le_refl _)) (Nat.le_refl _)))
      (first
        | (go_at_call 60; refine (HPL.out _ (bcat2 hB4 (And.left ‹_›))).mono ?_; rintro e5 U5 ⟨p1, p2, p3, rfl, ha5, hl5⟩; have hU5 := bcat2 (And.left ‹_›) hl5; (first | (with_reducible have pA := mkG hl5; have ltA := pA.lt) | (with_reducible have pA := mkG (undA hl5); have ltA := pA.lt) | skip))
        | (go_at_call 18; refine (HQU.out _ _ _ _ _ _ _ (bcat2 hB4 (And.left ‹_›)) (hst4.below (And.left ‹_›)) (by first | exact ha5 | exact ha5.below (balloc _ _))).mono ?_; rintro e6 U6 ⟨r1, r2, r3, s1, s2, s3, rfl, hr6, hl6⟩; have hU6 := bcat2 (And.left ‹_›) hl6; (first | (with_reducible have pB := mkG hl6) | skip); (first | (with_reducible have pA := blk_below pA hl6) | skip); (try (obtain ⟨_, _, _, _⟩ := pA.two)); (try (obtain ⟨_, _, _, _⟩ := pB.two))))
    all_goals (go_wp2; go_meet)
    all_goals (first
      | exact grel_new hU6 hr6
      | exact grel_put hU5.size hU6 pB (by simp) hr6
      | exact grel_put (Nat.le_refl _) hU6 pA ltA hr6)
  case rest =>
    obtain ⟨b, r1, r2, r3, rfl, hbb, hX9, hr9, hb9⟩ := hcut
    clear c0 c1 f0 f1 f2 f3 hS hS0
    have hF9 := blk_below hF4 hb9
    obtain ⟨f0, f1, f2, f3⟩ := hF9.two
    obtain ⟨c0, c1, _, _⟩ := hX9.two
    have hB9 := bcat2 hB4 hb9
    go_wp2_with fail
    clear c0 c1 f0 f1 f2 f3
    refine (HSI.out _ _ _ _ hB9 hr9).mono ?_
    rintro x wa ⟨rfl, hba⟩
    have hFa := blk_below hF9 hba
    have hBa := bcat2 hB9 hba
    obtain ⟨f0, f1, f2, f3⟩ := hFa.two
    have hst := store_same f0 f1
    cases bb with
    | true =>
      go_wp2
      go_ret
      exact ⟨rfl, hBa⟩
    | false =>
      go_wp2
      go_ret
      exact ⟨rfl, hBa⟩
end Go.Proofs.YtjiapicknkjhmaaGreatDoor

namespace Go.Proofs.YtjiapicknkjhmaaGreatDoor
open Go Go.RowKit

theorem orel_put {w U : World} {fb : Nat} (hw : w.heap.size ≤ fb) (hB : Below w.heap.size w U) (hF : Blk U fb 28 [.int .i64 0, .int .i64 0]) : Blk ((U.setCell ⟨fb, 0, none⟩ (.int .i64 4)).setCell ⟨fb, 1, none⟩ (.int .i64 0)) fb 28 [.int .i64 4, .int .i64 0] ∧ Below w.heap.size w ((U.setCell ⟨fb, 0, none⟩ (.int .i64 4)).setCell ⟨fb, 1, none⟩ (.int .i64 0)) :=
  ⟨(hF.set 0 _).set 1 _, bSet (bSet hB hw) hw⟩
theorem orel_alloc {w U : World} {o : Obj} {fb : Nat} (hw : w.heap.size ≤ fb) (hB : Below w.heap.size w U) (hF : Blk U fb 28 [.int .i64 0, .int .i64 0]) : Blk (((U.setCell ⟨fb, 0, none⟩ (.int .i64 4)).setCell ⟨fb, 1, none⟩ (.int .i64 0)).alloc o) fb 28 [.int .i64 4, .int .i64 0] ∧ Below w.heap.size w (((U.setCell ⟨fb, 0, none⟩ (.int .i64 4)).setCell ⟨fb, 1, none⟩ (.int .i64 0)).alloc o) :=
  ⟨((hF.set 0 _).set 1 _).alloc o, (bSet (bSet hB hw) hw).alloc ((bSet (bSet hB hw) hw).size) o⟩
set_option maxRecDepth 100000 in
set_option maxHeartbeats 8000000 in
theorem cst_odd (n K : Nat) (TA PL : List Int) (X1 X2 : Nat) (v1 : Option Addr) (v2 v3 : Nat) (a1 : Option Addr) (a2 a3 : Nat) (l1 : Option Addr) (l2 l3 : Nat) (w : World)
    (HO1 : Hid (∀ W, Below w.heap.size w W → Calls Tryz.prog 58 #[.slice l1 l2 l3] W fun x W' => x = .returned (.int .u64 X1) ∧ W' = W))
    (HO2 : Hid (∀ W, Below w.heap.size w W → Calls Tryz.prog 58 #[.slice a1 a2 a3] W fun x W' => x = .returned (.int .u64 X2) ∧ W' = W))
    (HIN : Hid (∀ W, Calls Tryz.prog 59 #[.int .u64 X1, .int .u64 X2] W fun x W' => x = .returned (.bool true) ∧ W' = W))
    (HPA : Hid (∀ W, Below w.heap.size w W → Calls Tryz.prog 17 #[.agg #[.int .i64 n, .slice v1 v2 v3], .slice a1 a2 a3] W fun x W' => ∃ t1 t2 t3, x = .returned (.tuple #[.agg #[.int .i64 K, .slice t1 t2 t3], .agg #[.int .i64 0, .int .i64 0]]) ∧ Sl W' (.slice t1 t2 t3) TA ∧ Below W.heap.size W W'))
    (HPL : Hid (∀ W, Below w.heap.size w W → Calls Tryz.prog 60 #[.slice a1 a2 a3, .slice l1 l2 l3] W fun x W' => ∃ r1 r2 r3, x = .returned (.slice r1 r2 r3) ∧ Sl W' (.slice r1 r2 r3) PL ∧ Below W.heap.size W W'))
    (HQU : Hid (∀ W a1 a2 a3 b1 b2 b3, Below w.heap.size w W → Sl W (.slice a1 a2 a3) TA → Sl W (.slice b1 b2 b3) PL → Calls Tryz.prog 18 #[.agg #[.int .i64 K, .slice a1 a2 a3], .slice b1 b2 b3] W fun x W' => x = .returned (.tuple #[.agg #[.int .i64 0, .slice none 0 0], .slice none 0 0, .agg #[.int .i64 4, .int .i64 0]]) ∧ Below W.heap.size W W')) :
    Calls Tryz.prog 24 #[.agg #[.int .i64 n, .slice v1 v2 v3], .slice a1 a2 a3, .slice l1 l2 l3] w fun e w' => e = .returned (.int .i64 4) ∧ Below w.heap.size w w' := by
  have hB0 : Below w.heap.size w (w.alloc (.cells #[.int .i64 n, .slice v1 v2 v3] 24)) := balloc w _
  have hX0 : BoxG (w.alloc (.cells #[.int .i64 n, .slice v1 v2 v3] 24)) w.heap.size n (.slice v1 v2 v3) := blk0 (w := w) (T := 24) _ _
  go_enter Tryz.func24, Tryz.ntmps24
  go_wp2_with fail
  generalize w.alloc (.cells #[.int .i64 n, .slice v1 v2 v3] 24) = w0 at *
  refine (HO1.out _ hB0).mono ?_
  rintro x w1 ⟨rfl, rfl⟩
  go_wp2_with fail
  refine (HO2.out _ hB0).mono ?_
  rintro x w1 ⟨rfl, rfl⟩
  go_wp2_with fail
  refine (HIN.out _).mono ?_
  rintro x w1 ⟨rfl, rfl⟩
  obtain ⟨c0, c1, _, _⟩ := hX0.two
  go_wp2_with fail
  clear c0 c1
  refine (HPA.out _ hB0).mono ?_
  rintro x w3 ⟨t1, t2, t3, rfl, hst, hb3⟩
  obtain ⟨w4, hw4⟩ : ∃ w4, w4 = (w3.alloc (.cells #[.int .i64 K, .slice t1 t2 t3] 24)).alloc (.cells #[.int .i64 0, .int .i64 0] 28) := ⟨_, rfl⟩
  have hbw4 : Below w3.heap.size w3 w4 := by rw [hw4]; exact (balloc w3 _).alloc (by simp) _
  have hY4 : BoxG w4 w3.heap.size K (.slice t1 t2 t3) := by rw [hw4]; exact (blk0 (w := w3) (T := 24) _ _).alloc _
  have hF4 : Blk w4 (w3.heap.size + 1) 28 [.int .i64 0, .int .i64 0] := by
    rw [hw4]
    have := blk0 (w := w3.alloc (.cells #[.int .i64 K, .slice t1 t2 t3] 24)) (T := 28) (.int .i64 0) (.int .i64 0)
    rwa [World.size_alloc] at this
  have hB4 := bcat2 hB0 (bcat2 hb3 hbw4)
  have hst4 := hst.below hbw4
  have hs3 : w.heap.size ≤ w3.heap.size := Nat.le_trans hB0.size hb3.size
  obtain ⟨c0, c1, _, _⟩ := hY4.two
  obtain ⟨f0, f1, f2, f3⟩ := hF4.two
  rw [hw4] at c0 c1 f0 f1 f2 f3
  go_wp2_with fail
  rw [← hw4] at c0 c1 f0 f1 f2 f3 ⊢
  clear hw4 hb3 hbw4 hst HPA HO1 HO2 HIN hX0 hB0
  have hS : ∀ W9, Below w4.heap.size w4 W9 → (W9.cell? ⟨w3.heap.size, 0, none⟩ = some (.int .i64 K) ∧ W9.cell? ⟨w3.heap.size, 1, none⟩ = some (.slice t1 t2 t3) ∧ W9.frozen? ⟨w3.heap.size + 1, 0, none⟩ = false ∧ W9.frozen? ⟨w3.heap.size + 1, 1, none⟩ = false) := fun W9 h => by
    obtain ⟨_, _, u2, u3⟩ := (blk_below hF4 h).two
    exact ⟨below_cell h c0, below_cell h c1, u2, u3⟩
  have hS2 : ∀ W9, Below w4.heap.size w4 W9 → (((W9.setCell ⟨w3.heap.size + 1, 0, none⟩ (.int .i64 4)).setCell ⟨w3.heap.size + 1, 1, none⟩ (.int .i64 0)).cell? ⟨w3.heap.size, 0, none⟩ = some (.int .i64 K) ∧ ((W9.setCell ⟨w3.heap.size + 1, 0, none⟩ (.int .i64 4)).setCell ⟨w3.heap.size + 1, 1, none⟩ (.int .i64 0)).cell? ⟨w3.heap.size, 1, none⟩ = some (.slice t1 t2 t3) ∧ ((W9.setCell ⟨w3.heap.size + 1, 0, none⟩ (.int .i64 4)).setCell ⟨w3.heap.size + 1, 1, none⟩ (.int .i64 0)).frozen? ⟨w3.heap.size + 1, 0, none⟩ = false ∧ ((W9.setCell ⟨w3.heap.size + 1, 0, none⟩ (.int .i64 4)).setCell ⟨w3.heap.size + 1, 1, none⟩ (.int .i64 0)).frozen? ⟨w3.heap.size + 1, 1, none⟩ = false) := fun W9 h => by
    have hY9 := ((blk_below hY4 h).other (p := ⟨w3.heap.size + 1, 0, none⟩) (by simp) (.int .i64 4)).other (p := ⟨w3.heap.size + 1, 1, none⟩) (by simp) (.int .i64 0)
    obtain ⟨_, _, u2, u3⟩ := (((blk_below hF4 h).set 0 (.int .i64 4)).set 1 (.int .i64 0)).two
    obtain ⟨d0, d1, _, _⟩ := hY9.two
    exact ⟨d0, d1, u2, u3⟩
  have hS3 : ∀ W9 (o : Obj), Below w4.heap.size w4 W9 → ((((W9.setCell ⟨w3.heap.size + 1, 0, none⟩ (.int .i64 4)).setCell ⟨w3.heap.size + 1, 1, none⟩ (.int .i64 0)).alloc o).cell? ⟨w3.heap.size, 0, none⟩ = some (.int .i64 K) ∧ (((W9.setCell ⟨w3.heap.size + 1, 0, none⟩ (.int .i64 4)).setCell ⟨w3.heap.size + 1, 1, none⟩ (.int .i64 0)).alloc o).cell? ⟨w3.heap.size, 1, none⟩ = some (.slice t1 t2 t3) ∧ (((W9.setCell ⟨w3.heap.size + 1, 0, none⟩ (.int .i64 4)).setCell ⟨w3.heap.size + 1, 1, none⟩ (.int .i64 0)).alloc o).frozen? ⟨w3.heap.size + 1, 0, none⟩ = false ∧ (((W9.setCell ⟨w3.heap.size + 1, 0, none⟩ (.int .i64 4)).setCell ⟨w3.heap.size + 1, 1, none⟩ (.int .i64 0)).alloc o).frozen? ⟨w3.heap.size + 1, 1, none⟩ = false) := fun W9 o h => by
    have hY9 := ((blk_below hY4 h).other (p := ⟨w3.heap.size + 1, 0, none⟩) (by simp) (.int .i64 4)).other (p := ⟨w3.heap.size + 1, 1, none⟩) (by simp) (.int .i64 0)
    obtain ⟨_, _, u2, u3⟩ := ((((blk_below hF4 h).set 0 (.int .i64 4)).set 1 (.int .i64 0)).alloc o).two
    obtain ⟨d0, d1, _, _⟩ := (hY9.alloc o).two
    exact ⟨d0, d1, u2, u3⟩
  have hR0 := bdrew (Below.refl w4.heap.size w4)
  have hS0 := hS _ hR0
  go_cut [9, 10] (fun s17 _ wx => Blk wx (w3.heap.size + 1) 28 [.int .i64 4, .int .i64 0] ∧ Below w.heap.size w wx)
  case first =>
    clear c0 c1 f0 f1 f2 f3
    go_region_held3 (fun W9 => W9.cell? ⟨w3.heap.size, 0, none⟩ = some (.int .i64 K) ∧ W9.cell? ⟨w3.heap.size, 1, none⟩ = some (.slice t1 t2 t3) ∧ W9.frozen? ⟨w3.heap.size + 1, 0, none⟩ = false ∧ W9.frozen? ⟨w3.heap.size + 1, 1, none⟩ = false)
      (first | exact hS0 | assumption | exact hS _ hU6 | exact hS _ hU5 | exact hS _ (bcat2 hR0 (balloc _ _)) | exact hS _ (bcat2 hU5 (balloc _ _)) | exact hS _ (bcat2 hU6 (balloc _ _)) | exact hS2 _ hU6 | exact hS2 _ (bcat2 hU6 (balloc _ _)) | exact hS3 _ _ hU6)
      (first
        | (go_at_call 60; refine (HPL.out _ (bcat2 hB4 (by first | exact hR0 | exact bcat2 hR0 (balloc _ _)))).mono ?_; rintro e5 U5 ⟨p1, p2, p3, rfl, ha5, hl5⟩; have hU5 : Below w4.heap.size w4 U5 := bcat2 (by first | exact hR0 | exact bcat2 hR0 (balloc _ _)) hl5; (first | (with_reducible have pA := mkG hl5; have ltA := pA.lt) | (with_reducible have pA := mkG (undA hl5); have ltA := pA.lt) | skip))
        | (go_at_call 18; refine (HQU.out _ _ _ _ _ _ _ (bcat2 hB4 (by first | exact hU5 | exact bcat2 hU5 (balloc _ _))) (hst4.below (by first | exact hU5 | exact bcat2 hU5 (balloc _ _))) (by first | exact ha5 | exact ha5.below (balloc _ _))).mono ?_; rintro e6 U6 ⟨rfl, hl6⟩; have hU6 : Below w4.heap.size w4 U6 := bcat2 (by first | exact hU5 | exact bcat2 hU5 (balloc _ _)) hl6; obtain ⟨_, _, _, _⟩ := (blk_below hF4 hU6).two; (first | (with_reducible have pB := mkG hl6) | skip); (first | (with_reducible have pA := blk_below pA hl6) | skip); (try (obtain ⟨_, _, _, _⟩ := pA.two)); (try (obtain ⟨_, _, _, _⟩ := pB.two)); (try (obtain ⟨_, _⟩ := pA.self)); (try (obtain ⟨_, _⟩ := pB.self)); have q1 : w3.heap.size + 1 < U6.heap.size := (blk_below hF4 hU6).lt; have q2 : ¬ (w3.heap.size + 1 = U6.heap.size) := by omega))
    all_goals (go_wp2; go_meet)
    all_goals (first
      | exact orel_put (by omega) (bcat2 hB4 hU6) (blk_below hF4 hU6)
      | exact orel_put (by omega) (bcat2 hB4 (bcat2 hU6 (balloc _ _))) (blk_below hF4 (bcat2 hU6 (balloc _ _)))
      | exact orel_alloc (by omega) (bcat2 hB4 hU6) (blk_below hF4 hU6))
  case rest =>
    obtain ⟨hF9, hB9⟩ := hcut
    clear c0 c1 f0 f1 f2 f3 hS hS0
    obtain ⟨f0, f1, f2, f3⟩ := hF9.two
    go_wp2
    go_ret
    exact ⟨rfl, hB9⟩
end Go.Proofs.YtjiapicknkjhmaaGreatDoor

namespace Go.Proofs.YtjiapicknkjhmaaGreatDoor
open Go Go.RowKit

open Classical in
/-- What is wrong with a subgroup as the one behind another one. -/
noncomputable def stpc (n : Nat) (zs : List Int) (e : Nat) (A B : Nat → Bool) : Int :=
  if ¬ Fin.In (List.range n) B A then 7 else if ¬ Fin.Nb (List.range n) (tm n zs) (iv n zs e) B A then 4 else if ¬ Mxg n zs e A B then 6 else 0
section
variable {n e : Nat} {zs : List Int} {A B : Nat → Bool}
theorem stpc_zero : stpc n zs e A B = 0 ↔ Mxg n zs e A B := by
  unfold stpc
  constructor
  · intro h
    split at h
    · cases h
    · split at h
      · cases h
      · split at h
        · cases h
        · rename_i h3
          exact Classical.not_not.1 h3
  · intro h
    rw [if_neg (Classical.not_not.2 h.sub), if_neg (Classical.not_not.2 h.nm), if_neg (Classical.not_not.2 h)]
theorem nrmq_nm (g : IsGrp n zs e) : nrmq n zs e B = true ↔ ∀ x a, x < n → a < n → B x = true → B (Fin.cj (tm n zs) (iv n zs e) x a) = true := by
  constructor
  · intro h x a hx ha h1
    have h2 := bs_inj (nrmq_iff.1 h a ha) _ (List.mem_range.1 (Fin.cj_mem (grp_fg g) (grp_iv g) (List.mem_range.2 hx) (List.mem_range.2 ha)))
    rw [← h2]
    exact cjq_iff.2 ⟨x, List.mem_range.2 hx, h1, rfl⟩
  · intro h
    refine nrmq_iff.2 fun a ha => ?_
    have F := grp_fg g
    have V := grp_iv g
    have ha' := List.mem_range.2 ha
    have hi := (V a ha').1
    refine bs_ext fun y hy => ?_
    rw [Bool.eq_iff_iff, cjq_iff]
    constructor
    · rintro ⟨x, hx, h1, rfl⟩
      exact h x a (List.mem_range.1 hx) ha h1
    · intro h1
      exact ⟨_, Fin.cj_mem F V (List.mem_range.2 hy) hi, h y _ hy (List.mem_range.1 hi) h1, (Fin.cj_back F V (List.mem_range.2 hy) ha').2⟩
theorem part_nrm (g : IsGrp n zs e) (hA : subT n zs e A = true) (hin : Fin.In (List.range n) B A) :
    nrmq (lst n A).length (mkT (lst n A).length (parF n zs (lst n A))) (place (lst n A) e) (fun i => B (thing (lst n A) i)) = true ↔ Fin.Nb (List.range n) (tm n zs) (iv n zs e) B A := by
  have G := part_grp g hA
  rw [nrmq_nm G]
  constructor
  · intro h x a hx ha h1 h2
    have hxA := hin x hx h1
    have mx : x ∈ lst n A := mem_lst.2 ⟨List.mem_range.1 hx, hxA⟩
    have ma : a ∈ lst n A := mem_lst.2 ⟨List.mem_range.1 ha, h2⟩
    have h3 := h _ _ (place_at mx).1 (place_at ma).1 (by show B (thing _ _) = true; rw [thing_place mx]; exact h1)
    have h3 : B (thing _ _) = true := h3
    rwa [part_cj g hA (place_at mx).1 (place_at ma).1, thing_place mx, thing_place ma] at h3
  · intro h i j hi hj h1
    show B (thing _ _) = true
    rw [part_cj g hA hi hj]
    exact h _ _ (List.mem_range.2 (thing_lt hi)) (List.mem_range.2 (thing_lt hj)) h1 (thing_in hj)
theorem places_lst (hin : ∀ x, x < n → B x = true → A x = true) : (lst n B).map (place (lst n A)) = lst (lst n A).length (fun i => B (thing (lst n A) i)) := by
  have h1 : lst n B = (lst (lst n A).length fun i => B (thing (lst n A) i)).map (thing (lst n A)) := by
    rw [upt_lst]
    exact (lst_bs' (up_down hin)).symm
  rw [h1, List.map_map]
  refine (List.map_congr_left fun i hi => ?_).trans (List.map_id _)
  exact place_thing (lst_nd n A) (mem_lst.1 hi).1
theorem Mxg.congr {A' B' : Nat → Bool} (g : IsGrp n zs e) (h : Mxg n zs e A B) (h1 : bs A n = bs A' n) (h2 : bs B n = bs B' n) : Mxg n zs e A' B' :=
  Fin.Mxn.congr h (fun x hx => bs_inj h1 x (List.mem_range.1 hx)) (fun x hx => bs_inj h2 x (List.mem_range.1 hx)) (grp_fg g) (grp_iv g)
end
theorem quo_lst (n e : Nat) (v u : Value) (zs : List Int) (q : Nat → Bool) (w : World) (hv : Sl w v zs) (hg : IsGrp n zs e) (hu : Sl w u (li (lst n q))) (hT : Tab w) (hs : subT n zs e q = true) (hN : nrmq n zs e q = true) :
    Calls Tryz.prog 18 #[.agg #[.int .i64 n, v], u] w fun x w' => ∃ r1 r2 r3 s1 s2 s3, x = .returned (.tuple #[.agg #[.int .i64 (fsts n (rgtq n zs (lst n q)) n).length, .slice r1 r2 r3], .slice s1 s2 s3, .agg #[.int .i64 0, .int .i64 0]]) ∧ SlF w.heap.size w' (.slice r1 r2 r3) (mkT (fsts n (rgtq n zs (lst n q)) n).length (quoF n zs (rgtq n zs (lst n q)))) ∧ Below w.heap.size w w' := by
  have h := quo_goodF n e v u zs (li (lst n q)) w hv hg hu hT (lst_fault n q) ((subT_congr hg fun a ha => pset_lst ha).trans hs) (by rw [nrmq_pset]; exact hN)
  rw [lst_pset] at h
  refine h.mono ?_
  rintro x w' ⟨r1, r2, r3, s1, s2, s3, h1, h2, h4⟩
  exact ⟨r1, r2, r3, s1, s2, s3, h1, h2, h4.2⟩
theorem quo_lst_odd (n e : Nat) (v u : Value) (zs : List Int) (q : Nat → Bool) (w : World) (hv : Sl w v zs) (hg : IsGrp n zs e) (hu : Sl w u (li (lst n q))) (hT : Tab w) (hs : subT n zs e q = true) (hN : nrmq n zs e q = false) :
    Calls Tryz.prog 18 #[.agg #[.int .i64 n, v], u] w fun x w' => x = .returned (.tuple #[.agg #[.int .i64 0, .slice none 0 0], .slice none 0 0, .agg #[.int .i64 4, .int .i64 0]]) ∧ Below w.heap.size w w' :=
  quo_odd n e v u zs (li (lst n q)) w hv hg hu hT (lst_fault n q) ((subT_congr hg fun a ha => pset_lst ha).trans hs) (by rw [nrmq_pset]; exact hN)
theorem of_lst (n : Nat) (u : Value) (B : Nat → Bool) (w : World) (hn : n ≤ 60) (hu : Sl w u (li (lst n B))) : Calls Tryz.prog 58 #[u] w fun e w' => e = .returned (.int .u64 (bs B n)) ∧ w' = w := by
  have h := of_ok n u (lst n B) w hn (Nat.le_trans (lst_len _ _) hn) hu (fun x hx => (mem_lst.1 hx).1)
  rwa [show bs (fun a => decide (a ∈ lst n B)) n = bs B n from bs_ext fun a ha => by rw [Bool.eq_iff_iff, decide_eq_true_eq, mem_lst]; exact ⟨fun h => h.2, fun h => ⟨ha, h⟩⟩] at h
open Classical in
theorem simple_lst (m d : Nat) (v : Value) (ys : List Int) (w : World) (hv : Sl w v ys) (hg : IsGrp m ys d) (hT : Tab w) :
    Calls Tryz.prog 61 #[.agg #[.int .i64 m, v]] w fun x w' => x = .returned (.tuple #[.bool (decide (Mxg m ys d (fun _ => true) (fun a => decide (a = d)))), .agg #[.int .i64 0, .int .i64 0]]) ∧ Below w.heap.size w w' := by
  have hP : ∀ a, a < m → ∀ y, y < m → ((mkd_ex' m ys d (cloq m ys d (pset [(a : Int)]) m)).choose y = true ↔ Mkd m ys d (cloq m ys d (pset [(a : Int)]) m) y) := fun a _ => (mkd_ex' m ys d (cloq m ys d (pset [(a : Int)]) m)).choose_spec
  have h := simple_good m d v ys (fun a => (mkd_ex' m ys d (cloq m ys d (pset [(a : Int)]) m)).choose) w hv hg hT hP
  have h1 := simple_iff hg hP
  rwa [show smq m d (fun a => (lst m (mkd_ex' m ys d (cloq m ys d (pset [(a : Int)]) m)).choose).length) = decide (Mxg m ys d (fun _ => true) (fun a => decide (a = d))) by
    rw [Bool.eq_iff_iff, decide_eq_true_eq]
    exact h1] at h
theorem chain_iff {n e M c : Nat} {zs TQ : List Int} {A B : Nat → Bool} {φ : Nat → Nat} (g : IsGrp n zs e) (hA : subT n zs e A = true) (hin : ∀ x, x < n → B x = true → A x = true) (G : IsGrp (lst n A).length (mkT (lst n A).length (parF n zs (lst n A))) (place (lst n A) e)) (Q : IsGrp M TQ c) (O : IsOnto (lst n A).length (mkT (lst n A).length (parF n zs (lst n A))) M TQ φ)
    (hk : ∀ a, a < (lst n A).length → (φ a = c ↔ B (thing (lst n A) a) = true)) : Mxg M TQ c (fun _ => true) (fun a => decide (a = c)) ↔ Mxg n zs e A B := by
  have e1 : bs (upt n A fun _ => true) n = bs A n := bs_ext fun x _ => by unfold upt; rw [Bool.and_true]
  have e2 := up_down hin
  have e3 : bs (fun x => decide (φ x = c)) (lst n A).length = bs (fun i => B (thing (lst n A) i)) (lst n A).length := bs_ext fun x hx => by
    rw [Bool.eq_iff_iff, decide_eq_true_eq]
    exact hk x hx
  constructor
  · intro h
    exact (part_up g hA ((onto_up G Q O h).congr G rfl e3)).congr g e1 e2
  · intro h
    exact onto_down G Q O ((part_down g hA (h.congr g e1.symm e2.symm)).congr G rfl e3.symm)
open Classical in
/-- What checkedStep answers. -/
theorem cstep_ok (n e : Nat) (v a l : Value) (zs : List Int) (A B : Nat → Bool) (w : World) (hv : Sl w v zs) (ha : Sl w a (li (lst n A))) (hl : Sl w l (li (lst n B))) (hg : IsGrp n zs e) (hT : Tab w) (hA : subT n zs e A = true) (hB : subT n zs e B = true) :
    Calls Tryz.prog 24 #[.agg #[.int .i64 n, v], a, l] w fun x w' => x = .returned (.int .i64 (stpc n zs e A B)) ∧ Below w.heap.size w w' := by
  have hn := hg.tab.le
  obtain ⟨v1, v2, v3, rfl⟩ := hv.isSlice
  obtain ⟨a1, a2, a3, rfl⟩ := ha.isSlice
  obtain ⟨l1, l2, l3, rfl⟩ := hl.isSlice
  have HO1 := hide (fun W (h : Below w.heap.size w W) => of_lst n (.slice l1 l2 l3) B W hn (hl.below h))
  have HO2 := hide (fun W (h : Below w.heap.size w W) => of_lst n (.slice a1 a2 a3) A W hn (ha.below h))
  by_cases hin : Fin.In (List.range n) B A
  · have hin' : ∀ x, x < n → B x = true → A x = true := fun x hx => hin x (List.mem_range.2 hx)
    have HIN := hide (fun W => in_ok n B A W hn)
    rw [inB_iff.2 hin'] at HIN
    have G := part_grp hg hA
    have hbS := down_sub hg hA hB
    have HPA := hide (fun W (h : Below w.heap.size w W) => part_of_lst n e (.slice v1 v2 v3) (.slice a1 a2 a3) zs A W (hv.below h) hg (ha.below h) (hT.below h) hA)
    have hla := lst_len n A
    have HPL : Hid (∀ W, Below w.heap.size w W → Calls Tryz.prog 60 #[.slice a1 a2 a3, .slice l1 l2 l3] W fun x W' => ∃ r1 r2 r3, x = .returned (.slice r1 r2 r3) ∧ Sl W' (.slice r1 r2 r3) (li (lst (lst n A).length fun i => B (thing (lst n A) i))) ∧ Below W.heap.size W W') := hide fun W h => by
      refine (places_ok (.slice a1 a2 a3) (.slice l1 l2 l3) (lst n A) (lst n B) W (ha.below h) (hl.below h) (fun y hy => by
        obtain ⟨h1, h2⟩ := mem_lst.1 hy
        exact mem_lst.2 ⟨h1, hin' y h1 h2⟩) (by omega) (Nat.le_trans (lst_len n B) hn)).mono ?_
      rintro x W' ⟨r, rfl, hr, hb⟩
      rw [places_lst hin'] at hr
      obtain ⟨r1, r3, rfl, hs⟩ := (show ∃ r1 r3, r = .slice r1 (lst (lst n A).length fun i => B (thing (lst n A) i)).length r3 ∧ Sl W' (.slice r1 (lst (lst n A).length fun i => B (thing (lst n A) i)).length r3) (li (lst (lst n A).length fun i => B (thing (lst n A) i))) from by
        have hs := hr.sl
        obtain ⟨a, cap, _, _, rfl, _⟩ := hr
        rw [li_len] at hs ⊢
        exact ⟨a, cap, rfl, hs⟩)
      exact ⟨r1, _, r3, rfl, hs, hb⟩
    by_cases hN : Fin.Nb (List.range n) (tm n zs) (iv n zs e) B A
    · have hNq := (part_nrm hg hA hin).2 hN
      have Q := quo_grp G hbS hNq
      have O := quo_onto G hbS hNq
      have hch := chain_iff hg hA hin' G Q O (fun a ha => quo_ker G hbS ha)
      have HQU := hide (fun W (a1 : Option Addr) (a2 a3 : Nat) (b1 : Option Addr) (b2 b3 : Nat) (h : Below w.heap.size w W) (h1 : Sl W (.slice a1 a2 a3) (mkT (lst n A).length (parF n zs (lst n A)))) (h2 : Sl W (.slice b1 b2 b3) (li (lst (lst n A).length fun i => B (thing (lst n A) i)))) => quo_lst (lst n A).length (place (lst n A) e) (.slice a1 a2 a3) (.slice b1 b2 b3) (mkT (lst n A).length (parF n zs (lst n A))) (fun i => B (thing (lst n A) i)) W h1 G h2 (hT.below h) hbS hNq)
      have HSI := hide (fun W (a1 : Option Addr) (a2 a3 : Nat) (h : Below w.heap.size w W) (h1 : Sl W (.slice a1 a2 a3) _) => simple_lst _ _ (.slice a1 a2 a3) _ W h1 Q (hT.below h))
      refine (cst_in n (lst n A).length _ _ _ _ _ (bs B n) (bs A n) v1 v2 v3 a1 a2 a3 l1 l2 l3 w HO1 HO2 HIN HPA HPL HQU HSI).mono ?_
      rintro x w' ⟨rfl, hb⟩
      refine ⟨?_, hb⟩
      congr 2
      unfold stpc
      rw [if_neg (Classical.not_not.2 hin), if_neg (Classical.not_not.2 hN)]
      by_cases hM : Mxg n zs e A B
      · rw [if_neg (Classical.not_not.2 hM), if_pos (by rw [decide_eq_true_eq]; exact hch.2 hM)]
      · rw [if_pos hM, if_neg (by rw [decide_eq_true_eq]; exact fun h => hM (hch.1 h))]
    · have hNq : nrmq (lst n A).length (mkT (lst n A).length (parF n zs (lst n A))) (place (lst n A) e) (fun i => B (thing (lst n A) i)) = false := by
        rw [Bool.eq_false_iff]
        exact fun h => hN ((part_nrm hg hA hin).1 h)
      have HQU := hide (fun W (a1 : Option Addr) (a2 a3 : Nat) (b1 : Option Addr) (b2 b3 : Nat) (h : Below w.heap.size w W) (h1 : Sl W (.slice a1 a2 a3) (mkT (lst n A).length (parF n zs (lst n A)))) (h2 : Sl W (.slice b1 b2 b3) (li (lst (lst n A).length fun i => B (thing (lst n A) i)))) => quo_lst_odd (lst n A).length (place (lst n A) e) (.slice a1 a2 a3) (.slice b1 b2 b3) (mkT (lst n A).length (parF n zs (lst n A))) (fun i => B (thing (lst n A) i)) W h1 G h2 (hT.below h) hbS hNq)
      refine (cst_odd n (lst n A).length _ _ (bs B n) (bs A n) v1 v2 v3 a1 a2 a3 l1 l2 l3 w HO1 HO2 HIN HPA HPL HQU).mono ?_
      rintro x w' ⟨rfl, hb⟩
      refine ⟨?_, hb⟩
      congr 2
      unfold stpc
      rw [if_neg (Classical.not_not.2 hin), if_pos hN]
  · have HIN := hide (fun W => in_ok n B A W hn)
    rw [show inB (bs B n) (bs A n) = false by
      rw [Bool.eq_false_iff]
      exact fun h => hin fun x hx => inB_iff.1 h x (List.mem_range.1 hx)] at HIN
    refine (cst_out n (bs B n) (bs A n) v1 v2 v3 a1 a2 a3 l1 l2 l3 w HO1 HO2 HIN).mono ?_
    rintro x w' ⟨rfl, hb⟩
    refine ⟨?_, hb⟩
    congr 2
    unfold stpc
    rw [if_pos hin]
end Go.Proofs.YtjiapicknkjhmaaGreatDoor

namespace Go.Proofs.YtjiapicknkjhmaaGreatDoor
open Go Go.RowKit

/-- Is a list a subgroup? -/
def gdB (n : Nat) (zs : List Int) (e : Nat) (l : List Int) : Bool := decide (lfault n l = (0, 0)) && subT n zs e (pset l)
/-- What is wrong with the sets of a series. -/
def chkF (n : Nat) (zs : List Int) (e : Nat) (ls : List (List Int)) : Int × Int :=
  if ls.length < 1 ∨ 10 < ls.length then (2, 0) else if (ls[0]?.getD []).length ≠ n ∨ (ls[ls.length - 1]?.getD []).length ≠ 1 then (8, 0)
  else if least ls.length (fun i => !gdB n zs e (ls[i]?.getD [])) = -1 then (0, 0) else (5, least ls.length (fun i => !gdB n zs e (ls[i]?.getD [])))
theorem is_gd (n e : Nat) (v u : Value) (zs l : List Int) (w : World) (hv : Sl w v zs) (hg : IsGrp n zs e) (hu : Sl w u l) (hT : Tab w) :
    ∃ b c i, (Calls Tryz.prog 57 #[.agg #[.int .i64 n, v], u] w fun x w' => x = .returned (.tuple #[.bool b, .agg #[.int .i64 c, .int .i64 i]]) ∧ Below w.heap.size w w') ∧ ((gdB n zs e l = true ∧ c = 0 ∧ b = true) ∨ (gdB n zs e l = false ∧ c ≠ 0) ∨ (gdB n zs e l = false ∧ c = 0 ∧ b = false)) := by
  by_cases h : (lfault n l).1 = 0
  · obtain ⟨h0, _, _⟩ := lfault_zero h
    have h1 := is_good n e v u zs l w hv hg hu hT h0
    refine ⟨_, _, _, h1, ?_⟩
    unfold gdB
    rw [decide_eq_true h0, Bool.true_and]
    cases subT n zs e (pset l) with
    | true => exact .inl ⟨rfl, rfl, rfl⟩
    | false => exact .inr (.inr ⟨rfl, rfl, rfl⟩)
  · have h1 := is_bad n v u zs l w hv hu (by rw [sfault_l hg]; exact h)
    rw [sfault_l hg] at h1
    refine ⟨_, _, _, h1, .inr (.inl ⟨?_, h⟩)⟩
    unfold gdB
    rw [decide_eq_false (fun h2 => h (by rw [h2])), Bool.false_and]
theorem row_at {w : World} {pb po : Nat} {rs : List (List Int)} (h : ∀ j, j < rs.length → ∃ x, w.cell? ⟨pb, po + j, none⟩ = some x ∧ Sl w x (rs[j]?.getD [])) {j : Nat} (hj : j < rs.length) : ∃ r1 r3, w.cell? ⟨pb, po + j, none⟩ = some (.slice r1 (rs[j]?.getD []).length r3) ∧ Sl w (.slice r1 (rs[j]?.getD []).length r3) (rs[j]?.getD []) := by
  obtain ⟨x, hx, hs⟩ := h j hj
  obtain ⟨r1, r3, _, _, rfl, _⟩ := id hs
  exact ⟨r1, r3, hx, hs⟩
theorem begR (w : World) (N : Int) (v : Value) (c i : Int) : ((w.alloc (.cells #[.int .i64 N, v] 24)).alloc (.cells #[.int .i64 c, .int .i64 i] 28)).cell? ⟨w.heap.size + 1, 0, none⟩ = some (.int .i64 c) ∧ ((w.alloc (.cells #[.int .i64 N, v] 24)).alloc (.cells #[.int .i64 c, .int .i64 i] 28)).cell? ⟨w.heap.size + 1, 1, none⟩ = some (.int .i64 i) ∧ Below w.heap.size w ((w.alloc (.cells #[.int .i64 N, v] 24)).alloc (.cells #[.int .i64 c, .int .i64 i] 28)) := by
  have h := blk0 (w := w.alloc (.cells #[.int .i64 N, v] 24)) (T := 28) (.int .i64 c) (.int .i64 i)
  rw [World.size_alloc] at h
  obtain ⟨h1, h2, _, _⟩ := h.two
  exact ⟨h1, h2, (balloc w _).alloc (by simp) _⟩
set_option maxRecDepth 100000 in
set_option maxHeartbeats 4000000 in
theorem checked_many (n : Nat) (v lv : Value) (ls : List (List Int)) (w : World) (hL : SlL w lv ls) (hm : ls.length < 1 ∨ 10 < ls.length) :
    Calls Tryz.prog 23 #[.agg #[.int .i64 n, v], lv] w fun x w' => x = .returned (.agg #[.int .i64 2, .int .i64 0]) ∧ Below w.heap.size w w' := by
  obtain ⟨la, lc, lb, lo, rfl, _⟩ := hL
  obtain ⟨z0, z1, hB6⟩ := begR w n v 2 0
  rcases hm with hm | hm
  · have h1 : (ls.length : Int) < 1 := by omega
    go_enter Tryz.func23, Tryz.ntmps23
    go_wp2
    exact bodyPost_ret (v := .agg #[.int .i64 2, .int .i64 0]) (by simp [results, Tryz.results23, go_sem, z0, z1]) rfl ⟨rfl, hB6⟩
  · have h1 : ¬ (ls.length : Int) < 1 := by omega
    have h2 : (ls.length : Int) > 10 := by omega
    go_enter Tryz.func23, Tryz.ntmps23
    go_wp2
    exact bodyPost_ret (v := .agg #[.int .i64 2, .int .i64 0]) (by simp [results, Tryz.results23, go_sem, z0, z1]) rfl ⟨rfl, hB6⟩
set_option maxRecDepth 100000 in
set_option maxHeartbeats 4000000 in
theorem checked_size (n : Nat) (v lv : Value) (ls : List (List Int)) (w : World) (hL : SlL w lv ls) (hl1 : 1 ≤ ls.length) (hl2 : ls.length ≤ 10) (hm : (ls[0]?.getD []).length ≠ n ∨ (ls[ls.length - 1]?.getD []).length ≠ 1) :
    Calls Tryz.prog 23 #[.agg #[.int .i64 n, v], lv] w fun x w' => x = .returned (.agg #[.int .i64 8, .int .i64 0]) ∧ Below w.heap.size w w' := by
  obtain ⟨la, lc, lb, lo, rfl, h1, h2, h3, _, _⟩ := hL
  obtain rfl := h1 (by omega)
  obtain ⟨w0, BG⟩ := Beg.new w n v
  obtain ⟨a1, a3, ca, sa⟩ := row_at h2 (show 0 < ls.length by omega)
  obtain ⟨b1, b3, cb, sb⟩ := row_at h2 (show ls.length - 1 < ls.length by omega)
  rw [Nat.add_zero] at ca
  have ca := below_cell BG.bel ca
  have cb := below_cell BG.bel cb
  obtain ⟨x0, x1, _, _⟩ := BG.box.two
  obtain ⟨y0, y1, y2, y3⟩ := BG.res.two
  have g1 : ¬ (ls.length : Int) < 1 := by omega
  have g2 : ¬ (ls.length : Int) > 10 := by omega
  have g3 : (ls.length : Int) - 1 = ((ls.length - 1 : Nat) : Int) := by omega
  have g4 : ((ls.length - 1 : Nat) : Int) < (ls.length : Int) := by omega
  have g5 : (0 : Int) < (ls.length : Int) := by omega
  generalize hk : ls.length - 1 = k at *
  clear hk h2 sa sb h1
  have HM := hide hm
  clear hm
  generalize (ls[0]?.getD []).length = L0 at *
  generalize (ls[k]?.getD []).length = L1 at *
  rw [BG.eq] at ca cb x0 x1 y0 y1 y2 y3
  go_enter Tryz.func23, Tryz.ntmps23
  by_cases hm0 : L0 = n
  · have h9 : ¬ L1 = 1 := fun h => by
      rcases HM.out with h8 | h8
      · exact h8 hm0
      · exact h8 h
    have e0 : ((L0 : Int) != (n : Int)) = false := by simp [hm0]
    have e1 : ((L1 : Int) != 1) = true := by
      have : ¬ (L1 : Int) = 1 := by omega
      simpa using this
    clear hm0 h9
    go_wp2_with fail
    go_quiet (fail)
    go_wp2
    rw [← BG.eq]
    obtain ⟨hR6, hB6⟩ := put2 (show Blk (w0.drewN nq) (w.heap.size + 1) 28 [.int .i64 0, .int .i64 0] from BG.res) (bdrewN BG.bel nq) (by omega) 8 0
    obtain ⟨z0, z1, _, _⟩ := hR6.two
    exact bodyPost_ret (v := .agg #[.int .i64 8, .int .i64 0]) (by simp [results, Tryz.results23, go_sem, z0, z1]) rfl ⟨rfl, hB6⟩
  · have e0 : ((L0 : Int) != (n : Int)) = true := by
      have : ¬ (L0 : Int) = (n : Int) := by omega
      simpa using this
    go_wp2_with fail
    go_quiet (fail)
    go_wp2
    rw [← BG.eq]
    obtain ⟨hR6, hB6⟩ := put2 (show Blk (w0.drewN nq) (w.heap.size + 1) 28 [.int .i64 0, .int .i64 0] from BG.res) (bdrewN BG.bel nq) (by omega) 8 0
    obtain ⟨z0, z1, _, _⟩ := hR6.two
    exact bodyPost_ret (v := .agg #[.int .i64 8, .int .i64 0]) (by simp [results, Tryz.results23, go_sem, z0, z1]) rfl ⟨rfl, hB6⟩
set_option maxRecDepth 100000 in
set_option maxHeartbeats 8000000 in
theorem checked_go (n e : Nat) (v lv : Value) (zs : List Int) (ls : List (List Int)) (w : World) (hv : Sl w v zs) (hg : IsGrp n zs e) (hT : Tab w) (hL : SlL w lv ls) (hl1 : 1 ≤ ls.length) (hl2 : ls.length ≤ 10) (hs0 : (ls[0]?.getD []).length = n) (hs1 : (ls[ls.length - 1]?.getD []).length = 1) (c i : Int)
    (hci : (∀ k, k < ls.length → gdB n zs e (ls[k]?.getD []) = true) ∧ c = 0 ∧ i = 0 ∨ ∃ k : Nat, k < ls.length ∧ (∀ t, t < k → gdB n zs e (ls[t]?.getD []) = true) ∧ gdB n zs e (ls[k]?.getD []) = false ∧ c = 5 ∧ i = k) :
    Calls Tryz.prog 23 #[.agg #[.int .i64 n, v], lv] w fun x w' => x = .returned (.agg #[.int .i64 c, .int .i64 i]) ∧ Below w.heap.size w w' := by
  have HCI := hide hci
  have HIS := hide (fun W (l : List Int) (u : Value) (h : Below w.heap.size w W) (hu : Sl W u l) => is_gd n e v u zs l W (hv.below h) hg hu (hT.below h))
  clear hci
  obtain ⟨la, lc, lb, lo, rfl, h1, h2, h3, _, _⟩ := hL
  obtain rfl := h1 (by omega)
  obtain ⟨w0, BG⟩ := Beg.new w n v
  obtain ⟨a1, a3, ca, sa⟩ := row_at h2 (show 0 < ls.length by omega)
  obtain ⟨b1, b3, cb, sb⟩ := row_at h2 (show ls.length - 1 < ls.length by omega)
  rw [Nat.add_zero, hs0] at ca
  rw [hs1] at cb
  have ca := below_cell BG.bel ca
  have cb := below_cell BG.bel cb
  obtain ⟨x0, x1, _, _⟩ := BG.box.two
  have g1 : ¬ (ls.length : Int) < 1 := by omega
  have g2 : ¬ (ls.length : Int) > 10 := by omega
  have g3 : (ls.length : Int) - 1 = ((ls.length - 1 : Nat) : Int) := by omega
  have g4 : ((ls.length - 1 : Nat) : Int) < (ls.length : Int) := by omega
  have g5 : (0 : Int) < (ls.length : Int) := by omega
  generalize hk : ls.length - 1 = k at *
  have HROW := hide h2
  clear hk h2 sa sb h1 hs0 hs1
  rw [BG.eq] at ca cb x0 x1
  go_enter Tryz.func23, Tryz.ntmps23
  go_wp2_with fail
  go_quiet (fail)
  rw [← BG.eq]
  have hBq := bdrewN BG.bel nq
  have hXq : BoxG (w0.drewN nq) w.heap.size n v := BG.box
  have hRq : Blk (w0.drewN nq) (w.heap.size + 1) 28 [.int .i64 0, .int .i64 0] := BG.res
  clear ca cb x0 x1 g3 g4 BG
  generalize w0.drewN nq = w1 at *
  go_wp2_with fail
  go_loopw [38] (fun iv wr => ∃ j : Nat, j ≤ ls.length ∧ iv = .int .i64 j ∧ (∀ t, t < j → gdB n zs e (ls[t]?.getD []) = true) ∧ Below w1.heap.size w1 wr) (fun iv _ => ls.length - (intOf iv).toNat)
  case atStart => exact ⟨0, Nat.zero_le _, rfl, fun t h => by omega, Below.refl _ _⟩
  case round =>
    obtain ⟨j, hj, rfl, hgd, hb⟩ := hrel
    have HGD := hide hgd
    clear hgd
    have hBr := bcat2 hBq hb
    have hXr := blk_below hXq hb
    have hRr := blk_below hRq hb
    by_cases hlt : j < ls.length
    · have hji : (j : Int) < (ls.length : Int) := by omega
      obtain ⟨r1, r3, cr, sr⟩ := row_at HROW.out hlt
      have cr := below_cell hBr cr
      have sr := sr.below hBr
      have HC := hide (fun h : gdB n zs e (ls[j]?.getD []) = false => (show c = 5 ∧ i = (j : Int) by
        rcases HCI.out with ⟨h1, _, _⟩ | ⟨k', hk', h1, h2, h3, h4⟩
        · rw [h1 j hlt] at h; cases h
        · have : j = k' := by
            rcases Nat.lt_trichotomy j k' with h5 | h5 | h5
            · rw [h1 j h5] at h; cases h
            · exact h5
            · rw [HGD.out k' h5] at h2; cases h2
          rw [this]
          exact ⟨h3, h4⟩))
      obtain ⟨bb, cc, ii, hcall, hcase⟩ := HIS.out wr _ _ hBr sr
      have HCALL := hide hcall
      have HCASE := hide hcase
      clear hcall hcase sr
      generalize hlj : ls[j]?.getD [] = lj at *
      have HLJ := hide hlj
      clear hlj
      obtain ⟨x0, x1, _, _⟩ := hXr.two
      go_wp2_with fail
      clear x0 x1 cr
      refine HCALL.out.mono ?_
      rintro x w2 ⟨rfl, hb2⟩
      obtain ⟨w3, hw3⟩ : ∃ w3, w3 = w2.alloc (.cells #[.int .i64 cc, .int .i64 ii] 28) := ⟨_, rfl⟩
      have hb3 : Below w2.heap.size w2 w3 := by rw [hw3]; exact balloc w2 _
      have hF3 : Blk w3 w2.heap.size 28 [.int .i64 cc, .int .i64 ii] := by rw [hw3]; exact blk0 _ _
      have hb4 := bcat2 hb (bcat2 hb2 hb3)
      have hB4 := bcat2 hBr (bcat2 hb2 hb3)
      have hR4 := blk_below hRr (bcat2 hb2 hb3)
      obtain ⟨f0, f1, _, _⟩ := hF3.two
      obtain ⟨y0, y1, y2, y3⟩ := hR4.two
      rcases HCASE.out with ⟨hgd, rfl, rfl⟩ | ⟨hgd, hcc⟩ | ⟨hgd, rfl, rfl⟩
      · have HGJ := hide hgd
        clear hgd
        rw [hw3] at f0 f1 y0 y1 y2 y3
        go_wp2_with fail
        rw [← hw3]
        go_roundw
        case rel => exact ⟨j + 1, by omega, by go_num, fun t ht => by
          by_cases htj : t < j
          · exact HGD.out t htj
          · rw [show t = j by omega, HLJ.out]; exact HGJ.out, hb4⟩
        case measure => simp [intOf]; omega
      · obtain ⟨hc5, hij⟩ := HC.out hgd
        have hcb : (cc != 0) = true := by simpa using hcc
        obtain ⟨hR6, hB6⟩ := put2 hR4 hB4 (by omega) 5 (j : Int)
        obtain ⟨z0, z1, _, _⟩ := hR6.two
        rw [hw3] at f0 f1 y0 y1 y2 y3
        have HC5 := hide hc5
        have HIJ := hide hij
        clear hc5 hij hgd hcc
        go_wp2
        rw [← hw3]
        exact bodyPost_ret (v := .agg #[.int .i64 5, .int .i64 j]) (by simp [results, Tryz.results23, go_sem, z0, z1]) rfl ⟨by rw [HC5.out, HIJ.out], hB6⟩
      · obtain ⟨hc5, hij⟩ := HC.out hgd
        obtain ⟨hR6, hB6⟩ := put2 hR4 hB4 (by omega) 5 (j : Int)
        obtain ⟨z0, z1, _, _⟩ := hR6.two
        rw [hw3] at f0 f1 y0 y1 y2 y3
        have HC5 := hide hc5
        have HIJ := hide hij
        clear hc5 hij hgd
        go_wp2
        rw [← hw3]
        exact bodyPost_ret (v := .agg #[.int .i64 5, .int .i64 j]) (by simp [results, Tryz.results23, go_sem, z0, z1]) rfl ⟨by rw [HC5.out, HIJ.out], hB6⟩
    · have hji : ¬ (j : Int) < (ls.length : Int) := by omega
      obtain ⟨y0, y1, y2, y3⟩ := hRr.two
      have HC0 := hide (show c = 0 ∧ i = 0 by
        rcases HCI.out with ⟨_, h1, h2⟩ | ⟨k', hk', h1, h2, h3, h4⟩
        · exact ⟨h1, h2⟩
        · rw [HGD.out k' (by omega)] at h2; cases h2)
      have hst := store_same y0 y1
      go_wp2
      exact bodyPost_ret (v := .agg #[.int .i64 0, .int .i64 0]) (by simp [results, Tryz.results23, go_sem, y0, y1]) rfl ⟨by rw [HC0.out.1, HC0.out.2], hBr⟩
end Go.Proofs.YtjiapicknkjhmaaGreatDoor

namespace Go.Proofs.YtjiapicknkjhmaaGreatDoor
open Go.ChangeShapes Go.WideShapes Go.ChangeAt Go.RowKit

theorem weights_all {H : Type} {P : Program} {e : TypeId} {d : DataW H} : ∀ {l : List (DataW H)}, d ∈ l → ∀ x, x ∈ d.weights P e → x ∈ DataW.weightsAll P e l
  | [], h, _, _ => by cases h
  | a :: r, h, x, hx => by
    rw [DataW.weightsAll, List.mem_append]
    rcases List.mem_cons.1 h with rfl | h
    · exact .inl hx
    · exact .inr (weights_all h x hx)
set_option maxRecDepth 100000 in
/-- A list of lists of ints that came in: its value, what it reads as, and that no list of it is too great. -/
theorem open_lists2 {H : Type} {enc : TypeId × Value → H} {W : World} {b0 : Nat} {v : Value} {d : DataW H} {ps : List MemPlace} (hval : Value.okWide Tryz.prog W .any b0 25 v)
    (hd : DataW.Trod enc Tryz.prog W 0 (fun _ => true) true 25 v d ps) (h0 : 0 < W.heap.size) : ∃ ls, SlL W v ls ∧ ((d.weights Tryz.prog 25).all (· ≤ reachBytes) = true → ∀ j, j < ls.length → (ls[j]?.getD []).length * 8 ≤ 140737488355328) := by
  obtain ⟨a, len, cap, rfl⟩ := okWide_slice und33L hval
  obtain ⟨fuel, hf⟩ := hd
  rcases Go.Deep.open_int_rows und33L und22 und3 (by kernel_rfl) (by kernel_rfl) hf with ⟨hcs, _⟩ | ⟨x, l, c, A, L, C, Z, hcs, _, hl, hm, heq, hrow⟩
  · simp [Value.cells] at hcs
    obtain ⟨rfl, rfl, rfl⟩ := hcs
    exact ⟨[], ⟨none, 0, 0, 0, rfl, by simp, by simp, h0, Nat.le_refl _, Nat.zero_le _⟩, fun _ j hj => by simp at hj⟩
  · simp [Value.cells] at hcs
    obtain ⟨rfl, rfl, rfl⟩ := hcs
    have hlen : ((List.range len).map fun r => (Z r).take (L r)).length = len := by simp
    refine ⟨(List.range len).map fun r => (Z r).take (L r), ?_, fun hw j hj => ?_⟩
    · by_cases hpos : 0 < len
      · obtain ⟨b, o, spot⟩ := x
        have hspot : spot = none := by simpa [Addr.add] using World.cell?_spot (hrow 0 (by omega)).1
        subst hspot
        have hadd : ∀ r, (⟨b, o, none⟩ : Addr).add r = ⟨b, o + r, none⟩ := fun r => by unfold Addr.add; split <;> simp_all
        refine ⟨some ⟨b, o, none⟩, cap, b, o, by rw [hlen], fun _ => rfl, fun j hj => ?_, ?_, by rw [hlen]; exact hl, hm⟩
        · rw [hlen] at hj
          obtain ⟨h1, h2, h3, h4, _, h6, h7⟩ := hrow j (by omega)
          rw [hadd j] at h1
          refine ⟨_, h1, ?_⟩
          have e1 : ((List.range len).map fun r => (Z r).take (L r))[j]?.getD [] = (Z j).take (L j) := by simp [hj]
          rw [e1]
          exact row_of h0 h2 h3 h4 h6 (fun a' ha c hc => (h7 a' ha).2 c hc)
        · have h1 := (hrow 0 (by omega)).1
          exact World.block_lt_of_cell? W _ h1
      · have : len = 0 := by omega
        subst this
        exact ⟨some x, cap, 0, 0, by simp, by simp, by simp, h0, by simp, hm⟩
    · rw [hlen] at hj
      have e1 : ((List.range len).map fun r => (Z r).take (L r))[j]?.getD [] = (Z j).take (L j) := by simp [hj]
      rw [e1]
      obtain ⟨h1, h2, h3, h4, _, h6, h7⟩ := hrow j (by omega)
      simp only [Prod.mk.injEq] at heq
      cases hA : A j with
      | none =>
        have := h6 hA
        rw [List.length_take]
        omega
      | some a' =>
        have hmem : Go.Deep.intRow (H := H) .i64 (A j) (L j) (Z j) ∈ (List.range len).map fun r => Go.Deep.intRow (H := H) .i64 (A r) (L r) (Z r) := List.mem_map.2 ⟨j, List.mem_range.2 hj, rfl⟩
        have hin : (((Z j).take (L j)).length + ((Z j).drop (L j)).length) * 8 ∈ (Go.Deep.intRow (H := H) .i64 (A j) (L j) (Z j)).weights Tryz.prog 22 := by
          rw [hA]
          show _ ∈ (DataW.slice (lits .i64 ((Z j).take (L j))) (lits .i64 ((Z j).drop (L j)))).weights Tryz.prog 22
          rw [DataW.weights, und22]
          have e8 : Tryz.prog.bytesOf 3 = 8 := by kernel_rfl
          simp [lits, e8]
        have hall : (((Z j).take (L j)).length + ((Z j).drop (L j)).length) * 8 ∈ d.weights Tryz.prog 25 := by
          rw [heq.1, DataW.weights, und33L]
          exact List.mem_cons_of_mem _ (List.mem_append_left _ (weights_all hmem _ hin))
        have hw2 := List.all_eq_true.1 hw _ hall
        simp only [decide_eq_true_eq] at hw2
        unfold reachBytes at hw2
        omega
end Go.Proofs.YtjiapicknkjhmaaGreatDoor

namespace Go.Proofs.YtjiapicknkjhmaaGreatDoor
open Go Go.RowKit

/-- A list of the call's own, read in a later world. -/
theorem own_new {W W8 : World} {B : Nat} {r : Value} {lj : List Int} (h : Row W B r lj) (hB : B ≤ W.heap.size) (hs : W.heap.size < W8.heap.size) (o : Option Nat) (ho : ∀ g, o = some g → g < B ∨ W.heap.size < g)
    (hk : ∀ g, B ≤ g → g < W.heap.size → W8.heap[g]? = W.heap[g]?) : ∃ a cap pb po, r = .slice a lj.length cap ∧ Reads W8 a pb po lj ∧ pb < W8.heap.size ∧ lj.length ≤ cap ∧ cap ≤ maxLen ∧ B ≤ pb ∧ ∀ g, o = some g → pb ≠ g := by
  rcases h.2 with ⟨rfl, hz⟩ | ⟨g, cap, cur, rfl, h1, hh, h2, h3, h4⟩
  · have hz : lj.length = 0 := by simpa using hz
    refine ⟨none, 0, W.heap.size, 0, by rw [hz], ⟨fun h => by omega, fun j hj => by omega⟩, hs, by omega, by unfold maxLen; omega, hB, fun g hg e => ?_⟩
    rcases ho g hg with h | h <;> omega
  · have hgs : g < W.heap.size := (Array.getElem?_eq_some_iff.1 hh).1
    refine ⟨some ⟨g, 0, none⟩, cap, g, 0, rfl, ⟨fun _ => rfl, fun j hj => ?_⟩, by omega, h2, h3, h1, fun g' hg e => ?_⟩
    · have h9 := World.ownsRow.cells h (g := g) rfl j _ (show (lj.map (Value.int .i64))[j]? = some (.int .i64 (lj[j]?.getD 0)) by simp [hj])
      rw [show (⟨g, 0, none⟩ : Addr).add j = ⟨g, 0 + j, none⟩ by unfold Addr.add; split <;> simp_all] at h9
      exact (World.cell?_of_block (a := ⟨g, 0 + j, none⟩) (hk g h1 hgs)).trans h9
    · rcases ho g' hg with h | h <;> omega
set_option maxRecDepth 100000 in
set_option maxHeartbeats 8000000 in
theorem ownLists_any (lv : Value) (ls : List (List Int)) (w : World) (hL : SlL w lv ls) (hl : ls.length ≤ 100) (hb : ∀ j, j < ls.length → (ls[j]?.getD []).length * 8 ≤ 140737488355328) :
    Calls Tryz.prog 8 #[lv] w fun x w' => ∃ r1 r2 r3, x = .returned (.slice r1 r2 r3) ∧ SlL w' (.slice r1 r2 r3) ls ∧ Below w.heap.size w w' := by
  obtain ⟨i0, hi, hz0, hz1, hz2⟩ := info_parts info22b
  obtain ⟨la, lc, lb, lo, rfl, h1, h2, h3, _, _⟩ := id hL
  have HROW := hide (fun j (hj : j < ls.length) => row_at h2 hj)
  have HBY := hide hb
  have HAT := hide h1
  clear h1 h2 hb hL
  go_enter Tryz.func8, Tryz.ntmps8
  go_wp2_with fail
  go_loopw [3, 4] (fun ov iv wr => ∃ (i : Nat) (a : Option Addr) (cp : Nat) (vs : List Value), i ≤ ls.length ∧ iv = .int .i64 i ∧ ov = .slice a vs.length cp ∧ wr.ownsRow w.heap.size 22 1 (.slice a vs.length cp) vs.length vs ∧ Lsts wr w.heap.size (.slice a vs.length cp) vs (ls.take i) ∧ Below w.heap.size w wr) (fun _ iv _ => ls.length - (intOf iv).toNat)
  case atStart => exact ⟨0, none, 0, [], Nat.zero_le _, rfl, rfl, World.ownsRow_nil _ _ _ _, ⟨by simp, fun t x l h1 _ => by simp at h1⟩, Below.refl _ _⟩
  case round =>
    obtain ⟨i, ra, rcap, vs, hiK, rfl, rfl, hrow, hls, hB⟩ := hrel
    have HVL := hide (show vs.length = i by rw [hls.1, List.length_take]; omega)
    have hv61 : vs.length ≤ 100 := by rw [HVL.out]; omega
    by_cases hlt : i < ls.length
    · obtain ⟨q1, q3, hci, sr⟩ := HROW.out i hlt
      obtain rfl := HAT.out (by omega)
      have hci := below_cell hB hci
      have HB9 := hide (own_any _ _ wr (sr.below hB) (HBY.out i hlt))
      have HST := hide (show ls.take (i + 1) = ls.take i ++ [ls[i]?.getD []] by rw [List.take_succ_eq_append_getElem hlt]; simp [hlt])
      generalize ls[i]?.getD [] = lj at *
      generalize ls.take i = lt9 at *
      have hii : (i : Int) < (ls.length : Int) := by omega
      clear sr
      go_wp2_with fail
      clear hci
      refine HB9.out.mono ?_
      rintro x w5 ⟨r9, rfl, hr9, hb5⟩
      have hB5 := bcat2 hB hb5
      have hrow5 := own_keep2 hrow (fun g _ h2 => hb5.block g h2)
      have hls5 : Lsts w5 w.heap.size (.slice ra vs.length rcap) vs lt9 := hls.keep hb5.size (fun g _ h2 _ => hb5.block g h2) (.inl rfl)
      have hown2 : ∀ g, (Value.slice ra vs.length rcap).ownBlock = some g → g < wr.heap.size := fun g hg => (hrow.lt g hg).2
      obtain ⟨qa, qcap, rfl⟩ := own_slice hr9
      have hs5 := hb5.size
      have hs3 := hB.size
      have HQ := hide (show Row w5 wr.heap.size (.slice qa lj.length qcap) lj from hr9)
      clear hrow hls hb5 hr9 hB
      go_wp2_with (first
        | (at_builtin; refine wpList_append_own_at _ rfl _ _ 25 rfl w.heap.size 22 i0 (.slice none 0 0) 1 24 und33L hi hz0 hz1 hz2 rfl (by decide) _ _ _ rfl (World.ownsRow.alloc hrow5 _) ⟨w5.heap.size, 0, none⟩ 1 1 [.slice qa lj.length qcap] rfl rfl ?c1 ?c2 ?c3 ?c4 ?c5 ?_))
      case c1 => exact cell_one_new _ _ _
      case c2 => simp [Value.oneCell']
      case c3 => unfold maxLen; omega
      case c4 => omega
      case c5 => simp; omega
      intro v' w8 hown' hgrow hnil hloc
      obtain ⟨ra', rcap', rfl⟩ := own_slice' hown'
      have hB8 : Below w.heap.size w w8 := (hB5.alloc (by omega) _).grown hgrow (by simp; omega) (fun t e => by have := owns_ge hrow5 t e; omega)
      have hbl : ∀ g, g < w5.heap.size → (Value.slice ra vs.length rcap).ownBlock ≠ some g → w8.heap[g]? = w5.heap[g]? := fun g h1 h2 => (hgrow.block g (by simp; omega) (fun e => h2 e.symm)).trans (Below.block (balloc w5 _) g h1)
      have hs8 : w5.heap.size < w8.heap.size := by have := hgrow.size; simp at this; omega
      have hlo : (Value.slice ra' (vs.length + 1) rcap').ownBlock = (Value.slice ra vs.length rcap).ownBlock ∨ ∀ g, (Value.slice ra' (vs.length + 1) rcap').ownBlock = some g → w5.heap.size < g := by
        rcases hloc with h | h
        · exact .inl h
        · right; intro g hg; rw [h] at hg; simp at hg; omega
      have hlo' : (Value.slice ra' (vs.length + 1) rcap').ownBlock = (Value.slice ra vs.length rcap).ownBlock ∨ ∀ g, (Value.slice ra' (vs.length + 1) rcap').ownBlock = some g → w5.heap.size ≤ g := hlo.imp id (fun h g hg => Nat.le_of_lt (h g hg))
      obtain ⟨a9, c9, pb9, po9, he9, hr9, hp9, hl9, hm9, hg9, hn9⟩ := own_new HQ.out hs5 hs8 (Value.slice ra' (vs.length + 1) rcap').ownBlock (fun g hg => by
        rcases hlo with h | h
        · exact .inl (hown2 g (h ▸ hg))
        · exact .inr (h g hg)) (fun g h1 h2 => hbl g h2 (fun e => by have := hown2 _ e; omega))
      injection he9 with ee1 ee2 ee3
      subst ee1 ee3
      have hls8 := (hls5.keep (r' := .slice ra' (vs.length + 1) rcap') (by omega) (fun g _ h2 h3 => hbl g h2 h3) hlo').snoc (x := .slice qa lj.length qcap) (l := lj) ⟨qa, qcap, pb9, po9, rfl, hr9, hp9, hl9, hm9, by omega, hn9⟩
      have hrow8 : w8.ownsRow w.heap.size 22 1 (.slice ra' (vs ++ [Value.slice qa lj.length qcap]).length rcap') (vs ++ [Value.slice qa lj.length qcap]).length (vs ++ [Value.slice qa lj.length qcap]) := by simpa using hown'
      have hls9 : Lsts w8 w.heap.size (.slice ra' (vs ++ [Value.slice qa lj.length qcap]).length rcap') (vs ++ [Value.slice qa lj.length qcap]) (ls.take (i + 1)) := by
        rw [HST.out]
        simpa using hls8
      clear hown' hgrow hloc hnil hlo hlo' hls8 hls5 hrow5
      go_wp2
      go_roundw
      case rel => exact ⟨i + 1, ra', rcap', _, by omega, by go_num, by simp, hrow8, hls9, hB8⟩
      case measure => simp [intOf]; omega
    · have hii : ¬ (i : Int) < (ls.length : Int) := by omega
      have HE := hide (show ls.take i = ls by rw [show i = ls.length by omega, List.take_length])
      rw [HE.out] at hls
      have hsl := SlL.of_own hrow hls (Nat.lt_of_lt_of_le (Nat.lt_of_le_of_lt (Nat.zero_le _) h3) hB.size)
      go_wp2
      go_ret
      exact ⟨_, _, _, rfl, hsl, hB⟩
end Go.Proofs.YtjiapicknkjhmaaGreatDoor

namespace Go.Proofs
shelf_lay Lays.n189 Nm 189 at Tryz as Tryz.lays189
end Go.Proofs
namespace Go.Proofs.YtjiapicknkjhmaaGreatDoor
open Go Go.RowKit

def srtI (zs : List Int) : List Int := zs.mergeSort fun x y => decide (x ≤ y)
theorem srtI_len (zs : List Int) : (srtI zs).length = zs.length := List.length_mergeSort _
theorem srtI_perm {xs ys : List Int} (h : xs.Perm ys) : srtI xs = srtI ys := by
  have tr : ∀ a b c : Int, decide (a ≤ b) = true → decide (b ≤ c) = true → decide (a ≤ c) = true := fun a b c h1 h2 => by simp at *; omega
  have tot : ∀ a b : Int, (decide (a ≤ b) || decide (b ≤ a)) = true := fun a b => by simp; omega
  refine List.Perm.eq_of_pairwise (le := fun a b => decide (a ≤ b) = true) (fun a b _ _ h1 h2 => by simp at h1 h2; omega) (List.pairwise_mergeSort tr tot xs) (List.pairwise_mergeSort tr tot ys) ?_
  exact ((List.mergeSort_perm xs _).trans h).trans (List.mergeSort_perm ys _).symm
theorem sort_row (B : Nat) (v : Value) (zs : List Int) (w : World) (h : Row w B v zs) (hl : zs.length ≤ 1000) :
    Calls Tryz.prog 25 #[v] w fun e w' => e = .returned (.tuple #[]) ∧ Row w' B v (srtI zs) ∧ w.grownBy w' v.ownBlock := by
  unfold Row at h
  obtain ⟨h1, ⟨rfl, h2⟩ | ⟨g, cap, cur, rfl, h3, h4, h5, h6, h7, h8⟩⟩ := h
  · refine (Any.slices_Sort_int_none Tryz.lays189 none 0 w).mono ?_
    rintro e w' ⟨rfl, rfl⟩
    have hz : zs = [] := List.length_eq_zero_iff.1 h2
    subst hz
    exact ⟨rfl, by rw [show srtI [] = [] by simp [srtI]]; exact nil_row _ _, World.grownBy.refl _ _⟩
  · have hlt : g < w.heap.size := by
      rcases Nat.lt_or_ge g w.heap.size with h9 | h9
      · exact h9
      · rw [Array.getElem?_eq_none h9] at h4; cases h4
    rw [Nat.mul_one] at h8
    refine Calls.mono (Any.slices_Sort_int Tryz.lays189 g 0 cap zs w (holds_of_blockI h4 h8) hlt (by omega)) ?_
    rintro e w' ⟨rfl, n, os, rfl⟩
    refine ⟨rfl, ?_, grownBy_sortedI _⟩
    have h9 := ownsRow_sortedI (n := n) (os := os) (base := B) (cap := cap) (ss := zs) (ts := srtI zs) (srtI_len zs) h3 h4 h5 h6 h7
    unfold Row
    rw [srtI_len]
    exact h9
end Go.Proofs.YtjiapicknkjhmaaGreatDoor

namespace Go.Proofs.YtjiapicknkjhmaaGreatDoor
open Go Go.RowKit

set_option maxRecDepth 100000 in
set_option maxHeartbeats 8000000 in
theorem fac_bad (N : Int) (v : Value) (lv : Value) (w : World) (c i : Int) (hc : c ≠ 0)
    (HCK : Hid (∀ W, Below w.heap.size w W → Calls Tryz.prog 22 #[.agg #[.int .i64 N, v]] W fun x W' => x = .returned (.agg #[.int .i64 c, .int .i64 i]) ∧ Below W.heap.size W W')) :
    Calls Tryz.prog 6 #[.agg #[.int .i64 N, v], lv] w fun x w' => x = .returned (.tuple #[.slice none 0 0, .agg #[.int .i64 c, .int .i64 i]]) ∧ Below w.heap.size w w' := by
  have hcb : (c != 0) = true := by simpa using hc
  obtain ⟨w0, BG⟩ := Beg.new w N v
  obtain ⟨c0, c1, _, _⟩ := BG.box.two
  rw [BG.eq] at c0 c1
  go_enter Tryz.func6, Tryz.ntmps6
  go_wp2_with fail
  rw [← BG.eq]
  refine (HCK.out _ BG.bel).mono ?_
  rintro x w1 ⟨rfl, hb1⟩
  clear c0 c1
  obtain ⟨w2, hw2⟩ : ∃ w2, w2 = w1.alloc (.cells #[.int .i64 c, .int .i64 i] 28) := ⟨_, rfl⟩
  have hB1 : Below w0.heap.size w0 w2 := by rw [hw2]; exact bcat2 hb1 (balloc w1 _)
  have hF1 : Blk w2 w1.heap.size 28 [.int .i64 c, .int .i64 i] := by rw [hw2]; exact blk0 _ _
  have hR1 := blk_below BG.res hB1
  have hBw := bcat BG.bel hB1 BG.bel.size
  obtain ⟨y0, y1, fy0, fy1⟩ := hR1.two
  obtain ⟨t0, t1, _, _⟩ := hF1.two
  rw [hw2] at t0 t1
  go_wp2_with fail
  rw [← hw2]
  rw [← hw2] at t0 t1
  clear hw2
  go_region
  all_goals (
    go_wp2
    obtain ⟨hR6, hB6⟩ := put2 hR1 hBw (by omega) c i
    have hB7 := bdrew hB6
    have hR7 : Blk ((w2.setCell ⟨w.heap.size + 1, 0, none⟩ (.int .i64 c)).setCell ⟨w.heap.size + 1, 1, none⟩ (.int .i64 i)).drew (w.heap.size + 1) 28 [.int .i64 c, .int .i64 i] := hR6
    generalize ((w2.setCell ⟨w.heap.size + 1, 0, none⟩ (.int .i64 c)).setCell ⟨w.heap.size + 1, 1, none⟩ (.int .i64 i)).drew = W at hR7 hB7 ⊢
    obtain ⟨z0, z1, _, _⟩ := hR7.two
    exact bodyPost_ret (v := .tuple #[.slice none 0 0, .agg #[.int .i64 c, .int .i64 i]]) (by simp [results, Tryz.results6, go_sem, z0, z1]) rfl ⟨rfl, hB7⟩)
set_option maxRecDepth 100000 in
set_option maxHeartbeats 8000000 in
theorem fac_chk (N : Int) (v : Value) (lv : Value) (w : World) (c i : Int) (hc : c ≠ 0)
    (HC0 : Hid (∀ W, Below w.heap.size w W → Calls Tryz.prog 22 #[.agg #[.int .i64 N, v]] W fun x W' => x = .returned (.agg #[.int .i64 0, .int .i64 0]) ∧ Below W.heap.size W W'))
    (HCK : Hid (∀ W, Below w.heap.size w W → Calls Tryz.prog 23 #[.agg #[.int .i64 N, v], lv] W fun x W' => x = .returned (.agg #[.int .i64 c, .int .i64 i]) ∧ Below W.heap.size W W')) :
    Calls Tryz.prog 6 #[.agg #[.int .i64 N, v], lv] w fun x w' => x = .returned (.tuple #[.slice none 0 0, .agg #[.int .i64 c, .int .i64 i]]) ∧ Below w.heap.size w w' := by
  have hcb : (c != 0) = true := by simpa using hc
  obtain ⟨w0, BG⟩ := Beg.new w N v
  obtain ⟨c0, c1, _, _⟩ := BG.box.two
  rw [BG.eq] at c0 c1
  go_enter Tryz.func6, Tryz.ntmps6
  go_wp2_with fail
  rw [← BG.eq]
  refine (HC0.out _ BG.bel).mono ?_
  rintro x wa ⟨rfl, hba⟩
  clear c0 c1
  obtain ⟨wb, hwb⟩ : ∃ wb, wb = wa.alloc (.cells #[.int .i64 0, .int .i64 0] 28) := ⟨_, rfl⟩
  have hBb : Below w0.heap.size w0 wb := by rw [hwb]; exact bcat2 hba (balloc wa _)
  have hFb : Blk wb wa.heap.size 28 [.int .i64 0, .int .i64 0] := by rw [hwb]; exact blk0 _ _
  have hXb := blk_below BG.box hBb
  obtain ⟨t0, t1, _, _⟩ := hFb.two
  obtain ⟨c0, c1, _, _⟩ := hXb.two
  rw [hwb] at t0 t1 c0 c1
  go_wp2_with fail
  rw [← hwb]
  clear t0 t1 c0 c1 hwb
  refine (HCK.out _ (bcat2 BG.bel hBb)).mono ?_
  rintro x w1 ⟨rfl, hb0⟩
  have hb1 := bcat2 hBb hb0
  obtain ⟨w2, hw2⟩ : ∃ w2, w2 = w1.alloc (.cells #[.int .i64 c, .int .i64 i] 28) := ⟨_, rfl⟩
  have hB1 : Below w0.heap.size w0 w2 := by rw [hw2]; exact bcat2 hb1 (balloc w1 _)
  have hF1 : Blk w2 w1.heap.size 28 [.int .i64 c, .int .i64 i] := by rw [hw2]; exact blk0 _ _
  have hR1 := blk_below BG.res hB1
  have hBw := bcat BG.bel hB1 BG.bel.size
  obtain ⟨y0, y1, fy0, fy1⟩ := hR1.two
  obtain ⟨t0, t1, _, _⟩ := hF1.two
  rw [hw2] at t0 t1
  go_wp2_with fail
  rw [← hw2]
  rw [← hw2] at t0 t1
  clear hw2
  go_region
  all_goals (
    go_wp2
    obtain ⟨hR6, hB6⟩ := put2 hR1 hBw (by omega) c i
    have hB7 := bdrew hB6
    have hR7 : Blk ((w2.setCell ⟨w.heap.size + 1, 0, none⟩ (.int .i64 c)).setCell ⟨w.heap.size + 1, 1, none⟩ (.int .i64 i)).drew (w.heap.size + 1) 28 [.int .i64 c, .int .i64 i] := hR6
    generalize ((w2.setCell ⟨w.heap.size + 1, 0, none⟩ (.int .i64 c)).setCell ⟨w.heap.size + 1, 1, none⟩ (.int .i64 i)).drew = W at hR7 hB7 ⊢
    obtain ⟨z0, z1, _, _⟩ := hR7.two
    exact bodyPost_ret (v := .tuple #[.slice none 0 0, .agg #[.int .i64 c, .int .i64 i]]) (by simp [results, Tryz.results6, go_sem, z0, z1]) rfl ⟨rfl, hB7⟩)
/-- The quotients of how many things the sets have, up to a place. -/
def qts (ls : List (List Int)) (t : Nat) : List Int := (List.range (t - 1)).map fun k => (((ls[k]?.getD []).length / (ls[k + 1]?.getD []).length : Nat) : Int)
theorem qts_one (ls : List (List Int)) : qts ls 1 = [] := rfl
theorem qts_len (ls : List (List Int)) (t : Nat) : (qts ls t).length = t - 1 := by simp [qts]
theorem qts_up (ls : List (List Int)) {t : Nat} (ht : 1 ≤ t) : qts ls (t + 1) = qts ls t ++ [(((ls[t - 1]?.getD []).length / (ls[t]?.getD []).length : Nat) : Int)] := by
  obtain ⟨k, rfl⟩ : ∃ k, t = k + 1 := ⟨t - 1, by omega⟩
  unfold qts
  simp [List.range_succ]
set_option maxRecDepth 100000 in
set_option maxHeartbeats 8000000 in
theorem fac_go (n : Nat) (v1 : Option Addr) (v2 v3 : Nat) (ls : List (List Int)) (sc : Nat → Int) (lv : Value) (w : World) (hL : SlL w lv ls) (hl1 : 1 ≤ ls.length) (hl2 : ls.length ≤ 10) (hpos : ∀ t, t < ls.length → 1 ≤ (ls[t]?.getD []).length ∧ (ls[t]?.getD []).length ≤ 60)
    (HC0 : Hid (∀ W, Below w.heap.size w W → Calls Tryz.prog 22 #[.agg #[.int .i64 n, .slice v1 v2 v3]] W fun x W' => x = .returned (.agg #[.int .i64 0, .int .i64 0]) ∧ Below W.heap.size W W'))
    (HCK : Hid (∀ W, Below w.heap.size w W → Calls Tryz.prog 23 #[.agg #[.int .i64 n, .slice v1 v2 v3], lv] W fun x W' => x = .returned (.agg #[.int .i64 0, .int .i64 0]) ∧ Below W.heap.size W W'))
    (HST : Hid (∀ W t a b, Below w.heap.size w W → 1 ≤ t → t < ls.length → Sl W a (ls[t - 1]?.getD []) → Sl W b (ls[t]?.getD []) → Calls Tryz.prog 24 #[.agg #[.int .i64 n, .slice v1 v2 v3], a, b] W fun x W' => x = .returned (.int .i64 (sc t)) ∧ Below W.heap.size W W')) :
    Calls Tryz.prog 6 #[.agg #[.int .i64 n, .slice v1 v2 v3], lv] w fun x w' => ∃ y c i, x = .returned (.tuple #[y, .agg #[.int .i64 c, .int .i64 i]]) ∧ ((∃ t : Nat, 1 ≤ t ∧ t < ls.length ∧ (∀ s, 1 ≤ s → s < t → sc s = 0) ∧ sc t ≠ 0 ∧ c = sc t ∧ i = t ∧ y = .slice none 0 0) ∨ ((∀ s, 1 ≤ s → s < ls.length → sc s = 0) ∧ c = 0 ∧ i = 0 ∧ Row w' w.heap.size y (srtI (qts ls ls.length)))) ∧ Below w.heap.size w w' := by
  obtain ⟨i3, hi3, hy0, hy1, hy2⟩ := info_parts info3b
  obtain ⟨w0, BG⟩ := Beg.new w n (.slice v1 v2 v3)
  have hL0 := hL.below BG.bel
  obtain ⟨c0, c1, _, _⟩ := BG.box.two
  obtain ⟨la, lc, lb, lo, rfl, h1, h2, h3, _, _⟩ := id hL
  obtain rfl := h1 (by omega)
  have HROW := hide h2
  have HPOS := hide hpos
  clear h1 h2 hpos
  rw [BG.eq] at c0 c1
  go_enter Tryz.func6, Tryz.ntmps6
  go_wp2_with fail
  rw [← BG.eq]
  refine (HC0.out _ BG.bel).mono ?_
  rintro x wa ⟨rfl, hba⟩
  clear c0 c1
  obtain ⟨wb, hwb⟩ : ∃ wb, wb = wa.alloc (.cells #[.int .i64 0, .int .i64 0] 28) := ⟨_, rfl⟩
  have hBb : Below w0.heap.size w0 wb := by rw [hwb]; exact bcat2 hba (balloc wa _)
  have hFb : Blk wb wa.heap.size 28 [.int .i64 0, .int .i64 0] := by rw [hwb]; exact blk0 _ _
  have hXb := blk_below BG.box hBb
  have hRb := blk_below BG.res hBb
  have hBwb := bcat2 BG.bel hBb
  obtain ⟨t0, t1, _, _⟩ := hFb.two
  obtain ⟨c0, c1, _, _⟩ := hXb.two
  rw [hwb] at t0 t1 c0 c1
  go_wp2_with fail
  rw [← hwb]
  clear t0 t1 c0 c1 hwb hFb hba hBb
  refine (HCK.out _ hBwb).mono ?_
  rintro x wc ⟨rfl, hbc⟩
  obtain ⟨w1, hw1⟩ : ∃ w1, w1 = wc.alloc (.cells #[.int .i64 0, .int .i64 0] 28) := ⟨_, rfl⟩
  have hb1 : Below wb.heap.size wb w1 := by rw [hw1]; exact bcat2 hbc (balloc wc _)
  have hF1 : Blk w1 wc.heap.size 28 [.int .i64 0, .int .i64 0] := by rw [hw1]; exact blk0 _ _
  have hX1 := blk_below hXb hb1
  have hR1 := blk_below hRb hb1
  have hB1 := bcat2 hBwb hb1
  obtain ⟨t0, t1, _, _⟩ := hF1.two
  rw [hw1] at t0 t1
  go_wp2_with fail
  rw [← hw1]
  clear t0 t1 hw1 hF1 hb1 hbc hXb hRb hBwb HC0 HCK BG hL0
  have hw1s : w.heap.size ≤ w1.heap.size := hB1.size
  go_loopw [8, 9] (fun sv iv wr => ∃ (t : Nat) (sa : Option Addr) (sp : Nat), 1 ≤ t ∧ t ≤ ls.length ∧ iv = .int .i64 t ∧ sv = .slice sa (qts ls t).length sp ∧ (∀ s, 1 ≤ s → s < t → sc s = 0) ∧ Row wr w1.heap.size (.slice sa (qts ls t).length sp) (qts ls t) ∧ Below w1.heap.size w1 wr) (fun _ iv _ => ls.length - (intOf iv).toNat)
  case atStart => exact ⟨1, none, 0, Nat.le_refl _, hl1, rfl, by rw [qts_one]; rfl, fun s h1 h2 => by omega, by rw [qts_one]; exact nil_row _ _, Below.refl _ _⟩
  case round =>
    obtain ⟨t, sa, sp, ht1, htl, rfl, rfl, hok, hrow, hb⟩ := hrel
    have HOK := hide hok
    clear hok
    have hBr := bcat2 hB1 hb
    have hXr := blk_below hX1 hb
    have hRr := blk_below hR1 hb
    have hq60 : (qts ls t).length ≤ 10 := by rw [qts_len]; omega
    by_cases hlt : t < ls.length
    · have hti : (t : Int) < (ls.length : Int) := by omega
      have hts : (t : Int) - 1 = ((t - 1 : Nat) : Int) := by omega
      have htj : ((t - 1 : Nat) : Int) < (ls.length : Int) := by omega
      obtain ⟨a1, a3, ca, sa9⟩ := row_at HROW.out (show t - 1 < ls.length by omega)
      obtain ⟨b1, b3, cb, sb9⟩ := row_at HROW.out hlt
      have caw := below_cell hB1 ca
      have cbw := below_cell hB1 cb
      have ca := below_cell hBr ca
      have cb := below_cell hBr cb
      have HSC := hide (fun W (h : Below w1.heap.size w1 W) => HST.out W t _ _ (bcat2 hB1 h) ht1 hlt (sa9.below (bcat2 hB1 h)) (sb9.below (bcat2 hB1 h)))
      obtain ⟨pa1, pa2⟩ := HPOS.out (t - 1) (by omega)
      obtain ⟨pb1, pb2⟩ := HPOS.out t hlt
      have HQ := hide (qts_up ls ht1)
      clear sa9 sb9
      generalize hLa : (ls[t - 1]?.getD []).length = La at *
      generalize hLb : (ls[t]?.getD []).length = Lb at *
      clear hLa hLb
      have hwt : IntKind.i64.wrap ((t : Int) - 1) = ((t - 1 : Nat) : Int) := by rw [IntKind.wrap_i64]; omega
      have hk0 : (0 : Int) ≤ ((t - 1 : Nat) : Int) := by omega
      have HTS := hide hts
      clear hts
      generalize hk : t - 1 = k at *
      have HKK := hide hk
      clear hk
      obtain ⟨c0, c1, _, _⟩ := hXr.two
      obtain ⟨d0, d1, _, _⟩ := hX1.two
      have hS : ∀ W, Below w1.heap.size w1 W → (Below w1.heap.size w1 W ∧ W.cell? ⟨w.heap.size, 0, none⟩ = some (.int .i64 n) ∧ W.cell? ⟨w.heap.size, 1, none⟩ = some (.slice v1 v2 v3) ∧ W.cell? ⟨lb, lo + k, none⟩ = some (.slice a1 La a3) ∧ W.cell? ⟨lb, lo + t, none⟩ = some (.slice b1 Lb b3)) := fun W h => ⟨h, below_cell h d0, below_cell h d1, below_cell h caw, below_cell h cbw⟩
      have hS0 := hS _ (bdrew hb)
      clear caw cbw d0 d1
      go_wp2_with fail
      go_cut [10] (fun s10 wx => s10 = .int .i64 (sc t) ∧ Below wr.heap.size wr wx)
      case first =>
        clear c0 c1 ca cb
        go_region_held3 (fun W => Below w1.heap.size w1 W ∧ W.cell? ⟨w.heap.size, 0, none⟩ = some (.int .i64 n) ∧ W.cell? ⟨w.heap.size, 1, none⟩ = some (.slice v1 v2 v3) ∧ W.cell? ⟨lb, lo + k, none⟩ = some (.slice a1 La a3) ∧ W.cell? ⟨lb, lo + t, none⟩ = some (.slice b1 Lb b3))
          (first | exact hS0 | assumption | exact hS _ (bcat2 (And.left ‹_›) hl5))
          (first | (go_at_call 24; refine (HSC.out _ (And.left ‹_›)).mono ?_; rintro e5 U5 ⟨rfl, hl5⟩))
        all_goals (go_wp2; go_meet)
        all_goals exact ⟨rfl, undA hl5⟩
      case rest =>
        obtain ⟨rfl, hbx⟩ := hcut
        have hb2 := bcat2 hb hbx
        have hrow2 : Row wc w1.heap.size (.slice sa (qts ls t).length sp) (qts ls t) := own_keep2 hrow (fun g _ h2 => hbx.block g h2)
        have hB2 := bcat2 hB1 hb2
        have hR2 := blk_below hR1 hb2
        clear c0 c1 ca cb hS0 hrow
        by_cases hz : sc t = 0
        · have HZ := hide hz
          rw [hz]
          clear hz
          have hS0 := hS _ (bdrew hb2)
          have hdiv : ¬ ((Lb : Int) = 0) := by omega
          have hdiv2 : ¬ Lb = 0 := by omega
          have hq1 : La / Lb ≤ 60 := Nat.le_trans (Nat.div_le_self _ _) pa2
          obtain ⟨q9, hq9⟩ : ∃ q9, La / Lb = q9 := ⟨_, rfl⟩
          have hqq : Int.tdiv (La : Int) (Lb : Int) = (q9 : Int) := by rw [Int.tdiv_eq_ediv_of_nonneg (by omega), ← Int.natCast_ediv, hq9]
          have hqe : (La : Int) / (Lb : Int) = (q9 : Int) := by rw [← Int.natCast_ediv, hq9]
          have hq2 : q9 ≤ 60 := by omega
          have hwq : IntKind.i64.wrap (q9 : Int) = (q9 : Int) := by rw [IntKind.wrap_i64]; omega
          have HQ9 := hide (show qts ls (t + 1) = qts ls t ++ [(q9 : Int)] by rw [HQ.out, hq9])
          clear hq9 hq1
          generalize hlq : qts ls t = lq at *
          clear hlq
          have hown : wc.drew.ownsRow w1.heap.size 3 1 (.slice sa lq.length sp) lq.length (lq.map (Value.int .i64)) := own_keep2 hrow2 (fun _ _ _ => rfl)
          have hbd := bdrew hb2
          have hsz := hb2.size
          go_wp2_with fail
          go_region_held3 (fun W => Below w1.heap.size w1 W ∧ W.cell? ⟨w.heap.size, 0, none⟩ = some (.int .i64 n) ∧ W.cell? ⟨w.heap.size, 1, none⟩ = some (.slice v1 v2 v3) ∧ W.cell? ⟨lb, lo + k, none⟩ = some (.slice a1 La a3) ∧ W.cell? ⟨lb, lo + t, none⟩ = some (.slice b1 Lb b3))
            (first | exact hS0 | assumption | exact hS _ (bcat2 (And.left ‹_›) (balloc _ _)) | exact hS _ hB9)
            (first
              | (refine step_append_lies _ rfl _ _ 22 rfl w1.heap.size 3 i3 (.int .i64 0) 1 8 under22b hi3 hy0 hy1 hy2 rfl (by decide) _ _ _ rfl (World.ownsRow.alloc hown _) ⟨_, 0, none⟩ 1 1 [.int .i64 q9] rfl rfl (cell_one_new _ _ _) (by simp [Value.oneCell']) (by decide) (by unfold maxLen; omega) (by omega) (by simp; omega) _ rfl ?_; intro g9 cap9 w9 hown9 hgrow hloc _; have hB9 : Below w1.heap.size w1 w9 := (hbd.alloc hbd.size _).grown hgrow (by simp; omega) (fun t e9 => owns_ge hown t e9)))
          all_goals (
            have hrow9 : Row w9 w1.heap.size (.slice (some ⟨g9, 0, none⟩) (qts ls (t + 1)).length cap9) (qts ls (t + 1)) := by
              rw [HQ9.out]
              unfold Row
              simpa using hown9
            clear hown9 hgrow hloc hown
            go_wp2
            go_roundw
            case rel => exact ⟨t + 1, some ⟨g9, 0, none⟩, cap9, by omega, by omega, by go_num, by rw [HQ9.out]; simp, fun s h1 h2 => by
              by_cases hst : s < t
              · exact HOK.out s h1 hst
              · rw [show s = t by omega]; exact HZ.out, hrow9, hB9⟩
            case measure => simp [intOf]; omega)
        · have hzb : (sc t != 0) = true := by simpa using hz
          have HZ := hide hz
          clear hz
          obtain ⟨y0, y1, y2, y3⟩ := hR2.two
          obtain ⟨hR6, hB6⟩ := put2 hR2 hB2 (by omega) (sc t) (t : Int)
          obtain ⟨z0, z1, _, _⟩ := hR6.two
          go_wp2
          exact bodyPost_ret (v := .tuple #[.slice none 0 0, .agg #[.int .i64 (sc t), .int .i64 t]]) (by simp [results, Tryz.results6, go_sem, z0, z1]) rfl ⟨_, _, _, rfl, .inl ⟨t, ht1, hlt, HOK.out, HZ.out, rfl, rfl, rfl⟩, hB6⟩
    · have hti : ¬ (t : Int) < (ls.length : Int) := by omega
      have HE := hide (show qts ls t = qts ls ls.length by rw [show t = ls.length by omega])
      have HALL := hide (fun s (h1 : 1 ≤ s) (h2 : s < ls.length) => HOK.out s h1 (by omega))
      rw [HE.out] at hrow ⊢
      have hq : (qts ls ls.length).length ≤ 10 := by rw [qts_len]; omega
      have HSO := hide (sort_row w1.heap.size _ (qts ls ls.length) wr hrow (by omega))
      obtain ⟨lq, hlq⟩ : ∃ lq, lq = qts ls ls.length := ⟨_, rfl⟩
      rw [← hlq] at hrow HSO ⊢
      have HLQ := hide hlq
      clear hq60 hq hlq
      go_wp2_with fail
      refine HSO.out.mono ?_
      rintro x w9 ⟨rfl, hrow9, hgr⟩
      have hB9 : Below w1.heap.size w1 w9 := hb.grown hgr hb.size (fun t e9 => owns_ge hrow t e9)
      have hR9 := blk_below hR1 hB9
      have hBw := bcat2 hB1 hB9
      obtain ⟨y0, y1, y2, y3⟩ := hR9.two
      have hst := store_same y0 y1
      have hrw : Row w9 w.heap.size (.slice sa lq.length sp) (srtI lq) := own_le hrow9 hw1s
      go_wp2
      exact bodyPost_ret (v := .tuple #[.slice sa lq.length sp, .agg #[.int .i64 0, .int .i64 0]]) (by simp [results, Tryz.results6, go_sem, y0, y1]) rfl ⟨_, _, _, rfl, .inr ⟨HALL.out, rfl, rfl, by rw [← HLQ.out]; exact hrw⟩, hBw⟩
end Go.Proofs.YtjiapicknkjhmaaGreatDoor

namespace Go.Proofs.YtjiapicknkjhmaaGreatDoor
open Go Go.RowKit

set_option maxRecDepth 100000 in
set_option maxHeartbeats 4000000 in
theorem greatest_ok (n e : Nat) (v u : Value) (zs : List Int) (s : Nat → Bool) (w : World) (hG : GA w n v e u zs) (hT : Tab w) (hse : s e = true) :
    Calls Tryz.prog 70 #[.agg #[.int .i64 n, v, .int .i64 e, u], .int .u64 (bs s n)] w fun x w' => x = .returned (.int .u64 (bs (grt n zs e s) n)) ∧ Below w.heap.size w w' := by
  have hn := hG.le
  have hen := hG.grp.elt
  have HGR := hide hG.grp
  have hB0 : Below w.heap.size w (w.alloc (.cells #[.int .i64 n, v, .int .i64 e, u] 66)) := balloc w _
  have hX0 : Blk (w.alloc (.cells #[.int .i64 n, v, .int .i64 e, u] 66)) w.heap.size 66 [.int .i64 n, v, .int .i64 e, u] := blk4 _ _ _ _
  have HCL := hide (fun W (q : Nat → Bool) (h : Below w.heap.size w W) => kclo_ok n v u zs e q s (clb n zs e q s) W (hG.below h) (hT.below h) (clb_iff n zs e q s))
  have HLI := hide (fun W (q : Nat → Bool) (h : Below w.heap.size w W) => list_ok n q W hn (hT.below h))
  have HO1 := hide (fun (W : World) (g k : Nat) (hlt : k < n) (hc : W.cell? ⟨g, 0, none⟩ = some (.int .i64 k)) => of_one n g k W hn hlt hc)
  have HAN := hide (fun q : Nat → Bool => andn_bs s q hn)
  have HFIN : Hid (grw n zs e s 60 (fun a => decide (a = e)) = grt n zs e s) := hide rfl
  have HLE := hide (fun (q : Nat → Bool) (a : Nat) (ha : a < n) (hq : ¬ q a = true) => plus_less (q := q) hG.grp hse ha hq)
  have HCN := hide (fun q : Nat → Bool => Pop.cnt_bs q hn)
  obtain ⟨_, c0, c1, c2, c3, _⟩ := Four.mk' hX0
  have HOF := hide (of_one n (w.heap.size + 1) e ((w.alloc (.cells #[.int .i64 n, v, .int .i64 e, u] 66)).alloc (.cells #[.int .i64 e] 3)) hn hen (by have := cell1 (w.alloc (.cells #[.int .i64 n, v, .int .i64 e, u] 66)) (.int .i64 e) 3; rwa [World.size_alloc] at this))
  obtain ⟨R, hR⟩ : ∃ R, R = grt n zs e s := ⟨_, rfl⟩
  rw [← hR] at HFIN ⊢
  clear hR
  go_enter Tryz.func70, Tryz.ntmps70
  go_wp2_with fail
  go_step3
  go_wp2_with fail
  refine HOF.out.mono ?_
  rintro e1 w1 ⟨rfl, rfl⟩
  have hB1 := bcat2 hB0 (balloc _ (.cells #[.int .i64 e] 3))
  have hX1 := blk_below hX0 (balloc _ (.cells #[.int .i64 e] 3))
  clear c0 c1 c2 c3 hX0 hB0 HOF
  generalize (w.alloc (.cells #[.int .i64 n, v, .int .i64 e, u] 66)).alloc (.cells #[.int .i64 e] 3) = w1 at *
  go_wp2_with fail
  go_step3
  go_wp2_with fail
  go_loopw [5] (fun sv wr => ∃ (q : Nat → Bool) (k : Nat), sv = .int .u64 (bs q n) ∧ Hid (grw n zs e s k q = R) ∧ n < (lst n q).length + k ∧ Blk wr w.heap.size 66 [.int .i64 n, v, .int .i64 e, u] ∧ Below w.heap.size w wr) (fun sv _ => 60 - Pop.cnt (intOf sv).toNat)
  case atStart => exact ⟨_, 60, rfl, HFIN, by rw [one_lst hen]; simp; omega, hX1, hB1⟩
  case round =>
    clear hX1 hB1 HFIN
    obtain ⟨q, k, rfl, HF, hk, hX, hB⟩ := hrel
    have hql := lst_len n q
    obtain ⟨kk, rfl⟩ : ∃ kk, k = kk + 1 := ⟨k - 1, by omega⟩
    have HK := hide hk
    clear hk
    obtain ⟨xs, hxs⟩ : ∃ xs, xs = lst n fun a => s a && !q a := ⟨_, rfl⟩
    have HUN : Hid ((match xs.find? (fun a => decide (bs (clb n zs e (plus q a) s) n ≠ bs s n)) with | none => q | some a => grw n zs e s kk (clb n zs e (plus q a) s)) = R) := hide (by rw [← HF.out, hxs]; rfl)
    have HXM := hide (fun x (h : x ∈ xs) => (show x < n ∧ s x = true ∧ ¬ q x = true by
      rw [hxs] at h
      obtain ⟨h1, h2⟩ := mem_lst.1 h
      rw [Bool.and_eq_true] at h2
      exact ⟨h1, h2.1, by have := h2.2; simpa using this⟩))
    have hxl : xs.length ≤ 60 := by rw [hxs]; exact Nat.le_trans (lst_len _ _) hn
    have HLX := hide (HLI.out wr (fun a => s a && !q a) hB)
    rw [← hxs] at HLX
    have han := HAN.out q
    clear hxs HF
    generalize bs (fun a => s a && !q a) n = D9 at *
    go_wp2_with fail
    refine HLX.out.mono ?_
    rintro x w2 ⟨r, rfl, hr, hb2⟩
    have hr := hr.sl
    obtain ⟨ra, rc, rb, ro, rfl, hrd, hrp, _, _⟩ := hr
    rw [li_len]
    have HRD := hide hrd
    have hX2 := blk_below hX hb2
    have hB2 := bcat2 hB hb2
    have HLL := hide (li_len xs)
    clear hrd hX hB hb2 han HLX
    go_wp2_with fail
    go_loopw [5, 18] (fun sv iv wr => ∃ j : Nat, j ≤ xs.length ∧ iv = .int .i64 j ∧ sv = .int .u64 (bs q n) ∧ (∀ a, a ∈ xs.take j → bs (clb n zs e (plus q a) s) n = bs s n) ∧ Below w2.heap.size w2 wr) (fun _ iv _ => xs.length - (intOf iv).toNat)
    case atStart => exact ⟨0, Nat.zero_le _, rfl, rfl, fun a h => by simp at h, Below.refl _ _⟩
    case round =>
      obtain ⟨j, hj, rfl, rfl, hno, hb⟩ := hrel
      have HN := hide hno
      clear hno
      have hXr := blk_below hX2 hb
      have hBr := bcat2 hB2 hb
      by_cases hlt : j < xs.length
      · have hji : (j : Int) < (xs.length : Int) := by omega
        have hcj := (HRD.out.below hb hrp).cell j (by rw [HLL.out]; exact hlt)
        rw [li_get hlt] at hcj
        obtain rfl := HRD.out.at_ (by rw [HLL.out]; omega)
        obtain ⟨x, hxe⟩ : ∃ x, xs[j] = x := ⟨_, rfl⟩
        have hxm : x ∈ xs := by rw [← hxe]; exact List.getElem_mem hlt
        have HTK := hide (show xs.take (j + 1) = xs.take j ++ [x] by rw [List.take_succ_eq_append_getElem hlt, hxe])
        have HFS := hide (fun h : bs (clb n zs e (plus q x) s) n ≠ bs s n => (show xs.find? (fun a => decide (bs (clb n zs e (plus q a) s) n ≠ bs s n)) = some x by
          rw [List.find?_eq_some_iff_getElem]
          refine ⟨by simpa using h, j, hlt, hxe, fun i hi => ?_⟩
          have h1 := HN.out xs[i] (by rw [List.mem_take_iff_getElem]; exact ⟨i, by omega, rfl⟩)
          simp [h1]))
        rw [hxe] at hcj
        obtain ⟨hxn, hxs, hxq⟩ := HXM.out x hxm
        have HXQ := hide hxq
        clear hxe hxm hxq
        have HLT := hide (HLE.out q x hxn HXQ.out)
        have HC1 := hide (HCN.out q)
        obtain ⟨_, c0, c1, c2, c3, _⟩ := Four.mk' hXr
        have HMX := hide (fun W (h : Below w.heap.size w W) => HCL.out W (plus q x) h)
        have hor : Go.bits BinOp.or IntKind.u64 (bs q n : Int) (bs (fun a => decide (a = x)) n : Int) = (bs (plus q x) n : Int) := or_bs _ _ hn
        have HO1 := hide (fun (W : World) (g : Nat) (hc : W.cell? ⟨g, 0, none⟩ = some (.int .i64 x)) => HO1.out W g x hxn hc)
        have hS : ∀ W, Below wr.heap.size wr W → ((fun W9 => Below wr.heap.size wr W9 ∧ W9.cell? ⟨w.heap.size, 0, none⟩ = some (.int .i64 n) ∧ W9.cell? ⟨w.heap.size, 1, none⟩ = some v ∧ W9.cell? ⟨w.heap.size, 2, none⟩ = some (.int .i64 e) ∧ W9.cell? ⟨w.heap.size, 3, none⟩ = some u) W) := fun W h => ⟨h, below_cell h c0, below_cell h c1, below_cell h c2, below_cell h c3⟩
        have hS0 := hS _ (bdrew (Below.refl _ wr))
        obtain ⟨Y, hY⟩ : ∃ Y, Y = clb n zs e (plus q x) s := ⟨_, rfl⟩
        rw [← hY] at HMX HFS HLT
        have HY := hide hY
        clear hY
        generalize bs (plus q x) n = Q9 at *
        generalize bs (fun a => decide (a = x)) n = Q2 at *
        go_wp2_with fail
        clear c0 c1 c2 c3
        have hBc : Below wr.heap.size wr wr.drew := bdrew (Below.refl _ wr)
        refine wp_region_held_drew (S := (fun W9 => Below wr.heap.size wr W9 ∧ W9.cell? ⟨w.heap.size, 0, none⟩ = some (.int .i64 n) ∧ W9.cell? ⟨w.heap.size, 1, none⟩ = some v ∧ W9.cell? ⟨w.heap.size, 2, none⟩ = some (.int .i64 e) ∧ W9.cell? ⟨w.heap.size, 3, none⟩ = some u)) (by kernel_rfl) hS0 (fun hHeld => ?_)
        refine wpAnyH_take (i := 0) (oi := ({ dst := some 22, op := Go.Op.load 66 (Go.Operand.tmp 2), type := 66, pos := _, after := #[], guard := none } : Oper)) (v := ?_) rfl (by kernel_rfl) (by kernel_rfl) (by kernel_rfl) (fun _ _ _ h => h) (Or.inl ⟨by rfl, ?_⟩) (by assumption) ?_
        rotate_left
        · (intro w hSw; (try dsimp only at hSw); go_simp; try with_reducible rfl)
        simp only [Act.put, List.setIfInBounds_toArray, List.set_cons_zero, List.set_cons_succ]
        refine wpAnyH_take (i := 1) (oi := ({ dst := some 23, op := Go.Op.move (Go.Operand.tmp 5), type := 68, pos := _, after := #[], guard := none } : Oper)) (v := ?_) rfl (by kernel_rfl) (by kernel_rfl) (by kernel_rfl) (fun _ _ _ h => h) (Or.inl ⟨by rfl, ?_⟩) (by assumption) ?_
        rotate_left
        · (intro w hSw; (try dsimp only at hSw); go_simp; try with_reducible rfl)
        simp only [Act.put, List.setIfInBounds_toArray, List.set_cons_zero, List.set_cons_succ]
        refine wpAnyH_take (i := 2) (oi := ({ dst := some 24, op := Go.Op.move (Go.Operand.tmp 7), type := 3, pos := _, after := #[], guard := none } : Oper)) (v := ?_) rfl (by kernel_rfl) (by kernel_rfl) (by kernel_rfl) (fun _ _ _ h => h) (Or.inl ⟨by rfl, ?_⟩) (by assumption) ?_
        rotate_left
        · (intro w hSw; (try dsimp only at hSw); go_simp; try with_reducible rfl)
        simp only [Act.put, List.setIfInBounds_toArray, List.set_cons_zero, List.set_cons_succ]
        refine wpAnyH_take (i := 6) (oi := ({ dst := some 28, op := Go.Op.move (Go.Operand.tmp 1), type := 68, pos := _, after := #[], guard := none } : Oper)) (v := ?_) rfl (by kernel_rfl) (by kernel_rfl) (by kernel_rfl) (fun _ _ _ h => h) (Or.inl ⟨by rfl, ?_⟩) (by assumption) ?_
        rotate_left
        · (intro w hSw; (try dsimp only at hSw); go_simp; try with_reducible rfl)
        simp only [Act.put, List.setIfInBounds_toArray, List.set_cons_zero, List.set_cons_succ]
        refine wpAnyH_ready (rs := [3]) (by kernel_rfl) (by simp) (AllReadyH.cons (o := ({ dst := some 25, op := Go.Op.buildSlice 22 1 #[(0, Go.Operand.tmp 24)], type := 22, pos := _, after := #[{ on := 2, ground := Go.Ground.data }], guard := none } : Oper)) rfl (fun KK hK => ?_) AllReadyH.nil)
        go_simp
        have hBd := bcat2 hBc (balloc _ (.cells #[.int .i64 (x : Int)] 3))
        refine hK.out _ _ (hS _ hBd) (fun hHeld => ?_)
        clear hK
        try simp only [Act.put, List.setIfInBounds_toArray, List.set_cons_zero, List.set_cons_succ]
        refine wpAnyH_ready (rs := [4]) (by kernel_rfl) (by simp) (AllReadyH.cons (o := ({ dst := some 26, op := Go.Op.call { callee := Go.Callee.value (Go.Operand.func 58), args := #[Go.Operand.tmp 25], argTypes := #[22] }, type := 68, pos := _, after := #[{ on := 3, ground := Go.Ground.data }], guard := none } : Oper)) rfl (fun KK hK => ?_) AllReadyH.nil)
        go_simp
        refine (HO1.out _ _ (by simp)).mono ?_
        rintro e6 U2 ⟨rfl, rfl⟩
        try go_wp2_with fail
        refine hK.out _ _ (hS _ hBd) (fun hHeld => ?_)
        clear hK
        try simp only [Act.put, List.setIfInBounds_toArray, List.set_cons_zero, List.set_cons_succ]
        refine wpAnyH_take (i := 5) (oi := ({ dst := some 27, op := Go.Op.binOp Go.BinOp.or 68 (Go.Operand.tmp 23) (Go.Operand.tmp 26) 68, type := 68, pos := _, after := #[{ on := 1, ground := Go.Ground.data }, { on := 4, ground := Go.Ground.data }], guard := none } : Oper)) (v := ?_) rfl (by kernel_rfl) (by kernel_rfl) (by kernel_rfl) (fun _ _ _ h => h) (Or.inl ⟨by rfl, ?_⟩) (by assumption) ?_
        rotate_left
        · (intro w hSw; (try dsimp only at hSw); go_simp; try with_reducible rfl)
        simp only [Act.put, List.setIfInBounds_toArray, List.set_cons_zero, List.set_cons_succ]
        refine wpAnyH_ready (rs := [7]) (by kernel_rfl) (by simp) (AllReadyH.cons (o := ({ dst := some 29, op := Go.Op.call { callee := Go.Callee.value (Go.Operand.func 42), args := #[Go.Operand.tmp 22, Go.Operand.tmp 27, Go.Operand.tmp 28], argTypes := #[66, 68, 68] }, type := 68, pos := _, after := #[{ on := 0, ground := Go.Ground.data }, { on := 5, ground := Go.Ground.data }, { on := 6, ground := Go.Ground.data }, { on := 4, ground := Go.Ground.chain }], guard := none } : Oper)) rfl (fun KK hK => ?_) AllReadyH.nil)
        go_simp
        refine (HMX.out _ (bcat2 hBr hBd)).mono ?_
        rintro e7 U3 ⟨rfl, hl3⟩
        try go_wp2_with fail
        have hBe := bcat2 hBd hl3
        refine hK.out _ _ (hS _ hBe) (fun hHeld => ?_)
        clear hK
        try simp only [Act.put, List.setIfInBounds_toArray, List.set_cons_zero, List.set_cons_succ]
        refine wpAnyH_take (i := 8) (oi := ({ dst := some 8, op := Go.Op.assign (Go.Operand.tmp 29), type := 68, pos := _, after := #[{ on := 7, ground := Go.Ground.data }, { on := 7, ground := Go.Ground.chain }, { on := 0, ground := Go.Ground.phase }, { on := 1, ground := Go.Ground.phase }, { on := 2, ground := Go.Ground.phase }, { on := 3, ground := Go.Ground.phase }, { on := 4, ground := Go.Ground.phase }, { on := 5, ground := Go.Ground.phase }, { on := 6, ground := Go.Ground.phase }, { on := 7, ground := Go.Ground.phase }], guard := none } : Oper)) (v := ?_) rfl (by kernel_rfl) (by kernel_rfl) (by kernel_rfl) (fun _ _ _ h => h) (Or.inl ⟨by rfl, ?_⟩) (by assumption) ?_
        rotate_left
        · (intro w hSw; (try dsimp only at hSw); go_simp; try with_reducible rfl)
        simp only [Act.put, List.setIfInBounds_toArray, List.set_cons_zero, List.set_cons_succ]
        refine wpAnyH_done (by kernel_rfl) ?_ _
        clear hHeld hS hS0 hor
        have hXe := blk_below hXr hBe
        have hBf := bcat2 hBr hBe
        have hbf := bcat2 hb hBe
        by_cases hrs : bs Y n = bs s n
        · have HRS := hide hrs
          rw [hrs]
          clear hrs
          go_wp2
          go_roundw
          case rel => exact ⟨j + 1, by omega, by go_num, rfl, fun a ha => by
            rw [HTK.out, List.mem_append, List.mem_singleton] at ha
            rcases ha with ha | rfl
            · exact HN.out a ha
            · rw [← HY.out]; exact HRS.out, hbf⟩
          case measure => simp [intOf]; omega
        · have hne : ((bs Y n : Int) != (bs s n : Int)) = true := by
            have : ¬ (bs Y n : Int) = (bs s n : Int) := by omega
            simpa using this
          have HRES : Hid (grw n zs e s kk Y = R) := hide (by
            have h1 := HUN.out
            rw [HFS.out hrs] at h1
            rw [HY.out]
            exact h1)
          have hln := lst_len n Y
          have hkk := HK.out
          have hlt2 := HLT.out
          have hc1 := HC1.out
          have hc2 := HCN.out Y
          go_wp2
          go_roundw
          case rel => exact ⟨Y, kk, rfl, HRES, by omega, hXe, hBf⟩
          case measure => simp [intOf]; omega
      · have hji : ¬ (j : Int) < (xs.length : Int) := by omega
        have HE := hide (show q = R by
          have h1 := HUN.out
          rw [show xs.find? (fun a => decide (bs (clb n zs e (plus q a) s) n ≠ bs s n)) = none by
            rw [List.find?_eq_none]
            intro a ha
            have h2 := HN.out a (by rw [show j = xs.length by omega, List.take_length]; exact ha)
            simp [h2]] at h1
          exact h1)
        rw [HE.out]
        go_wp2
        go_ret
        exact ⟨rfl, hBr⟩
end Go.Proofs.YtjiapicknkjhmaaGreatDoor
