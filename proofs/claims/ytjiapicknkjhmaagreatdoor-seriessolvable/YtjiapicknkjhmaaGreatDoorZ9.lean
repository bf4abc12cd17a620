/- Package quot's Quotient. Condition: the library's table of places lies as its text lays it. Package quot's Simple. Condition: the library's table of places lies as its text lays it. Greatest normal subgroups of a part and of a quotient, as mathematics: they go over into those of the whole; a quotient is simple just where what it is made by is a greatest one. No condition. What is nilpotent: a subgroup that is not all is less than its normaliser, and each normal subgroup of more than the one has something of the centre. No condition. The law SylowFrattini: its closure, and what it answers at what is wrong. Condition: the library's table of places lies as its text lays it. Package series' checkedStep: what is wrong with a subgroup as the one behind another one; its walks, what it calls as premises. Package series' checkedStep: what is wrong with a subgroup as the one behind another one; its walks, what it calls as premises. Package series' checkedStep: the code that it answers of two subgroups. Condition: the library's table of places lies as its text lays it. Package series' checked: what is wrong with the sets of a series, each by itself. Condition: the library's table of places lies as its text lays it. -/
import Derived.Test.YtjiapicknkjhmaaGreatDoorZ8
import Derived.BigQuiet
import Derived.Deep.AppendLies
import Derived.Deep.DeepCutAuto
import Derived.Deep.RegionLaw
import Derived.Laws.EntriesVeiled
import Derived.Maps.AppendAt
import Derived.Maps.Ext
import Derived.Maps.OwnOps
import Derived.Maps.OwnSet
import Derived.Test.YtjiapicknkjhmaaGreatDoorZ7
import Derived.Test.YtjiapicknkjhmaaGreatDoorZ6
namespace Go.Proofs.YtjiapicknkjhmaaGreatDoor
open Go Go.RowKit Go.Maps

set_option maxRecDepth 100000 in
set_option maxHeartbeats 4000000 in
theorem quo_bad (N : Int) (v u : Value) (zs l : List Int) (w : World) (hv : Sl w v zs) (hu : Sl w u l) (hT : Tab w) (hc : (ufault N zs l).1 ≠ 0) :
    Calls Tryz.prog 18 #[.agg #[.int .i64 N, v], u] w fun x w' => x = .returned (.tuple #[.agg #[.int .i64 0, .slice none 0 0], .slice none 0 0, .agg #[.int .i64 (ufault N zs l).1, .int .i64 (ufault N zs l).2]]) ∧ Below w.heap.size w w' := by
  obtain ⟨w0, BG⟩ := BegQ.new w N v
  have HN := hide (nrm_bad N v u zs l w0 (hv.below BG.bel) (hu.below BG.bel) (hT.below BG.bel) hc)
  obtain ⟨c0, c1, _, _⟩ := BG.box.two
  obtain ⟨c, i, hci⟩ : ∃ c i, ufault N zs l = (c, i) := ⟨_, _, rfl⟩
  rw [hci] at HN hc ⊢
  simp only at HN hc ⊢
  clear hci
  have hcb : (c != 0) = true := by simpa using hc
  rw [BG.eq] at c0 c1
  go_enter Tryz.func18, Tryz.ntmps18
  go_wp2_with fail
  rw [← BG.eq]
  clear c0 c1
  refine HN.out.mono ?_
  rintro x w1 ⟨rfl, hb1⟩
  have hb2 := bcat2 hb1 (balloc w1 (.cells #[.int .i64 c, .int .i64 i] 28))
  have hF2 := blk0 (w := w1) (T := 28) (.int .i64 c) (.int .i64 i)
  have hBw := bcat BG.bel hb2 BG.bel.size
  have hG2 := blk_below BG.grp hb2
  have hR2 := blk_below BG.res hb2
  obtain ⟨t0, t1, _, _⟩ := hF2.two
  obtain ⟨y0, y1, fy0, fy1⟩ := hR2.two
  obtain ⟨g0, g1, fg0, fg1⟩ := hG2.two
  obtain ⟨s0, s1⟩ := hG2.self
  obtain ⟨hR6, hB6⟩ := put2 hR2 hBw (by omega) c i
  have hG6 := (hG2.other (p := ⟨w.heap.size + 1 + 1, 0, none⟩) (by simp) (.int .i64 c)).other (p := ⟨w.heap.size + 1 + 1, 1, none⟩) (by simp) (.int .i64 i)
  obtain ⟨g2, g3, fg2, fg3⟩ := hG6.two
  obtain ⟨s2, s3⟩ := hG6.self
  go_wp2_with fail
  go_region
  all_goals (
    go_wp2
    obtain ⟨z0, z1, _, _⟩ := hR6.two
    exact bodyPost_ret (v := .tuple #[.agg #[.int .i64 0, .slice none 0 0], .slice none 0 0, .agg #[.int .i64 c, .int .i64 i]]) (by simp [results, Tryz.results18, go_sem, z0, z1, g2, g3]) rfl ⟨rfl, bdrew hB6⟩)
set_option maxRecDepth 100000 in
set_option maxHeartbeats 4000000 in
theorem quo_odd (n e : Nat) (v u : Value) (zs l : List Int) (w : World) (hv : Sl w v zs) (hg : IsGrp n zs e) (hu : Sl w u l) (hT : Tab w) (hl : lfault n l = (0, 0)) (hsb : subT n zs e (pset l) = true) (hN : nrmq n zs e (pset l) = false) :
    Calls Tryz.prog 18 #[.agg #[.int .i64 n, v], u] w fun x w' => x = .returned (.tuple #[.agg #[.int .i64 0, .slice none 0 0], .slice none 0 0, .agg #[.int .i64 4, .int .i64 0]]) ∧ Below w.heap.size w w' := by
  obtain ⟨w0, BG⟩ := BegQ.new w n v
  have HN := hide (nrm_good n e v u zs l w0 (hv.below BG.bel) hg (hu.below BG.bel) (hT.below BG.bel) hl hsb)
  rw [hN] at HN
  obtain ⟨c0, c1, _, _⟩ := BG.box.two
  rw [BG.eq] at c0 c1
  go_enter Tryz.func18, Tryz.ntmps18
  go_wp2_with fail
  rw [← BG.eq]
  clear c0 c1
  refine HN.out.mono ?_
  rintro x w1 ⟨rfl, hb1⟩
  have hb2 := bcat2 hb1 (balloc w1 (.cells #[.int .i64 0, .int .i64 0] 28))
  have hF2 := blk0 (w := w1) (T := 28) (.int .i64 0) (.int .i64 0)
  have hBw := bcat BG.bel hb2 BG.bel.size
  have hG2 := blk_below BG.grp hb2
  have hR2 := blk_below BG.res hb2
  obtain ⟨t0, t1, _, _⟩ := hF2.two
  obtain ⟨y0, y1, fy0, fy1⟩ := hR2.two
  obtain ⟨g0, g1, fg0, fg1⟩ := hG2.two
  obtain ⟨s0, s1⟩ := hG2.self
  obtain ⟨hR6, hB6⟩ := put2 hR2 hBw (by omega) 4 0
  have hG6 := (hG2.other (p := ⟨w.heap.size + 1 + 1, 0, none⟩) (by simp) (.int .i64 4)).other (p := ⟨w.heap.size + 1 + 1, 1, none⟩) (by simp) (.int .i64 0)
  obtain ⟨g2, g3, fg2, fg3⟩ := hG6.two
  go_wp2
  obtain ⟨z0, z1, _, _⟩ := hR6.two
  exact bodyPost_ret (v := .tuple #[.agg #[.int .i64 0, .slice none 0 0], .slice none 0 0, .agg #[.int .i64 4, .int .i64 0]]) (by simp [results, Tryz.results18, go_sem, z0, z1, g2, g3]) rfl ⟨rfl, hB6⟩
set_option maxRecDepth 100000 in
set_option maxHeartbeats 8000000 in
theorem quo_good (n e : Nat) (v u : Value) (zs l : List Int) (w : World) (hv : Sl w v zs) (hg : IsGrp n zs e) (hu : Sl w u l) (hT : Tab w) (hl : lfault n l = (0, 0)) (hsb : subT n zs e (pset l) = true) (hN : nrmq n zs e (pset l) = true) :
    Calls Tryz.prog 18 #[.agg #[.int .i64 n, v], u] w fun x w' => ∃ r1 r2 r3 s1 s2 s3, x = .returned (.tuple #[.agg #[.int .i64 (fsts n (rgtq n zs (lst n (pset l))) n).length, .slice r1 r2 r3], .slice s1 s2 s3, .agg #[.int .i64 0, .int .i64 0]]) ∧ Sl w' (.slice r1 r2 r3) (mkT (fsts n (rgtq n zs (lst n (pset l))) n).length (quoF n zs (rgtq n zs (lst n (pset l))))) ∧ Sl w' (.slice s1 s2 s3) (ontoL n (rgtq n zs (lst n (pset l)))) ∧ Below w.heap.size w w' := by
  obtain ⟨i0, hi, hz0, hz1, hz2⟩ := info_parts info3b
  have hn := hg.tab.le
  have PP := rgt_parts hg hsb
  obtain ⟨w0, BG⟩ := BegQ.new w n v
  have HN := hide (nrm_good n e v u zs l w0 (hv.below BG.bel) hg (hu.below BG.bel) (hT.below BG.bel) hl hsb)
  rw [hN] at HN
  have HRG := hide (fun W (h : Below w.heap.size w W) => lists_sl (Nat.lt_of_lt_of_le hT.lt h.size) (rgt_good n e v u zs l W (hv.below h) hg (hu.below h) (hT.below h) hl hsb))
  obtain ⟨f, hf⟩ : ∃ f, f = rgtq n zs (lst n (pset l)) := ⟨_, rfl⟩
  rw [← hf] at HRG PP ⊢
  clear hf
  obtain ⟨K, hK⟩ : ∃ K, K = (fsts n f n).length := ⟨_, rfl⟩
  have hK6 : K ≤ 60 := by rw [hK]; exact Nat.le_trans (fsts_len n f n) hn
  have HCL := hide (show (csl n f n).length = K by rw [csl_len, hK])
  have HNUM := hide (fun W v9 (h : SlL W v9 (csl n f n)) => numbers_ok v9 (csl n f n) W h (by rw [HCL.out]; exact hK6) (fun t _ => Nat.le_trans (csl_len_le t) hn) (fun t a ha => by
    obtain ⟨b, hb, rfl, _⟩ := (csl_at PP t a).1 ha
    omega) (fun s t a h1 h2 => by
    obtain ⟨b, hb, rfl, h3⟩ := (csl_at PP s a).1 h1
    obtain ⟨b', hb', he, h4⟩ := (csl_at PP t _).1 h2
    have : b = b' := by omega
    subst this
    omega))
  have HNL := hide (fun a (ha : a < n) => (prts_num_lt PP ha).1)
  rw [← hK] at HNL
  have HAT := hide (fun (D : DataW Unit) (h : MLs (csl n f n) (csl n f n).length 0 D) a (ha : a < n) => h.old (num n f a) (by rw [csl_len]; exact (prts_num_lt PP ha).1) a ((csl_at PP _ _).2 ⟨a, ha, rfl, rfl⟩))
  have HGR := hide (fun W lv mb c (D : DataW Unit) (h : Below w.heap.size w W) (hL : SlL W lv (csl n f n)) (hm : W.ownsMap Tryz.prog 3 (plainElem Tryz.prog 3) mb c D) (hM : MLs (csl n f n) (csl n f n).length 0 D) =>
    group_ok n K v lv zs (csl n f n) (fun i => (fsts n f n)[i]?.getD 0) (quoF n zs f) mb c D W hg.tab (hv.below h) hL HCL.out hK6 (fun i hi => by
      rw [hK] at hi
      obtain ⟨s, hs⟩ := csl_head PP hi
      exact ⟨s, hs, by rw [List.getElem?_eq_getElem hi]; exact fst_lt hi⟩) hm (fun i j hi hj => by
      rw [hK] at hi hj
      have h1 := fst_lt hi
      have h2 := fst_lt hj
      unfold quoF
      simp only [List.getElem?_eq_getElem hi, List.getElem?_eq_getElem hj, Option.getD_some]
      exact HAT.out D hM _ (tm_lt hg.tab h1 h2)) (fun i j hi hj => by
      rw [hK] at hi hj
      unfold quoF
      simp only [List.getElem?_eq_getElem hi, List.getElem?_eq_getElem hj, Option.getD_some]
      have := HNL.out _ (tm_lt hg.tab (fst_lt hi) (fst_lt hj))
      omega))
  rw [← hK]
  have HK := hide hK
  clear hK PP hN
  obtain ⟨c0, c1, _, _⟩ := BG.box.two
  rw [BG.eq] at c0 c1
  go_enter Tryz.func18, Tryz.ntmps18
  go_wp2_with fail
  rw [← BG.eq]
  clear c0 c1
  refine HN.out.mono ?_
  rintro x w1 ⟨rfl, hb1⟩
  have hb2 := bcat2 hb1 (balloc w1 (.cells #[.int .i64 0, .int .i64 0] 28))
  have hF2 := blk0 (w := w1) (T := 28) (.int .i64 0) (.int .i64 0)
  have hBw := bcat BG.bel hb2 BG.bel.size
  have hX2 := blk_below BG.box hb2
  have hG2 := blk_below BG.grp hb2
  have hR2 := blk_below BG.res hb2
  obtain ⟨t0, t1, _, _⟩ := hF2.two
  obtain ⟨c0, c1, _, _⟩ := hX2.two
  go_wp2_with fail
  generalize w1.alloc (.cells #[.int .i64 0, .int .i64 0] 28) = w2 at *
  clear t0 t1 c0 c1 hb1 hb2
  refine (HRG.out _ hBw).mono ?_
  rintro x w3 ⟨r1, r2, r3, rfl, hr, hb3⟩
  have hF3 := blk_below hF2 hb3
  have hX3 := blk_below hX2 hb3
  have hG3 := blk_below hG2 hb3
  have hR3 := blk_below hR2 hb3
  have hBw3 := bcat2 hBw hb3
  obtain ⟨t0, t1, ft0, ft1⟩ := hF3.two
  obtain ⟨s0, s1⟩ := hF3.self
  go_wp2_with fail
  clear t0 t1 ft0 ft1 s0 s1
  refine (HNUM.out _ _ hr).mono ?_
  rintro x w4 ⟨D, rfl, hmap, hML, hb4⟩
  have hX4 := blk_below hX3 hb4
  have hG4 := blk_below hG3 hb4
  have hR4 := blk_below hR3 hb4
  have hr4 := hr.below hb4
  have hBw4 := bcat2 hBw3 hb4
  obtain ⟨k0, k1, _, _⟩ := hX4.two
  clear hX2 hX3 hG2 hG3 hR2 hR3 hF2 hF3 hr hBw hBw3 HNUM HRG HN
  go_wp2_with (first
    | (at_make; refine wpList_make_full _ rfl _ _ 22 rfl w4.heap.size 3 i0 (.int .i64 0) 1 under22b hi hz0 hz1 _ _ _ _ n rfl rfl rfl rfl (by rw [hz2]; omega) (by unfold maxLen; omega) (by simp) ?_))
  intro w5 hown hgr
  have hM5 : Blk w5 w4.heap.size 3 ((ontoU n f 0).map (Value.int .i64)) := by
    have := Blk.of_owns hown
    rw [made_rep] at this
    rw [ontoU_zero, List.map_replicate]; exact this
  have hb5 : Below w4.heap.size w4 w5 := (Below.refl _ w4).grown hgr (Nat.le_refl _) (by simp)
  clear hown hgr k0 k1
  have hw34 := hb4.size
  have HMP := hide hmap
  clear hmap
  go_wp2
  go_loopw [46] (fun i wr => ∃ a : Nat, a ≤ n ∧ i = .int .i64 a ∧ Blk wr w4.heap.size 3 ((ontoU n f a).map (Value.int .i64)) ∧ Below w4.heap.size w4 wr) (fun i _ => n - (intOf i).toNat)
  case atStart => exact ⟨0, Nat.zero_le _, rfl, hM5, hb5⟩
  case round =>
    obtain ⟨a, ha, rfl, hMa, hBa⟩ := hrel
    clear hM5 hb5
    by_cases hlt : a < n
    · have hai : (a : Int) < (n : Int) := by omega
      have hlk := look_int (HMP.out.kept (below_grown hBa none) (by simp)) (show a < 60 by omega) (HAT.out D hML a hlt)
      have hMc := hMa.int (y := a) (by rw [ontoU_len]; exact hlt)
      have hMf := hMa.frozen a
      have hM6 := hMa.setInt a (num n f a : Int)
      rw [← ontoU_set] at hM6
      have hB6 := hBa.setCell (p := ⟨w4.heap.size, a, none⟩) (Nat.le_refl _) (.int .i64 (num n f a : Int))
      go_wp2
      go_roundw
      case rel => exact ⟨a + 1, by omega, by go_num, hM6, hB6⟩
      case measure => simp [intOf]; omega
    · have hai : ¬ (a : Int) < (n : Int) := by omega
      have han : a = n := by omega
      rw [han, ontoU_all] at hMa
      clear han
      have hXr := blk_below hX4 hBa
      have hGr := blk_below hG4 hBa
      have hRr := blk_below hR4 hBa
      have hBr := bcat2 hBw4 hBa
      obtain ⟨k0, k1, _, _⟩ := hXr.two
      go_wp2_with fail
      clear k0 k1
      refine (HGR.out wr _ _ _ D hBr (hr4.below hBa) (HMP.out.kept (below_grown hBa none) (by simp)) hML).mono ?_
      rintro x w6 ⟨r, rfl, hrow, hb6⟩
      obtain ⟨T, hTe⟩ : ∃ T, T = mkT K (quoF n zs f) := ⟨_, rfl⟩
      rw [← hTe] at hrow
      have HTE := hide hTe
      clear hTe
      obtain ⟨rx, rcap, rfl⟩ := own_slice hrow
      have hMl := hMa.lt
      have hRl := hRr.lt
      have hGl := hGr.lt
      have hG6 := blk_below hGr hb6
      have hR6 := blk_below hRr hb6
      have hM6 := blk_below hMa hb6
      have hB6 := bcat2 hBr hb6
      obtain ⟨g0, g1, fg0, fg1⟩ := hG6.two
      have hG7 := (hG6.set 0 (.int .i64 K)).set 1 (.slice rx T.length rcap)
      have hR7 := (hR6.other (p := ⟨w.heap.size + 1, 0, none⟩) (by simp) (.int .i64 K)).other (p := ⟨w.heap.size + 1, 1, none⟩) (by simp) (.slice rx T.length rcap)
      have hMne : w4.heap.size ≠ w.heap.size + 1 := by have := hG4.lt; omega
      have hM7 := (hM6.other (p := ⟨w.heap.size + 1, 0, none⟩) (by simpa using hMne) (.int .i64 K)).other (p := ⟨w.heap.size + 1, 1, none⟩) (by simpa using hMne) (.slice rx T.length rcap)
      have hB7 := (hB6.setCell (p := ⟨w.heap.size + 1, 0, none⟩) (by simp) (.int .i64 K)).setCell (p := ⟨w.heap.size + 1, 1, none⟩) (by simp) (.slice rx T.length rcap)
      have hrow7 := row_keep (W' := (w6.setCell ⟨w.heap.size + 1, 0, none⟩ (.int .i64 K)).setCell ⟨w.heap.size + 1, 1, none⟩ (.slice rx T.length rcap)) hrow (fun g h1 _ => (Below.heap_setCell _ _ _ g (by simp; omega)).trans (Below.heap_setCell _ _ _ g (by simp; omega)))
      obtain ⟨y0, y1, fy0, fy1⟩ := hR7.two
      obtain ⟨s0, s1⟩ := hR7.self
      obtain ⟨v0, v1, fv0, fv1⟩ := hR6.two
      obtain ⟨z0, z1, _, _⟩ := hG7.two
      have hse := Sl.of_blk hM7 (ontoL_len n f).symm (by rw [ontoL_len]; omega)
      go_wp2
      exact bodyPost_ret (v := .tuple #[.agg #[.int .i64 K, .slice rx T.length rcap], .slice (some ⟨w4.heap.size, 0, none⟩) n n, .agg #[.int .i64 0, .int .i64 0]]) (by simp [results, Tryz.results18, go_sem, z0, z1, y0, y1]) rfl ⟨_, _, _, _, _, _, rfl, by rw [← HTE.out]; exact row_sl hrow7 (by rw [size_set, size_set]; have := hb6.size; omega), hse, hB7⟩
theorem quot_sl {f : Nat} {args : Array Value} {w : World} {c i : Int} (h0 : 0 < w.heap.size) (h : Calls Tryz.prog f args w fun x w' => x = .returned (.tuple #[.agg #[.int .i64 0, .slice none 0 0], .slice none 0 0, .agg #[.int .i64 c, .int .i64 i]]) ∧ Below w.heap.size w w') :
    Calls Tryz.prog f args w fun x W' => ∃ r1 r2 r3 s1 s2 s3, x = .returned (.tuple #[.agg #[.int .i64 0, .slice r1 r2 r3], .slice s1 s2 s3, .agg #[.int .i64 c, .int .i64 i]]) ∧ Sl W' (.slice r1 r2 r3) [] ∧ Sl W' (.slice s1 s2 s3) [] ∧ Below w.heap.size w W' := by
  refine h.mono ?_
  rintro x w' ⟨rfl, hb⟩
  have := Nat.lt_of_lt_of_le h0 hb.size
  exact ⟨none, 0, 0, none, 0, 0, rfl, Sl.nil this, Sl.nil this, hb⟩
end Go.Proofs.YtjiapicknkjhmaaGreatDoor

namespace Go.Proofs.YtjiapicknkjhmaaGreatDoor
open Go Go.RowKit Go.Maps

set_option maxRecDepth 100000 in
set_option maxHeartbeats 4000000 in
theorem simple_bad (N : Int) (v : Value) (zs : List Int) (w : World) (hv : Sl w v zs) (hc : (gfault N zs).1 ≠ 0) :
    Calls Tryz.prog 61 #[.agg #[.int .i64 N, v]] w fun x w' => x = .returned (.tuple #[.bool false, .agg #[.int .i64 (gfault N zs).1, .int .i64 (gfault N zs).2]]) ∧ Below w.heap.size w w' := by
  obtain ⟨w0, BG⟩ := Beg.new w N v
  have HCK := hide (opened_bad N v zs w0 (hv.below BG.bel) hc)
  obtain ⟨c0, c1, _, _⟩ := BG.box.two
  obtain ⟨c, i, hci⟩ : ∃ c i, gfault N zs = (c, i) := ⟨_, _, rfl⟩
  rw [hci] at HCK hc ⊢
  simp only at HCK hc ⊢
  clear hci
  have hcb : (c != 0) = true := by simpa using hc
  rw [BG.eq] at c0 c1
  go_enter Tryz.func61, Tryz.ntmps61
  go_wp2_with fail
  rw [← BG.eq]
  clear c0 c1
  refine HCK.out.mono ?_
  rintro x w1 ⟨rfl, hb1⟩
  obtain ⟨w2, hw2⟩ : ∃ w2, w2 = (w1.alloc (.cells #[.int .i64 0, .slice none 0 0, .int .i64 0, .slice none 0 0] 66)).alloc (.cells #[.int .i64 c, .int .i64 i] 28) := ⟨_, rfl⟩
  have hB1 : Below w0.heap.size w0 w2 := by rw [hw2]; exact bcat2 hb1 ((balloc w1 _).alloc (by simp) _)
  have hF1 : Blk w2 (w1.heap.size + 1) 28 [.int .i64 c, .int .i64 i] := by
    rw [hw2]
    have := blk0 (w := w1.alloc (.cells #[.int .i64 0, .slice none 0 0, .int .i64 0, .slice none 0 0] 66)) (T := 28) (.int .i64 c) (.int .i64 i)
    rwa [World.size_alloc] at this
  have hR1 := blk_below BG.res hB1
  have hBw := bcat BG.bel hB1 BG.bel.size
  obtain ⟨y0, y1, fy0, fy1⟩ := hR1.two
  obtain ⟨t0, t1, _, _⟩ := hF1.two
  obtain ⟨hR6, hB6⟩ := put2 hR1 hBw (by omega) c i
  have hB7 := bdrew hB6
  rw [hw2] at y0 y1 fy0 fy1 t0 t1
  go_wp2_with fail
  rw [← hw2] at y0 y1 fy0 fy1 t0 t1 ⊢
  clear hw2
  go_region
  all_goals (
    go_wp2
    obtain ⟨z0, z1, _, _⟩ := hR6.two
    exact bodyPost_ret (v := .tuple #[.bool false, .agg #[.int .i64 c, .int .i64 i]]) (by simp [results, Tryz.results61, go_sem, z0, z1]) rfl ⟨rfl, hB7⟩)
set_option maxRecDepth 100000 in
set_option maxHeartbeats 8000000 in
theorem simple_good (n e : Nat) (v : Value) (zs : List Int) (P : Nat → Nat → Bool) (w : World) (hv : Sl w v zs) (hg : IsGrp n zs e) (hT : Tab w) (hp : ∀ a, a < n → ∀ y, y < n → (P a y = true ↔ Mkd n zs e (cloq n zs e (pset [(a : Int)]) n) y)) :
    Calls Tryz.prog 61 #[.agg #[.int .i64 n, v]] w fun x w' => x = .returned (.tuple #[.bool (smq n e fun a => (lst n (P a)).length), .agg #[.int .i64 0, .int .i64 0]]) ∧ Below w.heap.size w w' := by
  obtain ⟨va, vl, vc, rfl⟩ := hv.isSlice
  have hn := hg.tab.le
  obtain ⟨w0, BG⟩ := Beg.new w n (.slice va vl vc)
  have HCK := hide (opened_good n e (.slice va vl vc) zs w0 (hv.below BG.bel) hg)
  have HCL := hide (fun W u a (h : Below w.heap.size w W) (ha : a < n) (hu : Sl W u [(a : Int)]) => clo_good n e (.slice va vl vc) u zs [(a : Int)] (P a) W (hv.below h) hg hu (hT.below h) (one_fault ha) (hp a ha))
  obtain ⟨L, hL⟩ : ∃ L : Nat → Nat, L = fun a => (lst n (P a)).length := ⟨_, rfl⟩
  have HL := hide (fun a => show (lst n (P a)).length = L a by rw [hL])
  rw [← hL]
  obtain ⟨b, hb⟩ : ∃ b, b = smq n e L := ⟨_, rfl⟩
  rw [← hb]
  have HNO := hide (fun a (ha : a < n) (h1 : ¬ a = e) (h2 : L a < n) => show b = false by
    rw [hb]
    unfold smq
    rw [Bool.and_eq_false_iff]
    right
    rw [List.all_eq_false]
    exact ⟨a, List.mem_range.2 ha, by simp [h1, h2]⟩)
  have HYES := hide (fun (h : ∀ a, a < n → a = e ∨ ¬ L a < n) => show b = decide (1 < n) by
    rw [hb]
    unfold smq
    have : ((List.range n).all fun a => decide (a = e) || !decide (L a < n)) = true := List.all_eq_true.2 fun a ha => by
      rcases h a (List.mem_range.1 ha) with h | h <;> simp [h]
    rw [this, Bool.and_true])
  clear hb hL hp
  have hen := hg.elt
  obtain ⟨c0, c1, _, _⟩ := BG.box.two
  rw [BG.eq] at c0 c1
  go_enter Tryz.func61, Tryz.ntmps61
  go_wp2_with fail
  rw [← BG.eq]
  clear c0 c1
  refine HCK.out.mono ?_
  rintro x w1 ⟨iv9, rfl, hSI, hb1⟩
  obtain ⟨ia, il, ic, rfl⟩ := hSI.sl.isSlice
  obtain ⟨w2, hw2⟩ : ∃ w2, w2 = (w1.alloc (.cells #[.int .i64 n, (.slice va vl vc), .int .i64 e, (.slice ia il ic)] 66)).alloc (.cells #[.int .i64 0, .int .i64 0] 28) := ⟨_, rfl⟩
  have hb2 : Below w1.heap.size w1 w2 := by rw [hw2]; exact (balloc w1 _).alloc (by simp) _
  have hB1 : Below w0.heap.size w0 w2 := bcat2 hb1 hb2
  have hF1 : Blk w2 (w1.heap.size + 1) 28 [.int .i64 0, .int .i64 0] := by
    rw [hw2]
    have := blk0 (w := w1.alloc (.cells #[.int .i64 n, (.slice va vl vc), .int .i64 e, (.slice ia il ic)] 66)) (T := 28) (.int .i64 0) (.int .i64 0)
    rwa [World.size_alloc] at this
  have hH2 : Blk w2 w1.heap.size 66 [.int .i64 n, (.slice va vl vc), .int .i64 e, (.slice ia il ic)] := by
    rw [hw2]; exact (blk4 _ _ _ _).alloc _
  have hBw2 := bcat BG.bel hB1 BG.bel.size
  have hR2 := blk_below BG.res hB1
  have hX2 := blk_below BG.box hB1
  obtain ⟨t0, t1, _, _⟩ := hF1.two
  obtain ⟨g0, g1, _, _⟩ := hX2.two
  rw [hw2] at t0 t1 g0 g1
  go_wp2
  rw [← hw2]
  clear hw2 t0 t1 g0 g1
  have hRl := hR2.lt
  have HH := hide (fun W (h : Below w2.heap.size w2 W) => show W.cell? ⟨w1.heap.size, 2, none⟩ = some (.int .i64 e) from by
    obtain ⟨_, _, _, h2, _, _⟩ := Four.mk' hH2
    exact below_cell h h2)
  go_loopw [20] (fun i wr => ∃ a : Nat, a ≤ n ∧ i = .int .i64 a ∧ (∀ t, t < a → t = e ∨ ¬ L t < n) ∧ Below w2.heap.size w2 wr) (fun i _ => n - (intOf i).toNat)
  case atStart => exact ⟨0, Nat.zero_le _, rfl, fun t ht => by omega, Below.refl _ _⟩
  case round =>
    obtain ⟨a, ha, rfl, hall, hB⟩ := hrel
    have HALL := hide hall
    clear hall
    have hXr := blk_below hX2 hB
    have hRr := blk_below hR2 hB
    have hBr := bcat2 hBw2 hB
    by_cases hlt : a < n
    · have hai : (a : Int) < (n : Int) := by omega
      have hbn := balloc wr (.cells #[.int .i64 a] 3)
      have hun : Sl (wr.alloc (.cells #[.int .i64 a] 3)) (.slice (some ⟨wr.heap.size, 0, none⟩) 1 1) [(a : Int)] := Sl.of_blk (g := wr.heap.size) (zs := [(a : Int)]) (World.alloc_heap_new wr _) rfl (by simp)
      obtain ⟨g0, g1, _, _⟩ := hXr.two
      go_wp2_with fail
      clear g0 g1
      refine (HCL.out _ _ a (bcat2 hBr hbn) hlt hun).mono ?_
      rintro x w4 ⟨r, rfl, hr, hb4⟩
      have hrs := hr.sl
      obtain ⟨ra, rc, _, _, rfl, _, _, _, _⟩ := hrs
      rw [li_len, HL.out]
      have hb5 := bcat2 (bcat2 hbn hb4) (balloc w4 (.cells #[.int .i64 0, .int .i64 0] 28))
      have hF5 := blk0 (w := w4) (T := 28) (.int .i64 0) (.int .i64 0)
      have hX5 := blk_below hXr hb5
      have hR5 := blk_below hRr hb5
      have hB5 := bcat2 hB hb5
      have hBw5 := bcat2 hBr hb5
      have ch := HH.out _ hB5
      obtain ⟨g0, g1, _, _⟩ := hX5.two
      obtain ⟨t0, t1, _, _⟩ := hF5.two
      obtain ⟨y0, y1, fy0, fy1⟩ := hR5.two
      obtain ⟨s0, s1⟩ := hR5.self
      by_cases hae : a = e
      · have hi1 : ((a : Int) != (e : Int)) = false := by simp [hae]
        have hi2 : (a : Int) = (e : Int) := by omega
        have HN := hide (fun t (ht : t < a + 1) => show t = e ∨ ¬ L t < n by
          by_cases e9 : t = a
          · left; omega
          · exact HALL.out t (by omega))
        clear hae
        go_wp2
        go_roundw
        case rel => exact ⟨a + 1, by omega, by go_num, HN.out, hB5⟩
        case measure => simp [intOf]; omega
      · have hi1 : ((a : Int) != (e : Int)) = true := by simp; omega
        have hi2 : ¬ (a : Int) = (e : Int) := by omega
        by_cases hLt : L a < n
        · obtain rfl := HNO.out a hlt hae hLt
          have hli : (L a : Int) < (n : Int) := by omega
          clear hae
          go_wp2
          exact bodyPost_ret (v := .tuple #[.bool false, .agg #[.int .i64 0, .int .i64 0]]) (by simp [results, Tryz.results61, go_sem, y0, y1]) rfl ⟨rfl, hBw5⟩
        · have hli : ¬ (L a : Int) < (n : Int) := by omega
          have HN := hide (fun t (ht : t < a + 1) => show t = e ∨ ¬ L t < n by
            by_cases e9 : t = a
            · right; rw [e9]; exact hLt
            · exact HALL.out t (by omega))
          clear hae hLt
          go_wp2
          go_roundw
          case rel => exact ⟨a + 1, by omega, by go_num, HN.out, hB5⟩
          case measure => simp [intOf]; omega
    · have hai : ¬ (a : Int) < (n : Int) := by omega
      have HBE := hide (HYES.out (fun t ht => HALL.out t (by omega)))
      obtain ⟨g0, g1, _, _⟩ := hXr.two
      obtain ⟨y0, y1, fy0, fy1⟩ := hRr.two
      obtain ⟨s0, s1⟩ := hRr.self
      by_cases h1 : 1 < n
      · have h1i : (1 : Int) < (n : Int) := by omega
        go_wp2
        exact bodyPost_ret (v := .tuple #[.bool true, .agg #[.int .i64 0, .int .i64 0]]) (by simp [results, Tryz.results61, go_sem, y0, y1]) rfl ⟨by rw [HBE.out, decide_eq_true h1], hBr⟩
      · have h1i : ¬ (1 : Int) < (n : Int) := by omega
        go_wp2
        exact bodyPost_ret (v := .tuple #[.bool false, .agg #[.int .i64 0, .int .i64 0]]) (by simp [results, Tryz.results61, go_sem, y0, y1]) rfl ⟨by rw [HBE.out, decide_eq_false h1], hBr⟩
end Go.Proofs.YtjiapicknkjhmaaGreatDoor

namespace Go.Proofs.YtjiapicknkjhmaaGreatDoor
open Go Go.RowKit

/-- A map of things that keeps products. -/
structure IsHom (n : Nat) (zs : List Int) (m : Nat) (ys : List Int) (φ : Nat → Nat) : Prop where
  lt : ∀ a, a < n → φ a < m
  mul : ∀ a b, a < n → b < n → φ (tm n zs a b) = tm m ys (φ a) (φ b)
theorem IsHom.one {n e m d : Nat} {zs ys : List Int} {φ : Nat → Nat} (g : IsGrp n zs e) (h : IsGrp m ys d) (H : IsHom n zs m ys φ) : φ e = d := by
  have h1 := H.mul e e g.elt g.elt
  rw [g.left e g.elt] at h1
  have hl := H.lt e g.elt
  exact grp_cancel h hl hl h.elt (by rw [← h1, h.right _ hl])
section
variable {n e m d k c : Nat} {zs ys xs : List Int} {π ψ : Nat → Nat}
/-- Where two things go to the same, their quotient goes to the one. -/
theorem hom_same_iff (g : IsGrp n zs e) (h : IsGrp m ys d) (H : IsHom n zs m ys π) {a b : Nat} (ha : a < n) (hb : b < n) : π a = π b ↔ π (tm n zs a (iv n zs e b)) = d := by
  obtain ⟨i1, i2, i3, _⟩ := iv_spec g hb
  have h1 := H.mul a (iv n zs e b) ha i1
  have h2 := H.mul b (iv n zs e b) hb i1
  rw [i2, IsHom.one g h H] at h2
  constructor
  · intro hab
    rw [h1, hab, ← h2]
  · intro hd
    have h3 := H.mul _ b (tm_lt g.tab ha i1) hb
    rw [hd, h.left _ (H.lt b hb), g.ass a _ b ha i1 hb, i3, g.right a ha] at h3
    exact h3
/-- A homomorphism onto. -/
structure IsOnto (n : Nat) (zs : List Int) (m : Nat) (ys : List Int) (π : Nat → Nat) : Prop where
  hom : IsHom n zs m ys π
  hits : ∀ y, y < m → ∃ a, a < n ∧ π a = y
end
section
variable {n e : Nat} {zs : List Int} {q : Nat → Bool}
/-- A quotient is an image. -/
theorem quo_onto (g : IsGrp n zs e) (hs : subT n zs e q = true) (hN : nrmq n zs e q = true) :
    IsOnto n zs (fsts n (rgtq n zs (lst n q)) n).length (mkT (fsts n (rgtq n zs (lst n q)) n).length (quoF n zs (rgtq n zs (lst n q)))) (num n (rgtq n zs (lst n q))) := by
  have P := rgt_parts g hs
  refine ⟨⟨fun a ha => (prts_num_lt P ha).1, fun a b ha hb => ?_⟩, fun i hi => ⟨_, fst_lt hi, prts_num_at P hi⟩⟩
  rw [tm_mk (prts_num_lt P ha).1 (prts_num_lt P hb).1]
  exact (quo_hom g hs hN ha hb).symm
/-- Its kernel is the subgroup. -/
theorem quo_ker (g : IsGrp n zs e) (hs : subT n zs e q = true) {a : Nat} (ha : a < n) : num n (rgtq n zs (lst n q)) a = num n (rgtq n zs (lst n q)) e ↔ q a = true := by
  have P := rgt_parts g hs
  rw [eq_comm, prts_num_eq P g.elt ha, rgt_iff g g.elt ha, decide_eq_true_eq, mem_lst, iv_one g, g.right a ha]
  exact ⟨fun h => h.2, fun h => ⟨ha, h⟩⟩
end
/-- A greatest normal subgroup of a table's subgroup. -/
abbrev Mxg (n : Nat) (zs : List Int) (e : Nat) (A B : Nat → Bool) : Prop := Fin.Mxn (List.range n) (tm n zs) e (iv n zs e) A B
section
variable {n e : Nat} {zs : List Int} {q p r : Nat → Bool}
theorem part_up (g : IsGrp n zs e) (hs : subT n zs e q = true) (h : Mxg (lst n q).length (mkT (lst n q).length (parF n zs (lst n q))) (place (lst n q) e) p r) : Mxg n zs e (upt n q p) (upt n q r) where
  sg := subT_iff.1 (upt_sub g hs (subT_iff.2 h.sg))
  sub := fun x hx h1 => by
    obtain ⟨i, hi, h2, rfl⟩ := (upt_iff (List.mem_range.1 hx)).1 h1
    rw [upt_at hi]
    exact h.sub i (List.mem_range.2 hi) h2
  nm := fun x a hx ha h1 h2 => by
    obtain ⟨i, hi, h3, rfl⟩ := (upt_iff (List.mem_range.1 hx)).1 h1
    obtain ⟨j, hj, h4, rfl⟩ := (upt_iff (List.mem_range.1 ha)).1 h2
    have G := part_grp g hs
    rw [← part_cj g hs hi hj, upt_at (List.mem_range.1 (Fin.cj_mem (grp_fg G) (grp_iv G) (List.mem_range.2 hi) (List.mem_range.2 hj)))]
    exact h.nm i j (List.mem_range.2 hi) (List.mem_range.2 hj) h3 h4
  less := by
    obtain ⟨i, hi, h1, h2⟩ := h.less
    have hi := List.mem_range.1 hi
    exact ⟨_, List.mem_range.2 (thing_lt hi), by rw [upt_at hi]; exact h1, by rw [upt_at hi]; exact h2⟩
  top := fun C hC h1 h2 h3 => by
    have G := part_grp g hs
    rcases h.top (fun i => C (thing (lst n q) i)) (subT_iff.1 (down_sub g hs (subT_iff.2 hC))) (fun i hi h4 => by
        have hi := List.mem_range.1 hi
        exact h1 _ (List.mem_range.2 (thing_lt hi)) (by rw [upt_at hi]; exact h4)) (fun i hi h4 => by
        have hi := List.mem_range.1 hi
        have h5 := h2 _ (List.mem_range.2 (thing_lt hi)) h4
        rwa [upt_at hi] at h5) (fun i j hi hj h4 h5 => by
        have hi := List.mem_range.1 hi
        have hj := List.mem_range.1 hj
        show C (thing _ _) = true
        rw [part_cj g hs hi hj]
        exact h3 _ _ (List.mem_range.2 (thing_lt hi)) (List.mem_range.2 (thing_lt hj)) h4 (by rw [upt_at hj]; exact h5)) with h4 | h4
    · refine .inl fun x hx h5 => ?_
      obtain ⟨i, hi, h6, rfl⟩ := (upt_iff (List.mem_range.1 hx)).1 (h2 x hx h5)
      rw [upt_at hi]
      exact h4 i (List.mem_range.2 hi) h5
    · refine .inr fun x hx h5 => ?_
      obtain ⟨i, hi, h6, rfl⟩ := (upt_iff (List.mem_range.1 hx)).1 h5
      exact h4 i (List.mem_range.2 hi) h6
theorem part_down (g : IsGrp n zs e) (hs : subT n zs e q = true) (h : Mxg n zs e (upt n q p) (upt n q r)) : Mxg (lst n q).length (mkT (lst n q).length (parF n zs (lst n q))) (place (lst n q) e) p r where
  sg := by
    have h1 := subT_iff.1 (down_sub g hs (subT_iff.2 h.sg))
    obtain ⟨p1, _⟩ := part_e g hs
    refine ⟨by have := h1.one; rwa [upt_at p1] at this, fun i j hi hj h2 h3 => ?_⟩
    have G := part_grp g hs
    have h4 := h1.mul i j hi hj (by rw [upt_at (List.mem_range.1 hi)]; exact h2) (by rw [upt_at (List.mem_range.1 hj)]; exact h3)
    rwa [upt_at (tm_lt G.tab (List.mem_range.1 hi) (List.mem_range.1 hj))] at h4
  sub := fun i hi h1 => by
    have hi := List.mem_range.1 hi
    have h2 := h.sub _ (List.mem_range.2 (thing_lt hi)) (by rw [upt_at hi]; exact h1)
    rwa [upt_at hi] at h2
  nm := fun i j hi hj h1 h2 => by
    have G := part_grp g hs
    have hm := List.mem_range.1 (Fin.cj_mem (grp_fg G) (grp_iv G) hi hj)
    have hi := List.mem_range.1 hi
    have hj := List.mem_range.1 hj
    have h3 := h.nm _ _ (List.mem_range.2 (thing_lt hi)) (List.mem_range.2 (thing_lt hj)) (by rw [upt_at hi]; exact h1) (by rw [upt_at hj]; exact h2)
    rwa [← part_cj g hs hi hj, upt_at hm] at h3
  less := by
    obtain ⟨x, hx, h1, h2⟩ := h.less
    obtain ⟨i, hi, h3, rfl⟩ := (upt_iff (List.mem_range.1 hx)).1 h1
    rw [upt_at hi] at h2
    exact ⟨i, List.mem_range.2 hi, h3, h2⟩
  top := fun C hC h1 h2 h3 => by
    have G := part_grp g hs
    rcases h.top (upt n q C) (subT_iff.1 (upt_sub g hs (subT_iff.2 hC))) (fun x hx h4 => by
        obtain ⟨i, hi, h5, rfl⟩ := (upt_iff (List.mem_range.1 hx)).1 h4
        rw [upt_at hi]
        exact h1 i (List.mem_range.2 hi) h5) (fun x hx h4 => by
        obtain ⟨i, hi, h5, rfl⟩ := (upt_iff (List.mem_range.1 hx)).1 h4
        rw [upt_at hi]
        exact h2 i (List.mem_range.2 hi) h5) (fun x a hx ha h4 h5 => by
        obtain ⟨i, hi, h6, rfl⟩ := (upt_iff (List.mem_range.1 hx)).1 h4
        obtain ⟨j, hj, h7, rfl⟩ := (upt_iff (List.mem_range.1 ha)).1 h5
        rw [← part_cj g hs hi hj, upt_at (List.mem_range.1 (Fin.cj_mem (grp_fg G) (grp_iv G) (List.mem_range.2 hi) (List.mem_range.2 hj)))]
        exact h3 i j (List.mem_range.2 hi) (List.mem_range.2 hj) h6 h7) with h4 | h4
    · refine .inl fun i hi h5 => ?_
      have hi := List.mem_range.1 hi
      have h6 := h4 _ (List.mem_range.2 (thing_lt hi)) (by rw [upt_at hi]; exact h5)
      rwa [upt_at hi] at h6
    · refine .inr fun i hi h5 => ?_
      have hi := List.mem_range.1 hi
      have h6 := h4 _ (List.mem_range.2 (thing_lt hi)) (by rw [upt_at hi]; exact h5)
      rwa [upt_at hi] at h6
end
section
variable {n e m d : Nat} {zs ys : List Int} {φ : Nat → Nat} {p r : Nat → Bool}
theorem onto_cj (g : IsGrp n zs e) (h : IsGrp m ys d) (H : IsHom n zs m ys φ) {x a : Nat} (hx : x < n) (ha : a < n) : φ (Fin.cj (tm n zs) (iv n zs e) x a) = Fin.cj (tm m ys) (iv m ys d) (φ x) (φ a) := by
  have hc := List.mem_range.1 (Fin.cj_mem (grp_fg g) (grp_iv g) (List.mem_range.2 hx) (List.mem_range.2 ha))
  refine (Fin.cj_unique (grp_fg h) (grp_iv h) (List.mem_range.2 (H.lt x hx)) (List.mem_range.2 (H.lt _ hc)) (List.mem_range.2 (H.lt a ha)) ?_).symm
  rw [← H.mul a _ ha hc, Fin.cj_eq (grp_fg g) (grp_iv g) (List.mem_range.2 hx) (List.mem_range.2 ha), H.mul x a hx ha]
theorem onto_up (g : IsGrp n zs e) (h : IsGrp m ys d) (O : IsOnto n zs m ys φ) (M : Mxg m ys d p r) : Mxg n zs e (fun x => p (φ x)) (fun x => r (φ x)) where
  sg := ⟨by show r (φ e) = true; rw [IsHom.one g h O.hom]; exact M.sg.one, fun a b ha hb h1 h2 => by
    have ha := List.mem_range.1 ha
    have hb := List.mem_range.1 hb
    show r (φ _) = true
    rw [O.hom.mul a b ha hb]
    exact M.sg.mul _ _ (List.mem_range.2 (O.hom.lt a ha)) (List.mem_range.2 (O.hom.lt b hb)) h1 h2⟩
  sub := fun x hx h1 => M.sub _ (List.mem_range.2 (O.hom.lt x (List.mem_range.1 hx))) h1
  nm := fun x a hx ha h1 h2 => by
    have ha := List.mem_range.1 ha
    have hx := List.mem_range.1 hx
    show r (φ _) = true
    rw [onto_cj g h O.hom hx ha]
    exact M.nm _ _ (List.mem_range.2 (O.hom.lt x hx)) (List.mem_range.2 (O.hom.lt a ha)) h1 h2
  less := by
    obtain ⟨y, hy, h1, h2⟩ := M.less
    obtain ⟨x, hx, rfl⟩ := O.hits y (List.mem_range.1 hy)
    exact ⟨x, List.mem_range.2 hx, h1, h2⟩
  top := fun C hC h1 h2 h3 => by
    obtain ⟨D, hD⟩ := Fin.test_of (fun y => ∃ x, x < n ∧ C x = true ∧ φ x = y)
    rcases M.top D ⟨(hD d).2 ⟨e, g.elt, hC.one, IsHom.one g h O.hom⟩, fun a b _ _ h4 h5 => by
        obtain ⟨x, hx, h6, rfl⟩ := (hD a).1 h4
        obtain ⟨y, hy, h7, rfl⟩ := (hD b).1 h5
        exact (hD _).2 ⟨_, tm_lt g.tab hx hy, hC.mul x y (List.mem_range.2 hx) (List.mem_range.2 hy) h6 h7, O.hom.mul x y hx hy⟩⟩ (fun y hy h4 => by
        obtain ⟨x, hx, rfl⟩ := O.hits y (List.mem_range.1 hy)
        exact (hD _).2 ⟨x, hx, h1 x (List.mem_range.2 hx) h4, rfl⟩) (fun y _ h4 => by
        obtain ⟨x, hx, h6, rfl⟩ := (hD y).1 h4
        exact h2 x (List.mem_range.2 hx) h6) (fun y a _ ha h4 h5 => by
        obtain ⟨x, hx, h6, rfl⟩ := (hD y).1 h4
        obtain ⟨b, hb, rfl⟩ := O.hits a (List.mem_range.1 ha)
        have hc := List.mem_range.1 (Fin.cj_mem (grp_fg g) (grp_iv g) (List.mem_range.2 hx) (List.mem_range.2 hb))
        exact (hD _).2 ⟨_, hc, h3 x b (List.mem_range.2 hx) (List.mem_range.2 hb) h6 h5, onto_cj g h O.hom hx hb⟩) with h4 | h4
    · exact .inl fun x hx h5 => h4 _ (List.mem_range.2 (O.hom.lt x (List.mem_range.1 hx))) ((hD _).2 ⟨x, List.mem_range.1 hx, h5, rfl⟩)
    · refine .inr fun x hx h5 => ?_
      have hx' := List.mem_range.1 hx
      obtain ⟨c, hc, h6, h7⟩ := (hD _).1 (h4 _ (List.mem_range.2 (O.hom.lt x hx')) h5)
      obtain ⟨i1, i2, i3, _⟩ := iv_spec g hc
      have hk := tm_lt g.tab hx' i1
      have h8 := (hom_same_iff g h O.hom hx' hc).1 h7.symm
      have h9 := h1 _ (List.mem_range.2 hk) (by show r (φ _) = true; rw [h8]; exact M.sg.one)
      have h10 := hC.mul _ c (List.mem_range.2 hk) (List.mem_range.2 hc) h9 h6
      have h11 : tm n zs (tm n zs x (iv n zs e c)) c = x := by rw [g.ass _ _ _ hx' i1 hc, i3, g.right x hx']
      rw [h11] at h10
      exact h10
theorem onto_down (g : IsGrp n zs e) (h : IsGrp m ys d) (O : IsOnto n zs m ys φ) (M : Mxg n zs e (fun x => p (φ x)) (fun x => r (φ x))) : Mxg m ys d p r where
  sg := ⟨by have h1 := M.sg.one; simp only [IsHom.one g h O.hom] at h1; exact h1, fun a b ha hb h1 h2 => by
    obtain ⟨x, hx, rfl⟩ := O.hits a (List.mem_range.1 ha)
    obtain ⟨y, hy, rfl⟩ := O.hits b (List.mem_range.1 hb)
    show r _ = true
    rw [← O.hom.mul x y hx hy]
    exact M.sg.mul x y (List.mem_range.2 hx) (List.mem_range.2 hy) h1 h2⟩
  sub := fun y hy h1 => by
    obtain ⟨x, hx, rfl⟩ := O.hits y (List.mem_range.1 hy)
    exact M.sub x (List.mem_range.2 hx) h1
  nm := fun y a hy ha h1 h2 => by
    obtain ⟨x, hx, rfl⟩ := O.hits y (List.mem_range.1 hy)
    obtain ⟨b, hb, rfl⟩ := O.hits a (List.mem_range.1 ha)
    rw [← onto_cj g h O.hom hx hb]
    exact M.nm x b (List.mem_range.2 hx) (List.mem_range.2 hb) h1 h2
  less := by
    obtain ⟨x, hx, h1, h2⟩ := M.less
    exact ⟨φ x, List.mem_range.2 (O.hom.lt x (List.mem_range.1 hx)), h1, h2⟩
  top := fun C hC h1 h2 h3 => by
    rcases M.top (fun x => C (φ x)) ⟨by show C (φ e) = true; rw [IsHom.one g h O.hom]; exact hC.one, fun a b ha hb h4 h5 => by
        have ha := List.mem_range.1 ha
        have hb := List.mem_range.1 hb
        show C (φ _) = true
        rw [O.hom.mul a b ha hb]
        exact hC.mul _ _ (List.mem_range.2 (O.hom.lt a ha)) (List.mem_range.2 (O.hom.lt b hb)) h4 h5⟩
      (fun x hx h4 => h1 _ (List.mem_range.2 (O.hom.lt x (List.mem_range.1 hx))) h4) (fun x hx h4 => h2 _ (List.mem_range.2 (O.hom.lt x (List.mem_range.1 hx))) h4) (fun x a hx ha h4 h5 => by
        have ha := List.mem_range.1 ha
        have hx := List.mem_range.1 hx
        show C (φ _) = true
        rw [onto_cj g h O.hom hx ha]
        exact h3 _ _ (List.mem_range.2 (O.hom.lt x hx)) (List.mem_range.2 (O.hom.lt a ha)) h4 h5) with h4 | h4
    · refine .inl fun y hy h5 => ?_
      obtain ⟨x, hx, rfl⟩ := O.hits y (List.mem_range.1 hy)
      exact h4 x (List.mem_range.2 hx) h5
    · refine .inr fun y hy h5 => ?_
      obtain ⟨x, hx, rfl⟩ := O.hits y (List.mem_range.1 hy)
      exact h4 x (List.mem_range.2 hx) h5
/-- Simple: each thing but the one makes, with what it is conjugated to, all. -/
theorem simple_iff (h : IsGrp m ys d) {P : Nat → Nat → Bool} (hP : ∀ a, a < m → ∀ y, y < m → (P a y = true ↔ Mkd m ys d (cloq m ys d (pset [(a : Int)]) m) y)) :
    smq m d (fun a => (lst m (P a)).length) = true ↔ Mxg m ys d (fun _ => true) (fun a => decide (a = d)) := by
  have F := grp_fg h
  have V := grp_iv h
  have hc : ∀ a, a < m → ∀ y, cloq m ys d (pset [(a : Int)]) m y = true ↔ ∃ b, b < m ∧ Fin.cj (tm m ys) (iv m ys d) a b = y := fun a ha y => by
    unfold cloq
    simp only [List.any_eq_true, List.mem_range, cjq_iff]
    constructor
    · rintro ⟨b, hb, x, hx, h1, rfl⟩
      have h1 : x = a := by
        unfold pset at h1
        rw [decide_eq_true_eq, List.mem_singleton] at h1
        omega
      rw [h1]
      exact ⟨b, hb, rfl⟩
    · rintro ⟨b, hb, rfl⟩
      exact ⟨b, hb, a, ha, by unfold pset; simp, rfl⟩
  unfold smq
  rw [Bool.and_eq_true, decide_eq_true_eq, List.all_eq_true]
  constructor
  · rintro ⟨h1, h2⟩
    refine ⟨Fin.one_sgb F, fun _ _ _ => rfl, fun x a _ ha h3 _ => ?_, ?_, fun C hC _ _ h3 => ?_⟩
    · rw [decide_eq_true_eq] at h3
      rw [h3, Fin.cj_one F V ha]
      simp
    · rcases Nat.lt_or_ge 0 d with h3 | h3
      · exact ⟨0, List.mem_range.2 (by omega), rfl, by simp; omega⟩
      · exact ⟨1, List.mem_range.2 h1, rfl, by simp; omega⟩
    · rcases Classical.em (Fin.In (List.range m) C (fun a => decide (a = d))) with h4 | h4
      · exact .inl h4
      · refine .inr ?_
        obtain ⟨a, ha, ha1, ha2⟩ : ∃ a, a ∈ List.range m ∧ C a = true ∧ ¬ a = d := Classical.byContradiction fun h5 => h4 fun y hy hC => by
          rw [decide_eq_true_eq]
          exact Classical.byContradiction fun h6 => h5 ⟨y, hy, hC, h6⟩
        have h5 := h2 a ha
        have ha' := List.mem_range.1 ha
        have h6 : (lst m (P a)).length = m := by
          have := lst_len m (P a)
          simp [ha2] at h5
          omega
        intro y hy _
        have hy' := List.mem_range.1 hy
        have h7 : P a y = true := by
          have h8 : y ∈ lst m (P a) := by
            have h9 : lst m (P a) = List.range m := List.Sublist.eq_of_length List.filter_sublist (by rw [List.length_range]; exact h6)
            rw [h9]; exact hy
          exact (mem_lst.1 h8).2
        refine Fin.Gen.least hC (fun z _ h8 => ?_) ((hP a ha' y hy').1 h7)
        obtain ⟨b, hb, rfl⟩ := (hc a ha' z).1 h8
        exact h3 a b ha (List.mem_range.2 hb) ha1 rfl
  · intro M
    obtain ⟨x, hx, _, hx2⟩ := M.less
    have hx := List.mem_range.1 hx
    have hx2 : ¬ x = d := by simpa using hx2
    refine ⟨by have := h.elt; omega, fun a ha => ?_⟩
    rw [Bool.or_eq_true]
    by_cases had : a = d
    · exact .inl (decide_eq_true had)
    · refine .inr ?_
      have ha' := List.mem_range.1 ha
      have hbase : P a a = true := (hP a ha' a ha').2 (Fin.Gen.base ha ((hc a ha' a).2 ⟨d, h.elt, Fin.cj_id F V ha⟩))
      have hPn : Fin.Nb (List.range m) (tm m ys) (iv m ys d) (P a) (fun _ => true) := fun z b hz hb h3 _ => by
        have hm := Fin.cj_mem F V hz hb
        refine (hP a ha' _ (List.mem_range.1 hm)).2 ?_
        refine Fin.gen_nm F V (X := fun y => cloq m ys d (pset [(a : Int)]) m y = true) (fun y c hy hc' h4 => ?_) z b hz hb ((hP a ha' z (List.mem_range.1 hz)).1 h3)
        obtain ⟨b2, hb2, rfl⟩ := (hc a ha' y).1 h4
        exact (hc a ha' _).2 ⟨_, tm_lt h.tab hb2 (List.mem_range.1 hc'), by rw [Fin.cj_cj F V ha (List.mem_range.2 hb2) hc']⟩
      rcases M.top (P a) (made_sg h (hP a ha')) (fun z _ h3 => by
          rw [decide_eq_true_eq] at h3
          rw [h3]
          exact (made_sg h (hP a ha')).one) (fun _ _ _ => rfl) hPn with h3 | h3
      · have := h3 a ha hbase
        rw [decide_eq_true_eq] at this
        exact absurd this had
      · have h4 : (lst m (P a)).length = m := by
          have : lst m (P a) = List.range m := List.filter_eq_self.2 fun y hy => h3 y hy rfl
          rw [this, List.length_range]
        simp [h4]
end
end Go.Proofs.YtjiapicknkjhmaaGreatDoor

namespace Go.Proofs.YtjiapicknkjhmaaGreatDoor
variable {n e : Nat} {zs : List Int} {s : Nat → Bool}

theorem last_of {P : Nat → Prop} (h0 : P 0) : ∀ K, ¬ P K → ∃ i, i < K ∧ P i ∧ ¬ P (i + 1)
  | 0, h => absurd h0 h
  | K + 1, h => by
    by_cases hK : P K
    · exact ⟨K, by omega, hK, h⟩
    · obtain ⟨i, h1, h2, h3⟩ := last_of h0 K hK
      exact ⟨i, by omega, h2, h3⟩
theorem one_only (g : IsGrp n zs e) {q : Nat → Bool} (he : q e = true) (h1 : (lst n q).length = 1) {x : Nat} (hx : x < n) (hq : q x = true) : x = e := by
  obtain ⟨d, hd⟩ := List.length_eq_one_iff.1 h1
  have m1 : e ∈ lst n q := mem_lst.2 ⟨g.elt, he⟩
  have m2 : x ∈ lst n q := mem_lst.2 ⟨hx, hq⟩
  rw [hd, List.mem_singleton] at m1 m2
  rw [m1, m2]
theorem two_of (g : IsGrp n zs e) {q : Nat → Bool} (he : q e = true) (h1 : (lst n q).length ≠ 1) : ∃ x, x < n ∧ x ≠ e ∧ q x = true := by
  refine Classical.byContradiction fun h => h1 ?_
  have h2 : lst n q = lst n (fun a => decide (a = e)) := lst_congr fun x hx => by
    rw [Bool.eq_iff_iff, decide_eq_true_eq]
    exact ⟨fun h3 => Classical.byContradiction fun h4 => h ⟨x, hx, h4, h3⟩, fun h3 => by rw [h3]; exact he⟩
  rw [h2, one_lst g.elt]
  rfl
theorem more_of (g : IsGrp n zs e) {q : Nat → Bool} (he : q e = true) {x : Nat} (hx : x < n) (hne : x ≠ e) (hq : q x = true) : 1 < (lst n q).length := by
  have h1 := List.length_pos_of_mem (mem_lst.2 ⟨g.elt, he⟩)
  refine Classical.byContradiction fun h => hne (one_only g he (by omega) hx hq)
theorem cm_flip (g : IsGrp n zs e) {a b : Nat} (ha : a < n) (hb : b < n) : tm n zs (Fin.cm (tm n zs) (iv n zs e) a b) (Fin.cm (tm n zs) (iv n zs e) b a) = e := by
  have F := grp_fg g
  have V := grp_iv g
  have ha' := List.mem_range.2 ha
  have hb' := List.mem_range.2 hb
  have c1 := Fin.cm_mem F V ha' hb'
  have c2 := Fin.cm_mem F V hb' ha'
  have hba := F.cl _ _ hb' ha'
  refine F.can hba (F.cl _ _ c1 c2) F.one ?_
  rw [← F.ass _ _ _ hba c1 c2, Fin.cm_eq F V ha' hb', Fin.cm_eq F V hb' ha', F.right _ hba]
theorem cj_cm (g : IsGrp n zs e) {a b : Nat} (ha : a < n) (hb : b < n) : Fin.cj (tm n zs) (iv n zs e) a b = tm n zs a (Fin.cm (tm n zs) (iv n zs e) a b) := by
  have F := grp_fg g
  have V := grp_iv g
  have ha' := List.mem_range.2 ha
  have hcj := Fin.cj_mem F V ha' (List.mem_range.2 hb)
  rw [cm_as g ha hb, ← F.ass _ _ _ ha' (V a ha').1 hcj, (V a ha').2.1, F.left _ hcj]
/-- The lower series. -/
noncomputable abbrev lo (n : Nat) (zs : List Int) (e i : Nat) : Nat → Bool := itr (fun q => cmb n zs e q fun _ => true) (fun _ => true) i
theorem lo_up (g : IsGrp n zs e) {i a b : Nat} (ha : a < n) (hb : b < n) (h : lo n zs e i a = true) : lo n zs e (i + 1) (Fin.cm (tm n zs) (iv n zs e) a b) = true := cmb_base g ha hb h rfl
theorem nil_grows (g : IsGrp n zs e) {K : Nat} (hin : ∀ i, i ≤ K → Nsg n zs e (lo n zs e i)) (hK : (lst n (lo n zs e K)).length = 1) (hs : subT n zs e s = true) (hno : (lst n s).length ≠ n) : (lst n s).length < (lst n (norq n zs e s)).length := by
  have F := grp_fg g
  have V := grp_iv g
  have S := subT_iff.1 hs
  have h0 : ∃ x, x < n ∧ lo n zs e 0 x = true ∧ ¬ s x = true := Classical.byContradiction fun h => hno (by
    have h1 : lst n s = lst n (fun _ => true) := lst_congr fun x hx => by
      rw [Bool.eq_iff_iff]
      exact ⟨fun _ => rfl, fun _ => Classical.byContradiction fun h2 => h ⟨x, hx, rfl, h2⟩⟩
    rw [h1]
    unfold lst
    rw [List.filter_eq_self.2 (fun _ _ => rfl), List.length_range])
  obtain ⟨i, hi, ⟨x, hx, h1, h2⟩, h3⟩ := last_of (P := fun i => ∃ x, x < n ∧ lo n zs e i x = true ∧ ¬ s x = true) h0 K (by
    rintro ⟨x, hx, h1, h2⟩
    rw [one_only g (hin K (Nat.le_refl _)).sg.one hK hx h1] at h2
    exact h2 S.one)
  have hin1 : ∀ y, y < n → lo n zs e (i + 1) y = true → s y = true := fun y hy h4 => Classical.byContradiction fun h5 => h3 ⟨y, hy, h4, h5⟩
  have key : ∀ z, z < n → lo n zs e i z = true → ∀ y, y ∈ List.range n → s y = true → s (Fin.cj (tm n zs) (iv n zs e) y z) = true := fun z hz hl y hy hsy => by
    have hyl := List.mem_range.1 hy
    have c1 := cm_lt g hz hyl
    have c2 := cm_lt g hyl hz
    have h5 := hin1 _ c1 (lo_up g hz hyl hl)
    have h6 : s (Fin.cm (tm n zs) (iv n zs e) y z) = true := S.inv F (List.mem_range.2 c1) (List.mem_range.2 c2) (cm_flip g hz hyl) h5
    rw [cj_cm g hyl hz]
    exact S.mul _ _ hy (List.mem_range.2 c2) hsy h6
  have hx' := List.mem_range.2 hx
  have hL := (hin i (by omega)).sg
  have hxi := hL.inv F hx' (V x hx').1 (V x hx').2.1 h1
  refine (lst_less (fun y hy h4 => (nor_iff y).2 (Fin.nor_sub F V S (List.mem_range.2 hy) h4))).2 ⟨x, hx, (nor_iff x).2 (Fin.nor_of F V hx' (key x hx h1) (key _ (List.mem_range.1 (V x hx').1) hxi)), h2⟩
theorem nil_meets (g : IsGrp n zs e) {K : Nat} {c : Nat → Bool} (hin : ∀ i, i ≤ K → Nsg n zs e (lo n zs e i)) (hK : (lst n (lo n zs e K)).length = 1) (hc : Nsg n zs e c) (hno : (lst n c).length ≠ 1) : 1 < (lst n (fun a => c a && cenq n zs (fun _ => true) a)).length := by
  have F := grp_fg g
  have V := grp_iv g
  obtain ⟨x0, hx0, hne0, hc0⟩ := two_of g hc.sg.one hno
  obtain ⟨i, hi, ⟨x, hx, hne, h1, h2⟩, h3⟩ := last_of (P := fun i => ∃ x, x < n ∧ x ≠ e ∧ c x = true ∧ lo n zs e i x = true) ⟨x0, hx0, hne0, hc0, rfl⟩ K (by
    rintro ⟨x, hx, h1, h2, h3⟩
    exact h1 (one_only g (hin K (Nat.le_refl _)).sg.one hK hx h3))
  have hcen : ∀ x, x < n → (∀ y, y < n → tm n zs x y = tm n zs y x) → cenq n zs (fun _ => true) x = true := fun x _ h => by
    unfold cenq
    rw [List.all_eq_true]
    exact fun y hy => decide_eq_true (h y (mem_lst.1 hy).1)
  refine more_of g ?_ hx hne ?_
  · rw [Bool.and_eq_true]
    exact ⟨hc.sg.one, hcen e g.elt fun y hy => by rw [F.left y (List.mem_range.2 hy), F.right y (List.mem_range.2 hy)]⟩
  · rw [Bool.and_eq_true]
    refine ⟨h1, hcen x hx fun y hy => (Fin.cm_one F V (List.mem_range.2 hx) (List.mem_range.2 hy)).1 ?_⟩
    exact Classical.byContradiction fun h4 => h3 ⟨_, cm_lt g hx hy, h4, hc.cm_in g hx hy h1, lo_up g hx hy h2⟩
theorem clo_nsg (g : IsGrp n zs e) {q p : Nat → Bool} (hp : ∀ a, a < n → (p a = true ↔ Mkd n zs e (cloq n zs e q n) a)) : Nsg n zs e p := by
  have F := grp_fg g
  have V := grp_iv g
  refine ⟨made_sg g hp, fun x a hx ha h => ?_⟩
  have hm := Fin.cj_mem F V hx ha
  exact (hp _ (List.mem_range.1 hm)).2 ((mkd_clo _).2 (Fin.clos_nm F V x a hx ha ((mkd_clo _).1 ((hp x (List.mem_range.1 hx)).1 h))))
end Go.Proofs.YtjiapicknkjhmaaGreatDoor

namespace Go.Proofs.YtjiapicknkjhmaaGreatDoor
open Go Go.RowKit

set_option maxRecDepth 100000 in
set_option maxHeartbeats 4000000 in
theorem clo_bad (N : Int) (v u0 : Value) (zs l0 : List Int) (w : World) (hv : Sl w v zs) (hu : Sl w u0 l0) (hc : (sfault N zs l0).1 ≠ 0) :
    Calls Tryz.prog 16 #[.agg #[.int .i64 N, v], u0] w fun x w' => x = .returned (.tuple #[.slice none 0 0, .agg #[.int .i64 (sfault N zs l0).1, .int .i64 (sfault N zs l0).2]]) ∧ Below w.heap.size w w' := by
  obtain ⟨w0, BG⟩ := Beg.new w N v
  have hv0 := hv.below BG.bel
  obtain ⟨c0, c1, _, _⟩ := BG.box.two
  have hck := oset_bad N v u0 zs l0 w0 hv0 (hu.below BG.bel) hc
  obtain ⟨c, i, hci⟩ : ∃ c i, sfault N zs l0 = (c, i) := ⟨_, _, rfl⟩
  rw [hci] at hck hc ⊢
  simp only at hc hck
  have HCK := hide hck
  clear hck hci
  have hcb : (c != 0) = true := by simpa using hc
  rw [BG.eq] at c0 c1
  go_enter Tryz.func16, Tryz.ntmps16
  go_wp2_with fail
  rw [← BG.eq]
  refine HCK.out.mono ?_
  rintro x w1 ⟨rfl, hb1⟩
  clear c0 c1
  obtain ⟨w2, hw2⟩ : ∃ w2, w2 = (w1.alloc (.cells #[.int .i64 0, .slice none 0 0, .int .i64 0, .slice none 0 0] 66)).alloc (.cells #[.int .i64 c, .int .i64 i] 28) := ⟨_, rfl⟩
  have hB1 : Below w0.heap.size w0 w2 := by rw [hw2]; exact bcat2 hb1 ((balloc w1 _).alloc (by simp) _)
  have hF1 : Blk w2 (w1.heap.size + 1) 28 [.int .i64 c, .int .i64 i] := by
    rw [hw2]
    have := blk0 (w := w1.alloc (.cells #[.int .i64 0, .slice none 0 0, .int .i64 0, .slice none 0 0] 66)) (T := 28) (.int .i64 c) (.int .i64 i)
    rwa [World.size_alloc] at this
  have hR1 := blk_below BG.res hB1
  have hBw := bcat BG.bel hB1 BG.bel.size
  obtain ⟨y0, y1, fy0, fy1⟩ := hR1.two
  obtain ⟨t0, t1, _, _⟩ := hF1.two
  rw [hw2] at t0 t1
  go_wp2_with fail
  rw [← hw2]
  rw [← hw2] at t0 t1
  clear hw2
  go_region
  all_goals (
    go_wp2
    obtain ⟨hR6, hB6⟩ := put2 hR1 hBw (by omega) c i
    have hB7 := bdrew hB6
    have hR7 : Blk ((w2.setCell ⟨w.heap.size + 1, 0, none⟩ (.int .i64 c)).setCell ⟨w.heap.size + 1, 1, none⟩ (.int .i64 i)).drew (w.heap.size + 1) 28 [.int .i64 c, .int .i64 i] := hR6
    generalize ((w2.setCell ⟨w.heap.size + 1, 0, none⟩ (.int .i64 c)).setCell ⟨w.heap.size + 1, 1, none⟩ (.int .i64 i)).drew = W at hR7 hB7 ⊢
    obtain ⟨z0, z1, _, _⟩ := hR7.two
    exact bodyPost_ret (v := .tuple #[.slice none 0 0, .agg #[.int .i64 c, .int .i64 i]]) (by simp [results, Tryz.results16, go_sem, z0, z1]) rfl ⟨rfl, hB7⟩)
theorem part_of_lst (n e : Nat) (v u : Value) (zs : List Int) (q : Nat → Bool) (w : World) (hv : Sl w v zs) (hg : IsGrp n zs e) (hu : Sl w u (li (lst n q))) (hT : Tab w) (hs : subT n zs e q = true) :
    Calls Tryz.prog 17 #[.agg #[.int .i64 n, v], u] w fun x w' => ∃ r1 r2 r3, x = .returned (.tuple #[.agg #[.int .i64 (lst n q).length, .slice r1 r2 r3], .agg #[.int .i64 0, .int .i64 0]]) ∧ Sl w' (.slice r1 r2 r3) (mkT (lst n q).length (parF n zs (lst n q))) ∧ Below w.heap.size w w' := by
  have h := part_good n e v u zs (li (lst n q)) w hv hg hu hT (lst_fault n q) ((subT_congr hg fun a ha => pset_lst ha).trans hs)
  rwa [lst_pset] at h
theorem pfault_zero {n e : Nat} {zs : List Int} {p : Int} (g : IsGrp n zs e) (h : primeB p = true) : pfault n zs p = (0, 0) := by
  unfold pfault
  rw [h, if_neg (by simp), gfault_of_grp g]
/-- What stays true while the law goes on. -/
structure FS (w : World) (n : Nat) (v nv : Value) (b : Nat) (NL : List Int) (W : World) : Prop where
  bel : Below w.heap.size w W
  x : BoxG W w.heap.size n v
  nb : Boxed W b 22 nv
  f : Blk W (b + 1) 28 [.int .i64 0, .int .i64 0]
  sn : Sl W nv NL
theorem FS.below {w : World} {n : Nat} {v nv : Value} {b : Nat} {NL : List Int} {W W' : World} (h : FS w n v nv b NL W) (hb : Below W.heap.size W W') : FS w n v nv b NL W' :=
  ⟨bcat2 h.bel hb, blk_below h.x hb, Boxed.below h.nb hb, blk_below h.f hb, h.sn.below hb⟩
end Go.Proofs.YtjiapicknkjhmaaGreatDoor

namespace Go.Proofs.YtjiapicknkjhmaaGreatDoor
open Go Go.RowKit

set_option maxRecDepth 100000 in
set_option maxHeartbeats 8000000 in
theorem quo_goodF (n e : Nat) (v u : Value) (zs l : List Int) (w : World) (hv : Sl w v zs) (hg : IsGrp n zs e) (hu : Sl w u l) (hT : Tab w) (hl : lfault n l = (0, 0)) (hsb : subT n zs e (pset l) = true) (hN : nrmq n zs e (pset l) = true) :
    Calls Tryz.prog 18 #[.agg #[.int .i64 n, v], u] w fun x w' => ∃ r1 r2 r3 s1 s2 s3, x = .returned (.tuple #[.agg #[.int .i64 (fsts n (rgtq n zs (lst n (pset l))) n).length, .slice r1 r2 r3], .slice s1 s2 s3, .agg #[.int .i64 0, .int .i64 0]]) ∧ SlF w.heap.size w' (.slice r1 r2 r3) (mkT (fsts n (rgtq n zs (lst n (pset l))) n).length (quoF n zs (rgtq n zs (lst n (pset l))))) ∧ SlF w.heap.size w' (.slice s1 s2 s3) (ontoL n (rgtq n zs (lst n (pset l)))) ∧ Below w.heap.size w w' := by
  obtain ⟨i0, hi, hz0, hz1, hz2⟩ := info_parts info3b
  have hn := hg.tab.le
  have PP := rgt_parts hg hsb
  obtain ⟨w0, BG⟩ := BegQ.new w n v
  have HN := hide (nrm_good n e v u zs l w0 (hv.below BG.bel) hg (hu.below BG.bel) (hT.below BG.bel) hl hsb)
  rw [hN] at HN
  have HRG := hide (fun W (h : Below w.heap.size w W) => lists_sl (Nat.lt_of_lt_of_le hT.lt h.size) (rgt_good n e v u zs l W (hv.below h) hg (hu.below h) (hT.below h) hl hsb))
  obtain ⟨f, hf⟩ : ∃ f, f = rgtq n zs (lst n (pset l)) := ⟨_, rfl⟩
  rw [← hf] at HRG PP ⊢
  clear hf
  obtain ⟨K, hK⟩ : ∃ K, K = (fsts n f n).length := ⟨_, rfl⟩
  have hK6 : K ≤ 60 := by rw [hK]; exact Nat.le_trans (fsts_len n f n) hn
  have HCL := hide (show (csl n f n).length = K by rw [csl_len, hK])
  have HNUM := hide (fun W v9 (h : SlL W v9 (csl n f n)) => numbers_ok v9 (csl n f n) W h (by rw [HCL.out]; exact hK6) (fun t _ => Nat.le_trans (csl_len_le t) hn) (fun t a ha => by
    obtain ⟨b, hb, rfl, _⟩ := (csl_at PP t a).1 ha
    omega) (fun s t a h1 h2 => by
    obtain ⟨b, hb, rfl, h3⟩ := (csl_at PP s a).1 h1
    obtain ⟨b', hb', he, h4⟩ := (csl_at PP t _).1 h2
    have : b = b' := by omega
    subst this
    omega))
  have HNL := hide (fun a (ha : a < n) => (prts_num_lt PP ha).1)
  rw [← hK] at HNL
  have HAT := hide (fun (D : DataW Unit) (h : MLs (csl n f n) (csl n f n).length 0 D) a (ha : a < n) => h.old (num n f a) (by rw [csl_len]; exact (prts_num_lt PP ha).1) a ((csl_at PP _ _).2 ⟨a, ha, rfl, rfl⟩))
  have HGR := hide (fun W lv mb c (D : DataW Unit) (h : Below w.heap.size w W) (hL : SlL W lv (csl n f n)) (hm : W.ownsMap Tryz.prog 3 (plainElem Tryz.prog 3) mb c D) (hM : MLs (csl n f n) (csl n f n).length 0 D) =>
    group_ok n K v lv zs (csl n f n) (fun i => (fsts n f n)[i]?.getD 0) (quoF n zs f) mb c D W hg.tab (hv.below h) hL HCL.out hK6 (fun i hi => by
      rw [hK] at hi
      obtain ⟨s, hs⟩ := csl_head PP hi
      exact ⟨s, hs, by rw [List.getElem?_eq_getElem hi]; exact fst_lt hi⟩) hm (fun i j hi hj => by
      rw [hK] at hi hj
      have h1 := fst_lt hi
      have h2 := fst_lt hj
      unfold quoF
      simp only [List.getElem?_eq_getElem hi, List.getElem?_eq_getElem hj, Option.getD_some]
      exact HAT.out D hM _ (tm_lt hg.tab h1 h2)) (fun i j hi hj => by
      rw [hK] at hi hj
      unfold quoF
      simp only [List.getElem?_eq_getElem hi, List.getElem?_eq_getElem hj, Option.getD_some]
      have := HNL.out _ (tm_lt hg.tab (fst_lt hi) (fst_lt hj))
      omega))
  rw [← hK]
  have HK := hide hK
  clear hK PP hN
  obtain ⟨c0, c1, _, _⟩ := BG.box.two
  rw [BG.eq] at c0 c1
  go_enter Tryz.func18, Tryz.ntmps18
  go_wp2_with fail
  rw [← BG.eq]
  clear c0 c1
  refine HN.out.mono ?_
  rintro x w1 ⟨rfl, hb1⟩
  have hb2 := bcat2 hb1 (balloc w1 (.cells #[.int .i64 0, .int .i64 0] 28))
  have hF2 := blk0 (w := w1) (T := 28) (.int .i64 0) (.int .i64 0)
  have hBw := bcat BG.bel hb2 BG.bel.size
  have hX2 := blk_below BG.box hb2
  have hG2 := blk_below BG.grp hb2
  have hR2 := blk_below BG.res hb2
  obtain ⟨t0, t1, _, _⟩ := hF2.two
  obtain ⟨c0, c1, _, _⟩ := hX2.two
  go_wp2_with fail
  generalize w1.alloc (.cells #[.int .i64 0, .int .i64 0] 28) = w2 at *
  clear t0 t1 c0 c1 hb1 hb2
  refine (HRG.out _ hBw).mono ?_
  rintro x w3 ⟨r1, r2, r3, rfl, hr, hb3⟩
  have hF3 := blk_below hF2 hb3
  have hX3 := blk_below hX2 hb3
  have hG3 := blk_below hG2 hb3
  have hR3 := blk_below hR2 hb3
  have hBw3 := bcat2 hBw hb3
  obtain ⟨t0, t1, ft0, ft1⟩ := hF3.two
  obtain ⟨s0, s1⟩ := hF3.self
  go_wp2_with fail
  clear t0 t1 ft0 ft1 s0 s1
  refine (HNUM.out _ _ hr).mono ?_
  rintro x w4 ⟨D, rfl, hmap, hML, hb4⟩
  have hX4 := blk_below hX3 hb4
  have hG4 := blk_below hG3 hb4
  have hR4 := blk_below hR3 hb4
  have hr4 := hr.below hb4
  have hBw4 := bcat2 hBw3 hb4
  obtain ⟨k0, k1, _, _⟩ := hX4.two
  clear hX2 hX3 hG2 hG3 hR2 hR3 hF2 hF3 hr hBw hBw3 HNUM HRG HN
  go_wp2_with (first
    | (at_make; refine wpList_make_full _ rfl _ _ 22 rfl w4.heap.size 3 i0 (.int .i64 0) 1 under22b hi hz0 hz1 _ _ _ _ n rfl rfl rfl rfl (by rw [hz2]; omega) (by unfold maxLen; omega) (by simp) ?_))
  intro w5 hown hgr
  have hM5 : Blk w5 w4.heap.size 3 ((ontoU n f 0).map (Value.int .i64)) := by
    have := Blk.of_owns hown
    rw [made_rep] at this
    rw [ontoU_zero, List.map_replicate]; exact this
  have hb5 : Below w4.heap.size w4 w5 := (Below.refl _ w4).grown hgr (Nat.le_refl _) (by simp)
  clear hown hgr k0 k1
  have hw34 := hb4.size
  have HMP := hide hmap
  clear hmap
  go_wp2
  go_loopw [46] (fun i wr => ∃ a : Nat, a ≤ n ∧ i = .int .i64 a ∧ Blk wr w4.heap.size 3 ((ontoU n f a).map (Value.int .i64)) ∧ Below w4.heap.size w4 wr) (fun i _ => n - (intOf i).toNat)
  case atStart => exact ⟨0, Nat.zero_le _, rfl, hM5, hb5⟩
  case round =>
    obtain ⟨a, ha, rfl, hMa, hBa⟩ := hrel
    clear hM5 hb5
    by_cases hlt : a < n
    · have hai : (a : Int) < (n : Int) := by omega
      have hlk := look_int (HMP.out.kept (below_grown hBa none) (by simp)) (show a < 60 by omega) (HAT.out D hML a hlt)
      have hMc := hMa.int (y := a) (by rw [ontoU_len]; exact hlt)
      have hMf := hMa.frozen a
      have hM6 := hMa.setInt a (num n f a : Int)
      rw [← ontoU_set] at hM6
      have hB6 := hBa.setCell (p := ⟨w4.heap.size, a, none⟩) (Nat.le_refl _) (.int .i64 (num n f a : Int))
      go_wp2
      go_roundw
      case rel => exact ⟨a + 1, by omega, by go_num, hM6, hB6⟩
      case measure => simp [intOf]; omega
    · have hai : ¬ (a : Int) < (n : Int) := by omega
      have han : a = n := by omega
      rw [han, ontoU_all] at hMa
      clear han
      have hXr := blk_below hX4 hBa
      have hGr := blk_below hG4 hBa
      have hRr := blk_below hR4 hBa
      have hBr := bcat2 hBw4 hBa
      obtain ⟨k0, k1, _, _⟩ := hXr.two
      go_wp2_with fail
      clear k0 k1
      refine (HGR.out wr _ _ _ D hBr (hr4.below hBa) (HMP.out.kept (below_grown hBa none) (by simp)) hML).mono ?_
      rintro x w6 ⟨r, rfl, hrow, hb6⟩
      obtain ⟨T, hTe⟩ : ∃ T, T = mkT K (quoF n zs f) := ⟨_, rfl⟩
      rw [← hTe] at hrow
      have HTE := hide hTe
      clear hTe
      obtain ⟨rx, rcap, rfl⟩ := own_slice hrow
      have hMl := hMa.lt
      have hRl := hRr.lt
      have hGl := hGr.lt
      have hG6 := blk_below hGr hb6
      have hR6 := blk_below hRr hb6
      have hM6 := blk_below hMa hb6
      have hB6 := bcat2 hBr hb6
      obtain ⟨g0, g1, fg0, fg1⟩ := hG6.two
      have hG7 := (hG6.set 0 (.int .i64 K)).set 1 (.slice rx T.length rcap)
      have hR7 := (hR6.other (p := ⟨w.heap.size + 1, 0, none⟩) (by simp) (.int .i64 K)).other (p := ⟨w.heap.size + 1, 1, none⟩) (by simp) (.slice rx T.length rcap)
      have hMne : w4.heap.size ≠ w.heap.size + 1 := by have := hG4.lt; omega
      have hM7 := (hM6.other (p := ⟨w.heap.size + 1, 0, none⟩) (by simpa using hMne) (.int .i64 K)).other (p := ⟨w.heap.size + 1, 1, none⟩) (by simpa using hMne) (.slice rx T.length rcap)
      have hB7 := (hB6.setCell (p := ⟨w.heap.size + 1, 0, none⟩) (by simp) (.int .i64 K)).setCell (p := ⟨w.heap.size + 1, 1, none⟩) (by simp) (.slice rx T.length rcap)
      have hrow7 := row_keep (W' := (w6.setCell ⟨w.heap.size + 1, 0, none⟩ (.int .i64 K)).setCell ⟨w.heap.size + 1, 1, none⟩ (.slice rx T.length rcap)) hrow (fun g h1 _ => (Below.heap_setCell _ _ _ g (by simp; omega)).trans (Below.heap_setCell _ _ _ g (by simp; omega)))
      obtain ⟨y0, y1, fy0, fy1⟩ := hR7.two
      obtain ⟨s0, s1⟩ := hR7.self
      obtain ⟨v0, v1, fv0, fv1⟩ := hR6.two
      obtain ⟨z0, z1, _, _⟩ := hG7.two
      have hse := slF_blk hM7 (ontoL_len n f).symm (by rw [ontoL_len]; omega) hBw4.size
      go_wp2
      exact bodyPost_ret (v := .tuple #[.agg #[.int .i64 K, .slice rx T.length rcap], .slice (some ⟨w4.heap.size, 0, none⟩) n n, .agg #[.int .i64 0, .int .i64 0]]) (by simp [results, Tryz.results18, go_sem, z0, z1, y0, y1]) rfl ⟨_, _, _, _, _, _, rfl, by rw [← HTE.out]; exact slF_row hrow7 hBr.size (by rw [HTE.out, mkT_len]; have := HNL.out e hg.elt; exact Nat.mul_pos (by omega) (by omega)), hse, hB7⟩
theorem mkG {X U : World} {x y : Value} (k : Below (X.alloc (.cells #[x, y] 24)).heap.size (X.alloc (.cells #[x, y] 24)) U) : Blk U X.heap.size 24 [x, y] := blk_below (blk0 x y) k
/-- A table in a box of its own behind a region. -/
def GRel (w0 : World) (K : Nat) (T : List Int) (s17 : Value) (wx : World) : Prop := ∃ (b : Nat) (r1 : Option Addr) (r2 r3 : Nat), s17 = .pointer (some ⟨b, 0, none⟩) ∧ w0.heap.size ≤ b ∧ BoxG wx b K (.slice r1 r2 r3) ∧ Sl wx (.slice r1 r2 r3) T ∧ Below w0.heap.size w0 wx
theorem grel_new {w0 U : World} {K : Nat} {T : List Int} {r1 : Option Addr} {r2 r3 S : Nat} (hB : Below w0.heap.size w0 U) (hr : SlF S U (.slice r1 r2 r3) T) : GRel w0 K T (.pointer (some ⟨U.heap.size, 0, none⟩)) (U.alloc (.cells #[.int .i64 K, .slice r1 r2 r3] 24)) :=
  ⟨U.heap.size, r1, r2, r3, rfl, hB.size, blk0 _ _, hr.sl.below (balloc _ _), bcat2 hB (balloc _ _)⟩
theorem grel_put {w0 U : World} {K : Nat} {T : List Int} {r1 : Option Addr} {r2 r3 S b : Nat} {x y : Value} (hb : w0.heap.size ≤ b) (hB : Below w0.heap.size w0 U) (hp : Blk U b 24 [x, y]) (hlt : b < S) (hr : SlF S U (.slice r1 r2 r3) T) : GRel w0 K T (.pointer (some ⟨b, 0, none⟩)) ((U.setCell ⟨b, 0, none⟩ (.int .i64 K)).setCell ⟨b, 1, none⟩ (.slice r1 r2 r3)) :=
  ⟨b, r1, r2, r3, rfl, hb, (hp.set 0 _).set 1 _, (hr.keep (fun c h1 _ => (Below.heap_setCell _ _ _ _ (by simp; omega)).trans (Below.heap_setCell _ _ _ _ (by simp; omega))) (by rw [size_set, size_set]; exact Nat.le_refl _)).sl, bSet (bSet hB hb) hb⟩
set_option maxRecDepth 100000 in
set_option maxHeartbeats 8000000 in
theorem cst_out (n : Nat) (X1 X2 : Nat) (v1 : Option Addr) (v2 v3 : Nat) (a1 : Option Addr) (a2 a3 : Nat) (l1 : Option Addr) (l2 l3 : Nat) (w : World)
    (HO1 : Hid (∀ W, Below w.heap.size w W → Calls Tryz.prog 58 #[.slice l1 l2 l3] W fun x W' => x = .returned (.int .u64 X1) ∧ W' = W))
    (HO2 : Hid (∀ W, Below w.heap.size w W → Calls Tryz.prog 58 #[.slice a1 a2 a3] W fun x W' => x = .returned (.int .u64 X2) ∧ W' = W))
    (HIN : Hid (∀ W, Calls Tryz.prog 59 #[.int .u64 X1, .int .u64 X2] W fun x W' => x = .returned (.bool false) ∧ W' = W)) :
    Calls Tryz.prog 24 #[.agg #[.int .i64 n, .slice v1 v2 v3], .slice a1 a2 a3, .slice l1 l2 l3] w fun e w' => e = .returned (.int .i64 7) ∧ Below w.heap.size w w' := by
  have hB0 : Below w.heap.size w (w.alloc (.cells #[.int .i64 n, .slice v1 v2 v3] 24)) := balloc w _
  have hX0 : BoxG (w.alloc (.cells #[.int .i64 n, .slice v1 v2 v3] 24)) w.heap.size n (.slice v1 v2 v3) := blk0 (w := w) (T := 24) _ _
  go_enter Tryz.func24, Tryz.ntmps24
  go_wp2_with fail
  generalize w.alloc (.cells #[.int .i64 n, .slice v1 v2 v3] 24) = w0 at *
  refine (HO1.out _ hB0).mono ?_
  rintro x w1 ⟨rfl, rfl⟩
  go_wp2_with fail
  refine (HO2.out _ hB0).mono ?_
  rintro x w1 ⟨rfl, rfl⟩
  go_wp2_with fail
  refine (HIN.out _).mono ?_
  rintro x w1 ⟨rfl, rfl⟩
  go_wp2
  go_ret
  exact ⟨rfl, hB0⟩
set_option maxRecDepth 100000 in
set_option maxHeartbeats 8000000 in
theorem cst_in (n K M : Nat) (TA TQ PL : List Int) (bb : Bool) (X1 X2 : Nat) (v1 : Option Addr) (v2 v3 : Nat) (a1 : Option Addr) (a2 a3 : Nat) (l1 : Option Addr) (l2 l3 : Nat) (w : World)
    (HO1 : Hid (∀ W, Below w.heap.size w W → Calls Tryz.prog 58 #[.slice l1 l2 l3] W fun x W' => x = .returned (.int .u64 X1) ∧ W' = W))
    (HO2 : Hid (∀ W, Below w.heap.size w W → Calls Tryz.prog 58 #[.slice a1 a2 a3] W fun x W' => x = .returned (.int .u64 X2) ∧ W' = W))
    (HIN : Hid (∀ W, Calls Tryz.prog 59 #[.int .u64 X1, .int .u64 X2] W fun x W' => x = .returned (.bool true) ∧ W' = W))
    (HPA : Hid (∀ W, Below w.heap.size w W → Calls Tryz.prog 17 #[.agg #[.int .i64 n, .slice v1 v2 v3], .slice a1 a2 a3] W fun x W' => ∃ t1 t2 t3, x = .returned (.tuple #[.agg #[.int .i64 K, .slice t1 t2 t3], .agg #[.int .i64 0, .int .i64 0]]) ∧ Sl W' (.slice t1 t2 t3) TA ∧ Below W.heap.size W W'))
    (HPL : Hid (∀ W, Below w.heap.size w W → Calls Tryz.prog 60 #[.slice a1 a2 a3, .slice l1 l2 l3] W fun x W' => ∃ r1 r2 r3, x = .returned (.slice r1 r2 r3) ∧ Sl W' (.slice r1 r2 r3) PL ∧ Below W.heap.size W W'))
    (HQU : Hid (∀ W a1 a2 a3 b1 b2 b3, Below w.heap.size w W → Sl W (.slice a1 a2 a3) TA → Sl W (.slice b1 b2 b3) PL → Calls Tryz.prog 18 #[.agg #[.int .i64 K, .slice a1 a2 a3], .slice b1 b2 b3] W fun x W' => ∃ r1 r2 r3 s1 s2 s3, x = .returned (.tuple #[.agg #[.int .i64 M, .slice r1 r2 r3], .slice s1 s2 s3, .agg #[.int .i64 0, .int .i64 0]]) ∧ SlF W.heap.size W' (.slice r1 r2 r3) TQ ∧ Below W.heap.size W W'))
    (HSI : Hid (∀ W a1 a2 a3, Below w.heap.size w W → Sl W (.slice a1 a2 a3) TQ → Calls Tryz.prog 61 #[.agg #[.int .i64 M, .slice a1 a2 a3]] W fun x W' => x = .returned (.tuple #[.bool bb, .agg #[.int .i64 0, .int .i64 0]]) ∧ Below W.heap.size W W')) :
    Calls Tryz.prog 24 #[.agg #[.int .i64 n, .slice v1 v2 v3], .slice a1 a2 a3, .slice l1 l2 l3] w fun e w' => e = .returned (.int .i64 (if bb then 0 else 6)) ∧ Below w.heap.size w w' := by
  have hB0 : Below w.heap.size w (w.alloc (.cells #[.int .i64 n, .slice v1 v2 v3] 24)) := balloc w _
  have hX0 : BoxG (w.alloc (.cells #[.int .i64 n, .slice v1 v2 v3] 24)) w.heap.size n (.slice v1 v2 v3) := blk0 (w := w) (T := 24) _ _
  go_enter Tryz.func24, Tryz.ntmps24
  go_wp2_with fail
  generalize w.alloc (.cells #[.int .i64 n, .slice v1 v2 v3] 24) = w0 at *
  refine (HO1.out _ hB0).mono ?_
  rintro x w1 ⟨rfl, rfl⟩
  go_wp2_with fail
  refine (HO2.out _ hB0).mono ?_
  rintro x w1 ⟨rfl, rfl⟩
  go_wp2_with fail
  refine (HIN.out _).mono ?_
  rintro x w1 ⟨rfl, rfl⟩
  obtain ⟨c0, c1, _, _⟩ := hX0.two
  go_wp2_with fail
  clear c0 c1
  refine (HPA.out _ hB0).mono ?_
  rintro x w3 ⟨t1, t2, t3, rfl, hst, hb3⟩
  obtain ⟨w4, hw4⟩ : ∃ w4, w4 = (w3.alloc (.cells #[.int .i64 K, .slice t1 t2 t3] 24)).alloc (.cells #[.int .i64 0, .int .i64 0] 28) := ⟨_, rfl⟩
  have hbw4 : Below w3.heap.size w3 w4 := by rw [hw4]; exact (balloc w3 _).alloc (by simp) _
  have hY4 : BoxG w4 w3.heap.size K (.slice t1 t2 t3) := by rw [hw4]; exact (blk0 (w := w3) (T := 24) _ _).alloc _
  have hF4 : Blk w4 (w3.heap.size + 1) 28 [.int .i64 0, .int .i64 0] := by
    rw [hw4]
    have := blk0 (w := w3.alloc (.cells #[.int .i64 K, .slice t1 t2 t3] 24)) (T := 28) (.int .i64 0) (.int .i64 0)
    rwa [World.size_alloc] at this
  have hB4 := bcat2 hB0 (bcat2 hb3 hbw4)
  have hst4 := hst.below hbw4
  have hs3 : w.heap.size ≤ w3.heap.size := Nat.le_trans hB0.size hb3.size
  obtain ⟨c0, c1, _, _⟩ := hY4.two
  obtain ⟨f0, f1, f2, f3⟩ := hF4.two
  rw [hw4] at c0 c1 f0 f1 f2 f3
  go_wp2_with fail
  rw [← hw4] at c0 c1 f0 f1 f2 f3 ⊢
  clear hw4 hb3 hbw4 hst HPA HO1 HO2 HIN hX0 hB0
  have hS : ∀ W9, Below w4.heap.size w4 W9 → (Below w4.heap.size w4 W9 ∧ W9.cell? ⟨w3.heap.size, 0, none⟩ = some (.int .i64 K) ∧ W9.cell? ⟨w3.heap.size, 1, none⟩ = some (.slice t1 t2 t3) ∧ W9.cell? ⟨w3.heap.size + 1, 0, none⟩ = some (.int .i64 0) ∧ W9.cell? ⟨w3.heap.size + 1, 1, none⟩ = some (.int .i64 0) ∧ W9.frozen? ⟨w3.heap.size + 1, 0, none⟩ = false ∧ W9.frozen? ⟨w3.heap.size + 1, 1, none⟩ = false ∧ W9.setCell ⟨w3.heap.size + 1, 0, none⟩ (.int .i64 0) = W9 ∧ W9.setCell ⟨w3.heap.size + 1, 1, none⟩ (.int .i64 0) = W9) := fun W9 h => by
    have hF9 := blk_below hF4 h
    obtain ⟨u0, u1, u2, u3⟩ := hF9.two
    obtain ⟨s0, s1⟩ := hF9.self
    exact ⟨h, below_cell h c0, below_cell h c1, u0, u1, u2, u3, s0, s1⟩
  have hS0 := hS _ (bdrew (Below.refl _ w4))
  go_cut [9, 10] (fun s17 _ wx => GRel w4 M TQ s17 wx)
  case first =>
    clear c0 c1 f0 f1 f2 f3
    go_region_held3 (fun W9 => Below w4.heap.size w4 W9 ∧ W9.cell? ⟨w3.heap.size, 0, none⟩ = some (.int .i64 K) ∧ W9.cell? ⟨w3.heap.size, 1, none⟩ = some (.slice t1 t2 t3) ∧ W9.cell? ⟨w3.heap.size + 1, 0, none⟩ = some (.int .i64 0) ∧ W9.cell? ⟨w3.heap.size + 1, 1, none⟩ = some (.int .i64 0) ∧ W9.frozen? ⟨w3.heap.size + 1, 0, none⟩ = false ∧ W9.frozen? ⟨w3.heap.size + 1, 1, none⟩ = false ∧ W9.setCell ⟨w3.heap.size + 1, 0, none⟩ (.int .i64 0) = W9 ∧ W9.setCell ⟨w3.heap.size + 1, 1, none⟩ (.int .i64 0) = W9)
      (first | exact hS0 | assumption | exact hS _ (bcat2 (And.left ‹_›) hl6) | exact hS _ (bcat2 (And.left ‹_›) hl5) | exact hS _ (bcat2 (And.left ‹_›) (balloc _ _)) | exact hS _ (bcat2 hU6 (balloc _ _)) | exact hS _ (bSet (bSet hU6 hU5.size) hU5.size) | exact hS _ (bSet (bSet hU6 (Nat.le_refl _)) (Nat.le_refl _)))
      (first
        | (go_at_call 60; refine (HPL.out _ (bcat2 hB4 (And.left ‹_›))).mono ?_; rintro e5 U5 ⟨p1, p2, p3, rfl, ha5, hl5⟩; have hU5 := bcat2 (And.left ‹_›) hl5; (first | (with_reducible have pA := mkG hl5; have ltA := pA.lt) | (with_reducible have pA := mkG (undA hl5); have ltA := pA.lt) | skip))
        | (go_at_call 18; refine (HQU.out _ _ _ _ _ _ _ (bcat2 hB4 (And.left ‹_›)) (hst4.below (And.left ‹_›)) (by first | exact ha5 | exact ha5.below (balloc _ _))).mono ?_; rintro e6 U6 ⟨r1, r2, r3, s1, s2, s3, rfl, hr6, hl6⟩; have hU6 := bcat2 (And.left ‹_›) hl6; (first | (with_reducible have pB := mkG hl6) | skip); (first | (with_reducible have pA := blk_below pA hl6) | skip); (try (obtain ⟨_, _, _, _⟩ := pA.two)); (try (obtain ⟨_, _, _, _⟩ := pB.two))))
    all_goals (go_wp2; go_meet)
    all_goals (first
      | exact grel_new hU6 hr6
      | exact grel_put hU5.size hU6 pB (by simp) hr6
      | exact grel_put (Nat.le_refl _) hU6 pA ltA hr6)
  case rest =>
    obtain ⟨b, r1, r2, r3, rfl, hbb, hX9, hr9, hb9⟩ := hcut
    clear c0 c1 f0 f1 f2 f3 hS hS0
    have hF9 := blk_below hF4 hb9
    obtain ⟨f0, f1, f2, f3⟩ := hF9.two
    obtain ⟨c0, c1, _, _⟩ := hX9.two
    have hB9 := bcat2 hB4 hb9
    go_wp2_with fail
    clear c0 c1 f0 f1 f2 f3
    refine (HSI.out _ _ _ _ hB9 hr9).mono ?_
    rintro x wa ⟨rfl, hba⟩
    have hFa := blk_below hF9 hba
    have hBa := bcat2 hB9 hba
    obtain ⟨f0, f1, f2, f3⟩ := hFa.two
    have hst := store_same f0 f1
    cases bb with
    | true =>
      go_wp2
      go_ret
      exact ⟨rfl, hBa⟩
    | false =>
      go_wp2
      go_ret
      exact ⟨rfl, hBa⟩
end Go.Proofs.YtjiapicknkjhmaaGreatDoor

namespace Go.Proofs.YtjiapicknkjhmaaGreatDoor
open Go Go.RowKit

theorem orel_put {w U : World} {fb : Nat} (hw : w.heap.size ≤ fb) (hB : Below w.heap.size w U) (hF : Blk U fb 28 [.int .i64 0, .int .i64 0]) : Blk ((U.setCell ⟨fb, 0, none⟩ (.int .i64 4)).setCell ⟨fb, 1, none⟩ (.int .i64 0)) fb 28 [.int .i64 4, .int .i64 0] ∧ Below w.heap.size w ((U.setCell ⟨fb, 0, none⟩ (.int .i64 4)).setCell ⟨fb, 1, none⟩ (.int .i64 0)) :=
  ⟨(hF.set 0 _).set 1 _, bSet (bSet hB hw) hw⟩
theorem orel_alloc {w U : World} {o : Obj} {fb : Nat} (hw : w.heap.size ≤ fb) (hB : Below w.heap.size w U) (hF : Blk U fb 28 [.int .i64 0, .int .i64 0]) : Blk (((U.setCell ⟨fb, 0, none⟩ (.int .i64 4)).setCell ⟨fb, 1, none⟩ (.int .i64 0)).alloc o) fb 28 [.int .i64 4, .int .i64 0] ∧ Below w.heap.size w (((U.setCell ⟨fb, 0, none⟩ (.int .i64 4)).setCell ⟨fb, 1, none⟩ (.int .i64 0)).alloc o) :=
  ⟨((hF.set 0 _).set 1 _).alloc o, (bSet (bSet hB hw) hw).alloc ((bSet (bSet hB hw) hw).size) o⟩
set_option maxRecDepth 100000 in
set_option maxHeartbeats 8000000 in
theorem cst_odd (n K : Nat) (TA PL : List Int) (X1 X2 : Nat) (v1 : Option Addr) (v2 v3 : Nat) (a1 : Option Addr) (a2 a3 : Nat) (l1 : Option Addr) (l2 l3 : Nat) (w : World)
    (HO1 : Hid (∀ W, Below w.heap.size w W → Calls Tryz.prog 58 #[.slice l1 l2 l3] W fun x W' => x = .returned (.int .u64 X1) ∧ W' = W))
    (HO2 : Hid (∀ W, Below w.heap.size w W → Calls Tryz.prog 58 #[.slice a1 a2 a3] W fun x W' => x = .returned (.int .u64 X2) ∧ W' = W))
    (HIN : Hid (∀ W, Calls Tryz.prog 59 #[.int .u64 X1, .int .u64 X2] W fun x W' => x = .returned (.bool true) ∧ W' = W))
    (HPA : Hid (∀ W, Below w.heap.size w W → Calls Tryz.prog 17 #[.agg #[.int .i64 n, .slice v1 v2 v3], .slice a1 a2 a3] W fun x W' => ∃ t1 t2 t3, x = .returned (.tuple #[.agg #[.int .i64 K, .slice t1 t2 t3], .agg #[.int .i64 0, .int .i64 0]]) ∧ Sl W' (.slice t1 t2 t3) TA ∧ Below W.heap.size W W'))
    (HPL : Hid (∀ W, Below w.heap.size w W → Calls Tryz.prog 60 #[.slice a1 a2 a3, .slice l1 l2 l3] W fun x W' => ∃ r1 r2 r3, x = .returned (.slice r1 r2 r3) ∧ Sl W' (.slice r1 r2 r3) PL ∧ Below W.heap.size W W'))
    (HQU : Hid (∀ W a1 a2 a3 b1 b2 b3, Below w.heap.size w W → Sl W (.slice a1 a2 a3) TA → Sl W (.slice b1 b2 b3) PL → Calls Tryz.prog 18 #[.agg #[.int .i64 K, .slice a1 a2 a3], .slice b1 b2 b3] W fun x W' => x = .returned (.tuple #[.agg #[.int .i64 0, .slice none 0 0], .slice none 0 0, .agg #[.int .i64 4, .int .i64 0]]) ∧ Below W.heap.size W W')) :
    Calls Tryz.prog 24 #[.agg #[.int .i64 n, .slice v1 v2 v3], .slice a1 a2 a3, .slice l1 l2 l3] w fun e w' => e = .returned (.int .i64 4) ∧ Below w.heap.size w w' := by
  have hB0 : Below w.heap.size w (w.alloc (.cells #[.int .i64 n, .slice v1 v2 v3] 24)) := balloc w _
  have hX0 : BoxG (w.alloc (.cells #[.int .i64 n, .slice v1 v2 v3] 24)) w.heap.size n (.slice v1 v2 v3) := blk0 (w := w) (T := 24) _ _
  go_enter Tryz.func24, Tryz.ntmps24
  go_wp2_with fail
  generalize w.alloc (.cells #[.int .i64 n, .slice v1 v2 v3] 24) = w0 at *
  refine (HO1.out _ hB0).mono ?_
  rintro x w1 ⟨rfl, rfl⟩
  go_wp2_with fail
  refine (HO2.out _ hB0).mono ?_
  rintro x w1 ⟨rfl, rfl⟩
  go_wp2_with fail
  refine (HIN.out _).mono ?_
  rintro x w1 ⟨rfl, rfl⟩
  obtain ⟨c0, c1, _, _⟩ := hX0.two
  go_wp2_with fail
  clear c0 c1
  refine (HPA.out _ hB0).mono ?_
  rintro x w3 ⟨t1, t2, t3, rfl, hst, hb3⟩
  obtain ⟨w4, hw4⟩ : ∃ w4, w4 = (w3.alloc (.cells #[.int .i64 K, .slice t1 t2 t3] 24)).alloc (.cells #[.int .i64 0, .int .i64 0] 28) := ⟨_, rfl⟩
  have hbw4 : Below w3.heap.size w3 w4 := by rw [hw4]; exact (balloc w3 _).alloc (by simp) _
  have hY4 : BoxG w4 w3.heap.size K (.slice t1 t2 t3) := by rw [hw4]; exact (blk0 (w := w3) (T := 24) _ _).alloc _
  have hF4 : Blk w4 (w3.heap.size + 1) 28 [.int .i64 0, .int .i64 0] := by
    rw [hw4]
    have := blk0 (w := w3.alloc (.cells #[.int .i64 K, .slice t1 t2 t3] 24)) (T := 28) (.int .i64 0) (.int .i64 0)
    rwa [World.size_alloc] at this
  have hB4 := bcat2 hB0 (bcat2 hb3 hbw4)
  have hst4 := hst.below hbw4
  have hs3 : w.heap.size ≤ w3.heap.size := Nat.le_trans hB0.size hb3.size
  obtain ⟨c0, c1, _, _⟩ := hY4.two
  obtain ⟨f0, f1, f2, f3⟩ := hF4.two
  rw [hw4] at c0 c1 f0 f1 f2 f3
  go_wp2_with fail
  rw [← hw4] at c0 c1 f0 f1 f2 f3 ⊢
  clear hw4 hb3 hbw4 hst HPA HO1 HO2 HIN hX0 hB0
  have hS : ∀ W9, Below w4.heap.size w4 W9 → (W9.cell? ⟨w3.heap.size, 0, none⟩ = some (.int .i64 K) ∧ W9.cell? ⟨w3.heap.size, 1, none⟩ = some (.slice t1 t2 t3) ∧ W9.frozen? ⟨w3.heap.size + 1, 0, none⟩ = false ∧ W9.frozen? ⟨w3.heap.size + 1, 1, none⟩ = false) := fun W9 h => by
    obtain ⟨_, _, u2, u3⟩ := (blk_below hF4 h).two
    exact ⟨below_cell h c0, below_cell h c1, u2, u3⟩
  have hS2 : ∀ W9, Below w4.heap.size w4 W9 → (((W9.setCell ⟨w3.heap.size + 1, 0, none⟩ (.int .i64 4)).setCell ⟨w3.heap.size + 1, 1, none⟩ (.int .i64 0)).cell? ⟨w3.heap.size, 0, none⟩ = some (.int .i64 K) ∧ ((W9.setCell ⟨w3.heap.size + 1, 0, none⟩ (.int .i64 4)).setCell ⟨w3.heap.size + 1, 1, none⟩ (.int .i64 0)).cell? ⟨w3.heap.size, 1, none⟩ = some (.slice t1 t2 t3) ∧ ((W9.setCell ⟨w3.heap.size + 1, 0, none⟩ (.int .i64 4)).setCell ⟨w3.heap.size + 1, 1, none⟩ (.int .i64 0)).frozen? ⟨w3.heap.size + 1, 0, none⟩ = false ∧ ((W9.setCell ⟨w3.heap.size + 1, 0, none⟩ (.int .i64 4)).setCell ⟨w3.heap.size + 1, 1, none⟩ (.int .i64 0)).frozen? ⟨w3.heap.size + 1, 1, none⟩ = false) := fun W9 h => by
    have hY9 := ((blk_below hY4 h).other (p := ⟨w3.heap.size + 1, 0, none⟩) (by simp) (.int .i64 4)).other (p := ⟨w3.heap.size + 1, 1, none⟩) (by simp) (.int .i64 0)
    obtain ⟨_, _, u2, u3⟩ := (((blk_below hF4 h).set 0 (.int .i64 4)).set 1 (.int .i64 0)).two
    obtain ⟨d0, d1, _, _⟩ := hY9.two
    exact ⟨d0, d1, u2, u3⟩
  have hS3 : ∀ W9 (o : Obj), Below w4.heap.size w4 W9 → ((((W9.setCell ⟨w3.heap.size + 1, 0, none⟩ (.int .i64 4)).setCell ⟨w3.heap.size + 1, 1, none⟩ (.int .i64 0)).alloc o).cell? ⟨w3.heap.size, 0, none⟩ = some (.int .i64 K) ∧ (((W9.setCell ⟨w3.heap.size + 1, 0, none⟩ (.int .i64 4)).setCell ⟨w3.heap.size + 1, 1, none⟩ (.int .i64 0)).alloc o).cell? ⟨w3.heap.size, 1, none⟩ = some (.slice t1 t2 t3) ∧ (((W9.setCell ⟨w3.heap.size + 1, 0, none⟩ (.int .i64 4)).setCell ⟨w3.heap.size + 1, 1, none⟩ (.int .i64 0)).alloc o).frozen? ⟨w3.heap.size + 1, 0, none⟩ = false ∧ (((W9.setCell ⟨w3.heap.size + 1, 0, none⟩ (.int .i64 4)).setCell ⟨w3.heap.size + 1, 1, none⟩ (.int .i64 0)).alloc o).frozen? ⟨w3.heap.size + 1, 1, none⟩ = false) := fun W9 o h => by
    have hY9 := ((blk_below hY4 h).other (p := ⟨w3.heap.size + 1, 0, none⟩) (by simp) (.int .i64 4)).other (p := ⟨w3.heap.size + 1, 1, none⟩) (by simp) (.int .i64 0)
    obtain ⟨_, _, u2, u3⟩ := ((((blk_below hF4 h).set 0 (.int .i64 4)).set 1 (.int .i64 0)).alloc o).two
    obtain ⟨d0, d1, _, _⟩ := (hY9.alloc o).two
    exact ⟨d0, d1, u2, u3⟩
  have hR0 := bdrew (Below.refl w4.heap.size w4)
  have hS0 := hS _ hR0
  go_cut [9, 10] (fun s17 _ wx => Blk wx (w3.heap.size + 1) 28 [.int .i64 4, .int .i64 0] ∧ Below w.heap.size w wx)
  case first =>
    clear c0 c1 f0 f1 f2 f3
    go_region_held3 (fun W9 => W9.cell? ⟨w3.heap.size, 0, none⟩ = some (.int .i64 K) ∧ W9.cell? ⟨w3.heap.size, 1, none⟩ = some (.slice t1 t2 t3) ∧ W9.frozen? ⟨w3.heap.size + 1, 0, none⟩ = false ∧ W9.frozen? ⟨w3.heap.size + 1, 1, none⟩ = false)
      (first | exact hS0 | assumption | exact hS _ hU6 | exact hS _ hU5 | exact hS _ (bcat2 hR0 (balloc _ _)) | exact hS _ (bcat2 hU5 (balloc _ _)) | exact hS _ (bcat2 hU6 (balloc _ _)) | exact hS2 _ hU6 | exact hS2 _ (bcat2 hU6 (balloc _ _)) | exact hS3 _ _ hU6)
      (first
        | (go_at_call 60; refine (HPL.out _ (bcat2 hB4 (by first | exact hR0 | exact bcat2 hR0 (balloc _ _)))).mono ?_; rintro e5 U5 ⟨p1, p2, p3, rfl, ha5, hl5⟩; have hU5 : Below w4.heap.size w4 U5 := bcat2 (by first | exact hR0 | exact bcat2 hR0 (balloc _ _)) hl5; (first | (with_reducible have pA := mkG hl5; have ltA := pA.lt) | (with_reducible have pA := mkG (undA hl5); have ltA := pA.lt) | skip))
        | (go_at_call 18; refine (HQU.out _ _ _ _ _ _ _ (bcat2 hB4 (by first | exact hU5 | exact bcat2 hU5 (balloc _ _))) (hst4.below (by first | exact hU5 | exact bcat2 hU5 (balloc _ _))) (by first | exact ha5 | exact ha5.below (balloc _ _))).mono ?_; rintro e6 U6 ⟨rfl, hl6⟩; have hU6 : Below w4.heap.size w4 U6 := bcat2 (by first | exact hU5 | exact bcat2 hU5 (balloc _ _)) hl6; obtain ⟨_, _, _, _⟩ := (blk_below hF4 hU6).two; (first | (with_reducible have pB := mkG hl6) | skip); (first | (with_reducible have pA := blk_below pA hl6) | skip); (try (obtain ⟨_, _, _, _⟩ := pA.two)); (try (obtain ⟨_, _, _, _⟩ := pB.two)); (try (obtain ⟨_, _⟩ := pA.self)); (try (obtain ⟨_, _⟩ := pB.self)); have q1 : w3.heap.size + 1 < U6.heap.size := (blk_below hF4 hU6).lt; have q2 : ¬ (w3.heap.size + 1 = U6.heap.size) := by omega))
    all_goals (go_wp2; go_meet)
    all_goals (first
      | exact orel_put (by omega) (bcat2 hB4 hU6) (blk_below hF4 hU6)
      | exact orel_put (by omega) (bcat2 hB4 (bcat2 hU6 (balloc _ _))) (blk_below hF4 (bcat2 hU6 (balloc _ _)))
      | exact orel_alloc (by omega) (bcat2 hB4 hU6) (blk_below hF4 hU6))
  case rest =>
    obtain ⟨hF9, hB9⟩ := hcut
    clear c0 c1 f0 f1 f2 f3 hS hS0
    obtain ⟨f0, f1, f2, f3⟩ := hF9.two
    go_wp2
    go_ret
    exact ⟨rfl, hB9⟩
end Go.Proofs.YtjiapicknkjhmaaGreatDoor

namespace Go.Proofs.YtjiapicknkjhmaaGreatDoor
open Go Go.RowKit

open Classical in
/-- What is wrong with a subgroup as the one behind another one. -/
noncomputable def stpc (n : Nat) (zs : List Int) (e : Nat) (A B : Nat → Bool) : Int :=
  if ¬ Fin.In (List.range n) B A then 7 else if ¬ Fin.Nb (List.range n) (tm n zs) (iv n zs e) B A then 4 else if ¬ Mxg n zs e A B then 6 else 0
section
variable {n e : Nat} {zs : List Int} {A B : Nat → Bool}
theorem stpc_zero : stpc n zs e A B = 0 ↔ Mxg n zs e A B := by
  unfold stpc
  constructor
  · intro h
    split at h
    · cases h
    · split at h
      · cases h
      · split at h
        · cases h
        · rename_i h3
          exact Classical.not_not.1 h3
  · intro h
    rw [if_neg (Classical.not_not.2 h.sub), if_neg (Classical.not_not.2 h.nm), if_neg (Classical.not_not.2 h)]
theorem nrmq_nm (g : IsGrp n zs e) : nrmq n zs e B = true ↔ ∀ x a, x < n → a < n → B x = true → B (Fin.cj (tm n zs) (iv n zs e) x a) = true := by
  constructor
  · intro h x a hx ha h1
    have h2 := bs_inj (nrmq_iff.1 h a ha) _ (List.mem_range.1 (Fin.cj_mem (grp_fg g) (grp_iv g) (List.mem_range.2 hx) (List.mem_range.2 ha)))
    rw [← h2]
    exact cjq_iff.2 ⟨x, List.mem_range.2 hx, h1, rfl⟩
  · intro h
    refine nrmq_iff.2 fun a ha => ?_
    have F := grp_fg g
    have V := grp_iv g
    have ha' := List.mem_range.2 ha
    have hi := (V a ha').1
    refine bs_ext fun y hy => ?_
    rw [Bool.eq_iff_iff, cjq_iff]
    constructor
    · rintro ⟨x, hx, h1, rfl⟩
      exact h x a (List.mem_range.1 hx) ha h1
    · intro h1
      exact ⟨_, Fin.cj_mem F V (List.mem_range.2 hy) hi, h y _ hy (List.mem_range.1 hi) h1, (Fin.cj_back F V (List.mem_range.2 hy) ha').2⟩
theorem part_nrm (g : IsGrp n zs e) (hA : subT n zs e A = true) (hin : Fin.In (List.range n) B A) :
    nrmq (lst n A).length (mkT (lst n A).length (parF n zs (lst n A))) (place (lst n A) e) (fun i => B (thing (lst n A) i)) = true ↔ Fin.Nb (List.range n) (tm n zs) (iv n zs e) B A := by
  have G := part_grp g hA
  rw [nrmq_nm G]
  constructor
  · intro h x a hx ha h1 h2
    have hxA := hin x hx h1
    have mx : x ∈ lst n A := mem_lst.2 ⟨List.mem_range.1 hx, hxA⟩
    have ma : a ∈ lst n A := mem_lst.2 ⟨List.mem_range.1 ha, h2⟩
    have h3 := h _ _ (place_at mx).1 (place_at ma).1 (by show B (thing _ _) = true; rw [thing_place mx]; exact h1)
    have h3 : B (thing _ _) = true := h3
    rwa [part_cj g hA (place_at mx).1 (place_at ma).1, thing_place mx, thing_place ma] at h3
  · intro h i j hi hj h1
    show B (thing _ _) = true
    rw [part_cj g hA hi hj]
    exact h _ _ (List.mem_range.2 (thing_lt hi)) (List.mem_range.2 (thing_lt hj)) h1 (thing_in hj)
theorem places_lst (hin : ∀ x, x < n → B x = true → A x = true) : (lst n B).map (place (lst n A)) = lst (lst n A).length (fun i => B (thing (lst n A) i)) := by
  have h1 : lst n B = (lst (lst n A).length fun i => B (thing (lst n A) i)).map (thing (lst n A)) := by
    rw [upt_lst]
    exact (lst_bs' (up_down hin)).symm
  rw [h1, List.map_map]
  refine (List.map_congr_left fun i hi => ?_).trans (List.map_id _)
  exact place_thing (lst_nd n A) (mem_lst.1 hi).1
theorem Mxg.congr {A' B' : Nat → Bool} (g : IsGrp n zs e) (h : Mxg n zs e A B) (h1 : bs A n = bs A' n) (h2 : bs B n = bs B' n) : Mxg n zs e A' B' :=
  Fin.Mxn.congr h (fun x hx => bs_inj h1 x (List.mem_range.1 hx)) (fun x hx => bs_inj h2 x (List.mem_range.1 hx)) (grp_fg g) (grp_iv g)
end
theorem quo_lst (n e : Nat) (v u : Value) (zs : List Int) (q : Nat → Bool) (w : World) (hv : Sl w v zs) (hg : IsGrp n zs e) (hu : Sl w u (li (lst n q))) (hT : Tab w) (hs : subT n zs e q = true) (hN : nrmq n zs e q = true) :
    Calls Tryz.prog 18 #[.agg #[.int .i64 n, v], u] w fun x w' => ∃ r1 r2 r3 s1 s2 s3, x = .returned (.tuple #[.agg #[.int .i64 (fsts n (rgtq n zs (lst n q)) n).length, .slice r1 r2 r3], .slice s1 s2 s3, .agg #[.int .i64 0, .int .i64 0]]) ∧ SlF w.heap.size w' (.slice r1 r2 r3) (mkT (fsts n (rgtq n zs (lst n q)) n).length (quoF n zs (rgtq n zs (lst n q)))) ∧ Below w.heap.size w w' := by
  have h := quo_goodF n e v u zs (li (lst n q)) w hv hg hu hT (lst_fault n q) ((subT_congr hg fun a ha => pset_lst ha).trans hs) (by rw [nrmq_pset]; exact hN)
  rw [lst_pset] at h
  refine h.mono ?_
  rintro x w' ⟨r1, r2, r3, s1, s2, s3, h1, h2, h4⟩
  exact ⟨r1, r2, r3, s1, s2, s3, h1, h2, h4.2⟩
theorem quo_lst_odd (n e : Nat) (v u : Value) (zs : List Int) (q : Nat → Bool) (w : World) (hv : Sl w v zs) (hg : IsGrp n zs e) (hu : Sl w u (li (lst n q))) (hT : Tab w) (hs : subT n zs e q = true) (hN : nrmq n zs e q = false) :
    Calls Tryz.prog 18 #[.agg #[.int .i64 n, v], u] w fun x w' => x = .returned (.tuple #[.agg #[.int .i64 0, .slice none 0 0], .slice none 0 0, .agg #[.int .i64 4, .int .i64 0]]) ∧ Below w.heap.size w w' :=
  quo_odd n e v u zs (li (lst n q)) w hv hg hu hT (lst_fault n q) ((subT_congr hg fun a ha => pset_lst ha).trans hs) (by rw [nrmq_pset]; exact hN)
theorem of_lst (n : Nat) (u : Value) (B : Nat → Bool) (w : World) (hn : n ≤ 60) (hu : Sl w u (li (lst n B))) : Calls Tryz.prog 58 #[u] w fun e w' => e = .returned (.int .u64 (bs B n)) ∧ w' = w := by
  have h := of_ok n u (lst n B) w hn (Nat.le_trans (lst_len _ _) hn) hu (fun x hx => (mem_lst.1 hx).1)
  rwa [show bs (fun a => decide (a ∈ lst n B)) n = bs B n from bs_ext fun a ha => by rw [Bool.eq_iff_iff, decide_eq_true_eq, mem_lst]; exact ⟨fun h => h.2, fun h => ⟨ha, h⟩⟩] at h
open Classical in
theorem simple_lst (m d : Nat) (v : Value) (ys : List Int) (w : World) (hv : Sl w v ys) (hg : IsGrp m ys d) (hT : Tab w) :
    Calls Tryz.prog 61 #[.agg #[.int .i64 m, v]] w fun x w' => x = .returned (.tuple #[.bool (decide (Mxg m ys d (fun _ => true) (fun a => decide (a = d)))), .agg #[.int .i64 0, .int .i64 0]]) ∧ Below w.heap.size w w' := by
  have hP : ∀ a, a < m → ∀ y, y < m → ((mkd_ex' m ys d (cloq m ys d (pset [(a : Int)]) m)).choose y = true ↔ Mkd m ys d (cloq m ys d (pset [(a : Int)]) m) y) := fun a _ => (mkd_ex' m ys d (cloq m ys d (pset [(a : Int)]) m)).choose_spec
  have h := simple_good m d v ys (fun a => (mkd_ex' m ys d (cloq m ys d (pset [(a : Int)]) m)).choose) w hv hg hT hP
  have h1 := simple_iff hg hP
  rwa [show smq m d (fun a => (lst m (mkd_ex' m ys d (cloq m ys d (pset [(a : Int)]) m)).choose).length) = decide (Mxg m ys d (fun _ => true) (fun a => decide (a = d))) by
    rw [Bool.eq_iff_iff, decide_eq_true_eq]
    exact h1] at h
theorem chain_iff {n e M c : Nat} {zs TQ : List Int} {A B : Nat → Bool} {φ : Nat → Nat} (g : IsGrp n zs e) (hA : subT n zs e A = true) (hin : ∀ x, x < n → B x = true → A x = true) (G : IsGrp (lst n A).length (mkT (lst n A).length (parF n zs (lst n A))) (place (lst n A) e)) (Q : IsGrp M TQ c) (O : IsOnto (lst n A).length (mkT (lst n A).length (parF n zs (lst n A))) M TQ φ)
    (hk : ∀ a, a < (lst n A).length → (φ a = c ↔ B (thing (lst n A) a) = true)) : Mxg M TQ c (fun _ => true) (fun a => decide (a = c)) ↔ Mxg n zs e A B := by
  have e1 : bs (upt n A fun _ => true) n = bs A n := bs_ext fun x _ => by unfold upt; rw [Bool.and_true]
  have e2 := up_down hin
  have e3 : bs (fun x => decide (φ x = c)) (lst n A).length = bs (fun i => B (thing (lst n A) i)) (lst n A).length := bs_ext fun x hx => by
    rw [Bool.eq_iff_iff, decide_eq_true_eq]
    exact hk x hx
  constructor
  · intro h
    exact (part_up g hA ((onto_up G Q O h).congr G rfl e3)).congr g e1 e2
  · intro h
    exact onto_down G Q O ((part_down g hA (h.congr g e1.symm e2.symm)).congr G rfl e3.symm)
open Classical in
/-- What checkedStep answers. -/
theorem cstep_ok (n e : Nat) (v a l : Value) (zs : List Int) (A B : Nat → Bool) (w : World) (hv : Sl w v zs) (ha : Sl w a (li (lst n A))) (hl : Sl w l (li (lst n B))) (hg : IsGrp n zs e) (hT : Tab w) (hA : subT n zs e A = true) (hB : subT n zs e B = true) :
    Calls Tryz.prog 24 #[.agg #[.int .i64 n, v], a, l] w fun x w' => x = .returned (.int .i64 (stpc n zs e A B)) ∧ Below w.heap.size w w' := by
  have hn := hg.tab.le
  obtain ⟨v1, v2, v3, rfl⟩ := hv.isSlice
  obtain ⟨a1, a2, a3, rfl⟩ := ha.isSlice
  obtain ⟨l1, l2, l3, rfl⟩ := hl.isSlice
  have HO1 := hide (fun W (h : Below w.heap.size w W) => of_lst n (.slice l1 l2 l3) B W hn (hl.below h))
  have HO2 := hide (fun W (h : Below w.heap.size w W) => of_lst n (.slice a1 a2 a3) A W hn (ha.below h))
  by_cases hin : Fin.In (List.range n) B A
  · have hin' : ∀ x, x < n → B x = true → A x = true := fun x hx => hin x (List.mem_range.2 hx)
    have HIN := hide (fun W => in_ok n B A W hn)
    rw [inB_iff.2 hin'] at HIN
    have G := part_grp hg hA
    have hbS := down_sub hg hA hB
    have HPA := hide (fun W (h : Below w.heap.size w W) => part_of_lst n e (.slice v1 v2 v3) (.slice a1 a2 a3) zs A W (hv.below h) hg (ha.below h) (hT.below h) hA)
    have hla := lst_len n A
    have HPL : Hid (∀ W, Below w.heap.size w W → Calls Tryz.prog 60 #[.slice a1 a2 a3, .slice l1 l2 l3] W fun x W' => ∃ r1 r2 r3, x = .returned (.slice r1 r2 r3) ∧ Sl W' (.slice r1 r2 r3) (li (lst (lst n A).length fun i => B (thing (lst n A) i))) ∧ Below W.heap.size W W') := hide fun W h => by
      refine (places_ok (.slice a1 a2 a3) (.slice l1 l2 l3) (lst n A) (lst n B) W (ha.below h) (hl.below h) (fun y hy => by
        obtain ⟨h1, h2⟩ := mem_lst.1 hy
        exact mem_lst.2 ⟨h1, hin' y h1 h2⟩) (by omega) (Nat.le_trans (lst_len n B) hn)).mono ?_
      rintro x W' ⟨r, rfl, hr, hb⟩
      rw [places_lst hin'] at hr
      obtain ⟨r1, r3, rfl, hs⟩ := (show ∃ r1 r3, r = .slice r1 (lst (lst n A).length fun i => B (thing (lst n A) i)).length r3 ∧ Sl W' (.slice r1 (lst (lst n A).length fun i => B (thing (lst n A) i)).length r3) (li (lst (lst n A).length fun i => B (thing (lst n A) i))) from by
        have hs := hr.sl
        obtain ⟨a, cap, _, _, rfl, _⟩ := hr
        rw [li_len] at hs ⊢
        exact ⟨a, cap, rfl, hs⟩)
      exact ⟨r1, _, r3, rfl, hs, hb⟩
    by_cases hN : Fin.Nb (List.range n) (tm n zs) (iv n zs e) B A
    · have hNq := (part_nrm hg hA hin).2 hN
      have Q := quo_grp G hbS hNq
      have O := quo_onto G hbS hNq
      have hch := chain_iff hg hA hin' G Q O (fun a ha => quo_ker G hbS ha)
      have HQU := hide (fun W (a1 : Option Addr) (a2 a3 : Nat) (b1 : Option Addr) (b2 b3 : Nat) (h : Below w.heap.size w W) (h1 : Sl W (.slice a1 a2 a3) (mkT (lst n A).length (parF n zs (lst n A)))) (h2 : Sl W (.slice b1 b2 b3) (li (lst (lst n A).length fun i => B (thing (lst n A) i)))) => quo_lst (lst n A).length (place (lst n A) e) (.slice a1 a2 a3) (.slice b1 b2 b3) (mkT (lst n A).length (parF n zs (lst n A))) (fun i => B (thing (lst n A) i)) W h1 G h2 (hT.below h) hbS hNq)
      have HSI := hide (fun W (a1 : Option Addr) (a2 a3 : Nat) (h : Below w.heap.size w W) (h1 : Sl W (.slice a1 a2 a3) _) => simple_lst _ _ (.slice a1 a2 a3) _ W h1 Q (hT.below h))
      refine (cst_in n (lst n A).length _ _ _ _ _ (bs B n) (bs A n) v1 v2 v3 a1 a2 a3 l1 l2 l3 w HO1 HO2 HIN HPA HPL HQU HSI).mono ?_
      rintro x w' ⟨rfl, hb⟩
      refine ⟨?_, hb⟩
      congr 2
      unfold stpc
      rw [if_neg (Classical.not_not.2 hin), if_neg (Classical.not_not.2 hN)]
      by_cases hM : Mxg n zs e A B
      · rw [if_neg (Classical.not_not.2 hM), if_pos (by rw [decide_eq_true_eq]; exact hch.2 hM)]
      · rw [if_pos hM, if_neg (by rw [decide_eq_true_eq]; exact fun h => hM (hch.1 h))]
    · have hNq : nrmq (lst n A).length (mkT (lst n A).length (parF n zs (lst n A))) (place (lst n A) e) (fun i => B (thing (lst n A) i)) = false := by
        rw [Bool.eq_false_iff]
        exact fun h => hN ((part_nrm hg hA hin).1 h)
      have HQU := hide (fun W (a1 : Option Addr) (a2 a3 : Nat) (b1 : Option Addr) (b2 b3 : Nat) (h : Below w.heap.size w W) (h1 : Sl W (.slice a1 a2 a3) (mkT (lst n A).length (parF n zs (lst n A)))) (h2 : Sl W (.slice b1 b2 b3) (li (lst (lst n A).length fun i => B (thing (lst n A) i)))) => quo_lst_odd (lst n A).length (place (lst n A) e) (.slice a1 a2 a3) (.slice b1 b2 b3) (mkT (lst n A).length (parF n zs (lst n A))) (fun i => B (thing (lst n A) i)) W h1 G h2 (hT.below h) hbS hNq)
      refine (cst_odd n (lst n A).length _ _ (bs B n) (bs A n) v1 v2 v3 a1 a2 a3 l1 l2 l3 w HO1 HO2 HIN HPA HPL HQU).mono ?_
      rintro x w' ⟨rfl, hb⟩
      refine ⟨?_, hb⟩
      congr 2
      unfold stpc
      rw [if_neg (Classical.not_not.2 hin), if_pos hN]
  · have HIN := hide (fun W => in_ok n B A W hn)
    rw [show inB (bs B n) (bs A n) = false by
      rw [Bool.eq_false_iff]
      exact fun h => hin fun x hx => inB_iff.1 h x (List.mem_range.1 hx)] at HIN
    refine (cst_out n (bs B n) (bs A n) v1 v2 v3 a1 a2 a3 l1 l2 l3 w HO1 HO2 HIN).mono ?_
    rintro x w' ⟨rfl, hb⟩
    refine ⟨?_, hb⟩
    congr 2
    unfold stpc
    rw [if_pos hin]
end Go.Proofs.YtjiapicknkjhmaaGreatDoor

namespace Go.Proofs.YtjiapicknkjhmaaGreatDoor
open Go Go.RowKit

/-- Is a list a subgroup? -/
def gdB (n : Nat) (zs : List Int) (e : Nat) (l : List Int) : Bool := decide (lfault n l = (0, 0)) && subT n zs e (pset l)
/-- What is wrong with the sets of a series. -/
def chkF (n : Nat) (zs : List Int) (e : Nat) (ls : List (List Int)) : Int × Int :=
  if ls.length < 1 ∨ 10 < ls.length then (2, 0) else if (ls[0]?.getD []).length ≠ n ∨ (ls[ls.length - 1]?.getD []).length ≠ 1 then (8, 0)
  else if least ls.length (fun i => !gdB n zs e (ls[i]?.getD [])) = -1 then (0, 0) else (5, least ls.length (fun i => !gdB n zs e (ls[i]?.getD [])))
theorem is_gd (n e : Nat) (v u : Value) (zs l : List Int) (w : World) (hv : Sl w v zs) (hg : IsGrp n zs e) (hu : Sl w u l) (hT : Tab w) :
    ∃ b c i, (Calls Tryz.prog 57 #[.agg #[.int .i64 n, v], u] w fun x w' => x = .returned (.tuple #[.bool b, .agg #[.int .i64 c, .int .i64 i]]) ∧ Below w.heap.size w w') ∧ ((gdB n zs e l = true ∧ c = 0 ∧ b = true) ∨ (gdB n zs e l = false ∧ c ≠ 0) ∨ (gdB n zs e l = false ∧ c = 0 ∧ b = false)) := by
  by_cases h : (lfault n l).1 = 0
  · obtain ⟨h0, _, _⟩ := lfault_zero h
    have h1 := is_good n e v u zs l w hv hg hu hT h0
    refine ⟨_, _, _, h1, ?_⟩
    unfold gdB
    rw [decide_eq_true h0, Bool.true_and]
    cases subT n zs e (pset l) with
    | true => exact .inl ⟨rfl, rfl, rfl⟩
    | false => exact .inr (.inr ⟨rfl, rfl, rfl⟩)
  · have h1 := is_bad n v u zs l w hv hu (by rw [sfault_l hg]; exact h)
    rw [sfault_l hg] at h1
    refine ⟨_, _, _, h1, .inr (.inl ⟨?_, h⟩)⟩
    unfold gdB
    rw [decide_eq_false (fun h2 => h (by rw [h2])), Bool.false_and]
theorem row_at {w : World} {pb po : Nat} {rs : List (List Int)} (h : ∀ j, j < rs.length → ∃ x, w.cell? ⟨pb, po + j, none⟩ = some x ∧ Sl w x (rs[j]?.getD [])) {j : Nat} (hj : j < rs.length) : ∃ r1 r3, w.cell? ⟨pb, po + j, none⟩ = some (.slice r1 (rs[j]?.getD []).length r3) ∧ Sl w (.slice r1 (rs[j]?.getD []).length r3) (rs[j]?.getD []) := by
  obtain ⟨x, hx, hs⟩ := h j hj
  obtain ⟨r1, r3, _, _, rfl, _⟩ := id hs
  exact ⟨r1, r3, hx, hs⟩
theorem begR (w : World) (N : Int) (v : Value) (c i : Int) : ((w.alloc (.cells #[.int .i64 N, v] 24)).alloc (.cells #[.int .i64 c, .int .i64 i] 28)).cell? ⟨w.heap.size + 1, 0, none⟩ = some (.int .i64 c) ∧ ((w.alloc (.cells #[.int .i64 N, v] 24)).alloc (.cells #[.int .i64 c, .int .i64 i] 28)).cell? ⟨w.heap.size + 1, 1, none⟩ = some (.int .i64 i) ∧ Below w.heap.size w ((w.alloc (.cells #[.int .i64 N, v] 24)).alloc (.cells #[.int .i64 c, .int .i64 i] 28)) := by
  have h := blk0 (w := w.alloc (.cells #[.int .i64 N, v] 24)) (T := 28) (.int .i64 c) (.int .i64 i)
  rw [World.size_alloc] at h
  obtain ⟨h1, h2, _, _⟩ := h.two
  exact ⟨h1, h2, (balloc w _).alloc (by simp) _⟩
set_option maxRecDepth 100000 in
set_option maxHeartbeats 4000000 in
theorem checked_many (n : Nat) (v lv : Value) (ls : List (List Int)) (w : World) (hL : SlL w lv ls) (hm : ls.length < 1 ∨ 10 < ls.length) :
    Calls Tryz.prog 23 #[.agg #[.int .i64 n, v], lv] w fun x w' => x = .returned (.agg #[.int .i64 2, .int .i64 0]) ∧ Below w.heap.size w w' := by
  obtain ⟨la, lc, lb, lo, rfl, _⟩ := hL
  obtain ⟨z0, z1, hB6⟩ := begR w n v 2 0
  rcases hm with hm | hm
  · have h1 : (ls.length : Int) < 1 := by omega
    go_enter Tryz.func23, Tryz.ntmps23
    go_wp2
    exact bodyPost_ret (v := .agg #[.int .i64 2, .int .i64 0]) (by simp [results, Tryz.results23, go_sem, z0, z1]) rfl ⟨rfl, hB6⟩
  · have h1 : ¬ (ls.length : Int) < 1 := by omega
    have h2 : (ls.length : Int) > 10 := by omega
    go_enter Tryz.func23, Tryz.ntmps23
    go_wp2
    exact bodyPost_ret (v := .agg #[.int .i64 2, .int .i64 0]) (by simp [results, Tryz.results23, go_sem, z0, z1]) rfl ⟨rfl, hB6⟩
set_option maxRecDepth 100000 in
set_option maxHeartbeats 4000000 in
theorem checked_size (n : Nat) (v lv : Value) (ls : List (List Int)) (w : World) (hL : SlL w lv ls) (hl1 : 1 ≤ ls.length) (hl2 : ls.length ≤ 10) (hm : (ls[0]?.getD []).length ≠ n ∨ (ls[ls.length - 1]?.getD []).length ≠ 1) :
    Calls Tryz.prog 23 #[.agg #[.int .i64 n, v], lv] w fun x w' => x = .returned (.agg #[.int .i64 8, .int .i64 0]) ∧ Below w.heap.size w w' := by
  obtain ⟨la, lc, lb, lo, rfl, h1, h2, h3, _, _⟩ := hL
  obtain rfl := h1 (by omega)
  obtain ⟨w0, BG⟩ := Beg.new w n v
  obtain ⟨a1, a3, ca, sa⟩ := row_at h2 (show 0 < ls.length by omega)
  obtain ⟨b1, b3, cb, sb⟩ := row_at h2 (show ls.length - 1 < ls.length by omega)
  rw [Nat.add_zero] at ca
  have ca := below_cell BG.bel ca
  have cb := below_cell BG.bel cb
  obtain ⟨x0, x1, _, _⟩ := BG.box.two
  obtain ⟨y0, y1, y2, y3⟩ := BG.res.two
  have g1 : ¬ (ls.length : Int) < 1 := by omega
  have g2 : ¬ (ls.length : Int) > 10 := by omega
  have g3 : (ls.length : Int) - 1 = ((ls.length - 1 : Nat) : Int) := by omega
  have g4 : ((ls.length - 1 : Nat) : Int) < (ls.length : Int) := by omega
  have g5 : (0 : Int) < (ls.length : Int) := by omega
  generalize hk : ls.length - 1 = k at *
  clear hk h2 sa sb h1
  have HM := hide hm
  clear hm
  generalize (ls[0]?.getD []).length = L0 at *
  generalize (ls[k]?.getD []).length = L1 at *
  rw [BG.eq] at ca cb x0 x1 y0 y1 y2 y3
  go_enter Tryz.func23, Tryz.ntmps23
  by_cases hm0 : L0 = n
  · have h9 : ¬ L1 = 1 := fun h => by
      rcases HM.out with h8 | h8
      · exact h8 hm0
      · exact h8 h
    have e0 : ((L0 : Int) != (n : Int)) = false := by simp [hm0]
    have e1 : ((L1 : Int) != 1) = true := by
      have : ¬ (L1 : Int) = 1 := by omega
      simpa using this
    clear hm0 h9
    go_wp2_with fail
    go_quiet (fail)
    go_wp2
    rw [← BG.eq]
    obtain ⟨hR6, hB6⟩ := put2 (show Blk (w0.drewN nq) (w.heap.size + 1) 28 [.int .i64 0, .int .i64 0] from BG.res) (bdrewN BG.bel nq) (by omega) 8 0
    obtain ⟨z0, z1, _, _⟩ := hR6.two
    exact bodyPost_ret (v := .agg #[.int .i64 8, .int .i64 0]) (by simp [results, Tryz.results23, go_sem, z0, z1]) rfl ⟨rfl, hB6⟩
  · have e0 : ((L0 : Int) != (n : Int)) = true := by
      have : ¬ (L0 : Int) = (n : Int) := by omega
      simpa using this
    go_wp2_with fail
    go_quiet (fail)
    go_wp2
    rw [← BG.eq]
    obtain ⟨hR6, hB6⟩ := put2 (show Blk (w0.drewN nq) (w.heap.size + 1) 28 [.int .i64 0, .int .i64 0] from BG.res) (bdrewN BG.bel nq) (by omega) 8 0
    obtain ⟨z0, z1, _, _⟩ := hR6.two
    exact bodyPost_ret (v := .agg #[.int .i64 8, .int .i64 0]) (by simp [results, Tryz.results23, go_sem, z0, z1]) rfl ⟨rfl, hB6⟩
set_option maxRecDepth 100000 in
set_option maxHeartbeats 8000000 in
theorem checked_go (n e : Nat) (v lv : Value) (zs : List Int) (ls : List (List Int)) (w : World) (hv : Sl w v zs) (hg : IsGrp n zs e) (hT : Tab w) (hL : SlL w lv ls) (hl1 : 1 ≤ ls.length) (hl2 : ls.length ≤ 10) (hs0 : (ls[0]?.getD []).length = n) (hs1 : (ls[ls.length - 1]?.getD []).length = 1) (c i : Int)
    (hci : (∀ k, k < ls.length → gdB n zs e (ls[k]?.getD []) = true) ∧ c = 0 ∧ i = 0 ∨ ∃ k : Nat, k < ls.length ∧ (∀ t, t < k → gdB n zs e (ls[t]?.getD []) = true) ∧ gdB n zs e (ls[k]?.getD []) = false ∧ c = 5 ∧ i = k) :
    Calls Tryz.prog 23 #[.agg #[.int .i64 n, v], lv] w fun x w' => x = .returned (.agg #[.int .i64 c, .int .i64 i]) ∧ Below w.heap.size w w' := by
  have HCI := hide hci
  have HIS := hide (fun W (l : List Int) (u : Value) (h : Below w.heap.size w W) (hu : Sl W u l) => is_gd n e v u zs l W (hv.below h) hg hu (hT.below h))
  clear hci
  obtain ⟨la, lc, lb, lo, rfl, h1, h2, h3, _, _⟩ := hL
  obtain rfl := h1 (by omega)
  obtain ⟨w0, BG⟩ := Beg.new w n v
  obtain ⟨a1, a3, ca, sa⟩ := row_at h2 (show 0 < ls.length by omega)
  obtain ⟨b1, b3, cb, sb⟩ := row_at h2 (show ls.length - 1 < ls.length by omega)
  rw [Nat.add_zero, hs0] at ca
  rw [hs1] at cb
  have ca := below_cell BG.bel ca
  have cb := below_cell BG.bel cb
  obtain ⟨x0, x1, _, _⟩ := BG.box.two
  have g1 : ¬ (ls.length : Int) < 1 := by omega
  have g2 : ¬ (ls.length : Int) > 10 := by omega
  have g3 : (ls.length : Int) - 1 = ((ls.length - 1 : Nat) : Int) := by omega
  have g4 : ((ls.length - 1 : Nat) : Int) < (ls.length : Int) := by omega
  have g5 : (0 : Int) < (ls.length : Int) := by omega
  generalize hk : ls.length - 1 = k at *
  have HROW := hide h2
  clear hk h2 sa sb h1 hs0 hs1
  rw [BG.eq] at ca cb x0 x1
  go_enter Tryz.func23, Tryz.ntmps23
  go_wp2_with fail
  go_quiet (fail)
  rw [← BG.eq]
  have hBq := bdrewN BG.bel nq
  have hXq : BoxG (w0.drewN nq) w.heap.size n v := BG.box
  have hRq : Blk (w0.drewN nq) (w.heap.size + 1) 28 [.int .i64 0, .int .i64 0] := BG.res
  clear ca cb x0 x1 g3 g4 BG
  generalize w0.drewN nq = w1 at *
  go_wp2_with fail
  go_loopw [38] (fun iv wr => ∃ j : Nat, j ≤ ls.length ∧ iv = .int .i64 j ∧ (∀ t, t < j → gdB n zs e (ls[t]?.getD []) = true) ∧ Below w1.heap.size w1 wr) (fun iv _ => ls.length - (intOf iv).toNat)
  case atStart => exact ⟨0, Nat.zero_le _, rfl, fun t h => by omega, Below.refl _ _⟩
  case round =>
    obtain ⟨j, hj, rfl, hgd, hb⟩ := hrel
    have HGD := hide hgd
    clear hgd
    have hBr := bcat2 hBq hb
    have hXr := blk_below hXq hb
    have hRr := blk_below hRq hb
    by_cases hlt : j < ls.length
    · have hji : (j : Int) < (ls.length : Int) := by omega
      obtain ⟨r1, r3, cr, sr⟩ := row_at HROW.out hlt
      have cr := below_cell hBr cr
      have sr := sr.below hBr
      have HC := hide (fun h : gdB n zs e (ls[j]?.getD []) = false => (show c = 5 ∧ i = (j : Int) by
        rcases HCI.out with ⟨h1, _, _⟩ | ⟨k', hk', h1, h2, h3, h4⟩
        · rw [h1 j hlt] at h; cases h
        · have : j = k' := by
            rcases Nat.lt_trichotomy j k' with h5 | h5 | h5
            · rw [h1 j h5] at h; cases h
            · exact h5
            · rw [HGD.out k' h5] at h2; cases h2
          rw [this]
          exact ⟨h3, h4⟩))
      obtain ⟨bb, cc, ii, hcall, hcase⟩ := HIS.out wr _ _ hBr sr
      have HCALL := hide hcall
      have HCASE := hide hcase
      clear hcall hcase sr
      generalize hlj : ls[j]?.getD [] = lj at *
      have HLJ := hide hlj
      clear hlj
      obtain ⟨x0, x1, _, _⟩ := hXr.two
      go_wp2_with fail
      clear x0 x1 cr
      refine HCALL.out.mono ?_
      rintro x w2 ⟨rfl, hb2⟩
      obtain ⟨w3, hw3⟩ : ∃ w3, w3 = w2.alloc (.cells #[.int .i64 cc, .int .i64 ii] 28) := ⟨_, rfl⟩
      have hb3 : Below w2.heap.size w2 w3 := by rw [hw3]; exact balloc w2 _
      have hF3 : Blk w3 w2.heap.size 28 [.int .i64 cc, .int .i64 ii] := by rw [hw3]; exact blk0 _ _
      have hb4 := bcat2 hb (bcat2 hb2 hb3)
      have hB4 := bcat2 hBr (bcat2 hb2 hb3)
      have hR4 := blk_below hRr (bcat2 hb2 hb3)
      obtain ⟨f0, f1, _, _⟩ := hF3.two
      obtain ⟨y0, y1, y2, y3⟩ := hR4.two
      rcases HCASE.out with ⟨hgd, rfl, rfl⟩ | ⟨hgd, hcc⟩ | ⟨hgd, rfl, rfl⟩
      · have HGJ := hide hgd
        clear hgd
        rw [hw3] at f0 f1 y0 y1 y2 y3
        go_wp2_with fail
        rw [← hw3]
        go_roundw
        case rel => exact ⟨j + 1, by omega, by go_num, fun t ht => by
          by_cases htj : t < j
          · exact HGD.out t htj
          · rw [show t = j by omega, HLJ.out]; exact HGJ.out, hb4⟩
        case measure => simp [intOf]; omega
      · obtain ⟨hc5, hij⟩ := HC.out hgd
        have hcb : (cc != 0) = true := by simpa using hcc
        obtain ⟨hR6, hB6⟩ := put2 hR4 hB4 (by omega) 5 (j : Int)
        obtain ⟨z0, z1, _, _⟩ := hR6.two
        rw [hw3] at f0 f1 y0 y1 y2 y3
        have HC5 := hide hc5
        have HIJ := hide hij
        clear hc5 hij hgd hcc
        go_wp2
        rw [← hw3]
        exact bodyPost_ret (v := .agg #[.int .i64 5, .int .i64 j]) (by simp [results, Tryz.results23, go_sem, z0, z1]) rfl ⟨by rw [HC5.out, HIJ.out], hB6⟩
      · obtain ⟨hc5, hij⟩ := HC.out hgd
        obtain ⟨hR6, hB6⟩ := put2 hR4 hB4 (by omega) 5 (j : Int)
        obtain ⟨z0, z1, _, _⟩ := hR6.two
        rw [hw3] at f0 f1 y0 y1 y2 y3
        have HC5 := hide hc5
        have HIJ := hide hij
        clear hc5 hij hgd
        go_wp2
        rw [← hw3]
        exact bodyPost_ret (v := .agg #[.int .i64 5, .int .i64 j]) (by simp [results, Tryz.results23, go_sem, z0, z1]) rfl ⟨by rw [HC5.out, HIJ.out], hB6⟩
    · have hji : ¬ (j : Int) < (ls.length : Int) := by omega
      obtain ⟨y0, y1, y2, y3⟩ := hRr.two
      have HC0 := hide (show c = 0 ∧ i = 0 by
        rcases HCI.out with ⟨_, h1, h2⟩ | ⟨k', hk', h1, h2, h3, h4⟩
        · exact ⟨h1, h2⟩
        · rw [HGD.out k' (by omega)] at h2; cases h2)
      have hst := store_same y0 y1
      go_wp2
      exact bodyPost_ret (v := .agg #[.int .i64 0, .int .i64 0]) (by simp [results, Tryz.results23, go_sem, y0, y1]) rfl ⟨by rw [HC0.out.1, HC0.out.2], hBr⟩
end Go.Proofs.YtjiapicknkjhmaaGreatDoor
