/- Package quot's Quotient as a list of its own; package hom: strays, openedWith, Image. Condition: the library's table of places lies as its text lays it. Tests that are subgroups; a homomorphism at inverses; Closure at everything. The third theorem of isomorphisms as mathematics. How many bits a number of 64 bits has, counted as math/bits.OnesCount64 does: pairs of fields are added, side by side. Pure mathematics. The last steps of the count of bits: eight bytes are added into the lowest. The count of a set's bits is how many things it has. math/bits.OnesCount64 and (set.Set).Len: how many things a set has. What package sub's subgroups takes: a set that is not there yet is put to the map and to the list. The sets that package sub's subgroups finds: mathematics. As many subgroups above a normal subgroup as in the quotient by it. -/
import Derived.Test.YtlhjeenijcokoaaGreatDoorZ9
import Derived.BigQuiet
import Derived.Deep.AppendLies
import Derived.Deep.DeepCutAuto
import Derived.Deep.RegionLaw
import Derived.Laws.EntriesVeiled
import Derived.Maps.AppendAt
import Derived.Maps.Ext
import Derived.Maps.OwnOps
import Derived.Maps.OwnSet
import Derived.Test.YtlhjeenijcokoaaGreatDoorZ1
import Derived.Test.YtlhjeenijcokoaaGreatDoorZ3
namespace Go.Proofs.YtlhjeenijcokoaaGreatDoor
open Go Go.RowKit

set_option maxRecDepth 100000 in
set_option maxHeartbeats 8000000 in
theorem quo_goodF (n e : Nat) (v u : Value) (zs l : List Int) (w : World) (hv : Sl w v zs) (hg : IsGrp n zs e) (hu : Sl w u l) (hT : Tab w) (hl : lfault n l = (0, 0)) (hsb : subT n zs e (pset l) = true) (hN : nrmq n zs e (pset l) = true) :
    Calls Tryz.prog 21 #[.agg #[.int .i64 n, v], u] w fun x w' => ∃ r1 r2 r3 s1 s2 s3, x = .returned (.tuple #[.agg #[.int .i64 (fsts n (rgtq n zs (lst n (pset l))) n).length, .slice r1 r2 r3], .slice s1 s2 s3, .agg #[.int .i64 0, .int .i64 0]]) ∧ SlF w.heap.size w' (.slice r1 r2 r3) (mkT (fsts n (rgtq n zs (lst n (pset l))) n).length (quoF n zs (rgtq n zs (lst n (pset l))))) ∧ SlF w.heap.size w' (.slice s1 s2 s3) (ontoL n (rgtq n zs (lst n (pset l)))) ∧ Below w.heap.size w w' := by
  obtain ⟨i0, hi, hz0, hz1, hz2⟩ := info_parts info3b
  have hn := hg.tab.le
  have PP := rgt_parts hg hsb
  obtain ⟨w0, BG⟩ := BegQ.new w n v
  have HN := hide (nrm_good n e v u zs l w0 (hv.below BG.bel) hg (hu.below BG.bel) (hT.below BG.bel) hl hsb)
  rw [hN] at HN
  have HRG := hide (fun W (h : Below w.heap.size w W) => lists_sl (Nat.lt_of_lt_of_le hT.lt h.size) (rgt_good n e v u zs l W (hv.below h) hg (hu.below h) (hT.below h) hl hsb))
  obtain ⟨f, hf⟩ : ∃ f, f = rgtq n zs (lst n (pset l)) := ⟨_, rfl⟩
  rw [← hf] at HRG PP ⊢
  clear hf
  obtain ⟨K, hK⟩ : ∃ K, K = (fsts n f n).length := ⟨_, rfl⟩
  have hK6 : K ≤ 60 := by rw [hK]; exact Nat.le_trans (fsts_len n f n) hn
  have HCL := hide (show (csl n f n).length = K by rw [csl_len, hK])
  have HNUM := hide (fun W v9 (h : SlL W v9 (csl n f n)) => numbers_ok v9 (csl n f n) W h (by rw [HCL.out]; exact hK6) (fun t _ => Nat.le_trans (csl_len_le t) hn) (fun t a ha => by
    obtain ⟨b, hb, rfl, _⟩ := (csl_at PP t a).1 ha
    omega) (fun s t a h1 h2 => by
    obtain ⟨b, hb, rfl, h3⟩ := (csl_at PP s a).1 h1
    obtain ⟨b', hb', he, h4⟩ := (csl_at PP t _).1 h2
    have : b = b' := by omega
    subst this
    omega))
  have HNL := hide (fun a (ha : a < n) => (prts_num_lt PP ha).1)
  rw [← hK] at HNL
  have HAT := hide (fun (D : DataW Unit) (h : MLs (csl n f n) (csl n f n).length 0 D) a (ha : a < n) => h.old (num n f a) (by rw [csl_len]; exact (prts_num_lt PP ha).1) a ((csl_at PP _ _).2 ⟨a, ha, rfl, rfl⟩))
  have HGR := hide (fun W lv mb c (D : DataW Unit) (h : Below w.heap.size w W) (hL : SlL W lv (csl n f n)) (hm : W.ownsMap Tryz.prog 3 (plainElem Tryz.prog 3) mb c D) (hM : MLs (csl n f n) (csl n f n).length 0 D) =>
    group_ok n K v lv zs (csl n f n) (fun i => (fsts n f n)[i]?.getD 0) (quoF n zs f) mb c D W hg.tab (hv.below h) hL HCL.out hK6 (fun i hi => by
      rw [hK] at hi
      obtain ⟨s, hs⟩ := csl_head PP hi
      exact ⟨s, hs, by rw [List.getElem?_eq_getElem hi]; exact fst_lt hi⟩) hm (fun i j hi hj => by
      rw [hK] at hi hj
      have h1 := fst_lt hi
      have h2 := fst_lt hj
      unfold quoF
      simp only [List.getElem?_eq_getElem hi, List.getElem?_eq_getElem hj, Option.getD_some]
      exact HAT.out D hM _ (tm_lt hg.tab h1 h2)) (fun i j hi hj => by
      rw [hK] at hi hj
      unfold quoF
      simp only [List.getElem?_eq_getElem hi, List.getElem?_eq_getElem hj, Option.getD_some]
      have := HNL.out _ (tm_lt hg.tab (fst_lt hi) (fst_lt hj))
      omega))
  rw [← hK]
  have HK := hide hK
  clear hK PP hN
  obtain ⟨c0, c1, _, _⟩ := BG.box.two
  rw [BG.eq] at c0 c1
  go_enter Tryz.func21, Tryz.ntmps21
  go_wp2_with fail
  rw [← BG.eq]
  clear c0 c1
  refine HN.out.mono ?_
  rintro x w1 ⟨rfl, hb1⟩
  have hb2 := bcat2 hb1 (balloc w1 (.cells #[.int .i64 0, .int .i64 0] 26))
  have hF2 := blk0 (w := w1) (T := 26) (.int .i64 0) (.int .i64 0)
  have hBw := bcat BG.bel hb2 BG.bel.size
  have hX2 := blk_below BG.box hb2
  have hG2 := blk_below BG.grp hb2
  have hR2 := blk_below BG.res hb2
  obtain ⟨t0, t1, _, _⟩ := hF2.two
  obtain ⟨c0, c1, _, _⟩ := hX2.two
  go_wp2_with fail
  generalize w1.alloc (.cells #[.int .i64 0, .int .i64 0] 26) = w2 at *
  clear t0 t1 c0 c1 hb1 hb2
  refine (HRG.out _ hBw).mono ?_
  rintro x w3 ⟨r1, r2, r3, rfl, hr, hb3⟩
  have hF3 := blk_below hF2 hb3
  have hX3 := blk_below hX2 hb3
  have hG3 := blk_below hG2 hb3
  have hR3 := blk_below hR2 hb3
  have hBw3 := bcat2 hBw hb3
  obtain ⟨t0, t1, ft0, ft1⟩ := hF3.two
  obtain ⟨s0, s1⟩ := hF3.self
  go_wp2_with fail
  clear t0 t1 ft0 ft1 s0 s1
  refine (HNUM.out _ _ hr).mono ?_
  rintro x w4 ⟨D, rfl, hmap, hML, hb4⟩
  have hX4 := blk_below hX3 hb4
  have hG4 := blk_below hG3 hb4
  have hR4 := blk_below hR3 hb4
  have hr4 := hr.below hb4
  have hBw4 := bcat2 hBw3 hb4
  obtain ⟨k0, k1, _, _⟩ := hX4.two
  clear hX2 hX3 hG2 hG3 hR2 hR3 hF2 hF3 hr hBw hBw3 HNUM HRG HN
  go_wp2_with (first
    | (at_make; refine wpList_make_full _ rfl _ _ 22 rfl w4.heap.size 3 i0 (.int .i64 0) 1 under22b hi hz0 hz1 _ _ _ _ n rfl rfl rfl rfl (by rw [hz2]; omega) (by unfold maxLen; omega) (by simp) ?_))
  intro w5 hown hgr
  have hM5 : Blk w5 w4.heap.size 3 ((ontoU n f 0).map (Value.int .i64)) := by
    have := Blk.of_owns hown
    rw [made_rep] at this
    rw [ontoU_zero, List.map_replicate]; exact this
  have hb5 : Below w4.heap.size w4 w5 := (Below.refl _ w4).grown hgr (Nat.le_refl _) (by simp)
  clear hown hgr k0 k1
  have hw34 := hb4.size
  have HMP := hide hmap
  clear hmap
  go_wp2
  go_loopw [46] (fun i wr => ∃ a : Nat, a ≤ n ∧ i = .int .i64 a ∧ Blk wr w4.heap.size 3 ((ontoU n f a).map (Value.int .i64)) ∧ Below w4.heap.size w4 wr) (fun i _ => n - (intOf i).toNat)
  case atStart => exact ⟨0, Nat.zero_le _, rfl, hM5, hb5⟩
  case round =>
    obtain ⟨a, ha, rfl, hMa, hBa⟩ := hrel
    clear hM5 hb5
    by_cases hlt : a < n
    · have hai : (a : Int) < (n : Int) := by omega
      have hlk := look_int (HMP.out.kept (below_grown hBa none) (by simp)) (show a < 60 by omega) (HAT.out D hML a hlt)
      have hMc := hMa.int (y := a) (by rw [ontoU_len]; exact hlt)
      have hMf := hMa.frozen a
      have hM6 := hMa.setInt a (num n f a : Int)
      rw [← ontoU_set] at hM6
      have hB6 := hBa.setCell (p := ⟨w4.heap.size, a, none⟩) (Nat.le_refl _) (.int .i64 (num n f a : Int))
      go_wp2
      go_roundw
      case rel => exact ⟨a + 1, by omega, by go_num, hM6, hB6⟩
      case measure => simp [intOf]; omega
    · have hai : ¬ (a : Int) < (n : Int) := by omega
      have han : a = n := by omega
      rw [han, ontoU_all] at hMa
      clear han
      have hXr := blk_below hX4 hBa
      have hGr := blk_below hG4 hBa
      have hRr := blk_below hR4 hBa
      have hBr := bcat2 hBw4 hBa
      obtain ⟨k0, k1, _, _⟩ := hXr.two
      go_wp2_with fail
      clear k0 k1
      refine (HGR.out wr _ _ _ D hBr (hr4.below hBa) (HMP.out.kept (below_grown hBa none) (by simp)) hML).mono ?_
      rintro x w6 ⟨r, rfl, hrow, hb6⟩
      obtain ⟨T, hTe⟩ : ∃ T, T = mkT K (quoF n zs f) := ⟨_, rfl⟩
      rw [← hTe] at hrow
      have HTE := hide hTe
      clear hTe
      obtain ⟨rx, rcap, rfl⟩ := own_slice hrow
      have hMl := hMa.lt
      have hRl := hRr.lt
      have hGl := hGr.lt
      have hG6 := blk_below hGr hb6
      have hR6 := blk_below hRr hb6
      have hM6 := blk_below hMa hb6
      have hB6 := bcat2 hBr hb6
      obtain ⟨g0, g1, fg0, fg1⟩ := hG6.two
      have hG7 := (hG6.set 0 (.int .i64 K)).set 1 (.slice rx T.length rcap)
      have hR7 := (hR6.other (p := ⟨w.heap.size + 1, 0, none⟩) (by simp) (.int .i64 K)).other (p := ⟨w.heap.size + 1, 1, none⟩) (by simp) (.slice rx T.length rcap)
      have hMne : w4.heap.size ≠ w.heap.size + 1 := by have := hG4.lt; omega
      have hM7 := (hM6.other (p := ⟨w.heap.size + 1, 0, none⟩) (by simpa using hMne) (.int .i64 K)).other (p := ⟨w.heap.size + 1, 1, none⟩) (by simpa using hMne) (.slice rx T.length rcap)
      have hB7 := (hB6.setCell (p := ⟨w.heap.size + 1, 0, none⟩) (by simp) (.int .i64 K)).setCell (p := ⟨w.heap.size + 1, 1, none⟩) (by simp) (.slice rx T.length rcap)
      have hrow7 := row_keep (W' := (w6.setCell ⟨w.heap.size + 1, 0, none⟩ (.int .i64 K)).setCell ⟨w.heap.size + 1, 1, none⟩ (.slice rx T.length rcap)) hrow (fun g h1 _ => (Below.heap_setCell _ _ _ g (by simp; omega)).trans (Below.heap_setCell _ _ _ g (by simp; omega)))
      obtain ⟨y0, y1, fy0, fy1⟩ := hR7.two
      obtain ⟨s0, s1⟩ := hR7.self
      obtain ⟨v0, v1, fv0, fv1⟩ := hR6.two
      obtain ⟨z0, z1, _, _⟩ := hG7.two
      have hse := slF_blk hM7 (ontoL_len n f).symm (by rw [ontoL_len]; omega) hBw4.size
      go_wp2
      exact bodyPost_ret (v := .tuple #[.agg #[.int .i64 K, .slice rx T.length rcap], .slice (some ⟨w4.heap.size, 0, none⟩) n n, .agg #[.int .i64 0, .int .i64 0]]) (by simp [results, Tryz.results21, go_sem, z0, z1, y0, y1]) rfl ⟨_, _, _, _, _, _, rfl, by rw [← HTE.out]; exact slF_row hrow7 hBr.size (by rw [HTE.out, mkT_len]; have := HNL.out e hg.elt; exact Nat.mul_pos (by omega) (by omega)), hse, hB7⟩
set_option maxRecDepth 100000 in
set_option maxHeartbeats 8000000 in
theorem strays_ok (n m e d a : Nat) (v u y t mv : Value) (zs ys ms : List Int) (w : World) (ht : IsTab n zs) (hu : IsTab m ys) (hv : Sl w v zs) (hy : Sl w y ys) (hm : Sl w mv ms) (hl : ms.length = n) (hr : ∀ i, i < n → 0 ≤ ms[i]?.getD 0 ∧ ms[i]?.getD 0 < m) (ha : a < n) :
    Calls Tryz.prog 87 #[.agg #[.int .i64 n, v, .int .i64 e, u, .int .i64 m, y, .int .i64 d, t], mv, .int .i64 a] w fun x w' => x = .returned (.bool (stq n zs m ys ms a)) ∧ Below w.heap.size w w' := by
  have hn := ht.le
  have hB0 : Below w.heap.size w (w.alloc (.cells #[.int .i64 n, v, .int .i64 e, u, .int .i64 m, y, .int .i64 d, t] 59)) := balloc w _
  have hX0 : Blk (w.alloc (.cells #[.int .i64 n, v, .int .i64 e, u, .int .i64 m, y, .int .i64 d, t] 59)) w.heap.size 59 [.int .i64 n, v, .int .i64 e, u, .int .i64 m, y, .int .i64 d, t] := World.alloc_heap_new _ _
  have HP1 := hide (fun W b (h : Below w.heap.size w W) (hb : b < n) => prd_ok n v u zs e a b W ht (hv.below h) ha hb)
  have HP2 := hide (fun W i j (h : Below w.heap.size w W) (hi : i < m) (hj : j < m) => prd_ok m y t ys d i j W hu (hy.below h) hi hj)
  have HTL := hide (fun b (hb : b < n) => tm_lt ht ha hb)
  have HR := hide hr
  have HNO := hide (stq_no (n := n) (zs := zs) (m := m) (ys := ys) (ms := ms) (a := a))
  have HYES := hide (fun b (hb : b < n) h => stq_yes (n := n) (zs := zs) (m := m) (ys := ys) (ms := ms) (a := a) (b := b) hb h)
  obtain ⟨bb, hbb⟩ : ∃ bb, bb = stq n zs m ys ms a := ⟨_, rfl⟩
  rw [← hbb] at HNO HYES ⊢
  clear hbb hr
  obtain ⟨ma, mc, mb, mo, rfl, hmr, hmb, _, hmm⟩ := hm
  have HMA := hide (fun (h : 0 < n) => hmr.at_ (by omega))
  have HMC := hide (fun i (h : i < n) => hmr.cell i (by omega))
  rw [hl] at *
  clear hmr hmm hl
  obtain ⟨_, p0, p1, p2, p3, p4, p5, p6, p7⟩ := Eight.mk' hX0
  go_enter Tryz.func87, Tryz.ntmps87
  go_wp2
  generalize w.alloc (.cells #[.int .i64 n, v, .int .i64 e, u, .int .i64 m, y, .int .i64 d, t] 59) = w0 at *
  clear p0 p1 p2 p3 p4 p5 p6 p7
  go_loopw [12] (fun i wr => ∃ b : Nat, b ≤ n ∧ i = .int .i64 b ∧ (∀ t, t < b → ms[tm n zs a t]?.getD 0 = (tm m ys (ms[a]?.getD 0).toNat (ms[t]?.getD 0).toNat : Int)) ∧ Below w0.heap.size w0 wr) (fun i _ => n - (intOf i).toNat)
  case atStart => exact ⟨0, Nat.zero_le _, rfl, fun t ht => by omega, Below.refl _ _⟩
  case round =>
    obtain ⟨b, hb, rfl, hno, hB⟩ := hrel
    have HALL := hide hno
    clear hno
    have hBw := bcat2 hB0 hB
    by_cases hlt : b < n
    · have hbi : (b : Int) < (n : Int) := by omega
      have hai : (a : Int) < (n : Int) := by omega
      obtain rfl := HMA.out (by omega)
      have hab := HTL.out b hlt
      have ca := below_cell hBw (HMC.out a ha)
      have cb := below_cell hBw (HMC.out b hlt)
      have cab := below_cell hBw (HMC.out _ hab)
      obtain ⟨a0, a1⟩ := HR.out a ha
      obtain ⟨b0, b1⟩ := HR.out b hlt
      have hea : ms[a]?.getD 0 = ((ms[a]?.getD 0).toNat : Int) := by omega
      have heb : ms[b]?.getD 0 = ((ms[b]?.getD 0).toNat : Int) := by omega
      have hfa : (ms[a]?.getD 0).toNat < m := by omega
      have hfb : (ms[b]?.getD 0).toNat < m := by omega
      have HQ1 := hide (fun W (h : Below w.heap.size w W) => HP1.out W b h hlt)
      have HQ2 := hide (fun W (h : Below w.heap.size w W) => HP2.out W _ _ h hfa hfb)
      have HB2 := hide (HYES.out b hlt)
      have HB1 := hide (fun (h : ms[tm n zs a b]?.getD 0 = (tm m ys (ms[a]?.getD 0).toNat (ms[b]?.getD 0).toNat : Int)) t (ht : t < b + 1) => show ms[tm n zs a t]?.getD 0 = (tm m ys (ms[a]?.getD 0).toNat (ms[t]?.getD 0).toNat : Int) by
        by_cases e9 : t = b
        · subst e9; exact h
        · exact HALL.out t (by omega))
      rw [hea] at ca
      rw [heb] at cb
      clear hea heb a0 a1 b0 b1
      generalize (ms[a]?.getD 0).toNat = fa at *
      generalize (ms[b]?.getD 0).toNat = fb at *
      generalize hcd : ms[tm n zs a b]?.getD 0 = fab at *
      have HCD := hide hcd
      clear hcd
      generalize hd9e : tm n zs a b = d9 at *
      have HD9 := hide hd9e
      clear hd9e
      generalize tm m ys fa fb = q9 at *
      have hdi : (d9 : Int) < (n : Int) := by omega
      obtain ⟨_, p0, p1, p2, p3, p4, p5, p6, p7⟩ := Eight.mk' (blk_below hX0 hB)
      have hS' : ∀ W, Below wr.heap.size wr W → (Below wr.heap.size wr W ∧ W.cell? ⟨mb, mo + a, none⟩ = some (.int .i64 (fa : Int)) ∧ W.cell? ⟨mb, mo + b, none⟩ = some (.int .i64 (fb : Int)) ∧ W.cell? ⟨mb, mo + d9, none⟩ = some (.int .i64 fab) ∧ W.cell? ⟨w.heap.size, 0, none⟩ = some (.int .i64 n) ∧ W.cell? ⟨w.heap.size, 1, none⟩ = some v ∧ W.cell? ⟨w.heap.size, 2, none⟩ = some (.int .i64 e) ∧ W.cell? ⟨w.heap.size, 3, none⟩ = some u ∧ W.cell? ⟨w.heap.size, 4, none⟩ = some (.int .i64 m) ∧ W.cell? ⟨w.heap.size, 5, none⟩ = some y ∧ W.cell? ⟨w.heap.size, 6, none⟩ = some (.int .i64 d) ∧ W.cell? ⟨w.heap.size, 7, none⟩ = some t) := fun W h => ⟨h, below_cell h ca, below_cell h cb, below_cell h cab, below_cell h p0, below_cell h p1, below_cell h p2, below_cell h p3, below_cell h p4, below_cell h p5, below_cell h p6, below_cell h p7⟩
      have hS1 := hS' _ (bdrew (Below.refl _ wr))
      have hk1 : Hid True := trivial
      clear p0 p1 p2 p3 p4 p5 p6 p7 ca cb cab
      by_cases heq : fab = (q9 : Int)
      · have HBX := hide (HB1.out heq)
        subst heq
        clear HB1 HB2
        go_wp2_with fail
        go_region_held3 (fun W => Below wr.heap.size wr W ∧ W.cell? ⟨mb, mo + a, none⟩ = some (.int .i64 (fa : Int)) ∧ W.cell? ⟨mb, mo + b, none⟩ = some (.int .i64 (fb : Int)) ∧ W.cell? ⟨mb, mo + d9, none⟩ = some (.int .i64 (q9 : Int)) ∧ W.cell? ⟨w.heap.size, 0, none⟩ = some (.int .i64 n) ∧ W.cell? ⟨w.heap.size, 1, none⟩ = some v ∧ W.cell? ⟨w.heap.size, 2, none⟩ = some (.int .i64 e) ∧ W.cell? ⟨w.heap.size, 3, none⟩ = some u ∧ W.cell? ⟨w.heap.size, 4, none⟩ = some (.int .i64 m) ∧ W.cell? ⟨w.heap.size, 5, none⟩ = some y ∧ W.cell? ⟨w.heap.size, 6, none⟩ = some (.int .i64 d) ∧ W.cell? ⟨w.heap.size, 7, none⟩ = some t)
          (first | exact hS1 | assumption | exact hS' _ (bcat2 (And.left ‹_›) hl1))
          (first
            | (go_at_call 100; clear hk1; refine (HQ1.out _ (bcat2 hBw (And.left ‹_›))).mono ?_; rintro e1 U1 ⟨rfl, hl1⟩)
            | (go_at_call 100; refine (HQ2.out _ (bcat2 hBw (And.left ‹_›))).mono ?_; rintro e2 U2 ⟨rfl, hl1⟩))
        all_goals (
          have hB9 := bcat2 hB (And.left ‹Below wr.heap.size wr U2 ∧ _›)
          go_wp2
          go_roundw
          case rel => exact ⟨b + 1, by omega, by go_num, HBX.out, hB9⟩
          case measure => simp [intOf]; omega)
      · have HBX := hide (HB2.out heq)
        have hne : (fab != (q9 : Int)) = true := by simpa using heq
        clear HB1 HB2
        go_wp2_with fail
        go_region_held3 (fun W => Below wr.heap.size wr W ∧ W.cell? ⟨mb, mo + a, none⟩ = some (.int .i64 (fa : Int)) ∧ W.cell? ⟨mb, mo + b, none⟩ = some (.int .i64 (fb : Int)) ∧ W.cell? ⟨mb, mo + d9, none⟩ = some (.int .i64 fab) ∧ W.cell? ⟨w.heap.size, 0, none⟩ = some (.int .i64 n) ∧ W.cell? ⟨w.heap.size, 1, none⟩ = some v ∧ W.cell? ⟨w.heap.size, 2, none⟩ = some (.int .i64 e) ∧ W.cell? ⟨w.heap.size, 3, none⟩ = some u ∧ W.cell? ⟨w.heap.size, 4, none⟩ = some (.int .i64 m) ∧ W.cell? ⟨w.heap.size, 5, none⟩ = some y ∧ W.cell? ⟨w.heap.size, 6, none⟩ = some (.int .i64 d) ∧ W.cell? ⟨w.heap.size, 7, none⟩ = some t)
          (first | exact hS1 | assumption | exact hS' _ (bcat2 (And.left ‹_›) hl1))
          (first
            | (go_at_call 100; clear hk1; refine (HQ1.out _ (bcat2 hBw (And.left ‹_›))).mono ?_; rintro e1 U1 ⟨rfl, hl1⟩)
            | (go_at_call 100; refine (HQ2.out _ (bcat2 hBw (And.left ‹_›))).mono ?_; rintro e2 U2 ⟨rfl, hl1⟩))
        all_goals (
          have hB9 := bcat2 hBw (And.left ‹Below wr.heap.size wr U2 ∧ _›)
          go_wp2
          go_ret
          exact ⟨by rw [HBX.out]; rfl, hB9⟩)
    · have hbi : ¬ (b : Int) < (n : Int) := by omega
      have HBN := hide (HNO.out.2 (fun t ht => HALL.out t (by omega)))
      go_wp2
      go_ret
      exact ⟨by rw [HBN.out]; rfl, bcat2 hB0 hB⟩
set_option maxRecDepth 100000 in
set_option maxHeartbeats 8000000 in
theorem ow_bad (N M c i : Int) (v y mv : Value) (w : World) (hc : c ≠ 0)
    (HP : Hid (∀ W, Below w.heap.size w W → Calls Tryz.prog 37 #[.agg #[.int .i64 N, v], .agg #[.int .i64 M, y]] W fun x w' => x = .returned (.tuple #[.agg #[.int .i64 0, .slice none 0 0, .int .i64 0, .slice none 0 0, .int .i64 0, .slice none 0 0, .int .i64 0, .slice none 0 0], .agg #[.int .i64 c, .int .i64 i]]) ∧ Below W.heap.size W w')) :
    Calls Tryz.prog 52 #[.agg #[.int .i64 N, v], .agg #[.int .i64 M, y], mv] w fun x w' => x = .returned (.tuple #[.agg #[.int .i64 0, .slice none 0 0, .int .i64 0, .slice none 0 0, .int .i64 0, .slice none 0 0, .int .i64 0, .slice none 0 0], .agg #[.int .i64 c, .int .i64 i]]) ∧ Below w.heap.size w w' := by
  obtain ⟨w0, BG⟩ := BegP.new w N M v y
  have HCK := hide (HP.out w0 BG.bel)
  obtain ⟨c0, c1, _, _⟩ := BG.box.two
  obtain ⟨k0, k1, _, _⟩ := BG.boy.two
  have hcb : (c != 0) = true := by simpa using hc
  rw [BG.eq] at c0 c1 k0 k1
  go_enter Tryz.func52, Tryz.ntmps52
  go_wp2_with fail
  rw [← BG.eq]
  clear c0 c1 k0 k1
  refine HCK.out.mono ?_
  rintro x w1 ⟨rfl, hb1⟩
  obtain ⟨w2, hw2⟩ : ∃ w2, w2 = (w1.alloc (.cells #[.int .i64 0, .slice none 0 0, .int .i64 0, .slice none 0 0, .int .i64 0, .slice none 0 0, .int .i64 0, .slice none 0 0] 59)).alloc (.cells #[.int .i64 c, .int .i64 i] 26) := ⟨_, rfl⟩
  have hB1 : Below w0.heap.size w0 w2 := by rw [hw2]; exact bcat2 hb1 ((balloc w1 _).alloc (by simp) _)
  have hF1 : Blk w2 (w1.heap.size + 1) 26 [.int .i64 c, .int .i64 i] := by
    rw [hw2]
    have := blk0 (w := w1.alloc (.cells #[.int .i64 0, .slice none 0 0, .int .i64 0, .slice none 0 0, .int .i64 0, .slice none 0 0, .int .i64 0, .slice none 0 0] 59)) (T := 26) (.int .i64 c) (.int .i64 i)
    rwa [World.size_alloc] at this
  have hR1 := blk_below BG.res hB1
  have hP1 := blk_below BG.par hB1
  have hBw := bcat BG.bel hB1 BG.bel.size
  obtain ⟨y0, y1, fy0, fy1⟩ := hR1.two
  obtain ⟨t0, t1, _, _⟩ := hF1.two
  obtain ⟨hR6, hB6⟩ := put2 hR1 hBw (by omega) c i
  have hP6 := (hP1.other (p := ⟨w.heap.size + 1 + 1 + 1, 0, none⟩) (by simp) (.int .i64 c)).other (p := ⟨w.heap.size + 1 + 1 + 1, 1, none⟩) (by simp) (.int .i64 i)
  have hB7 := bdrew hB6
  rw [hw2] at t0 t1
  go_wp2_with fail
  rw [← hw2] at t0 t1 ⊢
  clear hw2
  obtain ⟨_, p0, p1, p2, p3, p4, p5, p6, p7⟩ := Eight.mk' hP1
  obtain ⟨q0, q1, q2, q3, q4, q5, q6, q7⟩ := Eight.fr hP1
  obtain ⟨s0, s1, s2, s3, s4, s5, s6, s7⟩ := Eight.se hP1
  obtain ⟨u0, u1, u2, u3, u4, u5, u6, u7⟩ := Eight.se hP6
  obtain ⟨_, m0, m1, m2, m3, m4, m5, m6, m7⟩ := Eight.mk' hP6
  go_region
  all_goals (
    go_wp2
    obtain ⟨z0, z1, _, _⟩ := hR6.two
    exact bodyPost_ret (v := .tuple #[.agg #[.int .i64 0, .slice none 0 0, .int .i64 0, .slice none 0 0, .int .i64 0, .slice none 0 0, .int .i64 0, .slice none 0 0], .agg #[.int .i64 c, .int .i64 i]]) (by simp [results, Tryz.results52, go_sem, z0, z1, m0, m1, m2, m3, m4, m5, m6, m7]) rfl ⟨rfl, hB7⟩)
set_option maxRecDepth 100000 in
set_option maxHeartbeats 2000000 in
theorem ow_any (n e m d : Nat) (v y mv : Value) (zs ys ms : List Int) (w : World) (hv : Sl w v zs) (hg : IsGrp n zs e) (hy : Sl w y ys) (hh : IsGrp m ys d) (hm : Sl w mv ms) :
    Calls Tryz.prog 52 #[.agg #[.int .i64 n, v], .agg #[.int .i64 m, y], mv] w fun x w' => ∃ P, x = .returned (.tuple #[P, .agg #[.int .i64 (hfault n zs m ys ms).1, .int .i64 (hfault n zs m ys ms).2]]) ∧ ((hfault n zs m ys ms).1 = 0 → ∃ u t, P = .agg #[.int .i64 n, v, .int .i64 e, u, .int .i64 m, y, .int .i64 d, t] ∧ SlF w.heap.size w' u (li ((List.range n).map (iv n zs e))) ∧ SlF w.heap.size w' t (li ((List.range m).map (iv m ys d)))) ∧ (¬ (hfault n zs m ys ms).1 = 0 → P = .agg #[.int .i64 0, .slice none 0 0, .int .i64 0, .slice none 0 0, .int .i64 0, .slice none 0 0, .int .i64 0, .slice none 0 0]) ∧ Below w.heap.size w w' := by
  obtain ⟨va, vl, vc, rfl⟩ := hv.isSlice
  obtain ⟨ya, yl, yc, rfl⟩ := hy.isSlice
  have hn := hg.tab.le
  obtain ⟨w0, BG⟩ := BegP.new w n m (.slice va vl vc) (.slice ya yl yc)
  have HCK := hide (pair_good n e m d (.slice va vl vc) (.slice ya yl yc) zs ys w0 (hv.below BG.bel) hg (hy.below BG.bel) hh)
  have H8 := hide (fun (h : ¬ ms.length = n) => hfault_8 (ms := ms) hg hh h)
  have H3 := hide (fun (h : ms.length = n) k (hk : k < n) h1 h2 => hfault_3 (k := k) hg hh h hk h1 h2)
  have H7 := hide (fun (h : ms.length = n) hr k (hk : k < n) h1 h2 => hfault_7 (k := k) hg hh h hr hk h1 h2)
  have H0 := hide (fun (h : ms.length = n) hr h1 => hfault_0 hg hh h hr h1)
  obtain ⟨hf, hfe⟩ : ∃ hf, hf = hfault n zs m ys ms := ⟨_, rfl⟩
  rw [← hfe] at H8 H3 H7 H0 ⊢
  clear hfe
  have HST := hide (fun W a (u t : Value) (h : Below w.heap.size w W) (hl : ms.length = n) (hr : ∀ i, i < n → 0 ≤ ms[i]?.getD 0 ∧ ms[i]?.getD 0 < m) (ha : a < n) => strays_ok n m e d a (.slice va vl vc) u (.slice ya yl yc) t mv zs ys ms W hg.tab hh.tab (hv.below h) (hy.below h) (hm.below h) hl hr ha)
  obtain ⟨ma, mc, mb, mo, rfl, hmr, hmb, _, hmm⟩ := hm
  have hml : ms.length ≤ 9223372036854775807 := by unfold maxLen at hmm; omega
  have HMR := hide hmr
  clear hmr hmm
  obtain ⟨c0, c1, _, _⟩ := BG.box.two
  obtain ⟨k0, k1, _, _⟩ := BG.boy.two
  rw [BG.eq] at c0 c1 k0 k1
  go_enter Tryz.func52, Tryz.ntmps52
  go_wp2_with fail
  rw [← BG.eq]
  clear c0 c1 k0 k1
  refine HCK.out.mono ?_
  rintro x w1 ⟨iv9, jv9, rfl, hSI, hSJ, hb1⟩
  obtain ⟨ia, il, ic, rfl⟩ := hSI.sl.isSlice
  obtain ⟨ja, jl, jc, rfl⟩ := hSJ.sl.isSlice
  obtain ⟨w2, hw2⟩ : ∃ w2, w2 = (w1.alloc (.cells #[.int .i64 n, .slice va vl vc, .int .i64 e, .slice ia il ic, .int .i64 m, .slice ya yl yc, .int .i64 d, .slice ja jl jc] 59)).alloc (.cells #[.int .i64 0, .int .i64 0] 26) := ⟨_, rfl⟩
  have hb12 : Below w1.heap.size w1 w2 := by rw [hw2]; exact (balloc w1 _).alloc (by simp) _
  have hB1 : Below w0.heap.size w0 w2 := bcat2 hb1 hb12
  have hF2 : Blk w2 (w1.heap.size + 1) 26 [.int .i64 0, .int .i64 0] := by
    rw [hw2]
    have := blk0 (w := w1.alloc (.cells #[.int .i64 n, .slice va vl vc, .int .i64 e, .slice ia il ic, .int .i64 m, .slice ya yl yc, .int .i64 d, .slice ja jl jc] 59)) (T := 26) (.int .i64 0) (.int .i64 0)
    rwa [World.size_alloc] at this
  have hH2 : Blk w2 w1.heap.size 59 [.int .i64 n, .slice va vl vc, .int .i64 e, .slice ia il ic, .int .i64 m, .slice ya yl yc, .int .i64 d, .slice ja jl jc] := by
    rw [hw2]
    have h : Blk (w1.alloc (.cells #[.int .i64 n, .slice va vl vc, .int .i64 e, .slice ia il ic, .int .i64 m, .slice ya yl yc, .int .i64 d, .slice ja jl jc] 59)) w1.heap.size 59 [.int .i64 n, .slice va vl vc, .int .i64 e, .slice ia il ic, .int .i64 m, .slice ya yl yc, .int .i64 d, .slice ja jl jc] := World.alloc_heap_new _ _
    exact h.alloc _
  have hBw2 := bcat BG.bel hB1 BG.bel.size
  have hR2 := blk_below BG.res hB1
  have hP2 := blk_below BG.par hB1
  have hX2 := blk_below BG.box hB1
  have hSI2 := hSI.below hb12
  have hSJ2 := hSJ.below hb12
  have hPl := hP2.lt
  have hw1s := hb1.size
  rw [BG.siz] at hw1s
  have HIS := hide (And.intro hSI2 hSJ2)
  have HBS := hide (And.intro BG.siz BG.bel.size)
  obtain ⟨t0, t1, _, _⟩ := hF2.two
  obtain ⟨c0, c1, _, _⟩ := hX2.two
  clear hSI hSJ hSI2 hSJ2
  by_cases hl : ms.length = n
  · have hli : (ms.length : Int) = (n : Int) := by omega
    have G3 := hide (fun k hk h1 h2 => H3.out hl k hk h1 h2)
    have G7 := hide (fun hr k hk h1 h2 => H7.out hl hr k hk h1 h2)
    have G0 := hide (fun hr h1 => H0.out hl hr h1)
    have GST := hide (fun W a (u t : Value) (h : Below w.heap.size w W) (hr : ∀ i, i < n → 0 ≤ ms[i]?.getD 0 ∧ ms[i]?.getD 0 < m) (ha : a < n) => HST.out W a u t h hl hr ha)
    clear H3 H7 H0 H8 HST
    have HMA := hide (fun (h : 0 < n) => HMR.out.at_ (by omega))
    have HMC := hide (fun i (h : i < n) => HMR.out.cell i (by omega))
    rw [hl] at *
    clear hl hli
    rw [hw2] at t0 t1 c0 c1
    go_wp2
    rw [← hw2]
    clear hw2 t0 t1 c0 c1
    go_loopw [33] (fun i wr => ∃ k : Nat, k ≤ n ∧ i = .int .i64 k ∧ (∀ t, t < k → rng m ms t = true) ∧ Below w2.heap.size w2 wr) (fun i _ => n - (intOf i).toNat)
    case atStart => exact ⟨0, Nat.zero_le _, rfl, fun t ht => by omega, Below.refl _ _⟩
    case round =>
      obtain ⟨k, hk, rfl, hall, hB⟩ := hrel
      have HALL := hide hall
      clear hall
      have hBw := bcat2 hBw2 hB
      by_cases hlt : k < n
      · have hki : (k : Int) < (n : Int) := by omega
        obtain rfl := HMA.out (by omega)
        have ck := below_cell hBw (HMC.out k hlt)
        obtain ⟨_, h0, h1, h2, h3, h4, h5, h6, h7⟩ := Eight.mk' (blk_below hH2 hB)
        obtain ⟨r, hr⟩ : ∃ r, rng m ms k = r := ⟨_, rfl⟩
        have HGH := hide (fun W => ghas_ok m (.slice ya yl yc) (.slice ja jl jc) d (ms[k]?.getD 0) W)
        have hrd : decide (0 ≤ ms[k]?.getD 0 ∧ ms[k]?.getD 0 < (m : Int)) = r := hr
        rw [hrd] at HGH
        have HR := hide hr
        clear hr hrd
        generalize ms[k]?.getD 0 = x9 at *
        go_wp2_with fail
        refine (HGH.out _).mono ?_
        rintro x w4 ⟨rfl, hb4⟩
        have hB4 := bcat2 hB hb4
        have hBw4 := bcat2 hBw2 hB4
        clear h0 h1 h2 h3 h4 h5 h6 h7
        cases r with
        | true =>
          have HN := hide (fun t (ht : t < k + 1) => show rng m ms t = true by
            by_cases e9 : t = k
            · subst e9; exact HR.out
            · exact HALL.out t (by omega))
          go_wp2
          go_roundw
          case rel => exact ⟨k + 1, by omega, by go_num, HN.out, hB4⟩
          case measure => simp [intOf]; omega
        | false =>
          have HC := hide (show hf.1 = 3 ∧ hf.2 = (k : Int) by rw [G3.out k hlt HALL.out HR.out]; exact ⟨rfl, rfl⟩)
          have hR4 := blk_below hR2 hB4
          have hP4 := blk_below hP2 hB4
          clear G0 G3 G7 GST HIS HBS
          obtain ⟨y0, y1, fy0, fy1⟩ := hR4.two
          obtain ⟨hR6, hB6⟩ := put2 hR4 hBw4 (by omega) 3 (k : Int)
          have hP6 := (hP4.other (p := ⟨w.heap.size + 1 + 1 + 1, 0, none⟩) (by simp) (.int .i64 3)).other (p := ⟨w.heap.size + 1 + 1 + 1, 1, none⟩) (by simp) (.int .i64 (k : Int))
          obtain ⟨_, p0, p1, p2, p3, p4, p5, p6, p7⟩ := Eight.mk' hP4
          obtain ⟨q0, q1, q2, q3, q4, q5, q6, q7⟩ := Eight.fr hP4
          obtain ⟨o0, o1, o2, o3, o4, o5, o6, o7⟩ := Eight.se hP4
          obtain ⟨_, m0, m1, m2, m3, m4, m5, m6, m7⟩ := Eight.mk' hP6
          obtain ⟨z0, z1, _, _⟩ := hR6.two
          go_wp2
          exact bodyPost_ret (v := .tuple #[.agg #[.int .i64 0, .slice none 0 0, .int .i64 0, .slice none 0 0, .int .i64 0, .slice none 0 0, .int .i64 0, .slice none 0 0], .agg #[.int .i64 3, .int .i64 (k : Int)]]) (by simp [results, Tryz.results52, go_sem, z0, z1, m0, m1, m2, m3, m4, m5, m6, m7]) rfl ⟨_, by rw [HC.out.1, HC.out.2], fun h => absurd (HC.out.1.symm.trans h) (by decide), fun _ => rfl, hB6⟩
      · have hki : ¬ (k : Int) < (n : Int) := by omega
        have HRA := hide (fun t (ht : t < n) => HALL.out t (by omega))
        have HRB := hide (fun i (hi : i < n) => show 0 ≤ ms[i]?.getD 0 ∧ ms[i]?.getD 0 < (m : Int) from of_decide_eq_true (HRA.out i hi))
        clear HALL hlt
        obtain ⟨wo, rfl⟩ : ∃ wo, wo = wr := ⟨_, rfl⟩
        go_wp2
        go_loopw [49] (fun i wr => ∃ a : Nat, a ≤ n ∧ i = .int .i64 a ∧ (∀ t, t < a → stq n zs m ys ms t = false) ∧ Below w2.heap.size w2 wr) (fun i _ => n - (intOf i).toNat)
        case atStart => exact ⟨0, Nat.zero_le _, rfl, fun t ht => by omega, hB⟩
        case round =>
          clear hB hBw
          obtain ⟨a, ha, rfl, hall, hB⟩ := hrel
          have HALL := hide hall
          clear hall
          have hBw := bcat2 hBw2 hB
          by_cases hlt : a < n
          · have hai : (a : Int) < (n : Int) := by omega
            have HSA := hide (fun W (h : Below w.heap.size w W) => GST.out W a (.slice ia il ic) (.slice ja jl jc) h HRB.out hlt)
            obtain ⟨r, hr⟩ : ∃ r, stq n zs m ys ms a = r := ⟨_, rfl⟩
            rw [hr] at HSA
            have HR := hide hr
            clear hr
            obtain ⟨_, h0, h1, h2, h3, h4, h5, h6, h7⟩ := Eight.mk' (blk_below hH2 hB)
            go_wp2_with fail
            refine (HSA.out _ hBw).mono ?_
            rintro x w4 ⟨rfl, hb4⟩
            have hB4 := bcat2 hB hb4
            have hBw4 := bcat2 hBw2 hB4
            clear h0 h1 h2 h3 h4 h5 h6 h7
            cases r with
            | false =>
              have HN := hide (fun t (ht : t < a + 1) => show stq n zs m ys ms t = false by
                by_cases e9 : t = a
                · subst e9; exact HR.out
                · exact HALL.out t (by omega))
              go_wp2
              go_roundw
              case rel => exact ⟨a + 1, by omega, by go_num, HN.out, hB4⟩
              case measure => simp [intOf]; omega
            | true =>
              have HC := hide (show hf.1 = 7 ∧ hf.2 = (a : Int) by rw [G7.out HRA.out a hlt HALL.out HR.out]; exact ⟨rfl, rfl⟩)
              have hR4 := blk_below hR2 hB4
              have hP4 := blk_below hP2 hB4
              clear G0 G3 G7 GST HIS HBS
              obtain ⟨y0, y1, fy0, fy1⟩ := hR4.two
              obtain ⟨hR6, hB6⟩ := put2 hR4 hBw4 (by omega) 7 (a : Int)
              have hP6 := (hP4.other (p := ⟨w.heap.size + 1 + 1 + 1, 0, none⟩) (by simp) (.int .i64 7)).other (p := ⟨w.heap.size + 1 + 1 + 1, 1, none⟩) (by simp) (.int .i64 (a : Int))
              obtain ⟨_, p0, p1, p2, p3, p4, p5, p6, p7⟩ := Eight.mk' hP4
              obtain ⟨q0, q1, q2, q3, q4, q5, q6, q7⟩ := Eight.fr hP4
              obtain ⟨o0, o1, o2, o3, o4, o5, o6, o7⟩ := Eight.se hP4
              obtain ⟨_, m0, m1, m2, m3, m4, m5, m6, m7⟩ := Eight.mk' hP6
              obtain ⟨z0, z1, _, _⟩ := hR6.two
              go_wp2
              exact bodyPost_ret (v := .tuple #[.agg #[.int .i64 0, .slice none 0 0, .int .i64 0, .slice none 0 0, .int .i64 0, .slice none 0 0, .int .i64 0, .slice none 0 0], .agg #[.int .i64 7, .int .i64 (a : Int)]]) (by simp [results, Tryz.results52, go_sem, z0, z1, m0, m1, m2, m3, m4, m5, m6, m7]) rfl ⟨_, by rw [HC.out.1, HC.out.2], fun h => absurd (HC.out.1.symm.trans h) (by decide), fun _ => rfl, hB6⟩
          · have hai : ¬ (a : Int) < (n : Int) := by omega
            have HC := hide (show hf.1 = 0 ∧ hf.2 = 0 by rw [G0.out HRA.out (fun t ht => HALL.out t (by omega))]; exact ⟨rfl, rfl⟩)
            have hR4 := blk_below hR2 hB
            have hP4 := blk_below hP2 hB
            have hH4 := blk_below hH2 hB
            obtain ⟨hS4, hT4⟩ := HIS.out
            have hS4 := hS4.below hB
            have hT4 := hT4.below hB
            obtain ⟨_, h0, h1, h2, h3, h4, h5, h6, h7⟩ := Eight.mk' hH4
            obtain ⟨_, p0, p1, p2, p3, p4, p5, p6, p7⟩ := Eight.mk' hP4
            obtain ⟨q0, q1, q2, q3, q4, q5, q6, q7⟩ := Eight.fr hP4
            obtain ⟨y0, y1, fy0, fy1⟩ := hR4.two
            obtain ⟨hP5, hB5⟩ := eight_set hP4 hBw (by omega) (.int .i64 n) (.slice va vl vc) (.int .i64 e) (.slice ia il ic) (.int .i64 m) (.slice ya yl yc) (.int .i64 d) (.slice ja jl jc)
            have hfar : ∀ g, g ≠ w.heap.size + 1 + 1 → _ := fun g (hg9 : g ≠ w.heap.size + 1 + 1) => eight_far (W := wr) (b := w.heap.size + 1 + 1) (.int .i64 n) (.slice va vl vc) (.int .i64 e) (.slice ia il ic) (.int .i64 m) (.slice ya yl yc) (.int .i64 d) (.slice ja jl jc) (g := g) hg9
            have hR5 := hR4.of_eq (hfar _ (by omega))
            obtain ⟨o0, o1⟩ := hR5.self
            obtain ⟨_, m0, m1, m2, m3, m4, m5, m6, m7⟩ := Eight.mk' hP5
            obtain ⟨z0, z1, _, _⟩ := hR5.two
            have hbs := HBS.out
            have hS5 := (hS4.keep (fun g h1 _ => hfar g (by omega)) (by rw [eight_size]; exact Nat.le_refl _)).mono hbs.2
            have hT5 := (hT4.keep (fun g h1 _ => hfar g (by omega)) (by rw [eight_size]; exact Nat.le_refl _)).mono hbs.2
            clear hfar G0 G3 G7 GST hbs
            go_wp2
            exact bodyPost_ret (v := .tuple #[.agg #[.int .i64 n, .slice va vl vc, .int .i64 e, .slice ia il ic, .int .i64 m, .slice ya yl yc, .int .i64 d, .slice ja jl jc], .agg #[.int .i64 0, .int .i64 0]]) (by simp [results, Tryz.results52, go_sem, z0, z1, m0, m1, m2, m3, m4, m5, m6, m7]) rfl ⟨_, by rw [HC.out.1, HC.out.2], fun _ => ⟨_, _, rfl, hS5, hT5⟩, fun h => absurd HC.out.1 h, hB5⟩
  · have hli : ¬ (ms.length : Int) = (n : Int) := by omega
    have HC := hide (show hf.1 = 8 ∧ hf.2 = 0 by rw [H8.out hl]; exact ⟨rfl, rfl⟩)
    clear H0 H3 H7 H8 HST
    subst hw2
    obtain ⟨y0, y1, fy0, fy1⟩ := hR2.two
    obtain ⟨hR6, hB6⟩ := put2 hR2 hBw2 (by omega) 8 0
    have hP6 := (hP2.other (p := ⟨w.heap.size + 1 + 1 + 1, 0, none⟩) (by simp) (.int .i64 8)).other (p := ⟨w.heap.size + 1 + 1 + 1, 1, none⟩) (by simp) (.int .i64 0)
    obtain ⟨_, p0, p1, p2, p3, p4, p5, p6, p7⟩ := Eight.mk' hP2
    obtain ⟨q0, q1, q2, q3, q4, q5, q6, q7⟩ := Eight.fr hP2
    obtain ⟨o0, o1, o2, o3, o4, o5, o6, o7⟩ := Eight.se hP2
    obtain ⟨_, m0, m1, m2, m3, m4, m5, m6, m7⟩ := Eight.mk' hP6
    obtain ⟨z0, z1, _, _⟩ := hR6.two
    go_wp2
    exact bodyPost_ret (v := .tuple #[.agg #[.int .i64 0, .slice none 0 0, .int .i64 0, .slice none 0 0, .int .i64 0, .slice none 0 0, .int .i64 0, .slice none 0 0], .agg #[.int .i64 8, .int .i64 0]]) (by simp [results, Tryz.results52, go_sem, z0, z1, m0, m1, m2, m3, m4, m5, m6, m7]) rfl ⟨_, by rw [HC.out.1, HC.out.2], fun h => absurd (HC.out.1.symm.trans h) (by decide), fun _ => rfl, hB6⟩
theorem ow_all (N M : Int) (v y mv : Value) (zs ys ms : List Int) (w : World) (hv : Sl w v zs) (hy : Sl w y ys) (hm : Sl w mv ms) :
    Calls Tryz.prog 52 #[.agg #[.int .i64 N, v], .agg #[.int .i64 M, y], mv] w fun x w' => ∃ p0 a0 b0 c0 p1 a1 b1 c1 p2 a2 b2 c2 p3 a3 b3 c3, x = .returned (.tuple #[.agg #[.int .i64 p0, .slice a0 b0 c0, .int .i64 p1, .slice a1 b1 c1, .int .i64 p2, .slice a2 b2 c2, .int .i64 p3, .slice a3 b3 c3], .agg #[.int .i64 (hfault N zs M ys ms).1, .int .i64 (hfault N zs M ys ms).2]]) ∧ Below w.heap.size w w' := by
  by_cases h1 : (gfault N zs).1 = 0
  · obtain ⟨n, e, rfl, hg, _⟩ := gfault_grp h1
    by_cases h2 : (gfault M ys).1 = 0
    · obtain ⟨m, d, rfl, hh, _⟩ := gfault_grp h2
      refine (ow_any n e m d v y mv zs ys ms w hv hg hy hh hm).mono ?_
      rintro x w' ⟨P, rfl, hA, hB, hb⟩
      by_cases h3 : (hfault n zs m ys ms).1 = 0
      · obtain ⟨u, t, rfl, hu, ht⟩ := hA h3
        obtain ⟨v1, v2, v3, rfl⟩ := hv.isSlice
        obtain ⟨y1, y2, y3, rfl⟩ := hy.isSlice
        obtain ⟨u1, u2, u3, rfl⟩ := hu.sl.isSlice
        obtain ⟨t1, t2, t3, rfl⟩ := ht.sl.isSlice
        exact ⟨_, _, _, _, _, _, _, _, _, _, _, _, _, _, _, _, rfl, hb⟩
      · obtain rfl := hB h3
        exact ⟨_, _, _, _, _, _, _, _, _, _, _, _, _, _, _, _, rfl, hb⟩
    · rw [hfault_2 hg h2]
      refine (ow_bad n M _ _ v y mv w h2 (hide fun W h => pair_bad2 n e M v y zs ys W (hv.below h) hg (hy.below h) h2)).mono ?_
      rintro x w' ⟨rfl, hb⟩
      exact ⟨_, _, _, _, _, _, _, _, _, _, _, _, _, _, _, _, rfl, hb⟩
  · rw [hfault_1 h1]
    refine (ow_bad N M _ _ v y mv w h1 (hide fun W h => pair_bad1 N M v y zs W (hv.below h) h1)).mono ?_
    rintro x w' ⟨rfl, hb⟩
    exact ⟨_, _, _, _, _, _, _, _, _, _, _, _, _, _, _, _, rfl, hb⟩
set_option maxRecDepth 100000 in
set_option maxHeartbeats 4000000 in
theorem image_good (n m : Nat) (v y mv : Value) (zs ys : List Int) (xs : List Nat) (w : World) (hv : Sl w v zs) (hy : Sl w y ys) (hm : Sl w mv (li xs)) (hT : Tab w) (hm6 : m ≤ 60) (hx : ∀ x, x ∈ xs → x < m) (hxl : xs.length ≤ 60) (hc : hfault n zs m ys (li xs) = (0, 0)) :
    Calls Tryz.prog 20 #[.agg #[.int .i64 n, v], .agg #[.int .i64 m, y], mv] w fun x w' => ∃ r1 r2 r3, x = .returned (.tuple #[.slice r1 r2 r3, .agg #[.int .i64 0, .int .i64 0]]) ∧ Sl w' (.slice r1 r2 r3) (li (lst m (fun a => decide (a ∈ xs)))) ∧ Below w.heap.size w w' := by
  obtain ⟨w0, BG⟩ := BegF.new w n m v y
  have HCK := hide (ow_all n m v y mv zs ys (li xs) w0 (hv.below BG.bel) (hy.below BG.bel) (hm.below BG.bel))
  rw [hc] at HCK
  simp only at HCK
  obtain ⟨e0, e1, _, _⟩ := BG.box.two
  obtain ⟨k0, k1, _, _⟩ := BG.boy.two
  rw [BG.eq] at e0 e1 k0 k1
  go_enter Tryz.func20, Tryz.ntmps20
  go_wp2_with fail
  rw [← BG.eq]
  clear e0 e1 k0 k1
  refine HCK.out.mono ?_
  rintro x w1 ⟨p0, a0, b0, c0, p1, a1, b1, c1, p2, a2, b2, c2, p3, a3, b3, c3, rfl, hb1⟩
  obtain ⟨w2, hw2⟩ : ∃ w2, w2 = (w1.alloc (.cells #[.int .i64 p0, .slice a0 b0 c0, .int .i64 p1, .slice a1 b1 c1, .int .i64 p2, .slice a2 b2 c2, .int .i64 p3, .slice a3 b3 c3] 59)).alloc (.cells #[.int .i64 0, .int .i64 0] 26) := ⟨_, rfl⟩
  have hB1 : Below w0.heap.size w0 w2 := by rw [hw2]; exact bcat2 hb1 ((balloc w1 _).alloc (by simp) _)
  have hF1 : Blk w2 (w1.heap.size + 1) 26 [.int .i64 0, .int .i64 0] := by
    rw [hw2]
    have := blk0 (w := w1.alloc (.cells #[.int .i64 p0, .slice a0 b0 c0, .int .i64 p1, .slice a1 b1 c1, .int .i64 p2, .slice a2 b2 c2, .int .i64 p3, .slice a3 b3 c3] 59)) (T := 26) (.int .i64 0) (.int .i64 0)
    rwa [World.size_alloc] at this
  have hR1 := blk_below BG.res hB1
  have hBw := bcat BG.bel hB1 BG.bel.size
  obtain ⟨t0, t1, _, _⟩ := hF1.two
  rw [hw2] at t0 t1
  go_wp2_with fail
  rw [← hw2]
  clear hw2 t0 t1
  refine (of_ok m mv xs w2 hm6 hxl (hm.below hBw) hx).mono ?_
  rintro x w3 ⟨rfl, rfl⟩
  go_wp2_with fail
  refine (list_ok m _ w3 hm6 (hT.below hBw)).mono ?_
  rintro x w4 ⟨r, rfl, hr, hb4⟩
  have hrs := hr.sl
  obtain ⟨r1, r2, r3, rfl⟩ := hrs.isSlice
  have hR4 := blk_below hR1 hb4
  have hB4 := bcat2 hBw hb4
  obtain ⟨y0, y1, fy0, fy1⟩ := hR4.two
  obtain ⟨s0, s1⟩ := hR4.self
  go_wp2
  exact bodyPost_ret (v := .tuple #[.slice r1 r2 r3, .agg #[.int .i64 0, .int .i64 0]]) (by simp [results, Tryz.results20, go_sem, y0, y1]) rfl ⟨_, _, _, rfl, hrs, hB4⟩
theorem hfault_grp {N M : Int} {zs ys ms : List Int} (h : (hfault N zs M ys ms).1 = 0) : ∃ n e m d : Nat, N = n ∧ M = m ∧ IsGrp n zs e ∧ IsGrp m ys d := by
  by_cases h1 : (gfault N zs).1 = 0
  · obtain ⟨n, e, rfl, hg, _⟩ := gfault_grp h1
    by_cases h2 : (gfault M ys).1 = 0
    · obtain ⟨m, d, rfl, hh, _⟩ := gfault_grp h2
      exact ⟨n, e, m, d, rfl, rfl, hg, hh⟩
    · rw [hfault_2 hg h2] at h
      exact absurd h h2
  · rw [hfault_1 h1] at h
    exact absurd h h1
end Go.Proofs.YtlhjeenijcokoaaGreatDoor

namespace Go.Proofs.YtlhjeenijcokoaaGreatDoor
open Go Go.RowKit

section
variable {n e m d : Nat} {zs ys : List Int} {φ : Nat → Nat}
theorem hom_iv (g : IsGrp n zs e) (h : IsGrp m ys d) (H : IsHom n zs m ys φ) {a : Nat} (ha : a < n) : tm m ys (φ (iv n zs e a)) (φ a) = d := by
  obtain ⟨h1, _, h3, _⟩ := iv_spec g ha
  rw [← H.mul _ a h1 ha, h3, IsHom.one g h H]
end
theorem li_slice {W : World} {r1 : Option Addr} {r2 r3 : Nat} {K : List Nat} (h : Sl W (.slice r1 r2 r3) (li K)) : r2 = K.length := by
  obtain ⟨a, cap, pb, po, hv, _⟩ := h
  injection hv with _ h4
  rw [li_len] at h4
  exact h4
section
variable {n e m d : Nat} {zs ys : List Int} {φ : Nat → Nat}
theorem sub_of {p : Nat → Bool} {P : Nat → Prop} (hp : ∀ a, a < n → (p a = true ↔ P a)) (g : IsGrp n zs e) (h : Fin.Sg (List.range n) (tm n zs) e P) : subT n zs e p = true :=
  subT_iff.2 ⟨(hp e g.elt).2 h.1, fun a b ha hb h1 h2 => (hp _ (tm_lt g.tab (List.mem_range.1 ha) (List.mem_range.1 hb))).2 (h.2 a b ha hb ((hp a (List.mem_range.1 ha)).1 h1) ((hp b (List.mem_range.1 hb)).1 h2))⟩
end
section
variable {n e m d : Nat} {zs ys : List Int} {φ : Nat → Nat}
theorem nrm_of {p : Nat → Bool} {P : Nat → Prop} (hp : ∀ a, a < n → (p a = true ↔ P a)) (g : IsGrp n zs e) (h : Fin.Nm (List.range n) (tm n zs) (iv n zs e) P) : nrmq n zs e p = true :=
  (nrm_iff g).2 fun x a hx ha hk => by
    have hx' := List.mem_range.1 hx
    have ha' := List.mem_range.1 ha
    exact (hp _ (tm_lt g.tab (iv_spec g ha').1 (tm_lt g.tab hx' ha'))).2 (h x a hx ha ((hp x hx').1 hk))
end
theorem clo_shape {N : Int} {v u : Value} {zs ls : List Int} {w : World} (hv : Sl w v zs) (hu : Sl w u ls) (hT : Tab w) :
    Calls Tryz.prog 24 #[.agg #[.int .i64 N, v], u] w fun x w' => ∃ a1 a2 a3, x = .returned (.tuple #[.slice a1 a2 a3, .agg #[.int .i64 (sfault N zs ls).1, .int .i64 (sfault N zs ls).2]]) ∧ Below w.heap.size w w' := by
  by_cases hc : (sfault N zs ls).1 = 0
  · obtain ⟨n, e, rfl, hg, hl, h0⟩ := sfault_zero hc
    obtain ⟨p, hp⟩ := mkd_test n zs e (cloq n zs e (pset ls) n)
    rw [h0]
    refine (clo_good n e v u zs ls p w hv hg hu hT hl hp).mono ?_
    rintro x w' ⟨r, rfl, hr, hb⟩
    obtain ⟨a1, a2, a3, rfl⟩ := hr.sl.isSlice
    exact ⟨a1, a2, a3, rfl, hb⟩
  · refine (clo_bad N v u zs ls w hv hu hc).mono ?_
    rintro x w' ⟨rfl, hb⟩
    exact ⟨none, 0, 0, rfl, hb⟩
end Go.Proofs.YtlhjeenijcokoaaGreatDoor

namespace Go.Proofs.YtlhjeenijcokoaaGreatDoor
open Go Go.RowKit

section
variable {n e : Nat} {zs : List Int}
theorem iv_left (g : IsGrp n zs e) {x y : Nat} (hx : x < n) (hy : y < n) (h : tm n zs x y = e) : x = iv n zs e y := by
  obtain ⟨i1, i2, _, _⟩ := iv_spec g hy
  have h1 := congrArg (fun t => tm n zs t (iv n zs e y)) h
  rw [g.ass x y _ hx hy i1, i2, g.right x hx, g.left _ i1] at h1
  exact h1
theorem hom_inv {m d : Nat} {ys : List Int} {φ : Nat → Nat} (g : IsGrp n zs e) (h : IsGrp m ys d) (H : IsHom n zs m ys φ) {a : Nat} (ha : a < n) : iv m ys d (φ a) = φ (iv n zs e a) :=
  (iv_left h (H.lt _ (iv_spec g ha).1) (H.lt a ha) (hom_iv g h H ha)).symm
/-- Of a subgroup that has the kernel: what goes into its image is in it. -/
theorem img_back {m d : Nat} {ys : List Int} {φ : Nat → Nat} {p : Nat → Bool} (g : IsGrp n zs e) (h : IsGrp m ys d) (H : IsHom n zs m ys φ) (hs : subT n zs e p = true) (hk : ∀ a, a < n → φ a = d → p a = true) {a b : Nat} (ha : a < n) (hb : b < n) (hab : φ a = φ b) (hp : p b = true) : p a = true := by
  obtain ⟨i1, _, i3, _⟩ := iv_spec g hb
  have h1 := hk _ (tm_lt g.tab ha i1) ((hom_same_iff g h H ha hb).1 hab)
  have h2 := sub_mul hs (tm_lt g.tab ha i1) hb h1 hp
  rw [g.ass a _ b ha i1 hb, i3, g.right a ha] at h2
  exact h2
/-- The image of a normal subgroup. -/
theorem img_normal {m d : Nat} {ys : List Int} {φ : Nat → Nat} {p q : Nat → Bool} (g : IsGrp n zs e) (h : IsGrp m ys d) (A : IsOnto n zs m ys φ) (hs : subT n zs e p = true) (hN : nrmq n zs e p = true) (hq : ∀ y, y < m → (q y = true ↔ ∃ a, a < n ∧ p a = true ∧ φ a = y)) :
    subT m ys d q = true ∧ nrmq m ys d q = true := by
  have S := subT_iff.1 hs
  have N := (nrm_iff g).1 hN
  refine ⟨sub_of hq h ⟨⟨e, g.elt, S.1, IsHom.one g h A.hom⟩, ?_⟩, nrm_of hq h ?_⟩
  · rintro _ _ _ _ ⟨a, ha, h1, rfl⟩ ⟨b, hb, h2, rfl⟩
    exact ⟨tm n zs a b, tm_lt g.tab ha hb, sub_mul hs ha hb h1 h2, A.hom.mul a b ha hb⟩
  · rintro x c hx hc ⟨a, ha, h1, rfl⟩
    obtain ⟨b, hb, rfl⟩ := A.hits c (List.mem_range.1 hc)
    obtain ⟨i1, _, _, _⟩ := iv_spec g hb
    refine ⟨tm n zs (iv n zs e b) (tm n zs a b), tm_lt g.tab i1 (tm_lt g.tab ha hb), N a b (List.mem_range.2 ha) (List.mem_range.2 hb) h1, ?_⟩
    show φ _ = tm m ys (iv m ys d (φ b)) (tm m ys (φ a) (φ b))
    rw [A.hom.mul _ _ i1 (tm_lt g.tab ha hb), A.hom.mul _ _ ha hb, hom_inv g h A.hom hb]
/-- The third theorem of isomorphisms. -/
theorem third_iso {nq kq sq : Nat → Bool} (g : IsGrp n zs e) (ns : subT n zs e nq = true) (nN : nrmq n zs e nq = true) (ks : subT n zs e kq = true) (kN : nrmq n zs e kq = true) (hin : ∀ a, a < n → nq a = true → kq a = true)
    {KQ KR KS : Nat} {TQ TR TS : List Int} (eKQ : KQ = (fsts n (rgtq n zs (lst n nq)) n).length) (eTQ : TQ = mkT KQ (quoF n zs (rgtq n zs (lst n nq))))
    (hsq : ∀ y, y < KQ → (sq y = true ↔ ∃ a, a < n ∧ kq a = true ∧ num n (rgtq n zs (lst n nq)) a = y))
    (eKR : KR = (fsts n (rgtq n zs (lst n kq)) n).length) (eTR : TR = mkT KR (quoF n zs (rgtq n zs (lst n kq))))
    (eKS : KS = (fsts KQ (rgtq KQ TQ (lst KQ sq)) KQ).length) (eTS : TS = mkT KS (quoF KQ TQ (rgtq KQ TQ (lst KQ sq)))) :
    (subT KQ TQ (num n (rgtq n zs (lst n nq)) e) sq = true ∧ nrmq KQ TQ (num n (rgtq n zs (lst n nq)) e) sq = true) ∧ KS = KR ∧ ∃ f, IsIso KS TS KR TR f := by
  have gQ := quo_grp g ns nN
  have OQ := quo_onto g ns nN
  have gR := quo_grp g ks kN
  have OR := quo_onto g ks kN
  rw [← eKQ, ← eTQ] at gQ OQ
  rw [← eKR, ← eTR] at gR OR
  obtain ⟨ss, sN⟩ := img_normal g gQ OQ ks kN hsq
  have gS := quo_grp gQ ss sN
  have OS := quo_onto gQ ss sN
  rw [← eKS, ← eTS] at gS OS
  refine ⟨⟨ss, sN⟩, iso_glue g gS gR (OQ.comp OS) OR fun a ha => ?_⟩
  rw [quo_ker g ks ha, quo_ker gQ ss (OQ.hom.lt a ha), hsq _ (OQ.hom.lt a ha)]
  constructor
  · rintro ⟨b, hb, h1, h2⟩
    exact img_back g gQ OQ.hom ks (fun c hc h3 => hin c hc ((quo_ker g ns hc).1 h3)) ha hb h2.symm h1
  · intro h
    exact ⟨a, ha, h, rfl⟩
end
end Go.Proofs.YtlhjeenijcokoaaGreatDoor

namespace Go.Proofs.YtlhjeenijcokoaaGreatDoor.Pop
open Go

/-- A number of these digits, the lowest first. -/
def val (B : Nat) : List Nat → Nat
  | [] => 0
  | d :: ds => d + B * val B ds
/-- Fields of k bits, every other one full. -/
def mask (k : Nat) : Nat → Nat
  | 0 => 0
  | n + 1 => (2 ^ k - 1) + 2 ^ (2 * k) * mask k n
def pairs : List Nat → List Nat
  | d :: c :: ds => (d + c) :: pairs ds
  | _ => []
theorem and_split {k a b c d : Nat} (ha : a < 2 ^ k) (hc : c < 2 ^ k) : (a + 2 ^ k * b) &&& (c + 2 ^ k * d) = (a &&& c) + 2 ^ k * (b &&& d) := by
  have hac : a &&& c < 2 ^ k := Nat.lt_of_le_of_lt Nat.and_le_left ha
  apply Nat.eq_of_testBit_eq
  intro i
  rw [Nat.testBit_and, Nat.add_comm a, Nat.add_comm c, Nat.add_comm (a &&& c), Nat.testBit_two_pow_mul_add _ ha, Nat.testBit_two_pow_mul_add _ hc, Nat.testBit_two_pow_mul_add _ hac]
  by_cases h : i < k
  · rw [if_pos h, if_pos h, if_pos h, Nat.testBit_and]
  · rw [if_neg h, if_neg h, if_neg h, Nat.testBit_and]
theorem two_fields {k d c : Nat} (hd : d < 2 ^ k) (hc : c < 2 ^ k) : d + 2 ^ k * c < 2 ^ (2 * k) := by
  have h1 : 2 ^ (2 * k) = 2 ^ k * 2 ^ k := by rw [Nat.two_mul, Nat.pow_add]
  have h2 : 2 ^ k * (c + 1) ≤ 2 ^ k * 2 ^ k := Nat.mul_le_mul_left _ hc
  rw [h1]
  rw [Nat.mul_add] at h2
  omega
theorem low_field {k d c : Nat} (hd : d < 2 ^ k) : (d + 2 ^ k * c) &&& (2 ^ k - 1) = d := by
  rw [Nat.and_two_pow_sub_one_eq_mod, Nat.add_mul_mod_self_left, Nat.mod_eq_of_lt hd]
theorem mask_lt (k : Nat) : 2 ^ k - 1 < 2 ^ (2 * k) := Nat.lt_of_lt_of_le (Nat.sub_lt (Nat.two_pow_pos k) (by omega)) (Nat.pow_le_pow_right (by omega) (by omega))
theorem sq (k x : Nat) : 2 ^ k * (2 ^ k * x) = 2 ^ (2 * k) * x := by rw [← Nat.mul_assoc, ← Nat.pow_add, Nat.two_mul]
/-- One step: fields that stand side by side are added. -/
theorem step (k : Nat) : ∀ (n : Nat) (ds : List Nat), ds.length = 2 * n → (∀ d, d ∈ ds → d < 2 ^ k) →
    ((val (2 ^ k) ds / 2 ^ k) &&& mask k n) + (val (2 ^ k) ds &&& mask k n) = val (2 ^ (2 * k)) (pairs ds)
  | 0, ds, hl, _ => by
    obtain rfl : ds = [] := List.length_eq_zero_iff.1 (by omega)
    simp [mask, pairs, val]
  | n + 1, ds, hl, hd => by
    match ds, hl, hd with
    | d :: c :: ds, hl, hd =>
      have h1 : d < 2 ^ k := hd d (by simp)
      have h2 : c < 2 ^ k := hd c (by simp)
      have ih := step k n ds (by simp at hl; omega) (fun x hx => hd x (by simp [hx]))
      have hp := Nat.two_pow_pos k
      have hV := Nat.mod_add_div (val (2 ^ k) ds) (2 ^ k)
      have hm := Nat.mod_lt (val (2 ^ k) ds) hp
      show ((d + 2 ^ k * (c + 2 ^ k * val (2 ^ k) ds)) / 2 ^ k &&& ((2 ^ k - 1) + 2 ^ (2 * k) * mask k n)) + ((d + 2 ^ k * (c + 2 ^ k * val (2 ^ k) ds)) &&& ((2 ^ k - 1) + 2 ^ (2 * k) * mask k n)) = (d + c) + 2 ^ (2 * k) * val (2 ^ (2 * k)) (pairs ds)
      generalize val (2 ^ k) ds = V at *
      have e2 : (d + 2 ^ k * (c + 2 ^ k * V)) = (d + 2 ^ k * c) + 2 ^ (2 * k) * V := by rw [Nat.mul_add, sq, Nat.add_assoc]
      have e3 : (d + 2 ^ k * (c + 2 ^ k * V)) / 2 ^ k = c + 2 ^ k * V := by rw [Nat.add_mul_div_left _ _ hp, Nat.div_eq_of_lt h1, Nat.zero_add]
      have e4 : c + 2 ^ k * V = (c + 2 ^ k * (V % 2 ^ k)) + 2 ^ (2 * k) * (V / 2 ^ k) := by
        rw [← sq, Nat.add_assoc, ← Nat.mul_add, hV]
      rw [e3, e2, e4, and_split (two_fields h2 hm) (mask_lt k), and_split (two_fields h1 h2) (mask_lt k), low_field h2, low_field h1, ← ih, Nat.mul_add]
      omega
theorem pairs_sum : ∀ (n : Nat) (ds : List Nat), ds.length = 2 * n → (pairs ds).sum = ds.sum ∧ (pairs ds).length = n
  | 0, ds, hl => by
    obtain rfl : ds = [] := List.length_eq_zero_iff.1 (by omega)
    simp [pairs]
  | n + 1, ds, hl => by
    match ds, hl with
    | d :: c :: ds, hl =>
      obtain ⟨h1, h2⟩ := pairs_sum n ds (by simp at hl; omega)
      simp [pairs, h1, h2]
      omega
theorem pairs_le {B : Nat} : ∀ (n : Nat) (ds : List Nat), ds.length = 2 * n → (∀ d, d ∈ ds → d ≤ B) → ∀ d, d ∈ pairs ds → d ≤ 2 * B
  | 0, ds, hl, _ => by
    obtain rfl : ds = [] := List.length_eq_zero_iff.1 (by omega)
    simp [pairs]
  | n + 1, ds, hl, hd => by
    match ds, hl, hd with
    | d :: c :: ds, hl, hd =>
      intro x hx
      have h1 := hd d (by simp)
      have h2 := hd c (by simp)
      rcases List.mem_cons.1 hx with rfl | hx
      · omega
      · exact pairs_le n ds (by simp at hl; omega) (fun y hy => hd y (by simp [hy])) x hx
/-- The digit above is added to each digit. -/
def adj : List Nat → List Nat
  | d :: c :: ds => (d + c) :: adj (c :: ds)
  | ds => ds
theorem adj_val {B : Nat} (hB : 0 < B) : ∀ ds : List Nat, (∀ d, d ∈ ds → d < B) → val B ds / B + val B ds = val B (adj ds)
  | [], _ => by simp [adj, val]
  | [d], h => by
    have := h d (by simp)
    simp [adj, val, Nat.div_eq_of_lt this]
  | d :: c :: ds, h => by
    have ih := adj_val hB (c :: ds) (fun x hx => h x (by simp [hx]))
    have hd := h d (by simp)
    have hc := h c (by simp)
    have e1 : val B (c :: ds) = c + B * val B ds := rfl
    have e2 : (c + B * val B ds) / B = val B ds := by rw [Nat.add_mul_div_left _ _ hB, Nat.div_eq_of_lt hc, Nat.zero_add]
    rw [e1, e2] at ih
    have e3 : val B (d :: c :: ds) = d + B * (c + B * val B ds) := rfl
    have e4 : (d + B * (c + B * val B ds)) / B = c + B * val B ds := by rw [Nat.add_mul_div_left _ _ hB, Nat.div_eq_of_lt hd, Nat.zero_add]
    rw [e3, e4]
    show _ = (d + c) + B * val B (adj (c :: ds))
    rw [← ih]
    generalize val B ds = V
    simp only [Nat.mul_add]
    omega
theorem adj_le {M : Nat} : ∀ ds : List Nat, (∀ d, d ∈ ds → d ≤ M) → ∀ d, d ∈ adj ds → d ≤ 2 * M
  | [], _ => by simp [adj]
  | [d], h => fun x hx => by
    have := h x hx
    omega
  | d :: c :: ds, h => fun x hx => by
    have h1 := h d (by simp)
    have h2 := h c (by simp)
    rcases List.mem_cons.1 hx with rfl | hx
    · omega
    · exact adj_le (c :: ds) (fun y hy => h y (by simp [hy])) x hx
theorem adj_len : ∀ ds : List Nat, (adj ds).length = ds.length
  | [] => rfl
  | [_] => rfl
  | _ :: c :: ds => by simp [adj, adj_len (c :: ds)]
/-- Every other digit. -/
def evens : List Nat → List Nat
  | d :: _ :: ds => d :: evens ds
  | _ => []
theorem and_evens (k : Nat) : ∀ (n : Nat) (ds : List Nat), ds.length = 2 * n → (∀ d, d ∈ ds → d < 2 ^ k) → val (2 ^ k) ds &&& mask k n = val (2 ^ (2 * k)) (evens ds)
  | 0, ds, hl, _ => by
    obtain rfl : ds = [] := List.length_eq_zero_iff.1 (by omega)
    simp [mask, evens, val]
  | n + 1, ds, hl, hd => by
    match ds, hl, hd with
    | d :: c :: ds, hl, hd =>
      have h1 : d < 2 ^ k := hd d (by simp)
      have h2 : c < 2 ^ k := hd c (by simp)
      have ih := and_evens k n ds (by simp at hl; omega) (fun x hx => hd x (by simp [hx]))
      show ((d + 2 ^ k * (c + 2 ^ k * val (2 ^ k) ds)) &&& ((2 ^ k - 1) + 2 ^ (2 * k) * mask k n)) = d + 2 ^ (2 * k) * val (2 ^ (2 * k)) (evens ds)
      generalize val (2 ^ k) ds = V at *
      have e2 : (d + 2 ^ k * (c + 2 ^ k * V)) = (d + 2 ^ k * c) + 2 ^ (2 * k) * V := by rw [Nat.mul_add, sq, Nat.add_assoc]
      rw [e2, and_split (two_fields h1 h2) (mask_lt k), low_field h1, ih]
theorem evens_adj : ∀ (n : Nat) (ds : List Nat), ds.length = 2 * n → evens (adj ds) = pairs ds
  | 0, ds, hl => by
    obtain rfl : ds = [] := List.length_eq_zero_iff.1 (by omega)
    rfl
  | n + 1, ds, hl => by
    match ds, hl with
    | [d, c], _ => rfl
    | d :: c :: b :: ds, hl =>
      have ih := evens_adj n (b :: ds) (by simp at hl ⊢; omega)
      show (d + c) :: evens (adj (b :: ds)) = (d + c) :: pairs (b :: ds)
      rw [ih]
end Go.Proofs.YtlhjeenijcokoaaGreatDoor.Pop

namespace Go.Proofs.YtlhjeenijcokoaaGreatDoor.Pop
open Go

theorem last_one {a b c d e f g h y : Nat} (ha : a ≤ 8)
    (hy : y = a + 256 * (b + 256 * (c + 256 * (d + 256 * (e + 256 * (f + 256 * (g + 256 * h))))))) : y + y / 256 = (a + b) + 256 * ((b + c) + 256 * ((c + d) + 256 * ((d + e) + 256 * ((e + f) + 256 * ((f + g) + 256 * ((g + h) + 256 * h)))))) := by
  have e1 : y / 256 = b + 256 * (c + 256 * (d + 256 * (e + 256 * (f + 256 * (g + 256 * h))))) := by
    rw [hy, Nat.add_mul_div_left _ _ (by decide), Nat.div_eq_of_lt (by omega), Nat.zero_add]
  rw [e1, hy]
  clear e1 hy
  omega
theorem last_two {a b c d e f g h y : Nat} (ha : a ≤ 16) (hb : b ≤ 16)
    (hy : y = a + 256 * (b + 256 * (c + 256 * (d + 256 * (e + 256 * (f + 256 * (g + 256 * h))))))) : y + y / 65536 = (a + c) + 256 * ((b + d) + 256 * ((c + e) + 256 * ((d + f) + 256 * ((e + g) + 256 * ((f + h) + 256 * (g + 256 * h)))))) := by
  have e1 : y / 65536 = c + 256 * (d + 256 * (e + 256 * (f + 256 * (g + 256 * h)))) := by
    rw [hy, show a + 256 * (b + 256 * (c + 256 * (d + 256 * (e + 256 * (f + 256 * (g + 256 * h)))))) = (a + 256 * b) + 65536 * (c + 256 * (d + 256 * (e + 256 * (f + 256 * (g + 256 * h))))) by omega, Nat.add_mul_div_left _ _ (by decide), Nat.div_eq_of_lt (by omega), Nat.zero_add]
  rw [e1, hy]
  clear e1 hy
  omega
theorem last_four {a b c d e f g h y : Nat} (ha : a ≤ 32) (hb : b ≤ 32) (hc : c ≤ 32) (hd : d ≤ 32)
    (hy : y = a + 256 * (b + 256 * (c + 256 * (d + 256 * (e + 256 * (f + 256 * (g + 256 * h))))))) : y + y / 4294967296 = (a + e) + 256 * ((b + f) + 256 * ((c + g) + 256 * ((d + h) + 256 * (e + 256 * (f + 256 * (g + 256 * h)))))) := by
  have e1 : y / 4294967296 = e + 256 * (f + 256 * (g + 256 * h)) := by
    rw [hy, show a + 256 * (b + 256 * (c + 256 * (d + 256 * (e + 256 * (f + 256 * (g + 256 * h)))))) = (a + 256 * (b + 256 * (c + 256 * d))) + 4294967296 * (e + 256 * (f + 256 * (g + 256 * h))) by omega, Nat.add_mul_div_left _ _ (by decide), Nat.div_eq_of_lt (by omega), Nat.zero_add]
  rw [e1, hy]
  clear e1 hy
  omega
/-- Eight bytes, none greater than eight, are added into the lowest one. -/
theorem last_steps {a b c d e f g h : Nat} (ha : a ≤ 8) (hb : b ≤ 8) (hc : c ≤ 8) (hd : d ≤ 8) (he : e ≤ 8) (hf : f ≤ 8) (hg : g ≤ 8) (hh : h ≤ 8) {y y1 y2 : Nat}
    (hy : y = val 256 [a, b, c, d, e, f, g, h]) (h1 : y1 = y + y / 256) (h2 : y2 = y1 + y1 / 65536) : (y2 + y2 / 4294967296) % 128 = a + b + c + d + e + f + g + h := by
  have e0 : y = a + 256 * (b + 256 * (c + 256 * (d + 256 * (e + 256 * (f + 256 * (g + 256 * h)))))) := by
    rw [hy]
    simp only [val]
    omega
  rw [last_one ha e0] at h1
  rw [last_two (by omega) (by omega) h1] at h2
  rw [last_four (by omega) (by omega) (by omega) (by omega) h2]
  clear h1 h2 e0 hy
  omega
/-- The count, as the library's text reckons it, without what is cut off at 64 bits: nothing is. -/
def cnt (x : Nat) : Nat :=
  let x1 := ((x / 2 ^ 1) &&& mask 1 32) + (x &&& mask 1 32)
  let x2 := ((x1 / 2 ^ 2) &&& mask 2 16) + (x1 &&& mask 2 16)
  let x3 := (x2 / 2 ^ 4 + x2) &&& mask 4 8
  let y1 := x3 + x3 / 256
  let y2 := y1 + y1 / 65536
  (y2 + y2 / 4294967296) % 128
theorem cnt_eq (ds : List Nat) (hl : ds.length = 64) (hd : ∀ d, d ∈ ds → d ≤ 1) : cnt (val (2 ^ 1) ds) = ds.sum := by
  have s1 := step 1 32 ds (by omega) (fun d h => by have := hd d h; omega)
  have p1 := pairs_sum 32 ds (by omega)
  have l1 := pairs_le 32 ds (by omega) hd
  have s2 := step 2 16 (pairs ds) (by omega) (fun d h => by have := l1 d h; omega)
  have p2 := pairs_sum 16 (pairs ds) (by omega)
  have l2 := pairs_le 16 (pairs ds) (by omega) l1
  have a3 := adj_val (B := 2 ^ 4) (by decide) (pairs (pairs ds)) (fun d h => by have := l2 d h; omega)
  have m3 := adj_le (pairs (pairs ds)) l2
  have n3 := adj_len (pairs (pairs ds))
  have v3 := and_evens 4 8 (adj (pairs (pairs ds))) (by omega) (fun d h => by have := m3 d h; omega)
  have w3 := evens_adj 8 (pairs (pairs ds)) (by omega)
  have p3 := pairs_sum 8 (pairs (pairs ds)) (by omega)
  have l3 := pairs_le 8 (pairs (pairs ds)) (by omega) l2
  rw [w3] at v3
  rw [← p1.1, ← p2.1, ← p3.1]
  clear p1 p2 l1 l2 m3 n3 w3 hl hd
  unfold cnt
  rw [s1]
  show ((((val (2 ^ (2 * 1)) (pairs ds) / 2 ^ 2) &&& mask 2 16) + (val (2 ^ (2 * 1)) (pairs ds) &&& mask 2 16)) / 2 ^ 4 + (((val (2 ^ (2 * 1)) (pairs ds) / 2 ^ 2) &&& mask 2 16) + (val (2 ^ (2 * 1)) (pairs ds) &&& mask 2 16)) &&& mask 4 8 |> fun x3 => (x3 + x3 / 256 |> fun y1 => (y1 + y1 / 65536 |> fun y2 => (y2 + y2 / 4294967296) % 128))) = _
  rw [show 2 ^ (2 * 1) = 2 ^ 2 from rfl, s2, show 2 ^ (2 * 2) = 2 ^ 4 from rfl, a3, v3]
  generalize pairs (pairs (pairs ds)) = qs at *
  match qs, p3, l3 with
  | [a, b, c, d, e, f, g, h], _, l3 =>
    have hall : ∀ x, x ∈ [a, b, c, d, e, f, g, h] → x ≤ 8 := fun x hx => by have := l3 x hx; omega
    have := last_steps (hall a (by simp)) (hall b (by simp)) (hall c (by simp)) (hall d (by simp)) (hall e (by simp)) (hall f (by simp)) (hall g (by simp)) (hall h (by simp)) rfl rfl rfl
    refine Eq.trans this ?_
    simp
    omega
end Go.Proofs.YtlhjeenijcokoaaGreatDoor.Pop

namespace Go.Proofs.YtlhjeenijcokoaaGreatDoor.Pop
open Go

theorem val_snoc (B x : Nat) : ∀ ds : List Nat, val B (ds ++ [x]) = val B ds + B ^ ds.length * x
  | [] => by simp [val]
  | d :: ds => by
    show d + B * val B (ds ++ [x]) = d + B * val B ds + B ^ (ds.length + 1) * x
    rw [val_snoc B x ds, Nat.mul_add, ← Nat.mul_assoc, ← Nat.pow_succ', Nat.add_assoc]
/-- A set's bits, the lowest first. -/
def dig (q : Nat → Bool) (k : Nat) : List Nat := (List.range k).map fun a => if q a then 1 else 0
theorem dig_len (q : Nat → Bool) (k : Nat) : (dig q k).length = k := by simp [dig]
theorem dig_succ (q : Nat → Bool) (k : Nat) : dig q (k + 1) = dig q k ++ [if q k then 1 else 0] := by simp [dig, List.range_succ]
theorem dig_val (q : Nat → Bool) : ∀ k, val (2 ^ 1) (dig q k) = bs q k
  | 0 => rfl
  | k + 1 => by
    rw [dig_succ, val_snoc, dig_len, dig_val q k]
    show bs q k + (2 ^ 1) ^ k * _ = 2 ^ k * _ + bs q k
    rw [Nat.add_comm]
theorem dig_sum (q : Nat → Bool) : ∀ k, (dig q k).sum = (lst k q).length
  | 0 => rfl
  | k + 1 => by
    rw [dig_succ, List.sum_append, dig_sum q k]
    unfold lst
    rw [List.range_succ, List.filter_append, List.length_append]
    cases h : q k <;> simp [h]
theorem dig_le (q : Nat → Bool) (k : Nat) : ∀ d, d ∈ dig q k → d ≤ 1 := fun d h => by
  obtain ⟨a, _, rfl⟩ := List.mem_map.1 h
  split <;> omega
theorem bs_wide (p : Nat → Bool) {n : Nat} : ∀ k, bs (fun a => decide (a < n) && p a) (n + k) = bs p n
  | 0 => bs_ext fun a ha => by simp; omega
  | k + 1 => by
    show 2 ^ (n + k) * (if (decide (n + k < n) && p (n + k)) then 1 else 0) + bs _ (n + k) = _
    rw [bs_wide p k, decide_eq_false (by omega)]
    simp
theorem lst_wide (p : Nat → Bool) {n : Nat} : ∀ k, lst (n + k) (fun a => decide (a < n) && p a) = lst n p
  | 0 => List.filter_congr fun a ha => by
    have h1 := List.mem_range.1 ha
    rw [decide_eq_true (show a < n by omega)]
    rfl
  | k + 1 => by
    have h1 := lst_wide p (n := n) k
    unfold lst at h1 ⊢
    rw [← Nat.add_assoc, List.range_succ, List.filter_append, h1]
    simp
    omega
/-- How many things a set has. -/
theorem cnt_bs (p : Nat → Bool) {n : Nat} (hn : n ≤ 60) : cnt (bs p n) = (lst n p).length := by
  have h1 := bs_wide p (n := n) (64 - n)
  have h2 := lst_wide p (n := n) (64 - n)
  rw [show n + (64 - n) = 64 by omega] at h1 h2
  rw [← h1, ← h2, ← dig_val, cnt_eq _ (dig_len _ _) (dig_le _ _), dig_sum]
end Go.Proofs.YtlhjeenijcokoaaGreatDoor.Pop

namespace Go.Proofs.YtlhjeenijcokoaaGreatDoor
open Go Go.RowKit

theorem and_nat (a b : Nat) (ha : a < 18446744073709551616) (hb : b < 18446744073709551616) : bits BinOp.and IntKind.u64 (a : Int) (b : Int) = ((a &&& b : Nat) : Int) := bits_and_u64_nat a b ha hb
theorem and_127 (y : Nat) (hy : y < 9223372036854775808) : bits BinOp.and IntKind.i64 (y : Int) 127 = ((y % 128 : Nat) : Int) := by
  have h1 : (BitVec.ofInt 64 (y : Int) &&& BitVec.ofInt 64 127).toNat = y % 128 := by
    rw [BitVec.toNat_and]
    have e1 : (BitVec.ofInt 64 (y : Int)).toNat = y := by rw [BitVec.toNat_ofInt]; omega
    have e2 : (BitVec.ofInt 64 (127 : Int)).toNat = 2 ^ 7 - 1 := by decide
    rw [e1, e2, Nat.and_two_pow_sub_one_eq_mod]
  show IntKind.i64.wrap ((BitVec.ofInt 64 (y : Int) &&& BitVec.ofInt 64 127).toNat : Int) = _
  rw [h1, IntKind.wrap_i64]
  omega
theorem wrap_nat {z : Int} (y : Nat) (h : z = (y : Int)) (hy : y < 18446744073709551616) : IntKind.u64.wrap z = (y : Int) := by
  rw [h, IntKind.wrap_u64]
  omega
set_option maxRecDepth 100000 in
set_option maxHeartbeats 1000000 in
theorem ones_cnt (x : Nat) (hx : x < 18446744073709551616) (w : World) :
    Calls Tryz.prog 114 #[.int .u64 x] w fun e w' => e = .returned (.int .i64 (Pop.cnt x)) ∧ w' = w := by
  have k1 : Pop.mask 1 32 = 6148914691236517205 := by decide +kernel
  have k2 : Pop.mask 2 16 = 3689348814741910323 := by decide +kernel
  have k3 : Pop.mask 4 8 = 1085102592571150095 := by decide +kernel
  obtain ⟨x1, h1⟩ : ∃ x1, x1 = ((x / 2 ^ 1) &&& Pop.mask 1 32) + (x &&& Pop.mask 1 32) := ⟨_, rfl⟩
  obtain ⟨x2, h2⟩ : ∃ x2, x2 = ((x1 / 2 ^ 2) &&& Pop.mask 2 16) + (x1 &&& Pop.mask 2 16) := ⟨_, rfl⟩
  obtain ⟨x3, h3⟩ : ∃ x3, x3 = (x2 / 2 ^ 4 + x2) &&& Pop.mask 4 8 := ⟨_, rfl⟩
  obtain ⟨y1, h4⟩ : ∃ y1, y1 = x3 + x3 / 256 := ⟨_, rfl⟩
  obtain ⟨y2, h5⟩ : ∃ y2, y2 = y1 + y1 / 65536 := ⟨_, rfl⟩
  obtain ⟨y3, h6⟩ : ∃ y3, y3 = y2 + y2 / 4294967296 := ⟨_, rfl⟩
  have hc : Pop.cnt x = y3 % 128 := by
    unfold Pop.cnt
    rw [h6, h5, h4, h3, h2, h1]
  have b1 : x1 < 18446744073709551616 := by
    have := Nat.and_le_right (n := x / 2 ^ 1) (m := Pop.mask 1 32)
    have := Nat.and_le_right (n := x) (m := Pop.mask 1 32)
    omega
  have b2 : x2 ≤ 7378697629483820646 := by
    have := Nat.and_le_right (n := x1 / 2 ^ 2) (m := Pop.mask 2 16)
    have := Nat.and_le_right (n := x1) (m := Pop.mask 2 16)
    omega
  have b3 : x3 ≤ 1085102592571150095 := by
    have := Nat.and_le_right (n := x2 / 2 ^ 4 + x2) (m := Pop.mask 4 8)
    omega
  have E1 : IntKind.u64.wrap (bits BinOp.and IntKind.u64 ((x : Int) / 2) 6148914691236517205 + bits BinOp.and IntKind.u64 (x : Int) 6148914691236517205) = (x1 : Int) := by
    have a1 := and_nat (x / 2) 6148914691236517205 (by omega) (by decide)
    have a2 := and_nat x 6148914691236517205 hx (by decide)
    rw [Int.natCast_ediv] at a1
    refine wrap_nat x1 ?_ b1
    rw [k1] at h1
    have a1' : bits BinOp.and IntKind.u64 ((x : Int) / 2) 6148914691236517205 = ((x / 2 &&& 6148914691236517205 : Nat) : Int) := a1
    have a2' : bits BinOp.and IntKind.u64 (x : Int) 6148914691236517205 = ((x &&& 6148914691236517205 : Nat) : Int) := a2
    rw [a1', a2', h1, Int.natCast_add, Nat.pow_one]
  have E2 : IntKind.u64.wrap (bits BinOp.and IntKind.u64 ((x1 : Int) / 4) 3689348814741910323 + bits BinOp.and IntKind.u64 (x1 : Int) 3689348814741910323) = (x2 : Int) := by
    have a1 := and_nat (x1 / 4) 3689348814741910323 (by omega) (by decide)
    have a2 := and_nat x1 3689348814741910323 b1 (by decide)
    rw [Int.natCast_ediv] at a1
    refine wrap_nat x2 ?_ (by omega)
    rw [k2] at h2
    have a1' : bits BinOp.and IntKind.u64 ((x1 : Int) / 4) 3689348814741910323 = ((x1 / 4 &&& 3689348814741910323 : Nat) : Int) := a1
    have a2' : bits BinOp.and IntKind.u64 (x1 : Int) 3689348814741910323 = ((x1 &&& 3689348814741910323 : Nat) : Int) := a2
    rw [a1', a2', h2, Int.natCast_add]
  have E3 : bits BinOp.and IntKind.u64 (IntKind.u64.wrap ((x2 : Int) / 16 + (x2 : Int))) 1085102592571150095 = (x3 : Int) := by
    rw [wrap_nat (x2 / 16 + x2) (by rw [Int.natCast_add, Int.natCast_ediv]; rfl) (by omega)]
    rw [k3] at h3
    rw [h3]
    exact and_nat (x2 / 16 + x2) 1085102592571150095 (by omega) (by decide)
  have E4 : IntKind.u64.wrap ((x3 : Int) + (x3 : Int) / 256) = (y1 : Int) := wrap_nat y1 (by omega) (by omega)
  have E5 : IntKind.u64.wrap ((y1 : Int) + (y1 : Int) / 65536) = (y2 : Int) := wrap_nat y2 (by omega) (by omega)
  have E6 : IntKind.u64.wrap ((y2 : Int) + (y2 : Int) / 4294967296) = (y3 : Int) := wrap_nat y3 (by omega) (by omega)
  have b6 : y3 < 9223372036854775808 := by omega
  have E7 : IntKind.i64.wrap (y3 : Int) = (y3 : Int) := by rw [IntKind.wrap_i64]; omega
  have E8 := and_127 y3 b6
  rw [hc]
  clear h1 h2 h3 h4 h5 h6 k1 k2 k3 hc b1 b2 b3 b6
  go_enter Tryz.func114, Tryz.ntmps114
  go_wp2
  go_ret
  exact ⟨rfl, rfl⟩
/-- How many things a set has. -/
theorem len_cnt (n : Nat) (p : Nat → Bool) (hn : n ≤ 60) (w : World) :
    Calls Tryz.prog 79 #[.int .u64 (bs p n)] w fun e w' => e = .returned (.int .i64 (lst n p).length) ∧ w' = w := by
  go_enter Tryz.func79, Tryz.ntmps79
  go_wp2_with fail
  refine (ones_cnt (bs p n) (bs_64 hn) w).mono ?_
  rintro e w1 ⟨rfl, rfl⟩
  rw [Pop.cnt_bs p hn]
  go_wp2
  go_ret
  exact ⟨rfl, rfl⟩
end Go.Proofs.YtlhjeenijcokoaaGreatDoor

namespace Go.Proofs.YtlhjeenijcokoaaGreatDoor
open Go Go.RowKit Go.Maps

theorem und82 : Tryz.prog.underlying 74 = some (.int .u64) := by kernel_rfl
theorem und118 : Tryz.prog.underlying 118 = some (.map 74 119) := by kernel_rfl
theorem und79 : Tryz.prog.underlying 91 = some (.slice 74) := by kernel_rfl
theorem key82 : Keyed Tryz.prog 74 := int_keyed und82
theorem zero119 (w : World) : (zeroValue 119).run Tryz.prog w = .ok (.agg #[]) w := by kernel_rfl
theorem info82 : (Tryz.prog.info? 74).map (fun i => (i.zero, i.size, i.bytes)) = some (some (.int .u64 0), 1, 8) := by kernel_rfl
/-- The sets that are found so far, as their bits. -/
def bits (n : Nat) (P : List (Nat → Bool)) : List Nat := P.map fun p => bs p n
theorem bits_len (n : Nat) (P : List (Nat → Bool)) : (bits n P).length = P.length := by simp [bits]
theorem bits_snoc (n : Nat) (P : List (Nat → Bool)) (p : Nat → Bool) : bits n (P ++ [p]) = bits n P ++ [bs p n] := by simp [bits]
/-- What is found so far: a map in a box, that knows the sets, and a list of them in another one, whose memory lies from B on. -/
structure SFnd (W : World) (B sb fb M n : Nat) (P : List (Nat → Bool)) : Prop where
  box : Boxed W sb 118 (.map (some M))
  map : ∃ D : DataW Unit, W.ownsMap Tryz.prog 74 unitElem M P.length D ∧ ∀ s : Nat, Maps.has D (.int .u64 s) = true ↔ s ∈ bits n P
  fnd : ∃ fv, Boxed W fb 91 fv ∧ W.ownsRow B 74 1 fv P.length ((bits n P).map fun (s : Nat) => Value.int .u64 (s : Int))
  sf : sb ≠ fb
  sm : sb ≠ M
  fm : fb ≠ M
  slt : sb < B
  flt : fb < B
  mlt : M < B
theorem own_keep2 {W W' : World} {B n : Nat} {e : TypeId} {v : Value} {xs : List Value} (h : W.ownsRow B e 1 v n xs) (hk : ∀ g, B ≤ g → g < W.heap.size → W'.heap[g]? = W.heap[g]?) : W'.ownsRow B e 1 v n xs := by
  refine ⟨h.1, ?_⟩
  rcases h.2 with h0 | ⟨g, cap, cur, hv, hg, hh, rest⟩
  · exact .inl h0
  · exact .inr ⟨g, cap, cur, hv, hg, (hk g hg (Array.getElem?_eq_some_iff.1 hh).1).trans hh, rest⟩
theorem below_grown' {w w' : World} (h : Below w.heap.size w w') (row : Option Nat) : w.grownBy w' row := ⟨h.os, h.tape, h.output, h.size, fun b hb _ => h.block b hb⟩
theorem SFnd.below {W W' : World} {B sb fb M n : Nat} {P : List (Nat → Bool)} (h : SFnd W B sb fb M n P) (hb : Below W.heap.size W W') : SFnd W' B sb fb M n P := by
  obtain ⟨h1, ⟨D, h2, h3⟩, ⟨fv, h4, h5⟩, h6, h7, h8, h9, h10, h11⟩ := h
  exact ⟨Boxed.below h1 hb, ⟨D, h2.kept (below_grown' hb none) (by simp), h3⟩, ⟨fv, Boxed.below h4 hb, own_keep2 h5 (fun g _ h2 => hb.block g h2)⟩, h6, h7, h8, h9, h10, h11⟩
theorem set_grown (w : World) (b : Nat) (v : Value) : w.grownBy (w.setCell ⟨b, 0, none⟩ v) (some b) := ⟨rfl, rfl, rfl, by rw [size_set]; exact Nat.le_refl _, fun g _ hne => Below.heap_setCell _ _ _ g (fun e => hne (by rw [e]))⟩
theorem own_val {w : World} {base n : Nat} {e : TypeId} {v : Value} {xs : List Value} (h : w.ownsRow base e 1 v n xs) : ∃ a cap, v = .slice a n cap := by
  rcases h.2 with ⟨rfl, rfl⟩ | ⟨g, cap, cur, rfl, _⟩
  · exact ⟨none, 0, rfl⟩
  · exact ⟨_, cap, rfl⟩
set_option maxRecDepth 100000 in
set_option maxHeartbeats 4000000 in
theorem stake_old (B sb fb M n : Nat) (p : Nat → Bool) (P : List (Nat → Bool)) (w : World) (hF : SFnd w B sb fb M n P) (hn : n ≤ 60) (hin : bs p n ∈ bits n P) :
    Calls Tryz.prog 101 #[.int .u64 (bs p n : Nat), .pointer (some ⟨sb, 0, none⟩), .pointer (some ⟨fb, 0, none⟩)] w fun e w' => e = .returned (.tuple #[]) ∧ SFnd w' B sb fb M n P ∧ Below w.heap.size w w' := by
  obtain ⟨D, hmap, hD⟩ := hF.map
  have c0 := hF.box.cell
  have hkw : (Lit.int .u64 (bs p n : Nat)).wf = true := WalkArith.wf_u64 (by have := bs_64 (p := p) hn; omega)
  have hkey := keyOf_int_mk und82 hkw
  have hh := (hD (bs p n)).2 hin
  have HF := hide hF
  clear hF hD hin
  generalize bs p n = X at *
  go_enter Tryz.func101, Tryz.ntmps101
  go_wp2_with (first
    | (at_lookup; refine wpList_lookup_own_unit _ rfl _ _ 118 rfl 74 119 key82 und118 (zero119 _) M _ D rfl hmap _ _ rfl hkey ?_; rw [hh]))
  go_end0
  exact ⟨rfl, HF.out.below (balloc w _), balloc w _⟩
set_option maxRecDepth 100000 in
set_option maxHeartbeats 4000000 in
theorem stake_new (B sb fb M n : Nat) (p : Nat → Bool) (P : List (Nat → Bool)) (w : World) (hF : SFnd w B sb fb M n P) (hB : B ≤ w.heap.size) (hn : n ≤ 60) (hin : ¬ bs p n ∈ bits n P) (hl : P.length ≤ 16777216) :
    Calls Tryz.prog 101 #[.int .u64 (bs p n : Nat), .pointer (some ⟨sb, 0, none⟩), .pointer (some ⟨fb, 0, none⟩)] w fun e w' => e = .returned (.tuple #[]) ∧ SFnd w' B sb fb M n (P ++ [p]) ∧ Chg B M fb w w' := by
  obtain ⟨i0, hi, hz0, hz1, hz2⟩ := info_parts info82
  obtain ⟨D, hmap, hD⟩ := hF.map
  obtain ⟨fv, hfb, hrow⟩ := hF.fnd
  obtain ⟨fa, fcap, rfl⟩ := own_val hrow
  have hsb := hF.box
  have c0 := hsb.cell
  have hkw : (Lit.int .u64 (bs p n : Nat)).wf = true := WalkArith.wf_u64 (by have := bs_64 (p := p) hn; omega)
  have hkey := keyOf_int_mk und82 hkw
  have hh : Maps.has D (.int .u64 (bs p n : Nat)) = false := by
    rw [← Bool.not_eq_true, hD]; exact hin
  have hIs : IsMap D := by
    obtain ⟨es, clock, hb, F, hs, hD⟩ := hmap
    exact ⟨_, hD⟩
  have HD2 := hide (show ∀ s : Nat, Maps.has (D.put (.int .u64 (bs p n : Nat)) (.agg [])) (.int .u64 s) = true ↔ s ∈ bits n (P ++ [p]) from fun s => by
    rw [bits_snoc, List.mem_append, List.mem_singleton]
    by_cases e : s = bs p n
    · subst e
      rw [has_put_same hIs (by trivial)]
      simp
    · rw [has_put_other (fun h9 => e (by injection h9 with _ h9; omega)), hD s]
      simp [e])
  obtain ⟨hsf, hsm, hfm, hslt, hflt, hmlt⟩ : sb ≠ fb ∧ sb ≠ M ∧ fb ≠ M ∧ sb < B ∧ fb < B ∧ M < B := ⟨hF.sf, hF.sm, hF.fm, hF.slt, hF.flt, hF.mlt⟩
  have HBS := hide (bits_snoc n P p)
  have HBL := hide (bits_len n P)
  clear hF hD hin
  have hmapA := hmap.kept (World.grownBy_alloc w (.cells #[] 119) none) (by simp)
  have c0A := (hsb.alloc (.cells #[] 119)).cell
  generalize bits n P = L9 at *
  generalize bs p n = X at *
  go_enter Tryz.func101, Tryz.ntmps101
  go_wp2_with (first
    | (at_lookup; refine wpList_lookup_own_unit _ rfl _ _ 118 rfl 74 119 key82 und118 (zero119 _) M _ D rfl hmap _ _ rfl hkey ?_; rw [hh])
    | (at_mapUpdate; refine wpList_mapUpdate_own _ rfl _ _ _ 118 rfl 74 119 key82 und118 _ M _ D rfl hmapA (by unfold maxLen; omega) _ _ _ rfl rfl hkey _ [] unitElem_mk ?_; intro w2 hmap2 hgrow2; have hf2 : Boxed w2 fb 91 (.slice fa P.length fcap) := Boxed.kept (hfb.alloc (.cells #[] 119)) hgrow2 (by simp; exact hfm); have hs2 : Boxed w2 sb 118 (.map (some M)) := Boxed.kept (hsb.alloc (.cells #[] 119)) hgrow2 (by simp; exact hsm); have hr2 : w2.ownsRow B 74 1 (.slice fa P.length fcap) P.length (L9.map fun (s : Nat) => Value.int .u64 (s : Int)) := own_keep2 hrow (fun g h1 h2 => (hgrow2.block g (by simp; omega) (by simp; omega)).trans (Below.heap_alloc _ _ g h2)); have hz9 : w.heap.size < w2.heap.size := (by have := hgrow2.size; simp at this; omega); have cf2 := hf2.cell)
    | (at_builtin; refine wpList_append_own _ rfl _ _ 91 rfl B 74 i0 (.int .u64 0) 1 8 und79 hi hz0 hz1 hz2 rfl (by decide) _ _ _ rfl (World.ownsRow.alloc hr2 _) ⟨w2.heap.size, 0, none⟩ 1 1 [.int .u64 X] rfl rfl ?c1 ?c2 ?c3 ?c4 ?c5 ?_))
  case c1 => exact cell_one_new _ _ _
  case c2 => simp [Value.oneCell']
  case c3 => unfold maxLen; omega
  case c4 => omega
  case c5 => simp; omega
  intro v9 w6 hown' hgrow _
  obtain ⟨g', cap', rfl⟩ := ownsRow_succ hown'
  have h6f : Boxed w6 fb 91 (.slice fa P.length fcap) := Boxed.kept (Boxed.alloc hf2 _) hgrow (hf2.not_row (by decide) hr2)
  have h6s : Boxed w6 sb 118 (.map (some M)) := Boxed.kept (Boxed.alloc hs2 _) hgrow (hs2.not_row (by decide) hr2)
  have hmr : ∀ g, (Value.slice fa P.length fcap).ownBlock = some g → B ≤ g := fun g e => owns_ge hr2 g e
  have hmap6 := (hmap2.kept (World.grownBy_alloc w2 _ none) (by simp)).kept hgrow (fun e => by have := hmr _ e.symm; omega)
  have h6z : w2.heap.size ≤ w6.heap.size := by have := hgrow.size; simp at this; omega
  have h6k : ∀ g, g < B → w6.heap[g]? = w2.heap[g]? := fun g h1 => (hgrow.block g (by simp; omega) (fun e => by have := hmr g e.symm; omega)).trans (Below.heap_alloc _ _ g (by omega))
  have h2k : ∀ g, g < B → g ≠ M → w2.heap[g]? = w.heap[g]? := fun g h1 h2 => (hgrow2.block g (by simp; omega) (by simp; exact h2)).trans (Below.heap_alloc _ _ g (by omega))
  have hC : Chg B M fb w (w6.setCell ⟨fb, 0, none⟩ (.slice (some ⟨g', 0, none⟩) (P.length + 1) cap')) := ⟨hgrow.os.trans hgrow2.os, hgrow.tape.trans hgrow2.tape, hgrow.output.trans hgrow2.output, by rw [size_set]; omega, fun g h1 h2 h3 => (Below.heap_setCell _ _ _ g h3).trans ((h6k g h1).trans (h2k g h1 h2))⟩
  have h7s : Boxed (w6.setCell ⟨fb, 0, none⟩ (.slice (some ⟨g', 0, none⟩) (P.length + 1) cap')) sb 118 (.map (some M)) := (Below.heap_setCell _ _ _ sb hsf).trans h6s
  have h7f := h6f.set (.slice (some ⟨g', 0, none⟩) (P.length + 1) cap')
  have h7r : (w6.setCell ⟨fb, 0, none⟩ (.slice (some ⟨g', 0, none⟩) (P.length + 1) cap')).ownsRow B 74 1 (.slice (some ⟨g', 0, none⟩) (P.length + 1) cap') (P ++ [p]).length ((bits n (P ++ [p])).map fun (s : Nat) => Value.int .u64 (s : Int)) := by
    have := own_keep2 hown' (fun g h1 h2 => Below.heap_setCell w6 ⟨fb, 0, none⟩ (.slice (some ⟨g', 0, none⟩) (P.length + 1) cap') g (by simp; omega))
    rw [HBS.out]
    simpa using this
  have h7m : (w6.setCell ⟨fb, 0, none⟩ (.slice (some ⟨g', 0, none⟩) (P.length + 1) cap')).ownsMap Tryz.prog 74 unitElem M (P ++ [p]).length (D.put (.int .u64 (X : Nat)) (.agg [])) := by
    rw [List.length_append]
    exact hmap6.kept (set_grown w6 fb _) (by simp; exact fun e => hfm e.symm)
  have h7n : SFnd (w6.setCell ⟨fb, 0, none⟩ (.slice (some ⟨g', 0, none⟩) (P.length + 1) cap')) B sb fb M n (P ++ [p]) := ⟨h7s, ⟨_, h7m, HD2.out⟩, ⟨_, h7f, h7r⟩, hsf, hsm, hfm, hslt, hflt, hmlt⟩
  have hfc6 := h6f.cell
  have hff6 := h6f.frozen
  clear hown' hgrow hf2 hs2 hr2 h7s h7f h7r h7m h6s h6k h2k hmap6 hmap2 hgrow2 hmapA hmap
  go_wp2
  go_end0
  exact ⟨rfl, h7n, hC⟩
end Go.Proofs.YtlhjeenijcokoaaGreatDoor

namespace Go.Proofs.YtlhjeenijcokoaaGreatDoor
open Go Go.RowKit

/-- A set that is made of another one and one thing more. -/
def Mks (n : Nat) (zs : List Int) (e : Nat) (q : Nat → Bool) (b : Nat) (p : Nat → Bool) : Prop := ∀ x, x < n → (p x = true ↔ Mkd n zs e (fun y => q y || decide (y = b)) x)
/-- What is so of the sets that are found, when k of them were made more, and the next with a things. -/
structure SInv (n : Nat) (zs : List Int) (e : Nat) (P : List (Nat → Bool)) (k a : Nat) : Prop where
  sub : ∀ p, p ∈ P → subT n zs e p = true
  nd : (bits n P).Nodup
  one : bs (fun x => decide (x = e)) n ∈ bits n P
  cl : ∀ i q, P[i]? = some q → ∀ b, b < n → (i < k ∨ i = k ∧ b < a) → ∃ p, p ∈ P ∧ Mks n zs e q b p
theorem mks_sub {n e b : Nat} {zs : List Int} {q p : Nat → Bool} (h : Mks n zs e q b p) (he : e < n) (hm : ∀ a b, a < n → b < n → tm n zs a b < n) : subT n zs e p = true := by
  rw [subT_iff]
  refine ⟨(h e he).2 (Fin.Gen.sg _).one, fun x y hx hy h1 h2 => ?_⟩
  have hxn := List.mem_range.1 hx
  have hyn := List.mem_range.1 hy
  exact (h _ (hm x y hxn hyn)).2 ((Fin.Gen.sg _).mul x y hx hy ((h x hxn).1 h1) ((h y hyn).1 h2))
/-- The list, with a set that is put to it, where it is not there yet. -/
def put (n : Nat) (P : List (Nat → Bool)) (p : Nat → Bool) : List (Nat → Bool) := if bs p n ∈ bits n P then P else P ++ [p]
theorem put_get {n i : Nat} {P : List (Nat → Bool)} {q : Nat → Bool} (p : Nat → Bool) (h : P[i]? = some q) : (put n P p)[i]? = some q := by
  unfold put
  split
  · exact h
  · rw [List.getElem?_append_left (List.getElem?_eq_some_iff.1 h).1]; exact h
theorem put_mem {n : Nat} {P : List (Nat → Bool)} {p : Nat → Bool} : ∃ p', p' ∈ put n P p ∧ bs p' n = bs p n := by
  unfold put
  by_cases h : bs p n ∈ bits n P
  · rw [if_pos h]
    unfold bits at h
    obtain ⟨p', h1, h2⟩ := List.mem_map.1 h
    exact ⟨p', h1, h2⟩
  · rw [if_neg h]
    exact ⟨p, by simp, rfl⟩
theorem put_sub {n : Nat} {P : List (Nat → Bool)} {p q : Nat → Bool} (h : q ∈ P) : q ∈ put n P p := by
  unfold put; split
  · exact h
  · simp [h]
theorem SInv.start {n e : Nat} {zs : List Int} (g : IsGrp n zs e) : SInv n zs e [fun x => decide (x = e)] 0 0 where
  sub := fun p hp => by
    rw [List.mem_singleton] at hp
    subst hp
    rw [subT_iff]
    refine ⟨by simp, fun x y _ _ h1 h2 => ?_⟩
    have h1 : x = e := by simpa using h1
    have h2 : y = e := by simpa using h2
    subst h1
    rw [h2]
    simpa using g.left x g.elt
  nd := by simp [bits]
  one := by simp [bits]
  cl := fun i q _ b _ h => by omega
theorem SInv.step {n e k a : Nat} {zs : List Int} {P : List (Nat → Bool)} {q p : Nat → Bool} (g : IsGrp n zs e) (h : SInv n zs e P k a) (hq : P[k]? = some q) (hp : Mks n zs e q a p) : SInv n zs e (put n P p) k (a + 1) := by
  have hps := mks_sub hp g.elt (fun a b ha hb => tm_lt g.tab ha hb)
  refine ⟨fun r hr => ?_, ?_, ?_, fun i r hi b hb hc => ?_⟩
  · unfold put at hr
    by_cases h9 : bs p n ∈ bits n P
    · rw [if_pos h9] at hr; exact h.sub r hr
    · rw [if_neg h9] at hr
      rcases List.mem_append.1 hr with hr | hr
      · exact h.sub r hr
      · rw [List.mem_singleton] at hr; subst hr; exact hps
  · unfold put
    by_cases h9 : bs p n ∈ bits n P
    · rw [if_pos h9]; exact h.nd
    · rw [if_neg h9, bits_snoc, List.nodup_append]
      refine ⟨h.nd, by simp, fun x hx y hy => ?_⟩
      rw [List.mem_singleton] at hy
      subst hy
      intro e9
      subst e9
      exact h9 hx
  · unfold put
    by_cases h9 : bs p n ∈ bits n P
    · rw [if_pos h9]; exact h.one
    · rw [if_neg h9, bits_snoc, List.mem_append]; exact .inl h.one
  · by_cases hiP : i < P.length
    · have hri : P[i]? = some r := by
        have := put_get (n := n) p (List.getElem?_eq_getElem hiP)
        rw [this] at hi
        rw [← hi]
        exact List.getElem?_eq_getElem hiP
      by_cases hn9 : i = k ∧ b = a
      · obtain ⟨rfl, rfl⟩ := hn9
        rw [hq] at hri
        injection hri with hri
        subst hri
        obtain ⟨p', h1, h2⟩ := put_mem (n := n) (P := P) (p := p)
        exact ⟨p', h1, fun x hx => by rw [bs_inj h2 x hx]; exact hp x hx⟩
      · obtain ⟨p', h1, h2⟩ := h.cl i r hri b hb (by omega)
        exact ⟨p', put_sub h1, h2⟩
    · have := (List.getElem?_eq_some_iff.1 hq).1
      omega
theorem SInv.next {n e k : Nat} {zs : List Int} {P : List (Nat → Bool)} (h : SInv n zs e P k n) : SInv n zs e P (k + 1) 0 :=
  ⟨h.sub, h.nd, h.one, fun i q hi b hb hc => h.cl i q hi b hb (by omega)⟩
theorem SInv.len {n e k a : Nat} {zs : List Int} {P : List (Nat → Bool)} (h : SInv n zs e P k a) (hn : n ≤ 24) : P.length ≤ 16777216 := by
  rw [← bits_len n P]
  refine nodup_fits h.nd fun x hx => ?_
  unfold bits at hx
  obtain ⟨p, _, rfl⟩ := List.mem_map.1 hx
  exact Nat.lt_of_lt_of_le (bs_lt p n) (Nat.le_trans (Nat.pow_le_pow_right (by omega) hn) (by decide))
/-- Each subgroup is found. -/
theorem SInv.all {n e k : Nat} {zs : List Int} {P : List (Nat → Bool)} (g : IsGrp n zs e) (h : SInv n zs e P k 0) (hk : P.length ≤ k) {t : Nat → Bool} (ht : subT n zs e t = true) : bs t n ∈ bits n P := by
  have hS := subT_iff.1 ht
  have key : ∀ j, j ≤ n → ∃ p, p ∈ P ∧ ∀ x, x < n → (p x = true ↔ Mkd n zs e (fun y => t y && decide (y < j)) x) := by
    intro j
    induction j with
    | zero =>
      intro _
      have h1 := h.one
      unfold bits at h1
      obtain ⟨p, hp, he⟩ := List.mem_map.1 h1
      refine ⟨p, hp, fun x hx => ?_⟩
      rw [bs_inj he x hx, decide_eq_true_eq]
      constructor
      · rintro rfl; exact (Fin.Gen.sg _).one
      · intro hg
        refine Fin.Gen.least (P := fun x => x = e) ⟨rfl, fun a b _ _ h1 h2 => ?_⟩ (fun x _ hx => ?_) hg
        · show tm n zs a b = e
          rw [show a = e from h1, show b = e from h2]
          exact g.left e g.elt
        · simp at hx
    | succ j ih =>
      intro hj
      obtain ⟨p, hp, he⟩ := ih (by omega)
      cases htj : t j with
      | false =>
        refine ⟨p, hp, fun x hx => ?_⟩
        rw [he x hx]
        have : (fun y => t y && decide (y < j)) = fun y => t y && decide (y < j + 1) := by
          funext y
          by_cases e9 : y = j
          · subst e9; simp [htj]
          · have : decide (y < j) = decide (y < j + 1) := by rw [Bool.eq_iff_iff, decide_eq_true_eq, decide_eq_true_eq]; omega
            rw [this]
        rw [this]
      | true =>
        obtain ⟨i, hi, hpi⟩ := List.mem_iff_getElem.1 hp
        obtain ⟨p', hp', he'⟩ := h.cl i p (by rw [List.getElem?_eq_getElem hi, hpi]) j (by omega) (by omega)
        refine ⟨p', hp', fun x hx => ?_⟩
        rw [he' x hx]
        constructor
        · intro hg
          refine Fin.Gen.least (Fin.Gen.sg _) (fun y hy hy2 => ?_) hg
          have hyn := List.mem_range.1 hy
          rcases Bool.or_eq_true_iff.1 hy2 with h1 | h1
          · refine Fin.Gen.mono (fun z _ hz => ?_) ((he y hyn).1 h1)
            simp only [Bool.and_eq_true, decide_eq_true_eq] at hz ⊢
            exact ⟨hz.1, by omega⟩
          · have : y = j := by simpa using h1
            subst this
            exact Fin.Gen.base hy (by simp [htj])
        · intro hg
          refine Fin.Gen.mono (fun z hz hz2 => ?_) hg
          have hzn := List.mem_range.1 hz
          simp only [Bool.and_eq_true, decide_eq_true_eq] at hz2
          by_cases e9 : z = j
          · simp [e9]
          · have : p z = true := (he z hzn).2 (Fin.Gen.base hz (by simp [hz2.1]; omega))
            simp [this]
  obtain ⟨p, hp, he⟩ := key n (Nat.le_refl _)
  unfold bits
  refine List.mem_map.2 ⟨p, hp, bs_ext fun x hx => ?_⟩
  rw [Bool.eq_iff_iff, he x hx]
  constructor
  · intro hg
    refine Fin.Gen.least hS (fun y _ hy => ?_) hg
    simp only [Bool.and_eq_true] at hy
    exact hy.1
  · intro htx
    exact Fin.Gen.base (List.mem_range.2 hx) (by simp [htx, hx])
end Go.Proofs.YtlhjeenijcokoaaGreatDoor

namespace Go.Proofs.YtlhjeenijcokoaaGreatDoor
open Go Go.RowKit

section
variable {n e m d : Nat} {zs ys : List Int} {π : Nat → Nat}
theorem lst_bs {p q : Nat → Bool} : lst n p = lst n q ↔ bs p n = bs q n := by
  constructor
  · intro h
    exact bs_ext fun a ha => by
      have h1 := mem_lst (n := n) (p := p) (a := a)
      rw [h, mem_lst] at h1
      cases hp : p a <;> cases hq : q a <;> simp_all
  · intro h
    exact lst_congr fun a ha => bs_inj h a ha
theorem bits_mem {P : List (Nat → Bool)} {q : Nat → Bool} : bs q n ∈ bits n P ↔ ∃ p, p ∈ P ∧ lst n p = lst n q := by
  unfold bits
  rw [List.mem_map]
  exact ⟨fun ⟨p, h1, h2⟩ => ⟨p, h1, lst_bs.2 h2⟩, fun ⟨p, h1, h2⟩ => ⟨p, h1, lst_bs.1 h2⟩⟩
/-- The subgroups above a kernel, and the subgroups of the image. -/
theorem corr_len {P Q : List (Nat → Bool)} {k : Nat} (g : IsGrp n zs e) (h : IsGrp m ys d) (A : IsOnto n zs m ys π) (hP : SInv n zs e P k 0) (hk : P.length ≤ k) (hQs : ∀ r, r ∈ Q → subT m ys d r = true) (hQn : (bits m Q).Nodup) (hQa : ∀ t : Nat → Bool, subT m ys d t = true → bs t m ∈ bits m Q) {nq : Nat → Bool} (hn : ∀ a, a < n → (nq a = true ↔ π a = d)) :
    ((P.map fun p => li (lst n p)).filter fun l => (li (lst n nq)).all fun a => decide (a ∈ l)).length = Q.length := by
  have hsub : ∀ p : Nat → Bool, ((li (lst n nq)).all fun a => decide (a ∈ li (lst n p))) = true ↔ ∀ a, a < n → nq a = true → p a = true := fun p => by
    rw [List.all_eq_true]
    constructor
    · intro h1 a ha h2
      exact (mem_lst.1 (mem_li.1 (of_decide_eq_true (h1 a (mem_li.2 (mem_lst.2 ⟨ha, h2⟩)))))).2
    · intro h1 x hx
      unfold li at hx
      obtain ⟨a, ha, rfl⟩ := List.mem_map.1 hx
      obtain ⟨h2, h3⟩ := mem_lst.1 ha
      exact decide_eq_true (mem_li.2 (mem_lst.2 ⟨h2, h1 a h2 h3⟩))
  have nd1 : ((P.map fun p => li (lst n p)).filter fun l => (li (lst n nq)).all fun a => decide (a ∈ l)).Nodup := by
    refine List.Nodup.sublist List.filter_sublist ?_
    have h9 := hP.nd
    unfold bits at h9
    rw [List.nodup_iff_pairwise_ne, List.pairwise_map] at h9 ⊢
    exact h9.imp fun hne h8 => hne (lst_bs.1 (li_inj h8))
  have nd2 : (Q.map fun r => li (lst n fun a => r (π a))).Nodup := by
    have h9 := hQn
    unfold bits at h9
    rw [List.nodup_iff_pairwise_ne, List.pairwise_map] at h9 ⊢
    refine h9.imp fun {r s} hne h8 => hne (bs_ext fun y hy => ?_)
    obtain ⟨a, ha, rfl⟩ := A.hits y hy
    exact bs_inj (lst_bs.1 (li_inj h8)) a ha
  have hperm := (List.perm_ext_iff_of_nodup nd1 nd2).2 fun x => ?_
  · have := hperm.length_eq
    rw [this, List.length_map]
  · rw [List.mem_filter, List.mem_map, List.mem_map]
    constructor
    · rintro ⟨⟨p, hp, rfl⟩, hx⟩
      have hx := (hsub p).1 hx
      have hps := hP.sub p hp
      obtain ⟨r, hr⟩ : ∃ r : Nat → Bool, ∀ y, r y = true ↔ ∃ a, a < n ∧ p a = true ∧ π a = y := Fin.test_of (fun y => ∃ a, a < n ∧ p a = true ∧ π a = y)
      have S := subT_iff.1 hps
      have hrs : subT m ys d r = true := sub_of (fun y _ => hr y) h ⟨⟨e, g.elt, S.1, IsHom.one g h A.hom⟩, by
        rintro _ _ _ _ ⟨a, ha, h1, rfl⟩ ⟨b, hb, h2, rfl⟩
        exact ⟨tm n zs a b, tm_lt g.tab ha hb, sub_mul hps ha hb h1 h2, A.hom.mul a b ha hb⟩⟩
      obtain ⟨r', hr', hrr⟩ := bits_mem.1 (hQa _ hrs)
      refine ⟨r', hr', congrArg li (lst_congr fun a ha => ?_)⟩
      have h1 : r' (π a) = r (π a) := bs_inj (lst_bs.1 hrr) _ (A.hom.lt a ha)
      rw [h1, Bool.eq_iff_iff, hr]
      constructor
      · rintro ⟨b, hb, h2, h3⟩
        exact img_back g h A.hom hps (fun c hc h4 => hx c hc ((hn c hc).2 h4)) ha hb h3.symm h2
      · intro h2
        exact ⟨a, ha, h2, rfl⟩
    · rintro ⟨r, hr, rfl⟩
      have hrs := hQs r hr
      have S := subT_iff.1 hrs
      have hps : subT n zs e (fun a => r (π a)) = true := subT_iff.2 ⟨by show r (π e) = true; rw [IsHom.one g h A.hom]; exact S.1, fun a b ha hb h1 h2 => by
        show r (π (tm n zs a b)) = true
        have ha' := List.mem_range.1 ha
        have hb' := List.mem_range.1 hb
        rw [A.hom.mul a b ha' hb']
        exact sub_mul hrs (A.hom.lt a ha') (A.hom.lt b hb') h1 h2⟩
      obtain ⟨p, hp, hpp⟩ := bits_mem.1 (hP.all g hk hps)
      refine ⟨⟨p, hp, congrArg li hpp⟩, (hsub _).2 fun a ha h1 => ?_⟩
      show r (π a) = true
      rw [(hn a ha).1 h1]
      exact S.1
/-- All subgroups, by their bits. -/
def subs (m : Nat) (ys : List Int) (d : Nat) : List (Nat → Bool) := ((List.range (2 ^ m)).filter fun b => subT m ys d (fun a => b.testBit a)).map fun b a => b.testBit a
theorem bs_test {b : Nat} (hb : b < 2 ^ m) : bs (fun a => b.testBit a) m = b := by
  apply Nat.eq_of_testBit_eq
  intro i
  rw [bs_bit]
  by_cases hi : i < m
  · simp [hi]
  · rw [Nat.testBit_lt_two_pow (Nat.lt_of_lt_of_le hb (Nat.pow_le_pow_right (by omega) (by omega)))]
    simp [hi]
theorem subs_bits (m : Nat) (ys : List Int) (d : Nat) : bits m (subs m ys d) = (List.range (2 ^ m)).filter fun b => subT m ys d (fun a => b.testBit a) := by
  unfold bits subs
  rw [List.map_map]
  refine (List.map_congr_left fun b hb => ?_).trans (List.map_id _)
  exact bs_test (List.mem_range.1 (List.mem_filter.1 hb).1)
theorem subs_sub {r : Nat → Bool} (hr : r ∈ subs m ys d) : subT m ys d r = true := by
  unfold subs at hr
  obtain ⟨b, hb, rfl⟩ := List.mem_map.1 hr
  exact (List.mem_filter.1 hb).2
theorem subs_nd (m : Nat) (ys : List Int) (d : Nat) : (bits m (subs m ys d)).Nodup := by
  rw [subs_bits]
  exact List.nodup_range.sublist List.filter_sublist
theorem subs_all (h : IsGrp m ys d) {t : Nat → Bool} (ht : subT m ys d t = true) : bs t m ∈ bits m (subs m ys d) := by
  rw [subs_bits, List.mem_filter, List.mem_range]
  refine ⟨bs_lt t m, ?_⟩
  rw [← ht]
  exact subT_congr h fun a ha => by rw [bs_bit]; simp [ha]
theorem subs_len {P : List (Nat → Bool)} {k : Nat} (h : IsGrp m ys d) (hP : SInv m ys d P k 0) (hk : P.length ≤ k) : P.length = (subs m ys d).length := by
  have hp := (List.perm_ext_iff_of_nodup hP.nd (subs_nd m ys d)).2 fun x => by
    constructor
    · intro hx
      unfold bits at hx
      obtain ⟨p, h1, rfl⟩ := List.mem_map.1 hx
      exact subs_all h (hP.sub p h1)
    · intro hx
      unfold bits at hx
      obtain ⟨p, h1, rfl⟩ := List.mem_map.1 hx
      exact hP.all h hk (subs_sub h1)
  have := hp.length_eq
  rwa [bits_len, bits_len] at this
end
end Go.Proofs.YtlhjeenijcokoaaGreatDoor
