/- Package sub's Is, package coset's Right. Condition: the library's table of places lies as its text lays it. Package quot's Quotient. Condition: the library's table of places lies as its text lays it. Package quot's Simple. Condition: the library's table of places lies as its text lays it. Greatest normal subgroups of a part and of a quotient, as mathematics: they go over into those of the whole; a quotient is simple just where what it is made by is a greatest one. No condition. What is nilpotent: a subgroup that is not all is less than its normaliser, and each normal subgroup of more than the one has something of the centre. No condition. The law SylowFrattini: its closure, and what it answers at what is wrong. Condition: the library's table of places lies as its text lays it. -/
import Derived.Test.YtjiapicknkjhmaaDoorZ8
import Derived.BigQuiet
import Derived.Deep.AppendLies
import Derived.Deep.DeepCutAuto
import Derived.Deep.RegionLaw
import Derived.Laws.EntriesVeiled
import Derived.Maps.AppendAt
import Derived.Maps.Ext
import Derived.Maps.OwnOps
import Derived.Maps.OwnSet
import Derived.Test.YtjiapicknkjhmaaDoorZ7
namespace Go.Proofs.YtjiapicknkjhmaaDoor
open Go Go.RowKit Go.Maps

set_option maxRecDepth 100000 in
set_option maxHeartbeats 4000000 in
theorem is_bad (N : Int) (v u0 : Value) (zs l0 : List Int) (w : World) (hv : Sl w v zs) (hu : Sl w u0 l0) (hc : (sfault N zs l0).1 ≠ 0) :
    Calls Tryd.prog 87 #[.agg #[.int .i64 N, v], u0] w fun x w' => x = .returned (.tuple #[.bool false, .agg #[.int .i64 (sfault N zs l0).1, .int .i64 (sfault N zs l0).2]]) ∧ Below w.heap.size w w' := by
  obtain ⟨w0, BG⟩ := Beg.new w N v
  have hv0 := hv.below BG.bel
  obtain ⟨c0, c1, _, _⟩ := BG.box.two
  have hck := oset_bad N v u0 zs l0 w0 hv0 (hu.below BG.bel) hc
  obtain ⟨c, i, hci⟩ : ∃ c i, sfault N zs l0 = (c, i) := ⟨_, _, rfl⟩
  rw [hci] at hck hc ⊢
  simp only at hc hck
  have HCK := hide hck
  clear hck hci
  have hcb : (c != 0) = true := by simpa using hc
  rw [BG.eq] at c0 c1
  go_enter Tryd.func87, Tryd.ntmps87
  go_wp2_with fail
  rw [← BG.eq]
  refine HCK.out.mono ?_
  rintro x w1 ⟨rfl, hb1⟩
  clear c0 c1
  obtain ⟨w2, hw2⟩ : ∃ w2, w2 = (w1.alloc (.cells #[.int .i64 0, .slice none 0 0, .int .i64 0, .slice none 0 0] 50)).alloc (.cells #[.int .i64 c, .int .i64 i] 27) := ⟨_, rfl⟩
  have hB1 : Below w0.heap.size w0 w2 := by rw [hw2]; exact bcat2 hb1 ((balloc w1 _).alloc (by simp) _)
  have hF1 : Blk w2 (w1.heap.size + 1) 27 [.int .i64 c, .int .i64 i] := by
    rw [hw2]
    have := blk0 (w := w1.alloc (.cells #[.int .i64 0, .slice none 0 0, .int .i64 0, .slice none 0 0] 50)) (T := 27) (.int .i64 c) (.int .i64 i)
    rwa [World.size_alloc] at this
  have hR1 := blk_below BG.res hB1
  have hBw := bcat BG.bel hB1 BG.bel.size
  obtain ⟨y0, y1, fy0, fy1⟩ := hR1.two
  obtain ⟨t0, t1, _, _⟩ := hF1.two
  rw [hw2] at t0 t1
  go_wp2_with fail
  rw [← hw2]
  rw [← hw2] at t0 t1
  clear hw2
  go_region
  all_goals (
    go_wp2
    obtain ⟨hR6, hB6⟩ := put2 hR1 hBw (by omega) c i
    have hB7 := bdrew hB6
    have hR7 : Blk ((w2.setCell ⟨w.heap.size + 1, 0, none⟩ (.int .i64 c)).setCell ⟨w.heap.size + 1, 1, none⟩ (.int .i64 i)).drew (w.heap.size + 1) 27 [.int .i64 c, .int .i64 i] := hR6
    generalize ((w2.setCell ⟨w.heap.size + 1, 0, none⟩ (.int .i64 c)).setCell ⟨w.heap.size + 1, 1, none⟩ (.int .i64 i)).drew = W at hR7 hB7 ⊢
    obtain ⟨z0, z1, _, _⟩ := hR7.two
    exact bodyPost_ret (v := .tuple #[.bool false, .agg #[.int .i64 c, .int .i64 i]]) (by simp [results, Tryd.results87, go_sem, z0, z1]) rfl ⟨rfl, hB7⟩)
set_option maxRecDepth 100000 in
set_option maxHeartbeats 4000000 in
theorem is_good (n e : Nat) (v u0 : Value) (zs l0 : List Int) (w : World) (hv : Sl w v zs) (hg : IsGrp n zs e) (hu : Sl w u0 l0) (hT : Tab w) (hc : lfault n l0 = (0, 0)) :
    Calls Tryd.prog 87 #[.agg #[.int .i64 n, v], u0] w fun x w' => x = .returned (.tuple #[.bool (subT n zs e (pset l0)), .agg #[.int .i64 0, .int .i64 0]]) ∧ Below w.heap.size w w' := by
  obtain ⟨va, vl, vc, rfl⟩ := hv.isSlice
  obtain ⟨p, hp⟩ := mkd_test n zs e (pset l0)
  have heq := subT_made hp hg.elt (fun a b ha hb => tm_lt hg.tab ha hb)
  obtain ⟨w0, BG⟩ := Beg.new w n (.slice va vl vc)
  have hv0 := hv.below BG.bel
  obtain ⟨c0, c1, _, _⟩ := BG.box.two
  have HCK := hide (oset_good n e (.slice va vl vc) u0 zs l0 w0 hv0 hg (hu.below BG.bel) hc)
  have HZ0 := hide (show w.heap.size + 2 ≤ w0.heap.size by rw [BG.eq]; simp)
  rw [BG.eq] at c0 c1
  go_enter Tryd.func87, Tryd.ntmps87
  go_wp2_with fail
  rw [← BG.eq]
  refine HCK.out.mono ?_
  rintro x w1 ⟨iv9, rfl, hSI, hb1⟩
  obtain ⟨ia, il, ic, rfl⟩ := hSI.sl.isSlice
  clear c0 c1 HCK
  obtain ⟨w2, hw2⟩ : ∃ w2, w2 = (w1.alloc (.cells #[.int .i64 n, (.slice va vl vc), .int .i64 e, (.slice ia il ic)] 50)).alloc (.cells #[.int .i64 0, .int .i64 0] 27) := ⟨_, rfl⟩
  have hb2 : Below w1.heap.size w1 w2 := by rw [hw2]; exact (balloc w1 _).alloc (by simp) _
  have hB1 : Below w0.heap.size w0 w2 := bcat2 hb1 hb2
  have hF1 : Blk w2 (w1.heap.size + 1) 27 [.int .i64 0, .int .i64 0] := by
    rw [hw2]
    have := blk0 (w := w1.alloc (.cells #[.int .i64 n, (.slice va vl vc), .int .i64 e, (.slice ia il ic)] 50)) (T := 27) (.int .i64 0) (.int .i64 0)
    rwa [World.size_alloc] at this
  have hH2 : Blk w2 w1.heap.size 50 [.int .i64 n, (.slice va vl vc), .int .i64 e, (.slice ia il ic)] := by
    rw [hw2]; exact (blk4 _ _ _ _).alloc _
  have hBw2 := bcat BG.bel hB1 BG.bel.size
  have hR2 := blk_below BG.res hB1
  have hT2 := hT.below hBw2
  have hGA2 : GA w2 n (.slice va vl vc) e (.slice ia il ic) zs := ⟨hg, hv.below hBw2, (hSI.below hb2).sl⟩
  obtain ⟨t0, t1, _, _⟩ := hF1.two
  obtain ⟨_, h0, h1, h2, h3, _⟩ := Four.mk' hH2
  have hx2 := blk_below BG.box hB1
  have HZ1 := hide (Nat.le_trans HZ0.out hb1.size)
  have HZ2 := hide hb2.size
  rw [hw2] at t0 t1 h0 h1 h2 h3
  go_wp2_with fail
  rw [← hw2]
  clear hw2 t0 t1 h0 h1 h2 h3
  refine (made_ok n _ _ zs e (pset l0) p w2 hGA2 hT2 hp).mono ?_
  rintro x w3 ⟨rfl, hb3⟩
  have hB5 := bcat hBw2 hb3 hBw2.size
  obtain ⟨_, y0, y1, fy0, fy1, s0, s1⟩ := Two.mk' (blk_below hR2 hb3)
  have HE := hide heq
  clear heq
  by_cases hb : bs p n = bs (pset l0) n
  · rw [hb] at HE ⊢
    go_wp2
    exact bodyPost_ret (v := .tuple #[.bool true, .agg #[.int .i64 0, .int .i64 0]]) (by simp [results, Tryd.results87, go_sem, y0, y1]) rfl ⟨by rw [HE.out]; simp, hB5⟩
  · have hbi : ¬ ((bs p n : Nat) : Int) = ((bs (pset l0) n : Nat) : Int) := by omega
    rw [decide_eq_false hb] at HE
    go_wp2
    exact bodyPost_ret (v := .tuple #[.bool false, .agg #[.int .i64 0, .int .i64 0]]) (by simp [results, Tryd.results87, go_sem, y0, y1, hbi]) rfl ⟨by rw [HE.out], hB5⟩
set_option maxRecDepth 100000 in
set_option maxHeartbeats 1000000 in
theorem cprd_ok (n : Nat) (v : Value) (zs : List Int) (a b : Nat) (w : World) (ht : IsTab n zs) (hv : Sl w v zs) (ha : a < n) (hb : b < n) :
    Calls Tryd.prog 141 #[.agg #[.int .i64 n, v], .int .i64 a, .int .i64 b] w fun e w' => e = .returned (.int .i64 (tm n zs a b)) ∧ Below w.heap.size w w' := by
  have hlt := place_lt ha hb
  have hle := ht.le
  have hlen := ht.len
  have hn2 : n * n ≤ 60 * 60 := Nat.mul_le_mul hle hle
  have hg := tm_get ht ha hb
  have han : a * n ≤ 60 * 60 := Nat.mul_le_mul (by omega) (by omega)
  have hB0 : Below w.heap.size w (w.alloc (.cells #[.int .i64 n, v] 24)) := balloc w _
  have N0 : Blk (w.alloc (.cells #[.int .i64 n, v] 24)) w.heap.size 24 [.int .i64 n, v] := blk0 _ _
  obtain ⟨x, cap, pb, po, rfl, hr, hp, hq3, hq4⟩ := hv.below hB0
  obtain rfl := hr.at_ (by omega)
  have hc := hr.cell (a * n + b) (by omega)
  rw [hg] at hc
  obtain ⟨c0, c1, _, _⟩ := N0.two
  have hi : ((a * n + b : Nat) : Int) < (zs.length : Int) := by omega
  have hm : ((a : Int) * (n : Int)) = ((a * n : Nat) : Int) := by rw [Int.natCast_mul]
  have HLEN := hide hlen
  have HB0 := hide hB0
  generalize hk : a * n = k at *
  generalize tm n zs a b = r at *
  clear hlen hB0 hg hn2 hk
  go_enter Tryd.func141, Tryd.ntmps141
  go_wp2
  go_ret
  exact ⟨rfl, HB0.out⟩
set_option maxRecDepth 100000 in
set_option maxHeartbeats 4000000 in
theorem rgt_ok (n : Nat) (v lv : Value) (zs : List Int) (xs : List Nat) (a : Nat) (w : World) (ht : IsTab n zs) (hv : Sl w v zs) (hs : Sl w lv (li xs)) (hx : ∀ x, x ∈ xs → x < n) (ha : a < n) :
    Calls Tryd.prog 136 #[.agg #[.int .i64 n, v], lv, .int .i64 a] w fun e w' => e = .returned (.int .u64 (bs (rgtq n zs xs a) n)) ∧ Below w.heap.size w w' := by
  have hn := ht.le
  have hB0 : Below w.heap.size w (w.alloc (.cells #[.int .i64 n, v] 24)) := balloc w _
  have hX0 : BoxG (w.alloc (.cells #[.int .i64 n, v] 24)) w.heap.size n v := blk0 _ _
  have hv0 := hv.below hB0
  obtain ⟨ra, rc, pb, po, rfl, hr, hp, hq3, hq4⟩ := hs.below hB0
  have hml : xs.length ≤ 9223372036854775807 := by rw [li_len] at hq3; unfold maxLen at hq4; omega
  rw [li_len] at hq3 ⊢
  have HM := hide hx
  have HR := hide hr
  have HLL := hide (li_len xs)
  clear hr hq4 hx hs
  go_enter Tryd.func136, Tryd.ntmps136
  go_wp2
  generalize w.alloc (.cells #[.int .i64 n, v] 24) = w1 at *
  go_loopw [7, 12] (fun s i wr => ∃ k : Nat, k ≤ xs.length ∧ i = .int .i64 k ∧ s = .int .u64 (bs (rgtq n zs (xs.take k) a) n) ∧ Below w1.heap.size w1 wr) (fun _ i _ => xs.length - (intOf i).toNat)
  case atStart => exact ⟨0, Nat.zero_le _, rfl, by rw [List.take_zero, show bs (rgtq n zs [] a) n = 0 from bs_none n]; rfl, Below.refl _ _⟩
  case round =>
    obtain ⟨k, hk, rfl, rfl, hB⟩ := hrel
    by_cases hlt : k < xs.length
    · have hck := (HR.out.below hB hp).cell k (by rw [HLL.out]; exact hlt)
      rw [li_get hlt] at hck
      obtain rfl := HR.out.at_ (by rw [HLL.out]; omega)
      obtain ⟨x, hxe⟩ : ∃ x, xs[k] = x := ⟨_, rfl⟩
      have hxn : x < n := by rw [← hxe]; exact HM.out _ (List.getElem_mem hlt)
      have hsn : xs.take (k + 1) = xs.take k ++ [x] := by rw [List.take_succ_eq_append_getElem hlt, hxe]
      rw [hxe] at hck
      have hki : (k : Int) < (xs.length : Int) := by omega
      have hct : tm n zs x a < n := tm_lt ht hxn ha
      have hor := bs_put (n := n) (t := tm n zs x a) (p := rgtq n zs (xs.take k) a) (q := rgtq n zs (xs.take (k + 1)) a) hn (fun z => by
        unfold rgtq
        rw [hsn, List.any_append]
        simp only [List.any_cons, List.any_nil, Bool.or_false]
        congr 1
        rw [Bool.eq_iff_iff, decide_eq_true_eq, decide_eq_true_eq]
        exact eq_comm)
      have HCM := hide (cprd_ok n v zs x a wr ht (hv0.below hB) hxn ha)
      have HOF := hide (fun W b (h : W.cell? ⟨b, 0, none⟩ = some (.int .i64 (tm n zs x a))) => of_one n b (tm n zs x a) W hn hct h)
      obtain ⟨g0, g1, _, _⟩ := (blk_below hX0 hB).two
      generalize tm n zs x a = t at *
      generalize bs (fun z => decide (z = t)) n = T9 at *
      clear hsn hxe
      go_wp2_with fail
      refine HCM.out.mono ?_
      rintro x9 w7 ⟨rfl, hb7⟩
      have hB8 := bcat2 hB (bcat2 hb7 (balloc w7 (.cells #[.int .i64 t] 3)))
      clear g0 g1
      go_wp2_with fail
      refine (HOF.out _ _ (cell1 _ _ _)).mono ?_
      rintro x9 w8 ⟨rfl, rfl⟩
      go_wp2
      go_roundw
      case rel => exact ⟨k + 1, by omega, by go_num, rfl, hB8⟩
      case measure => simp [intOf]; omega
    · have hkn : k = xs.length := by omega
      subst hkn
      rw [List.take_length]
      go_wp2
      go_ret
      exact ⟨rfl, bcat2 hB0 hB⟩
theorem call109 (a : Int) (x y : Value) (W : World) : Sem.run Tryd.prog (callFunc 135 (#[.int .i64 a] ++ #[x, y])) W = .ok (.enter 135 (#[.int .i64 a] ++ #[x, y])) W := by kernel_rfl
set_option maxRecDepth 100000 in
set_option maxHeartbeats 4000000 in
theorem rgt1_ok (n : Nat) (v lv : Value) (zs : List Int) (xs : List Nat) (a gb lb : Nat) (w : World) (ht : IsTab n zs) (hv : Sl w v zs) (hs : Sl w lv (li xs)) (hx : ∀ x, x ∈ xs → x < n) (ha : a < n) (hX : BoxG w gb n v) (hL : Boxed w lb 22 lv) :
    Calls Tryd.prog 135 (#[.int .i64 a] ++ #[.pointer (some ⟨gb, 0, none⟩), .pointer (some ⟨lb, 0, none⟩)]) w fun e w' => e = .returned (.int .u64 (bs (rgtq n zs xs a) n)) ∧ Below w.heap.size w w' := by
  show Calls Tryd.prog 135 #[.int .i64 a, .pointer (some ⟨gb, 0, none⟩), .pointer (some ⟨lb, 0, none⟩)] w _
  obtain ⟨c0, c1, _, _⟩ := hX.two
  have c2 := hL.cell
  go_enter Tryd.func135, Tryd.ntmps135
  go_wp2_with fail
  refine (rgt_ok n v lv zs xs a w ht hv hs hx ha).mono ?_
  rintro x w1 ⟨rfl, hb1⟩
  go_wp2
  go_ret
  exact ⟨rfl, hb1⟩
theorem und95 : Tryd.prog.underlying 138 = some (.map 52 3) := by kernel_rfl
set_option maxRecDepth 100000 in
set_option maxHeartbeats 8000000 in
theorem parts_ok (n k : Nat) (caps : Array Value) (f : Nat → Nat → Bool) (w : World) (hn : n ≤ 60) (hT : Tab w)
    (hcall : ∀ a W, Sem.run Tryd.prog (callFunc k (#[.int .i64 a] ++ caps)) W = .ok (.enter k (#[.int .i64 a] ++ caps)) W)
    (hp : ∀ (W : World) (a : Nat), Below w.heap.size w W → a < n → Calls Tryd.prog k (#[.int .i64 a] ++ caps) W fun e w' => e = .returned (.int .u64 (bs (f a) n)) ∧ Below W.heap.size W w') :
    Calls Tryd.prog 134 #[.int .i64 n, .func (.func k) #[] caps] w fun x w' => ∃ r vs D, x = .returned (.tuple #[r, .map (some w.heap.size)]) ∧ w'.ownsRow (w.heap.size + 1) 22 1 r vs.length vs ∧ Lsts w' (w.heap.size + 1) r vs (csl n f n) ∧ w'.ownsMap Tryd.prog 52 (plainElem Tryd.prog 3) w.heap.size n D ∧ MInv n f n D ∧ Below w.heap.size w w' := by
  obtain ⟨i0, hi, hz0, hz1, hz2⟩ := info_parts info22b
  have hmm := @run_makeMap Tryd.prog
  have HP := hide hp
  clear hp
  go_enter Tryd.func134, Tryd.ntmps134
  go_wp2
  clear hmm
  go_loopw [6, 14] (fun r i wr => ∃ (j : Nat) (vs : List Value) (D : DataW Unit), j ≤ n ∧ i = .int .i64 j ∧ wr.ownsRow (w.heap.size + 1) 22 1 r vs.length vs ∧ Lsts wr (w.heap.size + 1) r vs (csl n f j) ∧ wr.ownsMap Tryd.prog 52 (plainElem Tryd.prog 3) w.heap.size j D ∧ MInv n f j D ∧ Below w.heap.size w wr) (fun _ i _ => n - (intOf i).toNat)
  case atStart => exact ⟨0, [], .map [], Nat.zero_le _, rfl, World.ownsRow_nil _ _ _ _, ⟨rfl, fun t x l h => by simp at h⟩, World.ownsMap_made _ _ _ _, fun s => ⟨fun h => by simp [Maps.has] at h, fun ⟨a, h, _⟩ => by omega⟩, balloc w _⟩
  case round =>
    obtain ⟨j, vs, D, hj, rfl, hrow, hls, hmap, hM, hB⟩ := hrel
    obtain ⟨ra, rcap, rfl⟩ := own_slice' hrow
    by_cases hlt : j < n
    · have hji : (j : Int) < (n : Int) := by omega
      go_wp2_with fail
      refine (HP.out wr j hB hlt).mono ?_
      rintro e1 w1 ⟨rfl, hb1⟩
      have hB1 := bcat2 hB hb1
      have hmap1 := hmap.kept (below_grown hb1 none) (by simp)
      have hrow1 := hrow.kept (below_grown hb1 none) (by cases ra <;> simp [Value.ownBlock])
      have hls1 : Lsts w1 (w.heap.size + 1) (.slice ra vs.length rcap) vs (csl n f j) := hls.keep hb1.size (fun g _ h2 _ => hb1.block g h2) (.inl rfl)
      have hkw : (Lit.int .u64 (bs (f j) n : Nat)).wf = true := WalkArith.wf_u64 (by have := bs_64 (p := f j) hn; omega)
      have hkey := keyOf_int_mk und77 hkw
      have hvl : vs.length ≤ j := by rw [hls.1]; unfold csl; rw [List.length_map]; exact fsts_len n f j
      have hs1 : w.heap.size < w1.heap.size := Nat.lt_of_lt_of_le hmap.lt hb1.size
      clear hrow hls hmap hB hb1
      cases hh : Maps.has D (.int .u64 (bs (f j) n : Nat)) with
      | false =>
        have HST := hide (show csl n f (j + 1) = csl n f j ++ [li (lst n (f j))] by
          unfold csl
          rw [fsts_succ, if_pos ((minv_new hM).1 hh), List.map_append]; rfl)
        have HMV := hide (fun d => minv_step (d := d) hM (map_is hmap1))
        go_wp2_with (first
          | (at_lookup; refine wpList_lookup_own_ok_int _ rfl _ _ 138 rfl 52 3 .i64 law77 und95 und3' (zero3 _) w.heap.size _ D rfl hmap1 _ _ rfl hkey ?_; intro c hat hwc; rw [hh])
          | (at_mapUpdate; refine wpList_mapUpdate_own _ rfl _ _ _ 138 rfl 52 3 law77 und95 _ w.heap.size _ D rfl hmap1 (by unfold maxLen; omega) _ _ _ rfl rfl hkey _ [] (plainElem_int und3' (WalkArith.wf_i64 (by omega))) ?_; intro w2 hmap2 hgrow2))
        have hB2 := hB1.grown hgrow2 hB1.size (fun k hk => by cases hk; exact Nat.le_refl _)
        have hrow2 := hrow1.kept hgrow2 (by
          by_cases h9 : (Value.slice ra vs.length rcap).ownBlock = some w.heap.size
          · have := owns_ge hrow1 _ h9; omega
          · exact .inr h9)
        have hls2 : Lsts w2 (w.heap.size + 1) (.slice ra vs.length rcap) vs (csl n f j) := hls1.keep hgrow2.size (fun g h1 h2 _ => hgrow2.block g h2 (by simp; omega)) (.inl rfl)
        have hs2 : w.heap.size < w2.heap.size := Nat.lt_of_lt_of_le hs1 hgrow2.size
        clear hrow1 hls1 hmap1 hB1 hgrow2
        refine (list_ok n (f j) w2 hn (hT.below hB2)).mono ?_
        rintro e3 w3 ⟨r9, rfl, hr9, hb3⟩
        have hB3 := bcat2 hB2 hb3
        have hrow3 := hrow2.kept (below_grown hb3 none) (by cases ra <;> simp [Value.ownBlock])
        have hls3 : Lsts w3 (w.heap.size + 1) (.slice ra vs.length rcap) vs (csl n f j) := hls2.keep hb3.size (fun g _ h2 _ => hb3.block g h2) (.inl rfl)
        have hmap3 := hmap2.kept (below_grown hb3 none) (by simp)
        have hown2 : ∀ g, (Value.slice ra vs.length rcap).ownBlock = some g → g < w2.heap.size := fun g hg => by
          rcases hrow2.2 with ⟨h1, _⟩ | ⟨g', cap, cur, h1, _, hh9, _⟩
          · rw [h1] at hg; simp [Value.ownBlock] at hg
          · rw [h1] at hg
            simp [Value.ownBlock] at hg
            subst hg
            exact (Array.getElem?_eq_some_iff.1 hh9).1
        obtain ⟨qa, qcap, qb, qo, rfl, hq, hq1, hq2, hq3, hq4⟩ := hr9
        have hs3 := hb3.size
        have HQ := hide hq
        clear hrow2 hls2 hmap2 hB2 hb3 hq
        generalize li (lst n (f j)) = lj at *
        go_wp2_with (first
          | (at_builtin; refine wpList_append_own_at _ rfl _ _ 33 rfl (w.heap.size + 1) 22 i0 (.slice none 0 0) 1 24 under25b hi hz0 hz1 hz2 rfl (by decide) _ _ _ rfl (World.ownsRow.alloc hrow3 _) ⟨w3.heap.size, 0, none⟩ 1 1 [.slice qa lj.length qcap] rfl rfl ?c1 ?c2 ?c3 ?c4 ?c5 ?_))
        case c1 => exact cell_one_new _ _ _
        case c2 => simp [Value.oneCell']
        case c3 => unfold maxLen; omega
        case c4 => omega
        case c5 => simp; omega
        intro v' w4 hown' hgrow hnil hloc
        obtain ⟨ra', rcap', rfl⟩ := own_slice' hown'
        have hB4 : Below w.heap.size w w4 := (hB3.alloc hB3.size _).grown hgrow (by simp; omega) (fun t e => by have := owns_ge hrow3 t e; omega)
        have hmap4 := (hmap3.kept (World.grownBy_alloc w3 _ none) (by simp)).kept hgrow (fun e => by have := owns_ge hrow3 _ e.symm; omega)
        have hbl : ∀ g, g < w3.heap.size → (Value.slice ra vs.length rcap).ownBlock ≠ some g → w4.heap[g]? = w3.heap[g]? := fun g h1 h2 => (hgrow.block g (by simp; omega) (fun e => h2 e.symm)).trans (Below.block (balloc w3 _) g h1)
        have hs4 : w3.heap.size < w4.heap.size := by have := hgrow.size; simp at this; omega
        have hlo : (Value.slice ra' (vs.length + 1) rcap').ownBlock = (Value.slice ra vs.length rcap).ownBlock ∨ ∀ g, (Value.slice ra' (vs.length + 1) rcap').ownBlock = some g → w3.heap.size ≤ g := by
          rcases hloc with h | h
          · exact .inl h
          · right; intro g hg; rw [h] at hg; simp at hg; omega
        have hls4 := (hls3.keep (r' := .slice ra' (vs.length + 1) rcap') (by omega) (fun g _ h2 h3 => hbl g h2 h3) hlo).snoc (x := .slice qa lj.length qcap) (l := lj) ⟨qa, qcap, qb, qo, rfl, HQ.out.of_eq (hbl qb hq1 (fun e => by have := hown2 _ e; omega)), by omega, hq2, hq3, by omega, fun g hg e => by
          subst e
          rcases hlo with h | h
          · have := hown2 _ (h ▸ hg); omega
          · have := h _ hg; omega⟩
        have hrow4 : w4.ownsRow (w.heap.size + 1) 22 1 (.slice ra' (vs.length + 1) rcap') (vs ++ [Value.slice qa lj.length qcap]).length (vs ++ [Value.slice qa lj.length qcap]) := by simpa using hown'
        clear hown' hgrow hloc hlo hbl hrow3 hls3 hmap3 hB3
        go_wp2
        go_roundw
        case rel => exact ⟨j + 1, _, _, by omega, by go_num, hrow4, by rw [HST.out]; exact hls4, hmap4, HMV.out _, hB4⟩
        case measure => simp [intOf]; omega
      | true =>
        have HST := hide (show csl n f (j + 1) = csl n f j by
          unfold csl
          rw [fsts_succ, if_neg (by rw [← minv_new hM, hh]; simp)])
        have HMV := hide (minv_same hM hh)
        go_wp2_with (first
          | (at_lookup; refine wpList_lookup_own_ok_int _ rfl _ _ 138 rfl 52 3 .i64 law77 und95 und3' (zero3 _) w.heap.size _ D rfl hmap1 _ _ rfl hkey ?_; intro c hat hwc; rw [hh]))
        go_roundw
        case rel => exact ⟨j + 1, vs, D, by omega, by go_num, hrow1, by rw [HST.out]; exact hls1, map_more hmap1, HMV.out, hB1⟩
        case measure => simp [intOf]; omega
    · have hjn : j = n := by omega
      subst hjn
      go_wp2
      exact bodyPost_ret (v := .tuple #[.slice ra vs.length rcap, .map (some w.heap.size)]) (by simp [results, Tryd.results134, go_sem]) rfl ⟨_, vs, D, rfl, hrow, hls, hmap, hM, hB⟩
theorem is_any (N : Int) (v u : Value) (zs l : List Int) (w : World) (hv : Sl w v zs) (hu : Sl w u l) (hT : Tab w) : ∃ b c i, Calls Tryd.prog 87 #[.agg #[.int .i64 N, v], u] w (fun x w' => x = .returned (.tuple #[.bool b, .agg #[.int .i64 c, .int .i64 i]]) ∧ Below w.heap.size w w') ∧ ((c ≠ 0 ∧ ufault N zs l = (c, i)) ∨ (c = 0 ∧ i = 0 ∧ b = false ∧ ufault N zs l = (7, 0)) ∨ (c = 0 ∧ i = 0 ∧ b = true ∧ ufault N zs l = (0, 0))) := by
  by_cases hs : (sfault N zs l).1 = 0
  · obtain ⟨n, e, rfl, hg, hl, _⟩ := sfault_zero hs
    have h := is_good n e v u zs l w hv hg hu hT hl
    have hf := ufault_u hg hl
    cases hb : subT n zs e (pset l)
    · rw [hb] at h hf; exact ⟨false, 0, 0, h, .inr (.inl ⟨rfl, rfl, rfl, hf⟩)⟩
    · rw [hb] at h hf; exact ⟨true, 0, 0, h, .inr (.inr ⟨rfl, rfl, rfl, hf⟩)⟩
  · exact ⟨false, _, _, is_bad N v u zs l w hv hu hs, .inl ⟨hs, ufault_s hs⟩⟩
set_option maxRecDepth 100000 in
set_option maxHeartbeats 8000000 in
theorem wrong_ok (N : Int) (v : Value) (zs : List Int) (b cap : Nat) (ls : List (List Int)) (w : World) (hv : Sl w v zs) (hT : Tab w) (hlen : ls.length ≤ 2)
    (hc : ∀ t, t < ls.length → ∃ x, w.cell? ⟨b, t, none⟩ = some x ∧ Sl w x (ls[t]?.getD [])) :
    Calls Tryd.prog 133 #[.agg #[.int .i64 N, v], .slice (some ⟨b, 0, none⟩) ls.length cap] w fun x w' => x = .returned (.agg #[.int .i64 (wfault N zs ls).1, .int .i64 (wfault N zs ls).2]) ∧ Below w.heap.size w w' := by
  obtain ⟨w0, BG⟩ := Beg.new w N v
  have HC := hide hc
  clear hc
  go_enter Tryd.func133, Tryd.ntmps133
  go_wp2
  rw [← BG.eq]
  go_loopw [11] (fun i wr => ∃ k : Nat, k ≤ ls.length ∧ i = .int .i64 k ∧ (∀ t, t < k → (ufault N zs (ls[t]?.getD [])).1 = 0) ∧ Below w0.heap.size w0 wr) (fun i _ => ls.length - (intOf i).toNat)
  case atStart => exact ⟨0, Nat.zero_le _, rfl, fun t ht => by omega, Below.refl _ _⟩
  case round =>
    obtain ⟨k, hk, rfl, hno, hB⟩ := hrel
    have HNO := hide hno
    clear hno
    have hBw := bcat BG.bel hB BG.bel.size
    have hX := blk_below BG.box hB
    have hR := blk_below BG.res hB
    have HS1 := hide hR.lt
    by_cases hlt : k < ls.length
    · obtain ⟨x, hcx, hsx⟩ := HC.out k hlt
      obtain ⟨x1, x2, x3, rfl⟩ := hsx.isSlice
      obtain ⟨bq, c, i, HI, hor⟩ := is_any N v (.slice x1 x2 x3) zs (ls[k]?.getD []) wr (hv.below hBw) (hsx.below hBw) (hT.below hBw)
      have HI := hide HI
      have hcx := below_cell hBw hcx
      have hki : (k : Int) < (ls.length : Int) := by omega
      obtain ⟨c0, c1, _, _⟩ := hX.two
      go_wp2_with fail
      refine HI.out.mono ?_
      rintro e1 w1 ⟨rfl, hb1⟩
      clear c0 c1 hcx hsx
      have hb2 := bcat2 hb1 (balloc w1 (.cells #[.int .i64 c, .int .i64 i] 27))
      have hF2 := blk0 (w := w1) (T := 27) (.int .i64 c) (.int .i64 i)
      have hB2 := bcat2 hB hb2
      have hBw2 := bcat BG.bel hB2 BG.bel.size
      have hR2 := blk_below hR hb2
      obtain ⟨f0, f1, _, _⟩ := hF2.two
      obtain ⟨y0, y1, fy0, fy1⟩ := hR2.two
      rcases hor with ⟨hc0, hu⟩ | ⟨rfl, rfl, rfl, hu⟩ | ⟨rfl, rfl, rfl, hu⟩
      · have HD := hide (show wfault N zs ls = (c, i) by rw [← hu]; exact wfault_at HNO.out hlt (by rw [hu]; exact hc0))
        have hcb : (c != 0) = true := by simpa using hc0
        obtain ⟨hR6, hB6⟩ := put2 hR2 hBw2 (by omega) c i
        go_wp2
        generalize ((w1.alloc (.cells #[.int .i64 c, .int .i64 i] 27)).setCell ⟨w.heap.size + 1, 0, none⟩ (.int .i64 c)).setCell ⟨w.heap.size + 1, 1, none⟩ (.int .i64 i) = W at hR6 hB6 ⊢
        obtain ⟨z0, z1, _, _⟩ := hR6.two
        rw [HD.out]
        exact bodyPost_ret (v := .agg #[.int .i64 c, .int .i64 i]) (by simp [results, Tryd.results133, go_sem, z0, z1]) rfl ⟨rfl, hB6⟩
      · have HD := hide (show wfault N zs ls = (7, 0) by rw [← hu]; exact wfault_at HNO.out hlt (by rw [hu]; decide))
        obtain ⟨hR6, hB6⟩ := put2 hR2 hBw2 (by omega) 7 0
        go_wp2
        generalize ((w1.alloc (.cells #[.int .i64 0, .int .i64 0] 27)).setCell ⟨w.heap.size + 1, 0, none⟩ (.int .i64 7)).setCell ⟨w.heap.size + 1, 1, none⟩ (.int .i64 0) = W at hR6 hB6 ⊢
        obtain ⟨z0, z1, _, _⟩ := hR6.two
        rw [HD.out]
        exact bodyPost_ret (v := .agg #[.int .i64 7, .int .i64 0]) (by simp [results, Tryd.results133, go_sem, z0, z1]) rfl ⟨rfl, hB6⟩
      · go_wp2
        go_roundw
        case rel => exact ⟨k + 1, by omega, by go_num, fun t ht => by
          by_cases e9 : t = k
          · subst e9; rw [hu]
          · exact HNO.out t (by omega), hB2⟩
        case measure => simp [intOf]; omega
    · have HD := hide (show wfault N zs ls = (0, 0) from wfault_ok fun t ht => HNO.out t (by omega))
      obtain ⟨y0, y1, fy0, fy1⟩ := hR.two
      obtain ⟨hR6, hB6⟩ := put2 hR hBw (by omega) 0 0
      go_wp2
      generalize (wr.setCell ⟨w.heap.size + 1, 0, none⟩ (.int .i64 0)).setCell ⟨w.heap.size + 1, 1, none⟩ (.int .i64 0) = W at hR6 hB6 ⊢
      obtain ⟨z0, z1, _, _⟩ := hR6.two
      rw [HD.out]
      exact bodyPost_ret (v := .agg #[.int .i64 0, .int .i64 0]) (by simp [results, Tryd.results133, go_sem, z0, z1]) rfl ⟨rfl, hB6⟩
set_option maxRecDepth 100000 in
set_option maxHeartbeats 1000000 in
theorem rgt_bad (N : Int) (v u : Value) (zs l : List Int) (w : World) (hv : Sl w v zs) (hu : Sl w u l) (hT : Tab w) (hc : (ufault N zs l).1 ≠ 0) :
    Calls Tryd.prog 116 #[.agg #[.int .i64 N, v], u] w fun x w' => x = .returned (.tuple #[.slice none 0 0, .agg #[.int .i64 (ufault N zs l).1, .int .i64 (ufault N zs l).2]]) ∧ Below w.heap.size w w' := by
  obtain ⟨u1, u2, u3, rfl⟩ := hu.isSlice
  obtain ⟨w0, BG⟩ := Beg3.new w N v (.slice u1 u2 u3)
  have hu0 := (hu.below BG.bel).alloc (.cells #[.slice u1 u2 u3] 22)
  have hv0 := (hv.below BG.bel).alloc (.cells #[.slice u1 u2 u3] 22)
  have hT0 := (hT.below BG.bel).below (balloc w0 (.cells #[.slice u1 u2 u3] 22))
  have HW := hide (wrong_ok N v zs w0.heap.size 1 [l] (w0.alloc (.cells #[.slice u1 u2 u3] 22)) hv0 hT0 (by simp) (fun t ht => by
    have : t = 0 := by simp at ht; omega
    subst this
    exact ⟨_, cell1 _ _ _, hu0⟩))
  have hs0 : w0.heap.size = w.heap.size + 1 + 1 + 1 := by rw [BG.eq]; simp
  rw [hs0, show [l].length = 1 from rfl, wfault_one] at HW
  obtain ⟨c0, c1, _, _⟩ := BG.box.two
  have c2 := BG.lis.cell
  rw [BG.eq] at c0 c1 c2
  obtain ⟨c, i, hci⟩ : ∃ c i, ufault N zs l = (c, i) := ⟨_, _, rfl⟩
  rw [hci] at HW hc ⊢
  simp only at HW hc ⊢
  clear hci
  have hcb : (c != 0) = true := by simpa using hc
  go_enter Tryd.func116, Tryd.ntmps116
  go_wp2_with fail
  rw [← BG.eq]
  clear c0 c1 c2
  refine HW.out.mono ?_
  rintro x w1 ⟨rfl, hb1⟩
  have hb1 := bcat2 (balloc w0 (.cells #[.slice u1 u2 u3] 22)) hb1
  have hb2 := bcat2 hb1 (balloc w1 (.cells #[.int .i64 c, .int .i64 i] 27))
  have hF2 := blk0 (w := w1) (T := 27) (.int .i64 c) (.int .i64 i)
  have hBw := bcat BG.bel hb2 BG.bel.size
  have hR2 := blk_below BG.res hb2
  obtain ⟨t0, t1, _, _⟩ := hF2.two
  obtain ⟨y0, y1, fy0, fy1⟩ := hR2.two
  obtain ⟨hR6, hB6⟩ := put2 hR2 hBw (by omega) c i
  go_wp2_with fail
  go_region
  all_goals (
    go_wp2
    obtain ⟨z0, z1, _, _⟩ := hR6.two
    exact bodyPost_ret (v := .tuple #[.slice none 0 0, .agg #[.int .i64 c, .int .i64 i]]) (by simp [results, Tryd.results116, go_sem, z0, z1]) rfl ⟨rfl, bdrew hB6⟩)
set_option maxRecDepth 100000 in
set_option maxHeartbeats 1000000 in
theorem rgt_good (n e : Nat) (v u : Value) (zs l : List Int) (w : World) (hv : Sl w v zs) (hg : IsGrp n zs e) (hu : Sl w u l) (hT : Tab w) (hl : lfault n l = (0, 0)) (hsb : subT n zs e (pset l) = true) :
    Calls Tryd.prog 116 #[.agg #[.int .i64 n, v], u] w fun x w' => ∃ r vs, x = .returned (.tuple #[r, .agg #[.int .i64 0, .int .i64 0]]) ∧ w'.ownsRow w.heap.size 22 1 r vs.length vs ∧ Lsts w' w.heap.size r vs (csl n (rgtq n zs (lst n (pset l))) n) ∧ Below w.heap.size w w' := by
  obtain ⟨u1, u2, u3, rfl⟩ := hu.isSlice
  obtain ⟨w0, BG⟩ := Beg3.new w n v (.slice u1 u2 u3)
  have hu0 := (hu.below BG.bel).alloc (.cells #[.slice u1 u2 u3] 22)
  have hv0 := (hv.below BG.bel).alloc (.cells #[.slice u1 u2 u3] 22)
  have hT0 := (hT.below BG.bel).below (balloc w0 (.cells #[.slice u1 u2 u3] 22))
  have HW := hide (wrong_ok n v zs w0.heap.size 1 [l] (w0.alloc (.cells #[.slice u1 u2 u3] 22)) hv0 hT0 (by simp) (fun t ht => by
    have : t = 0 := by simp at ht; omega
    subst this
    exact ⟨_, cell1 _ _ _, hu0⟩))
  have hs0 : w0.heap.size = w.heap.size + 1 + 1 + 1 := by rw [BG.eq]; simp
  rw [hs0, show [l].length = 1 from rfl, wfault_one] at HW
  obtain ⟨c0, c1, _, _⟩ := BG.box.two
  have c2 := BG.lis.cell
  rw [BG.eq] at c0 c1 c2
  rw [show ufault n zs l = (0, 0) by rw [ufault_u hg hl, if_pos hsb]] at HW
  simp only at HW
  have hli := set_lst (show (lfault n l).1 = 0 by rw [hl])
  have hu9 : Sl w (.slice u1 u2 u3) (li (lst n (pset l))) := by rw [← hli]; exact hu
  have hxm : ∀ x, x ∈ lst n (pset l) → x < n := fun x hx => (mem_lst.1 hx).1
  go_enter Tryd.func116, Tryd.ntmps116
  go_wp2_with fail
  rw [← BG.eq]
  clear c0 c1 c2
  refine HW.out.mono ?_
  rintro x w1 ⟨rfl, hb1⟩
  have hb1 := bcat2 (balloc w0 (.cells #[.slice u1 u2 u3] 22)) hb1
  have hb2 := bcat2 hb1 (balloc w1 (.cells #[.int .i64 0, .int .i64 0] 27))
  have hF2 := blk0 (w := w1) (T := 27) (.int .i64 0) (.int .i64 0)
  have hBw := bcat BG.bel hb2 BG.bel.size
  have hX2 := blk_below BG.box hb2
  have hL2 := Boxed.below BG.lis hb2
  have hR2 := blk_below BG.res hb2
  obtain ⟨t0, t1, _, _⟩ := hF2.two
  obtain ⟨c0, c1, _, _⟩ := hX2.two
  go_wp2_with fail
  generalize w1.alloc (.cells #[.int .i64 0, .int .i64 0] 27) = w2 at *
  clear t0 t1 c0 c1
  refine (parts_ok n 135 #[.pointer (some ⟨w.heap.size, 0, none⟩), .pointer (some ⟨w.heap.size + 1, 0, none⟩)] (rgtq n zs (lst n (pset l))) w2 hg.tab.le (hT.below hBw) (fun a W => call109 a _ _ W) (fun W a hW ha => rgt1_ok n v (.slice u1 u2 u3) zs (lst n (pset l)) a w.heap.size (w.heap.size + 1) W hg.tab ((hv.below hBw).below hW) ((hu9.below hBw).below hW) hxm ha (blk_below hX2 hW) (Boxed.below hL2 hW))).mono ?_
  rintro x w3 ⟨r, vs, D, rfl, hrow, hls, _, _, hb3⟩
  obtain ⟨ra, rcap, rfl⟩ := own_slice' hrow
  have hlt2 := hR2.lt
  have hB3 := bcat2 hBw hb3
  have hR3 := blk_below hR2 hb3
  obtain ⟨y0, y1, fy0, fy1⟩ := hR3.two
  obtain ⟨hR6, hB6⟩ := put2 hR3 hB3 (by omega) 0 0
  have hk6 : ∀ g, w2.heap.size + 1 ≤ g → g < w3.heap.size → ((w3.setCell ⟨w.heap.size + 1 + 1, 0, none⟩ (.int .i64 0)).setCell ⟨w.heap.size + 1 + 1, 1, none⟩ (.int .i64 0)).heap[g]? = w3.heap[g]? := fun g h1 _ => (Below.heap_setCell _ _ _ g (by simp; omega)).trans (Below.heap_setCell _ _ _ g (by simp; omega))
  have hrow6 := own_keep' hrow hk6
  have hls6 := hls.keep (by rw [size_set, size_set]; exact Nat.le_refl _) (fun g h1 h2 _ => hk6 g h1 h2) (.inl rfl)
  have hsz : w.heap.size ≤ w2.heap.size + 1 := by have := hBw.size; omega
  have hrow7 := owns_mono hrow6 hsz
  have hls7 := hls6.mono hsz
  clear hrow hls hrow6 hls6 hk6
  go_wp2
  generalize (w3.setCell ⟨w.heap.size + 1 + 1, 0, none⟩ (.int .i64 0)).setCell ⟨w.heap.size + 1 + 1, 1, none⟩ (.int .i64 0) = W at hR6 hB6 hrow7 hls7 ⊢
  obtain ⟨z0, z1, _, _⟩ := hR6.two
  exact bodyPost_ret (v := .tuple #[.slice ra vs.length rcap, .agg #[.int .i64 0, .int .i64 0]]) (by simp [results, Tryd.results116, go_sem, z0, z1]) rfl ⟨_, vs, rfl, hrow7, hls7, hB6⟩
set_option maxRecDepth 100000 in
set_option maxHeartbeats 8000000 in
theorem parts2_ok (n k : Nat) (caps : Array Value) (f : Nat → Nat → Bool) (w : World) (hn : n ≤ 60) (hT : Tab w)
    (hcall : ∀ a W, Sem.run Tryd.prog (callFunc k (#[.int .i64 a] ++ caps)) W = .ok (.enter k (#[.int .i64 a] ++ caps)) W)
    (hp : ∀ (W : World) (a : Nat), Below w.heap.size w W → a < n → Calls Tryd.prog k (#[.int .i64 a] ++ caps) W fun e w' => e = .returned (.int .u64 (bs (f a) n)) ∧ Below W.heap.size W w') :
    Calls Tryd.prog 134 #[.int .i64 n, .func (.func k) #[] caps] w fun x w' => ∃ r vs D, x = .returned (.tuple #[r, .map (some w.heap.size)]) ∧ w'.ownsRow (w.heap.size + 1) 22 1 r vs.length vs ∧ Lsts w' (w.heap.size + 1) r vs (csl n f n) ∧ w'.ownsMap Tryd.prog 52 (plainElem Tryd.prog 3) w.heap.size n D ∧ MInv n f n D ∧ MNum n f n D ∧ Below w.heap.size w w' := by
  obtain ⟨i0, hi, hz0, hz1, hz2⟩ := info_parts info22b
  have hmm := @run_makeMap Tryd.prog
  have HP := hide hp
  clear hp
  go_enter Tryd.func134, Tryd.ntmps134
  go_wp2
  clear hmm
  go_loopw [6, 14] (fun r i wr => ∃ (j : Nat) (vs : List Value) (D : DataW Unit), j ≤ n ∧ i = .int .i64 j ∧ wr.ownsRow (w.heap.size + 1) 22 1 r vs.length vs ∧ Lsts wr (w.heap.size + 1) r vs (csl n f j) ∧ wr.ownsMap Tryd.prog 52 (plainElem Tryd.prog 3) w.heap.size j D ∧ MInv n f j D ∧ MNum n f j D ∧ Below w.heap.size w wr) (fun _ i _ => n - (intOf i).toNat)
  case atStart => exact ⟨0, [], .map [], Nat.zero_le _, rfl, World.ownsRow_nil _ _ _ _, ⟨rfl, fun t x l h => by simp at h⟩, World.ownsMap_made _ _ _ _, fun s => ⟨fun h => by simp [Maps.has] at h, fun ⟨a, h, _⟩ => by omega⟩, fun a h => by omega, balloc w _⟩
  case round =>
    obtain ⟨j, vs, D, hj, rfl, hrow, hls, hmap, hM, hMN, hB⟩ := hrel
    obtain ⟨ra, rcap, rfl⟩ := own_slice' hrow
    by_cases hlt : j < n
    · have hji : (j : Int) < (n : Int) := by omega
      go_wp2_with fail
      refine (HP.out wr j hB hlt).mono ?_
      rintro e1 w1 ⟨rfl, hb1⟩
      have hB1 := bcat2 hB hb1
      have hmap1 := hmap.kept (below_grown hb1 none) (by simp)
      have hrow1 := hrow.kept (below_grown hb1 none) (by cases ra <;> simp [Value.ownBlock])
      have hls1 : Lsts w1 (w.heap.size + 1) (.slice ra vs.length rcap) vs (csl n f j) := hls.keep hb1.size (fun g _ h2 _ => hb1.block g h2) (.inl rfl)
      have hkw : (Lit.int .u64 (bs (f j) n : Nat)).wf = true := WalkArith.wf_u64 (by have := bs_64 (p := f j) hn; omega)
      have hkey := keyOf_int_mk und77 hkw
      have hvl : vs.length ≤ j := by rw [hls.1]; unfold csl; rw [List.length_map]; exact fsts_len n f j
      have hs1 : w.heap.size < w1.heap.size := Nat.lt_of_lt_of_le hmap.lt hb1.size
      clear hrow hls hmap hB hb1
      cases hh : Maps.has D (.int .u64 (bs (f j) n : Nat)) with
      | false =>
        have HST := hide (show csl n f (j + 1) = csl n f j ++ [li (lst n (f j))] by
          unfold csl
          rw [fsts_succ, if_pos ((minv_new hM).1 hh), List.map_append]; rfl)
        have HMV := hide (fun d => minv_step (d := d) hM (map_is hmap1))
        have HNV := hide (mnum_step hMN (map_is hmap1) hlt ((minv_new hM).1 hh))
        have HVL2 := hide (show vs.length = (fsts n f j).length by rw [hls1.1, csl_len])
        go_wp2_with (first
          | (at_lookup; refine wpList_lookup_own_ok_int _ rfl _ _ 138 rfl 52 3 .i64 law77 und95 und3' (zero3 _) w.heap.size _ D rfl hmap1 _ _ rfl hkey ?_; intro c hat hwc; rw [hh])
          | (at_mapUpdate; refine wpList_mapUpdate_own _ rfl _ _ _ 138 rfl 52 3 law77 und95 _ w.heap.size _ D rfl hmap1 (by unfold maxLen; omega) _ _ _ rfl rfl hkey _ [] (plainElem_int und3' (WalkArith.wf_i64 (by omega))) ?_; intro w2 hmap2 hgrow2))
        have hB2 := hB1.grown hgrow2 hB1.size (fun k hk => by cases hk; exact Nat.le_refl _)
        have hrow2 := hrow1.kept hgrow2 (by
          by_cases h9 : (Value.slice ra vs.length rcap).ownBlock = some w.heap.size
          · have := owns_ge hrow1 _ h9; omega
          · exact .inr h9)
        have hls2 : Lsts w2 (w.heap.size + 1) (.slice ra vs.length rcap) vs (csl n f j) := hls1.keep hgrow2.size (fun g h1 h2 _ => hgrow2.block g h2 (by simp; omega)) (.inl rfl)
        have hs2 : w.heap.size < w2.heap.size := Nat.lt_of_lt_of_le hs1 hgrow2.size
        clear hrow1 hls1 hmap1 hB1 hgrow2
        refine (list_ok n (f j) w2 hn (hT.below hB2)).mono ?_
        rintro e3 w3 ⟨r9, rfl, hr9, hb3⟩
        have hB3 := bcat2 hB2 hb3
        have hrow3 := hrow2.kept (below_grown hb3 none) (by cases ra <;> simp [Value.ownBlock])
        have hls3 : Lsts w3 (w.heap.size + 1) (.slice ra vs.length rcap) vs (csl n f j) := hls2.keep hb3.size (fun g _ h2 _ => hb3.block g h2) (.inl rfl)
        have hmap3 := hmap2.kept (below_grown hb3 none) (by simp)
        have hown2 : ∀ g, (Value.slice ra vs.length rcap).ownBlock = some g → g < w2.heap.size := fun g hg => by
          rcases hrow2.2 with ⟨h1, _⟩ | ⟨g', cap, cur, h1, _, hh9, _⟩
          · rw [h1] at hg; simp [Value.ownBlock] at hg
          · rw [h1] at hg
            simp [Value.ownBlock] at hg
            subst hg
            exact (Array.getElem?_eq_some_iff.1 hh9).1
        obtain ⟨qa, qcap, qb, qo, rfl, hq, hq1, hq2, hq3, hq4⟩ := hr9
        have hs3 := hb3.size
        have HQ := hide hq
        clear hrow2 hls2 hmap2 hB2 hb3 hq
        generalize li (lst n (f j)) = lj at *
        go_wp2_with (first
          | (at_builtin; refine wpList_append_own_at _ rfl _ _ 33 rfl (w.heap.size + 1) 22 i0 (.slice none 0 0) 1 24 under25b hi hz0 hz1 hz2 rfl (by decide) _ _ _ rfl (World.ownsRow.alloc hrow3 _) ⟨w3.heap.size, 0, none⟩ 1 1 [.slice qa lj.length qcap] rfl rfl ?c1 ?c2 ?c3 ?c4 ?c5 ?_))
        case c1 => exact cell_one_new _ _ _
        case c2 => simp [Value.oneCell']
        case c3 => unfold maxLen; omega
        case c4 => omega
        case c5 => simp; omega
        intro v' w4 hown' hgrow hnil hloc
        obtain ⟨ra', rcap', rfl⟩ := own_slice' hown'
        have hB4 : Below w.heap.size w w4 := (hB3.alloc hB3.size _).grown hgrow (by simp; omega) (fun t e => by have := owns_ge hrow3 t e; omega)
        have hmap4 := (hmap3.kept (World.grownBy_alloc w3 _ none) (by simp)).kept hgrow (fun e => by have := owns_ge hrow3 _ e.symm; omega)
        have hbl : ∀ g, g < w3.heap.size → (Value.slice ra vs.length rcap).ownBlock ≠ some g → w4.heap[g]? = w3.heap[g]? := fun g h1 h2 => (hgrow.block g (by simp; omega) (fun e => h2 e.symm)).trans (Below.block (balloc w3 _) g h1)
        have hs4 : w3.heap.size < w4.heap.size := by have := hgrow.size; simp at this; omega
        have hlo : (Value.slice ra' (vs.length + 1) rcap').ownBlock = (Value.slice ra vs.length rcap).ownBlock ∨ ∀ g, (Value.slice ra' (vs.length + 1) rcap').ownBlock = some g → w3.heap.size ≤ g := by
          rcases hloc with h | h
          · exact .inl h
          · right; intro g hg; rw [h] at hg; simp at hg; omega
        have hls4 := (hls3.keep (r' := .slice ra' (vs.length + 1) rcap') (by omega) (fun g _ h2 h3 => hbl g h2 h3) hlo).snoc (x := .slice qa lj.length qcap) (l := lj) ⟨qa, qcap, qb, qo, rfl, HQ.out.of_eq (hbl qb hq1 (fun e => by have := hown2 _ e; omega)), by omega, hq2, hq3, by omega, fun g hg e => by
          subst e
          rcases hlo with h | h
          · have := hown2 _ (h ▸ hg); omega
          · have := h _ hg; omega⟩
        have hrow4 : w4.ownsRow (w.heap.size + 1) 22 1 (.slice ra' (vs.length + 1) rcap') (vs ++ [Value.slice qa lj.length qcap]).length (vs ++ [Value.slice qa lj.length qcap]) := by simpa using hown'
        clear hown' hgrow hloc hlo hbl hrow3 hls3 hmap3 hB3
        go_wp2
        go_roundw
        case rel => exact ⟨j + 1, _, _, by omega, by go_num, hrow4, by rw [HST.out]; exact hls4, hmap4, HMV.out _, by have := HNV.out; rw [← HVL2.out] at this; exact this, hB4⟩
        case measure => simp [intOf]; omega
      | true =>
        have HST := hide (show csl n f (j + 1) = csl n f j by
          unfold csl
          rw [fsts_succ, if_neg (by rw [← minv_new hM, hh]; simp)])
        have HMV := hide (minv_same hM hh)
        have HNV := hide (mnum_same hMN ((hM _).1 hh))
        go_wp2_with (first
          | (at_lookup; refine wpList_lookup_own_ok_int _ rfl _ _ 138 rfl 52 3 .i64 law77 und95 und3' (zero3 _) w.heap.size _ D rfl hmap1 _ _ rfl hkey ?_; intro c hat hwc; rw [hh]))
        go_roundw
        case rel => exact ⟨j + 1, vs, D, by omega, by go_num, hrow1, by rw [HST.out]; exact hls1, map_more hmap1, HMV.out, HNV.out, hB1⟩
        case measure => simp [intOf]; omega
    · have hjn : j = n := by omega
      subst hjn
      go_wp2
      exact bodyPost_ret (v := .tuple #[.slice ra vs.length rcap, .map (some w.heap.size)]) (by simp [results, Tryd.results134, go_sem]) rfl ⟨_, vs, D, rfl, hrow, hls, hmap, hM, hMN, hB⟩
end Go.Proofs.YtjiapicknkjhmaaDoor

namespace Go.Proofs.YtjiapicknkjhmaaDoor
open Go Go.RowKit Go.Maps

set_option maxRecDepth 100000 in
set_option maxHeartbeats 4000000 in
theorem quo_bad (N : Int) (v u : Value) (zs l : List Int) (w : World) (hv : Sl w v zs) (hu : Sl w u l) (hT : Tab w) (hc : (ufault N zs l).1 ≠ 0) :
    Calls Tryd.prog 89 #[.agg #[.int .i64 N, v], u] w fun x w' => x = .returned (.tuple #[.agg #[.int .i64 0, .slice none 0 0], .slice none 0 0, .agg #[.int .i64 (ufault N zs l).1, .int .i64 (ufault N zs l).2]]) ∧ Below w.heap.size w w' := by
  obtain ⟨w0, BG⟩ := BegQ.new w N v
  have HN := hide (nrm_bad N v u zs l w0 (hv.below BG.bel) (hu.below BG.bel) (hT.below BG.bel) hc)
  obtain ⟨c0, c1, _, _⟩ := BG.box.two
  obtain ⟨c, i, hci⟩ : ∃ c i, ufault N zs l = (c, i) := ⟨_, _, rfl⟩
  rw [hci] at HN hc ⊢
  simp only at HN hc ⊢
  clear hci
  have hcb : (c != 0) = true := by simpa using hc
  rw [BG.eq] at c0 c1
  go_enter Tryd.func89, Tryd.ntmps89
  go_wp2_with fail
  rw [← BG.eq]
  clear c0 c1
  refine HN.out.mono ?_
  rintro x w1 ⟨rfl, hb1⟩
  have hb2 := bcat2 hb1 (balloc w1 (.cells #[.int .i64 c, .int .i64 i] 27))
  have hF2 := blk0 (w := w1) (T := 27) (.int .i64 c) (.int .i64 i)
  have hBw := bcat BG.bel hb2 BG.bel.size
  have hG2 := blk_below BG.grp hb2
  have hR2 := blk_below BG.res hb2
  obtain ⟨t0, t1, _, _⟩ := hF2.two
  obtain ⟨y0, y1, fy0, fy1⟩ := hR2.two
  obtain ⟨g0, g1, fg0, fg1⟩ := hG2.two
  obtain ⟨s0, s1⟩ := hG2.self
  obtain ⟨hR6, hB6⟩ := put2 hR2 hBw (by omega) c i
  have hG6 := (hG2.other (p := ⟨w.heap.size + 1 + 1, 0, none⟩) (by simp) (.int .i64 c)).other (p := ⟨w.heap.size + 1 + 1, 1, none⟩) (by simp) (.int .i64 i)
  obtain ⟨g2, g3, fg2, fg3⟩ := hG6.two
  obtain ⟨s2, s3⟩ := hG6.self
  go_wp2_with fail
  go_region
  all_goals (
    go_wp2
    obtain ⟨z0, z1, _, _⟩ := hR6.two
    exact bodyPost_ret (v := .tuple #[.agg #[.int .i64 0, .slice none 0 0], .slice none 0 0, .agg #[.int .i64 c, .int .i64 i]]) (by simp [results, Tryd.results89, go_sem, z0, z1, g2, g3]) rfl ⟨rfl, bdrew hB6⟩)
set_option maxRecDepth 100000 in
set_option maxHeartbeats 4000000 in
theorem quo_odd (n e : Nat) (v u : Value) (zs l : List Int) (w : World) (hv : Sl w v zs) (hg : IsGrp n zs e) (hu : Sl w u l) (hT : Tab w) (hl : lfault n l = (0, 0)) (hsb : subT n zs e (pset l) = true) (hN : nrmq n zs e (pset l) = false) :
    Calls Tryd.prog 89 #[.agg #[.int .i64 n, v], u] w fun x w' => x = .returned (.tuple #[.agg #[.int .i64 0, .slice none 0 0], .slice none 0 0, .agg #[.int .i64 4, .int .i64 0]]) ∧ Below w.heap.size w w' := by
  obtain ⟨w0, BG⟩ := BegQ.new w n v
  have HN := hide (nrm_good n e v u zs l w0 (hv.below BG.bel) hg (hu.below BG.bel) (hT.below BG.bel) hl hsb)
  rw [hN] at HN
  obtain ⟨c0, c1, _, _⟩ := BG.box.two
  rw [BG.eq] at c0 c1
  go_enter Tryd.func89, Tryd.ntmps89
  go_wp2_with fail
  rw [← BG.eq]
  clear c0 c1
  refine HN.out.mono ?_
  rintro x w1 ⟨rfl, hb1⟩
  have hb2 := bcat2 hb1 (balloc w1 (.cells #[.int .i64 0, .int .i64 0] 27))
  have hF2 := blk0 (w := w1) (T := 27) (.int .i64 0) (.int .i64 0)
  have hBw := bcat BG.bel hb2 BG.bel.size
  have hG2 := blk_below BG.grp hb2
  have hR2 := blk_below BG.res hb2
  obtain ⟨t0, t1, _, _⟩ := hF2.two
  obtain ⟨y0, y1, fy0, fy1⟩ := hR2.two
  obtain ⟨g0, g1, fg0, fg1⟩ := hG2.two
  obtain ⟨s0, s1⟩ := hG2.self
  obtain ⟨hR6, hB6⟩ := put2 hR2 hBw (by omega) 4 0
  have hG6 := (hG2.other (p := ⟨w.heap.size + 1 + 1, 0, none⟩) (by simp) (.int .i64 4)).other (p := ⟨w.heap.size + 1 + 1, 1, none⟩) (by simp) (.int .i64 0)
  obtain ⟨g2, g3, fg2, fg3⟩ := hG6.two
  go_wp2
  obtain ⟨z0, z1, _, _⟩ := hR6.two
  exact bodyPost_ret (v := .tuple #[.agg #[.int .i64 0, .slice none 0 0], .slice none 0 0, .agg #[.int .i64 4, .int .i64 0]]) (by simp [results, Tryd.results89, go_sem, z0, z1, g2, g3]) rfl ⟨rfl, hB6⟩
set_option maxRecDepth 100000 in
set_option maxHeartbeats 8000000 in
theorem quo_good (n e : Nat) (v u : Value) (zs l : List Int) (w : World) (hv : Sl w v zs) (hg : IsGrp n zs e) (hu : Sl w u l) (hT : Tab w) (hl : lfault n l = (0, 0)) (hsb : subT n zs e (pset l) = true) (hN : nrmq n zs e (pset l) = true) :
    Calls Tryd.prog 89 #[.agg #[.int .i64 n, v], u] w fun x w' => ∃ r1 r2 r3 s1 s2 s3, x = .returned (.tuple #[.agg #[.int .i64 (fsts n (rgtq n zs (lst n (pset l))) n).length, .slice r1 r2 r3], .slice s1 s2 s3, .agg #[.int .i64 0, .int .i64 0]]) ∧ Sl w' (.slice r1 r2 r3) (mkT (fsts n (rgtq n zs (lst n (pset l))) n).length (quoF n zs (rgtq n zs (lst n (pset l))))) ∧ Sl w' (.slice s1 s2 s3) (ontoL n (rgtq n zs (lst n (pset l)))) ∧ Below w.heap.size w w' := by
  obtain ⟨i0, hi, hz0, hz1, hz2⟩ := info_parts info3b
  have hn := hg.tab.le
  have PP := rgt_parts hg hsb
  obtain ⟨w0, BG⟩ := BegQ.new w n v
  have HN := hide (nrm_good n e v u zs l w0 (hv.below BG.bel) hg (hu.below BG.bel) (hT.below BG.bel) hl hsb)
  rw [hN] at HN
  have HRG := hide (fun W (h : Below w.heap.size w W) => lists_sl (Nat.lt_of_lt_of_le hT.lt h.size) (rgt_good n e v u zs l W (hv.below h) hg (hu.below h) (hT.below h) hl hsb))
  obtain ⟨f, hf⟩ : ∃ f, f = rgtq n zs (lst n (pset l)) := ⟨_, rfl⟩
  rw [← hf] at HRG PP ⊢
  clear hf
  obtain ⟨K, hK⟩ : ∃ K, K = (fsts n f n).length := ⟨_, rfl⟩
  have hK6 : K ≤ 60 := by rw [hK]; exact Nat.le_trans (fsts_len n f n) hn
  have HCL := hide (show (csl n f n).length = K by rw [csl_len, hK])
  have HNUM := hide (fun W v9 (h : SlL W v9 (csl n f n)) => numbers_ok v9 (csl n f n) W h (by rw [HCL.out]; exact hK6) (fun t _ => Nat.le_trans (csl_len_le t) hn) (fun t a ha => by
    obtain ⟨b, hb, rfl, _⟩ := (csl_at PP t a).1 ha
    omega) (fun s t a h1 h2 => by
    obtain ⟨b, hb, rfl, h3⟩ := (csl_at PP s a).1 h1
    obtain ⟨b', hb', he, h4⟩ := (csl_at PP t _).1 h2
    have : b = b' := by omega
    subst this
    omega))
  have HNL := hide (fun a (ha : a < n) => (prts_num_lt PP ha).1)
  rw [← hK] at HNL
  have HAT := hide (fun (D : DataW Unit) (h : MLs (csl n f n) (csl n f n).length 0 D) a (ha : a < n) => h.old (num n f a) (by rw [csl_len]; exact (prts_num_lt PP ha).1) a ((csl_at PP _ _).2 ⟨a, ha, rfl, rfl⟩))
  have HGR := hide (fun W lv mb c (D : DataW Unit) (h : Below w.heap.size w W) (hL : SlL W lv (csl n f n)) (hm : W.ownsMap Tryd.prog 3 (plainElem Tryd.prog 3) mb c D) (hM : MLs (csl n f n) (csl n f n).length 0 D) =>
    group_ok n K v lv zs (csl n f n) (fun i => (fsts n f n)[i]?.getD 0) (quoF n zs f) mb c D W hg.tab (hv.below h) hL HCL.out hK6 (fun i hi => by
      rw [hK] at hi
      obtain ⟨s, hs⟩ := csl_head PP hi
      exact ⟨s, hs, by rw [List.getElem?_eq_getElem hi]; exact fst_lt hi⟩) hm (fun i j hi hj => by
      rw [hK] at hi hj
      have h1 := fst_lt hi
      have h2 := fst_lt hj
      unfold quoF
      simp only [List.getElem?_eq_getElem hi, List.getElem?_eq_getElem hj, Option.getD_some]
      exact HAT.out D hM _ (tm_lt hg.tab h1 h2)) (fun i j hi hj => by
      rw [hK] at hi hj
      unfold quoF
      simp only [List.getElem?_eq_getElem hi, List.getElem?_eq_getElem hj, Option.getD_some]
      have := HNL.out _ (tm_lt hg.tab (fst_lt hi) (fst_lt hj))
      omega))
  rw [← hK]
  have HK := hide hK
  clear hK PP hN
  obtain ⟨c0, c1, _, _⟩ := BG.box.two
  rw [BG.eq] at c0 c1
  go_enter Tryd.func89, Tryd.ntmps89
  go_wp2_with fail
  rw [← BG.eq]
  clear c0 c1
  refine HN.out.mono ?_
  rintro x w1 ⟨rfl, hb1⟩
  have hb2 := bcat2 hb1 (balloc w1 (.cells #[.int .i64 0, .int .i64 0] 27))
  have hF2 := blk0 (w := w1) (T := 27) (.int .i64 0) (.int .i64 0)
  have hBw := bcat BG.bel hb2 BG.bel.size
  have hX2 := blk_below BG.box hb2
  have hG2 := blk_below BG.grp hb2
  have hR2 := blk_below BG.res hb2
  obtain ⟨t0, t1, _, _⟩ := hF2.two
  obtain ⟨c0, c1, _, _⟩ := hX2.two
  go_wp2_with fail
  generalize w1.alloc (.cells #[.int .i64 0, .int .i64 0] 27) = w2 at *
  clear t0 t1 c0 c1 hb1 hb2
  refine (HRG.out _ hBw).mono ?_
  rintro x w3 ⟨r1, r2, r3, rfl, hr, hb3⟩
  have hF3 := blk_below hF2 hb3
  have hX3 := blk_below hX2 hb3
  have hG3 := blk_below hG2 hb3
  have hR3 := blk_below hR2 hb3
  have hBw3 := bcat2 hBw hb3
  obtain ⟨t0, t1, ft0, ft1⟩ := hF3.two
  obtain ⟨s0, s1⟩ := hF3.self
  go_wp2_with fail
  clear t0 t1 ft0 ft1 s0 s1
  refine (HNUM.out _ _ hr).mono ?_
  rintro x w4 ⟨D, rfl, hmap, hML, hb4⟩
  have hX4 := blk_below hX3 hb4
  have hG4 := blk_below hG3 hb4
  have hR4 := blk_below hR3 hb4
  have hr4 := hr.below hb4
  have hBw4 := bcat2 hBw3 hb4
  obtain ⟨k0, k1, _, _⟩ := hX4.two
  clear hX2 hX3 hG2 hG3 hR2 hR3 hF2 hF3 hr hBw hBw3 HNUM HRG HN
  go_wp2_with (first
    | (at_make; refine wpList_make_full _ rfl _ _ 22 rfl w4.heap.size 3 i0 (.int .i64 0) 1 under22b hi hz0 hz1 _ _ _ _ n rfl rfl rfl rfl (by rw [hz2]; omega) (by unfold maxLen; omega) (by simp) ?_))
  intro w5 hown hgr
  have hM5 : Blk w5 w4.heap.size 3 ((ontoU n f 0).map (Value.int .i64)) := by
    have := Blk.of_owns hown
    rw [made_rep] at this
    rw [ontoU_zero, List.map_replicate]; exact this
  have hb5 : Below w4.heap.size w4 w5 := (Below.refl _ w4).grown hgr (Nat.le_refl _) (by simp)
  clear hown hgr k0 k1
  have hw34 := hb4.size
  have HMP := hide hmap
  clear hmap
  go_wp2
  go_loopw [46] (fun i wr => ∃ a : Nat, a ≤ n ∧ i = .int .i64 a ∧ Blk wr w4.heap.size 3 ((ontoU n f a).map (Value.int .i64)) ∧ Below w4.heap.size w4 wr) (fun i _ => n - (intOf i).toNat)
  case atStart => exact ⟨0, Nat.zero_le _, rfl, hM5, hb5⟩
  case round =>
    obtain ⟨a, ha, rfl, hMa, hBa⟩ := hrel
    clear hM5 hb5
    by_cases hlt : a < n
    · have hai : (a : Int) < (n : Int) := by omega
      have hlk := look_int (HMP.out.kept (below_grown hBa none) (by simp)) (show a < 60 by omega) (HAT.out D hML a hlt)
      have hMc := hMa.int (y := a) (by rw [ontoU_len]; exact hlt)
      have hMf := hMa.frozen a
      have hM6 := hMa.setInt a (num n f a : Int)
      rw [← ontoU_set] at hM6
      have hB6 := hBa.setCell (p := ⟨w4.heap.size, a, none⟩) (Nat.le_refl _) (.int .i64 (num n f a : Int))
      go_wp2
      go_roundw
      case rel => exact ⟨a + 1, by omega, by go_num, hM6, hB6⟩
      case measure => simp [intOf]; omega
    · have hai : ¬ (a : Int) < (n : Int) := by omega
      have han : a = n := by omega
      rw [han, ontoU_all] at hMa
      clear han
      have hXr := blk_below hX4 hBa
      have hGr := blk_below hG4 hBa
      have hRr := blk_below hR4 hBa
      have hBr := bcat2 hBw4 hBa
      obtain ⟨k0, k1, _, _⟩ := hXr.two
      go_wp2_with fail
      clear k0 k1
      refine (HGR.out wr _ _ _ D hBr (hr4.below hBa) (HMP.out.kept (below_grown hBa none) (by simp)) hML).mono ?_
      rintro x w6 ⟨r, rfl, hrow, hb6⟩
      obtain ⟨T, hTe⟩ : ∃ T, T = mkT K (quoF n zs f) := ⟨_, rfl⟩
      rw [← hTe] at hrow
      have HTE := hide hTe
      clear hTe
      obtain ⟨rx, rcap, rfl⟩ := own_slice hrow
      have hMl := hMa.lt
      have hRl := hRr.lt
      have hGl := hGr.lt
      have hG6 := blk_below hGr hb6
      have hR6 := blk_below hRr hb6
      have hM6 := blk_below hMa hb6
      have hB6 := bcat2 hBr hb6
      obtain ⟨g0, g1, fg0, fg1⟩ := hG6.two
      have hG7 := (hG6.set 0 (.int .i64 K)).set 1 (.slice rx T.length rcap)
      have hR7 := (hR6.other (p := ⟨w.heap.size + 1, 0, none⟩) (by simp) (.int .i64 K)).other (p := ⟨w.heap.size + 1, 1, none⟩) (by simp) (.slice rx T.length rcap)
      have hMne : w4.heap.size ≠ w.heap.size + 1 := by have := hG4.lt; omega
      have hM7 := (hM6.other (p := ⟨w.heap.size + 1, 0, none⟩) (by simpa using hMne) (.int .i64 K)).other (p := ⟨w.heap.size + 1, 1, none⟩) (by simpa using hMne) (.slice rx T.length rcap)
      have hB7 := (hB6.setCell (p := ⟨w.heap.size + 1, 0, none⟩) (by simp) (.int .i64 K)).setCell (p := ⟨w.heap.size + 1, 1, none⟩) (by simp) (.slice rx T.length rcap)
      have hrow7 := row_keep (W' := (w6.setCell ⟨w.heap.size + 1, 0, none⟩ (.int .i64 K)).setCell ⟨w.heap.size + 1, 1, none⟩ (.slice rx T.length rcap)) hrow (fun g h1 _ => (Below.heap_setCell _ _ _ g (by simp; omega)).trans (Below.heap_setCell _ _ _ g (by simp; omega)))
      obtain ⟨y0, y1, fy0, fy1⟩ := hR7.two
      obtain ⟨s0, s1⟩ := hR7.self
      obtain ⟨v0, v1, fv0, fv1⟩ := hR6.two
      obtain ⟨z0, z1, _, _⟩ := hG7.two
      have hse := Sl.of_blk hM7 (ontoL_len n f).symm (by rw [ontoL_len]; omega)
      go_wp2
      exact bodyPost_ret (v := .tuple #[.agg #[.int .i64 K, .slice rx T.length rcap], .slice (some ⟨w4.heap.size, 0, none⟩) n n, .agg #[.int .i64 0, .int .i64 0]]) (by simp [results, Tryd.results89, go_sem, z0, z1, y0, y1]) rfl ⟨_, _, _, _, _, _, rfl, by rw [← HTE.out]; exact row_sl hrow7 (by rw [size_set, size_set]; have := hb6.size; omega), hse, hB7⟩
theorem quot_sl {f : Nat} {args : Array Value} {w : World} {c i : Int} (h0 : 0 < w.heap.size) (h : Calls Tryd.prog f args w fun x w' => x = .returned (.tuple #[.agg #[.int .i64 0, .slice none 0 0], .slice none 0 0, .agg #[.int .i64 c, .int .i64 i]]) ∧ Below w.heap.size w w') :
    Calls Tryd.prog f args w fun x W' => ∃ r1 r2 r3 s1 s2 s3, x = .returned (.tuple #[.agg #[.int .i64 0, .slice r1 r2 r3], .slice s1 s2 s3, .agg #[.int .i64 c, .int .i64 i]]) ∧ Sl W' (.slice r1 r2 r3) [] ∧ Sl W' (.slice s1 s2 s3) [] ∧ Below w.heap.size w W' := by
  refine h.mono ?_
  rintro x w' ⟨rfl, hb⟩
  have := Nat.lt_of_lt_of_le h0 hb.size
  exact ⟨none, 0, 0, none, 0, 0, rfl, Sl.nil this, Sl.nil this, hb⟩
end Go.Proofs.YtjiapicknkjhmaaDoor

namespace Go.Proofs.YtjiapicknkjhmaaDoor
open Go Go.RowKit Go.Maps

set_option maxRecDepth 100000 in
set_option maxHeartbeats 4000000 in
theorem simple_bad (N : Int) (v : Value) (zs : List Int) (w : World) (hv : Sl w v zs) (hc : (gfault N zs).1 ≠ 0) :
    Calls Tryd.prog 91 #[.agg #[.int .i64 N, v]] w fun x w' => x = .returned (.tuple #[.bool false, .agg #[.int .i64 (gfault N zs).1, .int .i64 (gfault N zs).2]]) ∧ Below w.heap.size w w' := by
  obtain ⟨w0, BG⟩ := Beg.new w N v
  have HCK := hide (opened_bad N v zs w0 (hv.below BG.bel) hc)
  obtain ⟨c0, c1, _, _⟩ := BG.box.two
  obtain ⟨c, i, hci⟩ : ∃ c i, gfault N zs = (c, i) := ⟨_, _, rfl⟩
  rw [hci] at HCK hc ⊢
  simp only at HCK hc ⊢
  clear hci
  have hcb : (c != 0) = true := by simpa using hc
  rw [BG.eq] at c0 c1
  go_enter Tryd.func91, Tryd.ntmps91
  go_wp2_with fail
  rw [← BG.eq]
  clear c0 c1
  refine HCK.out.mono ?_
  rintro x w1 ⟨rfl, hb1⟩
  obtain ⟨w2, hw2⟩ : ∃ w2, w2 = (w1.alloc (.cells #[.int .i64 0, .slice none 0 0, .int .i64 0, .slice none 0 0] 50)).alloc (.cells #[.int .i64 c, .int .i64 i] 27) := ⟨_, rfl⟩
  have hB1 : Below w0.heap.size w0 w2 := by rw [hw2]; exact bcat2 hb1 ((balloc w1 _).alloc (by simp) _)
  have hF1 : Blk w2 (w1.heap.size + 1) 27 [.int .i64 c, .int .i64 i] := by
    rw [hw2]
    have := blk0 (w := w1.alloc (.cells #[.int .i64 0, .slice none 0 0, .int .i64 0, .slice none 0 0] 50)) (T := 27) (.int .i64 c) (.int .i64 i)
    rwa [World.size_alloc] at this
  have hR1 := blk_below BG.res hB1
  have hBw := bcat BG.bel hB1 BG.bel.size
  obtain ⟨y0, y1, fy0, fy1⟩ := hR1.two
  obtain ⟨t0, t1, _, _⟩ := hF1.two
  obtain ⟨hR6, hB6⟩ := put2 hR1 hBw (by omega) c i
  have hB7 := bdrew hB6
  rw [hw2] at y0 y1 fy0 fy1 t0 t1
  go_wp2_with fail
  rw [← hw2] at y0 y1 fy0 fy1 t0 t1 ⊢
  clear hw2
  go_region
  all_goals (
    go_wp2
    obtain ⟨z0, z1, _, _⟩ := hR6.two
    exact bodyPost_ret (v := .tuple #[.bool false, .agg #[.int .i64 c, .int .i64 i]]) (by simp [results, Tryd.results91, go_sem, z0, z1]) rfl ⟨rfl, hB7⟩)
set_option maxRecDepth 100000 in
set_option maxHeartbeats 8000000 in
theorem simple_good (n e : Nat) (v : Value) (zs : List Int) (P : Nat → Nat → Bool) (w : World) (hv : Sl w v zs) (hg : IsGrp n zs e) (hT : Tab w) (hp : ∀ a, a < n → ∀ y, y < n → (P a y = true ↔ Mkd n zs e (cloq n zs e (pset [(a : Int)]) n) y)) :
    Calls Tryd.prog 91 #[.agg #[.int .i64 n, v]] w fun x w' => x = .returned (.tuple #[.bool (smq n e fun a => (lst n (P a)).length), .agg #[.int .i64 0, .int .i64 0]]) ∧ Below w.heap.size w w' := by
  obtain ⟨va, vl, vc, rfl⟩ := hv.isSlice
  have hn := hg.tab.le
  obtain ⟨w0, BG⟩ := Beg.new w n (.slice va vl vc)
  have HCK := hide (opened_good n e (.slice va vl vc) zs w0 (hv.below BG.bel) hg)
  have HCL := hide (fun W u a (h : Below w.heap.size w W) (ha : a < n) (hu : Sl W u [(a : Int)]) => clo_good n e (.slice va vl vc) u zs [(a : Int)] (P a) W (hv.below h) hg hu (hT.below h) (one_fault ha) (hp a ha))
  obtain ⟨L, hL⟩ : ∃ L : Nat → Nat, L = fun a => (lst n (P a)).length := ⟨_, rfl⟩
  have HL := hide (fun a => show (lst n (P a)).length = L a by rw [hL])
  rw [← hL]
  obtain ⟨b, hb⟩ : ∃ b, b = smq n e L := ⟨_, rfl⟩
  rw [← hb]
  have HNO := hide (fun a (ha : a < n) (h1 : ¬ a = e) (h2 : L a < n) => show b = false by
    rw [hb]
    unfold smq
    rw [Bool.and_eq_false_iff]
    right
    rw [List.all_eq_false]
    exact ⟨a, List.mem_range.2 ha, by simp [h1, h2]⟩)
  have HYES := hide (fun (h : ∀ a, a < n → a = e ∨ ¬ L a < n) => show b = decide (1 < n) by
    rw [hb]
    unfold smq
    have : ((List.range n).all fun a => decide (a = e) || !decide (L a < n)) = true := List.all_eq_true.2 fun a ha => by
      rcases h a (List.mem_range.1 ha) with h | h <;> simp [h]
    rw [this, Bool.and_true])
  clear hb hL hp
  have hen := hg.elt
  obtain ⟨c0, c1, _, _⟩ := BG.box.two
  rw [BG.eq] at c0 c1
  go_enter Tryd.func91, Tryd.ntmps91
  go_wp2_with fail
  rw [← BG.eq]
  clear c0 c1
  refine HCK.out.mono ?_
  rintro x w1 ⟨iv9, rfl, hSI, hb1⟩
  obtain ⟨ia, il, ic, rfl⟩ := hSI.sl.isSlice
  obtain ⟨w2, hw2⟩ : ∃ w2, w2 = (w1.alloc (.cells #[.int .i64 n, (.slice va vl vc), .int .i64 e, (.slice ia il ic)] 50)).alloc (.cells #[.int .i64 0, .int .i64 0] 27) := ⟨_, rfl⟩
  have hb2 : Below w1.heap.size w1 w2 := by rw [hw2]; exact (balloc w1 _).alloc (by simp) _
  have hB1 : Below w0.heap.size w0 w2 := bcat2 hb1 hb2
  have hF1 : Blk w2 (w1.heap.size + 1) 27 [.int .i64 0, .int .i64 0] := by
    rw [hw2]
    have := blk0 (w := w1.alloc (.cells #[.int .i64 n, (.slice va vl vc), .int .i64 e, (.slice ia il ic)] 50)) (T := 27) (.int .i64 0) (.int .i64 0)
    rwa [World.size_alloc] at this
  have hH2 : Blk w2 w1.heap.size 50 [.int .i64 n, (.slice va vl vc), .int .i64 e, (.slice ia il ic)] := by
    rw [hw2]; exact (blk4 _ _ _ _).alloc _
  have hBw2 := bcat BG.bel hB1 BG.bel.size
  have hR2 := blk_below BG.res hB1
  have hX2 := blk_below BG.box hB1
  obtain ⟨t0, t1, _, _⟩ := hF1.two
  obtain ⟨g0, g1, _, _⟩ := hX2.two
  rw [hw2] at t0 t1 g0 g1
  go_wp2
  rw [← hw2]
  clear hw2 t0 t1 g0 g1
  have hRl := hR2.lt
  have HH := hide (fun W (h : Below w2.heap.size w2 W) => show W.cell? ⟨w1.heap.size, 2, none⟩ = some (.int .i64 e) from by
    obtain ⟨_, _, _, h2, _, _⟩ := Four.mk' hH2
    exact below_cell h h2)
  go_loopw [20] (fun i wr => ∃ a : Nat, a ≤ n ∧ i = .int .i64 a ∧ (∀ t, t < a → t = e ∨ ¬ L t < n) ∧ Below w2.heap.size w2 wr) (fun i _ => n - (intOf i).toNat)
  case atStart => exact ⟨0, Nat.zero_le _, rfl, fun t ht => by omega, Below.refl _ _⟩
  case round =>
    obtain ⟨a, ha, rfl, hall, hB⟩ := hrel
    have HALL := hide hall
    clear hall
    have hXr := blk_below hX2 hB
    have hRr := blk_below hR2 hB
    have hBr := bcat2 hBw2 hB
    by_cases hlt : a < n
    · have hai : (a : Int) < (n : Int) := by omega
      have hbn := balloc wr (.cells #[.int .i64 a] 3)
      have hun : Sl (wr.alloc (.cells #[.int .i64 a] 3)) (.slice (some ⟨wr.heap.size, 0, none⟩) 1 1) [(a : Int)] := Sl.of_blk (g := wr.heap.size) (zs := [(a : Int)]) (World.alloc_heap_new wr _) rfl (by simp)
      obtain ⟨g0, g1, _, _⟩ := hXr.two
      go_wp2_with fail
      clear g0 g1
      refine (HCL.out _ _ a (bcat2 hBr hbn) hlt hun).mono ?_
      rintro x w4 ⟨r, rfl, hr, hb4⟩
      have hrs := hr.sl
      obtain ⟨ra, rc, _, _, rfl, _, _, _, _⟩ := hrs
      rw [li_len, HL.out]
      have hb5 := bcat2 (bcat2 hbn hb4) (balloc w4 (.cells #[.int .i64 0, .int .i64 0] 27))
      have hF5 := blk0 (w := w4) (T := 27) (.int .i64 0) (.int .i64 0)
      have hX5 := blk_below hXr hb5
      have hR5 := blk_below hRr hb5
      have hB5 := bcat2 hB hb5
      have hBw5 := bcat2 hBr hb5
      have ch := HH.out _ hB5
      obtain ⟨g0, g1, _, _⟩ := hX5.two
      obtain ⟨t0, t1, _, _⟩ := hF5.two
      obtain ⟨y0, y1, fy0, fy1⟩ := hR5.two
      obtain ⟨s0, s1⟩ := hR5.self
      by_cases hae : a = e
      · have hi1 : ((a : Int) != (e : Int)) = false := by simp [hae]
        have hi2 : (a : Int) = (e : Int) := by omega
        have HN := hide (fun t (ht : t < a + 1) => show t = e ∨ ¬ L t < n by
          by_cases e9 : t = a
          · left; omega
          · exact HALL.out t (by omega))
        clear hae
        go_wp2
        go_roundw
        case rel => exact ⟨a + 1, by omega, by go_num, HN.out, hB5⟩
        case measure => simp [intOf]; omega
      · have hi1 : ((a : Int) != (e : Int)) = true := by simp; omega
        have hi2 : ¬ (a : Int) = (e : Int) := by omega
        by_cases hLt : L a < n
        · obtain rfl := HNO.out a hlt hae hLt
          have hli : (L a : Int) < (n : Int) := by omega
          clear hae
          go_wp2
          exact bodyPost_ret (v := .tuple #[.bool false, .agg #[.int .i64 0, .int .i64 0]]) (by simp [results, Tryd.results91, go_sem, y0, y1]) rfl ⟨rfl, hBw5⟩
        · have hli : ¬ (L a : Int) < (n : Int) := by omega
          have HN := hide (fun t (ht : t < a + 1) => show t = e ∨ ¬ L t < n by
            by_cases e9 : t = a
            · right; rw [e9]; exact hLt
            · exact HALL.out t (by omega))
          clear hae hLt
          go_wp2
          go_roundw
          case rel => exact ⟨a + 1, by omega, by go_num, HN.out, hB5⟩
          case measure => simp [intOf]; omega
    · have hai : ¬ (a : Int) < (n : Int) := by omega
      have HBE := hide (HYES.out (fun t ht => HALL.out t (by omega)))
      obtain ⟨g0, g1, _, _⟩ := hXr.two
      obtain ⟨y0, y1, fy0, fy1⟩ := hRr.two
      obtain ⟨s0, s1⟩ := hRr.self
      by_cases h1 : 1 < n
      · have h1i : (1 : Int) < (n : Int) := by omega
        go_wp2
        exact bodyPost_ret (v := .tuple #[.bool true, .agg #[.int .i64 0, .int .i64 0]]) (by simp [results, Tryd.results91, go_sem, y0, y1]) rfl ⟨by rw [HBE.out, decide_eq_true h1], hBr⟩
      · have h1i : ¬ (1 : Int) < (n : Int) := by omega
        go_wp2
        exact bodyPost_ret (v := .tuple #[.bool false, .agg #[.int .i64 0, .int .i64 0]]) (by simp [results, Tryd.results91, go_sem, y0, y1]) rfl ⟨by rw [HBE.out, decide_eq_false h1], hBr⟩
end Go.Proofs.YtjiapicknkjhmaaDoor

namespace Go.Proofs.YtjiapicknkjhmaaDoor
open Go Go.RowKit

/-- A map of things that keeps products. -/
structure IsHom (n : Nat) (zs : List Int) (m : Nat) (ys : List Int) (φ : Nat → Nat) : Prop where
  lt : ∀ a, a < n → φ a < m
  mul : ∀ a b, a < n → b < n → φ (tm n zs a b) = tm m ys (φ a) (φ b)
theorem IsHom.one {n e m d : Nat} {zs ys : List Int} {φ : Nat → Nat} (g : IsGrp n zs e) (h : IsGrp m ys d) (H : IsHom n zs m ys φ) : φ e = d := by
  have h1 := H.mul e e g.elt g.elt
  rw [g.left e g.elt] at h1
  have hl := H.lt e g.elt
  exact grp_cancel h hl hl h.elt (by rw [← h1, h.right _ hl])
section
variable {n e m d k c : Nat} {zs ys xs : List Int} {π ψ : Nat → Nat}
/-- Where two things go to the same, their quotient goes to the one. -/
theorem hom_same_iff (g : IsGrp n zs e) (h : IsGrp m ys d) (H : IsHom n zs m ys π) {a b : Nat} (ha : a < n) (hb : b < n) : π a = π b ↔ π (tm n zs a (iv n zs e b)) = d := by
  obtain ⟨i1, i2, i3, _⟩ := iv_spec g hb
  have h1 := H.mul a (iv n zs e b) ha i1
  have h2 := H.mul b (iv n zs e b) hb i1
  rw [i2, IsHom.one g h H] at h2
  constructor
  · intro hab
    rw [h1, hab, ← h2]
  · intro hd
    have h3 := H.mul _ b (tm_lt g.tab ha i1) hb
    rw [hd, h.left _ (H.lt b hb), g.ass a _ b ha i1 hb, i3, g.right a ha] at h3
    exact h3
/-- A homomorphism onto. -/
structure IsOnto (n : Nat) (zs : List Int) (m : Nat) (ys : List Int) (π : Nat → Nat) : Prop where
  hom : IsHom n zs m ys π
  hits : ∀ y, y < m → ∃ a, a < n ∧ π a = y
end
section
variable {n e : Nat} {zs : List Int} {q : Nat → Bool}
/-- A quotient is an image. -/
theorem quo_onto (g : IsGrp n zs e) (hs : subT n zs e q = true) (hN : nrmq n zs e q = true) :
    IsOnto n zs (fsts n (rgtq n zs (lst n q)) n).length (mkT (fsts n (rgtq n zs (lst n q)) n).length (quoF n zs (rgtq n zs (lst n q)))) (num n (rgtq n zs (lst n q))) := by
  have P := rgt_parts g hs
  refine ⟨⟨fun a ha => (prts_num_lt P ha).1, fun a b ha hb => ?_⟩, fun i hi => ⟨_, fst_lt hi, prts_num_at P hi⟩⟩
  rw [tm_mk (prts_num_lt P ha).1 (prts_num_lt P hb).1]
  exact (quo_hom g hs hN ha hb).symm
/-- Its kernel is the subgroup. -/
theorem quo_ker (g : IsGrp n zs e) (hs : subT n zs e q = true) {a : Nat} (ha : a < n) : num n (rgtq n zs (lst n q)) a = num n (rgtq n zs (lst n q)) e ↔ q a = true := by
  have P := rgt_parts g hs
  rw [eq_comm, prts_num_eq P g.elt ha, rgt_iff g g.elt ha, decide_eq_true_eq, mem_lst, iv_one g, g.right a ha]
  exact ⟨fun h => h.2, fun h => ⟨ha, h⟩⟩
end
/-- A greatest normal subgroup of a table's subgroup. -/
abbrev Mxg (n : Nat) (zs : List Int) (e : Nat) (A B : Nat → Bool) : Prop := Fin.Mxn (List.range n) (tm n zs) e (iv n zs e) A B
section
variable {n e : Nat} {zs : List Int} {q p r : Nat → Bool}
theorem part_up (g : IsGrp n zs e) (hs : subT n zs e q = true) (h : Mxg (lst n q).length (mkT (lst n q).length (parF n zs (lst n q))) (place (lst n q) e) p r) : Mxg n zs e (upt n q p) (upt n q r) where
  sg := subT_iff.1 (upt_sub g hs (subT_iff.2 h.sg))
  sub := fun x hx h1 => by
    obtain ⟨i, hi, h2, rfl⟩ := (upt_iff (List.mem_range.1 hx)).1 h1
    rw [upt_at hi]
    exact h.sub i (List.mem_range.2 hi) h2
  nm := fun x a hx ha h1 h2 => by
    obtain ⟨i, hi, h3, rfl⟩ := (upt_iff (List.mem_range.1 hx)).1 h1
    obtain ⟨j, hj, h4, rfl⟩ := (upt_iff (List.mem_range.1 ha)).1 h2
    have G := part_grp g hs
    rw [← part_cj g hs hi hj, upt_at (List.mem_range.1 (Fin.cj_mem (grp_fg G) (grp_iv G) (List.mem_range.2 hi) (List.mem_range.2 hj)))]
    exact h.nm i j (List.mem_range.2 hi) (List.mem_range.2 hj) h3 h4
  less := by
    obtain ⟨i, hi, h1, h2⟩ := h.less
    have hi := List.mem_range.1 hi
    exact ⟨_, List.mem_range.2 (thing_lt hi), by rw [upt_at hi]; exact h1, by rw [upt_at hi]; exact h2⟩
  top := fun C hC h1 h2 h3 => by
    have G := part_grp g hs
    rcases h.top (fun i => C (thing (lst n q) i)) (subT_iff.1 (down_sub g hs (subT_iff.2 hC))) (fun i hi h4 => by
        have hi := List.mem_range.1 hi
        exact h1 _ (List.mem_range.2 (thing_lt hi)) (by rw [upt_at hi]; exact h4)) (fun i hi h4 => by
        have hi := List.mem_range.1 hi
        have h5 := h2 _ (List.mem_range.2 (thing_lt hi)) h4
        rwa [upt_at hi] at h5) (fun i j hi hj h4 h5 => by
        have hi := List.mem_range.1 hi
        have hj := List.mem_range.1 hj
        show C (thing _ _) = true
        rw [part_cj g hs hi hj]
        exact h3 _ _ (List.mem_range.2 (thing_lt hi)) (List.mem_range.2 (thing_lt hj)) h4 (by rw [upt_at hj]; exact h5)) with h4 | h4
    · refine .inl fun x hx h5 => ?_
      obtain ⟨i, hi, h6, rfl⟩ := (upt_iff (List.mem_range.1 hx)).1 (h2 x hx h5)
      rw [upt_at hi]
      exact h4 i (List.mem_range.2 hi) h5
    · refine .inr fun x hx h5 => ?_
      obtain ⟨i, hi, h6, rfl⟩ := (upt_iff (List.mem_range.1 hx)).1 h5
      exact h4 i (List.mem_range.2 hi) h6
theorem part_down (g : IsGrp n zs e) (hs : subT n zs e q = true) (h : Mxg n zs e (upt n q p) (upt n q r)) : Mxg (lst n q).length (mkT (lst n q).length (parF n zs (lst n q))) (place (lst n q) e) p r where
  sg := by
    have h1 := subT_iff.1 (down_sub g hs (subT_iff.2 h.sg))
    obtain ⟨p1, _⟩ := part_e g hs
    refine ⟨by have := h1.one; rwa [upt_at p1] at this, fun i j hi hj h2 h3 => ?_⟩
    have G := part_grp g hs
    have h4 := h1.mul i j hi hj (by rw [upt_at (List.mem_range.1 hi)]; exact h2) (by rw [upt_at (List.mem_range.1 hj)]; exact h3)
    rwa [upt_at (tm_lt G.tab (List.mem_range.1 hi) (List.mem_range.1 hj))] at h4
  sub := fun i hi h1 => by
    have hi := List.mem_range.1 hi
    have h2 := h.sub _ (List.mem_range.2 (thing_lt hi)) (by rw [upt_at hi]; exact h1)
    rwa [upt_at hi] at h2
  nm := fun i j hi hj h1 h2 => by
    have G := part_grp g hs
    have hm := List.mem_range.1 (Fin.cj_mem (grp_fg G) (grp_iv G) hi hj)
    have hi := List.mem_range.1 hi
    have hj := List.mem_range.1 hj
    have h3 := h.nm _ _ (List.mem_range.2 (thing_lt hi)) (List.mem_range.2 (thing_lt hj)) (by rw [upt_at hi]; exact h1) (by rw [upt_at hj]; exact h2)
    rwa [← part_cj g hs hi hj, upt_at hm] at h3
  less := by
    obtain ⟨x, hx, h1, h2⟩ := h.less
    obtain ⟨i, hi, h3, rfl⟩ := (upt_iff (List.mem_range.1 hx)).1 h1
    rw [upt_at hi] at h2
    exact ⟨i, List.mem_range.2 hi, h3, h2⟩
  top := fun C hC h1 h2 h3 => by
    have G := part_grp g hs
    rcases h.top (upt n q C) (subT_iff.1 (upt_sub g hs (subT_iff.2 hC))) (fun x hx h4 => by
        obtain ⟨i, hi, h5, rfl⟩ := (upt_iff (List.mem_range.1 hx)).1 h4
        rw [upt_at hi]
        exact h1 i (List.mem_range.2 hi) h5) (fun x hx h4 => by
        obtain ⟨i, hi, h5, rfl⟩ := (upt_iff (List.mem_range.1 hx)).1 h4
        rw [upt_at hi]
        exact h2 i (List.mem_range.2 hi) h5) (fun x a hx ha h4 h5 => by
        obtain ⟨i, hi, h6, rfl⟩ := (upt_iff (List.mem_range.1 hx)).1 h4
        obtain ⟨j, hj, h7, rfl⟩ := (upt_iff (List.mem_range.1 ha)).1 h5
        rw [← part_cj g hs hi hj, upt_at (List.mem_range.1 (Fin.cj_mem (grp_fg G) (grp_iv G) (List.mem_range.2 hi) (List.mem_range.2 hj)))]
        exact h3 i j (List.mem_range.2 hi) (List.mem_range.2 hj) h6 h7) with h4 | h4
    · refine .inl fun i hi h5 => ?_
      have hi := List.mem_range.1 hi
      have h6 := h4 _ (List.mem_range.2 (thing_lt hi)) (by rw [upt_at hi]; exact h5)
      rwa [upt_at hi] at h6
    · refine .inr fun i hi h5 => ?_
      have hi := List.mem_range.1 hi
      have h6 := h4 _ (List.mem_range.2 (thing_lt hi)) (by rw [upt_at hi]; exact h5)
      rwa [upt_at hi] at h6
end
section
variable {n e m d : Nat} {zs ys : List Int} {φ : Nat → Nat} {p r : Nat → Bool}
theorem onto_cj (g : IsGrp n zs e) (h : IsGrp m ys d) (H : IsHom n zs m ys φ) {x a : Nat} (hx : x < n) (ha : a < n) : φ (Fin.cj (tm n zs) (iv n zs e) x a) = Fin.cj (tm m ys) (iv m ys d) (φ x) (φ a) := by
  have hc := List.mem_range.1 (Fin.cj_mem (grp_fg g) (grp_iv g) (List.mem_range.2 hx) (List.mem_range.2 ha))
  refine (Fin.cj_unique (grp_fg h) (grp_iv h) (List.mem_range.2 (H.lt x hx)) (List.mem_range.2 (H.lt _ hc)) (List.mem_range.2 (H.lt a ha)) ?_).symm
  rw [← H.mul a _ ha hc, Fin.cj_eq (grp_fg g) (grp_iv g) (List.mem_range.2 hx) (List.mem_range.2 ha), H.mul x a hx ha]
theorem onto_up (g : IsGrp n zs e) (h : IsGrp m ys d) (O : IsOnto n zs m ys φ) (M : Mxg m ys d p r) : Mxg n zs e (fun x => p (φ x)) (fun x => r (φ x)) where
  sg := ⟨by show r (φ e) = true; rw [IsHom.one g h O.hom]; exact M.sg.one, fun a b ha hb h1 h2 => by
    have ha := List.mem_range.1 ha
    have hb := List.mem_range.1 hb
    show r (φ _) = true
    rw [O.hom.mul a b ha hb]
    exact M.sg.mul _ _ (List.mem_range.2 (O.hom.lt a ha)) (List.mem_range.2 (O.hom.lt b hb)) h1 h2⟩
  sub := fun x hx h1 => M.sub _ (List.mem_range.2 (O.hom.lt x (List.mem_range.1 hx))) h1
  nm := fun x a hx ha h1 h2 => by
    have ha := List.mem_range.1 ha
    have hx := List.mem_range.1 hx
    show r (φ _) = true
    rw [onto_cj g h O.hom hx ha]
    exact M.nm _ _ (List.mem_range.2 (O.hom.lt x hx)) (List.mem_range.2 (O.hom.lt a ha)) h1 h2
  less := by
    obtain ⟨y, hy, h1, h2⟩ := M.less
    obtain ⟨x, hx, rfl⟩ := O.hits y (List.mem_range.1 hy)
    exact ⟨x, List.mem_range.2 hx, h1, h2⟩
  top := fun C hC h1 h2 h3 => by
    obtain ⟨D, hD⟩ := Fin.test_of (fun y => ∃ x, x < n ∧ C x = true ∧ φ x = y)
    rcases M.top D ⟨(hD d).2 ⟨e, g.elt, hC.one, IsHom.one g h O.hom⟩, fun a b _ _ h4 h5 => by
        obtain ⟨x, hx, h6, rfl⟩ := (hD a).1 h4
        obtain ⟨y, hy, h7, rfl⟩ := (hD b).1 h5
        exact (hD _).2 ⟨_, tm_lt g.tab hx hy, hC.mul x y (List.mem_range.2 hx) (List.mem_range.2 hy) h6 h7, O.hom.mul x y hx hy⟩⟩ (fun y hy h4 => by
        obtain ⟨x, hx, rfl⟩ := O.hits y (List.mem_range.1 hy)
        exact (hD _).2 ⟨x, hx, h1 x (List.mem_range.2 hx) h4, rfl⟩) (fun y _ h4 => by
        obtain ⟨x, hx, h6, rfl⟩ := (hD y).1 h4
        exact h2 x (List.mem_range.2 hx) h6) (fun y a _ ha h4 h5 => by
        obtain ⟨x, hx, h6, rfl⟩ := (hD y).1 h4
        obtain ⟨b, hb, rfl⟩ := O.hits a (List.mem_range.1 ha)
        have hc := List.mem_range.1 (Fin.cj_mem (grp_fg g) (grp_iv g) (List.mem_range.2 hx) (List.mem_range.2 hb))
        exact (hD _).2 ⟨_, hc, h3 x b (List.mem_range.2 hx) (List.mem_range.2 hb) h6 h5, onto_cj g h O.hom hx hb⟩) with h4 | h4
    · exact .inl fun x hx h5 => h4 _ (List.mem_range.2 (O.hom.lt x (List.mem_range.1 hx))) ((hD _).2 ⟨x, List.mem_range.1 hx, h5, rfl⟩)
    · refine .inr fun x hx h5 => ?_
      have hx' := List.mem_range.1 hx
      obtain ⟨c, hc, h6, h7⟩ := (hD _).1 (h4 _ (List.mem_range.2 (O.hom.lt x hx')) h5)
      obtain ⟨i1, i2, i3, _⟩ := iv_spec g hc
      have hk := tm_lt g.tab hx' i1
      have h8 := (hom_same_iff g h O.hom hx' hc).1 h7.symm
      have h9 := h1 _ (List.mem_range.2 hk) (by show r (φ _) = true; rw [h8]; exact M.sg.one)
      have h10 := hC.mul _ c (List.mem_range.2 hk) (List.mem_range.2 hc) h9 h6
      have h11 : tm n zs (tm n zs x (iv n zs e c)) c = x := by rw [g.ass _ _ _ hx' i1 hc, i3, g.right x hx']
      rw [h11] at h10
      exact h10
theorem onto_down (g : IsGrp n zs e) (h : IsGrp m ys d) (O : IsOnto n zs m ys φ) (M : Mxg n zs e (fun x => p (φ x)) (fun x => r (φ x))) : Mxg m ys d p r where
  sg := ⟨by have h1 := M.sg.one; simp only [IsHom.one g h O.hom] at h1; exact h1, fun a b ha hb h1 h2 => by
    obtain ⟨x, hx, rfl⟩ := O.hits a (List.mem_range.1 ha)
    obtain ⟨y, hy, rfl⟩ := O.hits b (List.mem_range.1 hb)
    show r _ = true
    rw [← O.hom.mul x y hx hy]
    exact M.sg.mul x y (List.mem_range.2 hx) (List.mem_range.2 hy) h1 h2⟩
  sub := fun y hy h1 => by
    obtain ⟨x, hx, rfl⟩ := O.hits y (List.mem_range.1 hy)
    exact M.sub x (List.mem_range.2 hx) h1
  nm := fun y a hy ha h1 h2 => by
    obtain ⟨x, hx, rfl⟩ := O.hits y (List.mem_range.1 hy)
    obtain ⟨b, hb, rfl⟩ := O.hits a (List.mem_range.1 ha)
    rw [← onto_cj g h O.hom hx hb]
    exact M.nm x b (List.mem_range.2 hx) (List.mem_range.2 hb) h1 h2
  less := by
    obtain ⟨x, hx, h1, h2⟩ := M.less
    exact ⟨φ x, List.mem_range.2 (O.hom.lt x (List.mem_range.1 hx)), h1, h2⟩
  top := fun C hC h1 h2 h3 => by
    rcases M.top (fun x => C (φ x)) ⟨by show C (φ e) = true; rw [IsHom.one g h O.hom]; exact hC.one, fun a b ha hb h4 h5 => by
        have ha := List.mem_range.1 ha
        have hb := List.mem_range.1 hb
        show C (φ _) = true
        rw [O.hom.mul a b ha hb]
        exact hC.mul _ _ (List.mem_range.2 (O.hom.lt a ha)) (List.mem_range.2 (O.hom.lt b hb)) h4 h5⟩
      (fun x hx h4 => h1 _ (List.mem_range.2 (O.hom.lt x (List.mem_range.1 hx))) h4) (fun x hx h4 => h2 _ (List.mem_range.2 (O.hom.lt x (List.mem_range.1 hx))) h4) (fun x a hx ha h4 h5 => by
        have ha := List.mem_range.1 ha
        have hx := List.mem_range.1 hx
        show C (φ _) = true
        rw [onto_cj g h O.hom hx ha]
        exact h3 _ _ (List.mem_range.2 (O.hom.lt x hx)) (List.mem_range.2 (O.hom.lt a ha)) h4 h5) with h4 | h4
    · refine .inl fun y hy h5 => ?_
      obtain ⟨x, hx, rfl⟩ := O.hits y (List.mem_range.1 hy)
      exact h4 x (List.mem_range.2 hx) h5
    · refine .inr fun y hy h5 => ?_
      obtain ⟨x, hx, rfl⟩ := O.hits y (List.mem_range.1 hy)
      exact h4 x (List.mem_range.2 hx) h5
/-- Simple: each thing but the one makes, with what it is conjugated to, all. -/
theorem simple_iff (h : IsGrp m ys d) {P : Nat → Nat → Bool} (hP : ∀ a, a < m → ∀ y, y < m → (P a y = true ↔ Mkd m ys d (cloq m ys d (pset [(a : Int)]) m) y)) :
    smq m d (fun a => (lst m (P a)).length) = true ↔ Mxg m ys d (fun _ => true) (fun a => decide (a = d)) := by
  have F := grp_fg h
  have V := grp_iv h
  have hc : ∀ a, a < m → ∀ y, cloq m ys d (pset [(a : Int)]) m y = true ↔ ∃ b, b < m ∧ Fin.cj (tm m ys) (iv m ys d) a b = y := fun a ha y => by
    unfold cloq
    simp only [List.any_eq_true, List.mem_range, cjq_iff]
    constructor
    · rintro ⟨b, hb, x, hx, h1, rfl⟩
      have h1 : x = a := by
        unfold pset at h1
        rw [decide_eq_true_eq, List.mem_singleton] at h1
        omega
      rw [h1]
      exact ⟨b, hb, rfl⟩
    · rintro ⟨b, hb, rfl⟩
      exact ⟨b, hb, a, ha, by unfold pset; simp, rfl⟩
  unfold smq
  rw [Bool.and_eq_true, decide_eq_true_eq, List.all_eq_true]
  constructor
  · rintro ⟨h1, h2⟩
    refine ⟨Fin.one_sgb F, fun _ _ _ => rfl, fun x a _ ha h3 _ => ?_, ?_, fun C hC _ _ h3 => ?_⟩
    · rw [decide_eq_true_eq] at h3
      rw [h3, Fin.cj_one F V ha]
      simp
    · rcases Nat.lt_or_ge 0 d with h3 | h3
      · exact ⟨0, List.mem_range.2 (by omega), rfl, by simp; omega⟩
      · exact ⟨1, List.mem_range.2 h1, rfl, by simp; omega⟩
    · rcases Classical.em (Fin.In (List.range m) C (fun a => decide (a = d))) with h4 | h4
      · exact .inl h4
      · refine .inr ?_
        obtain ⟨a, ha, ha1, ha2⟩ : ∃ a, a ∈ List.range m ∧ C a = true ∧ ¬ a = d := Classical.byContradiction fun h5 => h4 fun y hy hC => by
          rw [decide_eq_true_eq]
          exact Classical.byContradiction fun h6 => h5 ⟨y, hy, hC, h6⟩
        have h5 := h2 a ha
        have ha' := List.mem_range.1 ha
        have h6 : (lst m (P a)).length = m := by
          have := lst_len m (P a)
          simp [ha2] at h5
          omega
        intro y hy _
        have hy' := List.mem_range.1 hy
        have h7 : P a y = true := by
          have h8 : y ∈ lst m (P a) := by
            have h9 : lst m (P a) = List.range m := List.Sublist.eq_of_length List.filter_sublist (by rw [List.length_range]; exact h6)
            rw [h9]; exact hy
          exact (mem_lst.1 h8).2
        refine Fin.Gen.least hC (fun z _ h8 => ?_) ((hP a ha' y hy').1 h7)
        obtain ⟨b, hb, rfl⟩ := (hc a ha' z).1 h8
        exact h3 a b ha (List.mem_range.2 hb) ha1 rfl
  · intro M
    obtain ⟨x, hx, _, hx2⟩ := M.less
    have hx := List.mem_range.1 hx
    have hx2 : ¬ x = d := by simpa using hx2
    refine ⟨by have := h.elt; omega, fun a ha => ?_⟩
    rw [Bool.or_eq_true]
    by_cases had : a = d
    · exact .inl (decide_eq_true had)
    · refine .inr ?_
      have ha' := List.mem_range.1 ha
      have hbase : P a a = true := (hP a ha' a ha').2 (Fin.Gen.base ha ((hc a ha' a).2 ⟨d, h.elt, Fin.cj_id F V ha⟩))
      have hPn : Fin.Nb (List.range m) (tm m ys) (iv m ys d) (P a) (fun _ => true) := fun z b hz hb h3 _ => by
        have hm := Fin.cj_mem F V hz hb
        refine (hP a ha' _ (List.mem_range.1 hm)).2 ?_
        refine Fin.gen_nm F V (X := fun y => cloq m ys d (pset [(a : Int)]) m y = true) (fun y c hy hc' h4 => ?_) z b hz hb ((hP a ha' z (List.mem_range.1 hz)).1 h3)
        obtain ⟨b2, hb2, rfl⟩ := (hc a ha' y).1 h4
        exact (hc a ha' _).2 ⟨_, tm_lt h.tab hb2 (List.mem_range.1 hc'), by rw [Fin.cj_cj F V ha (List.mem_range.2 hb2) hc']⟩
      rcases M.top (P a) (made_sg h (hP a ha')) (fun z _ h3 => by
          rw [decide_eq_true_eq] at h3
          rw [h3]
          exact (made_sg h (hP a ha')).one) (fun _ _ _ => rfl) hPn with h3 | h3
      · have := h3 a ha hbase
        rw [decide_eq_true_eq] at this
        exact absurd this had
      · have h4 : (lst m (P a)).length = m := by
          have : lst m (P a) = List.range m := List.filter_eq_self.2 fun y hy => h3 y hy rfl
          rw [this, List.length_range]
        simp [h4]
end
end Go.Proofs.YtjiapicknkjhmaaDoor

namespace Go.Proofs.YtjiapicknkjhmaaDoor
variable {n e : Nat} {zs : List Int} {s : Nat → Bool}

theorem last_of {P : Nat → Prop} (h0 : P 0) : ∀ K, ¬ P K → ∃ i, i < K ∧ P i ∧ ¬ P (i + 1)
  | 0, h => absurd h0 h
  | K + 1, h => by
    by_cases hK : P K
    · exact ⟨K, by omega, hK, h⟩
    · obtain ⟨i, h1, h2, h3⟩ := last_of h0 K hK
      exact ⟨i, by omega, h2, h3⟩
theorem one_only (g : IsGrp n zs e) {q : Nat → Bool} (he : q e = true) (h1 : (lst n q).length = 1) {x : Nat} (hx : x < n) (hq : q x = true) : x = e := by
  obtain ⟨d, hd⟩ := List.length_eq_one_iff.1 h1
  have m1 : e ∈ lst n q := mem_lst.2 ⟨g.elt, he⟩
  have m2 : x ∈ lst n q := mem_lst.2 ⟨hx, hq⟩
  rw [hd, List.mem_singleton] at m1 m2
  rw [m1, m2]
theorem two_of (g : IsGrp n zs e) {q : Nat → Bool} (he : q e = true) (h1 : (lst n q).length ≠ 1) : ∃ x, x < n ∧ x ≠ e ∧ q x = true := by
  refine Classical.byContradiction fun h => h1 ?_
  have h2 : lst n q = lst n (fun a => decide (a = e)) := lst_congr fun x hx => by
    rw [Bool.eq_iff_iff, decide_eq_true_eq]
    exact ⟨fun h3 => Classical.byContradiction fun h4 => h ⟨x, hx, h4, h3⟩, fun h3 => by rw [h3]; exact he⟩
  rw [h2, one_lst g.elt]
  rfl
theorem more_of (g : IsGrp n zs e) {q : Nat → Bool} (he : q e = true) {x : Nat} (hx : x < n) (hne : x ≠ e) (hq : q x = true) : 1 < (lst n q).length := by
  have h1 := List.length_pos_of_mem (mem_lst.2 ⟨g.elt, he⟩)
  refine Classical.byContradiction fun h => hne (one_only g he (by omega) hx hq)
theorem cm_flip (g : IsGrp n zs e) {a b : Nat} (ha : a < n) (hb : b < n) : tm n zs (Fin.cm (tm n zs) (iv n zs e) a b) (Fin.cm (tm n zs) (iv n zs e) b a) = e := by
  have F := grp_fg g
  have V := grp_iv g
  have ha' := List.mem_range.2 ha
  have hb' := List.mem_range.2 hb
  have c1 := Fin.cm_mem F V ha' hb'
  have c2 := Fin.cm_mem F V hb' ha'
  have hba := F.cl _ _ hb' ha'
  refine F.can hba (F.cl _ _ c1 c2) F.one ?_
  rw [← F.ass _ _ _ hba c1 c2, Fin.cm_eq F V ha' hb', Fin.cm_eq F V hb' ha', F.right _ hba]
theorem cj_cm (g : IsGrp n zs e) {a b : Nat} (ha : a < n) (hb : b < n) : Fin.cj (tm n zs) (iv n zs e) a b = tm n zs a (Fin.cm (tm n zs) (iv n zs e) a b) := by
  have F := grp_fg g
  have V := grp_iv g
  have ha' := List.mem_range.2 ha
  have hcj := Fin.cj_mem F V ha' (List.mem_range.2 hb)
  rw [cm_as g ha hb, ← F.ass _ _ _ ha' (V a ha').1 hcj, (V a ha').2.1, F.left _ hcj]
/-- The lower series. -/
noncomputable abbrev lo (n : Nat) (zs : List Int) (e i : Nat) : Nat → Bool := itr (fun q => cmb n zs e q fun _ => true) (fun _ => true) i
theorem lo_up (g : IsGrp n zs e) {i a b : Nat} (ha : a < n) (hb : b < n) (h : lo n zs e i a = true) : lo n zs e (i + 1) (Fin.cm (tm n zs) (iv n zs e) a b) = true := cmb_base g ha hb h rfl
theorem nil_grows (g : IsGrp n zs e) {K : Nat} (hin : ∀ i, i ≤ K → Nsg n zs e (lo n zs e i)) (hK : (lst n (lo n zs e K)).length = 1) (hs : subT n zs e s = true) (hno : (lst n s).length ≠ n) : (lst n s).length < (lst n (norq n zs e s)).length := by
  have F := grp_fg g
  have V := grp_iv g
  have S := subT_iff.1 hs
  have h0 : ∃ x, x < n ∧ lo n zs e 0 x = true ∧ ¬ s x = true := Classical.byContradiction fun h => hno (by
    have h1 : lst n s = lst n (fun _ => true) := lst_congr fun x hx => by
      rw [Bool.eq_iff_iff]
      exact ⟨fun _ => rfl, fun _ => Classical.byContradiction fun h2 => h ⟨x, hx, rfl, h2⟩⟩
    rw [h1]
    unfold lst
    rw [List.filter_eq_self.2 (fun _ _ => rfl), List.length_range])
  obtain ⟨i, hi, ⟨x, hx, h1, h2⟩, h3⟩ := last_of (P := fun i => ∃ x, x < n ∧ lo n zs e i x = true ∧ ¬ s x = true) h0 K (by
    rintro ⟨x, hx, h1, h2⟩
    rw [one_only g (hin K (Nat.le_refl _)).sg.one hK hx h1] at h2
    exact h2 S.one)
  have hin1 : ∀ y, y < n → lo n zs e (i + 1) y = true → s y = true := fun y hy h4 => Classical.byContradiction fun h5 => h3 ⟨y, hy, h4, h5⟩
  have key : ∀ z, z < n → lo n zs e i z = true → ∀ y, y ∈ List.range n → s y = true → s (Fin.cj (tm n zs) (iv n zs e) y z) = true := fun z hz hl y hy hsy => by
    have hyl := List.mem_range.1 hy
    have c1 := cm_lt g hz hyl
    have c2 := cm_lt g hyl hz
    have h5 := hin1 _ c1 (lo_up g hz hyl hl)
    have h6 : s (Fin.cm (tm n zs) (iv n zs e) y z) = true := S.inv F (List.mem_range.2 c1) (List.mem_range.2 c2) (cm_flip g hz hyl) h5
    rw [cj_cm g hyl hz]
    exact S.mul _ _ hy (List.mem_range.2 c2) hsy h6
  have hx' := List.mem_range.2 hx
  have hL := (hin i (by omega)).sg
  have hxi := hL.inv F hx' (V x hx').1 (V x hx').2.1 h1
  refine (lst_less (fun y hy h4 => (nor_iff y).2 (Fin.nor_sub F V S (List.mem_range.2 hy) h4))).2 ⟨x, hx, (nor_iff x).2 (Fin.nor_of F V hx' (key x hx h1) (key _ (List.mem_range.1 (V x hx').1) hxi)), h2⟩
theorem nil_meets (g : IsGrp n zs e) {K : Nat} {c : Nat → Bool} (hin : ∀ i, i ≤ K → Nsg n zs e (lo n zs e i)) (hK : (lst n (lo n zs e K)).length = 1) (hc : Nsg n zs e c) (hno : (lst n c).length ≠ 1) : 1 < (lst n (fun a => c a && cenq n zs (fun _ => true) a)).length := by
  have F := grp_fg g
  have V := grp_iv g
  obtain ⟨x0, hx0, hne0, hc0⟩ := two_of g hc.sg.one hno
  obtain ⟨i, hi, ⟨x, hx, hne, h1, h2⟩, h3⟩ := last_of (P := fun i => ∃ x, x < n ∧ x ≠ e ∧ c x = true ∧ lo n zs e i x = true) ⟨x0, hx0, hne0, hc0, rfl⟩ K (by
    rintro ⟨x, hx, h1, h2, h3⟩
    exact h1 (one_only g (hin K (Nat.le_refl _)).sg.one hK hx h3))
  have hcen : ∀ x, x < n → (∀ y, y < n → tm n zs x y = tm n zs y x) → cenq n zs (fun _ => true) x = true := fun x _ h => by
    unfold cenq
    rw [List.all_eq_true]
    exact fun y hy => decide_eq_true (h y (mem_lst.1 hy).1)
  refine more_of g ?_ hx hne ?_
  · rw [Bool.and_eq_true]
    exact ⟨hc.sg.one, hcen e g.elt fun y hy => by rw [F.left y (List.mem_range.2 hy), F.right y (List.mem_range.2 hy)]⟩
  · rw [Bool.and_eq_true]
    refine ⟨h1, hcen x hx fun y hy => (Fin.cm_one F V (List.mem_range.2 hx) (List.mem_range.2 hy)).1 ?_⟩
    exact Classical.byContradiction fun h4 => h3 ⟨_, cm_lt g hx hy, h4, hc.cm_in g hx hy h1, lo_up g hx hy h2⟩
theorem clo_nsg (g : IsGrp n zs e) {q p : Nat → Bool} (hp : ∀ a, a < n → (p a = true ↔ Mkd n zs e (cloq n zs e q n) a)) : Nsg n zs e p := by
  have F := grp_fg g
  have V := grp_iv g
  refine ⟨made_sg g hp, fun x a hx ha h => ?_⟩
  have hm := Fin.cj_mem F V hx ha
  exact (hp _ (List.mem_range.1 hm)).2 ((mkd_clo _).2 (Fin.clos_nm F V x a hx ha ((mkd_clo _).1 ((hp x (List.mem_range.1 hx)).1 h))))
end Go.Proofs.YtjiapicknkjhmaaDoor

namespace Go.Proofs.YtjiapicknkjhmaaDoor
open Go Go.RowKit

set_option maxRecDepth 100000 in
set_option maxHeartbeats 4000000 in
theorem clo_bad (N : Int) (v u0 : Value) (zs l0 : List Int) (w : World) (hv : Sl w v zs) (hu : Sl w u0 l0) (hc : (sfault N zs l0).1 ≠ 0) :
    Calls Tryd.prog 8 #[.agg #[.int .i64 N, v], u0] w fun x w' => x = .returned (.tuple #[.slice none 0 0, .agg #[.int .i64 (sfault N zs l0).1, .int .i64 (sfault N zs l0).2]]) ∧ Below w.heap.size w w' := by
  obtain ⟨w0, BG⟩ := Beg.new w N v
  have hv0 := hv.below BG.bel
  obtain ⟨c0, c1, _, _⟩ := BG.box.two
  have hck := oset_bad N v u0 zs l0 w0 hv0 (hu.below BG.bel) hc
  obtain ⟨c, i, hci⟩ : ∃ c i, sfault N zs l0 = (c, i) := ⟨_, _, rfl⟩
  rw [hci] at hck hc ⊢
  simp only at hc hck
  have HCK := hide hck
  clear hck hci
  have hcb : (c != 0) = true := by simpa using hc
  rw [BG.eq] at c0 c1
  go_enter Tryd.func8, Tryd.ntmps8
  go_wp2_with fail
  rw [← BG.eq]
  refine HCK.out.mono ?_
  rintro x w1 ⟨rfl, hb1⟩
  clear c0 c1
  obtain ⟨w2, hw2⟩ : ∃ w2, w2 = (w1.alloc (.cells #[.int .i64 0, .slice none 0 0, .int .i64 0, .slice none 0 0] 50)).alloc (.cells #[.int .i64 c, .int .i64 i] 27) := ⟨_, rfl⟩
  have hB1 : Below w0.heap.size w0 w2 := by rw [hw2]; exact bcat2 hb1 ((balloc w1 _).alloc (by simp) _)
  have hF1 : Blk w2 (w1.heap.size + 1) 27 [.int .i64 c, .int .i64 i] := by
    rw [hw2]
    have := blk0 (w := w1.alloc (.cells #[.int .i64 0, .slice none 0 0, .int .i64 0, .slice none 0 0] 50)) (T := 27) (.int .i64 c) (.int .i64 i)
    rwa [World.size_alloc] at this
  have hR1 := blk_below BG.res hB1
  have hBw := bcat BG.bel hB1 BG.bel.size
  obtain ⟨y0, y1, fy0, fy1⟩ := hR1.two
  obtain ⟨t0, t1, _, _⟩ := hF1.two
  rw [hw2] at t0 t1
  go_wp2_with fail
  rw [← hw2]
  rw [← hw2] at t0 t1
  clear hw2
  go_region
  all_goals (
    go_wp2
    obtain ⟨hR6, hB6⟩ := put2 hR1 hBw (by omega) c i
    have hB7 := bdrew hB6
    have hR7 : Blk ((w2.setCell ⟨w.heap.size + 1, 0, none⟩ (.int .i64 c)).setCell ⟨w.heap.size + 1, 1, none⟩ (.int .i64 i)).drew (w.heap.size + 1) 27 [.int .i64 c, .int .i64 i] := hR6
    generalize ((w2.setCell ⟨w.heap.size + 1, 0, none⟩ (.int .i64 c)).setCell ⟨w.heap.size + 1, 1, none⟩ (.int .i64 i)).drew = W at hR7 hB7 ⊢
    obtain ⟨z0, z1, _, _⟩ := hR7.two
    exact bodyPost_ret (v := .tuple #[.slice none 0 0, .agg #[.int .i64 c, .int .i64 i]]) (by simp [results, Tryd.results8, go_sem, z0, z1]) rfl ⟨rfl, hB7⟩)
theorem part_of_lst (n e : Nat) (v u : Value) (zs : List Int) (q : Nat → Bool) (w : World) (hv : Sl w v zs) (hg : IsGrp n zs e) (hu : Sl w u (li (lst n q))) (hT : Tab w) (hs : subT n zs e q = true) :
    Calls Tryd.prog 9 #[.agg #[.int .i64 n, v], u] w fun x w' => ∃ r1 r2 r3, x = .returned (.tuple #[.agg #[.int .i64 (lst n q).length, .slice r1 r2 r3], .agg #[.int .i64 0, .int .i64 0]]) ∧ Sl w' (.slice r1 r2 r3) (mkT (lst n q).length (parF n zs (lst n q))) ∧ Below w.heap.size w w' := by
  have h := part_good n e v u zs (li (lst n q)) w hv hg hu hT (lst_fault n q) ((subT_congr hg fun a ha => pset_lst ha).trans hs)
  rwa [lst_pset] at h
theorem pfault_zero {n e : Nat} {zs : List Int} {p : Int} (g : IsGrp n zs e) (h : primeB p = true) : pfault n zs p = (0, 0) := by
  unfold pfault
  rw [h, if_neg (by simp), gfault_of_grp g]
theorem call14 (a x y : Value) (W : World) : Sem.run Tryd.prog (callFunc 14 (#[a] ++ #[x, y])) W = .ok (.enter 14 (#[a] ++ #[x, y])) W := by kernel_rfl
set_option maxRecDepth 100000 in
set_option maxHeartbeats 2000000 in
theorem fra1_ok (hb nb : Nat) (h1 : Option Addr) (h2 h3 : Nat) (n1 : Option Addr) (n2 n3 : Nat) (hl nl : List Int) (a : Int) (w : World) (hH : Boxed w hb 22 (.slice h1 h2 h3)) (hN : Boxed w nb 22 (.slice n1 n2 n3)) (hs : Sl w (.slice h1 h2 h3) hl) (ns : Sl w (.slice n1 n2 n3) nl) :
    Calls Tryd.prog 14 #[.int .i64 a, .pointer (some ⟨hb, 0, none⟩), .pointer (some ⟨nb, 0, none⟩)] w fun x w' => x = .returned (.bool (decide (a ∈ hl) || decide (a ∈ nl))) ∧ w' = w := by
  have c0 := hH.cell
  have c1 := hN.cell
  have HA := hide (rhas_ok (.slice h1 h2 h3) hl a w hs)
  have HB := hide (rhas_ok (.slice n1 n2 n3) nl a w ns)
  cases hh : decide (a ∈ hl) with
  | true =>
    rw [hh] at HA
    go_enter Tryd.func14, Tryd.ntmps14
    go_wp2_with fail
    refine HA.out.mono ?_
    rintro x w1 ⟨rfl, rfl⟩
    go_wp2
    go_ret
    exact ⟨rfl, rfl⟩
  | false =>
    rw [hh] at HA
    cases hn : decide (a ∈ nl) with
    | true =>
      rw [hn] at HB
      go_enter Tryd.func14, Tryd.ntmps14
      go_wp2_with fail
      refine HA.out.mono ?_
      rintro x w1 ⟨rfl, rfl⟩
      go_wp2_with fail
      refine HB.out.mono ?_
      rintro x w2 ⟨rfl, rfl⟩
      go_wp2
      go_ret
      exact ⟨rfl, rfl⟩
    | false =>
      rw [hn] at HB
      go_enter Tryd.func14, Tryd.ntmps14
      go_wp2_with fail
      refine HA.out.mono ?_
      rintro x w1 ⟨rfl, rfl⟩
      go_wp2_with fail
      refine HB.out.mono ?_
      rintro x w2 ⟨rfl, rfl⟩
      go_wp2
      go_ret
      exact ⟨rfl, rfl⟩
/-- What stays true while the law goes on. -/
structure FS (w : World) (n : Nat) (v nv : Value) (b : Nat) (NL : List Int) (W : World) : Prop where
  bel : Below w.heap.size w W
  x : BoxG W w.heap.size n v
  nb : Boxed W b 22 nv
  f : Blk W (b + 1) 27 [.int .i64 0, .int .i64 0]
  sn : Sl W nv NL
theorem FS.below {w : World} {n : Nat} {v nv : Value} {b : Nat} {NL : List Int} {W W' : World} (h : FS w n v nv b NL W) (hb : Below W.heap.size W W') : FS w n v nv b NL W' :=
  ⟨bcat2 h.bel hb, blk_below h.x hb, Boxed.below h.nb hb, blk_below h.f hb, h.sn.below hb⟩
set_option maxRecDepth 100000 in
set_option maxHeartbeats 4000000 in
theorem sfra_bad1 (N p : Int) (v1 : Option Addr) (v2 v3 : Nat) (u : Value) (zs : List Int) (w : World) (hv : Sl w (.slice v1 v2 v3) zs) (hT : Tab w) (hc : (pfault N zs p).1 ≠ 0) :
    Calls Tryd.prog 3 #[.agg #[.int .i64 N, .slice v1 v2 v3], .int .i64 p, u] w fun e w' => e = .returned (.bool true) ∧ Below w.heap.size w w' := by
  have HPF := hide (fun W (h : Below w.heap.size w W) => pf_ok N p (.slice v1 v2 v3) zs W (hv.below h))
  generalize pfault N zs p = pf at *
  obtain ⟨c, i⟩ := pf
  simp only at hc HPF
  have hcb : (c != 0) = true := by simpa using hc
  have hfld : ∀ W, Sem.run Tryd.prog (Instr.field 27 (.agg #[.int .i64 c, .int .i64 i]) 0) W = .ok (.int .i64 c) W := fun W => by kernel_rfl
  have hB0 : Below w.heap.size w (w.alloc (.cells #[.int .i64 N, .slice v1 v2 v3] 24)) := balloc w _
  have hX0 : BoxG (w.alloc (.cells #[.int .i64 N, .slice v1 v2 v3] 24)) w.heap.size N (.slice v1 v2 v3) := blk0 (w := w) (T := 24) _ _
  go_enter Tryd.func3, Tryd.ntmps3
  go_wp2_with fail
  generalize w.alloc (.cells #[.int .i64 N, .slice v1 v2 v3] 24) = w0 at *
  refine (sylowBegun_any _ (hT.below hB0)).mono ?_
  rintro x w1 ⟨rfl, hb1⟩
  have hB1 := bcat2 hB0 hb1
  have hX1 := blk_below hX0 hb1
  obtain ⟨c0, c1, _, _⟩ := hX1.two
  go_wp2_with fail
  clear c0 c1
  refine (HPF.out _ hB1).mono ?_
  rintro x w2 ⟨rfl, hb2⟩
  go_wp2
  go_ret
  exact ⟨rfl, bcat2 hB1 hb2⟩
set_option maxRecDepth 100000 in
set_option maxHeartbeats 4000000 in
theorem sfra_bad2 (n e p : Nat) (v1 : Option Addr) (v2 v3 : Nat) (u : Value) (zs ls : List Int) (w : World) (hv : Sl w (.slice v1 v2 v3) zs) (hu : Sl w u ls) (hg : IsGrp n zs e) (hT : Tab w) (hpr : primeB p = true) (hlf : (lfault n ls).1 ≠ 0) :
    Calls Tryd.prog 3 #[.agg #[.int .i64 n, .slice v1 v2 v3], .int .i64 p, u] w fun e w' => e = .returned (.bool true) ∧ Below w.heap.size w w' := by
  have HPF := hide (fun W (h : Below w.heap.size w W) => pf_ok n p (.slice v1 v2 v3) zs W (hv.below h))
  rw [pfault_zero hg hpr] at HPF
  have HMB := hide (fun W (h : Below w.heap.size w W) => clo_bad n (.slice v1 v2 v3) u zs ls W (hv.below h) (hu.below h) (by rw [sfault_l hg]; exact hlf))
  rw [sfault_l hg] at HMB
  generalize lfault n ls = lf at *
  obtain ⟨c, i⟩ := lf
  simp only at hlf HMB
  have hcb : (c != 0) = true := by simpa using hlf
  have hfld : ∀ W, Sem.run Tryd.prog (Instr.field 27 (.agg #[.int .i64 0, .int .i64 0]) 0) W = .ok (.int .i64 0) W := fun W => by kernel_rfl
  have hB0 : Below w.heap.size w (w.alloc (.cells #[.int .i64 n, .slice v1 v2 v3] 24)) := balloc w _
  have hX0 : BoxG (w.alloc (.cells #[.int .i64 n, .slice v1 v2 v3] 24)) w.heap.size n (.slice v1 v2 v3) := blk0 (w := w) (T := 24) _ _
  go_enter Tryd.func3, Tryd.ntmps3
  go_wp2_with fail
  generalize w.alloc (.cells #[.int .i64 n, .slice v1 v2 v3] 24) = w0 at *
  refine (sylowBegun_any _ (hT.below hB0)).mono ?_
  rintro x w1 ⟨rfl, hb1⟩
  have hB1 := bcat2 hB0 hb1
  have hX1 := blk_below hX0 hb1
  obtain ⟨c0, c1, _, _⟩ := hX1.two
  go_wp2_with fail
  clear c0 c1
  refine (HPF.out _ hB1).mono ?_
  rintro x w2 ⟨rfl, hb2⟩
  have hB2 := bcat2 hB1 hb2
  have hX2 := blk_below hX1 hb2
  obtain ⟨c0, c1, _, _⟩ := hX2.two
  go_wp2_with fail
  clear c0 c1
  refine (HMB.out _ hB2).mono ?_
  rintro x w3 ⟨rfl, hb3⟩
  obtain ⟨w4, hw4⟩ : ∃ w4, w4 = (w3.alloc (.cells #[.slice none 0 0] 22)).alloc (.cells #[.int .i64 c, .int .i64 i] 27) := ⟨_, rfl⟩
  have hbw4 : Below w3.heap.size w3 w4 := by rw [hw4]; exact (balloc w3 _).alloc (by simp) _
  have hF4 : Blk w4 (w3.heap.size + 1) 27 [.int .i64 c, .int .i64 i] := by
    rw [hw4]
    have := blk0 (w := w3.alloc (.cells #[.slice none 0 0] 22)) (T := 27) (.int .i64 c) (.int .i64 i)
    rwa [World.size_alloc] at this
  obtain ⟨f0, f1, _, _⟩ := hF4.two
  rw [hw4] at f0 f1
  go_wp2
  rw [← hw4]
  go_ret
  exact ⟨rfl, bcat2 hB2 (bcat2 hb3 hbw4)⟩
end Go.Proofs.YtjiapicknkjhmaaDoor
