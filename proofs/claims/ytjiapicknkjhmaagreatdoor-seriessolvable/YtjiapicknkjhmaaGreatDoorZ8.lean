/- Package quot's Part: a subgroup as a group of its own. Condition: the library's table of places lies as its text lays it. A subgroup as a group of its own, as mathematics. Sylow's theorems about what All answers: each thing whose order is a power of p is in one of them, all have as many things, and how many things have such an order is a multiple of that. No condition. What the law SylowAll asks of mathematics: of what All answers. No condition. FRATTINI'S ARGUMENT as mathematics: a normal subgroup, and what one of its Sylow subgroups is conjugated by without a change, make all. No condition. Package set's In, slices.Index and package series' places. No condition. Package sub's Is, package coset's Right. Condition: the library's table of places lies as its text lays it. -/
import Derived.Test.YtjiapicknkjhmaaGreatDoorZ7
import Derived.BigQuiet
import Derived.Deep.AppendLies
import Derived.Deep.DeepCutAuto
import Derived.Deep.RegionLaw
import Derived.Laws.EntriesVeiled
import Derived.Maps.AppendAt
import Derived.Maps.Ext
import Derived.Maps.OwnOps
import Derived.Maps.OwnSet
import Derived.Test.YtjiapicknkjhmaaGreatDoorZ6
namespace Go.Proofs.YtjiapicknkjhmaaGreatDoor
open Go Go.RowKit Go.Maps

set_option maxRecDepth 100000 in
set_option maxHeartbeats 4000000 in
theorem part_bad (N : Int) (v u : Value) (zs l : List Int) (w : World) (hv : Sl w v zs) (hu : Sl w u l) (hT : Tab w) (hc : (ufault N zs l).1 ≠ 0) :
    Calls Tryz.prog 17 #[.agg #[.int .i64 N, v], u] w fun x w' => x = .returned (.tuple #[.agg #[.int .i64 0, .slice none 0 0], .agg #[.int .i64 (ufault N zs l).1, .int .i64 (ufault N zs l).2]]) ∧ Below w.heap.size w w' := by
  obtain ⟨w0, BG⟩ := BegQ.new w N v
  have HN := hide (nrm_bad N v u zs l w0 (hv.below BG.bel) (hu.below BG.bel) (hT.below BG.bel) hc)
  obtain ⟨c0, c1, _, _⟩ := BG.box.two
  obtain ⟨c, i, hci⟩ : ∃ c i, ufault N zs l = (c, i) := ⟨_, _, rfl⟩
  rw [hci] at HN hc ⊢
  simp only at HN hc ⊢
  clear hci
  have hcb : (c != 0) = true := by simpa using hc
  rw [BG.eq] at c0 c1
  go_enter Tryz.func17, Tryz.ntmps17
  go_wp2_with fail
  rw [← BG.eq]
  clear c0 c1
  refine HN.out.mono ?_
  rintro x w1 ⟨rfl, hb1⟩
  have hb2 := bcat2 hb1 (balloc w1 (.cells #[.int .i64 c, .int .i64 i] 28))
  have hF2 := blk0 (w := w1) (T := 28) (.int .i64 c) (.int .i64 i)
  have hBw := bcat BG.bel hb2 BG.bel.size
  have hG2 := blk_below BG.grp hb2
  have hR2 := blk_below BG.res hb2
  obtain ⟨t0, t1, _, _⟩ := hF2.two
  obtain ⟨y0, y1, fy0, fy1⟩ := hR2.two
  obtain ⟨g0, g1, fg0, fg1⟩ := hG2.two
  obtain ⟨s0, s1⟩ := hG2.self
  obtain ⟨hR6, hB6⟩ := put2 hR2 hBw (by omega) c i
  have hG6 := (hG2.other (p := ⟨w.heap.size + 1 + 1, 0, none⟩) (by simp) (.int .i64 c)).other (p := ⟨w.heap.size + 1 + 1, 1, none⟩) (by simp) (.int .i64 i)
  obtain ⟨g2, g3, fg2, fg3⟩ := hG6.two
  obtain ⟨s2, s3⟩ := hG6.self
  go_wp2_with fail
  go_region
  all_goals (
    go_wp2
    obtain ⟨z0, z1, _, _⟩ := hR6.two
    exact bodyPost_ret (v := .tuple #[.agg #[.int .i64 0, .slice none 0 0], .agg #[.int .i64 c, .int .i64 i]]) (by simp [results, Tryz.results17, go_sem, z0, z1, g2, g3]) rfl ⟨rfl, bdrew hB6⟩)
/-- Lists of one number each. -/
def sgl (l : List Int) : List (List Int) := l.map fun x => [x]
theorem sgl_len (l : List Int) : (sgl l).length = l.length := by simp [sgl]
theorem sgl_get {l : List Int} {i : Nat} (h : i < l.length) : (sgl l)[i]?.getD [] = [l[i]?.getD 0] := by simp [sgl, h]
theorem sgl_succ {l : List Int} {j : Nat} (h : j < l.length) : sgl (l.take (j + 1)) = sgl (l.take j) ++ [[l[j]?.getD 0]] := by
  unfold sgl
  rw [List.take_add_one, List.map_append, List.getElem?_eq_getElem h]
  simp
theorem sgl_mem {l : List Int} {t : Nat} {x : Int} (h : x ∈ (sgl l)[t]?.getD []) : ∃ ht : t < l.length, x = l[t] := by
  by_cases ht : t < l.length
  · refine ⟨ht, ?_⟩
    simp [sgl, ht] at h
    exact h
  · simp [sgl, ht] at h
/-- Where a thing stands in a list. -/
def place (xs : List Nat) (a : Nat) : Nat := xs.findIdx fun b => decide (b = a)
theorem place_at {xs : List Nat} {a : Nat} (h : a ∈ xs) : ∃ hl : place xs a < xs.length, xs[place xs a] = a := by
  have hl : place xs a < xs.length := List.findIdx_lt_length_of_exists ⟨a, h, by simp⟩
  have h9 := List.findIdx_getElem (w := hl)
  exact ⟨hl, of_decide_eq_true h9⟩
/-- Products, by places. -/
def parF (n : Nat) (zs : List Int) (xs : List Nat) (i j : Nat) : Nat := place xs (tm n zs (xs[i]?.getD 0) (xs[j]?.getD 0))
set_option maxRecDepth 100000 in
set_option maxHeartbeats 8000000 in
theorem part_good (n e : Nat) (v u : Value) (zs l : List Int) (w : World) (hv : Sl w v zs) (hg : IsGrp n zs e) (hu : Sl w u l) (hT : Tab w) (hl : lfault n l = (0, 0)) (hsb : subT n zs e (pset l) = true) :
    Calls Tryz.prog 17 #[.agg #[.int .i64 n, v], u] w fun x w' => ∃ r1 r2 r3, x = .returned (.tuple #[.agg #[.int .i64 (lst n (pset l)).length, .slice r1 r2 r3], .agg #[.int .i64 0, .int .i64 0]]) ∧ Sl w' (.slice r1 r2 r3) (mkT (lst n (pset l)).length (parF n zs (lst n (pset l)))) ∧ Below w.heap.size w w' := by
  obtain ⟨i0, hi, hz0, hz1, hz2⟩ := info_parts info22b
  have hn := hg.tab.le
  have hli := set_lst (show (lfault n l).1 = 0 by rw [hl])
  obtain ⟨xs, hxs⟩ : ∃ xs, xs = lst n (pset l) := ⟨_, rfl⟩
  rw [← hxs] at hli ⊢
  have hxl : xs.length ≤ 60 := by
    have : xs.length ≤ n := by rw [hxs]; unfold lst; exact Nat.le_trans (List.length_filter_le _ _) (by simp)
    omega
  have hll : l.length = xs.length := by
    have := congrArg List.length hli
    rw [li_len] at this
    exact this
  have hget : ∀ i, (h : i < xs.length) → l[i]?.getD 0 = (xs[i] : Int) := fun i h => by rw [hli]; simp [li, h]
  have hxn : ∀ i, (h : i < xs.length) → xs[i] < n := fun i h => by
    have := List.getElem_mem h
    generalize xs[i] = y at *
    rw [hxs] at this
    exact (mem_lst.1 this).1
  have hnd : xs.Nodup := by rw [hxs]; exact List.nodup_range.sublist List.filter_sublist
  have hcl : ∀ i j, (h1 : i < xs.length) → (h2 : j < xs.length) → tm n zs xs[i] xs[j] ∈ xs := fun i j h1 h2 => by
    have m1 := List.getElem_mem h1
    have m2 := List.getElem_mem h2
    generalize xs[i] = y at *
    generalize xs[j] = z at *
    rw [hxs] at m1 m2 ⊢
    obtain ⟨a1, a2⟩ := mem_lst.1 m1
    obtain ⟨b1, b2⟩ := mem_lst.1 m2
    exact mem_lst.2 ⟨tm_lt hg.tab a1 b1, sub_mul hsb a1 b1 a2 b2⟩
  have HNUM := hide (fun W v9 (h : SlL W v9 (sgl l)) => numbers_ok v9 (sgl l) W h (by rw [sgl_len, hll]; exact hxl) (fun t ht => by rw [sgl_len] at ht; rw [sgl_get ht]; simp) (fun t a ha => by
    obtain ⟨ht, rfl⟩ := sgl_mem ha
    have h1 := hget t (by omega)
    have h2 := hxn t (by omega)
    rw [List.getElem?_eq_getElem ht, Option.getD_some] at h1
    omega) (fun s t a h1 h2 => by
    obtain ⟨hs, e1⟩ := sgl_mem h1
    obtain ⟨ht, e2⟩ := sgl_mem h2
    have h3 := hget s (by omega)
    have h4 := hget t (by omega)
    rw [List.getElem?_eq_getElem hs, Option.getD_some] at h3
    rw [List.getElem?_eq_getElem ht, Option.getD_some] at h4
    rcases Nat.lt_trichotomy s t with h | h | h
    · exact absurd (show xs[s]'(by omega) = xs[t]'(by omega) by omega) (List.pairwise_iff_getElem.1 hnd s t (by omega) (by omega) h)
    · exact h
    · exact absurd (show xs[t]'(by omega) = xs[s]'(by omega) by omega) (List.pairwise_iff_getElem.1 hnd t s (by omega) (by omega) h)))
  have HAT := hide (fun (D : DataW Unit) (h : MLs (sgl l) (sgl l).length 0 D) a (ha : a ∈ xs) => h.old (place xs a) (by
    obtain ⟨h1, _⟩ := place_at ha
    rw [sgl_len]; omega) a (by
    obtain ⟨h1, h2⟩ := place_at ha
    rw [sgl_get (by omega), hget _ h1, h2]
    simp))
  have HGR := hide (fun W lv mb c (D : DataW Unit) (h : Below w.heap.size w W) (hL : SlL W lv (sgl l)) (hm : W.ownsMap Tryz.prog 3 (plainElem Tryz.prog 3) mb c D) (hM : MLs (sgl l) (sgl l).length 0 D) =>
    group_ok n xs.length v lv zs (sgl l) (fun i => xs[i]?.getD 0) (parF n zs xs) mb c D W hg.tab (hv.below h) hL (by rw [sgl_len]; exact hll) hxl (fun i hi => by
      refine ⟨[], ?_, ?_⟩
      · rw [sgl_get (by omega), hget i hi, List.getElem?_eq_getElem hi]; rfl
      · rw [List.getElem?_eq_getElem hi]; exact hxn i hi) hm (fun i j hi hj => by
      unfold parF
      simp only [List.getElem?_eq_getElem hi, List.getElem?_eq_getElem hj, Option.getD_some]
      exact HAT.out D hM _ (hcl i j hi hj)) (fun i j hi hj => by
      unfold parF
      simp only [List.getElem?_eq_getElem hi, List.getElem?_eq_getElem hj, Option.getD_some]
      obtain ⟨h1, _⟩ := place_at (hcl i j hi hj)
      omega))
  obtain ⟨w0, BG⟩ := BegQ.new w n v
  have HN := hide (nrm_good n e v u zs l w0 (hv.below BG.bel) hg (hu.below BG.bel) (hT.below BG.bel) hl hsb)
  obtain ⟨bb, hbb⟩ : ∃ bb, bb = nrmq n zs e (pset l) := ⟨_, rfl⟩
  rw [← hbb] at HN
  have HU := hide hu
  obtain ⟨ua, uc, ub, uo, rfl, hur, hub, _, hum⟩ := hu
  have HUR := hide hur
  clear hbb hget hxn hnd hcl hur
  have HXS := hide hxs
  have HLI := hide hli
  have HLL := hide hll
  have HXL := hide hxl
  clear hxs hli hll hxl
  have HL6 := hide (show l.length ≤ 60 by rw [HLL.out]; exact HXL.out)
  obtain ⟨c0, c1, _, _⟩ := BG.box.two
  rw [BG.eq] at c0 c1
  go_enter Tryz.func17, Tryz.ntmps17
  go_wp2_with fail
  rw [← BG.eq]
  clear c0 c1
  refine HN.out.mono ?_
  rintro x w1 ⟨rfl, hb1⟩
  have hb2 := bcat2 hb1 (balloc w1 (.cells #[.int .i64 0, .int .i64 0] 28))
  have hF2 := blk0 (w := w1) (T := 28) (.int .i64 0) (.int .i64 0)
  have hBw := bcat BG.bel hb2 BG.bel.size
  have hX2 := blk_below BG.box hb2
  have hG2 := blk_below BG.grp hb2
  have hR2 := blk_below BG.res hb2
  obtain ⟨t0, t1, _, _⟩ := hF2.two
  go_wp2
  generalize w1.alloc (.cells #[.int .i64 0, .int .i64 0] 28) = w2 at *
  clear t0 t1 hb1 hb2 hF2
  have hum9 : l.length ≤ 9223372036854775807 := by unfold maxLen at hum; omega
  go_loopw [8, 24] (fun r i wr => ∃ (j : Nat) (vs : List Value), j ≤ l.length ∧ i = .int .i64 j ∧ wr.ownsRow w2.heap.size 22 1 r vs.length vs ∧ Lsts wr w2.heap.size r vs (sgl (l.take j)) ∧ Below w2.heap.size w2 wr) (fun _ i _ => l.length - (intOf i).toNat)
  case atStart => exact ⟨0, [], Nat.zero_le _, rfl, World.ownsRow_nil _ _ _ _, ⟨rfl, fun t x l h => by simp at h⟩, Below.refl _ _⟩
  case round =>
    obtain ⟨j, vs, hj, rfl, hrow, hls, hB⟩ := hrel
    obtain ⟨ra, rcap, rfl⟩ := own_slice' hrow
    have HVL := hide (show vs.length = j by rw [hls.1, sgl_len, List.length_take]; omega)
    by_cases hlt : j < l.length
    · have hji : (j : Int) < (l.length : Int) := by omega
      obtain rfl := HUR.out.at_ (by omega)
      have cx := below_cell (bcat2 hBw hB) (HUR.out.cell j hlt)
      have HST := hide (sgl_succ hlt)
      generalize l[j]?.getD 0 = x at *
      have hrow9 := (World.ownsRow.alloc (World.ownsRow.alloc hrow (.cells #[.int .i64 x] 3)) (.cells #[.slice (some ⟨wr.heap.size, 0, none⟩) 1 1] 22))
      go_wp2_with (first
        | (at_builtin; refine wpList_append_own_at _ rfl _ _ 25 rfl w2.heap.size 22 i0 (.slice none 0 0) 1 24 under25b hi hz0 hz1 hz2 rfl (by decide) _ _ _ rfl hrow9 ⟨wr.heap.size + 1, 0, none⟩ 1 1 [.slice (some ⟨wr.heap.size, 0, none⟩) 1 1] rfl rfl ?c1 ?c2 ?c3 ?c4 ?c5 ?_))
      case c1 =>
        have h9 := cell_one_new (wr.alloc (.cells #[.int .i64 x] 3)) (.slice (some ⟨wr.heap.size, 0, none⟩) 1 1) 22
        rw [World.size_alloc] at h9
        exact h9
      case c2 => simp [Value.oneCell']
      case c3 => unfold maxLen; have := HVL.out; have := HL6.out; omega
      case c4 => have := HVL.out; have := HL6.out; omega
      case c5 => have := hB.size; simp; omega
      intro v' w4 hown' hgrow hnil hloc
      obtain ⟨ra', rcap', rfl⟩ := own_slice' hown'
      have hB4 : Below w2.heap.size w2 w4 := ((hB.alloc hB.size _).alloc (by have := hB.size; simp; omega) _).grown hgrow (by have := hB.size; simp; omega) (fun t e => by have := owns_ge hrow t e; omega)
      have hown2 : ∀ g, (Value.slice ra vs.length rcap).ownBlock = some g → g < wr.heap.size := fun g hg => by
        rcases hrow.2 with ⟨h1, _⟩ | ⟨g', cap, cur, h1, _, hh9, _⟩
        · rw [h1] at hg; simp [Value.ownBlock] at hg
        · rw [h1] at hg
          simp [Value.ownBlock] at hg
          subst hg
          exact (Array.getElem?_eq_some_iff.1 hh9).1
      have hbl : ∀ g, g < wr.heap.size → (Value.slice ra vs.length rcap).ownBlock ≠ some g → w4.heap[g]? = wr.heap[g]? := fun g h1 h2 => (hgrow.block g (by simp; omega) (fun e => h2 e.symm)).trans ((Below.heap_alloc _ _ g (by simp; omega)).trans (Below.heap_alloc _ _ g h1))
      have hs4 : wr.heap.size + 2 ≤ w4.heap.size := by have := hgrow.size; simp at this; omega
      have hnew : w4.heap[wr.heap.size]? = some (.cells #[.int .i64 x] 3) := ((hgrow.block _ (by simp; omega) (fun e => by have := hown2 _ e.symm; omega)).trans (Below.heap_alloc _ _ _ (by simp))).trans (World.alloc_heap_new wr _)
      have hlo : (Value.slice ra' (vs.length + 1) rcap').ownBlock = (Value.slice ra vs.length rcap).ownBlock ∨ ∀ g, (Value.slice ra' (vs.length + 1) rcap').ownBlock = some g → wr.heap.size + 2 ≤ g := by
        rcases hloc with h | h
        · exact .inl h
        · right; intro g hg; rw [h] at hg; simp at hg; omega
      have hcx : w4.cell? ⟨wr.heap.size, 0 + 0, none⟩ = some (.int .i64 x) := by simp [World.cell?, hnew]
      have hls4 := (hls.keep (r' := .slice ra' (vs.length + 1) rcap') (by omega) (fun g _ h2 h3 => hbl g h2 h3) (hlo.imp id fun h g hg => by have := h g hg; omega)).snoc (x := .slice (some ⟨wr.heap.size, 0, none⟩) 1 1) (l := [x]) ⟨some ⟨wr.heap.size, 0, none⟩, 1, wr.heap.size, 0, rfl, ⟨fun _ => rfl, fun k hk => by
        have : k = 0 := by simp at hk; omega
        subst this
        exact hcx⟩, by omega, by simp, by unfold maxLen; omega, hB.size, fun g hg e => by
        subst e
        rcases hlo with h | h
        · have := hown2 _ (h ▸ hg); omega
        · have := h _ hg; omega⟩
      have hrow4 : w4.ownsRow w2.heap.size 22 1 (.slice ra' (vs.length + 1) rcap') (vs ++ [Value.slice (some ⟨wr.heap.size, 0, none⟩) 1 1]).length (vs ++ [Value.slice (some ⟨wr.heap.size, 0, none⟩) 1 1]) := by simpa using hown'
      clear hown' hgrow hloc hlo hbl hrow hls hrow9 hown2 hnew hcx hs4
      go_wp2
      go_roundw
      case rel => exact ⟨j + 1, _, by omega, by go_num, hrow4, by rw [HST.out]; exact hls4, hB4⟩
      case measure => simp [intOf]; omega
    · have hji : ¬ (j : Int) < (l.length : Int) := by omega
      have hjl : l.take j = l := List.take_of_length_le (by omega)
      rw [hjl] at hls
      have hBr := bcat2 hBw hB
      have hsl := SlL.of_own hrow hls (Nat.lt_of_lt_of_le hT.lt hBr.size)
      have hX := blk_below hX2 hB
      have hG := blk_below hG2 hB
      have hR := blk_below hR2 hB
      have hRl := hR.lt
      clear hjl hrow hls
      have HNW := hide (fun W (h : SlL W (.slice ra vs.length rcap) (sgl l)) => HNUM.out W _ h)
      go_wp2_with fail
      have hS9 : (fun W => W.cell? ⟨w.heap.size, 0, none⟩ = some (.int .i64 n) ∧ W.cell? ⟨w.heap.size, 1, none⟩ = some v) wr.drew := ⟨hX.two.1, hX.two.2.1⟩
      refine wp_region_held_drew (S := (fun W => W.cell? ⟨w.heap.size, 0, none⟩ = some (.int .i64 n) ∧ W.cell? ⟨w.heap.size, 1, none⟩ = some v)) (by kernel_rfl) hS9 (fun hHeld => ?_)
      refine wpAnyH_take (i := 0) (oi := ({ dst := some 34, op := Go.Op.load 24 (Go.Operand.tmp 2), type := 24, pos := _, after := #[], guard := none } : Oper)) (v := ?_) rfl (by kernel_rfl) (by kernel_rfl) (by kernel_rfl) (fun _ _ _ h => h) (Or.inl ⟨by rfl, ?_⟩) (by assumption) ?_
      rotate_left
      · (intro w hSw; (try dsimp only at hSw); go_simp; try with_reducible rfl)
      simp only [Act.put, List.setIfInBounds_toArray, List.set_cons_zero, List.set_cons_succ]
      refine wpAnyH_take (i := 1) (oi := ({ dst := some 35, op := Go.Op.move (Go.Operand.tmp 8), type := 25, pos := _, after := #[], guard := none } : Oper)) (v := ?_) rfl (by kernel_rfl) (by kernel_rfl) (by kernel_rfl) (fun _ _ _ h => h) (Or.inl ⟨by rfl, ?_⟩) (by assumption) ?_
      rotate_left
      · (intro w hSw; (try dsimp only at hSw); go_simp; try with_reducible rfl)
      simp only [Act.put, List.setIfInBounds_toArray, List.set_cons_zero, List.set_cons_succ]
      refine wpAnyH_take (i := 2) (oi := ({ dst := some 36, op := Go.Op.move (Go.Operand.tmp 8), type := 25, pos := _, after := #[], guard := none } : Oper)) (v := ?_) rfl (by kernel_rfl) (by kernel_rfl) (by kernel_rfl) (fun _ _ _ h => h) (Or.inl ⟨by rfl, ?_⟩) (by assumption) ?_
      rotate_left
      · (intro w hSw; (try dsimp only at hSw); go_simp; try with_reducible rfl)
      simp only [Act.put, List.setIfInBounds_toArray, List.set_cons_zero, List.set_cons_succ]
      refine wpAnyH_take (i := 5) (oi := ({ dst := some 39, op := Go.Op.build 28 #[], type := 28, pos := _, after := #[{ on := 6, ground := Go.Ground.gcOnly Go.Departure.lateStores }], guard := none } : Oper)) (v := ?_) rfl (by kernel_rfl) (by kernel_rfl) (by kernel_rfl) (fun _ _ _ h => h) (Or.inl ⟨by rfl, ?_⟩) (by assumption) ?_
      rotate_left
      · (intro w hSw; (try dsimp only at hSw); go_simp; try with_reducible rfl)
      simp only [Act.put, List.setIfInBounds_toArray, List.set_cons_zero, List.set_cons_succ]
      refine wpAnyH_ready (rs := [3]) (by kernel_rfl) (by simp) (AllReadyH.cons (o := ({ dst := some 37, op := Go.Op.call { callee := Go.Callee.value (Go.Operand.func 47), args := #[Go.Operand.tmp 36], argTypes := #[25] }, type := 75, pos := _, after := #[{ on := 2, ground := Go.Ground.data }], guard := none } : Oper)) rfl (fun KK hK => ?_) AllReadyH.nil)
      go_simp
      refine (HNW.out wr.drew (hsl.below (bdrew (Below.refl _ _)))).mono ?_
      rintro x w4 ⟨D, rfl, hmap, hML, hb4⟩
      have hbd := bcat2 (bdrew (Below.refl wr.heap.size wr)) hb4
      have hX4 := blk_below hX hbd
      try go_wp2_with fail
      refine hK.out _ _ ⟨hX4.two.1, hX4.two.2.1⟩ (fun hHeld => ?_)
      clear hK
      try simp only [Act.put, List.setIfInBounds_toArray, List.set_cons_zero, List.set_cons_succ]
      refine wpAnyH_ready (rs := [4]) (by kernel_rfl) (by simp) (AllReadyH.cons (o := ({ dst := some 38, op := Go.Op.call { callee := Go.Callee.value (Go.Operand.func 46), args := #[Go.Operand.tmp 34, Go.Operand.tmp 35, Go.Operand.tmp 37], argTypes := #[24, 25, 75] }, type := 24, pos := _, after := #[{ on := 0, ground := Go.Ground.data }, { on := 1, ground := Go.Ground.data }, { on := 3, ground := Go.Ground.data }, { on := 3, ground := Go.Ground.chain }], guard := none } : Oper)) rfl (fun KK hK => ?_) AllReadyH.nil)
      go_simp
      refine (HGR.out w4 _ _ _ D (bcat2 hBr hbd) (hsl.below hbd) hmap hML).mono ?_
      rintro x w6 ⟨r, rfl, hrow, hb6⟩
      have hb46 := bcat2 hbd hb6
      have hG6 := blk_below hG hb46
      have hR6 := blk_below hR hb46
      have hX6 := blk_below hX hb46
      have hB6 := bcat2 hBr hb46
      try go_wp2_with fail
      refine hK.out _ _ ⟨hX6.two.1, hX6.two.2.1⟩ (fun hHeld => ?_)
      clear hK
      try simp only [Act.put, List.setIfInBounds_toArray, List.set_cons_zero, List.set_cons_succ]
      obtain ⟨T, hTe⟩ : ∃ T, T = mkT xs.length (parF n zs xs) := ⟨_, rfl⟩
      rw [← hTe] at hrow
      have HTE := hide hTe
      clear hTe
      obtain ⟨rx, rcap9, rfl⟩ := own_slice hrow
      obtain ⟨g0, g1, fg0, fg1⟩ := hG6.two
      have hG7 := (hG6.set 0 (.int .i64 xs.length)).set 1 (.slice rx T.length rcap9)
      have hR7 := (hR6.other (p := ⟨w.heap.size + 1, 0, none⟩) (by simp) (.int .i64 xs.length)).other (p := ⟨w.heap.size + 1, 1, none⟩) (by simp) (.slice rx T.length rcap9)
      have hX7 := (hX6.other (p := ⟨w.heap.size + 1, 0, none⟩) (by simp) (.int .i64 xs.length)).other (p := ⟨w.heap.size + 1, 1, none⟩) (by simp) (.slice rx T.length rcap9)
      have hB7 := (hB6.setCell (p := ⟨w.heap.size + 1, 0, none⟩) (by simp) (.int .i64 xs.length)).setCell (p := ⟨w.heap.size + 1, 1, none⟩) (by simp) (.slice rx T.length rcap9)
      have hb4s := hbd.size
      have hrow7 := row_keep (W' := (w6.setCell ⟨w.heap.size + 1, 0, none⟩ (.int .i64 xs.length)).setCell ⟨w.heap.size + 1, 1, none⟩ (.slice rx T.length rcap9)) hrow (fun g h1 _ => (Below.heap_setCell _ _ _ g (by simp; omega)).trans (Below.heap_setCell _ _ _ g (by simp; omega)))
      have hsl7 := row_sl hrow7 (by rw [size_set, size_set]; have := hb6.size; omega)
      refine wpAnyH_ready (rs := [6]) (by kernel_rfl) (by simp) (AllReadyH.cons (o := ({ dst := none, op := Go.Op.store 24 (Go.Operand.tmp 4) (Go.Operand.tmp 38), type := 0, pos := _, after := #[{ on := 4, ground := Go.Ground.data }, { on := 4, ground := Go.Ground.chain }, { on := 0, ground := Go.Ground.phase }, { on := 1, ground := Go.Ground.phase }, { on := 2, ground := Go.Ground.phase }, { on := 3, ground := Go.Ground.phase }, { on := 4, ground := Go.Ground.phase }, { on := 5, ground := Go.Ground.textOnly Go.Departure.lateStores }], guard := none } : Oper)) rfl (fun KK hK => ?_) AllReadyH.nil)
      go_simp
      refine hK.out _ _ ⟨hX7.two.1, hX7.two.2.1⟩ (fun hHeld => ?_)
      clear hK
      try simp only [Act.put, List.setIfInBounds_toArray, List.set_cons_zero, List.set_cons_succ]
      obtain ⟨v0, v1, fv0, fv1⟩ := hR6.two
      obtain ⟨y0, y1, fy0, fy1⟩ := hR7.two
      obtain ⟨s0, s1⟩ := hR7.self
      obtain ⟨z0, z1, _, _⟩ := hG7.two
      generalize (w6.setCell ⟨w.heap.size + 1, 0, none⟩ (.int .i64 xs.length)).setCell ⟨w.heap.size + 1, 1, none⟩ (.slice rx T.length rcap9) = W7 at *
      refine wpAnyH_ready (rs := [7]) (by kernel_rfl) (by simp) (AllReadyH.cons (o := ({ dst := none, op := Go.Op.store 28 (Go.Operand.tmp 5) (Go.Operand.tmp 39), type := 0, pos := _, after := #[{ on := 5, ground := Go.Ground.data }, { on := 6, ground := Go.Ground.chain }, { on := 0, ground := Go.Ground.phase }, { on := 1, ground := Go.Ground.phase }, { on := 2, ground := Go.Ground.phase }, { on := 3, ground := Go.Ground.phase }, { on := 4, ground := Go.Ground.phase }, { on := 5, ground := Go.Ground.phase }, { on := 6, ground := Go.Ground.phase }], guard := none } : Oper)) rfl (fun KK hK => ?_) AllReadyH.nil)
      go_simp
      refine hK.out _ _ ⟨hX7.two.1, hX7.two.2.1⟩ (fun hHeld => ?_)
      clear hK
      try simp only [Act.put, List.setIfInBounds_toArray, List.set_cons_zero, List.set_cons_succ]
      refine wpAnyH_done (by kernel_rfl) ?_ _
      go_wp2
      exact bodyPost_ret (v := .tuple #[.agg #[.int .i64 xs.length, .slice rx T.length rcap9], .agg #[.int .i64 0, .int .i64 0]]) (by simp [results, Tryz.results17, go_sem, z0, z1, y0, y1]) rfl ⟨_, _, _, rfl, by rw [← HTE.out]; exact hsl7, hB7⟩
end Go.Proofs.YtjiapicknkjhmaaGreatDoor

namespace Go.Proofs.YtjiapicknkjhmaaGreatDoor
open Go Go.RowKit Go.Maps

section
variable {n e : Nat} {zs : List Int} {q : Nat → Bool}
theorem iv_one (g : IsGrp n zs e) : iv n zs e e = e := by
  obtain ⟨h1, h2, _, _⟩ := iv_spec g g.elt
  rw [g.left _ h1] at h2
  exact h2
theorem place_get {xs : List Nat} (hnd : xs.Nodup) {i : Nat} (hi : i < xs.length) : place xs xs[i] = i := by
  obtain ⟨hl, h1⟩ := place_at (List.getElem_mem hi)
  exact (List.getElem_inj hnd).1 h1
theorem place_inj {xs : List Nat} {a b : Nat} (ha : a ∈ xs) (hb : b ∈ xs) (h : place xs a = place xs b) : a = b := by
  obtain ⟨h1, h2⟩ := place_at ha
  obtain ⟨h3, h4⟩ := place_at hb
  rw [← h2, ← h4]
  simp only [h]
/-- The thing at a place. -/
def thing (xs : List Nat) (i : Nat) : Nat := xs[i]?.getD 0
theorem thing_eq {xs : List Nat} {i : Nat} (hi : i < xs.length) : thing xs i = xs[i] := by unfold thing; rw [List.getElem?_eq_getElem hi]; rfl
theorem thing_place {xs : List Nat} {a : Nat} (ha : a ∈ xs) : thing xs (place xs a) = a := by
  obtain ⟨h1, h2⟩ := place_at ha
  rw [thing_eq h1, h2]
theorem place_thing {xs : List Nat} (hnd : xs.Nodup) {i : Nat} (hi : i < xs.length) : place xs (thing xs i) = i := by rw [thing_eq hi, place_get hnd hi]
theorem thing_mem {xs : List Nat} {i : Nat} (hi : i < xs.length) : thing xs i ∈ xs := by rw [thing_eq hi]; exact List.getElem_mem hi
theorem sub_mulL (hs : subT n zs e q = true) {a b : Nat} (ha : a ∈ lst n q) (hb : b ∈ lst n q) (g : IsGrp n zs e) : tm n zs a b ∈ lst n q := by
  obtain ⟨a1, a2⟩ := mem_lst.1 ha
  obtain ⟨b1, b2⟩ := mem_lst.1 hb
  exact mem_lst.2 ⟨tm_lt g.tab a1 b1, (subT_iff.1 hs).2 a b (List.mem_range.2 a1) (List.mem_range.2 b1) a2 b2⟩
theorem par_eq {n : Nat} {zs : List Int} {xs : List Nat} (i j : Nat) : parF n zs xs i j = place xs (tm n zs (thing xs i) (thing xs j)) := rfl
theorem par_thing (g : IsGrp n zs e) (hs : subT n zs e q = true) {i j : Nat} (hi : i < (lst n q).length) (hj : j < (lst n q).length) : parF n zs (lst n q) i j < (lst n q).length ∧ thing (lst n q) (parF n zs (lst n q) i j) = tm n zs (thing (lst n q) i) (thing (lst n q) j) := by
  have hm := sub_mulL hs (thing_mem hi) (thing_mem hj) g
  obtain ⟨h1, _⟩ := place_at hm
  rw [par_eq]
  exact ⟨h1, thing_place hm⟩
/-- A part is a group. -/
theorem part_grp (g : IsGrp n zs e) (hs : subT n zs e q = true) : IsGrp (lst n q).length (mkT (lst n q).length (parF n zs (lst n q))) (place (lst n q) e) := by
  have hel : e ∈ lst n q := mem_lst.2 ⟨g.elt, (subT_iff.1 hs).1⟩
  have hnd := lst_nd n q
  obtain ⟨he, _⟩ := place_at hel
  have hlt : ∀ i, i < (lst n q).length → thing (lst n q) i < n := fun i hi => (mem_lst.1 (thing_mem hi)).1
  refine grp_mk (by omega) (Nat.le_trans (lst_len n q) g.tab.le) (fun a b ha hb => (par_thing g hs ha hb).1) he (fun a ha => ?_) (fun a ha => ?_) (fun a b c ha hb hc => ?_) (fun a ha => ?_)
  · rw [par_eq, thing_place hel, g.left _ (hlt a ha), place_thing hnd ha]
  · rw [par_eq, thing_place hel, g.right _ (hlt a ha), place_thing hnd ha]
  · have h1 : parF n zs (lst n q) (parF n zs (lst n q) a b) c = place (lst n q) (tm n zs (tm n zs (thing (lst n q) a) (thing (lst n q) b)) (thing (lst n q) c)) := by rw [par_eq (parF n zs (lst n q) a b) c, (par_thing g hs ha hb).2]
    have h2 : parF n zs (lst n q) a (parF n zs (lst n q) b c) = place (lst n q) (tm n zs (thing (lst n q) a) (tm n zs (thing (lst n q) b) (thing (lst n q) c))) := by rw [par_eq a (parF n zs (lst n q) b c), (par_thing g hs hb hc).2]
    rw [h1, h2, g.ass _ _ _ (hlt a ha) (hlt b hb) (hlt c hc)]
  · obtain ⟨m1, m2⟩ := mem_lst.1 (thing_mem ha)
    obtain ⟨i1, i2⟩ := sub_iv g hs m1 m2
    have hm : iv n zs e (thing (lst n q) a) ∈ lst n q := mem_lst.2 ⟨i1, i2⟩
    refine ⟨place (lst n q) (iv n zs e (thing (lst n q) a)), (place_at hm).1, ?_⟩
    rw [par_eq, thing_place hm, (iv_spec g m1).2.1]
/-- The things of a part stand for those of the group. -/
theorem part_mul (g : IsGrp n zs e) (hs : subT n zs e q = true) {i j : Nat} (hi : i < (lst n q).length) (hj : j < (lst n q).length) : thing (lst n q) (tm (lst n q).length (mkT (lst n q).length (parF n zs (lst n q))) i j) = tm n zs (thing (lst n q) i) (thing (lst n q) j) := by
  rw [tm_mk hi hj]
  exact (par_thing g hs hi hj).2
end
end Go.Proofs.YtjiapicknkjhmaaGreatDoor

namespace Go.Proofs.YtjiapicknkjhmaaGreatDoor
variable {n e p : Nat} {zs : List Int} {s : Nat → Bool} {A : List Nat} {ms : List (List Int)}

/-- Is the order of a thing a power of p? -/
noncomputable def pwt (n : Nat) (zs : List Int) (e p a : Nat) : Bool := @decide (isPw (ordN n zs e a) p) (Classical.propDecidable _)
theorem pwt_iff {a : Nat} : pwt n zs e p a = true ↔ isPw (ordN n zs e a) p := by unfold pwt; simp
theorem SylA.size (HA : SylA n zs e p s A ms) (g : IsGrp n zs e) {j : Nat} (hj : j < ms.length) : (ms[j]?.getD []).length = (lst n s).length := by
  obtain ⟨a, ha, h⟩ := HA.one hj
  rw [h, li_len, cj_len g (HA.lt a ha)]
theorem SylA.in_one (HA : SylA n zs e p s A ms) {q : Nat → Bool} {a : Nat} (ha : a < n) (h : ∀ x, x < n → q x = true → cjq n zs e s a x = true) : ∃ j b, j < ms.length ∧ b ∈ A ∧ ms[j]?.getD [] = li (lst n (cjq n zs e s b)) ∧ ∀ x, x < n → q x = true → cjq n zs e s b x = true := by
  obtain ⟨b, hb, h1⟩ := List.mem_map.1 (HA.all a ha)
  have h2 : li (lst n (cjq n zs e s b)) ∈ ms := HA.pm.mem_iff.2 (List.mem_map.2 ⟨b, hb, rfl⟩)
  obtain ⟨j, hj, h3⟩ := List.mem_iff_getElem.1 h2
  refine ⟨j, b, hj, hb, by rw [List.getElem?_eq_getElem hj, Option.getD_some, h3], fun x hx hq => ?_⟩
  rw [bs_inj h1 x hx]
  exact h x hx hq
theorem SylA.holds (HA : SylA n zs e p s A ms) (g : IsGrp n zs e) (hpr : primeB p = true) {q : Nat → Bool} (hq : subT n zs e q = true) (hpw : isPw (lst n q).length p) : ∃ j b, j < ms.length ∧ b ∈ A ∧ ms[j]?.getD [] = li (lst n (cjq n zs e s b)) ∧ ∀ x, x < n → q x = true → cjq n zs e s b x = true := by
  obtain ⟨c, a, _, ha, _, h⟩ := syl_in g hpr HA.gr HA.nd HA.hX hq hpw
  exact HA.in_one ha h
theorem SylA.has (HA : SylA n zs e p s A ms) (g : IsGrp n zs e) (hpr : primeB p = true) {a : Nat} (ha : a < n) (h : isPw (ordN n zs e a) p) : ∃ j, j < ms.length ∧ (a : Int) ∈ ms[j]?.getD [] := by
  obtain ⟨j, b, hj, hb, h1, h2⟩ := HA.holds g hpr (q := mk1 n zs e a) (subT_iff.2 (made_sg g (mk1_iff n zs e a))) (by rw [mk1_len g ha]; exact h)
  refine ⟨j, hj, ?_⟩
  rw [h1]
  exact mem_li.2 (mem_lst.2 ⟨ha, h2 a ha ((mk1_iff n zs e a a ha).2 (Fin.Gen.base (List.mem_range.2 ha) (by simp)))⟩)
theorem SylA.cnt (HA : SylA n zs e p s A ms) (g : IsGrp n zs e) (hpr : primeB p = true) : (lst n s).length ∣ (lst n (pwt n zs e p)).length := by
  have hp := prime_of hpr
  obtain ⟨v, hn, hnd⟩ := syl_len g hpr HA.gr HA.nd HA.hX
  obtain ⟨k, hk⟩ := HA.gr.pow
  rw [hk] at hn ⊢
  have hfr := Fin.frob _ _ _ _ (grp_fg g) List.length_range (p ^ k) ⟨_, by rw [Nat.mul_comm]; exact hn⟩
  have hsame : (List.range n).filter (fun x => decide (Fin.po (tm n zs) e x (p ^ k) = e)) = lst n (pwt n zs e p) := Fin.filter_eq fun x hx => by
    have hxl := List.mem_range.1 hx
    rw [Bool.eq_iff_iff, decide_eq_true_eq, pwt_iff, ord_iff g hxl]
    constructor
    · exact fun h => dvd_pw hp k _ h
    · rintro ⟨j, hj⟩
      rw [hj]
      refine pp_dvd hp hnd ?_
      rw [← hn, ← hj, ← mk1_len g hxl]
      exact sub_dvd g (subT_iff.2 (made_sg g (mk1_iff n zs e x)))
  unfold Fin.cnt at hfr
  rw [hsame] at hfr
  exact hfr
theorem lst_up {q : Nat → Bool} {k : Nat} : (lst (k + 1) q).length = (lst k q).length + (if q k = true then 1 else 0) := by
  unfold lst
  rw [List.range_succ, List.filter_append, List.length_append]
  by_cases h : q k = true
  · simp [h]
  · simp [h]
end Go.Proofs.YtjiapicknkjhmaaGreatDoor

namespace Go.Proofs.YtjiapicknkjhmaaGreatDoor
variable {n e p : Nat} {zs : List Int} {s : Nat → Bool} {A : List Nat} {ms : List (List Int)}

theorem nd_list {α : Type} (l : List α) : ∃ k : List α, k.Nodup ∧ ∀ x, x ∈ k ↔ x ∈ l := by
  classical
  induction l with
  | nil => exact ⟨[], List.nodup_nil, fun x => Iff.rfl⟩
  | cons a l ih =>
    obtain ⟨k, h1, h2⟩ := ih
    by_cases ha : a ∈ l
    · exact ⟨k, h1, fun x => by rw [h2, List.mem_cons]; exact ⟨Or.inr, fun h => h.elim (fun h => h ▸ ha) id⟩⟩
    · exact ⟨a :: k, List.nodup_cons.2 ⟨fun h => ha ((h2 a).1 h), h1⟩, fun x => by rw [List.mem_cons, List.mem_cons, h2]⟩
/-- All that have as many things as the greatest power of p. -/
theorem grown_len {v j : Nat} (g : IsGrp n zs e) (hpr : primeB p = true) (hG : Grown n zs e p s) (h : v * p ^ j = n) (hv : ¬ p ∣ v) : (lst n s).length = p ^ j := by
  obtain ⟨X, hnd, hX⟩ := nd_list ((List.range n).map fun a => fc n zs e s a)
  obtain ⟨u, h1, h2⟩ := syl_len g hpr hG hnd (fun c => by
    rw [hX, List.mem_map]
    exact ⟨fun ⟨a, ha, hh⟩ => ⟨a, List.mem_range.1 ha, hh⟩, fun ⟨a, ha, hh⟩ => ⟨a, List.mem_range.2 ha, hh⟩⟩)
  obtain ⟨k, hk⟩ := hG.pow
  rw [hk] at h1 ⊢
  exact pp_only (prime_of hpr) hv h2 (by rw [← h1, h])
theorem SylA.modp (HA : SylA n zs e p s A ms) (g : IsGrp n zs e) (hpr : primeB p = true) : ms.length % p = 1 := by
  have h := syl_mod g hpr HA.gr HA.nd HA.hX
  rwa [List.length_map, ← HA.len] at h
theorem SylA.divs (HA : SylA n zs e p s A ms) (g : IsGrp n zs e) (hpr : primeB p = true) : n / (lst n s).length % ms.length = 0 := by
  obtain ⟨v, hn, _⟩ := syl_len g hpr HA.gr HA.nd HA.hX
  rw [List.length_map, ← HA.len] at hn
  have hL1 : 1 ≤ (lst n s).length := (Fin.sg_fg (grp_fg g) (subT_iff.1 HA.gr.sub)).pos
  have h9 : n / (lst n s).length = ms.length * v := Nat.div_eq_of_eq_mul_left hL1 hn
  rw [h9, Nat.mul_mod_right]
theorem SylA.less (HA : SylA n zs e p s A ms) (i j : Nat) (hij : i < j) (hj : j < ms.length) : cmpL (ms[i]?.getD []) (ms[j]?.getD []) < 0 := by
  have h1 := HA.st i j hij hj
  have hnd : ms.Nodup := by
    refine (HA.pm.nodup_iff).2 ?_
    have hk : (A.map fun a => bs (cjq n zs e s a) n) = (A.map fun a => li (lst n (cjq n zs e s a))).map fun l => bs (pset l) n := by
      rw [List.map_map]
      exact List.map_congr_left fun a _ => (bs_ext fun x hx => pset_lst hx).symm
    have hn2 := HA.nd
    rw [hk] at hn2
    exact (List.pairwise_map.1 hn2).imp fun h9 h8 => h9 (by rw [h8])
  have hne : ms[i]?.getD [] ≠ ms[j]?.getD [] := by
    rw [List.getElem?_eq_getElem (by omega), List.getElem?_eq_getElem hj, Option.getD_some, Option.getD_some]
    intro h
    exact List.pairwise_iff_getElem.1 hnd i j (by omega) hj hij h
  have h2 : cmpL (ms[i]?.getD []) (ms[j]?.getD []) ≠ 0 := fun h => hne ((cmpL_zero _ _).1 h)
  rw [cmpL_neg] at h1
  omega
theorem SylA.at (HA : SylA n zs e p s A ms) {a : Nat} (ha : a < n) : ∃ j, j < ms.length ∧ ms[j]?.getD [] = li (lst n (cjq n zs e s a)) := by
  obtain ⟨b, hb, h1⟩ := List.mem_map.1 (HA.all a ha)
  have h2 : li (lst n (cjq n zs e s b)) ∈ ms := HA.pm.mem_iff.2 (List.mem_map.2 ⟨b, hb, rfl⟩)
  obtain ⟨j, hj, h3⟩ := List.mem_iff_getElem.1 h2
  refine ⟨j, hj, ?_⟩
  rw [List.getElem?_eq_getElem hj, Option.getD_some, h3]
  congr 1
  exact lst_congr fun x hx => bs_inj h1 x hx
/-- What the first of them is, moved. -/
def shd (n : Nat) (zs : List Int) (e : Nat) (xs : List Nat) (a : Nat) : List Int := li (lst n (cjl n zs e xs a))
theorem SylA.moved (HA : SylA n zs e p s A ms) (g : IsGrp n zs e) {xs : List Nat} (h0 : ms[0]?.getD [] = li xs) {a : Nat} (ha : a < n) : ∃ j, j < ms.length ∧ shd n zs e xs a = ms[j]?.getD [] := by
  obtain ⟨b, hb, h1⟩ := HA.one (HA.pos g.elt)
  have hxs : xs = lst n (cjq n zs e s b) := li_inj (h0.symm.trans h1)
  subst hxs
  obtain ⟨j, hj, h2⟩ := HA.at (tm_lt g.tab (HA.lt b hb) ha)
  refine ⟨j, hj, ?_⟩
  rw [h2]
  unfold shd
  congr 1
  exact lst_congr fun x hx => bs_inj (cjq_twice g (HA.lt b hb) ha) x hx
theorem SylA.reach (HA : SylA n zs e p s A ms) (g : IsGrp n zs e) {xs : List Nat} (h0 : ms[0]?.getD [] = li xs) {j : Nat} (hj : j < ms.length) : ∃ a, a < n ∧ shd n zs e xs a = ms[j]?.getD [] := by
  obtain ⟨b, hb, h1⟩ := HA.one (HA.pos g.elt)
  have hxs : xs = lst n (cjq n zs e s b) := li_inj (h0.symm.trans h1)
  subst hxs
  obtain ⟨c, hc, h2⟩ := HA.one hj
  have hbn := HA.lt b hb
  have hcn := HA.lt c hc
  obtain ⟨hi, h3, h4, _⟩ := iv_spec g hbn
  have F := grp_fg g
  refine ⟨tm n zs (iv n zs e b) c, tm_lt g.tab hi hcn, ?_⟩
  rw [h2]
  unfold shd
  congr 1
  refine lst_congr fun x hx => ?_
  have h5 := bs_inj (cjq_twice (q := s) g hbn (tm_lt g.tab hi hcn)) x hx
  have h6 : tm n zs b (tm n zs (iv n zs e b) c) = c := by
    rw [← F.ass b (iv n zs e b) c (List.mem_range.2 hbn) (List.mem_range.2 hi) (List.mem_range.2 hcn), h3, F.left c (List.mem_range.2 hcn)]
  rw [h6] at h5
  exact h5
theorem lst_full {q r : Nat → Bool} (h : ∀ x, x < n → q x = true → r x = true) (hl : (lst n q).length = (lst n r).length) : ∀ x, x < n → r x = true → q x = true := fun x hx hr => by
  have h1 : (lst n q).Sublist (lst n r) := by
    have : lst n q = (lst n r).filter q := by
      unfold lst
      rw [List.filter_filter]
      exact Fin.filter_eq fun y hy => by
        cases hq : q y with
        | false => simp
        | true => simp [h y (List.mem_range.1 hy) hq]
    rw [this]
    exact List.filter_sublist
  have h2 := h1.eq_of_length hl
  have h3 : x ∈ lst n q := by rw [h2]; exact mem_lst.2 ⟨hx, hr⟩
  exact (mem_lst.1 h3).2
/-- What is in all of them is what Core answers. -/
theorem SylA.core (HA : SylA n zs e p s A ms) (g : IsGrp n zs e) (hpr : primeB p = true) {s' : Nat → Bool} {A' : List Nat} (hG : Grown n zs e p s') (hA : ∀ a, a ∈ A' → a < n) (hall : ∀ a, a < n → bs (cjq n zs e s' a) n ∈ A'.map fun a => bs (cjq n zs e s' a) n) {x : Nat} (hx : x < n) : cin n zs e s' A' x = true ↔ ∀ j, j < ms.length → (x : Int) ∈ ms[j]?.getD [] := by
  obtain ⟨v, b, hvb, hv⟩ := strip (p := p) (prime_of hpr).1 n (Fin.Fg.pos (grp_fg g) |> fun h => by simpa using h)
  have l1 := grown_len g hpr HA.gr hvb.symm hv
  have l2 := grown_len g hpr hG hvb.symm hv
  obtain ⟨X, hnd, hX0⟩ := nd_list ((List.range n).map fun a => fc n zs e s' a)
  have hX : ∀ c, c ∈ X ↔ ∃ a, a < n ∧ fc n zs e s' a = c := fun c => by
    rw [hX0, List.mem_map]
    exact ⟨fun ⟨a, ha, hh⟩ => ⟨a, List.mem_range.1 ha, hh⟩, fun ⟨a, ha, hh⟩ => ⟨a, List.mem_range.2 ha, hh⟩⟩
  unfold cin
  rw [List.all_eq_true]
  constructor
  · intro h j hj
    obtain ⟨c, hc, h1⟩ := HA.one hj
    have hcn := HA.lt c hc
    rw [h1, mem_li, mem_lst]
    refine ⟨hx, ?_⟩
    obtain ⟨_, a, _, ha, _, h2⟩ := syl_in g hpr hG hnd hX (cj_sg g HA.gr.sub hcn) (by rw [cj_len g hcn]; exact HA.gr.pow)
    refine lst_full h2 (by rw [cj_len g hcn, cj_len g ha, l1, l2]) x hx ?_
    obtain ⟨a', ha', h3⟩ := List.mem_map.1 (hall a ha)
    rw [← bs_inj h3 x hx]
    exact h a' ha'
  · intro h a ha
    have han := hA a ha
    obtain ⟨j, c, hj, hc, h1, h2⟩ := HA.holds g hpr (cj_sg g hG.sub han) (by rw [cj_len g han]; exact hG.pow)
    have hcn := HA.lt c hc
    refine lst_full h2 (by rw [cj_len g hcn, cj_len g han, l1, l2]) x hx ?_
    have h3 := h j hj
    rw [h1, mem_li, mem_lst] at h3
    exact h3.2
end Go.Proofs.YtjiapicknkjhmaaGreatDoor

namespace Go.Proofs.YtjiapicknkjhmaaGreatDoor
open Go Go.RowKit Go.Maps

section
variable {n e : Nat} {zs : List Int} {q r : Nat → Bool}
/-- A set of a part, as one of the whole. -/
def upt (n : Nat) (q r : Nat → Bool) (x : Nat) : Bool := q x && r (place (lst n q) x)
theorem thing_lt {i : Nat} (hi : i < (lst n q).length) : thing (lst n q) i < n := (mem_lst.1 (thing_mem hi)).1
theorem thing_in {i : Nat} (hi : i < (lst n q).length) : q (thing (lst n q) i) = true := (mem_lst.1 (thing_mem hi)).2
theorem upt_iff {x : Nat} (hx : x < n) : upt n q r x = true ↔ ∃ i, i < (lst n q).length ∧ r i = true ∧ thing (lst n q) i = x := by
  unfold upt
  rw [Bool.and_eq_true]
  constructor
  · rintro ⟨h1, h2⟩
    have hm : x ∈ lst n q := mem_lst.2 ⟨hx, h1⟩
    exact ⟨_, (place_at hm).1, h2, thing_place hm⟩
  · rintro ⟨i, hi, h1, rfl⟩
    exact ⟨thing_in hi, by rw [place_thing (lst_nd n q) hi]; exact h1⟩
theorem upt_at {i : Nat} (hi : i < (lst n q).length) : upt n q r (thing (lst n q) i) = r i := by
  unfold upt
  rw [thing_in hi, place_thing (lst_nd n q) hi, Bool.true_and]
theorem thing_mono {i j : Nat} (hj : j < (lst n q).length) (h : i < j) : thing (lst n q) i < thing (lst n q) j := by
  rw [thing_eq hj, thing_eq (Nat.lt_trans h hj)]
  exact List.pairwise_iff_getElem.1 (lst_rise n q) i j _ hj h
theorem upt_lst : (lst (lst n q).length r).map (thing (lst n q)) = lst n (upt n q r) := by
  refine rise_eq ?_ (lst_rise n _) (fun a => ?_)
  · rw [List.pairwise_map]
    refine List.Pairwise.imp_of_mem (fun {i j} _ hj h => ?_) (lst_rise (lst n q).length r)
    exact thing_mono (mem_lst.1 hj).1 h
  · rw [List.mem_map, mem_lst]
    constructor
    · rintro ⟨i, hi, rfl⟩
      obtain ⟨h1, h2⟩ := mem_lst.1 hi
      exact ⟨thing_lt h1, by rw [upt_at h1]; exact h2⟩
    · rintro ⟨h1, h2⟩
      obtain ⟨i, hi, h3, h4⟩ := (upt_iff h1).1 h2
      exact ⟨i, mem_lst.2 ⟨hi, h3⟩, h4⟩
theorem upt_len : (lst n (upt n q r)).length = (lst (lst n q).length r).length := by rw [← upt_lst, List.length_map]
theorem part_cj (g : IsGrp n zs e) (hs : subT n zs e q = true) {i j : Nat} (hi : i < (lst n q).length) (hj : j < (lst n q).length) :
    thing (lst n q) (Fin.cj (tm (lst n q).length (mkT (lst n q).length (parF n zs (lst n q)))) (iv (lst n q).length (mkT (lst n q).length (parF n zs (lst n q))) (place (lst n q) e)) i j) = Fin.cj (tm n zs) (iv n zs e) (thing (lst n q) i) (thing (lst n q) j) := by
  have h := part_grp g hs
  have hc := List.mem_range.1 (Fin.cj_mem (grp_fg h) (grp_iv h) (List.mem_range.2 hi) (List.mem_range.2 hj))
  refine (Fin.cj_unique (grp_fg g) (grp_iv g) (List.mem_range.2 (thing_lt hi)) (List.mem_range.2 (thing_lt hc)) (List.mem_range.2 (thing_lt hj)) ?_).symm
  rw [← part_mul g hs hj hc, Fin.cj_eq (grp_fg h) (grp_iv h) (List.mem_range.2 hi) (List.mem_range.2 hj), part_mul g hs hi hj]
theorem upt_cj (g : IsGrp n zs e) (hs : subT n zs e q = true) {j : Nat} (hj : j < (lst n q).length) :
    bs (upt n q (cjq (lst n q).length (mkT (lst n q).length (parF n zs (lst n q))) (place (lst n q) e) r j)) n = bs (cjq n zs e (upt n q r) (thing (lst n q) j)) n := by
  have h := part_grp g hs
  refine bs_ext fun x hx => ?_
  rw [Bool.eq_iff_iff, upt_iff hx, cjq_iff]
  constructor
  · rintro ⟨i, hi, h1, rfl⟩
    obtain ⟨k, hk, h2, rfl⟩ := cjq_iff.1 h1
    have hk' := List.mem_range.1 hk
    exact ⟨thing (lst n q) k, List.mem_range.2 (thing_lt hk'), by rw [upt_at hk']; exact h2, (part_cj g hs hk' hj).symm⟩
  · rintro ⟨y, hy, h1, rfl⟩
    obtain ⟨k, hk, h2, rfl⟩ := (upt_iff (List.mem_range.1 hy)).1 h1
    exact ⟨_, List.mem_range.1 (Fin.cj_mem (grp_fg h) (grp_iv h) (List.mem_range.2 hk) (List.mem_range.2 hj)), cjq_iff.2 ⟨k, List.mem_range.2 hk, h2, rfl⟩, part_cj g hs hk hj⟩
theorem part_e (g : IsGrp n zs e) (hs : subT n zs e q = true) : place (lst n q) e < (lst n q).length ∧ thing (lst n q) (place (lst n q) e) = e := by
  have hel : e ∈ lst n q := mem_lst.2 ⟨g.elt, (subT_iff.1 hs).1⟩
  exact ⟨(place_at hel).1, thing_place hel⟩
theorem upt_sub (g : IsGrp n zs e) (hs : subT n zs e q = true) (hr : subT (lst n q).length (mkT (lst n q).length (parF n zs (lst n q))) (place (lst n q) e) r = true) : subT n zs e (upt n q r) = true := by
  have S := subT_iff.1 hr
  obtain ⟨p1, p2⟩ := part_e g hs
  have h := part_grp g hs
  refine subT_iff.2 ⟨(upt_iff g.elt).2 ⟨_, p1, S.one, p2⟩, fun a b ha hb h1 h2 => ?_⟩
  obtain ⟨i, hi, h3, rfl⟩ := (upt_iff (List.mem_range.1 ha)).1 h1
  obtain ⟨j, hj, h4, rfl⟩ := (upt_iff (List.mem_range.1 hb)).1 h2
  have hm := tm_lt h.tab hi hj
  show upt n q r (tm n zs _ _) = true
  rw [← part_mul g hs hi hj, upt_at hm]
  exact S.mul i j (List.mem_range.2 hi) (List.mem_range.2 hj) h3 h4
theorem down_sub {u : Nat → Bool} (g : IsGrp n zs e) (hs : subT n zs e q = true) (hu : subT n zs e u = true) : subT (lst n q).length (mkT (lst n q).length (parF n zs (lst n q))) (place (lst n q) e) (fun i => u (thing (lst n q) i)) = true := by
  have S := subT_iff.1 hu
  obtain ⟨_, p2⟩ := part_e g hs
  refine subT_iff.2 ⟨by show u (thing _ _) = true; rw [p2]; exact S.one, fun i j hi hj h1 h2 => ?_⟩
  have hi' := List.mem_range.1 hi
  have hj' := List.mem_range.1 hj
  show u (thing _ _) = true
  rw [part_mul g hs hi' hj']
  exact S.mul _ _ (List.mem_range.2 (thing_lt hi')) (List.mem_range.2 (thing_lt hj')) h1 h2
theorem up_down {u : Nat → Bool} (hin : ∀ x, x < n → u x = true → q x = true) : bs (upt n q fun i => u (thing (lst n q) i)) n = bs u n := by
  refine bs_ext fun x hx => ?_
  rw [Bool.eq_iff_iff, upt_iff hx]
  constructor
  · rintro ⟨i, _, h1, rfl⟩
    exact h1
  · intro h1
    have hm : x ∈ lst n q := mem_lst.2 ⟨hx, hin x hx h1⟩
    exact ⟨_, (place_at hm).1, by show u _ = true; rw [thing_place hm]; exact h1, thing_place hm⟩
theorem cjq_bs {a : Nat} (h : bs q n = bs r n) : bs (cjq n zs e q a) n = bs (cjq n zs e r a) n := by
  refine bs_ext fun y _ => ?_
  rw [Bool.eq_iff_iff, cjq_iff, cjq_iff]
  have h1 := bs_inj h
  exact ⟨fun ⟨x, hx, h2, h3⟩ => ⟨x, hx, by rw [← h1 x (List.mem_range.1 hx)]; exact h2, h3⟩, fun ⟨x, hx, h2, h3⟩ => ⟨x, hx, by rw [h1 x (List.mem_range.1 hx)]; exact h2, h3⟩⟩
theorem upt_bs {r' : Nat → Bool} (h : bs r (lst n q).length = bs r' (lst n q).length) : bs (upt n q r) n = bs (upt n q r') n := by
  have h1 := bs_inj h
  refine bs_ext fun x hx => ?_
  rw [Bool.eq_iff_iff, upt_iff hx, upt_iff hx]
  exact ⟨fun ⟨i, hi, h2, h3⟩ => ⟨i, hi, by rw [← h1 i hi]; exact h2, h3⟩, fun ⟨i, hi, h2, h3⟩ => ⟨i, hi, by rw [h1 i hi]; exact h2, h3⟩⟩
theorem lst_bs' {a b : Nat → Bool} (h : bs a n = bs b n) : lst n a = lst n b := lst_same fun x hx => by rw [bs_inj h x hx]
variable {p a0 : Nat} {s : Nat → Bool} {A : List Nat} {ms : List (List Int)}
/-- FRATTINI'S ARGUMENT. -/
theorem frat_arg (g : IsGrp n zs e) (hs : subT n zs e q = true) (hN : ∀ x a, x < n → a < n → q x = true → q (Fin.cj (tm n zs) (iv n zs e) x a) = true) (hpr : primeB p = true)
    (HA : SylA (lst n q).length (mkT (lst n q).length (parF n zs (lst n q))) (place (lst n q) e) p s A ms) (ha0 : a0 < (lst n q).length) {x : Nat} (hx : x < n) :
    ∃ u v, u < n ∧ v < n ∧ norq n zs e (upt n q (cjq (lst n q).length (mkT (lst n q).length (parF n zs (lst n q))) (place (lst n q) e) s a0)) u = true ∧ q v = true ∧ tm n zs u v = x := by
  have h := part_grp g hs
  obtain ⟨t, ht⟩ : ∃ t, t = upt n q (cjq (lst n q).length (mkT (lst n q).length (parF n zs (lst n q))) (place (lst n q) e) s a0) := ⟨_, rfl⟩
  rw [← ht]
  have tS : subT n zs e t = true := by rw [ht]; exact upt_sub g hs (cj_sg h HA.gr.sub ha0)
  have tq : ∀ y, y < n → t y = true → q y = true := fun y hy h1 => by
    rw [ht] at h1
    unfold upt at h1
    rw [Bool.and_eq_true] at h1
    exact h1.1
  have cS := cj_sg g tS hx
  have cq : ∀ y, y < n → cjq n zs e t x y = true → q y = true := fun y _ h1 => by
    obtain ⟨z, hz, h2, rfl⟩ := cjq_iff.1 h1
    exact hN z x (List.mem_range.1 hz) hx (tq z (List.mem_range.1 hz) h2)
  have dS := down_sub g hs cS
  have dl : (lst (lst n q).length fun i => cjq n zs e t x (thing (lst n q) i)).length = (lst (lst n q).length s).length := by
    rw [← upt_len, lst_bs' (up_down cq), cj_len g hx, ht, upt_len, cj_len h ha0]
  obtain ⟨j, b, _, hb, _, h4⟩ := HA.holds h hpr dS (by rw [dl]; exact HA.gr.pow)
  have hb' := HA.lt b hb
  have h5 := lst_full h4 (by rw [dl, cj_len h hb'])
  have e1 : bs (fun i => cjq n zs e t x (thing (lst n q) i)) (lst n q).length = bs (cjq (lst n q).length (mkT (lst n q).length (parF n zs (lst n q))) (place (lst n q) e) s b) (lst n q).length := bs_ext fun i hi => by
    rw [Bool.eq_iff_iff]
    exact ⟨h4 i hi, h5 i hi⟩
  obtain ⟨i1, i2, i3, _⟩ := iv_spec h ha0
  have hy0 := tm_lt h.tab i1 hb'
  obtain ⟨y0, ey0⟩ : ∃ y0, y0 = tm (lst n q).length (mkT (lst n q).length (parF n zs (lst n q))) (iv (lst n q).length (mkT (lst n q).length (parF n zs (lst n q))) (place (lst n q) e) a0) b := ⟨_, rfl⟩
  rw [← ey0] at hy0
  have e2 : tm (lst n q).length (mkT (lst n q).length (parF n zs (lst n q))) a0 y0 = b := by rw [ey0, ← h.ass _ _ _ ha0 i1 hb', i2, h.left b hb']
  have e3 : bs (cjq n zs e t (thing (lst n q) y0)) n = bs (cjq n zs e t x) n := by
    rw [ht, ← upt_cj g hs hy0, ← ht, ← up_down cq]
    refine upt_bs ?_
    rw [cjq_twice h ha0 hy0, e2, e1]
  have hy := thing_lt hy0
  obtain ⟨k1, k2, k3, _⟩ := iv_spec g hy
  have hu := tm_lt g.tab hx k1
  refine ⟨tm n zs x (iv n zs e (thing (lst n q) y0)), thing (lst n q) y0, hu, hy, ?_, thing_in hy0, ?_⟩
  · unfold norq
    rw [decide_eq_true_eq, ← cjq_twice g hx k1, ← cjq_bs e3, cjq_twice g hy k1, k2, cjq_e g]
  · rw [g.ass _ _ _ hx k1 hy, k3, g.right x hx]
end
end Go.Proofs.YtjiapicknkjhmaaGreatDoor

namespace Go.Proofs.YtjiapicknkjhmaaGreatDoor
open Go Go.RowKit

def inB (s t : Nat) : Bool := decide (s &&& t = s)
theorem inB_iff {n : Nat} {p q : Nat → Bool} : inB (bs p n) (bs q n) = true ↔ ∀ a, a < n → p a = true → q a = true := by
  unfold inB
  rw [decide_eq_true_eq]
  constructor
  · intro h a ha hp
    have := congrArg (fun x => Nat.testBit x a) h
    simp only [Nat.testBit_and, bs_bit] at this
    simp [ha, hp] at this
    exact this
  · intro h
    apply Nat.eq_of_testBit_eq
    intro a
    rw [Nat.testBit_and, bs_bit, bs_bit]
    by_cases ha : a < n
    · cases hp : p a with
      | false => simp
      | true => simp [ha, h a ha hp]
    · simp [ha]
theorem andn_zero {n : Nat} {p q : Nat → Bool} : decide (bs (fun a => p a && !q a) n = 0) = inB (bs p n) (bs q n) := by
  rw [Bool.eq_iff_iff, decide_eq_true_eq, inB_iff]
  constructor
  · intro h a ha hp
    have := congrArg (fun x => Nat.testBit x a) h
    simp only [bs_bit, Nat.zero_testBit] at this
    simp [ha, hp] at this
    exact this
  · intro h
    apply Nat.eq_of_testBit_eq
    intro a
    rw [bs_bit, Nat.zero_testBit]
    by_cases ha : a < n
    · cases hp : p a with
      | false => simp
      | true => simp [h a ha hp]
    · simp [ha]
set_option maxRecDepth 100000 in
theorem in_ok (n : Nat) (p q : Nat → Bool) (w : World) (hn : n ≤ 60) : Calls Tryz.prog 59 #[.int .u64 (bs p n : Nat), .int .u64 (bs q n : Nat)] w fun e w' => e = .returned (.bool (inB (bs p n) (bs q n))) ∧ w' = w := by
  have ha := andn_bs p q hn
  rw [← andn_zero]
  generalize bs (fun a => p a && !q a) n = Z at *
  generalize bs p n = X at *
  generalize bs q n = Y at *
  by_cases hz : Z = 0
  · have hzi : ((Z : Nat) : Int) = 0 := by omega
    have HZ := hide hz
    clear hz
    go_enter Tryz.func59, Tryz.ntmps59
    go_wp2
    go_ret
    exact ⟨by rw [decide_eq_true HZ.out]; rfl, rfl⟩
  · have hzi : ¬ ((Z : Nat) : Int) = 0 := by omega
    have hzb : (((Z : Nat) : Int) == 0) = false := by rw [beq_eq_false_iff_ne]; exact hzi
    have hd : decide (Z = 0) = false := decide_eq_false hz
    have HD := hide hd
    clear hd hz
    go_enter Tryz.func59, Tryz.ntmps59
    go_wp2
    go_ret
    exact ⟨by rw [HD.out]; rfl, rfl⟩
theorem place_no {xs : List Nat} {a j : Nat} (hj : j < place xs a) (hl : j < xs.length) : ¬ a = xs[j] := fun h => by
  have := List.not_of_lt_findIdx hj
  simp at this
  exact this h.symm
set_option maxRecDepth 100000 in
theorem idx_ok (v : Value) (xs : List Nat) (a : Nat) (w : World) (hv : Sl w v (li xs)) (ha : a ∈ xs) (hxl : xs.length ≤ 1000) :
    Calls Tryz.prog 92 #[v, .int .i64 a] w fun x w' => x = .returned (.int .i64 (place xs a)) ∧ w' = w := by
  obtain ⟨va, vc, vb, vo, rfl, hrd, hvp, _, _⟩ := hv
  rw [li_len]
  have HRD := hide hrd
  obtain ⟨hpl, hpe⟩ := place_at ha
  have HPE := hide hpe
  clear hrd hpe
  generalize hP : place xs a = P at *
  have HP := hide hP
  clear hP
  go_enter Tryz.func92, Tryz.ntmps92
  go_wp2_with fail
  go_loopw [8] (fun iv wr => ∃ j : Nat, j ≤ P ∧ iv = .int .i64 j ∧ wr = w) (fun iv _ => xs.length - (intOf iv).toNat)
  case atStart => exact ⟨0, Nat.zero_le _, rfl, rfl⟩
  case round =>
    obtain ⟨j, hj, rfl, rfl⟩ := hrel
    have hlt : j < xs.length := by omega
    have hji : (j : Int) < (xs.length : Int) := by omega
    have hcj := HRD.out.cell j (by rw [li_len]; exact hlt)
    rw [li_get hlt] at hcj
    obtain rfl := HRD.out.at_ (by rw [li_len]; omega)
    by_cases hjp : j = P
    · have hxa : xs[j] = a := by
        have := HPE.out
        simp only [← hjp] at this
        exact this
      rw [hxa] at hcj
      have HJP := hide hjp
      clear hjp hxa
      go_wp2
      go_ret
      exact ⟨by rw [← HJP.out]; rfl, rfl⟩
    · have hne : ¬ (a : Int) = (xs[j] : Int) := by
        have := place_no (xs := xs) (a := a) (j := j) (by rw [HP.out]; omega) hlt
        omega
      generalize xs[j] = y at *
      have hnb : ((a : Int) == (y : Int)) = false := by rw [beq_eq_false_iff_ne]; exact hne
      go_wp2
      go_roundw
      case rel => exact ⟨j + 1, by omega, by go_num, trivial⟩
      case measure => simp [intOf]; omega
def filU (f : Nat → Int) (n k : Nat) : List Int := (List.range n).map fun i => if i < k then f i else 0
theorem filU_len (f : Nat → Int) (n k : Nat) : (filU f n k).length = n := by simp [filU]
theorem filU_zero (f : Nat → Int) (n : Nat) : filU f n 0 = List.replicate n 0 := by
  unfold filU
  apply List.ext_getElem <;> simp
theorem filU_all (f : Nat → Int) (n : Nat) : filU f n n = (List.range n).map f := by
  unfold filU
  exact List.map_congr_left fun a ha => if_pos (List.mem_range.1 ha)
theorem filU_set {f : Nat → Int} {n k : Nat} : filU f n (k + 1) = (filU f n k).set k (f k) := by
  apply List.ext_getElem
  · simp [filU]
  · intro i h1 h2
    rw [List.getElem_set]
    simp only [filU, List.getElem_map, List.getElem_range]
    by_cases e : k = i
    · subst e
      rw [if_pos (by omega), if_pos rfl]
    · rw [if_neg e]
      by_cases h3 : i < k
      · rw [if_pos (by omega), if_pos h3]
      · rw [if_neg (by omega), if_neg h3]
set_option maxRecDepth 100000 in
set_option maxHeartbeats 2000000 in
theorem places_ok (v u : Value) (xs ys : List Nat) (w : World) (hv : Sl w v (li xs)) (hu : Sl w u (li ys)) (hin : ∀ y, y ∈ ys → y ∈ xs) (hxl : xs.length ≤ 60) (hyl : ys.length ≤ 60) :
    Calls Tryz.prog 60 #[v, u] w fun x w' => ∃ r, x = .returned r ∧ SlF w.heap.size w' r (li (ys.map (place xs))) ∧ Below w.heap.size w w' := by
  obtain ⟨i0, hi, hz0, hz1, hz2⟩ := info_parts info3b
  have HIX := hide (fun W (a : Nat) (h : Below w.heap.size w W) (ha : a ∈ xs) => idx_ok v xs a W (hv.below h) ha (by omega))
  obtain ⟨va, vl, vc, rfl⟩ := hv.isSlice
  obtain ⟨ua, uc, ub, uo, rfl, hrd, hup, _, _⟩ := hu
  rw [li_len]
  have HRD := hide hrd
  clear hrd
  obtain ⟨f, hf⟩ : ∃ f : Nat → Int, f = fun i => ((place xs (ys[i]?.getD 0) : Nat) : Int) := ⟨_, rfl⟩
  have HF := hide (fun i => show f i = ((place xs (ys[i]?.getD 0) : Nat) : Int) by rw [hf])
  clear hf
  have hy8 : ¬ ((ys.length : Int) < 0) := by omega
  go_enter Tryz.func60, Tryz.ntmps60
  go_wp2_with (first
    | (at_make; refine wpList_make_full _ rfl _ _ 22 rfl w.heap.size 3 i0 (.int .i64 0) 1 under22b hi hz0 hz1 _ _ _ _ ys.length rfl rfl rfl rfl (by rw [hz2]; omega) (by unfold maxLen; omega) (by simp) ?_))
  intro w5 hown hgr
  have hM5 : Blk w5 w.heap.size 3 ((filU f ys.length 0).map (Value.int .i64)) := by
    have := Blk.of_owns hown
    rw [made_rep] at this
    rw [filU_zero, List.map_replicate]; exact this
  have hb5 : Below w.heap.size w w5 := (Below.refl _ w).grown hgr (Nat.le_refl _) (by simp)
  clear hown hgr
  go_wp2
  go_loopw [13] (fun i wr => ∃ a : Nat, a ≤ ys.length ∧ i = .int .i64 a ∧ Blk wr w.heap.size 3 ((filU f ys.length a).map (Value.int .i64)) ∧ Below w.heap.size w wr) (fun i _ => ys.length - (intOf i).toNat)
  case atStart => exact ⟨0, Nat.zero_le _, rfl, hM5, hb5⟩
  case round =>
    obtain ⟨a, ha, rfl, hMa, hBa⟩ := hrel
    clear hM5 hb5
    by_cases hlt : a < ys.length
    · have hai : (a : Int) < (ys.length : Int) := by omega
      have hcj := (HRD.out.below hBa hup).cell a (by rw [li_len]; exact hlt)
      rw [li_get hlt] at hcj
      obtain rfl := HRD.out.at_ (by rw [li_len]; omega)
      have HX := hide (HIX.out wr ys[a] hBa (hin _ (List.getElem_mem hlt)))
      have HFA := hide (show ((place xs ys[a] : Nat) : Int) = f a by rw [HF.out a]; simp [hlt])
      rw [HFA.out] at HX
      have hMc := hMa.int (y := a) (by rw [filU_len]; exact hlt)
      have hMf := hMa.frozen a
      have hM6 := hMa.setInt a (f a)
      rw [← filU_set] at hM6
      have hB6 := hBa.setCell (p := ⟨w.heap.size, a, none⟩) (Nat.le_refl _) (.int .i64 (f a))
      generalize f a = z9 at *
      generalize ys[a] = y9 at *
      go_wp2_with fail
      refine HX.out.mono ?_
      rintro x w9 ⟨rfl, rfl⟩
      go_wp2
      go_roundw
      case rel => exact ⟨a + 1, by omega, by go_num, hM6, hB6⟩
      case measure => simp [intOf]; omega
    · have hai : ¬ (a : Int) < (ys.length : Int) := by omega
      have han : a = ys.length := by omega
      have HE := hide (show filU f ys.length a = li (ys.map (place xs)) by
        rw [han, filU_all]
        unfold li
        apply List.ext_getElem
        · simp
        · intro i h1 h2
          simp at h1
          simp [HF.out, h1])
      rw [HE.out] at hMa
      clear han
      have hR := slF_blk (B := w.heap.size) (n := ys.length) hMa (by rw [li_len, List.length_map]) (by rw [li_len, List.length_map]; omega) (Nat.le_refl _)
      go_wp2
      go_ret
      exact ⟨_, rfl, hR, hBa⟩
end Go.Proofs.YtjiapicknkjhmaaGreatDoor

namespace Go.Proofs.YtjiapicknkjhmaaGreatDoor
open Go Go.RowKit Go.Maps

set_option maxRecDepth 100000 in
set_option maxHeartbeats 4000000 in
theorem is_bad (N : Int) (v u0 : Value) (zs l0 : List Int) (w : World) (hv : Sl w v zs) (hu : Sl w u0 l0) (hc : (sfault N zs l0).1 ≠ 0) :
    Calls Tryz.prog 57 #[.agg #[.int .i64 N, v], u0] w fun x w' => x = .returned (.tuple #[.bool false, .agg #[.int .i64 (sfault N zs l0).1, .int .i64 (sfault N zs l0).2]]) ∧ Below w.heap.size w w' := by
  obtain ⟨w0, BG⟩ := Beg.new w N v
  have hv0 := hv.below BG.bel
  obtain ⟨c0, c1, _, _⟩ := BG.box.two
  have hck := oset_bad N v u0 zs l0 w0 hv0 (hu.below BG.bel) hc
  obtain ⟨c, i, hci⟩ : ∃ c i, sfault N zs l0 = (c, i) := ⟨_, _, rfl⟩
  rw [hci] at hck hc ⊢
  simp only at hc hck
  have HCK := hide hck
  clear hck hci
  have hcb : (c != 0) = true := by simpa using hc
  rw [BG.eq] at c0 c1
  go_enter Tryz.func57, Tryz.ntmps57
  go_wp2_with fail
  rw [← BG.eq]
  refine HCK.out.mono ?_
  rintro x w1 ⟨rfl, hb1⟩
  clear c0 c1
  obtain ⟨w2, hw2⟩ : ∃ w2, w2 = (w1.alloc (.cells #[.int .i64 0, .slice none 0 0, .int .i64 0, .slice none 0 0] 66)).alloc (.cells #[.int .i64 c, .int .i64 i] 28) := ⟨_, rfl⟩
  have hB1 : Below w0.heap.size w0 w2 := by rw [hw2]; exact bcat2 hb1 ((balloc w1 _).alloc (by simp) _)
  have hF1 : Blk w2 (w1.heap.size + 1) 28 [.int .i64 c, .int .i64 i] := by
    rw [hw2]
    have := blk0 (w := w1.alloc (.cells #[.int .i64 0, .slice none 0 0, .int .i64 0, .slice none 0 0] 66)) (T := 28) (.int .i64 c) (.int .i64 i)
    rwa [World.size_alloc] at this
  have hR1 := blk_below BG.res hB1
  have hBw := bcat BG.bel hB1 BG.bel.size
  obtain ⟨y0, y1, fy0, fy1⟩ := hR1.two
  obtain ⟨t0, t1, _, _⟩ := hF1.two
  rw [hw2] at t0 t1
  go_wp2_with fail
  rw [← hw2]
  rw [← hw2] at t0 t1
  clear hw2
  go_region
  all_goals (
    go_wp2
    obtain ⟨hR6, hB6⟩ := put2 hR1 hBw (by omega) c i
    have hB7 := bdrew hB6
    have hR7 : Blk ((w2.setCell ⟨w.heap.size + 1, 0, none⟩ (.int .i64 c)).setCell ⟨w.heap.size + 1, 1, none⟩ (.int .i64 i)).drew (w.heap.size + 1) 28 [.int .i64 c, .int .i64 i] := hR6
    generalize ((w2.setCell ⟨w.heap.size + 1, 0, none⟩ (.int .i64 c)).setCell ⟨w.heap.size + 1, 1, none⟩ (.int .i64 i)).drew = W at hR7 hB7 ⊢
    obtain ⟨z0, z1, _, _⟩ := hR7.two
    exact bodyPost_ret (v := .tuple #[.bool false, .agg #[.int .i64 c, .int .i64 i]]) (by simp [results, Tryz.results57, go_sem, z0, z1]) rfl ⟨rfl, hB7⟩)
set_option maxRecDepth 100000 in
set_option maxHeartbeats 4000000 in
theorem is_good (n e : Nat) (v u0 : Value) (zs l0 : List Int) (w : World) (hv : Sl w v zs) (hg : IsGrp n zs e) (hu : Sl w u0 l0) (hT : Tab w) (hc : lfault n l0 = (0, 0)) :
    Calls Tryz.prog 57 #[.agg #[.int .i64 n, v], u0] w fun x w' => x = .returned (.tuple #[.bool (subT n zs e (pset l0)), .agg #[.int .i64 0, .int .i64 0]]) ∧ Below w.heap.size w w' := by
  obtain ⟨va, vl, vc, rfl⟩ := hv.isSlice
  obtain ⟨p, hp⟩ := mkd_test n zs e (pset l0)
  have heq := subT_made hp hg.elt (fun a b ha hb => tm_lt hg.tab ha hb)
  obtain ⟨w0, BG⟩ := Beg.new w n (.slice va vl vc)
  have hv0 := hv.below BG.bel
  obtain ⟨c0, c1, _, _⟩ := BG.box.two
  have HCK := hide (oset_good n e (.slice va vl vc) u0 zs l0 w0 hv0 hg (hu.below BG.bel) hc)
  have HZ0 := hide (show w.heap.size + 2 ≤ w0.heap.size by rw [BG.eq]; simp)
  rw [BG.eq] at c0 c1
  go_enter Tryz.func57, Tryz.ntmps57
  go_wp2_with fail
  rw [← BG.eq]
  refine HCK.out.mono ?_
  rintro x w1 ⟨iv9, rfl, hSI, hb1⟩
  obtain ⟨ia, il, ic, rfl⟩ := hSI.sl.isSlice
  clear c0 c1 HCK
  obtain ⟨w2, hw2⟩ : ∃ w2, w2 = (w1.alloc (.cells #[.int .i64 n, (.slice va vl vc), .int .i64 e, (.slice ia il ic)] 66)).alloc (.cells #[.int .i64 0, .int .i64 0] 28) := ⟨_, rfl⟩
  have hb2 : Below w1.heap.size w1 w2 := by rw [hw2]; exact (balloc w1 _).alloc (by simp) _
  have hB1 : Below w0.heap.size w0 w2 := bcat2 hb1 hb2
  have hF1 : Blk w2 (w1.heap.size + 1) 28 [.int .i64 0, .int .i64 0] := by
    rw [hw2]
    have := blk0 (w := w1.alloc (.cells #[.int .i64 n, (.slice va vl vc), .int .i64 e, (.slice ia il ic)] 66)) (T := 28) (.int .i64 0) (.int .i64 0)
    rwa [World.size_alloc] at this
  have hH2 : Blk w2 w1.heap.size 66 [.int .i64 n, (.slice va vl vc), .int .i64 e, (.slice ia il ic)] := by
    rw [hw2]; exact (blk4 _ _ _ _).alloc _
  have hBw2 := bcat BG.bel hB1 BG.bel.size
  have hR2 := blk_below BG.res hB1
  have hT2 := hT.below hBw2
  have hGA2 : GA w2 n (.slice va vl vc) e (.slice ia il ic) zs := ⟨hg, hv.below hBw2, (hSI.below hb2).sl⟩
  obtain ⟨t0, t1, _, _⟩ := hF1.two
  obtain ⟨_, h0, h1, h2, h3, _⟩ := Four.mk' hH2
  have hx2 := blk_below BG.box hB1
  have HZ1 := hide (Nat.le_trans HZ0.out hb1.size)
  have HZ2 := hide hb2.size
  rw [hw2] at t0 t1 h0 h1 h2 h3
  go_wp2_with fail
  rw [← hw2]
  clear hw2 t0 t1 h0 h1 h2 h3
  refine (made_ok n _ _ zs e (pset l0) p w2 hGA2 hT2 hp).mono ?_
  rintro x w3 ⟨rfl, hb3⟩
  have hB5 := bcat hBw2 hb3 hBw2.size
  obtain ⟨_, y0, y1, fy0, fy1, s0, s1⟩ := Two.mk' (blk_below hR2 hb3)
  have HE := hide heq
  clear heq
  by_cases hb : bs p n = bs (pset l0) n
  · rw [hb] at HE ⊢
    go_wp2
    exact bodyPost_ret (v := .tuple #[.bool true, .agg #[.int .i64 0, .int .i64 0]]) (by simp [results, Tryz.results57, go_sem, y0, y1]) rfl ⟨by rw [HE.out]; simp, hB5⟩
  · have hbi : ¬ ((bs p n : Nat) : Int) = ((bs (pset l0) n : Nat) : Int) := by omega
    rw [decide_eq_false hb] at HE
    go_wp2
    exact bodyPost_ret (v := .tuple #[.bool false, .agg #[.int .i64 0, .int .i64 0]]) (by simp [results, Tryz.results57, go_sem, y0, y1, hbi]) rfl ⟨by rw [HE.out], hB5⟩
set_option maxRecDepth 100000 in
set_option maxHeartbeats 1000000 in
theorem cprd_ok (n : Nat) (v : Value) (zs : List Int) (a b : Nat) (w : World) (ht : IsTab n zs) (hv : Sl w v zs) (ha : a < n) (hb : b < n) :
    Calls Tryz.prog 111 #[.agg #[.int .i64 n, v], .int .i64 a, .int .i64 b] w fun e w' => e = .returned (.int .i64 (tm n zs a b)) ∧ Below w.heap.size w w' := by
  have hlt := place_lt ha hb
  have hle := ht.le
  have hlen := ht.len
  have hn2 : n * n ≤ 60 * 60 := Nat.mul_le_mul hle hle
  have hg := tm_get ht ha hb
  have han : a * n ≤ 60 * 60 := Nat.mul_le_mul (by omega) (by omega)
  have hB0 : Below w.heap.size w (w.alloc (.cells #[.int .i64 n, v] 24)) := balloc w _
  have N0 : Blk (w.alloc (.cells #[.int .i64 n, v] 24)) w.heap.size 24 [.int .i64 n, v] := blk0 _ _
  obtain ⟨x, cap, pb, po, rfl, hr, hp, hq3, hq4⟩ := hv.below hB0
  obtain rfl := hr.at_ (by omega)
  have hc := hr.cell (a * n + b) (by omega)
  rw [hg] at hc
  obtain ⟨c0, c1, _, _⟩ := N0.two
  have hi : ((a * n + b : Nat) : Int) < (zs.length : Int) := by omega
  have hm : ((a : Int) * (n : Int)) = ((a * n : Nat) : Int) := by rw [Int.natCast_mul]
  have HLEN := hide hlen
  have HB0 := hide hB0
  generalize hk : a * n = k at *
  generalize tm n zs a b = r at *
  clear hlen hB0 hg hn2 hk
  go_enter Tryz.func111, Tryz.ntmps111
  go_wp2
  go_ret
  exact ⟨rfl, HB0.out⟩
set_option maxRecDepth 100000 in
set_option maxHeartbeats 4000000 in
theorem rgt_ok (n : Nat) (v lv : Value) (zs : List Int) (xs : List Nat) (a : Nat) (w : World) (ht : IsTab n zs) (hv : Sl w v zs) (hs : Sl w lv (li xs)) (hx : ∀ x, x ∈ xs → x < n) (ha : a < n) :
    Calls Tryz.prog 83 #[.agg #[.int .i64 n, v], lv, .int .i64 a] w fun e w' => e = .returned (.int .u64 (bs (rgtq n zs xs a) n)) ∧ Below w.heap.size w w' := by
  have hn := ht.le
  have hB0 : Below w.heap.size w (w.alloc (.cells #[.int .i64 n, v] 24)) := balloc w _
  have hX0 : BoxG (w.alloc (.cells #[.int .i64 n, v] 24)) w.heap.size n v := blk0 _ _
  have hv0 := hv.below hB0
  obtain ⟨ra, rc, pb, po, rfl, hr, hp, hq3, hq4⟩ := hs.below hB0
  have hml : xs.length ≤ 9223372036854775807 := by rw [li_len] at hq3; unfold maxLen at hq4; omega
  rw [li_len] at hq3 ⊢
  have HM := hide hx
  have HR := hide hr
  have HLL := hide (li_len xs)
  clear hr hq4 hx hs
  go_enter Tryz.func83, Tryz.ntmps83
  go_wp2
  generalize w.alloc (.cells #[.int .i64 n, v] 24) = w1 at *
  go_loopw [7, 12] (fun s i wr => ∃ k : Nat, k ≤ xs.length ∧ i = .int .i64 k ∧ s = .int .u64 (bs (rgtq n zs (xs.take k) a) n) ∧ Below w1.heap.size w1 wr) (fun _ i _ => xs.length - (intOf i).toNat)
  case atStart => exact ⟨0, Nat.zero_le _, rfl, by rw [List.take_zero, show bs (rgtq n zs [] a) n = 0 from bs_none n]; rfl, Below.refl _ _⟩
  case round =>
    obtain ⟨k, hk, rfl, rfl, hB⟩ := hrel
    by_cases hlt : k < xs.length
    · have hck := (HR.out.below hB hp).cell k (by rw [HLL.out]; exact hlt)
      rw [li_get hlt] at hck
      obtain rfl := HR.out.at_ (by rw [HLL.out]; omega)
      obtain ⟨x, hxe⟩ : ∃ x, xs[k] = x := ⟨_, rfl⟩
      have hxn : x < n := by rw [← hxe]; exact HM.out _ (List.getElem_mem hlt)
      have hsn : xs.take (k + 1) = xs.take k ++ [x] := by rw [List.take_succ_eq_append_getElem hlt, hxe]
      rw [hxe] at hck
      have hki : (k : Int) < (xs.length : Int) := by omega
      have hct : tm n zs x a < n := tm_lt ht hxn ha
      have hor := bs_put (n := n) (t := tm n zs x a) (p := rgtq n zs (xs.take k) a) (q := rgtq n zs (xs.take (k + 1)) a) hn (fun z => by
        unfold rgtq
        rw [hsn, List.any_append]
        simp only [List.any_cons, List.any_nil, Bool.or_false]
        congr 1
        rw [Bool.eq_iff_iff, decide_eq_true_eq, decide_eq_true_eq]
        exact eq_comm)
      have HCM := hide (cprd_ok n v zs x a wr ht (hv0.below hB) hxn ha)
      have HOF := hide (fun W b (h : W.cell? ⟨b, 0, none⟩ = some (.int .i64 (tm n zs x a))) => of_one n b (tm n zs x a) W hn hct h)
      obtain ⟨g0, g1, _, _⟩ := (blk_below hX0 hB).two
      generalize tm n zs x a = t at *
      generalize bs (fun z => decide (z = t)) n = T9 at *
      clear hsn hxe
      go_wp2_with fail
      refine HCM.out.mono ?_
      rintro x9 w7 ⟨rfl, hb7⟩
      have hB8 := bcat2 hB (bcat2 hb7 (balloc w7 (.cells #[.int .i64 t] 3)))
      clear g0 g1
      go_wp2_with fail
      refine (HOF.out _ _ (cell1 _ _ _)).mono ?_
      rintro x9 w8 ⟨rfl, rfl⟩
      go_wp2
      go_roundw
      case rel => exact ⟨k + 1, by omega, by go_num, rfl, hB8⟩
      case measure => simp [intOf]; omega
    · have hkn : k = xs.length := by omega
      subst hkn
      rw [List.take_length]
      go_wp2
      go_ret
      exact ⟨rfl, bcat2 hB0 hB⟩
theorem call109 (a : Int) (x y : Value) (W : World) : Sem.run Tryz.prog (callFunc 82 (#[.int .i64 a] ++ #[x, y])) W = .ok (.enter 82 (#[.int .i64 a] ++ #[x, y])) W := by kernel_rfl
set_option maxRecDepth 100000 in
set_option maxHeartbeats 4000000 in
theorem rgt1_ok (n : Nat) (v lv : Value) (zs : List Int) (xs : List Nat) (a gb lb : Nat) (w : World) (ht : IsTab n zs) (hv : Sl w v zs) (hs : Sl w lv (li xs)) (hx : ∀ x, x ∈ xs → x < n) (ha : a < n) (hX : BoxG w gb n v) (hL : Boxed w lb 22 lv) :
    Calls Tryz.prog 82 (#[.int .i64 a] ++ #[.pointer (some ⟨gb, 0, none⟩), .pointer (some ⟨lb, 0, none⟩)]) w fun e w' => e = .returned (.int .u64 (bs (rgtq n zs xs a) n)) ∧ Below w.heap.size w w' := by
  show Calls Tryz.prog 82 #[.int .i64 a, .pointer (some ⟨gb, 0, none⟩), .pointer (some ⟨lb, 0, none⟩)] w _
  obtain ⟨c0, c1, _, _⟩ := hX.two
  have c2 := hL.cell
  go_enter Tryz.func82, Tryz.ntmps82
  go_wp2_with fail
  refine (rgt_ok n v lv zs xs a w ht hv hs hx ha).mono ?_
  rintro x w1 ⟨rfl, hb1⟩
  go_wp2
  go_ret
  exact ⟨rfl, hb1⟩
theorem und95 : Tryz.prog.underlying 101 = some (.map 68 3) := by kernel_rfl
set_option maxRecDepth 100000 in
set_option maxHeartbeats 8000000 in
theorem parts_ok (n k : Nat) (caps : Array Value) (f : Nat → Nat → Bool) (w : World) (hn : n ≤ 60) (hT : Tab w)
    (hcall : ∀ a W, Sem.run Tryz.prog (callFunc k (#[.int .i64 a] ++ caps)) W = .ok (.enter k (#[.int .i64 a] ++ caps)) W)
    (hp : ∀ (W : World) (a : Nat), Below w.heap.size w W → a < n → Calls Tryz.prog k (#[.int .i64 a] ++ caps) W fun e w' => e = .returned (.int .u64 (bs (f a) n)) ∧ Below W.heap.size W w') :
    Calls Tryz.prog 81 #[.int .i64 n, .func (.func k) #[] caps] w fun x w' => ∃ r vs D, x = .returned (.tuple #[r, .map (some w.heap.size)]) ∧ w'.ownsRow (w.heap.size + 1) 22 1 r vs.length vs ∧ Lsts w' (w.heap.size + 1) r vs (csl n f n) ∧ w'.ownsMap Tryz.prog 68 (plainElem Tryz.prog 3) w.heap.size n D ∧ MInv n f n D ∧ Below w.heap.size w w' := by
  obtain ⟨i0, hi, hz0, hz1, hz2⟩ := info_parts info22b
  have hmm := @run_makeMap Tryz.prog
  have HP := hide hp
  clear hp
  go_enter Tryz.func81, Tryz.ntmps81
  go_wp2
  clear hmm
  go_loopw [6, 14] (fun r i wr => ∃ (j : Nat) (vs : List Value) (D : DataW Unit), j ≤ n ∧ i = .int .i64 j ∧ wr.ownsRow (w.heap.size + 1) 22 1 r vs.length vs ∧ Lsts wr (w.heap.size + 1) r vs (csl n f j) ∧ wr.ownsMap Tryz.prog 68 (plainElem Tryz.prog 3) w.heap.size j D ∧ MInv n f j D ∧ Below w.heap.size w wr) (fun _ i _ => n - (intOf i).toNat)
  case atStart => exact ⟨0, [], .map [], Nat.zero_le _, rfl, World.ownsRow_nil _ _ _ _, ⟨rfl, fun t x l h => by simp at h⟩, World.ownsMap_made _ _ _ _, fun s => ⟨fun h => by simp [Maps.has] at h, fun ⟨a, h, _⟩ => by omega⟩, balloc w _⟩
  case round =>
    obtain ⟨j, vs, D, hj, rfl, hrow, hls, hmap, hM, hB⟩ := hrel
    obtain ⟨ra, rcap, rfl⟩ := own_slice' hrow
    by_cases hlt : j < n
    · have hji : (j : Int) < (n : Int) := by omega
      go_wp2_with fail
      refine (HP.out wr j hB hlt).mono ?_
      rintro e1 w1 ⟨rfl, hb1⟩
      have hB1 := bcat2 hB hb1
      have hmap1 := hmap.kept (below_grown hb1 none) (by simp)
      have hrow1 := hrow.kept (below_grown hb1 none) (by cases ra <;> simp [Value.ownBlock])
      have hls1 : Lsts w1 (w.heap.size + 1) (.slice ra vs.length rcap) vs (csl n f j) := hls.keep hb1.size (fun g _ h2 _ => hb1.block g h2) (.inl rfl)
      have hkw : (Lit.int .u64 (bs (f j) n : Nat)).wf = true := WalkArith.wf_u64 (by have := bs_64 (p := f j) hn; omega)
      have hkey := keyOf_int_mk und77 hkw
      have hvl : vs.length ≤ j := by rw [hls.1]; unfold csl; rw [List.length_map]; exact fsts_len n f j
      have hs1 : w.heap.size < w1.heap.size := Nat.lt_of_lt_of_le hmap.lt hb1.size
      clear hrow hls hmap hB hb1
      cases hh : Maps.has D (.int .u64 (bs (f j) n : Nat)) with
      | false =>
        have HST := hide (show csl n f (j + 1) = csl n f j ++ [li (lst n (f j))] by
          unfold csl
          rw [fsts_succ, if_pos ((minv_new hM).1 hh), List.map_append]; rfl)
        have HMV := hide (fun d => minv_step (d := d) hM (map_is hmap1))
        go_wp2_with (first
          | (at_lookup; refine wpList_lookup_own_ok_int _ rfl _ _ 101 rfl 68 3 .i64 law77 und95 und3' (zero3 _) w.heap.size _ D rfl hmap1 _ _ rfl hkey ?_; intro c hat hwc; rw [hh])
          | (at_mapUpdate; refine wpList_mapUpdate_own _ rfl _ _ _ 101 rfl 68 3 law77 und95 _ w.heap.size _ D rfl hmap1 (by unfold maxLen; omega) _ _ _ rfl rfl hkey _ [] (plainElem_int und3' (WalkArith.wf_i64 (by omega))) ?_; intro w2 hmap2 hgrow2))
        have hB2 := hB1.grown hgrow2 hB1.size (fun k hk => by cases hk; exact Nat.le_refl _)
        have hrow2 := hrow1.kept hgrow2 (by
          by_cases h9 : (Value.slice ra vs.length rcap).ownBlock = some w.heap.size
          · have := owns_ge hrow1 _ h9; omega
          · exact .inr h9)
        have hls2 : Lsts w2 (w.heap.size + 1) (.slice ra vs.length rcap) vs (csl n f j) := hls1.keep hgrow2.size (fun g h1 h2 _ => hgrow2.block g h2 (by simp; omega)) (.inl rfl)
        have hs2 : w.heap.size < w2.heap.size := Nat.lt_of_lt_of_le hs1 hgrow2.size
        clear hrow1 hls1 hmap1 hB1 hgrow2
        refine (list_ok n (f j) w2 hn (hT.below hB2)).mono ?_
        rintro e3 w3 ⟨r9, rfl, hr9, hb3⟩
        have hB3 := bcat2 hB2 hb3
        have hrow3 := hrow2.kept (below_grown hb3 none) (by cases ra <;> simp [Value.ownBlock])
        have hls3 : Lsts w3 (w.heap.size + 1) (.slice ra vs.length rcap) vs (csl n f j) := hls2.keep hb3.size (fun g _ h2 _ => hb3.block g h2) (.inl rfl)
        have hmap3 := hmap2.kept (below_grown hb3 none) (by simp)
        have hown2 : ∀ g, (Value.slice ra vs.length rcap).ownBlock = some g → g < w2.heap.size := fun g hg => by
          rcases hrow2.2 with ⟨h1, _⟩ | ⟨g', cap, cur, h1, _, hh9, _⟩
          · rw [h1] at hg; simp [Value.ownBlock] at hg
          · rw [h1] at hg
            simp [Value.ownBlock] at hg
            subst hg
            exact (Array.getElem?_eq_some_iff.1 hh9).1
        obtain ⟨qa, qcap, qb, qo, rfl, hq, hq1, hq2, hq3, hq4⟩ := hr9
        have hs3 := hb3.size
        have HQ := hide hq
        clear hrow2 hls2 hmap2 hB2 hb3 hq
        generalize li (lst n (f j)) = lj at *
        go_wp2_with (first
          | (at_builtin; refine wpList_append_own_at _ rfl _ _ 25 rfl (w.heap.size + 1) 22 i0 (.slice none 0 0) 1 24 under25b hi hz0 hz1 hz2 rfl (by decide) _ _ _ rfl (World.ownsRow.alloc hrow3 _) ⟨w3.heap.size, 0, none⟩ 1 1 [.slice qa lj.length qcap] rfl rfl ?c1 ?c2 ?c3 ?c4 ?c5 ?_))
        case c1 => exact cell_one_new _ _ _
        case c2 => simp [Value.oneCell']
        case c3 => unfold maxLen; omega
        case c4 => omega
        case c5 => simp; omega
        intro v' w4 hown' hgrow hnil hloc
        obtain ⟨ra', rcap', rfl⟩ := own_slice' hown'
        have hB4 : Below w.heap.size w w4 := (hB3.alloc hB3.size _).grown hgrow (by simp; omega) (fun t e => by have := owns_ge hrow3 t e; omega)
        have hmap4 := (hmap3.kept (World.grownBy_alloc w3 _ none) (by simp)).kept hgrow (fun e => by have := owns_ge hrow3 _ e.symm; omega)
        have hbl : ∀ g, g < w3.heap.size → (Value.slice ra vs.length rcap).ownBlock ≠ some g → w4.heap[g]? = w3.heap[g]? := fun g h1 h2 => (hgrow.block g (by simp; omega) (fun e => h2 e.symm)).trans (Below.block (balloc w3 _) g h1)
        have hs4 : w3.heap.size < w4.heap.size := by have := hgrow.size; simp at this; omega
        have hlo : (Value.slice ra' (vs.length + 1) rcap').ownBlock = (Value.slice ra vs.length rcap).ownBlock ∨ ∀ g, (Value.slice ra' (vs.length + 1) rcap').ownBlock = some g → w3.heap.size ≤ g := by
          rcases hloc with h | h
          · exact .inl h
          · right; intro g hg; rw [h] at hg; simp at hg; omega
        have hls4 := (hls3.keep (r' := .slice ra' (vs.length + 1) rcap') (by omega) (fun g _ h2 h3 => hbl g h2 h3) hlo).snoc (x := .slice qa lj.length qcap) (l := lj) ⟨qa, qcap, qb, qo, rfl, HQ.out.of_eq (hbl qb hq1 (fun e => by have := hown2 _ e; omega)), by omega, hq2, hq3, by omega, fun g hg e => by
          subst e
          rcases hlo with h | h
          · have := hown2 _ (h ▸ hg); omega
          · have := h _ hg; omega⟩
        have hrow4 : w4.ownsRow (w.heap.size + 1) 22 1 (.slice ra' (vs.length + 1) rcap') (vs ++ [Value.slice qa lj.length qcap]).length (vs ++ [Value.slice qa lj.length qcap]) := by simpa using hown'
        clear hown' hgrow hloc hlo hbl hrow3 hls3 hmap3 hB3
        go_wp2
        go_roundw
        case rel => exact ⟨j + 1, _, _, by omega, by go_num, hrow4, by rw [HST.out]; exact hls4, hmap4, HMV.out _, hB4⟩
        case measure => simp [intOf]; omega
      | true =>
        have HST := hide (show csl n f (j + 1) = csl n f j by
          unfold csl
          rw [fsts_succ, if_neg (by rw [← minv_new hM, hh]; simp)])
        have HMV := hide (minv_same hM hh)
        go_wp2_with (first
          | (at_lookup; refine wpList_lookup_own_ok_int _ rfl _ _ 101 rfl 68 3 .i64 law77 und95 und3' (zero3 _) w.heap.size _ D rfl hmap1 _ _ rfl hkey ?_; intro c hat hwc; rw [hh]))
        go_roundw
        case rel => exact ⟨j + 1, vs, D, by omega, by go_num, hrow1, by rw [HST.out]; exact hls1, map_more hmap1, HMV.out, hB1⟩
        case measure => simp [intOf]; omega
    · have hjn : j = n := by omega
      subst hjn
      go_wp2
      exact bodyPost_ret (v := .tuple #[.slice ra vs.length rcap, .map (some w.heap.size)]) (by simp [results, Tryz.results81, go_sem]) rfl ⟨_, vs, D, rfl, hrow, hls, hmap, hM, hB⟩
theorem is_any (N : Int) (v u : Value) (zs l : List Int) (w : World) (hv : Sl w v zs) (hu : Sl w u l) (hT : Tab w) : ∃ b c i, Calls Tryz.prog 57 #[.agg #[.int .i64 N, v], u] w (fun x w' => x = .returned (.tuple #[.bool b, .agg #[.int .i64 c, .int .i64 i]]) ∧ Below w.heap.size w w') ∧ ((c ≠ 0 ∧ ufault N zs l = (c, i)) ∨ (c = 0 ∧ i = 0 ∧ b = false ∧ ufault N zs l = (7, 0)) ∨ (c = 0 ∧ i = 0 ∧ b = true ∧ ufault N zs l = (0, 0))) := by
  by_cases hs : (sfault N zs l).1 = 0
  · obtain ⟨n, e, rfl, hg, hl, _⟩ := sfault_zero hs
    have h := is_good n e v u zs l w hv hg hu hT hl
    have hf := ufault_u hg hl
    cases hb : subT n zs e (pset l)
    · rw [hb] at h hf; exact ⟨false, 0, 0, h, .inr (.inl ⟨rfl, rfl, rfl, hf⟩)⟩
    · rw [hb] at h hf; exact ⟨true, 0, 0, h, .inr (.inr ⟨rfl, rfl, rfl, hf⟩)⟩
  · exact ⟨false, _, _, is_bad N v u zs l w hv hu hs, .inl ⟨hs, ufault_s hs⟩⟩
set_option maxRecDepth 100000 in
set_option maxHeartbeats 8000000 in
theorem wrong_ok (N : Int) (v : Value) (zs : List Int) (b cap : Nat) (ls : List (List Int)) (w : World) (hv : Sl w v zs) (hT : Tab w) (hlen : ls.length ≤ 2)
    (hc : ∀ t, t < ls.length → ∃ x, w.cell? ⟨b, t, none⟩ = some x ∧ Sl w x (ls[t]?.getD [])) :
    Calls Tryz.prog 80 #[.agg #[.int .i64 N, v], .slice (some ⟨b, 0, none⟩) ls.length cap] w fun x w' => x = .returned (.agg #[.int .i64 (wfault N zs ls).1, .int .i64 (wfault N zs ls).2]) ∧ Below w.heap.size w w' := by
  obtain ⟨w0, BG⟩ := Beg.new w N v
  have HC := hide hc
  clear hc
  go_enter Tryz.func80, Tryz.ntmps80
  go_wp2
  rw [← BG.eq]
  go_loopw [11] (fun i wr => ∃ k : Nat, k ≤ ls.length ∧ i = .int .i64 k ∧ (∀ t, t < k → (ufault N zs (ls[t]?.getD [])).1 = 0) ∧ Below w0.heap.size w0 wr) (fun i _ => ls.length - (intOf i).toNat)
  case atStart => exact ⟨0, Nat.zero_le _, rfl, fun t ht => by omega, Below.refl _ _⟩
  case round =>
    obtain ⟨k, hk, rfl, hno, hB⟩ := hrel
    have HNO := hide hno
    clear hno
    have hBw := bcat BG.bel hB BG.bel.size
    have hX := blk_below BG.box hB
    have hR := blk_below BG.res hB
    have HS1 := hide hR.lt
    by_cases hlt : k < ls.length
    · obtain ⟨x, hcx, hsx⟩ := HC.out k hlt
      obtain ⟨x1, x2, x3, rfl⟩ := hsx.isSlice
      obtain ⟨bq, c, i, HI, hor⟩ := is_any N v (.slice x1 x2 x3) zs (ls[k]?.getD []) wr (hv.below hBw) (hsx.below hBw) (hT.below hBw)
      have HI := hide HI
      have hcx := below_cell hBw hcx
      have hki : (k : Int) < (ls.length : Int) := by omega
      obtain ⟨c0, c1, _, _⟩ := hX.two
      go_wp2_with fail
      refine HI.out.mono ?_
      rintro e1 w1 ⟨rfl, hb1⟩
      clear c0 c1 hcx hsx
      have hb2 := bcat2 hb1 (balloc w1 (.cells #[.int .i64 c, .int .i64 i] 28))
      have hF2 := blk0 (w := w1) (T := 28) (.int .i64 c) (.int .i64 i)
      have hB2 := bcat2 hB hb2
      have hBw2 := bcat BG.bel hB2 BG.bel.size
      have hR2 := blk_below hR hb2
      obtain ⟨f0, f1, _, _⟩ := hF2.two
      obtain ⟨y0, y1, fy0, fy1⟩ := hR2.two
      rcases hor with ⟨hc0, hu⟩ | ⟨rfl, rfl, rfl, hu⟩ | ⟨rfl, rfl, rfl, hu⟩
      · have HD := hide (show wfault N zs ls = (c, i) by rw [← hu]; exact wfault_at HNO.out hlt (by rw [hu]; exact hc0))
        have hcb : (c != 0) = true := by simpa using hc0
        obtain ⟨hR6, hB6⟩ := put2 hR2 hBw2 (by omega) c i
        go_wp2
        generalize ((w1.alloc (.cells #[.int .i64 c, .int .i64 i] 28)).setCell ⟨w.heap.size + 1, 0, none⟩ (.int .i64 c)).setCell ⟨w.heap.size + 1, 1, none⟩ (.int .i64 i) = W at hR6 hB6 ⊢
        obtain ⟨z0, z1, _, _⟩ := hR6.two
        rw [HD.out]
        exact bodyPost_ret (v := .agg #[.int .i64 c, .int .i64 i]) (by simp [results, Tryz.results80, go_sem, z0, z1]) rfl ⟨rfl, hB6⟩
      · have HD := hide (show wfault N zs ls = (7, 0) by rw [← hu]; exact wfault_at HNO.out hlt (by rw [hu]; decide))
        obtain ⟨hR6, hB6⟩ := put2 hR2 hBw2 (by omega) 7 0
        go_wp2
        generalize ((w1.alloc (.cells #[.int .i64 0, .int .i64 0] 28)).setCell ⟨w.heap.size + 1, 0, none⟩ (.int .i64 7)).setCell ⟨w.heap.size + 1, 1, none⟩ (.int .i64 0) = W at hR6 hB6 ⊢
        obtain ⟨z0, z1, _, _⟩ := hR6.two
        rw [HD.out]
        exact bodyPost_ret (v := .agg #[.int .i64 7, .int .i64 0]) (by simp [results, Tryz.results80, go_sem, z0, z1]) rfl ⟨rfl, hB6⟩
      · go_wp2
        go_roundw
        case rel => exact ⟨k + 1, by omega, by go_num, fun t ht => by
          by_cases e9 : t = k
          · subst e9; rw [hu]
          · exact HNO.out t (by omega), hB2⟩
        case measure => simp [intOf]; omega
    · have HD := hide (show wfault N zs ls = (0, 0) from wfault_ok fun t ht => HNO.out t (by omega))
      obtain ⟨y0, y1, fy0, fy1⟩ := hR.two
      obtain ⟨hR6, hB6⟩ := put2 hR hBw (by omega) 0 0
      go_wp2
      generalize (wr.setCell ⟨w.heap.size + 1, 0, none⟩ (.int .i64 0)).setCell ⟨w.heap.size + 1, 1, none⟩ (.int .i64 0) = W at hR6 hB6 ⊢
      obtain ⟨z0, z1, _, _⟩ := hR6.two
      rw [HD.out]
      exact bodyPost_ret (v := .agg #[.int .i64 0, .int .i64 0]) (by simp [results, Tryz.results80, go_sem, z0, z1]) rfl ⟨rfl, hB6⟩
set_option maxRecDepth 100000 in
set_option maxHeartbeats 1000000 in
theorem rgt_bad (N : Int) (v u : Value) (zs l : List Int) (w : World) (hv : Sl w v zs) (hu : Sl w u l) (hT : Tab w) (hc : (ufault N zs l).1 ≠ 0) :
    Calls Tryz.prog 48 #[.agg #[.int .i64 N, v], u] w fun x w' => x = .returned (.tuple #[.slice none 0 0, .agg #[.int .i64 (ufault N zs l).1, .int .i64 (ufault N zs l).2]]) ∧ Below w.heap.size w w' := by
  obtain ⟨u1, u2, u3, rfl⟩ := hu.isSlice
  obtain ⟨w0, BG⟩ := Beg3.new w N v (.slice u1 u2 u3)
  have hu0 := (hu.below BG.bel).alloc (.cells #[.slice u1 u2 u3] 22)
  have hv0 := (hv.below BG.bel).alloc (.cells #[.slice u1 u2 u3] 22)
  have hT0 := (hT.below BG.bel).below (balloc w0 (.cells #[.slice u1 u2 u3] 22))
  have HW := hide (wrong_ok N v zs w0.heap.size 1 [l] (w0.alloc (.cells #[.slice u1 u2 u3] 22)) hv0 hT0 (by simp) (fun t ht => by
    have : t = 0 := by simp at ht; omega
    subst this
    exact ⟨_, cell1 _ _ _, hu0⟩))
  have hs0 : w0.heap.size = w.heap.size + 1 + 1 + 1 := by rw [BG.eq]; simp
  rw [hs0, show [l].length = 1 from rfl, wfault_one] at HW
  obtain ⟨c0, c1, _, _⟩ := BG.box.two
  have c2 := BG.lis.cell
  rw [BG.eq] at c0 c1 c2
  obtain ⟨c, i, hci⟩ : ∃ c i, ufault N zs l = (c, i) := ⟨_, _, rfl⟩
  rw [hci] at HW hc ⊢
  simp only at HW hc ⊢
  clear hci
  have hcb : (c != 0) = true := by simpa using hc
  go_enter Tryz.func48, Tryz.ntmps48
  go_wp2_with fail
  rw [← BG.eq]
  clear c0 c1 c2
  refine HW.out.mono ?_
  rintro x w1 ⟨rfl, hb1⟩
  have hb1 := bcat2 (balloc w0 (.cells #[.slice u1 u2 u3] 22)) hb1
  have hb2 := bcat2 hb1 (balloc w1 (.cells #[.int .i64 c, .int .i64 i] 28))
  have hF2 := blk0 (w := w1) (T := 28) (.int .i64 c) (.int .i64 i)
  have hBw := bcat BG.bel hb2 BG.bel.size
  have hR2 := blk_below BG.res hb2
  obtain ⟨t0, t1, _, _⟩ := hF2.two
  obtain ⟨y0, y1, fy0, fy1⟩ := hR2.two
  obtain ⟨hR6, hB6⟩ := put2 hR2 hBw (by omega) c i
  go_wp2_with fail
  go_region
  all_goals (
    go_wp2
    obtain ⟨z0, z1, _, _⟩ := hR6.two
    exact bodyPost_ret (v := .tuple #[.slice none 0 0, .agg #[.int .i64 c, .int .i64 i]]) (by simp [results, Tryz.results48, go_sem, z0, z1]) rfl ⟨rfl, bdrew hB6⟩)
set_option maxRecDepth 100000 in
set_option maxHeartbeats 1000000 in
theorem rgt_good (n e : Nat) (v u : Value) (zs l : List Int) (w : World) (hv : Sl w v zs) (hg : IsGrp n zs e) (hu : Sl w u l) (hT : Tab w) (hl : lfault n l = (0, 0)) (hsb : subT n zs e (pset l) = true) :
    Calls Tryz.prog 48 #[.agg #[.int .i64 n, v], u] w fun x w' => ∃ r vs, x = .returned (.tuple #[r, .agg #[.int .i64 0, .int .i64 0]]) ∧ w'.ownsRow w.heap.size 22 1 r vs.length vs ∧ Lsts w' w.heap.size r vs (csl n (rgtq n zs (lst n (pset l))) n) ∧ Below w.heap.size w w' := by
  obtain ⟨u1, u2, u3, rfl⟩ := hu.isSlice
  obtain ⟨w0, BG⟩ := Beg3.new w n v (.slice u1 u2 u3)
  have hu0 := (hu.below BG.bel).alloc (.cells #[.slice u1 u2 u3] 22)
  have hv0 := (hv.below BG.bel).alloc (.cells #[.slice u1 u2 u3] 22)
  have hT0 := (hT.below BG.bel).below (balloc w0 (.cells #[.slice u1 u2 u3] 22))
  have HW := hide (wrong_ok n v zs w0.heap.size 1 [l] (w0.alloc (.cells #[.slice u1 u2 u3] 22)) hv0 hT0 (by simp) (fun t ht => by
    have : t = 0 := by simp at ht; omega
    subst this
    exact ⟨_, cell1 _ _ _, hu0⟩))
  have hs0 : w0.heap.size = w.heap.size + 1 + 1 + 1 := by rw [BG.eq]; simp
  rw [hs0, show [l].length = 1 from rfl, wfault_one] at HW
  obtain ⟨c0, c1, _, _⟩ := BG.box.two
  have c2 := BG.lis.cell
  rw [BG.eq] at c0 c1 c2
  rw [show ufault n zs l = (0, 0) by rw [ufault_u hg hl, if_pos hsb]] at HW
  simp only at HW
  have hli := set_lst (show (lfault n l).1 = 0 by rw [hl])
  have hu9 : Sl w (.slice u1 u2 u3) (li (lst n (pset l))) := by rw [← hli]; exact hu
  have hxm : ∀ x, x ∈ lst n (pset l) → x < n := fun x hx => (mem_lst.1 hx).1
  go_enter Tryz.func48, Tryz.ntmps48
  go_wp2_with fail
  rw [← BG.eq]
  clear c0 c1 c2
  refine HW.out.mono ?_
  rintro x w1 ⟨rfl, hb1⟩
  have hb1 := bcat2 (balloc w0 (.cells #[.slice u1 u2 u3] 22)) hb1
  have hb2 := bcat2 hb1 (balloc w1 (.cells #[.int .i64 0, .int .i64 0] 28))
  have hF2 := blk0 (w := w1) (T := 28) (.int .i64 0) (.int .i64 0)
  have hBw := bcat BG.bel hb2 BG.bel.size
  have hX2 := blk_below BG.box hb2
  have hL2 := Boxed.below BG.lis hb2
  have hR2 := blk_below BG.res hb2
  obtain ⟨t0, t1, _, _⟩ := hF2.two
  obtain ⟨c0, c1, _, _⟩ := hX2.two
  go_wp2_with fail
  generalize w1.alloc (.cells #[.int .i64 0, .int .i64 0] 28) = w2 at *
  clear t0 t1 c0 c1
  refine (parts_ok n 82 #[.pointer (some ⟨w.heap.size, 0, none⟩), .pointer (some ⟨w.heap.size + 1, 0, none⟩)] (rgtq n zs (lst n (pset l))) w2 hg.tab.le (hT.below hBw) (fun a W => call109 a _ _ W) (fun W a hW ha => rgt1_ok n v (.slice u1 u2 u3) zs (lst n (pset l)) a w.heap.size (w.heap.size + 1) W hg.tab ((hv.below hBw).below hW) ((hu9.below hBw).below hW) hxm ha (blk_below hX2 hW) (Boxed.below hL2 hW))).mono ?_
  rintro x w3 ⟨r, vs, D, rfl, hrow, hls, _, _, hb3⟩
  obtain ⟨ra, rcap, rfl⟩ := own_slice' hrow
  have hlt2 := hR2.lt
  have hB3 := bcat2 hBw hb3
  have hR3 := blk_below hR2 hb3
  obtain ⟨y0, y1, fy0, fy1⟩ := hR3.two
  obtain ⟨hR6, hB6⟩ := put2 hR3 hB3 (by omega) 0 0
  have hk6 : ∀ g, w2.heap.size + 1 ≤ g → g < w3.heap.size → ((w3.setCell ⟨w.heap.size + 1 + 1, 0, none⟩ (.int .i64 0)).setCell ⟨w.heap.size + 1 + 1, 1, none⟩ (.int .i64 0)).heap[g]? = w3.heap[g]? := fun g h1 _ => (Below.heap_setCell _ _ _ g (by simp; omega)).trans (Below.heap_setCell _ _ _ g (by simp; omega))
  have hrow6 := own_keep' hrow hk6
  have hls6 := hls.keep (by rw [size_set, size_set]; exact Nat.le_refl _) (fun g h1 h2 _ => hk6 g h1 h2) (.inl rfl)
  have hsz : w.heap.size ≤ w2.heap.size + 1 := by have := hBw.size; omega
  have hrow7 := owns_mono hrow6 hsz
  have hls7 := hls6.mono hsz
  clear hrow hls hrow6 hls6 hk6
  go_wp2
  generalize (w3.setCell ⟨w.heap.size + 1 + 1, 0, none⟩ (.int .i64 0)).setCell ⟨w.heap.size + 1 + 1, 1, none⟩ (.int .i64 0) = W at hR6 hB6 hrow7 hls7 ⊢
  obtain ⟨z0, z1, _, _⟩ := hR6.two
  exact bodyPost_ret (v := .tuple #[.slice ra vs.length rcap, .agg #[.int .i64 0, .int .i64 0]]) (by simp [results, Tryz.results48, go_sem, z0, z1]) rfl ⟨_, vs, rfl, hrow7, hls7, hB6⟩
set_option maxRecDepth 100000 in
set_option maxHeartbeats 8000000 in
theorem parts2_ok (n k : Nat) (caps : Array Value) (f : Nat → Nat → Bool) (w : World) (hn : n ≤ 60) (hT : Tab w)
    (hcall : ∀ a W, Sem.run Tryz.prog (callFunc k (#[.int .i64 a] ++ caps)) W = .ok (.enter k (#[.int .i64 a] ++ caps)) W)
    (hp : ∀ (W : World) (a : Nat), Below w.heap.size w W → a < n → Calls Tryz.prog k (#[.int .i64 a] ++ caps) W fun e w' => e = .returned (.int .u64 (bs (f a) n)) ∧ Below W.heap.size W w') :
    Calls Tryz.prog 81 #[.int .i64 n, .func (.func k) #[] caps] w fun x w' => ∃ r vs D, x = .returned (.tuple #[r, .map (some w.heap.size)]) ∧ w'.ownsRow (w.heap.size + 1) 22 1 r vs.length vs ∧ Lsts w' (w.heap.size + 1) r vs (csl n f n) ∧ w'.ownsMap Tryz.prog 68 (plainElem Tryz.prog 3) w.heap.size n D ∧ MInv n f n D ∧ MNum n f n D ∧ Below w.heap.size w w' := by
  obtain ⟨i0, hi, hz0, hz1, hz2⟩ := info_parts info22b
  have hmm := @run_makeMap Tryz.prog
  have HP := hide hp
  clear hp
  go_enter Tryz.func81, Tryz.ntmps81
  go_wp2
  clear hmm
  go_loopw [6, 14] (fun r i wr => ∃ (j : Nat) (vs : List Value) (D : DataW Unit), j ≤ n ∧ i = .int .i64 j ∧ wr.ownsRow (w.heap.size + 1) 22 1 r vs.length vs ∧ Lsts wr (w.heap.size + 1) r vs (csl n f j) ∧ wr.ownsMap Tryz.prog 68 (plainElem Tryz.prog 3) w.heap.size j D ∧ MInv n f j D ∧ MNum n f j D ∧ Below w.heap.size w wr) (fun _ i _ => n - (intOf i).toNat)
  case atStart => exact ⟨0, [], .map [], Nat.zero_le _, rfl, World.ownsRow_nil _ _ _ _, ⟨rfl, fun t x l h => by simp at h⟩, World.ownsMap_made _ _ _ _, fun s => ⟨fun h => by simp [Maps.has] at h, fun ⟨a, h, _⟩ => by omega⟩, fun a h => by omega, balloc w _⟩
  case round =>
    obtain ⟨j, vs, D, hj, rfl, hrow, hls, hmap, hM, hMN, hB⟩ := hrel
    obtain ⟨ra, rcap, rfl⟩ := own_slice' hrow
    by_cases hlt : j < n
    · have hji : (j : Int) < (n : Int) := by omega
      go_wp2_with fail
      refine (HP.out wr j hB hlt).mono ?_
      rintro e1 w1 ⟨rfl, hb1⟩
      have hB1 := bcat2 hB hb1
      have hmap1 := hmap.kept (below_grown hb1 none) (by simp)
      have hrow1 := hrow.kept (below_grown hb1 none) (by cases ra <;> simp [Value.ownBlock])
      have hls1 : Lsts w1 (w.heap.size + 1) (.slice ra vs.length rcap) vs (csl n f j) := hls.keep hb1.size (fun g _ h2 _ => hb1.block g h2) (.inl rfl)
      have hkw : (Lit.int .u64 (bs (f j) n : Nat)).wf = true := WalkArith.wf_u64 (by have := bs_64 (p := f j) hn; omega)
      have hkey := keyOf_int_mk und77 hkw
      have hvl : vs.length ≤ j := by rw [hls.1]; unfold csl; rw [List.length_map]; exact fsts_len n f j
      have hs1 : w.heap.size < w1.heap.size := Nat.lt_of_lt_of_le hmap.lt hb1.size
      clear hrow hls hmap hB hb1
      cases hh : Maps.has D (.int .u64 (bs (f j) n : Nat)) with
      | false =>
        have HST := hide (show csl n f (j + 1) = csl n f j ++ [li (lst n (f j))] by
          unfold csl
          rw [fsts_succ, if_pos ((minv_new hM).1 hh), List.map_append]; rfl)
        have HMV := hide (fun d => minv_step (d := d) hM (map_is hmap1))
        have HNV := hide (mnum_step hMN (map_is hmap1) hlt ((minv_new hM).1 hh))
        have HVL2 := hide (show vs.length = (fsts n f j).length by rw [hls1.1, csl_len])
        go_wp2_with (first
          | (at_lookup; refine wpList_lookup_own_ok_int _ rfl _ _ 101 rfl 68 3 .i64 law77 und95 und3' (zero3 _) w.heap.size _ D rfl hmap1 _ _ rfl hkey ?_; intro c hat hwc; rw [hh])
          | (at_mapUpdate; refine wpList_mapUpdate_own _ rfl _ _ _ 101 rfl 68 3 law77 und95 _ w.heap.size _ D rfl hmap1 (by unfold maxLen; omega) _ _ _ rfl rfl hkey _ [] (plainElem_int und3' (WalkArith.wf_i64 (by omega))) ?_; intro w2 hmap2 hgrow2))
        have hB2 := hB1.grown hgrow2 hB1.size (fun k hk => by cases hk; exact Nat.le_refl _)
        have hrow2 := hrow1.kept hgrow2 (by
          by_cases h9 : (Value.slice ra vs.length rcap).ownBlock = some w.heap.size
          · have := owns_ge hrow1 _ h9; omega
          · exact .inr h9)
        have hls2 : Lsts w2 (w.heap.size + 1) (.slice ra vs.length rcap) vs (csl n f j) := hls1.keep hgrow2.size (fun g h1 h2 _ => hgrow2.block g h2 (by simp; omega)) (.inl rfl)
        have hs2 : w.heap.size < w2.heap.size := Nat.lt_of_lt_of_le hs1 hgrow2.size
        clear hrow1 hls1 hmap1 hB1 hgrow2
        refine (list_ok n (f j) w2 hn (hT.below hB2)).mono ?_
        rintro e3 w3 ⟨r9, rfl, hr9, hb3⟩
        have hB3 := bcat2 hB2 hb3
        have hrow3 := hrow2.kept (below_grown hb3 none) (by cases ra <;> simp [Value.ownBlock])
        have hls3 : Lsts w3 (w.heap.size + 1) (.slice ra vs.length rcap) vs (csl n f j) := hls2.keep hb3.size (fun g _ h2 _ => hb3.block g h2) (.inl rfl)
        have hmap3 := hmap2.kept (below_grown hb3 none) (by simp)
        have hown2 : ∀ g, (Value.slice ra vs.length rcap).ownBlock = some g → g < w2.heap.size := fun g hg => by
          rcases hrow2.2 with ⟨h1, _⟩ | ⟨g', cap, cur, h1, _, hh9, _⟩
          · rw [h1] at hg; simp [Value.ownBlock] at hg
          · rw [h1] at hg
            simp [Value.ownBlock] at hg
            subst hg
            exact (Array.getElem?_eq_some_iff.1 hh9).1
        obtain ⟨qa, qcap, qb, qo, rfl, hq, hq1, hq2, hq3, hq4⟩ := hr9
        have hs3 := hb3.size
        have HQ := hide hq
        clear hrow2 hls2 hmap2 hB2 hb3 hq
        generalize li (lst n (f j)) = lj at *
        go_wp2_with (first
          | (at_builtin; refine wpList_append_own_at _ rfl _ _ 25 rfl (w.heap.size + 1) 22 i0 (.slice none 0 0) 1 24 under25b hi hz0 hz1 hz2 rfl (by decide) _ _ _ rfl (World.ownsRow.alloc hrow3 _) ⟨w3.heap.size, 0, none⟩ 1 1 [.slice qa lj.length qcap] rfl rfl ?c1 ?c2 ?c3 ?c4 ?c5 ?_))
        case c1 => exact cell_one_new _ _ _
        case c2 => simp [Value.oneCell']
        case c3 => unfold maxLen; omega
        case c4 => omega
        case c5 => simp; omega
        intro v' w4 hown' hgrow hnil hloc
        obtain ⟨ra', rcap', rfl⟩ := own_slice' hown'
        have hB4 : Below w.heap.size w w4 := (hB3.alloc hB3.size _).grown hgrow (by simp; omega) (fun t e => by have := owns_ge hrow3 t e; omega)
        have hmap4 := (hmap3.kept (World.grownBy_alloc w3 _ none) (by simp)).kept hgrow (fun e => by have := owns_ge hrow3 _ e.symm; omega)
        have hbl : ∀ g, g < w3.heap.size → (Value.slice ra vs.length rcap).ownBlock ≠ some g → w4.heap[g]? = w3.heap[g]? := fun g h1 h2 => (hgrow.block g (by simp; omega) (fun e => h2 e.symm)).trans (Below.block (balloc w3 _) g h1)
        have hs4 : w3.heap.size < w4.heap.size := by have := hgrow.size; simp at this; omega
        have hlo : (Value.slice ra' (vs.length + 1) rcap').ownBlock = (Value.slice ra vs.length rcap).ownBlock ∨ ∀ g, (Value.slice ra' (vs.length + 1) rcap').ownBlock = some g → w3.heap.size ≤ g := by
          rcases hloc with h | h
          · exact .inl h
          · right; intro g hg; rw [h] at hg; simp at hg; omega
        have hls4 := (hls3.keep (r' := .slice ra' (vs.length + 1) rcap') (by omega) (fun g _ h2 h3 => hbl g h2 h3) hlo).snoc (x := .slice qa lj.length qcap) (l := lj) ⟨qa, qcap, qb, qo, rfl, HQ.out.of_eq (hbl qb hq1 (fun e => by have := hown2 _ e; omega)), by omega, hq2, hq3, by omega, fun g hg e => by
          subst e
          rcases hlo with h | h
          · have := hown2 _ (h ▸ hg); omega
          · have := h _ hg; omega⟩
        have hrow4 : w4.ownsRow (w.heap.size + 1) 22 1 (.slice ra' (vs.length + 1) rcap') (vs ++ [Value.slice qa lj.length qcap]).length (vs ++ [Value.slice qa lj.length qcap]) := by simpa using hown'
        clear hown' hgrow hloc hlo hbl hrow3 hls3 hmap3 hB3
        go_wp2
        go_roundw
        case rel => exact ⟨j + 1, _, _, by omega, by go_num, hrow4, by rw [HST.out]; exact hls4, hmap4, HMV.out _, by have := HNV.out; rw [← HVL2.out] at this; exact this, hB4⟩
        case measure => simp [intOf]; omega
      | true =>
        have HST := hide (show csl n f (j + 1) = csl n f j by
          unfold csl
          rw [fsts_succ, if_neg (by rw [← minv_new hM, hh]; simp)])
        have HMV := hide (minv_same hM hh)
        have HNV := hide (mnum_same hMN ((hM _).1 hh))
        go_wp2_with (first
          | (at_lookup; refine wpList_lookup_own_ok_int _ rfl _ _ 101 rfl 68 3 .i64 law77 und95 und3' (zero3 _) w.heap.size _ D rfl hmap1 _ _ rfl hkey ?_; intro c hat hwc; rw [hh]))
        go_roundw
        case rel => exact ⟨j + 1, vs, D, by omega, by go_num, hrow1, by rw [HST.out]; exact hls1, map_more hmap1, HMV.out, HNV.out, hB1⟩
        case measure => simp [intOf]; omega
    · have hjn : j = n := by omega
      subst hjn
      go_wp2
      exact bodyPost_ret (v := .tuple #[.slice ra vs.length rcap, .map (some w.heap.size)]) (by simp [results, Tryz.results81, go_sem]) rfl ⟨_, vs, D, rfl, hrow, hls, hmap, hM, hMN, hB⟩
end Go.Proofs.YtjiapicknkjhmaaGreatDoor
