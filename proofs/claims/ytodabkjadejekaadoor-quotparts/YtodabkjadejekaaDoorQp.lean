/- What package quot's Part answers. Condition: the library's table of places lies as its text lays it. -/
import Derived.Test.YtodabkjadejekaaDoorQz
namespace Go.Proofs.YtodabkjadejekaaDoor
open Go Go.RowKit Go.Maps

set_option maxRecDepth 100000 in
set_option maxHeartbeats 4000000 in
theorem part_bad (N : Int) (v u : Value) (zs l : List Int) (w : World) (hv : Sl w v zs) (hu : Sl w u l) (hT : Tab w) (hc : (ufault N zs l).1 ≠ 0) :
    Calls Tryd.prog 43 #[.agg #[.int .i64 N, v], u] w fun x w' => x = .returned (.tuple #[.agg #[.int .i64 0, .slice none 0 0], .agg #[.int .i64 (ufault N zs l).1, .int .i64 (ufault N zs l).2]]) ∧ Below w.heap.size w w' := by
  obtain ⟨w0, BG⟩ := BegQ.new w N v
  have HN := hide (nrm_bad N v u zs l w0 (hv.below BG.bel) (hu.below BG.bel) (hT.below BG.bel) hc)
  obtain ⟨c0, c1, _, _⟩ := BG.box.two
  obtain ⟨c, i, hci⟩ : ∃ c i, ufault N zs l = (c, i) := ⟨_, _, rfl⟩
  rw [hci] at HN hc ⊢
  simp only at HN hc ⊢
  clear hci
  have hcb : (c != 0) = true := by simpa using hc
  rw [BG.eq] at c0 c1
  go_enter Tryd.func43, Tryd.ntmps43
  go_wp2_with fail
  rw [← BG.eq]
  clear c0 c1
  refine HN.out.mono ?_
  rintro x w1 ⟨rfl, hb1⟩
  have hb2 := bcat2 hb1 (balloc w1 (.cells #[.int .i64 c, .int .i64 i] 28))
  have hF2 := blk0 (w := w1) (T := 28) (.int .i64 c) (.int .i64 i)
  have hBw := bcat BG.bel hb2 BG.bel.size
  have hG2 := blk_below BG.grp hb2
  have hR2 := blk_below BG.res hb2
  obtain ⟨t0, t1, _, _⟩ := hF2.two
  obtain ⟨y0, y1, fy0, fy1⟩ := hR2.two
  obtain ⟨g0, g1, fg0, fg1⟩ := hG2.two
  obtain ⟨s0, s1⟩ := hG2.self
  obtain ⟨hR6, hB6⟩ := put2 hR2 hBw (by omega) c i
  have hG6 := (hG2.other (p := ⟨w.heap.size + 1 + 1, 0, none⟩) (by simp) (.int .i64 c)).other (p := ⟨w.heap.size + 1 + 1, 1, none⟩) (by simp) (.int .i64 i)
  obtain ⟨g2, g3, fg2, fg3⟩ := hG6.two
  obtain ⟨s2, s3⟩ := hG6.self
  go_wp2_with fail
  go_region
  all_goals (
    go_wp2
    obtain ⟨z0, z1, _, _⟩ := hR6.two
    exact bodyPost_ret (v := .tuple #[.agg #[.int .i64 0, .slice none 0 0], .agg #[.int .i64 c, .int .i64 i]]) (by simp [results, Tryd.results43, go_sem, z0, z1, g2, g3]) rfl ⟨rfl, bdrew hB6⟩)

/-- Lists of one number each. -/
def sgl (l : List Int) : List (List Int) := l.map fun x => [x]
theorem sgl_len (l : List Int) : (sgl l).length = l.length := by simp [sgl]
theorem sgl_get {l : List Int} {i : Nat} (h : i < l.length) : (sgl l)[i]?.getD [] = [l[i]?.getD 0] := by simp [sgl, h]
theorem sgl_succ {l : List Int} {j : Nat} (h : j < l.length) : sgl (l.take (j + 1)) = sgl (l.take j) ++ [[l[j]?.getD 0]] := by
  unfold sgl
  rw [List.take_add_one, List.map_append, List.getElem?_eq_getElem h]
  simp
theorem sgl_mem {l : List Int} {t : Nat} {x : Int} (h : x ∈ (sgl l)[t]?.getD []) : ∃ ht : t < l.length, x = l[t] := by
  by_cases ht : t < l.length
  · refine ⟨ht, ?_⟩
    simp [sgl, ht] at h
    exact h
  · simp [sgl, ht] at h
/-- Where a thing stands in a list. -/
def place (xs : List Nat) (a : Nat) : Nat := xs.findIdx fun b => decide (b = a)
theorem place_at {xs : List Nat} {a : Nat} (h : a ∈ xs) : ∃ hl : place xs a < xs.length, xs[place xs a] = a := by
  have hl : place xs a < xs.length := List.findIdx_lt_length_of_exists ⟨a, h, by simp⟩
  have h9 := List.findIdx_getElem (w := hl)
  exact ⟨hl, of_decide_eq_true h9⟩
/-- Products, by places. -/
def parF (n : Nat) (zs : List Int) (xs : List Nat) (i j : Nat) : Nat := place xs (tm n zs (xs[i]?.getD 0) (xs[j]?.getD 0))

set_option maxRecDepth 100000 in
set_option maxHeartbeats 8000000 in
theorem part_good (n e : Nat) (v u : Value) (zs l : List Int) (w : World) (hv : Sl w v zs) (hg : IsGrp n zs e) (hu : Sl w u l) (hT : Tab w) (hl : lfault n l = (0, 0)) (hsb : subT n zs e (pset l) = true) :
    Calls Tryd.prog 43 #[.agg #[.int .i64 n, v], u] w fun x w' => ∃ r1 r2 r3, x = .returned (.tuple #[.agg #[.int .i64 (lst n (pset l)).length, .slice r1 r2 r3], .agg #[.int .i64 0, .int .i64 0]]) ∧ Sl w' (.slice r1 r2 r3) (mkT (lst n (pset l)).length (parF n zs (lst n (pset l)))) ∧ Below w.heap.size w w' := by
  obtain ⟨i0, hi, hz0, hz1, hz2⟩ := info_parts info22b
  have hn := hg.tab.le
  have hli := set_lst (show (lfault n l).1 = 0 by rw [hl])
  obtain ⟨xs, hxs⟩ : ∃ xs, xs = lst n (pset l) := ⟨_, rfl⟩
  rw [← hxs] at hli ⊢
  have hxl : xs.length ≤ 60 := by
    have : xs.length ≤ n := by rw [hxs]; unfold lst; exact Nat.le_trans (List.length_filter_le _ _) (by simp)
    omega
  have hll : l.length = xs.length := by
    have := congrArg List.length hli
    rw [li_len] at this
    exact this
  have hget : ∀ i, (h : i < xs.length) → l[i]?.getD 0 = (xs[i] : Int) := fun i h => by rw [hli]; simp [li, h]
  have hxn : ∀ i, (h : i < xs.length) → xs[i] < n := fun i h => by
    have := List.getElem_mem h
    generalize xs[i] = y at *
    rw [hxs] at this
    exact (mem_lst.1 this).1
  have hnd : xs.Nodup := by rw [hxs]; exact List.nodup_range.sublist List.filter_sublist
  have hcl : ∀ i j, (h1 : i < xs.length) → (h2 : j < xs.length) → tm n zs xs[i] xs[j] ∈ xs := fun i j h1 h2 => by
    have m1 := List.getElem_mem h1
    have m2 := List.getElem_mem h2
    generalize xs[i] = y at *
    generalize xs[j] = z at *
    rw [hxs] at m1 m2 ⊢
    obtain ⟨a1, a2⟩ := mem_lst.1 m1
    obtain ⟨b1, b2⟩ := mem_lst.1 m2
    exact mem_lst.2 ⟨tm_lt hg.tab a1 b1, sub_mul hsb a1 b1 a2 b2⟩
  have HNUM := hide (fun W v9 (h : SlL W v9 (sgl l)) => numbers_ok v9 (sgl l) W h (by rw [sgl_len, hll]; exact hxl) (fun t ht => by rw [sgl_len] at ht; rw [sgl_get ht]; simp) (fun t a ha => by
    obtain ⟨ht, rfl⟩ := sgl_mem ha
    have h1 := hget t (by omega)
    have h2 := hxn t (by omega)
    rw [List.getElem?_eq_getElem ht, Option.getD_some] at h1
    omega) (fun s t a h1 h2 => by
    obtain ⟨hs, e1⟩ := sgl_mem h1
    obtain ⟨ht, e2⟩ := sgl_mem h2
    have h3 := hget s (by omega)
    have h4 := hget t (by omega)
    rw [List.getElem?_eq_getElem hs, Option.getD_some] at h3
    rw [List.getElem?_eq_getElem ht, Option.getD_some] at h4
    rcases Nat.lt_trichotomy s t with h | h | h
    · exact absurd (show xs[s]'(by omega) = xs[t]'(by omega) by omega) (List.pairwise_iff_getElem.1 hnd s t (by omega) (by omega) h)
    · exact h
    · exact absurd (show xs[t]'(by omega) = xs[s]'(by omega) by omega) (List.pairwise_iff_getElem.1 hnd t s (by omega) (by omega) h)))
  have HAT := hide (fun (D : DataW Unit) (h : MLs (sgl l) (sgl l).length 0 D) a (ha : a ∈ xs) => h.old (place xs a) (by
    obtain ⟨h1, _⟩ := place_at ha
    rw [sgl_len]; omega) a (by
    obtain ⟨h1, h2⟩ := place_at ha
    rw [sgl_get (by omega), hget _ h1, h2]
    simp))
  have HGR := hide (fun W lv mb c (D : DataW Unit) (h : Below w.heap.size w W) (hL : SlL W lv (sgl l)) (hm : W.ownsMap Tryd.prog 3 (plainElem Tryd.prog 3) mb c D) (hM : MLs (sgl l) (sgl l).length 0 D) =>
    group_ok n xs.length v lv zs (sgl l) (fun i => xs[i]?.getD 0) (parF n zs xs) mb c D W hg.tab (hv.below h) hL (by rw [sgl_len]; exact hll) hxl (fun i hi => by
      refine ⟨[], ?_, ?_⟩
      · rw [sgl_get (by omega), hget i hi, List.getElem?_eq_getElem hi]; rfl
      · rw [List.getElem?_eq_getElem hi]; exact hxn i hi) hm (fun i j hi hj => by
      unfold parF
      simp only [List.getElem?_eq_getElem hi, List.getElem?_eq_getElem hj, Option.getD_some]
      exact HAT.out D hM _ (hcl i j hi hj)) (fun i j hi hj => by
      unfold parF
      simp only [List.getElem?_eq_getElem hi, List.getElem?_eq_getElem hj, Option.getD_some]
      obtain ⟨h1, _⟩ := place_at (hcl i j hi hj)
      omega))
  obtain ⟨w0, BG⟩ := BegQ.new w n v
  have HN := hide (nrm_good n e v u zs l w0 (hv.below BG.bel) hg (hu.below BG.bel) (hT.below BG.bel) hl hsb)
  obtain ⟨bb, hbb⟩ : ∃ bb, bb = nrmq n zs e (pset l) := ⟨_, rfl⟩
  rw [← hbb] at HN
  have HU := hide hu
  obtain ⟨ua, uc, ub, uo, rfl, hur, hub, _, hum⟩ := hu
  have HUR := hide hur
  clear hbb hget hxn hnd hcl hur
  have HXS := hide hxs
  have HLI := hide hli
  have HLL := hide hll
  have HXL := hide hxl
  clear hxs hli hll hxl
  have HL6 := hide (show l.length ≤ 60 by rw [HLL.out]; exact HXL.out)
  obtain ⟨c0, c1, _, _⟩ := BG.box.two
  rw [BG.eq] at c0 c1
  go_enter Tryd.func43, Tryd.ntmps43
  go_wp2_with fail
  rw [← BG.eq]
  clear c0 c1
  refine HN.out.mono ?_
  rintro x w1 ⟨rfl, hb1⟩
  have hb2 := bcat2 hb1 (balloc w1 (.cells #[.int .i64 0, .int .i64 0] 28))
  have hF2 := blk0 (w := w1) (T := 28) (.int .i64 0) (.int .i64 0)
  have hBw := bcat BG.bel hb2 BG.bel.size
  have hX2 := blk_below BG.box hb2
  have hG2 := blk_below BG.grp hb2
  have hR2 := blk_below BG.res hb2
  obtain ⟨t0, t1, _, _⟩ := hF2.two
  go_wp2
  generalize w1.alloc (.cells #[.int .i64 0, .int .i64 0] 28) = w2 at *
  clear t0 t1 hb1 hb2 hF2
  have hum9 : l.length ≤ 9223372036854775807 := by unfold maxLen at hum; omega
  go_loopw [8, 24] (fun r i wr => ∃ (j : Nat) (vs : List Value), j ≤ l.length ∧ i = .int .i64 j ∧ wr.ownsRow w2.heap.size 22 1 r vs.length vs ∧ Lsts wr w2.heap.size r vs (sgl (l.take j)) ∧ Below w2.heap.size w2 wr) (fun _ i _ => l.length - (intOf i).toNat)
  case atStart => exact ⟨0, [], Nat.zero_le _, rfl, World.ownsRow_nil _ _ _ _, ⟨rfl, fun t x l h => by simp at h⟩, Below.refl _ _⟩
  case round =>
    obtain ⟨j, vs, hj, rfl, hrow, hls, hB⟩ := hrel
    obtain ⟨ra, rcap, rfl⟩ := own_slice' hrow
    have HVL := hide (show vs.length = j by rw [hls.1, sgl_len, List.length_take]; omega)
    by_cases hlt : j < l.length
    · have hji : (j : Int) < (l.length : Int) := by omega
      obtain rfl := HUR.out.at_ (by omega)
      have cx := below_cell (bcat2 hBw hB) (HUR.out.cell j hlt)
      have HST := hide (sgl_succ hlt)
      generalize l[j]?.getD 0 = x at *
      have hrow9 := (World.ownsRow.alloc (World.ownsRow.alloc hrow (.cells #[.int .i64 x] 3)) (.cells #[.slice (some ⟨wr.heap.size, 0, none⟩) 1 1] 22))
      go_wp2_with (first
        | (at_builtin; refine wpList_append_own_at _ rfl _ _ 43 rfl w2.heap.size 22 i0 (.slice none 0 0) 1 24 under25b hi hz0 hz1 hz2 rfl (by decide) _ _ _ rfl hrow9 ⟨wr.heap.size + 1, 0, none⟩ 1 1 [.slice (some ⟨wr.heap.size, 0, none⟩) 1 1] rfl rfl ?c1 ?c2 ?c3 ?c4 ?c5 ?_))
      case c1 =>
        have h9 := cell_one_new (wr.alloc (.cells #[.int .i64 x] 3)) (.slice (some ⟨wr.heap.size, 0, none⟩) 1 1) 22
        rw [World.size_alloc] at h9
        exact h9
      case c2 => simp [Value.oneCell']
      case c3 => unfold maxLen; have := HVL.out; have := HL6.out; omega
      case c4 => have := HVL.out; have := HL6.out; omega
      case c5 => have := hB.size; simp; omega
      intro v' w4 hown' hgrow hnil hloc
      obtain ⟨ra', rcap', rfl⟩ := own_slice' hown'
      have hB4 : Below w2.heap.size w2 w4 := ((hB.alloc hB.size _).alloc (by have := hB.size; simp; omega) _).grown hgrow (by have := hB.size; simp; omega) (fun t e => by have := owns_ge hrow t e; omega)
      have hown2 : ∀ g, (Value.slice ra vs.length rcap).ownBlock = some g → g < wr.heap.size := fun g hg => by
        rcases hrow.2 with ⟨h1, _⟩ | ⟨g', cap, cur, h1, _, hh9, _⟩
        · rw [h1] at hg; simp [Value.ownBlock] at hg
        · rw [h1] at hg
          simp [Value.ownBlock] at hg
          subst hg
          exact (Array.getElem?_eq_some_iff.1 hh9).1
      have hbl : ∀ g, g < wr.heap.size → (Value.slice ra vs.length rcap).ownBlock ≠ some g → w4.heap[g]? = wr.heap[g]? := fun g h1 h2 => (hgrow.block g (by simp; omega) (fun e => h2 e.symm)).trans ((Below.heap_alloc _ _ g (by simp; omega)).trans (Below.heap_alloc _ _ g h1))
      have hs4 : wr.heap.size + 2 ≤ w4.heap.size := by have := hgrow.size; simp at this; omega
      have hnew : w4.heap[wr.heap.size]? = some (.cells #[.int .i64 x] 3) := ((hgrow.block _ (by simp; omega) (fun e => by have := hown2 _ e.symm; omega)).trans (Below.heap_alloc _ _ _ (by simp))).trans (World.alloc_heap_new wr _)
      have hlo : (Value.slice ra' (vs.length + 1) rcap').ownBlock = (Value.slice ra vs.length rcap).ownBlock ∨ ∀ g, (Value.slice ra' (vs.length + 1) rcap').ownBlock = some g → wr.heap.size + 2 ≤ g := by
        rcases hloc with h | h
        · exact .inl h
        · right; intro g hg; rw [h] at hg; simp at hg; omega
      have hcx : w4.cell? ⟨wr.heap.size, 0 + 0, none⟩ = some (.int .i64 x) := by simp [World.cell?, hnew]
      have hls4 := (hls.keep (r' := .slice ra' (vs.length + 1) rcap') (by omega) (fun g _ h2 h3 => hbl g h2 h3) (hlo.imp id fun h g hg => by have := h g hg; omega)).snoc (x := .slice (some ⟨wr.heap.size, 0, none⟩) 1 1) (l := [x]) ⟨some ⟨wr.heap.size, 0, none⟩, 1, wr.heap.size, 0, rfl, ⟨fun _ => rfl, fun k hk => by
        have : k = 0 := by simp at hk; omega
        subst this
        exact hcx⟩, by omega, by simp, by unfold maxLen; omega, hB.size, fun g hg e => by
        subst e
        rcases hlo with h | h
        · have := hown2 _ (h ▸ hg); omega
        · have := h _ hg; omega⟩
      have hrow4 : w4.ownsRow w2.heap.size 22 1 (.slice ra' (vs.length + 1) rcap') (vs ++ [Value.slice (some ⟨wr.heap.size, 0, none⟩) 1 1]).length (vs ++ [Value.slice (some ⟨wr.heap.size, 0, none⟩) 1 1]) := by simpa using hown'
      clear hown' hgrow hloc hlo hbl hrow hls hrow9 hown2 hnew hcx hs4
      go_wp2
      go_roundw
      case rel => exact ⟨j + 1, _, by omega, by go_num, hrow4, by rw [HST.out]; exact hls4, hB4⟩
      case measure => simp [intOf]; omega
    · have hji : ¬ (j : Int) < (l.length : Int) := by omega
      have hjl : l.take j = l := List.take_of_length_le (by omega)
      rw [hjl] at hls
      have hBr := bcat2 hBw hB
      have hsl := SlL.of_own hrow hls (Nat.lt_of_lt_of_le hT.lt hBr.size)
      have hX := blk_below hX2 hB
      have hG := blk_below hG2 hB
      have hR := blk_below hR2 hB
      have hRl := hR.lt
      clear hjl hrow hls
      have HNW := hide (fun W (h : SlL W (.slice ra vs.length rcap) (sgl l)) => HNUM.out W _ h)
      go_wp2_with fail
      have hS9 : (fun W => W.cell? ⟨w.heap.size, 0, none⟩ = some (.int .i64 n) ∧ W.cell? ⟨w.heap.size, 1, none⟩ = some v) wr.drew := ⟨hX.two.1, hX.two.2.1⟩
      refine wp_region_held_drew (S := (fun W => W.cell? ⟨w.heap.size, 0, none⟩ = some (.int .i64 n) ∧ W.cell? ⟨w.heap.size, 1, none⟩ = some v)) (by kernel_rfl) hS9 (fun hHeld => ?_)
      refine wpAnyH_take (i := 0) (oi := ({ dst := some 34, op := Go.Op.load 24 (Go.Operand.tmp 2), type := 24, pos := _, after := #[], guard := none } : Oper)) (v := ?_) rfl (by kernel_rfl) (by kernel_rfl) (by kernel_rfl) (fun _ _ _ h => h) (Or.inl ⟨by rfl, ?_⟩) (by assumption) ?_
      rotate_left
      · (intro w hSw; (try dsimp only at hSw); go_simp; try with_reducible rfl)
      simp only [Act.put, List.setIfInBounds_toArray, List.set_cons_zero, List.set_cons_succ]
      refine wpAnyH_take (i := 1) (oi := ({ dst := some 35, op := Go.Op.move (Go.Operand.tmp 8), type := 43, pos := _, after := #[], guard := none } : Oper)) (v := ?_) rfl (by kernel_rfl) (by kernel_rfl) (by kernel_rfl) (fun _ _ _ h => h) (Or.inl ⟨by rfl, ?_⟩) (by assumption) ?_
      rotate_left
      · (intro w hSw; (try dsimp only at hSw); go_simp; try with_reducible rfl)
      simp only [Act.put, List.setIfInBounds_toArray, List.set_cons_zero, List.set_cons_succ]
      refine wpAnyH_take (i := 2) (oi := ({ dst := some 36, op := Go.Op.move (Go.Operand.tmp 8), type := 43, pos := _, after := #[], guard := none } : Oper)) (v := ?_) rfl (by kernel_rfl) (by kernel_rfl) (by kernel_rfl) (fun _ _ _ h => h) (Or.inl ⟨by rfl, ?_⟩) (by assumption) ?_
      rotate_left
      · (intro w hSw; (try dsimp only at hSw); go_simp; try with_reducible rfl)
      simp only [Act.put, List.setIfInBounds_toArray, List.set_cons_zero, List.set_cons_succ]
      refine wpAnyH_take (i := 5) (oi := ({ dst := some 39, op := Go.Op.build 28 #[], type := 28, pos := _, after := #[{ on := 6, ground := Go.Ground.gcOnly Go.Departure.lateStores }], guard := none } : Oper)) (v := ?_) rfl (by kernel_rfl) (by kernel_rfl) (by kernel_rfl) (fun _ _ _ h => h) (Or.inl ⟨by rfl, ?_⟩) (by assumption) ?_
      rotate_left
      · (intro w hSw; (try dsimp only at hSw); go_simp; try with_reducible rfl)
      simp only [Act.put, List.setIfInBounds_toArray, List.set_cons_zero, List.set_cons_succ]
      refine wpAnyH_ready (rs := [3]) (by kernel_rfl) (by simp) (AllReadyH.cons (o := ({ dst := some 37, op := Go.Op.call { callee := Go.Callee.value (Go.Operand.func 71), args := #[Go.Operand.tmp 36], argTypes := #[43] }, type := 89, pos := _, after := #[{ on := 2, ground := Go.Ground.data }], guard := none } : Oper)) rfl (fun KK hK => ?_) AllReadyH.nil)
      go_simp
      refine (HNW.out wr.drew (hsl.below (bdrew (Below.refl _ _)))).mono ?_
      rintro x w4 ⟨D, rfl, hmap, hML, hb4⟩
      have hbd := bcat2 (bdrew (Below.refl wr.heap.size wr)) hb4
      have hX4 := blk_below hX hbd
      try go_wp2_with fail
      refine hK.out _ _ ⟨hX4.two.1, hX4.two.2.1⟩ (fun hHeld => ?_)
      clear hK
      try simp only [Act.put, List.setIfInBounds_toArray, List.set_cons_zero, List.set_cons_succ]
      refine wpAnyH_ready (rs := [4]) (by kernel_rfl) (by simp) (AllReadyH.cons (o := ({ dst := some 38, op := Go.Op.call { callee := Go.Callee.value (Go.Operand.func 72), args := #[Go.Operand.tmp 34, Go.Operand.tmp 35, Go.Operand.tmp 37], argTypes := #[24, 43, 89] }, type := 24, pos := _, after := #[{ on := 0, ground := Go.Ground.data }, { on := 1, ground := Go.Ground.data }, { on := 3, ground := Go.Ground.data }, { on := 3, ground := Go.Ground.chain }], guard := none } : Oper)) rfl (fun KK hK => ?_) AllReadyH.nil)
      go_simp
      refine (HGR.out w4 _ _ _ D (bcat2 hBr hbd) (hsl.below hbd) hmap hML).mono ?_
      rintro x w6 ⟨r, rfl, hrow, hb6⟩
      have hb46 := bcat2 hbd hb6
      have hG6 := blk_below hG hb46
      have hR6 := blk_below hR hb46
      have hX6 := blk_below hX hb46
      have hB6 := bcat2 hBr hb46
      try go_wp2_with fail
      refine hK.out _ _ ⟨hX6.two.1, hX6.two.2.1⟩ (fun hHeld => ?_)
      clear hK
      try simp only [Act.put, List.setIfInBounds_toArray, List.set_cons_zero, List.set_cons_succ]
      obtain ⟨T, hTe⟩ : ∃ T, T = mkT xs.length (parF n zs xs) := ⟨_, rfl⟩
      rw [← hTe] at hrow
      have HTE := hide hTe
      clear hTe
      obtain ⟨rx, rcap9, rfl⟩ := own_slice hrow
      obtain ⟨g0, g1, fg0, fg1⟩ := hG6.two
      have hG7 := (hG6.set 0 (.int .i64 xs.length)).set 1 (.slice rx T.length rcap9)
      have hR7 := (hR6.other (p := ⟨w.heap.size + 1, 0, none⟩) (by simp) (.int .i64 xs.length)).other (p := ⟨w.heap.size + 1, 1, none⟩) (by simp) (.slice rx T.length rcap9)
      have hX7 := (hX6.other (p := ⟨w.heap.size + 1, 0, none⟩) (by simp) (.int .i64 xs.length)).other (p := ⟨w.heap.size + 1, 1, none⟩) (by simp) (.slice rx T.length rcap9)
      have hB7 := (hB6.setCell (p := ⟨w.heap.size + 1, 0, none⟩) (by simp) (.int .i64 xs.length)).setCell (p := ⟨w.heap.size + 1, 1, none⟩) (by simp) (.slice rx T.length rcap9)
      have hb4s := hbd.size
      have hrow7 := row_keep (W' := (w6.setCell ⟨w.heap.size + 1, 0, none⟩ (.int .i64 xs.length)).setCell ⟨w.heap.size + 1, 1, none⟩ (.slice rx T.length rcap9)) hrow (fun g h1 _ => (Below.heap_setCell _ _ _ g (by simp; omega)).trans (Below.heap_setCell _ _ _ g (by simp; omega)))
      have hsl7 := row_sl hrow7 (by rw [size_set, size_set]; have := hb6.size; omega)
      refine wpAnyH_ready (rs := [6]) (by kernel_rfl) (by simp) (AllReadyH.cons (o := ({ dst := none, op := Go.Op.store 24 (Go.Operand.tmp 4) (Go.Operand.tmp 38), type := 0, pos := _, after := #[{ on := 4, ground := Go.Ground.data }, { on := 4, ground := Go.Ground.chain }, { on := 0, ground := Go.Ground.phase }, { on := 1, ground := Go.Ground.phase }, { on := 2, ground := Go.Ground.phase }, { on := 3, ground := Go.Ground.phase }, { on := 4, ground := Go.Ground.phase }, { on := 5, ground := Go.Ground.textOnly Go.Departure.lateStores }], guard := none } : Oper)) rfl (fun KK hK => ?_) AllReadyH.nil)
      go_simp
      refine hK.out _ _ ⟨hX7.two.1, hX7.two.2.1⟩ (fun hHeld => ?_)
      clear hK
      try simp only [Act.put, List.setIfInBounds_toArray, List.set_cons_zero, List.set_cons_succ]
      obtain ⟨v0, v1, fv0, fv1⟩ := hR6.two
      obtain ⟨y0, y1, fy0, fy1⟩ := hR7.two
      obtain ⟨s0, s1⟩ := hR7.self
      obtain ⟨z0, z1, _, _⟩ := hG7.two
      generalize (w6.setCell ⟨w.heap.size + 1, 0, none⟩ (.int .i64 xs.length)).setCell ⟨w.heap.size + 1, 1, none⟩ (.slice rx T.length rcap9) = W7 at *
      refine wpAnyH_ready (rs := [7]) (by kernel_rfl) (by simp) (AllReadyH.cons (o := ({ dst := none, op := Go.Op.store 28 (Go.Operand.tmp 5) (Go.Operand.tmp 39), type := 0, pos := _, after := #[{ on := 5, ground := Go.Ground.data }, { on := 6, ground := Go.Ground.chain }, { on := 0, ground := Go.Ground.phase }, { on := 1, ground := Go.Ground.phase }, { on := 2, ground := Go.Ground.phase }, { on := 3, ground := Go.Ground.phase }, { on := 4, ground := Go.Ground.phase }, { on := 5, ground := Go.Ground.phase }, { on := 6, ground := Go.Ground.phase }], guard := none } : Oper)) rfl (fun KK hK => ?_) AllReadyH.nil)
      go_simp
      refine hK.out _ _ ⟨hX7.two.1, hX7.two.2.1⟩ (fun hHeld => ?_)
      clear hK
      try simp only [Act.put, List.setIfInBounds_toArray, List.set_cons_zero, List.set_cons_succ]
      refine wpAnyH_done (by kernel_rfl) ?_ _
      go_wp2
      exact bodyPost_ret (v := .tuple #[.agg #[.int .i64 xs.length, .slice rx T.length rcap9], .agg #[.int .i64 0, .int .i64 0]]) (by simp [results, Tryd.results43, go_sem, z0, z1, y0, y1]) rfl ⟨_, _, _, rfl, by rw [← HTE.out]; exact hsl7, hB7⟩
end Go.Proofs.YtodabkjadejekaaDoor
