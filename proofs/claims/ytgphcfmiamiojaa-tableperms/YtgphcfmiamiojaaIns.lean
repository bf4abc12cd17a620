/- What slices.Insert does with one slice more: three roads. No condition. -/
import Derived.Test.YtgphcfmiamiojaaQsl
namespace Go.Proofs.Ytgphcfmiamiojaa
open Go Go.RowKit Go.Lib

theorem size24 : ∀ w, (Go.sizeOf 24).run Try.prog w = .ok 1 w := fun w => by rfl
theorem info24s : (Try.prog.info? 24).map (·.size) = some 1 := by kernel_rfl
theorem insV_get (vs : List Value) (x : Value) {i : Nat} (hi : i ≤ vs.length) (j : Nat) : (vs.take i ++ x :: vs.drop i)[j]? = if j < i then vs[j]? else if j = i then some x else vs[j - 1]? := by
  by_cases h : j < i
  · rw [if_pos h, List.getElem?_append_left (by simp; omega), List.getElem?_take, if_pos h]
  · rw [if_neg h, List.getElem?_append_right (by simp; omega), List.length_take, Nat.min_eq_left hi]
    by_cases h2 : j = i
    · subst h2; rw [if_pos rfl, Nat.sub_self]; rfl
    · rw [if_neg h2, show j - i = (j - i - 1) + 1 by omega, List.getElem?_cons_succ, List.getElem?_drop]
      congr 1; omega
theorem insV_len (vs : List Value) (x : Value) {i : Nat} (hi : i ≤ vs.length) : (vs.take i ++ x :: vs.drop i).length = vs.length + 1 := by simp; omega

/-- AT THE END. -/
theorem insert_end (w : World) (base vb : Nat) (v x : Value) (vs : List Value) (h : Qs w base v vs) (hx : Blk w vb 24 [x]) (h1 : x.oneCell' = true) (hn : vs.length ≤ 1000000) (hb : base ≤ w.heap.size) :
    Calls Try.prog 33 #[v, .int .i64 (vs.length : Nat), .slice (some ⟨vb, 0, none⟩) 1 1] w fun e w' => ∃ r, e = .returned r ∧ Qs w' base r (vs ++ [x]) ∧ w.grownBy w' v.ownBlock ∧ (∀ g, r.ownBlock = some g → v.ownBlock = some g ∨ w.heap.size ≤ g) := by
  obtain ⟨r, W', hrun, hq, hg, ho⟩ := append_qs w base vb v x vs h hx h1 hn hb
  have HF := hide (And.intro hq (And.intro hg ho))
  clear hq hg ho hx h1
  rcases h with ⟨rfl, rfl⟩ | ⟨g, off, cap, cur, rfl, hgb, hbk, hl, hc, hm, hcs⟩
  · go_enter Try.func33, Try.ntmps33
    go_wp2_with (at_builtin; refine Lib.wpList_append_run _ rfl _ _ _ _ rfl _ _ rfl rfl _ _ (hrun _) ?_)
    go_ret
    exact ⟨r, rfl, HF.out⟩
  · clear hbk hcs
    go_enter Try.func33, Try.ntmps33
    go_wp2_with (at_builtin; refine Lib.wpList_append_run _ rfl _ _ _ _ rfl _ _ rfl rfl _ _ (hrun _) ?_)
    all_goals (go_ret; exact ⟨r, rfl, HF.out⟩)

set_option maxHeartbeats 4000000 in
set_option maxRecDepth 100000 in
/-- WITHIN, NO ROOM: a new row. -/
theorem insert_grow (w : World) (base vb g off cap i : Nat) (x : Value) (vs cur : List Value) (hbk : Blk w g 24 cur) (hl : vs.length ≤ cap) (hm : cap ≤ maxLen) (hcs : ∀ j x, vs[j]? = some x → cur[off + j]? = some x)
    (hx : Blk w vb 24 [x]) (h1 : x.oneCell' = true) (h1v : ∀ y, y ∈ vs → y.oneCell' = true) (hn : vs.length ≤ 1000000) (hb : base ≤ w.heap.size) (hi : i < vs.length) (hroom : cap < vs.length + 1) :
    Calls Try.prog 33 #[.slice (some ⟨g, off, none⟩) vs.length cap, .int .i64 i, .slice (some ⟨vb, 0, none⟩) 1 1] w fun e w' => ∃ r, e = .returned r ∧ Qs w' base r (vs.take i ++ x :: vs.drop i) ∧ w.grownBy w' (some g) ∧ (∀ k, r.ownBlock = some k → w.heap.size ≤ k) := by
  obtain ⟨i0, hi0, hz0, hzs, hzb⟩ := info_parts info22b
  obtain ⟨n, hnn⟩ : ∃ n, vs.length = n := ⟨_, rfl⟩
  rw [hnn] at hl hn hi hroom ⊢
  have hgl := hbk.lt
  have hvl := hx.lt
  have hz2 : ¬ ((i : Int) = (n : Int)) := by omega
  have hz3 : (cap : Int) < (n : Int) + 1 := by omega
  have hkk : (n : Int) + 1 - (i : Int) = ((n + 1 - i : Nat) : Int) := by omega
  have hik : i + (n + 1 - i) = n + 1 := by omega
  have hcell : ∀ W : World, W.heap[g]? = w.heap[g]? → ∀ j y, vs[j]? = some y → W.cell? ⟨g, off + j, none⟩ = some y := fun W hW j y hj => by
    rw [(hbk.of_eq hW).cell]; exact hcs j y hj
  have hold : (Builtin.firstCells i0.size i (.slice (some ⟨g, off, none⟩) i cap)).run Try.prog w.drew = .ok (vs.take i).toArray w.drew := by
    rw [hzs]
    exact run_firstCells_some w.drew 1 i ⟨g, off, none⟩ i cap (vs.take i) (by rw [List.length_take]; omega) (fun j y hj => by
      rw [Addr.add_lit]
      rw [List.getElem?_take] at hj
      split at hj
      · exact hcell w.drew rfl j y hj
      · cases hj)
  obtain ⟨G, hG⟩ : ∃ G, G = grownCap w (n + 1) cap 24 := ⟨_, rfl⟩
  have hGn : n + 1 ≤ G := by rw [hG]; exact grownCap_ge w _ _ _
  have hGm : G ≤ maxLen := by rw [hG]; exact grownCap_le_maxLen w (n + 1) cap 24 (by unfold maxLen; omega)
  obtain ⟨ROW, hROW⟩ : ∃ ROW : Array Value, ROW = (vs.take i).toArray ++ Builtin.zeroCells (Value.slice none 0 0).cells (n + 1 - i) ++ Builtin.zeroCells (Value.slice none 0 0).cells (G - (n + 1)) := ⟨_, rfl⟩
  have hrz : ∀ ty, (Builtin.append_ #[22, 3] ty #[.slice (some ⟨g, off, none⟩) i cap, .int .i64 ((n : Int) + 1 - (i : Int))]).run Try.prog w =
      .ok (.slice (some ⟨w.heap.size, 0, none⟩) (n + 1) G) (w.drew.alloc (.cells ROW 24)) := fun ty => by
    have h := Lib.run_append_grow_zeros w 22 3 ty 24 i0 _ .i64 .i64 u22s u3i hi0 hz0 (some ⟨g, off, none⟩) i cap (vs.take i) hold (n + 1 - i) (by omega) (by omega) (by omega) (by omega) (by rw [hzb]; omega) (by rw [hzb, hik]; exact growslice_fits hroom (by omega))
    rw [hik, ← hG, ← hROW] at h
    rw [hkk]
    exact h
  have hRl : ROW.toList.length = G := by
    rw [hROW]
    simp [Builtin.zeroCells, Value.cells]
    omega
  have hRt : ∀ j y, j < i → vs[j]? = some y → ROW.toList[j]? = some y := fun j y hj hy => by
    have hjl := (List.getElem?_eq_some_iff.1 hy).1
    rw [hROW, Array.toList_append, Array.toList_append, List.append_assoc, List.getElem?_append_left (by simp; omega)]
    simp [hj, hy]
  clear hROW hG
  obtain ⟨W1, hW1⟩ : ∃ W1, W1 = w.drew.alloc (.cells ROW 24) := ⟨_, rfl⟩
  rw [← hW1] at hrz
  have hB1 : Blk W1 w.heap.size 24 ROW.toList := by
    rw [hW1]
    have := World.alloc_heap_new w.drew (.cells ROW 24)
    rw [Blk]; simpa using this
  have hS1 : ∀ k, k < w.heap.size → W1.heap[k]? = w.heap[k]? := fun k hk => by rw [hW1]; exact Below.heap_alloc w.drew _ k hk
  have hB2 : Blk (W1.setCells w.heap.size i [x]) w.heap.size 24 (ovr ROW.toList i [x]) := hB1.setCells _ _ _ _
  have hcpA : ∀ (W : World), (∀ y, W.cell? y = W1.cell? y) → (∀ y, W.frozen? y = W1.frozen? y) → ∀ ty dc, (Builtin.copy_ #[22, 22] ty #[.slice (some ⟨w.heap.size, i, none⟩) (n + 1 - i) dc, .slice (some ⟨vb, 0, none⟩) 1 1]).run Try.prog W = .ok (goInt 1) (W.setCells w.heap.size i [x]) := fun W hWc hWf ty dc =>
    run_copy_cells W _ _ ty 24 w.heap.size i (n + 1 - i) dc ⟨vb, 0, none⟩ 1 1 [x] u22s info24s (by simp only [Nat.min_def, List.length_cons, List.length_nil]; split <;> omega)
      (fun j y hj => by rw [Addr.add_lit, hWc, (hx.of_eq (hS1 vb hvl)).cell, Nat.zero_add]; exact hj)
      (fun j hj => by rw [hWc, hB1.cell, List.getElem?_eq_getElem (by simp at hj; omega)]; rfl) (fun j _ => by rw [hWf]; exact hB1.frozen _) (fun y hy => by simp at hy; subst hy; exact h1)
  have hdl : (vs.drop i).length = n - i := by rw [List.length_drop, hnn]
  have hgS : g ≠ w.heap.size := by omega
  have hcpB : ∀ (W : World), (∀ y, W.cell? y = (W1.setCells w.heap.size i [x]).cell? y) → (∀ y, W.frozen? y = (W1.setCells w.heap.size i [x]).frozen? y) → ∀ ty dc sc, (Builtin.copy_ #[22, 22] ty #[.slice (some ⟨w.heap.size, i + 1, none⟩) (n + 1 - (i + 1)) dc, .slice (some ⟨g, off + i, none⟩) (n - i) sc]).run Try.prog W = .ok (goInt (vs.drop i).length) (W.setCells w.heap.size (i + 1) (vs.drop i)) := fun W hWc hWf ty dc sc =>
    run_copy_cells W _ _ ty 24 w.heap.size (i + 1) (n + 1 - (i + 1)) dc ⟨g, off + i, none⟩ (n - i) sc (vs.drop i) u22s info24s (by rw [hdl]; simp only [Nat.min_def]; split <;> omega)
      (fun j y hj => by
        rw [Addr.add_lit, hWc, Nat.add_assoc]
        rw [List.getElem?_drop] at hj
        exact hcell _ (((grown_setCells [x] i W1).block g (by have := hS1 g hgl; have h9 := hB1.lt; omega) (fun e => hgS (Option.some.inj e))).trans (hS1 g hgl)) _ y hj)
      (fun j hj => by rw [hWc, hB2.cell, List.getElem?_eq_getElem (by rw [ovr_len]; omega)]; rfl)
      (fun j _ => by rw [hWf]; exact hB2.frozen _) (fun y hy => h1v y (List.mem_of_mem_drop hy))
  have HF : Hid (∀ W : World, W = ((W1.setCells w.heap.size i [x]).setCells w.heap.size (i + 1) (vs.drop i)) ∨ W.heap = ((W1.setCells w.heap.size i [x]).setCells w.heap.size (i + 1) (vs.drop i)).heap ∧ W.os = w.os ∧ W.tape = w.tape ∧ W.output = w.output → Qs W base (.slice (some ⟨w.heap.size, 0, none⟩) (n + 1) G) (vs.take i ++ x :: vs.drop i) ∧ w.grownBy W (some g)) := hide fun W hW => by
    have hB3 : Blk ((W1.setCells w.heap.size i [x]).setCells w.heap.size (i + 1) (vs.drop i)) w.heap.size 24 (ovr (ovr ROW.toList i [x]) (i + 1) (vs.drop i)) := hB2.setCells _ _ _ _
    have hg2 := grown_setCells (g := w.heap.size) [x] i W1
    have hg3 := gtrans hg2 (grown_setCells (g := w.heap.size) (vs.drop i) (i + 1) (W1.setCells w.heap.size i [x]))
    have hh : W.heap = ((W1.setCells w.heap.size i [x]).setCells w.heap.size (i + 1) (vs.drop i)).heap := by
      rcases hW with rfl | ⟨h, _⟩
      · rfl
      · exact h
    have hsz : w.heap.size ≤ W1.heap.size := by have := hB1.lt; omega
    refine ⟨.inr ⟨w.heap.size, 0, G, _, by rw [insV_len _ _ (by omega), hnn], hb, hB3.of_eq (by rw [hh]), by rw [insV_len _ _ (by omega), hnn]; exact hGn, by rw [ovr_len, ovr_len, hRl, Nat.zero_add]; exact Nat.le_refl _, hGm, fun j y hy => ?_⟩, ?_⟩
    · rw [Nat.zero_add]
      rw [insV_get _ _ (by omega)] at hy
      rw [ovr_get _ _ _ _ (by rw [ovr_len, hdl, hRl]; omega), ovr_get _ _ _ _ (by rw [hRl, List.length_singleton]; omega)]
      by_cases h3 : j < i
      · rw [if_pos h3] at hy
        rw [if_neg (by omega), if_neg (by simp; omega)]
        exact hRt j y h3 hy
      · rw [if_neg h3] at hy
        by_cases h4 : j = i
        · subst h4
          rw [if_pos rfl] at hy
          rw [if_neg (by omega), if_pos (by simp), Nat.sub_self]
          simpa using hy
        · rw [if_neg h4] at hy
          have hjl := (List.getElem?_eq_some_iff.1 hy).1
          rw [if_pos (by rw [hdl]; omega), List.getElem?_drop, show i + (j - (i + 1)) = j - 1 by omega]
          exact hy
    · have hblk : ∀ k, k < w.heap.size → some k ≠ some g → W.heap[k]? = w.heap[k]? := fun k hk _ => by
        rw [hh, hg3.block k (by omega) (fun e => by have := Option.some.inj e; omega)]; exact hS1 k hk
      have hszW : w.heap.size ≤ W.heap.size := by rw [hh]; exact Nat.le_trans hsz hg3.size
      rcases hW with rfl | ⟨_, h5, h6, h7⟩
      · exact ⟨by rw [hg3.os, hW1]; rfl, by rw [hg3.tape, hW1]; rfl, by rw [hg3.output, hW1]; rfl, hszW, hblk⟩
      · exact ⟨h5, h6, h7, hszW, hblk⟩
  have hos : W1.os = w.os ∧ W1.tape = w.tape ∧ W1.output = w.output := by rw [hW1]; exact ⟨rfl, rfl, rfl⟩
  have hE1 : ∀ y, ((w.alloc (.cells ROW 24)).drew).cell? y = W1.cell? y := fun y => by rw [hW1]; rfl
  have hE2 : ∀ y, ((w.alloc (.cells ROW 24)).drew).frozen? y = W1.frozen? y := fun y => by rw [hW1]; rfl
  have hF1 : ∀ y, (W1.setCells w.heap.size i [x]).drew.cell? y = (W1.setCells w.heap.size i [x]).cell? y := fun y => rfl
  have hF2 : ∀ y, (W1.setCells w.heap.size i [x]).drew.frozen? y = (W1.setCells w.heap.size i [x]).frozen? y := fun y => rfl
  have hGi : ¬ (G = i) := by omega
  have hGim : ¬ (G = i + 1) := by omega
  have hci : ¬ (cap = i) := by omega
  have hw1 : IntKind.i64.wrap ((i : Int) + 1) = (i : Int) + 1 := by rw [IntKind.wrap_i64]; omega
  have hb1 : (0 : Int) ≤ (i : Int) + 1 := by omega
  have hin : i ≤ n := by omega
  have htn : ((i : Int) + 1).toNat = i + 1 := by omega
  have hb3 : (i : Int) ≤ (n : Int) := by omega
  have hG63 : G ≤ 9223372036854775807 := by unfold maxLen at hGm; omega
  have hc63 : cap ≤ 9223372036854775807 := by unfold maxLen at hm; omega
  have mixed : Try.prog.follows .mixedOrders = true := by kernel_rfl
  have HW1 := hide hW1
  clear hkk hik hold hRl hRt hW1 hB1 hB2 hS1 hx hbk hcs hcell hdl
  go_enter Try.func33, Try.ntmps33
  go_wp2_with (first
    | (at_builtin; refine Lib.wpList_append_run _ rfl _ _ _ _ rfl _ _ rfl rfl _ _ (hrz _) ?_)
    | (at_builtin; refine wpList_copy_runI _ rfl _ _ 22 22 rfl _ _ rfl rfl (hcpA _ (fun _ => rfl) (fun _ => rfl) _ _) ?_))
  go_region_law_o (refine step_copy_runI rfl _ _ 22 22 rfl (.slice (some ⟨w.heap.size, i + 1, none⟩) (n + 1 - (i + 1)) (G - (i + 1))) (.slice (some ⟨g, off + i, none⟩) (n - i) (cap - i)) (by simp [Act.eval, Act.put]) (by simp [Act.eval, Act.put]) (hcpB _ hF1 hF2 3 (G - (i + 1)) (cap - i)) ?_)
  go_wp2
  go_ret
  have hfin := HF.out ((W1.setCells w.heap.size i [x]).drew.setCells w.heap.size (i + 1) (vs.drop i)) (.inr (by
    rw [← drew_setCells]
    have h2 := grown_setCells (g := w.heap.size) [x] i W1
    have h3 := gtrans h2 (grown_setCells (g := w.heap.size) (vs.drop i) (i + 1) (W1.setCells w.heap.size i [x]))
    exact ⟨rfl, h3.os.trans hos.1, h3.tape.trans hos.2.1, h3.output.trans hos.2.2⟩))
  exact ⟨_, rfl, hfin.1, hfin.2, fun k hk => by cases hk; exact Nat.le_refl _⟩

set_option maxHeartbeats 4000000 in
set_option maxRecDepth 100000 in
/-- WITHIN, THERE IS ROOM: in place. -/
theorem insert_shift (w : World) (base vb g off cap i : Nat) (x : Value) (vs cur : List Value) (hgb : base ≤ g) (hbk : Blk w g 24 cur) (hc : off + cap ≤ cur.length) (hm : cap ≤ maxLen) (hcs : ∀ j x, vs[j]? = some x → cur[off + j]? = some x)
    (hx : Blk w vb 24 [x]) (h1 : x.oneCell' = true) (h1v : ∀ y, y ∈ vs → y.oneCell' = true) (hn : vs.length ≤ 1000000) (hi : i < vs.length) (hroom : vs.length + 1 ≤ cap) (hvb : vb ≠ g) :
    Calls Try.prog 33 #[.slice (some ⟨g, off, none⟩) vs.length cap, .int .i64 i, .slice (some ⟨vb, 0, none⟩) 1 1] w fun e w' => e = .returned (.slice (some ⟨g, off, none⟩) (vs.length + 1) cap) ∧ Qs w' base (.slice (some ⟨g, off, none⟩) (vs.length + 1) cap) (vs.take i ++ x :: vs.drop i) ∧ w.grownBy w' (some g) := by
  obtain ⟨n, hnn⟩ : ∃ n, vs.length = n := ⟨_, rfl⟩
  rw [hnn] at hn hi hroom ⊢
  have hgl := hbk.lt
  have hvl := hx.lt
  have hz2 : ¬ ((i : Int) = (n : Int)) := by omega
  have hz3 : ¬ (cap : Int) < (n : Int) + 1 := by omega
  have hdl : (vs.drop i).length = n - i := by rw [List.length_drop, hnn]
  have hov : ∀ lb cb, (callFunc 48 #[.slice (some ⟨vb, 0, none⟩) 1 1, .slice (some ⟨g, off + (i + 1), none⟩) lb cb]).run Try.prog w = .ok (.value (.bool false)) w := fun lb cb => by
    rw [run_callFunc_extern Try.func48 (by kernel_rfl) (by kernel_rfl) (by kernel_rfl) (e := Extern.SlicesOverlaps.overlaps #[22, 22] #[4]) (by kernel_rfl),
      Lib.run_overlaps_apart w 22 4 24 u22s 1 size24 ⟨vb, 0, none⟩ ⟨g, off + (i + 1), none⟩ 1 1 lb cb hvb 24 24 1 cur.length (by simp [World.shape?, show w.heap[vb]? = _ from hx]) (by simp [World.shape?, show w.heap[g]? = _ from hbk]) (by omega) (hx.frozen 0) (hx.frozen 1)]
    rfl
  have hB1 : Blk (w.drew.setCells g (off + (i + 1)) (vs.drop i)) g 24 (ovr cur (off + (i + 1)) (vs.drop i)) := Blk.setCells _ _ _ _ (hbk.of_eq rfl)
  have hcp1 : ∀ ty dc sc, (Builtin.copy_ #[22, 22] ty #[.slice (some ⟨g, off + (i + 1), none⟩) (n - i) dc, .slice (some ⟨g, off + i, none⟩) (n + 1 - i) sc]).run Try.prog w.drew = .ok (goInt (vs.drop i).length) (w.drew.setCells g (off + (i + 1)) (vs.drop i)) := fun ty dc sc =>
    run_copy_cells w.drew _ _ ty 24 g (off + (i + 1)) (n - i) dc ⟨g, off + i, none⟩ (n + 1 - i) sc (vs.drop i) u22s info24s (by rw [hdl]; simp only [Nat.min_def]; split <;> omega)
      (fun j y hj => by
        rw [Addr.add_lit, Nat.add_assoc]
        rw [List.getElem?_drop] at hj
        show w.cell? _ = _
        rw [hbk.cell]; exact hcs _ y hj)
      (fun j hj => by
        show (w.cell? _).isSome = true
        rw [hbk.cell, List.getElem?_eq_getElem (by omega)]; rfl)
      (fun j _ => hbk.frozen _) (fun y hy => h1v y (List.mem_of_mem_drop hy))
  obtain ⟨W1, hW1⟩ : ∃ W1, W1 = w.drew.setCells g (off + (i + 1)) (vs.drop i) := ⟨_, rfl⟩
  rw [← hW1] at hcp1 hB1
  have hg1 : w.grownBy W1 (some g) := by
    have h := grown_setCells (g := g) (vs.drop i) (off + (i + 1)) w.drew
    rw [hW1]
    exact ⟨h.os, h.tape, h.output, h.size, h.block⟩
  have hx1 : Blk W1 vb 24 [x] := hx.of_eq (hg1.block vb hvl (fun e => hvb (Option.some.inj e)))
  have hcp2 : ∀ (W : World), (∀ y, W.cell? y = W1.cell? y) → (∀ y, W.frozen? y = W1.frozen? y) → ∀ ty dc, (Builtin.copy_ #[22, 22] ty #[.slice (some ⟨g, off + i, none⟩) (n + 1 - i) dc, .slice (some ⟨vb, 0, none⟩) 1 1]).run Try.prog W = .ok (goInt 1) (W.setCells g (off + i) [x]) := fun W hWc hWf ty dc =>
    run_copy_cells W _ _ ty 24 g (off + i) (n + 1 - i) dc ⟨vb, 0, none⟩ 1 1 [x] u22s info24s (by simp only [Nat.min_def, List.length_cons, List.length_nil]; split <;> omega)
      (fun j y hj => by rw [Addr.add_lit, hWc, hx1.cell, Nat.zero_add]; exact hj)
      (fun j hj => by rw [hWc, hB1.cell, List.getElem?_eq_getElem (by rw [ovr_len]; simp at hj; omega)]; rfl) (fun j _ => by rw [hWf]; exact hB1.frozen _) (fun y hy => by simp at hy; subst hy; exact h1)
  have HF : Hid (∀ W : World, W.heap = (W1.setCells g (off + i) [x]).heap → W.os = w.os ∧ W.tape = w.tape ∧ W.output = w.output → Qs W base (.slice (some ⟨g, off, none⟩) (n + 1) cap) (vs.take i ++ x :: vs.drop i) ∧ w.grownBy W (some g)) := hide fun W hh ho => by
    have hB2 : Blk (W1.setCells g (off + i) [x]) g 24 (ovr (ovr cur (off + (i + 1)) (vs.drop i)) (off + i) [x]) := Blk.setCells _ _ _ _ hB1
    have hg2 := gtrans hg1 (grown_setCells (g := g) [x] (off + i) W1)
    refine ⟨.inr ⟨g, off, cap, _, by rw [insV_len _ _ (by omega), hnn], hgb, hB2.of_eq (by rw [hh]), by rw [insV_len _ _ (by omega), hnn]; exact hroom, by rw [ovr_len, ovr_len]; exact hc, hm, fun j y hy => ?_⟩, ⟨ho.1, ho.2.1, ho.2.2, by rw [hh]; exact hg2.size, fun k hk hr => by rw [hh]; exact hg2.block k hk hr⟩⟩
    rw [insV_get _ _ (by omega)] at hy
    rw [ovr_get _ _ _ _ (by rw [ovr_len, List.length_singleton]; omega), ovr_get _ _ _ _ (by rw [hdl]; omega)]
    by_cases h3 : j < i
    · rw [if_pos h3] at hy
      rw [if_neg (by omega), if_neg (by omega)]
      exact hcs j y hy
    · rw [if_neg h3] at hy
      by_cases h4 : j = i
      · subst h4
        rw [if_pos rfl] at hy
        rw [if_pos (by simp), Nat.sub_self]
        simpa using hy
      · rw [if_neg h4] at hy
        have hjl := (List.getElem?_eq_some_iff.1 hy).1
        rw [if_neg (by simp; omega), if_pos (by rw [hdl]; omega), List.getElem?_drop, show i + (off + j - (off + (i + 1))) = j - 1 by omega]
        exact hy
  have hos : W1.os = w.os ∧ W1.tape = w.tape ∧ W1.output = w.output := ⟨hg1.os, hg1.tape, hg1.output⟩
  have hw1 : IntKind.i64.wrap ((i : Int) + 1) = (i : Int) + 1 := by rw [IntKind.wrap_i64]; omega
  have hb1 : (0 : Int) ≤ (i : Int) + 1 := by omega
  have hin : i ≤ n := by omega
  have htn : ((i : Int) + 1).toNat = i + 1 := by omega
  have hb2 : ¬ (cap = i + 1) := by omega
  have hb3 : (i : Int) ≤ (n : Int) + 1 := by omega
  have hb4 : ¬ (cap = i) := by omega
  have hc63 : cap ≤ 9223372036854775807 := by unfold maxLen at hm; omega
  have hc64 : (n : Int) + 1 ≤ (cap : Int) := by omega
  have mixed : Try.prog.follows .mixedOrders = true := by kernel_rfl
  have HW1 := hide hW1
  clear hW1 hB1 hx hbk hcs hx1 hg1 hdl
  go_enter Try.func33, Try.ntmps33
  go_wp2_with (simp only [hov])
  go_region_law_o (refine step_copy_runI rfl _ _ 22 22 rfl _ _ (by simp [Act.eval, Act.put]) (by simp [Act.eval, Act.put]) (hcp1 _ _ _) ?_)
  go_wp2_with (at_builtin; refine wpList_copy_runI _ rfl _ _ 22 22 rfl _ _ rfl rfl (hcp2 _ (fun _ => rfl) (fun _ => rfl) _ _) ?_)
  go_ret
  have h3 := grown_setCells (g := g) [x] (off + i) W1
  exact ⟨rfl, HF.out _ rfl ⟨h3.os.trans hos.1, h3.tape.trans hos.2.1, h3.output.trans hos.2.2⟩⟩
theorem insert_ok (w : World) (base vb i : Nat) (v x : Value) (vs : List Value) (h : Qs w base v vs) (hx : Blk w vb 24 [x]) (h1 : x.oneCell' = true) (h1v : ∀ y, y ∈ vs → y.oneCell' = true) (hn : vs.length ≤ 1000000) (hb : base ≤ w.heap.size) (hi : i ≤ vs.length) (hvb : v.ownBlock ≠ some vb) :
    Calls Try.prog 33 #[v, .int .i64 i, .slice (some ⟨vb, 0, none⟩) 1 1] w fun e w' => ∃ r, e = .returned r ∧ Qs w' base r (vs.take i ++ x :: vs.drop i) ∧ w.grownBy w' v.ownBlock ∧ (∀ g, r.ownBlock = some g → v.ownBlock = some g ∨ w.heap.size ≤ g) := by
  by_cases he : i = vs.length
  · subst he
    rw [List.take_length, List.drop_length]
    exact insert_end w base vb v x vs h hx h1 hn hb
  · rcases h with ⟨rfl, rfl⟩ | ⟨g, off, cap, cur, rfl, hgb, hbk, hl, hc, hm, hcs⟩
    · simp at hi he; omega
    · by_cases hroom : vs.length + 1 ≤ cap
      · refine (insert_shift w base vb g off cap i x vs cur hgb hbk hc hm hcs hx h1 h1v hn (by omega) hroom (fun e => hvb (by rw [e]; rfl))).mono ?_
        rintro e w' ⟨rfl, a, b⟩
        exact ⟨_, rfl, a, b, fun k hk => .inl hk⟩
      · refine (insert_grow w base vb g off cap i x vs cur hbk hl hm hcs hx h1 h1v hn hb (by omega) (by omega)).mono ?_
        rintro e w' ⟨r, rfl, a, b, c⟩
        exact ⟨r, rfl, a, b, fun k hk => .inr (c k hk)⟩
end Go.Proofs.Ytgphcfmiamiojaa
