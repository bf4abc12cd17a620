/- What package sub's opened answers: at every table. -/
import Derived.Test.YtmgengplfebmjaaDoorMk
namespace Go.Proofs.YtmgengplfebmjaaDoor
open Go Go.RowKit

theorem SlF.of_blk {base : Nat} {w : World} {g n : Nat} {zs : List Int} (h : Blk w g 3 (zs.map (Value.int .i64))) (hn : n = zs.length) (hl : zs.length ≤ 1000000) (hb : base ≤ g) : SlF base w (.slice (some ⟨g, 0, none⟩) n n) zs := by
  subst hn
  refine ⟨some ⟨g, 0, none⟩, zs.length, g, 0, rfl, ⟨fun _ => rfl, fun j hj => ?_⟩, h.lt, Nat.le_refl _, by unfold maxLen; omega, hb⟩
  rw [Nat.zero_add]; exact h.int hj
/-- Six stores, into a group and a fault that a function answers. -/
theorem put6 {W w : World} {x y z t a b : Value} (hG : Blk W (w.heap.size + 1) 67 [x, y, z, t]) (hR : Blk W (w.heap.size + 1 + 1) 27 [a, b]) (hB : Below w.heap.size w W) (n v e u c d : Value) :
    ∃ W', W' = (((((W.setCell ⟨w.heap.size + 1, 0, none⟩ n).setCell ⟨w.heap.size + 1, 1, none⟩ v).setCell ⟨w.heap.size + 1, 2, none⟩ e).setCell ⟨w.heap.size + 1, 3, none⟩ u).setCell ⟨w.heap.size + 1 + 1, 0, none⟩ c).setCell ⟨w.heap.size + 1 + 1, 1, none⟩ d ∧
      Blk W' (w.heap.size + 1) 67 [n, v, e, u] ∧ Blk W' (w.heap.size + 1 + 1) 27 [c, d] ∧ Below w.heap.size w W' ∧ W'.heap.size = W.heap.size ∧ ∀ k, w.heap.size + 3 ≤ k → W'.heap[k]? = W.heap[k]? := by
  refine ⟨_, rfl, ?_, ?_, ?_, by simp [World.setCell], ?_⟩
  · exact (((((hG.set 0 n).set 1 v).set 2 e).set 3 u).other (p := ⟨w.heap.size + 1 + 1, 0, none⟩) (by simp) c).other (p := ⟨w.heap.size + 1 + 1, 1, none⟩) (by simp) d
  · exact ((((((hR.other (p := ⟨w.heap.size + 1, 0, none⟩) (by simp) n).other (p := ⟨w.heap.size + 1, 1, none⟩) (by simp) v).other (p := ⟨w.heap.size + 1, 2, none⟩) (by simp) e).other (p := ⟨w.heap.size + 1, 3, none⟩) (by simp) u)).set 0 c).set 1 d
  · exact (((((hB.setCell (p := ⟨w.heap.size + 1, 0, none⟩) (by simp) n).setCell (p := ⟨w.heap.size + 1, 1, none⟩) (by simp) v).setCell (p := ⟨w.heap.size + 1, 2, none⟩) (by simp) e).setCell (p := ⟨w.heap.size + 1, 3, none⟩) (by simp) u).setCell (p := ⟨w.heap.size + 1 + 1, 0, none⟩) (by simp; omega) c).setCell (p := ⟨w.heap.size + 1 + 1, 1, none⟩) (by simp; omega) d
  · intro k hk
    rw [Below.heap_setCell _ _ _ k (by simp; omega), Below.heap_setCell _ _ _ k (by simp; omega), Below.heap_setCell _ _ _ k (by simp; omega), Below.heap_setCell _ _ _ k (by simp; omega), Below.heap_setCell _ _ _ k (by simp; omega), Below.heap_setCell _ _ _ k (by simp; omega)]
/-- The value of no group. -/
def zg : Value := .agg #[.int .i64 0, .slice none 0 0, .int .i64 0, .slice none 0 0]
theorem Blk.self4 {W : World} {b : Nat} {T : TypeId} {x y z t : Value} (h : Blk W b T [x, y, z, t]) : W.setCell ⟨b, 0, none⟩ x = W ∧ W.setCell ⟨b, 1, none⟩ y = W ∧ W.setCell ⟨b, 2, none⟩ z = W ∧ W.setCell ⟨b, 3, none⟩ t = W :=
  ⟨setCell_self h (by simp), setCell_self h (by simp), setCell_self h (by simp), setCell_self h (by simp)⟩
/-- A block of four cells, with all that the walk asks of it. -/
structure Four (W : World) (b : Nat) (x y z t : Value) : Prop where
  blk : Blk W b 67 [x, y, z, t]
  c0 : W.cell? ⟨b, 0, none⟩ = some x
  c1 : W.cell? ⟨b, 1, none⟩ = some y
  c2 : W.cell? ⟨b, 2, none⟩ = some z
  c3 : W.cell? ⟨b, 3, none⟩ = some t
  f0 : W.frozen? ⟨b, 0, none⟩ = false
  f1 : W.frozen? ⟨b, 1, none⟩ = false
  f2 : W.frozen? ⟨b, 2, none⟩ = false
  f3 : W.frozen? ⟨b, 3, none⟩ = false
  s0 : W.setCell ⟨b, 0, none⟩ x = W
  s1 : W.setCell ⟨b, 1, none⟩ y = W
  s2 : W.setCell ⟨b, 2, none⟩ z = W
  s3 : W.setCell ⟨b, 3, none⟩ t = W
theorem Four.mk' {W : World} {b : Nat} {x y z t : Value} (h : Blk W b 67 [x, y, z, t]) : Four W b x y z t :=
  ⟨h, h.cell 0, h.cell 1, h.cell 2, h.cell 3, h.frozen 0, h.frozen 1, h.frozen 2, h.frozen 3, h.self4.1, h.self4.2.1, h.self4.2.2.1, h.self4.2.2.2⟩
/-- What lies where a function begins that takes a table and answers a group and a fault. -/
structure Beg4 (w w0 : World) (N : Int) (v : Value) : Prop where
  eq : w0 = ((w.alloc (.cells #[.int .i64 N, v] 24)).alloc (.cells #[.int .i64 0, .slice none 0 0, .int .i64 0, .slice none 0 0] 67)).alloc (.cells #[.int .i64 0, .int .i64 0] 27)
  bel : Below w.heap.size w w0
  box : BoxG w0 w.heap.size N v
  grp : Blk w0 (w.heap.size + 1) 67 [.int .i64 0, .slice none 0 0, .int .i64 0, .slice none 0 0]
  res : Blk w0 (w.heap.size + 1 + 1) 27 [.int .i64 0, .int .i64 0]
  size : w0.heap.size = w.heap.size + 3
theorem Beg4.new (w : World) (N : Int) (v : Value) : ∃ w0, Beg4 w w0 N v := by
  refine ⟨_, rfl, ((balloc w _).alloc (by simp) _).alloc (by simp; omega) _, ((blk0 _ _).alloc _).alloc _, ?_, ?_, by simp⟩
  · have := (blk4 (w := w.alloc (.cells #[.int .i64 N, v] 24)) (T := 67) (.int .i64 0) (.slice none 0 0) (.int .i64 0) (.slice none 0 0)).alloc (.cells #[.int .i64 0, .int .i64 0] 27)
    rw [World.size_alloc] at this; exact this
  · have := Two.new ((w.alloc (.cells #[.int .i64 N, v] 24)).alloc (.cells #[.int .i64 0, .slice none 0 0, .int .i64 0, .slice none 0 0] 67))
    rw [World.size_alloc, World.size_alloc] at this; exact this.blk

set_option maxRecDepth 100000 in
set_option maxHeartbeats 4000000 in
theorem opened_bad (N : Int) (v : Value) (zs : List Int) (w : World) (hv : Sl w v zs) (hc : (gfault N zs).1 ≠ 0) :
    Calls Tryd.prog 76 #[.agg #[.int .i64 N, v]] w fun x w' => x = .returned (.tuple #[.agg #[.int .i64 0, .slice none 0 0, .int .i64 0, .slice none 0 0], .agg #[.int .i64 (gfault N zs).1, .int .i64 (gfault N zs).2]]) ∧ Below w.heap.size w w' := by
  obtain ⟨w0, BG⟩ := Beg4.new w N v
  have hv0 := hv.below BG.bel
  obtain ⟨c0, c1, _, _⟩ := BG.box.two
  have hck := one_any N v zs w0 hv0
  obtain ⟨c, i, hci⟩ : ∃ c i, gfault N zs = (c, i) := ⟨_, _, rfl⟩
  rw [hci] at hck hc ⊢
  simp only at hc hck
  rw [show okI c (one N.toNat zs) = 0 from if_neg hc] at hck
  have HCK := hide hck
  clear hck hci
  have hcb : (c != 0) = true := by simpa using hc
  rw [BG.eq] at c0 c1
  go_enter Tryd.func76, Tryd.ntmps76
  go_wp2_with fail
  rw [← BG.eq]
  refine HCK.out.mono ?_
  rintro x w1 ⟨rfl, hb1⟩
  clear c0 c1
  have hB1 := bcat2 hb1 (balloc w1 (.cells #[.int .i64 c, .int .i64 i] 27))
  obtain ⟨hG1, g0, g1, g2, g3, gf0, gf1, gf2, gf3, gs0, gs1, gs2, gs3⟩ := Four.mk' (blk_below BG.grp hB1)
  have hR1 := blk_below BG.res hB1
  have hF1 : Blk (w1.alloc (.cells #[.int .i64 c, .int .i64 i] 27)) w1.heap.size 27 [.int .i64 c, .int .i64 i] := blk0 _ _
  have hBw := bcat BG.bel hB1 BG.bel.size
  obtain ⟨y0, y1, fy0, fy1⟩ := hR1.two
  obtain ⟨t0, t1, _, _⟩ := hF1.two
  go_wp2_with fail
  generalize w1.alloc (.cells #[.int .i64 c, .int .i64 i] 27) = w2 at *
  go_region
  go_wp2
  obtain ⟨hR6, hB6⟩ := put2 hR1 hBw (by omega) c i
  have hB7 := bdrew hB6
  have hR7 : Blk ((w2.setCell ⟨w.heap.size + 1 + 1, 0, none⟩ (.int .i64 c)).setCell ⟨w.heap.size + 1 + 1, 1, none⟩ (.int .i64 i)).drew (w.heap.size + 1 + 1) 27 [.int .i64 c, .int .i64 i] := hR6
  have hG7 : Blk ((w2.setCell ⟨w.heap.size + 1 + 1, 0, none⟩ (.int .i64 c)).setCell ⟨w.heap.size + 1 + 1, 1, none⟩ (.int .i64 i)).drew (w.heap.size + 1) 67 [.int .i64 0, .slice none 0 0, .int .i64 0, .slice none 0 0] :=
    (hG1.other (p := ⟨w.heap.size + 1 + 1, 0, none⟩) (by simp) (.int .i64 c)).other (p := ⟨w.heap.size + 1 + 1, 1, none⟩) (by simp) (.int .i64 i)
  generalize ((w2.setCell ⟨w.heap.size + 1 + 1, 0, none⟩ (.int .i64 c)).setCell ⟨w.heap.size + 1 + 1, 1, none⟩ (.int .i64 i)).drew = W at hR7 hB7 hG7 ⊢
  obtain ⟨z0, z1, _, _⟩ := hR7.two
  obtain ⟨_, q0, q1, q2, q3, _⟩ := Four.mk' hG7
  exact bodyPost_ret (v := .tuple #[.agg #[.int .i64 0, .slice none 0 0, .int .i64 0, .slice none 0 0], .agg #[.int .i64 c, .int .i64 i]]) (by simp [results, Tryd.results76, go_sem, z0, z1, q0, q1, q2, q3]) rfl ⟨rfl, hB7⟩

/-- Inverses, as far as they are found ahead of the place k. -/
def ivl (n : Nat) (zs : List Int) (e k : Nat) : List Int := (List.range n).map fun a => if a * n + iv n zs e a < k then (iv n zs e a : Int) else 0
theorem ivl_len (n : Nat) (zs : List Int) (e k : Nat) : (ivl n zs e k).length = n := by simp [ivl]
theorem ivl_zero (n : Nat) (zs : List Int) (e : Nat) : ivl n zs e 0 = List.replicate n 0 := by
  unfold ivl
  apply List.ext_getElem <;> simp
theorem ivl_all {n : Nat} {zs : List Int} {e : Nat} (g : IsGrp n zs e) : ivl n zs e (n * n) = li ((List.range n).map (iv n zs e)) := by
  unfold ivl li
  rw [List.map_map]
  apply List.map_congr_left
  intro a ha
  have ha := List.mem_range.1 ha
  rw [if_pos (place_lt ha (iv_spec g ha).1)]; rfl
theorem dm' {n a b : Nat} (hb : b < n) : (a * n + b) / n = a ∧ (a * n + b) % n = b := by
  constructor
  · rw [Nat.mul_comm, Nat.mul_add_div (by omega), Nat.div_eq_of_lt hb, Nat.add_zero]
  · rw [Nat.mul_comm, Nat.mul_add_mod, Nat.mod_eq_of_lt hb]
/-- A place whose product is the one. -/
theorem ivl_hit {n : Nat} {zs : List Int} {e k : Nat} (g : IsGrp n zs e) (hk : k < n * n) (h : zs[k]?.getD 0 = (e : Int)) : ivl n zs e (k + 1) = (ivl n zs e k).set (k / n) ((k % n : Nat) : Int) ∧ k / n < n := by
  have hn := g.tab.pos
  have h1 : k / n < n := Nat.div_lt_of_lt_mul hk
  have h2 : k % n < n := Nat.mod_lt _ (by omega)
  have h3 : k / n * n + k % n = k := by rw [Nat.mul_comm]; exact Nat.div_add_mod k n
  have h4 := tm_get g.tab h1 h2
  rw [h3, h] at h4
  have h5 : k % n = iv n zs e (k / n) := iv_only g h1 h2 (by omega)
  refine ⟨?_, h1⟩
  apply List.ext_getElem
  · simp [ivl]
  · intro i hi1 hi2
    simp [ivl] at hi1
    rw [List.getElem_set]
    by_cases hik : k / n = i
    · subst hik
      simp only [ivl, List.getElem_map, List.getElem_range, if_true]
      rw [← h5, if_pos (by omega)]
    · simp only [ivl, List.getElem_map, List.getElem_range, if_neg hik]
      have h6 := (iv_spec g hi1).1
      have : i * n + iv n zs e i < k + 1 ↔ i * n + iv n zs e i < k := by
        constructor
        · intro h7
          apply Classical.byContradiction
          intro h8
          have h9 : i * n + iv n zs e i = k := by omega
          exact hik (by rw [← h9]; exact (dm' h6).1)
        · omega
      simp only [this]
theorem ivl_miss {n : Nat} {zs : List Int} {e k : Nat} (g : IsGrp n zs e) (h : zs[k]?.getD 0 ≠ (e : Int)) : ivl n zs e (k + 1) = ivl n zs e k := by
  unfold ivl
  apply List.map_congr_left
  intro a ha
  have ha := List.mem_range.1 ha
  obtain ⟨h1, h2, _⟩ := iv_spec g ha
  have : a * n + iv n zs e a < k + 1 ↔ a * n + iv n zs e a < k := by
    constructor
    · intro h7
      apply Classical.byContradiction
      intro h8
      have h9 : a * n + iv n zs e a = k := by omega
      have h4 := tm_get g.tab ha h1
      rw [h9, h2] at h4
      exact h h4
    · omega
  simp only [this]
theorem grp_fault {n e : Nat} {zs : List Int} (g : IsGrp n zs e) : gfault n zs = (0, 0) := by
  unfold gfault
  rw [efault_of_tab g.tab, if_neg (by simp), Int.toNat_natCast, if_neg (by rw [g.one]; omega), if_neg, if_neg]
  · rw [Decidable.not_not, least_neg]
    intro a ha
    rw [g.one, (iv_spec g ha).2.2.2]
    simp
  · rw [Decidable.not_not, least_neg]
    intro a ha
    simp only [Bool.not_eq_false']
    exact assB_iff.2 fun b c hb hc => g.ass a b c ha hb hc

set_option maxRecDepth 100000 in
set_option maxHeartbeats 4000000 in
theorem opened_good (n e : Nat) (v : Value) (zs : List Int) (w : World) (hv : Sl w v zs) (hg : IsGrp n zs e) :
    Calls Tryd.prog 76 #[.agg #[.int .i64 n, v]] w fun x w' => ∃ u, x = .returned (.tuple #[.agg #[.int .i64 n, v, .int .i64 e, u], .agg #[.int .i64 0, .int .i64 0]]) ∧ SlF w.heap.size w' u (li ((List.range n).map (iv n zs e))) ∧ Below w.heap.size w w' := by
  obtain ⟨i0, hi, hz0, hz1, hz2⟩ := info_parts info3b
  obtain ⟨w0, BG⟩ := Beg4.new w n v
  have hv0 := hv.below BG.bel
  obtain ⟨c0, c1, _, _⟩ := BG.box.two
  have hck := one_any n v zs w0 hv0
  rw [grp_fault hg] at hck
  simp only [okI_zero, Int.toNat_natCast] at hck
  rw [hg.one] at hck
  have HCK := hide hck
  have hle := hg.tab.le
  have hpos := hg.tab.pos
  have hlen := hg.tab.len
  have hnn : 1 * 1 ≤ n * n := Nat.mul_le_mul hpos hpos
  have hnn2 : n * n ≤ 60 * 60 := Nat.mul_le_mul hle hle
  obtain ⟨a, cap, pb, po, rfl, hr, hp, hq3, hq4⟩ := id hv
  obtain rfl := hr.at_ (by omega)
  have HLN := hide hlen
  have hz5 : zs.length ≤ 3600 := by omega
  clear hck hlen hnn hnn2
  rw [BG.eq] at c0 c1
  go_enter Tryd.func76, Tryd.ntmps76
  go_wp2_with fail
  rw [← BG.eq]
  refine HCK.out.mono ?_
  rintro x w1 ⟨rfl, hb1⟩
  clear c0 c1
  have hB1 := bcat2 hb1 (balloc w1 (.cells #[.int .i64 0, .int .i64 0] 27))
  have hG1 := blk_below BG.grp hB1
  have hR1 := blk_below BG.res hB1
  have hX1 := blk_below BG.box hB1
  have hF1 : Blk (w1.alloc (.cells #[.int .i64 0, .int .i64 0] 27)) w1.heap.size 27 [.int .i64 0, .int .i64 0] := blk0 _ _
  have hBw := bcat BG.bel hB1 BG.bel.size
  obtain ⟨t0, t1, _, _⟩ := hF1.two
  obtain ⟨k0, k1, _, _⟩ := hX1.two
  have hsz : w.heap.size + 3 ≤ w1.heap.size := by rw [← BG.size]; exact hb1.size
  go_wp2_with (first
    | (at_make; refine wpList_make_full _ rfl _ _ 22 rfl (w1.heap.size + 1) 3 i0 (.int .i64 0) 1 under22b hi hz0 hz1 _ _ _ _ n rfl rfl rfl rfl (by rw [hz2]; omega) (by unfold maxLen; omega) (by simp) ?_))
  intro w2 hown hgr
  have hM : Blk w2 (w1.heap.size + 1) 3 ((ivl n zs e 0).map (Value.int .i64)) := by
    have := Blk.of_owns hown
    rw [made_rep] at this
    rw [ivl_zero, List.map_replicate]; exact this
  have hB2 : Below w.heap.size w w2 := hBw.grown hgr hBw.size (by simp)
  have hX2 := hX1.grown hgr (by simp)
  have hG2 := hG1.grown hgr (by simp)
  have hR2 := hR1.grown hgr (by simp)
  clear hown hgr t0 t1 k0 k1
  obtain ⟨k0, k1, _, _⟩ := hX2.two
  go_wp2
  clear k0 k1
  go_loopw [25] (fun i wr => ∃ k : Nat, k ≤ zs.length ∧ i = .int .i64 k ∧ Blk wr (w1.heap.size + 1) 3 ((ivl n zs e k).map (Value.int .i64)) ∧ Blk wr w.heap.size 24 [.int .i64 n, .slice (some ⟨pb, po, none⟩) zs.length cap] ∧ Blk wr (w.heap.size + 1) 67 [.int .i64 0, .slice none 0 0, .int .i64 0, .slice none 0 0] ∧ Blk wr (w.heap.size + 1 + 1) 27 [.int .i64 0, .int .i64 0] ∧ Below w.heap.size w wr) (fun i _ => zs.length - (intOf i).toNat)
  case atStart => exact ⟨0, Nat.zero_le _, rfl, hM, hX2, hG2, hR2, hB2⟩
  case round =>
    obtain ⟨k, hk, rfl, hMk, hXk, hGk, hRk, hBk⟩ := hrel
    by_cases hlt : k < zs.length
    · have hck := (hr.below hBk hp).cell k hlt
      by_cases hce : zs[k]?.getD 0 = (e : Int)
      · obtain ⟨hset, hx⟩ := ivl_hit hg (by rw [← HLN.out]; exact hlt) hce
        rw [hce] at hck
        have hq := Int.tdiv_eq_ediv_of_nonneg (a := (k : Int)) (b := (n : Int)) (by omega)
        rw [← Int.natCast_ediv] at hq
        have hm := Int.tmod_eq_emod_of_nonneg (a := (k : Int)) (b := (n : Int)) (by omega)
        rw [← Int.natCast_emod] at hm
        have hy : k % n < n := Nat.mod_lt _ (by omega)
        have hset : ivl n zs e (k + 1) = (ivl n zs e k).set (k / n) ((k % n : Nat) : Int) := hset
        generalize k / n = x at *
        generalize k % n = y at *
        have HSET := hide hset
        have hxi : (x : Int) < (n : Int) := by omega
        have hn0 : ¬ ((n : Int) = 0) := by omega
        have hn1 : ¬ (n = 0) := by omega
        have hMc := hMk.int (y := x) (by rw [ivl_len]; exact hx)
        have hMf := hMk.frozen x
        obtain ⟨k0, k1, _, _⟩ := hXk.two
        have hM6 := hMk.setInt x (y : Int)
        rw [← HSET.out] at hM6
        have hX6 := hXk.other (p := ⟨w1.heap.size + 1, x, none⟩) (by simp; omega) (.int .i64 (y : Int))
        have hG6 := hGk.other (p := ⟨w1.heap.size + 1, x, none⟩) (by simp; omega) (.int .i64 (y : Int))
        have hR6 := hRk.other (p := ⟨w1.heap.size + 1, x, none⟩) (by simp; omega) (.int .i64 (y : Int))
        have hB6 := bdrew (hBk.setCell (p := ⟨w1.heap.size + 1, x, none⟩) (by simp; omega) (.int .i64 (y : Int)))
        clear hset
        have hwx : IntKind.i64.wrap (x : Int) = (x : Int) := by rw [IntKind.wrap_i64]; omega
        have hwy : IntKind.i64.wrap (y : Int) = (y : Int) := by rw [IntKind.wrap_i64]; omega
        go_wp2_with fail
        go_region
        all_goals (
          clear hMc hMf k0 k1 hck
          go_wp2
          go_roundw
          case rel => exact ⟨k + 1, by omega, by go_num, hM6, hX6, hG6, hR6, hB6⟩
          case measure => simp [intOf]; omega)
      · have HM := hide (ivl_miss hg hce)
        have hne : ¬ (zs[k]?.getD 0 = (e : Int)) := hce
        generalize zs[k]?.getD 0 = c at *
        go_wp2
        go_roundw
        case rel => exact ⟨k + 1, by omega, by go_num, by rw [HM.out]; exact hMk, hXk, hGk, hRk, hBk⟩
        case measure => simp [intOf]; omega
    · have hkk : k = zs.length := by omega
      have hMz : Blk wr (w1.heap.size + 1) 3 ((li ((List.range n).map (iv n zs e))).map (Value.int .i64)) := by
        rw [hkk, HLN.out, ivl_all hg] at hMk; exact hMk
      clear hMk
      obtain ⟨k0, k1, _, _⟩ := hXk.two
      obtain ⟨_, g0, g1, g2, g3, gf0, gf1, gf2, gf3, _⟩ := Four.mk' hGk
      obtain ⟨_, y0, y1, fy0, fy1, s0, s1⟩ := Two.mk' hRk
      go_wp2
      have hG8 : Blk ((((((wr.setCell ⟨w.heap.size + 1, 0, none⟩ (.int .i64 n)).setCell ⟨w.heap.size + 1, 1, none⟩ (.slice (some ⟨pb, po, none⟩) zs.length cap)).setCell ⟨w.heap.size + 1, 2, none⟩ (.int .i64 e)).setCell ⟨w.heap.size + 1, 3, none⟩ (.slice (some ⟨w1.heap.size + 1, 0, none⟩) n n)).setCell ⟨w.heap.size + 1 + 1, 0, none⟩ (.int .i64 0)).setCell ⟨w.heap.size + 1 + 1, 1, none⟩ (.int .i64 0)) (w.heap.size + 1) 67 [.int .i64 n, .slice (some ⟨pb, po, none⟩) zs.length cap, .int .i64 e, .slice (some ⟨w1.heap.size + 1, 0, none⟩) n n] := (Blk.other (Blk.other (Blk.set (Blk.set (Blk.set (Blk.set hGk 0 (.int .i64 n)) 1 (.slice (some ⟨pb, po, none⟩) zs.length cap)) 2 (.int .i64 e)) 3 (.slice (some ⟨w1.heap.size + 1, 0, none⟩) n n)) (p := ⟨w.heap.size + 1 + 1, 0, none⟩) (by simp <;> omega) (.int .i64 0)) (p := ⟨w.heap.size + 1 + 1, 1, none⟩) (by simp <;> omega) (.int .i64 0))
      have hR8 : Blk ((((((wr.setCell ⟨w.heap.size + 1, 0, none⟩ (.int .i64 n)).setCell ⟨w.heap.size + 1, 1, none⟩ (.slice (some ⟨pb, po, none⟩) zs.length cap)).setCell ⟨w.heap.size + 1, 2, none⟩ (.int .i64 e)).setCell ⟨w.heap.size + 1, 3, none⟩ (.slice (some ⟨w1.heap.size + 1, 0, none⟩) n n)).setCell ⟨w.heap.size + 1 + 1, 0, none⟩ (.int .i64 0)).setCell ⟨w.heap.size + 1 + 1, 1, none⟩ (.int .i64 0)) (w.heap.size + 1 + 1) 27 [.int .i64 0, .int .i64 0] := (Blk.set (Blk.set (Blk.other (Blk.other (Blk.other (Blk.other hRk (p := ⟨w.heap.size + 1, 0, none⟩) (by simp <;> omega) (.int .i64 n)) (p := ⟨w.heap.size + 1, 1, none⟩) (by simp <;> omega) (.slice (some ⟨pb, po, none⟩) zs.length cap)) (p := ⟨w.heap.size + 1, 2, none⟩) (by simp <;> omega) (.int .i64 e)) (p := ⟨w.heap.size + 1, 3, none⟩) (by simp <;> omega) (.slice (some ⟨w1.heap.size + 1, 0, none⟩) n n)) 0 (.int .i64 0)) 1 (.int .i64 0))
      have hM8 : Blk ((((((wr.setCell ⟨w.heap.size + 1, 0, none⟩ (.int .i64 n)).setCell ⟨w.heap.size + 1, 1, none⟩ (.slice (some ⟨pb, po, none⟩) zs.length cap)).setCell ⟨w.heap.size + 1, 2, none⟩ (.int .i64 e)).setCell ⟨w.heap.size + 1, 3, none⟩ (.slice (some ⟨w1.heap.size + 1, 0, none⟩) n n)).setCell ⟨w.heap.size + 1 + 1, 0, none⟩ (.int .i64 0)).setCell ⟨w.heap.size + 1 + 1, 1, none⟩ (.int .i64 0)) (w1.heap.size + 1) 3 ((li ((List.range n).map (iv n zs e))).map (Value.int .i64)) := (Blk.other (Blk.other (Blk.other (Blk.other (Blk.other (Blk.other hMz (p := ⟨w.heap.size + 1, 0, none⟩) (by simp <;> omega) (.int .i64 n)) (p := ⟨w.heap.size + 1, 1, none⟩) (by simp <;> omega) (.slice (some ⟨pb, po, none⟩) zs.length cap)) (p := ⟨w.heap.size + 1, 2, none⟩) (by simp <;> omega) (.int .i64 e)) (p := ⟨w.heap.size + 1, 3, none⟩) (by simp <;> omega) (.slice (some ⟨w1.heap.size + 1, 0, none⟩) n n)) (p := ⟨w.heap.size + 1 + 1, 0, none⟩) (by simp <;> omega) (.int .i64 0)) (p := ⟨w.heap.size + 1 + 1, 1, none⟩) (by simp <;> omega) (.int .i64 0))
      have hB8 : Below w.heap.size w ((((((wr.setCell ⟨w.heap.size + 1, 0, none⟩ (.int .i64 n)).setCell ⟨w.heap.size + 1, 1, none⟩ (.slice (some ⟨pb, po, none⟩) zs.length cap)).setCell ⟨w.heap.size + 1, 2, none⟩ (.int .i64 e)).setCell ⟨w.heap.size + 1, 3, none⟩ (.slice (some ⟨w1.heap.size + 1, 0, none⟩) n n)).setCell ⟨w.heap.size + 1 + 1, 0, none⟩ (.int .i64 0)).setCell ⟨w.heap.size + 1 + 1, 1, none⟩ (.int .i64 0)) := (Below.setCell (Below.setCell (Below.setCell (Below.setCell (Below.setCell (Below.setCell hBk (p := ⟨w.heap.size + 1, 0, none⟩) (by simp <;> omega) (.int .i64 n)) (p := ⟨w.heap.size + 1, 1, none⟩) (by simp <;> omega) (.slice (some ⟨pb, po, none⟩) zs.length cap)) (p := ⟨w.heap.size + 1, 2, none⟩) (by simp <;> omega) (.int .i64 e)) (p := ⟨w.heap.size + 1, 3, none⟩) (by simp <;> omega) (.slice (some ⟨w1.heap.size + 1, 0, none⟩) n n)) (p := ⟨w.heap.size + 1 + 1, 0, none⟩) (by simp <;> omega) (.int .i64 0)) (p := ⟨w.heap.size + 1 + 1, 1, none⟩) (by simp <;> omega) (.int .i64 0))
      generalize ((((((wr.setCell ⟨w.heap.size + 1, 0, none⟩ (.int .i64 n)).setCell ⟨w.heap.size + 1, 1, none⟩ (.slice (some ⟨pb, po, none⟩) zs.length cap)).setCell ⟨w.heap.size + 1, 2, none⟩ (.int .i64 e)).setCell ⟨w.heap.size + 1, 3, none⟩ (.slice (some ⟨w1.heap.size + 1, 0, none⟩) n n)).setCell ⟨w.heap.size + 1 + 1, 0, none⟩ (.int .i64 0)).setCell ⟨w.heap.size + 1 + 1, 1, none⟩ (.int .i64 0)) = W at hG8 hR8 hM8 hB8 ⊢
      obtain ⟨z0, z1, _, _⟩ := hR8.two
      obtain ⟨_, q0, q1, q2, q3, _⟩ := Four.mk' hG8
      have hGA := SlF.of_blk (base := w.heap.size) hM8 ivs_len.symm (by rw [ivs_len]; omega) (by omega)
      exact bodyPost_ret (v := .tuple #[.agg #[.int .i64 n, .slice (some ⟨pb, po, none⟩) zs.length cap, .int .i64 e, .slice (some ⟨w1.heap.size + 1, 0, none⟩) n n], .agg #[.int .i64 0, .int .i64 0]]) (by simp [results, Tryd.results76, go_sem, z0, z1, q0, q1, q2, q3]) rfl ⟨_, rfl, hGA, hB8⟩
end Go.Proofs.YtmgengplfebmjaaDoor
