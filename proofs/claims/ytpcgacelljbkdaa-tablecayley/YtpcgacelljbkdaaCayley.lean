/- Lists of lists in memory; what Cayley of package table answers. -/
import Derived.Test.YtpcgacelljbkdaaMake
namespace Go.Proofs.Ytpcgacelljbkdaa
open Go Go.RowKit

/-- A slice of slices of ints that reads as rs. -/
def SlL (w : World) (v : Value) (rs : List (List Int)) : Prop := ∃ a cap pb po, v = .slice a rs.length cap ∧ (0 < rs.length → a = some ⟨pb, po, none⟩) ∧ (∀ j, j < rs.length → ∃ x, w.cell? ⟨pb, po + j, none⟩ = some x ∧ Sl w x (rs[j]?.getD [])) ∧ pb < w.heap.size ∧ rs.length ≤ cap ∧ cap ≤ maxLen
theorem SlL.below {w w' : World} {v : Value} {rs : List (List Int)} (h : SlL w v rs) (hb : Below w.heap.size w w') : SlL w' v rs := by
  obtain ⟨a, cap, pb, po, hv, h0, hr, hp, h1, h2⟩ := h
  refine ⟨a, cap, pb, po, hv, h0, fun j hj => ?_, Nat.lt_of_lt_of_le hp hb.size, h1, h2⟩
  obtain ⟨x, hx, hs⟩ := hr j hj
  exact ⟨x, below_cell hb hx, hs.below hb⟩
theorem info22b : (Try.prog.info? 22).map (fun i => (i.zero, i.size, i.bytes)) = some (some (.slice none 0 0), 1, 24) := by kernel_rfl
theorem under57b : Try.prog.underlying 57 = some (.slice 22) := by kernel_rfl

/-- The first k cells filled with rows. -/
def fillV (n : Nat) (g : Nat → Nat) (k : Nat) : List Value := (List.range n).map fun j => if j < k then .slice (some ⟨g j, 0, none⟩) n n else .slice none 0 0
theorem fillV_len (n : Nat) (g : Nat → Nat) (k : Nat) : (fillV n g k).length = n := by simp [fillV]
theorem fillV_zero (n : Nat) (g : Nat → Nat) : fillV n g 0 = List.replicate n (.slice none 0 0) := by
  apply List.ext_getElem
  · simp [fillV]
  · intro i h1 h2; simp [fillV]
theorem fillV_get {n : Nat} {g : Nat → Nat} {k j : Nat} (hj : j < n) : (fillV n g k)[j]? = some (if j < k then .slice (some ⟨g j, 0, none⟩) n n else .slice none 0 0) := by simp [fillV, hj]
def upd (g : Nat → Nat) (k b : Nat) : Nat → Nat := fun j => if j = k then b else g j
theorem fillV_set {n : Nat} {g : Nat → Nat} {k b : Nat} (_hk : k < n) : (fillV n g k).set k (.slice (some ⟨b, 0, none⟩) n n) = fillV n (upd g k b) (k + 1) := by
  apply List.ext_getElem
  · simp [fillV]
  · intro i h1 h2
    rw [List.getElem_set]
    by_cases e : k = i
    · subst e; simp [fillV, upd]
    · have e' : ¬ i = k := fun h => e h.symm
      by_cases l : i < k
      · simp [fillV, upd, e, e', l, Nat.lt_succ_of_lt l]
      · have l2 : ¬ i < k + 1 := by omega
        simp [fillV, e, l, l2]

/-- Of thing a the permutation that moves x to x a. -/
def cayR (n : Nat) (zs : List Int) (a : Nat) : List Int := (List.range n).map fun x => (tm n zs x a : Int)
def cayL (n : Nat) (zs : List Int) : List (List Int) := (List.range n).map (cayR n zs)
theorem cayR_len (n : Nat) (zs : List Int) (a : Nat) : (cayR n zs a).length = n := by simp [cayR]
theorem cayL_len (n : Nat) (zs : List Int) : (cayL n zs).length = n := by simp [cayL]
theorem cayL_get {n : Nat} {zs : List Int} {a : Nat} (ha : a < n) : (cayL n zs)[a]?.getD [] = cayR n zs a := by simp [cayL, ha]
theorem cayR_get {n : Nat} {zs : List Int} {a x : Nat} (hx : x < n) : (cayR n zs a)[x]?.getD 0 = (tm n zs x a : Int) := by simp [cayR, hx]

theorem SlL.of_blk {w : World} {g n : Nat} {gs : Nat → Nat} {zs : List Int} (h : Blk w g 22 (fillV n gs n)) (hr : ∀ j, j < n → Blk w (gs j) 3 ((cayR n zs j).map (Value.int .i64))) (hl : n ≤ 60) : SlL w (.slice (some ⟨g, 0, none⟩) n n) (cayL n zs) := by
  refine ⟨some ⟨g, 0, none⟩, n, g, 0, by rw [cayL_len], fun _ => rfl, fun j hj => ?_, h.lt, by rw [cayL_len]; exact Nat.le_refl _, by unfold maxLen; omega⟩
  rw [cayL_len] at hj
  refine ⟨.slice (some ⟨gs j, 0, none⟩) n n, ?_, ?_⟩
  · rw [Nat.zero_add, h.cell, fillV_get hj, if_pos hj]
  · rw [cayL_get hj]
    exact Sl.of_blk (hr j hj) (by rw [cayR_len]) (by rw [cayR_len]; omega)

set_option maxRecDepth 100000 in
set_option maxHeartbeats 8000000 in
theorem cayley_ok (n e : Nat) (v : Value) (zs : List Int) (w : World) (h : IsGrp n zs e) (hv : Sl w v zs) :
    Calls Try.prog 50 #[.agg #[.int .i64 n, v]] w fun x w' => ∃ r, x = .returned (.tuple #[r, .agg #[.int .i64 0, .int .i64 0]]) ∧ SlL w' r (cayL n zs) ∧ Below w.heap.size w w' := by
  obtain ⟨i0, hi, hz0, hz1, hz2⟩ := info_parts info3b
  obtain ⟨i2, hi2, hy0, hy1, hy2⟩ := info_parts info22b
  obtain ⟨w0, BG⟩ := Beg.new w n v
  have hv0 := hv.below BG.bel
  obtain ⟨a9, c9, _, _, rfl, _⟩ := id hv
  obtain ⟨c0, c1, _, _⟩ := BG.box.two
  have hck := check_any n _ zs w0 hv0
  rw [gfault_of_grp h] at hck
  have HCK := hide hck
  have HP := hide (fun W a b (hW : Sl W (.slice a9 zs.length c9) zs) ha hb => product_ok n (.slice a9 zs.length c9) zs a b W h.tab hW ha hb)
  have hle := h.tab.le
  generalize zs.length = lz at *
  clear hck h
  rw [BG.eq] at c0 c1
  go_enter Try.func50, Try.ntmps50
  go_wp2_with fail
  rw [← BG.eq]
  refine HCK.out.mono ?_
  rintro x w1 ⟨rfl, hb1⟩
  clear c0 c1
  have hB2 := bcat2 hb1 (balloc w1 (.cells #[.int .i64 0, .int .i64 0] 27))
  obtain ⟨k0, k1, _, _⟩ := (blk_below BG.box hB2).two
  have hv2 := hv0.below hB2
  have hR2 := blk_below BG.res hB2
  have hBw := bcat BG.bel hB2 BG.bel.size
  clear hb1
  obtain ⟨w2, hw2⟩ : ∃ w2, w2 = w1.alloc (.cells #[.int .i64 0, .int .i64 0] 27) := ⟨_, rfl⟩
  go_wp2_with (first
    | (at_make; refine wpList_make_full _ rfl _ _ 57 rfl w2.heap.size 22 i2 (.slice none 0 0) 1 under57b hi2 hy0 hy1 _ _ _ _ n rfl rfl rfl rfl (by rw [hy2]; omega) (by unfold maxLen; omega) (by rw [hw2]; exact Nat.le_refl _) ?_))
  have hs2 : w1.heap.size + 1 = w2.heap.size := by rw [hw2]; simp
  rw [← hw2] at hB2 k0 k1 hv2 hR2 hBw ⊢
  clear hw2
  rw [hs2]
  clear hs2
  intro w3 hown hg
  have hM : Blk w3 w2.heap.size 22 (fillV n (fun _ => 0) 0) := by
    have := Blk.of_owns hown
    rw [made_rep] at this
    rw [fillV_zero]; exact this
  have hB3 : Below w2.heap.size w2 w3 := (Below.refl _ w2).grown hg (Nat.le_refl _) (by simp)
  clear hown hg
  go_wp2
  go_loopw [19] (fun i wr => ∃ (k : Nat) (gs : Nat → Nat), k ≤ n ∧ i = .int .i64 k ∧ Blk wr w2.heap.size 22 (fillV n gs k) ∧ (∀ j, j < k → w2.heap.size < gs j ∧ Blk wr (gs j) 3 ((cayR n zs j).map (Value.int .i64))) ∧ Below w2.heap.size w2 wr) (fun i _ => n - (intOf i).toNat)
  case atStart => exact ⟨0, _, Nat.zero_le _, rfl, hM, fun j hj => by omega, hB3⟩
  case round =>
    obtain ⟨k, gs, hk, rfl, hMk, hGk, hB⟩ := hrel
    have d0 := below_cell hB k0
    have d1 := below_cell hB k1
    by_cases hlt : k < n
    · have hs8 := hMk.lt
      have HGK := hide hGk
      clear hGk
      go_wp2_with (first
        | (at_make; refine wpList_make_full _ rfl _ _ 22 rfl w2.heap.size 3 i0 (.int .i64 0) 1 under22b hi hz0 hz1 _ _ _ _ n rfl rfl rfl rfl (by rw [hz2]; omega) (by unfold maxLen; omega) (by omega) ?_))
      intro w5 hown hg
      have hN5 : Blk w5 wr.heap.size 3 ((fillU n (fun x => (tm n zs x k : Int)) 0).map (Value.int .i64)) := by
        have := Blk.of_owns hown
        rw [made_rep] at this
        rw [fillU_zero, List.map_replicate]; exact this
      have hM5 := hMk.grown hg (by simp)
      have hG5 : ∀ j, j < k → w2.heap.size < gs j ∧ gs j < wr.heap.size ∧ Blk w5 (gs j) 3 ((cayR n zs j).map (Value.int .i64)) := fun j hj => ⟨(HGK.out j hj).1, (HGK.out j hj).2.lt, (HGK.out j hj).2.grown hg (by simp)⟩
      have hB5 : Below w2.heap.size w2 w5 := hB.grown hg (by omega) (by simp)
      have hc5 := hM5.cell k
      rw [fillV_get hlt, if_neg (by omega)] at hc5
      have hf5 := hM5.frozen k
      have hM6 := hM5.set k (.slice (some ⟨wr.heap.size, 0, none⟩) n n)
      rw [fillV_set hlt] at hM6
      have hN6 := hN5.other (p := ⟨w2.heap.size, k, none⟩) (by simp; omega) (.slice (some ⟨wr.heap.size, 0, none⟩) n n)
      have hG6 : ∀ j, j < k → w2.heap.size < gs j ∧ gs j < wr.heap.size ∧ Blk (w5.setCell ⟨w2.heap.size, k, none⟩ (.slice (some ⟨wr.heap.size, 0, none⟩) n n)) (gs j) 3 ((cayR n zs j).map (Value.int .i64)) := fun j hj => ⟨(hG5 j hj).1, (hG5 j hj).2.1, (hG5 j hj).2.2.other (p := ⟨w2.heap.size, k, none⟩) (by have := (hG5 j hj).1; simp; omega) _⟩
      have hB6 := hB5.setCell (p := ⟨w2.heap.size, k, none⟩) (Nat.le_refl _) (.slice (some ⟨wr.heap.size, 0, none⟩) n n)
      have hki : (k : Int) < (n : Int) := by omega
      have HG6 := hide hG6
      clear d0 d1 hown hg hM5 hN5 hG5 hB5 hG6 hMk hB HGK
      have d0 := below_cell hB6 k0
      have d1 := below_cell hB6 k1
      go_wp2
      clear hc5 hf5 d0 d1
      generalize w5.setCell ⟨w2.heap.size, k, none⟩ (.slice (some ⟨wr.heap.size, 0, none⟩) n n) = w6 at *
      generalize wr.heap.size = g at *
      go_loopw [30] (fun i wr => ∃ x : Nat, x ≤ n ∧ i = .int .i64 x ∧ Blk wr g 3 ((fillU n (fun x => (tm n zs x k : Int)) x).map (Value.int .i64)) ∧ Blk wr w2.heap.size 22 (fillV n (upd gs k g) (k + 1)) ∧ (∀ j, j < k → w2.heap.size < gs j ∧ gs j < g ∧ Blk wr (gs j) 3 ((cayR n zs j).map (Value.int .i64))) ∧ Below w2.heap.size w2 wr) (fun i _ => n - (intOf i).toNat)
      case atStart => exact ⟨0, Nat.zero_le _, rfl, hN6, hM6, HG6.out, hB6⟩
      case round =>
        obtain ⟨x, hx, rfl, hNx, hMx, hGx, hBx⟩ := hrel
        have HGX := hide hGx
        clear hGx hN6 hM6 HG6 hB6
        by_cases hltx : x < n
        · have hset := fillU_set (m := n) (f := fun x => (tm n zs x k : Int)) hltx
          have HSET := hide hset
          have hxi : (x : Int) < (n : Int) := by omega
          have gc := hMx.cell k
          rw [fillV_get hlt, if_pos (by omega), show upd gs k g k = g by simp [upd]] at gc
          have hgl := hNx.lt
          have HPx := hide (fun W hW => HP.out W x k hW hltx hlt)
          clear hset
          generalize hr9 : tm n zs x k = r9 at HPx
          have HR9 := hide hr9
          clear hr9
          have hS : ∀ W, Below wr.heap.size wr W → (Below w2.heap.size w2 W ∧ W.cell? ⟨w.heap.size, 0, none⟩ = some (.int .i64 n) ∧ W.cell? ⟨w.heap.size, 1, none⟩ = some (.slice a9 lz c9) ∧ W.cell? ⟨w2.heap.size, k, none⟩ = some (.slice (some ⟨g, 0, none⟩) n n)) := fun W h => ⟨bcat hBx h hBx.size, below_cell (bcat2 hBx h) k0, below_cell (bcat2 hBx h) k1, below_cell h gc⟩
          have hS3 : ∀ W u, Below wr.heap.size wr W → (Below w2.heap.size w2 (W.setCell ⟨g, x, none⟩ u) ∧ (W.setCell ⟨g, x, none⟩ u).cell? ⟨w.heap.size, 0, none⟩ = some (.int .i64 n) ∧ (W.setCell ⟨g, x, none⟩ u).cell? ⟨w.heap.size, 1, none⟩ = some (.slice a9 lz c9) ∧ (W.setCell ⟨g, x, none⟩ u).cell? ⟨w2.heap.size, k, none⟩ = some (.slice (some ⟨g, 0, none⟩) n n)) := fun W u h => by
            have hb := (bcat hBx h hBx.size).setCell (p := ⟨g, x, none⟩) (by simp; omega) u
            refine ⟨hb, below_cell hb k0, below_cell hb k1, ?_⟩
            rw [World.cell?_setCell_far _ _ _ _ (by simp; omega)]; exact below_cell h gc
          have hS0 := hS _ (bdrew (Below.refl _ wr))
          go_wp2_with fail
          go_region_held3 (fun W => Below w2.heap.size w2 W ∧ W.cell? ⟨w.heap.size, 0, none⟩ = some (.int .i64 n) ∧ W.cell? ⟨w.heap.size, 1, none⟩ = some (.slice a9 lz c9) ∧ W.cell? ⟨w2.heap.size, k, none⟩ = some (.slice (some ⟨g, 0, none⟩) n n))
            (first | exact hS0 | assumption | exact hS _ hl2 | exact hS3 _ _ hl2)
            (first | (go_at_call 61; refine (HPx.out _ (hv2.below (And.left ‹_›))).mono ?_; rintro e W1 ⟨rfl, hl1⟩; have hl2 := undrew hl1; have hM1 := blk_below hNx hl2; have hc1 := hM1.int (y := x) (by rw [fillU_len]; exact hltx); have hf1 := hM1.frozen x))
          have hN7 := hM1.setInt x (r9 : Int)
          rw [← HR9.out, HSET.out] at hN7
          have hM7 := (blk_below hMx hl2).other (p := ⟨g, x, none⟩) (by simp; omega) (.int .i64 (r9 : Int))
          have hG7 : ∀ j, j < k → w2.heap.size < gs j ∧ gs j < g ∧ Blk (W1.setCell ⟨g, x, none⟩ (.int .i64 (r9 : Int))) (gs j) 3 ((cayR n zs j).map (Value.int .i64)) := fun j hj => ⟨(HGX.out j hj).1, (HGX.out j hj).2.1, (blk_below (HGX.out j hj).2.2 hl2).other (p := ⟨g, x, none⟩) (by have := (HGX.out j hj).2.1; simp; omega) _⟩
          have hB7 := (bcat hBx hl2 hBx.size).setCell (p := ⟨g, x, none⟩) (by simp; omega) (.int .i64 (r9 : Int))
          rw [HR9.out] at hN7
          have HG7 := hide hG7
          clear hc1 hf1 hM1 hS hS3 hS0 gc hG7
          go_wp2
          go_roundw
          case rel => exact ⟨x + 1, by omega, by go_num, hN7, hM7, HG7.out, hB7⟩
          case measure => simp [intOf]; omega
        · have hxn : x = n := by omega
          subst hxn
          rw [fillU_all] at hNx
          go_wp2
          go_roundw
          case rel => exact ⟨k + 1, upd gs k g, by omega, by go_num, hMx, fun j hj => by
            by_cases e : j = k
            · subst e; rw [show upd gs j g j = g by simp [upd]]; exact ⟨by omega, hNx⟩
            · rw [show upd gs k g j = gs j by simp [upd, e]]
              exact ⟨(HGX.out j (by omega)).1, (HGX.out j (by omega)).2.2⟩, hBx⟩
          case measure => simp [intOf]; omega
    · have hkn : k = n := by omega
      subst hkn
      have hR9 := blk_below hR2 hB
      have hB9 := bcat hBw hB hBw.size
      obtain ⟨_, z0, z1, fz0, fz1, s0, s1⟩ := Two.mk' hR9
      clear d0 d1
      go_wp2
      exact bodyPost_ret (v := .tuple #[.slice (some ⟨w2.heap.size, 0, none⟩) k k, .agg #[.int .i64 0, .int .i64 0]]) (by simp [results, Try.results50, go_sem, z0, z1]) rfl ⟨_, rfl, SlL.of_blk hMk (fun j hj => (hGk j hj).2) hle, hB9⟩
end Go.Proofs.Ytpcgacelljbkdaa
