/- What Orders of package table answers, at every table. -/
import Derived.Test.YtgphcfmiamiojaaOrd
namespace Go.Proofs.Ytgphcfmiamiojaa
open Go Go.RowKit

/-- A list that is filled up to k. -/
def fillU (m : Nat) (f : Nat → Int) (k : Nat) : List Int := (List.range m).map fun i => if i < k then f i else 0
theorem fillU_len (m : Nat) (f : Nat → Int) (k : Nat) : (fillU m f k).length = m := by simp [fillU]
theorem fillU_zero (m : Nat) (f : Nat → Int) : fillU m f 0 = List.replicate m 0 := by
  apply List.ext_getElem
  · simp [fillU]
  · intro i h1 h2; simp [fillU]
theorem fillU_set {m : Nat} {f : Nat → Int} {k : Nat} (_hk : k < m) : (fillU m f k).set k (f k) = fillU m f (k + 1) := by
  apply List.ext_getElem
  · simp [fillU]
  · intro i h1 h2
    rw [List.getElem_set]
    split
    · rename_i e; subst e; simp [fillU]
    · rename_i e
      simp only [fillU, List.getElem_map, List.getElem_range]
      by_cases h : i < k
      · rw [if_pos h, if_pos (by omega)]
      · rw [if_neg h, if_neg (by omega)]
theorem fillU_all (m : Nat) (f : Nat → Int) : fillU m f m = (List.range m).map f := by
  apply List.ext_getElem
  · simp [fillU]
  · intro i h1 h2
    have : i < m := by simpa [fillU] using h1
    simp [fillU, this]

/-- The orders of all things. -/
def ordL (n : Nat) (zs : List Int) (e : Nat) : List Int := (List.range n).map fun a => (ordN n zs e a : Int)
theorem ordL_len (n : Nat) (zs : List Int) (e : Nat) : (ordL n zs e).length = n := by simp [ordL]

set_option maxRecDepth 100000 in
set_option maxHeartbeats 4000000 in
theorem orders_ok (n e : Nat) (v : Value) (zs : List Int) (w : World) (h : IsGrp n zs e) (hv : Sl w v zs) :
    Calls Try.prog 16 #[.agg #[.int .i64 n, v]] w fun x w' => ∃ r, x = .returned (.tuple #[r, .agg #[.int .i64 0, .int .i64 0]]) ∧ Sl w' r (ordL n zs e) ∧ Below w.heap.size w w' := by
  obtain ⟨i0, hi, hz0, hz1, hz2⟩ := info_parts info3b
  obtain ⟨w0, BG⟩ := Beg.new w n v
  have hv0 := hv.below BG.bel
  obtain ⟨c0, c1, _, _⟩ := BG.box.two
  have hck := check_any n v zs w0 hv0
  rw [gfault_of_grp h] at hck
  have HCK := hide hck
  have HO := hide (fun W (hW : Sl W v zs) => oneOf_ok n v zs W h.tab hW)
  rw [h.one] at HO
  have HR := hide (fun W a (hW : Sl W v zs) ha => orderOf_ok n e a v zs W h hW ha)
  have hle := h.tab.le
  clear hck h
  rw [BG.eq] at c0 c1
  go_enter Try.func16, Try.ntmps16
  go_wp2_with fail
  rw [← BG.eq]
  refine HCK.out.mono ?_
  rintro x w1 ⟨rfl, hb1⟩
  clear c0 c1
  have hB1 := bcat2 hb1 (balloc w1 (.cells #[.int .i64 0, .int .i64 0] 29))
  obtain ⟨k0, k1, _, _⟩ := (blk_below BG.box hB1).two
  go_wp2_with fail
  refine (HO.out _ (hv0.below hB1)).mono ?_
  rintro x w2 ⟨rfl, hb2⟩
  have hB2 := bcat2 hB1 hb2
  clear k0 k1
  obtain ⟨k0, k1, _, _⟩ := (blk_below BG.box hB2).two
  have hv2 := hv0.below hB2
  have hR2 := blk_below BG.res hB2
  have hBw := bcat BG.bel hB2 BG.bel.size
  clear hb2 hB1 hb1
  go_wp2_with (first
    | (at_make; refine wpList_make_full _ rfl _ _ 24 rfl w2.heap.size 3 i0 (.int .i64 0) 1 under22b hi hz0 hz1 _ _ _ _ n rfl rfl rfl rfl (by rw [hz2]; omega) (by unfold maxLen; omega) (by simp) ?_))
  intro w3 hown hg
  have hM : Blk w3 w2.heap.size 3 ((fillU n (fun a => (ordN n zs e a : Int)) 0).map (Value.int .i64)) := by
    have := Blk.of_owns hown
    rw [made_rep] at this
    rw [fillU_zero, List.map_replicate]; exact this
  have hB3 : Below w2.heap.size w2 w3 := (Below.refl _ w2).grown hg (Nat.le_refl _) (by simp)
  clear hown hg
  go_wp2
  go_loopw [21] (fun i wr => ∃ k : Nat, k ≤ n ∧ i = .int .i64 k ∧ Blk wr w2.heap.size 3 ((fillU n (fun a => (ordN n zs e a : Int)) k).map (Value.int .i64)) ∧ Below w2.heap.size w2 wr) (fun i _ => n - (intOf i).toNat)
  case atStart => exact ⟨0, Nat.zero_le _, rfl, hM, hB3⟩
  case round =>
    obtain ⟨k, hk, rfl, hMk, hB⟩ := hrel
    have d0 := below_cell hB k0
    have d1 := below_cell hB k1
    by_cases hlt : k < n
    · go_wp2_with fail
      refine (HR.out _ k (hv2.below hB) hlt).mono ?_
      rintro x w5 ⟨rfl, hb5⟩
      have hM5 := blk_below hMk hb5
      have hB5 := bcat2 hB hb5
      have hc5 := hM5.int (y := k) (by rw [fillU_len]; exact hlt)
      have hf5 := hM5.frozen k
      have hM6 := hM5.setInt k (ordN n zs e k : Int)
      rw [fillU_set (f := fun a => (ordN n zs e a : Int)) hlt] at hM6
      have hB6 := hB5.setCell (p := ⟨w2.heap.size, k, none⟩) (Nat.le_refl _) (.int .i64 (ordN n zs e k : Int))
      have hki : (k : Int) < (n : Int) := by omega
      generalize (fillU n (fun a => (ordN n zs e a : Int)) k)[k]?.getD 0 = old at hc5
      clear d0 d1 hM5 hMk
      go_wp2
      go_roundw
      case rel => exact ⟨k + 1, by omega, by go_num, hM6, hB6⟩
      case measure => simp [intOf]; omega
    · have hkn : k = n := by omega
      subst hkn
      rw [fillU_all] at hMk
      have hR9 := blk_below hR2 hB
      have hB9 := bcat hBw hB hBw.size
      obtain ⟨_, z0, z1, fz0, fz1, s0, s1⟩ := Two.mk' hR9
      clear d0 d1
      go_wp2
      exact bodyPost_ret (v := .tuple #[.slice (some ⟨w2.heap.size, 0, none⟩) k k, .agg #[.int .i64 0, .int .i64 0]]) (by simp [results, Try.results16, go_sem, z0, z1]) rfl ⟨_, rfl, Sl.of_blk hMk (by rw [ordL_len]) (by rw [ordL_len]; omega), hB9⟩

set_option maxRecDepth 100000 in
set_option maxHeartbeats 4000000 in
theorem orders_bad (N : Int) (v : Value) (zs : List Int) (w : World) (hv : Sl w v zs) (hf : (gfault N zs).1 ≠ 0) :
    Calls Try.prog 16 #[.agg #[.int .i64 N, v]] w fun x w' => x = .returned (.tuple #[.slice none 0 0, .agg #[.int .i64 (gfault N zs).1, .int .i64 (gfault N zs).2]]) ∧ Below w.heap.size w w' := by
  obtain ⟨w0, BG⟩ := Beg.new w N v
  have hv0 := hv.below BG.bel
  obtain ⟨c0, c1, _, _⟩ := BG.box.two
  have hck := check_any N v zs w0 hv0
  obtain ⟨c, i, hci⟩ : ∃ c i, gfault N zs = (c, i) := ⟨_, _, rfl⟩
  rw [hci] at hck hf ⊢
  have HCK := hide hck
  have hc : ¬ c = 0 := hf
  have hcb : (c != 0) = true := by simpa using hc
  clear hck hci hf
  rw [BG.eq] at c0 c1
  go_enter Try.func16, Try.ntmps16
  go_wp2_with fail
  rw [← BG.eq]
  refine (HCK.out).mono ?_
  rintro x w1 ⟨rfl, hb1⟩
  clear c0 c1
  have hB1 := bcat2 hb1 (balloc w1 (.cells #[.int .i64 c, .int .i64 i] 29))
  have hR1 := blk_below BG.res hB1
  have hF1 : Blk (w1.alloc (.cells #[.int .i64 c, .int .i64 i] 29)) w1.heap.size 29 [.int .i64 c, .int .i64 i] := blk0 _ _
  have hBw := bcat BG.bel hB1 BG.bel.size
  have hs9 : w.heap.size + 1 < w1.heap.size := (blk_below BG.res hb1).lt
  obtain ⟨y0, y1, fy0, fy1⟩ := hR1.two
  obtain ⟨t0, t1, _, _⟩ := hF1.two
  go_wp2_with fail
  generalize w1.alloc (.cells #[.int .i64 c, .int .i64 i] 29) = w2 at *
  go_region
  go_wp2
  obtain ⟨hR6, hB6⟩ := put2 hR1 hBw (by omega) c i
  have hB7 := bdrew hB6
  have hR7 : Blk ((w2.setCell ⟨w.heap.size + 1, 0, none⟩ (.int .i64 c)).setCell ⟨w.heap.size + 1, 1, none⟩ (.int .i64 i)).drew (w.heap.size + 1) 29 [.int .i64 c, .int .i64 i] := hR6
  generalize ((w2.setCell ⟨w.heap.size + 1, 0, none⟩ (.int .i64 c)).setCell ⟨w.heap.size + 1, 1, none⟩ (.int .i64 i)).drew = W at hR7 hB7 ⊢
  obtain ⟨z0, z1, _, _⟩ := hR7.two
  exact bodyPost_ret (v := .tuple #[.slice none 0 0, .agg #[.int .i64 c, .int .i64 i]]) (by simp [results, Try.results16, go_sem, z0, z1]) rfl ⟨rfl, hB7⟩
end Go.Proofs.Ytgphcfmiamiojaa
