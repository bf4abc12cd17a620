/- What beads' necklaces and lyndon answer. -/
import Derived.Test.YtojnjfkonaeegaaDoorLyi
namespace Go.Proofs.YtojnjfkonaeegaaDoor
open Go Go.RowKit
open YtojnjfkonaeegaaDoorQ (UN plus_ok minus_ok divq_ok of_any timesPlus_any decimal_any Tab UN.below UN.mono UN.nil us owns_mono)

attribute [local go_sem] Oper.semAt_some

set_option maxRecDepth 100000 in
set_option maxHeartbeats 4000000 in
theorem necklaces_ok (n k : Nat) (w : World) (hn : n ≤ 1000) (hk0 : 0 < k) (hk : k ≤ 1000) :
    Calls Tryd.prog 66 #[.int .i64 n, .int .i64 k] w fun e w' => ∃ v, e = .returned (.agg #[v]) ∧ UN w' 0 v ((lyw k (dvs n)).sum) 5000 ∧ Below w.heap.size w w' := by
  have hB0 : Below w.heap.size w ((w.alloc (.cells #[.slice none 0 0] 60)).alloc (.cells #[.slice none 0 0] 60)) := ((Below.refl _ w).alloc (Nat.le_refl _) _).alloc (by simp) _
  have hlen : (lyw k (dvs n)).length ≤ 1000 := by
    have := dvf_len (n := n) n 1
    unfold lyw
    rw [List.length_map, ahd_len]
    exact Nat.le_trans this hn
  have HLEN := hide hlen
  clear hlen
  refine (callsIn_wide (n := 9)).1 ?_
  refine callsIn_of_wp_marks Tryd.func66 rfl trivial ?_ rfl
  simp only [Tryd.ntmps66, List.size_toArray, List.length_cons, List.length_nil, Nat.reduceAdd, Nat.reduceSub, Array.replicate_succ, Array.replicate_zero, List.push_toArray, List.append_toArray, List.nil_append, List.cons_append]
  gi_wp2_with fail
  refine ⟨trivial, ?_⟩
  refine (callsIn_wide.2 (lyndons_ok n k _)).mono ?_
  rintro e w4 ⟨rfl, hw4⟩
  simp only [World.size_alloc] at hw4 ⊢
  have hR4 : Boxed w4 w.heap.size 60 (.slice none 0 0) := by rw [hw4]; exact (((Boxed.new w 60 (.slice none 0 0)).alloc _).alloc _).alloc _
  have hS4 : Boxed w4 (w.heap.size + 1) 60 (.slice none 0 0) := by
    rw [hw4]
    have := Boxed.new (w.alloc (.cells #[.slice none 0 0] 60)) 60 (.slice none 0 0)
    rw [World.size_alloc] at this; exact (this.alloc _).alloc _
  have hN4 : Boxed w4 (w.heap.size + 2) 3 (.int .i64 n) := by
    rw [hw4]
    have := Boxed.new ((w.alloc (.cells #[.slice none 0 0] 60)).alloc (.cells #[.slice none 0 0] 60)) 3 (.int .i64 n)
    rw [World.size_alloc, World.size_alloc] at this; exact this.alloc _
  have hK4 : Boxed w4 (w.heap.size + 3) 3 (.int .i64 k) := by
    rw [hw4]
    have := Boxed.new (((w.alloc (.cells #[.slice none 0 0] 60)).alloc (.cells #[.slice none 0 0] 60)).alloc (.cells #[.int .i64 n] 3)) 3 (.int .i64 k)
    rw [World.size_alloc, World.size_alloc, World.size_alloc] at this; exact this
  have hB4 : Below w.heap.size w w4 := by rw [hw4]; exact (hB0.alloc (by simp; omega) _).alloc (by simp; omega) _
  have hs4 : w4.heap.size = w.heap.size + 4 := by rw [hw4]; simp
  have HS4 := hide hs4
  clear hw4 hs4 hB0
  gi_wp2_with fail
  refine range_it (lyndons_it (w.heap.size + 2) (w.heap.size + 3) n k hn hk0 hk)
    (fun pre W => (∃ v, Boxed W (w.heap.size + 1) 60 v ∧ UN W 0 v (pre.sum) (3001 + pre.length)) ∧ Boxed W w.heap.size 60 (.slice none 0 0) ∧ Below w.heap.size w W ∧ Boxed W (w.heap.size + 2) 3 (.int .i64 n) ∧ Boxed W (w.heap.size + 3) 3 (.int .i64 k) ∧ w4.heap.size ≤ W.heap.size)
    (fun s W b h => h.1) (fun s b h => h) rfl (enters_of Tryd.func73 (by kernel_rfl) rfl) (by decide) (by rintro _ q _ _ ⟨v, rfl, _⟩; rfl) ?hF ?hJ ?h0 ?body ?fin
  case hF =>
    rintro pre W ⟨_, _, _, h4, h5, _⟩
    exact ⟨h4, h5⟩
  case hJ =>
    rintro pre W W' ⟨⟨v, h1, h2⟩, h3, h4, h5, h6, h7⟩ hsz hbt ⟨r, hr⟩
    have hs := HS4.out
    have e : ∀ b, b < w4.heap.size → W'.heap[b]? = W.heap[b]? := fun b hb => hbt.block b (by omega) (by rintro (h | ⟨h, _⟩) <;> omega)
    refine ⟨⟨v, (e _ (by omega)).trans h1, UN.chg h2 hbt ?_⟩, (e _ (by omega)).trans h3, hbt.below h4 (by rintro b (h | ⟨h, _⟩) <;> omega) (by omega), (e _ (by omega)).trans h5, (e _ (by omega)).trans h6, by have := hbt.size; omega⟩
    rintro b ⟨c, fz, hc⟩ (h | ⟨_, h⟩)
    · rw [h, hr] at hc; cases hc
    · exact h ⟨c, fz, hc⟩
  case h0 =>
    intro W' hb
    have hs := HS4.out
    exact ⟨⟨_, Boxed.below hS4 hb, (UN.nil _ _).mono (Nat.le_refl _) (by omega)⟩, Boxed.below hR4 hb, bcat hB4 hb hB4.size, Boxed.below hN4 hb, Boxed.below hK4 hb, hb.size⟩
  case body =>
    rintro pre x post W _ hpq hJJ ⟨vx, rfl, hUx⟩ hsz
    obtain ⟨ax, mx, cx, rfl⟩ := UN.blk hUx
    have hpl : pre.length + 1 ≤ 1000 := by
      have := HLEN.out
      rw [← hpq] at this
      simp at this; omega
    clear hpq hJJ
    gi_wp2
    refine ⟨(Below.refl _ W).alloc (Nat.le_refl _) _, ?_⟩
    rintro Wb ⟨⟨v, h1, h2⟩, h3, h4, h5, h6, h7⟩ hszb hbt ⟨r, hr⟩
    have hs := HS4.out
    have hXb : Boxed Wb W.heap.size 60 (.slice ax mx cx) := (hbt.block _ (by simp) (show ¬ W.heap.size = w4.heap.size + 1 by omega)).trans (Boxed.new _ _ _)
    have hUb : UN Wb 0 (.slice ax mx cx) x 3000 := UN.but (UN.below hUx (balloc W _)) hbt ⟨r, hr⟩
    have hcx := hXb.cell
    obtain ⟨av, mv, cv, rfl⟩ := UN.blk h2
    have hcv := h1.cell
    have HP := hide (plus_ok _ _ _ _ _ _ Wb h2 hUb (by omega) (by omega))
    clear hr
    gi_wp2_with fail
    refine ⟨trivial, rfl, ?_⟩
    refine (CallsIn.inRound _ (callsIn_wide.2 HP.out)).mono ?_
    rintro e w7 ⟨v7, rfl, hU7, hb7⟩
    obtain ⟨a7, m7, c7, rfl⟩ := UN.blk hU7
    have hX7 := Boxed.below h1 hb7
    have hc7 := hX7.cell
    have hf7 := hX7.frozen
    have hX8 := hX7.set (.slice a7 m7 c7)
    have hU8 := (UN.set hU7 hX7 (by decide) (.slice a7 m7 c7)).mono (B' := 0) (k' := 3001 + (pre.length + 1)) (Nat.zero_le _) (by omega)
    have es : ∀ b, b < Wb.heap.size → b ≠ w.heap.size + 1 → (w7.setCell ⟨w.heap.size + 1, 0, none⟩ (.slice a7 m7 c7)).heap[b]? = Wb.heap[b]? := fun b hb hb2 => (Below.heap_setCell _ _ _ b hb2).trans (hb7.block b hb)
    have hB8 : Below w.heap.size w (w7.setCell ⟨w.heap.size + 1, 0, none⟩ (.slice a7 m7 c7)) := (bcat h4 hb7 h4.size).setCell (by simp) _
    have hsz8 := hb7.size
    clear hcx hcv HP hU7
    gi_wp2
    exact ⟨⟨by rw [size_set]; omega, es _ (by omega) (by omega), es _ (by omega) (by omega), fun b hb hb2 => es b hb2 (by omega)⟩, ⟨_, hX8, hU8⟩, (es _ (by omega) (by omega)).trans h3, (es _ (by omega) (by omega)).trans h5, (es _ (by omega) (by omega)).trans h6, by omega⟩
  case fin =>
    rintro W ⟨⟨v, h1, h2⟩, h3, h4, h5, h6, h7⟩ hD hsz
    have hs := HS4.out
    obtain ⟨av, mv, cv, rfl⟩ := UN.blk h2
    have hcN := h1.cell
    have hcR := h3.cell
    have hfR := h3.frozen
    have hR5 := h3.set (.slice av mv cv)
    have hU5 := UN.set h2 h3 (by decide) (.slice av mv cv)
    have hB5 := h4.setCell (p := ⟨w.heap.size, 0, none⟩) (by simp) (.slice av mv cv)
    have hD5 : (W.setCell ⟨w.heap.size, 0, none⟩ (.slice av mv cv)).heap[w4.heap.size]? = some (.deferred (some [])) := (Below.heap_setCell _ _ _ _ (by simp; omega)).trans hD
    gi_wp2
    refine ⟨by simp, .inl ⟨_, _, rfl, run_takeDeferred hD5, ?_⟩⟩
    have hR7 : Boxed ((W.setCell ⟨w.heap.size, 0, none⟩ (.slice av mv cv)).putObj w4.heap.size (.deferred none)) w.heap.size 60 (.slice av mv cv) := (World.putObj_heap_other (by omega)).trans hR5
    have h70 := hR7.cell
    have hU7 : UN ((W.setCell ⟨w.heap.size, 0, none⟩ (.slice av mv cv)).putObj w4.heap.size (.deferred none)) 0 (.slice av mv cv) ((lyw k (dvs n)).sum) (3001 + (lyw k (dvs n)).length) :=
      UN.chg hU5 (But.put _ _ _) (by rintro b ⟨c, fz, hc⟩ h; rw [h, hD5] at hc; cases hc)
    exact ⟨.agg #[.slice av mv cv], by simp [results, Tryd.results66, go_sem, h70], _, rfl, hU7.mono (Nat.le_refl _) (by have := HLEN.out; omega), hB5.trans ⟨rfl, rfl, rfl, by simp, fun k hk => World.putObj_heap_other (by omega)⟩⟩

set_option maxRecDepth 100000 in
set_option maxHeartbeats 4000000 in
theorem lyndon_ok (n k : Nat) (w : World) (hn : n ≤ 1000) (hk0 : 0 < k) (hk : k ≤ 1000) :
    Calls Tryd.prog 34 #[.int .i64 n, .int .i64 k] w fun e w' => ∃ v, e = .returned (.agg #[v]) ∧ UN w' 0 v ((lyw k (dvs n)).getLast?.getD 0) 5000 ∧ Below w.heap.size w w' := by
  have hB0 : Below w.heap.size w ((w.alloc (.cells #[.slice none 0 0] 60)).alloc (.cells #[.slice none 0 0] 60)) := ((Below.refl _ w).alloc (Nat.le_refl _) _).alloc (by simp) _
  have hlen : (lyw k (dvs n)).length ≤ 1000 := by
    have := dvf_len (n := n) n 1
    unfold lyw
    rw [List.length_map, ahd_len]
    exact Nat.le_trans this hn
  have HLEN := hide hlen
  clear hlen
  refine (callsIn_wide (n := 9)).1 ?_
  refine callsIn_of_wp_marks Tryd.func34 rfl trivial ?_ rfl
  simp only [Tryd.ntmps34, List.size_toArray, List.length_cons, List.length_nil, Nat.reduceAdd, Nat.reduceSub, Array.replicate_succ, Array.replicate_zero, List.push_toArray, List.append_toArray, List.nil_append, List.cons_append]
  gi_wp2_with fail
  refine ⟨trivial, ?_⟩
  refine (callsIn_wide.2 (lyndons_ok n k _)).mono ?_
  rintro e w4 ⟨rfl, hw4⟩
  simp only [World.size_alloc] at hw4 ⊢
  have hR4 : Boxed w4 w.heap.size 60 (.slice none 0 0) := by rw [hw4]; exact (((Boxed.new w 60 (.slice none 0 0)).alloc _).alloc _).alloc _
  have hS4 : Boxed w4 (w.heap.size + 1) 60 (.slice none 0 0) := by
    rw [hw4]
    have := Boxed.new (w.alloc (.cells #[.slice none 0 0] 60)) 60 (.slice none 0 0)
    rw [World.size_alloc] at this; exact (this.alloc _).alloc _
  have hN4 : Boxed w4 (w.heap.size + 2) 3 (.int .i64 n) := by
    rw [hw4]
    have := Boxed.new ((w.alloc (.cells #[.slice none 0 0] 60)).alloc (.cells #[.slice none 0 0] 60)) 3 (.int .i64 n)
    rw [World.size_alloc, World.size_alloc] at this; exact this.alloc _
  have hK4 : Boxed w4 (w.heap.size + 3) 3 (.int .i64 k) := by
    rw [hw4]
    have := Boxed.new (((w.alloc (.cells #[.slice none 0 0] 60)).alloc (.cells #[.slice none 0 0] 60)).alloc (.cells #[.int .i64 n] 3)) 3 (.int .i64 k)
    rw [World.size_alloc, World.size_alloc, World.size_alloc] at this; exact this
  have hB4 : Below w.heap.size w w4 := by rw [hw4]; exact (hB0.alloc (by simp; omega) _).alloc (by simp; omega) _
  have hs4 : w4.heap.size = w.heap.size + 4 := by rw [hw4]; simp
  have HS4 := hide hs4
  clear hw4 hs4 hB0
  gi_wp2_with fail
  refine range_it (lyndons_it (w.heap.size + 2) (w.heap.size + 3) n k hn hk0 hk)
    (fun pre W => (∃ v, Boxed W (w.heap.size + 1) 60 v ∧ UN W 0 v (pre.getLast?.getD 0) (3001 + pre.length)) ∧ Boxed W w.heap.size 60 (.slice none 0 0) ∧ Below w.heap.size w W ∧ Boxed W (w.heap.size + 2) 3 (.int .i64 n) ∧ Boxed W (w.heap.size + 3) 3 (.int .i64 k) ∧ w4.heap.size ≤ W.heap.size)
    (fun s W b h => h.1) (fun s b h => h) rfl (enters_of Tryd.func73 (by kernel_rfl) rfl) (by decide) (by rintro _ q _ _ ⟨v, rfl, _⟩; rfl) ?hF ?hJ ?h0 ?body ?fin
  case hF =>
    rintro pre W ⟨_, _, _, h4, h5, _⟩
    exact ⟨h4, h5⟩
  case hJ =>
    rintro pre W W' ⟨⟨v, h1, h2⟩, h3, h4, h5, h6, h7⟩ hsz hbt ⟨r, hr⟩
    have hs := HS4.out
    have e : ∀ b, b < w4.heap.size → W'.heap[b]? = W.heap[b]? := fun b hb => hbt.block b (by omega) (by rintro (h | ⟨h, _⟩) <;> omega)
    refine ⟨⟨v, (e _ (by omega)).trans h1, UN.chg h2 hbt ?_⟩, (e _ (by omega)).trans h3, hbt.below h4 (by rintro b (h | ⟨h, _⟩) <;> omega) (by omega), (e _ (by omega)).trans h5, (e _ (by omega)).trans h6, by have := hbt.size; omega⟩
    rintro b ⟨c, fz, hc⟩ (h | ⟨_, h⟩)
    · rw [h, hr] at hc; cases hc
    · exact h ⟨c, fz, hc⟩
  case h0 =>
    intro W' hb
    have hs := HS4.out
    exact ⟨⟨_, Boxed.below hS4 hb, (UN.nil _ _).mono (Nat.le_refl _) (by omega)⟩, Boxed.below hR4 hb, bcat hB4 hb hB4.size, Boxed.below hN4 hb, Boxed.below hK4 hb, hb.size⟩
  case body =>
    rintro pre x post W _ hpq hJJ ⟨vx, rfl, hUx⟩ hsz
    obtain ⟨ax, mx, cx, rfl⟩ := UN.blk hUx
    have hpl : pre.length + 1 ≤ 1000 := by
      have := HLEN.out
      rw [← hpq] at this
      simp at this; omega
    clear hpq hJJ
    gi_wp2
    refine ⟨(Below.refl _ W).alloc (Nat.le_refl _) _, ?_⟩
    rintro Wb ⟨⟨v, h1, h2⟩, h3, h4, h5, h6, h7⟩ hszb hbt ⟨r, hr⟩
    have hs := HS4.out
    have hXb : Boxed Wb W.heap.size 60 (.slice ax mx cx) := (hbt.block _ (by simp) (show ¬ W.heap.size = w4.heap.size + 1 by omega)).trans (Boxed.new _ _ _)
    have hUb : UN Wb 0 (.slice ax mx cx) x 3000 := UN.but (UN.below hUx (balloc W _)) hbt ⟨r, hr⟩
    have hcx := hXb.cell
    have hc7 := h1.cell
    have hf7 := h1.frozen
    have hX8 := h1.set (.slice ax mx cx)
    have hU8 := (UN.set hUb h1 (by decide) (.slice ax mx cx)).mono (B' := 0) (k' := 3001 + (pre ++ [x]).length) (Nat.zero_le _) (by omega)
    have hxe : (pre ++ [x]).getLast?.getD 0 = x := by simp
    replace hU8 : UN (Wb.setCell ⟨w.heap.size + 1, 0, none⟩ (.slice ax mx cx)) 0 (.slice ax mx cx) ((pre ++ [x]).getLast?.getD 0) (3001 + (pre ++ [x]).length) := by rw [hxe]; exact hU8
    have es : ∀ b, b ≠ w.heap.size + 1 → (Wb.setCell ⟨w.heap.size + 1, 0, none⟩ (.slice ax mx cx)).heap[b]? = Wb.heap[b]? := fun b hb2 => Below.heap_setCell _ _ _ b hb2
    have hB8 : Below w.heap.size w (Wb.setCell ⟨w.heap.size + 1, 0, none⟩ (.slice ax mx cx)) := h4.setCell (by simp) _
    clear hr hxe
    obtain ⟨pz, hpz⟩ : ∃ pz, pre ++ [x] = pz := ⟨_, rfl⟩
    rw [hpz] at hU8 ⊢
    clear hpz
    gi_wp2
    exact ⟨⟨by rw [size_set]; omega, es _ (by omega), es _ (by omega), fun b hb hb2 => es b (by omega)⟩, ⟨_, hX8, hU8⟩, (es _ (by omega)).trans h3, (es _ (by omega)).trans h5, (es _ (by omega)).trans h6, by omega⟩
  case fin =>
    rintro W ⟨⟨v, h1, h2⟩, h3, h4, h5, h6, h7⟩ hD hsz
    have hs := HS4.out
    obtain ⟨av, mv, cv, rfl⟩ := UN.blk h2
    have hcN := h1.cell
    have hcR := h3.cell
    have hfR := h3.frozen
    have hR5 := h3.set (.slice av mv cv)
    have hU5 := UN.set h2 h3 (by decide) (.slice av mv cv)
    have hB5 := h4.setCell (p := ⟨w.heap.size, 0, none⟩) (by simp) (.slice av mv cv)
    have hD5 : (W.setCell ⟨w.heap.size, 0, none⟩ (.slice av mv cv)).heap[w4.heap.size]? = some (.deferred (some [])) := (Below.heap_setCell _ _ _ _ (by simp; omega)).trans hD
    gi_wp2
    refine ⟨by simp, .inl ⟨_, _, rfl, run_takeDeferred hD5, ?_⟩⟩
    have hR7 : Boxed ((W.setCell ⟨w.heap.size, 0, none⟩ (.slice av mv cv)).putObj w4.heap.size (.deferred none)) w.heap.size 60 (.slice av mv cv) := (World.putObj_heap_other (by omega)).trans hR5
    have h70 := hR7.cell
    have hU7 : UN ((W.setCell ⟨w.heap.size, 0, none⟩ (.slice av mv cv)).putObj w4.heap.size (.deferred none)) 0 (.slice av mv cv) ((lyw k (dvs n)).getLast?.getD 0) (3001 + (lyw k (dvs n)).length) :=
      UN.chg hU5 (But.put _ _ _) (by rintro b ⟨c, fz, hc⟩ h; rw [h, hD5] at hc; cases hc)
    exact ⟨.agg #[.slice av mv cv], by simp [results, Tryd.results34, go_sem, h70], _, rfl, hU7.mono (Nat.le_refl _) (by have := HLEN.out; omega), hB5.trans ⟨rfl, rfl, rfl, by simp, fun k hk => World.putObj_heap_other (by omega)⟩⟩

end Go.Proofs.YtojnjfkonaeegaaDoor
