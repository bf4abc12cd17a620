/- What beads.Factor answers of a word: where the pieces begin into which it falls. -/
import Derived.Test.YtojnjfkonaeegaaDoorLso
namespace Go.Proofs.YtojnjfkonaeegaaDoor
open Go Go.RowKit

attribute [local go_sem] Oper.semAt_some

theorem Row.but {W W' : World} {B l : Nat} {v : Value} {zs : List Int} (h : Row W B v zs) (hb : But l W W') (hl : l < B) : Row W' B v zs := by
  refine ⟨h.1, ?_⟩
  rcases h.2 with h2 | ⟨g, cap, cur, hv, hge, hh, rest⟩
  · exact .inl h2
  · exact .inr ⟨g, cap, cur, hv, hge, (hb.block g (Array.getElem?_eq_some_iff.1 hh).1 (show ¬ g = l by omega)).trans hh, rest⟩
theorem Row.below {W W' : World} {B : Nat} {v : Value} {zs : List Int} (h : Row W B v zs) (hb : Below W.heap.size W W') : Row W' B v zs := by
  refine ⟨h.1, ?_⟩
  rcases h.2 with h2 | ⟨g, cap, cur, hv, hge, hh, rest⟩
  · exact .inl h2
  · exact .inr ⟨g, cap, cur, hv, hge, (hb.block g (Array.getElem?_eq_some_iff.1 hh).1).trans hh, rest⟩
theorem Row.set {W : World} {B : Nat} {v : Value} {zs : List Int} (h : Row W B v zs) {p : Addr} (hp : p.block < B) (u : Value) : Row (W.setCell p u) B v zs := by
  refine ⟨h.1, ?_⟩
  rcases h.2 with h2 | ⟨g, cap, cur, hv, hge, hh, rest⟩
  · exact .inl h2
  · exact .inr ⟨g, cap, cur, hv, hge, (Below.heap_setCell _ _ _ g (by omega)).trans hh, rest⟩
/-- Where the pieces begin. -/
def begins (l : List (Nat × Nat)) : List Int := l.map fun q => (q.1 : Int)

set_option maxRecDepth 100000 in
set_option maxHeartbeats 4000000 in
theorem factor_good (u : Value) (zs : List Int) (w : World) (hu : Sl w u zs) (hw : Wd zs) :
    Calls Tryd.prog 15 #[u] w fun e w' => ∃ v, e = .returned (.tuple #[v, .agg #[.int .i64 0, .int .i64 0]]) ∧ Row w' w.heap.size v (begins (fls (X zs) zs.length zs.length 0)) ∧ Below w.heap.size w w' := by
  have hB0 : Below w.heap.size w (w.alloc (.cells #[.int .i64 0, .int .i64 0] 25)) := balloc w _
  have hu0 := hu.below hB0
  have T0 := Two.new w
  have hck := check_any _ zs _ hu0
  rw [hw.code.1, hw.code.2] at hck
  have HCK := hide hck
  have HW := hide hw
  clear hw hck hu0
  obtain ⟨i3, hi3, hy0, hy1, hy2⟩ := info_parts info3b
  obtain ⟨a, cap, pb, po, rfl, hr, hp, hq3, hq4⟩ := id hu
  clear hu
  refine (callsIn_wide (n := 9)).1 ?_
  refine callsIn_of_wp_marks Tryd.func15 rfl trivial ?_ rfl
  simp only [Tryd.ntmps15, List.size_toArray, List.length_cons, List.length_nil, Nat.reduceAdd, Nat.reduceSub, Array.replicate_succ, Array.replicate_zero, List.push_toArray, List.append_toArray, List.nil_append, List.cons_append]
  gi_wp2_with fail
  refine ⟨trivial, ?_⟩
  refine (callsIn_wide.2 HCK.out).mono ?_
  rintro e w1 ⟨rfl, hb1⟩
  have hB1 := bcat hB0 hb1 (by simp)
  have T1 := T0.below hb1
  have hs1 : w.heap.size < w1.heap.size := T1.blk.lt
  clear hb1 HCK hB0 T0
  gi_wp2_with fail
  refine ⟨trivial, ?_⟩
  refine (callsIn_wide.2 (falls_ok _ _ _ _)).mono ?_
  rintro e w4 ⟨rfl, hw4⟩
  simp only [World.size_alloc] at hw4 ⊢
  have hX4 : Boxed w4 (w1.heap.size + 2) 22 (.slice a zs.length cap) := by
    rw [hw4]
    have := Boxed.new ((w1.alloc (.cells #[.int .i64 0, .int .i64 0] 25)).alloc (.cells #[.slice none 0 0] 22)) 22 (.slice a zs.length cap)
    rw [World.size_alloc, World.size_alloc] at this; exact this
  have hB4 : Below w.heap.size w w4 := by rw [hw4]; exact ((hB1.alloc hB1.size _).alloc (by simp; omega) _).alloc (by simp; omega) _
  have hR4 : Blk w4 w.heap.size 25 [.int .i64 0, .int .i64 0] := by rw [hw4]; exact ((T1.blk.alloc _).alloc _).alloc _
  have hL4 : Boxed w4 (w1.heap.size + 1) 22 (.slice none 0 0) := by
    rw [hw4]
    have := Boxed.new (w1.alloc (.cells #[.int .i64 0, .int .i64 0] 25)) 22 (.slice none 0 0)
    rw [World.size_alloc] at this; exact this.alloc _
  have hr4 : Reads w4 a pb po zs := hr.below hB4 hp
  have hs4 : w4.heap.size = w1.heap.size + 3 := by rw [hw4]; simp
  have HS4 := hide hs4
  clear hw4 hs4 hB1 T1 hr
  gi_wp2_with fail
  have hzl := HW.out.len
  refine range_it (falls_it (w1.heap.size + 2) cap a zs (by omega))
    (fun pre W => (∃ v, Boxed W (w1.heap.size + 1) 22 v ∧ Row W (w4.heap.size + 2) v (begins pre)) ∧ Blk W w.heap.size 25 [.int .i64 0, .int .i64 0] ∧ Below w.heap.size w W ∧ Boxed W (w1.heap.size + 2) 22 (.slice a zs.length cap) ∧ Reads W a pb po zs ∧ w4.heap.size ≤ W.heap.size)
    (fun _ _ _ h => h.elim) (fun _ _ h => h.elim) rfl (enters_of Tryd.func46 (by kernel_rfl) rfl) (by decide) (by rintro _ q _ _ rfl; rfl) ?hF ?hJ ?h0 ?body ?fin
  case hF =>
    rintro pre W ⟨_, _, _, h5, h6, h7⟩
    have := HS4.out
    exact ⟨h5, ⟨_, _, _, _, rfl, h6, by omega, hq3, hq4⟩⟩
  case hJ =>
    rintro pre W W' ⟨⟨v, h1, h2⟩, h3, h4, h5, h6, h7⟩ hsz hbt _
    have hs := HS4.out
    have e : ∀ b, b < w4.heap.size → W'.heap[b]? = W.heap[b]? := fun b hb => hbt.block b (by omega) (by simp; omega)
    exact ⟨⟨v, (e _ (by omega)).trans h1, h2.but (hbt.mono (by intro k hk; simpa using hk)) (by omega)⟩, h3.of_eq (e _ (by omega)), hbt.below h4 (by intro k hk; simp at hk; omega) (by omega), (e _ (by omega)).trans h5, h6.of_eq (e _ (by omega)), by have := hbt.size; omega⟩
  case h0 =>
    intro W' hb
    have := HS4.out
    exact ⟨⟨_, Boxed.below hL4 hb, nil_row _ _⟩, hR4.of_eq (hb.block _ hR4.lt), bcat hB4 hb hB4.size, Boxed.below hX4 hb, hr4.below hb (by omega), hb.size⟩
  case body =>
    rintro pre q post W _ hpq hJJ rfl hsz
    gi_wp2
    refine ⟨Below.refl _ _, ?_⟩
    rintro Wb ⟨⟨v, h1, h2⟩, h3, h4, h5, h6, h7⟩ hszb _ _
    have hfa : begins (pre ++ [q]) = begins pre ++ [(q.1 : Int)] := by simp [begins]
    have hpl : (begins pre).length ≤ 1000000 := by
      have h8 : (pre ++ q :: post).length ≤ zs.length := by rw [hpq]; exact fls_len _ _
      simp [begins] at h8 ⊢; omega
    rw [hfa]
    clear hfa hJJ hpq
    obtain ⟨q1, q2⟩ := q
    have hc1 := h1.cell
    have hf1 := h1.frozen
    have hs := HS4.out
    gi_wp2_with (first
      | (gi_at_builtin; refine wpListIn_append_own _ rfl _ _ 22 rfl (w4.heap.size + 2) 3 i3 (.int .i64 0) 1 8 under22b hi3 hy0 hy1 hy2 rfl (by decide) _ _ _ rfl (h2.alloc _) ⟨Wb.heap.size, 0, none⟩ 1 1 [.int .i64 (q1 : Int)] rfl rfl ?c1 ?c2 ?c3 ?c4 ?c5 ?_))
    case c1 => exact cell_one_new _ _ _
    case c2 => simp [Value.oneCell']
    case c3 => unfold maxLen; omega
    case c4 => omega
    case c5 => simp; omega
    intro v' w2 hown' hgrow _
    obtain ⟨g', cap', rfl⟩ := ownsRow_succ hown'
    obtain ⟨v', hv'⟩ : ∃ v', v' = Value.slice (some ⟨g', 0, none⟩) ((begins pre).length + 1) cap' := ⟨_, rfl⟩
    rw [← hv'] at hown'
    have hge := owns_ge h2
    have hsz2 : Wb.heap.size + 1 ≤ w2.heap.size := by have := hgrow.size; simpa using this
    have hk : ∀ b, b < Wb.heap.size → b < w4.heap.size + 2 → w2.heap[b]? = Wb.heap[b]? := fun b hb hb2 =>
      (hgrow.block b (by simp; omega) (fun e => by have := hge _ e.symm; omega)).trans (Below.heap_alloc _ _ _ hb)
    have hrow2 : Row w2 (w4.heap.size + 2) v' (begins pre ++ [(q1 : Int)]) := by
      unfold Row
      rw [List.length_append, List.map_append, HS4.out]; exact hown'
    have hb2 : Boxed w2 (w1.heap.size + 1) 22 v := (hk _ (by omega) (by omega)).trans h1
    have hc2 := hb2.cell
    have hf2 := hb2.frozen
    have hb3 := hb2.set v'
    have hrow3 := hrow2.set (p := ⟨w1.heap.size + 1, 0, none⟩) (by simp; omega) v'
    have hB5 : Below w.heap.size w w2 := by
      refine h4.trans ?_
      exact ⟨hgrow.os, hgrow.tape, hgrow.output, by omega, fun k hk2 => hk k (by have := h4.size; omega) (by omega)⟩
    have e : ∀ b, b < w4.heap.size + 2 → b ≠ w1.heap.size + 1 → (w2.setCell ⟨w1.heap.size + 1, 0, none⟩ v').heap[b]? = Wb.heap[b]? := fun b hb hb2 => (Below.heap_setCell _ _ _ b hb2).trans (hk b (by omega) hb)
    have HK := hide hk
    rw [hv'] at hb3 hrow3 e
    clear hk hge hown' hrow2 hgrow hb2 h2 hv'
    gi_wp2
    rw [hs] at e hrow3
    exact ⟨⟨by rw [size_set]; omega, e _ (by omega) (by omega), e _ (by omega) (by omega), fun _ h => h.elim⟩, ⟨_, hb3, hrow3⟩, h3.of_eq (e _ (by omega) (by omega)), hB5.setCell (by simp; omega) _, (e _ (by omega) (by omega)).trans h5, h6.of_eq (e _ (by omega) (by omega)), by omega⟩
  case fin =>
    rintro W ⟨⟨v, h1, h2⟩, h3, h4, h5, h6, h7⟩ hD hsz
    have hs := HS4.out
    have hcN := h1.cell
    obtain ⟨_, c0, c1, f0, f1, s0, s1⟩ := Two.mk' h3
    gi_wp2
    refine ⟨by simp, .inl ⟨_, _, rfl, run_takeDeferred hD, ?_⟩⟩
    have hR7 : Blk (W.putObj w4.heap.size (.deferred none)) w.heap.size 25 [.int .i64 0, .int .i64 0] := h3.of_eq (World.putObj_heap_other (by omega))
    have h70 := hR7.cell 0
    have h71 := hR7.cell 1
    exact ⟨.tuple #[v, .agg #[.int .i64 0, .int .i64 0]], by simp [results, Tryd.results15, go_sem, h70, h71], v, rfl, (h2.but (But.put _ _ _) (by omega)).mono (by omega), h4.trans ⟨rfl, rfl, rfl, by simp, fun k hk => World.putObj_heap_other (by omega)⟩⟩

end Go.Proofs.YtojnjfkonaeegaaDoor
