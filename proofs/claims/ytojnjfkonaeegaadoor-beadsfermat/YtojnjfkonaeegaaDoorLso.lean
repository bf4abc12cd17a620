/- What beads.Least answers of a word: where the first of the longest pieces begins, into which the word twice over falls. -/
import Derived.Test.YtojnjfkonaeegaaDoorLsb
namespace Go.Proofs.YtojnjfkonaeegaaDoor
open Go Go.RowKit

attribute [local go_sem] Oper.semAt_some

theorem falls_ok (a : Option Addr) (n cap : Nat) (w : World) :
    Calls Tryd.prog 30 #[.slice a n cap] w fun e w' => e = .returned (.func (.func 46) #[] #[.pointer (some ⟨w.heap.size, 0, none⟩)]) ∧ w' = w.alloc (.cells #[.slice a n cap] 22) := by
  go_enter Tryd.func30, Tryd.ntmps30
  go_wp2
  go_ret
  exact ⟨rfl, rfl⟩

set_option maxRecDepth 100000 in
set_option maxHeartbeats 4000000 in
theorem least_good (u : Value) (zs zz : List Int) (hzz2 : zs ++ zs = zz) (w : World) (hu : Sl w u zs) (hw : Wd zs) :
    Calls Tryd.prog 8 #[u] w fun e w' => e = .returned (.tuple #[.int .i64 ((firstLongest (fls (X zz) zz.length zz.length 0) (0, 0)).1 : Nat), .agg #[.int .i64 0, .int .i64 0]]) ∧ Below w.heap.size w w' := by
  have hB0 : Below w.heap.size w (w.alloc (.cells #[.int .i64 0, .int .i64 0] 25)) := balloc w _
  have hu0 := hu.below hB0
  have T0 := Two.new w
  have hck := check_any _ zs _ hu0
  rw [hw.code.1, hw.code.2] at hck
  have HCK := hide hck
  have HW := hide hw
  have HZ2 := hide hzz2
  clear hw hck hu0 hzz2
  obtain ⟨a, cap, pb, po, rfl, hr, hp, hq3, hq4⟩ := id hu
  have HU := hide hu
  clear hu
  refine (callsIn_wide (n := 9)).1 ?_
  refine callsIn_of_wp_marks Tryd.func8 rfl trivial ?_ rfl
  simp only [Tryd.ntmps8, List.size_toArray, List.length_cons, List.length_nil, Nat.reduceAdd, Nat.reduceSub, Array.replicate_succ, Array.replicate_zero, List.push_toArray, List.append_toArray, List.nil_append, List.cons_append]
  gi_wp2_with fail
  refine ⟨trivial, ?_⟩
  refine (callsIn_wide.2 HCK.out).mono ?_
  rintro e w1 ⟨rfl, hb1⟩
  have hB1 := bcat hB0 hb1 (by simp)
  have T1 := T0.below hb1
  have hs1 : w.heap.size < w1.heap.size := T1.blk.lt
  clear hb1 HCK hB0 T0
  gi_wp2_with fail
  refine ⟨trivial, ?_⟩
  have hu3 : Sl (((w1.alloc (.cells #[.int .i64 0, .int .i64 0] 25)).alloc (.cells #[.int .i64 0] 3)).alloc (.cells #[.int .i64 0] 3)) (.slice a zs.length cap) zs :=
    HU.out.below ((((hB1.alloc hB1.size _).alloc (by simp; omega) _).alloc (by simp; omega) _))
  have hws := SlW.two hu3 hu3
  simp only [World.size_alloc] at hws
  obtain ⟨W2, hW2⟩ : ∃ W2, W2 = ((((w1.alloc (.cells #[.int .i64 0, .int .i64 0] 25)).alloc (.cells #[.int .i64 0] 3)).alloc (.cells #[.int .i64 0] 3)).alloc (.cells #[.slice a zs.length cap, .slice a zs.length cap] 22)) := ⟨_, rfl⟩
  have hs2 : W2.heap.size = w1.heap.size + 4 := by rw [hW2]; simp
  have hB2 : Below w.heap.size w W2 := by rw [hW2]; exact (((hB1.alloc hB1.size _).alloc (by simp; omega) _).alloc (by simp; omega) _).alloc (by simp; omega) _
  have hR2 : Blk W2 w.heap.size 25 [.int .i64 0, .int .i64 0] := by rw [hW2]; exact (((T1.blk.alloc _).alloc _).alloc _).alloc _
  have hL2 : Boxed W2 (w1.heap.size + 1) 3 (.int .i64 0) := by
    rw [hW2]
    have := Boxed.new (w1.alloc (.cells #[.int .i64 0, .int .i64 0] 25)) 3 (.int .i64 0)
    rw [World.size_alloc] at this; exact (this.alloc _).alloc _
  have hG2 : Boxed W2 (w1.heap.size + 2) 3 (.int .i64 0) := by
    rw [hW2]
    have := Boxed.new ((w1.alloc (.cells #[.int .i64 0, .int .i64 0] 25)).alloc (.cells #[.int .i64 0] 3)) 3 (.int .i64 0)
    rw [World.size_alloc, World.size_alloc] at this; exact this.alloc _
  rw [← hW2] at hws ⊢
  have HS2 := hide hs2
  clear hW2 hs2 hu3 hB1 T1
  have hzl := HW.out.len
  have hfl : [zs, zs].flatten = zs ++ zs := by simp
  have hcc := concat_ok _ _ W2 hws (by rw [hfl]; simp; omega)
  rw [hfl] at hcc
  have hzz : (zs ++ zs).length = zs.length + zs.length := by simp
  rw [HZ2.out] at hcc hzz
  have HZZ := hide hzz
  have hzn : zz.length ≤ 4000 := by omega
  clear hzz hws hfl hzl
  refine (callsIn_wide.2 hcc).mono ?_
  rintro e w3 ⟨r, rfl, hrow, hb3⟩
  have hsl3 := hrow.sl (by have := hb3.size; have := HS2.out; omega)
  obtain ⟨ar, capr, pbr, por, rfl, hr3, hp3, hc3, hm3⟩ := id hsl3
  have hpr : W2.heap.size ≤ pbr := by
    have h0 := HW.out.pos
    obtain rfl := hr3.at_ (by have := HZZ.out; omega)
    exact owns_ge hrow _ rfl
  have hB3 := bcat hB2 hb3 hB2.size
  have hR3 := hR2.of_eq (hb3.block _ hR2.lt)
  have hL3 := Boxed.below hL2 hb3
  have hG3 := Boxed.below hG2 hb3
  have hs3 := hb3.size
  clear hcc hrow hb3 hB2 hR2 hL2 hG2
  gi_wp2_with fail
  refine ⟨trivial, ?_⟩
  refine (callsIn_wide.2 (falls_ok _ _ _ _)).mono ?_
  rintro e w4 ⟨rfl, hw4⟩
  have hX4 : Boxed w4 w3.heap.size 22 (.slice ar zz.length capr) := by rw [hw4]; exact Boxed.new _ _ _
  have hb4 : Below w3.heap.size w3 w4 := by rw [hw4]; exact balloc _ _
  have hB4 := bcat hB3 hb4 hB3.size
  have hR4 := hR3.of_eq (hb4.block _ hR3.lt)
  have hL4 := Boxed.below hL3 hb4
  have hG4 := Boxed.below hG3 hb4
  have hr4 := hr3.below hb4 hp3
  have hs4 : w4.heap.size = w3.heap.size + 1 := by rw [hw4]; simp
  have hlt := hL3.lt
  have hltg := hG3.lt
  clear hw4 hb4 hB3 hR3 hL3 hG3 hr3 hsl3
  gi_wp2_with fail
  refine range_it (falls_it w3.heap.size capr ar zz (by omega))
    (fun pre W => Boxed W (w1.heap.size + 1) 3 (.int .i64 ((firstLongest pre (0, 0)).1 : Nat)) ∧ Boxed W (w1.heap.size + 2) 3 (.int .i64 ((firstLongest pre (0, 0)).2 : Nat)) ∧ Blk W w.heap.size 25 [.int .i64 0, .int .i64 0] ∧ Below w.heap.size w W ∧ Boxed W w3.heap.size 22 (.slice ar zz.length capr) ∧ Reads W ar pbr por zz ∧ w4.heap.size ≤ W.heap.size)
    (fun _ _ _ h => h.elim) (fun _ _ h => h.elim) rfl (enters_of Tryd.func46 (by kernel_rfl) rfl) (by decide) (by rintro _ q _ _ rfl; rfl) ?hF ?hJ ?h0 ?body ?fin
  case hF =>
    rintro pre W ⟨_, _, _, _, h5, h6, h7⟩
    exact ⟨h5, ⟨_, _, _, _, rfl, h6, by omega, hc3, hm3⟩⟩
  case hJ =>
    rintro pre W W' ⟨h1, h2, h3, h4, h5, h6, h7⟩ hsz hbt _
    have hs := HS2.out
    have e : ∀ b, b < w4.heap.size → W'.heap[b]? = W.heap[b]? := fun b hb => hbt.block b (by omega) (by simp; omega)
    exact ⟨(e _ (by omega)).trans h1, (e _ (by omega)).trans h2, h3.of_eq (e _ (by omega)), hbt.below h4 (by intro k hk; simp at hk; omega) (by omega), (e _ (by omega)).trans h5, h6.of_eq (e _ (by omega)), by have := hbt.size; omega⟩
  case h0 =>
    intro W' hb
    exact ⟨Boxed.below hL4 hb, Boxed.below hG4 hb, hR4.of_eq (hb.block _ hR4.lt), bcat hB4 hb hB4.size, Boxed.below hX4 hb, hr4.below hb (by omega), hb.size⟩
  case body =>
    rintro pre q post W _ hpq hJJ rfl hsz
    gi_wp2
    refine ⟨Below.refl _ _, ?_⟩
    rintro Wb ⟨h1, h2, h3, h4, h5, h6, h7⟩ hszb _ _
    have hfa : firstLongest (pre ++ [q]) (0, 0) = if (firstLongest pre (0, 0)).2 < q.2 then q else firstLongest pre (0, 0) := by
      rw [firstLongest_append]; rfl
    rw [hfa]
    clear hfa hJJ hpq
    generalize firstLongest pre (0, 0) = fp at *
    obtain ⟨f1, f2⟩ := fp
    obtain ⟨q1, q2⟩ := q
    have hc1 := h1.cell
    have hc2 := h2.cell
    have hf1 := h1.frozen
    have hf2 := h2.frozen
    have hs := HS2.out
    simp only at hc1 hc2
    by_cases hc : f2 < q2
    · have hci : (f2 : Int) < (q2 : Int) := by omega
      rw [if_pos hc]
      have b1 := h1.set (.int .i64 (q1 : Int))
      have b2 : Boxed (Wb.setCell ⟨w1.heap.size + 1, 0, none⟩ (.int .i64 (q1 : Int))) (w1.heap.size + 2) 3 (.int .i64 (f2 : Int)) := h2.other (by simp) _
      have b3 := b2.set (.int .i64 (q2 : Int))
      have b4 := b1.other (B' := w1.heap.size + 2) (by simp) (.int .i64 (q2 : Int))
      gi_wp2
      have e : ∀ b, b ≠ w1.heap.size + 1 → b ≠ w1.heap.size + 2 → ((Wb.setCell ⟨w1.heap.size + 1, 0, none⟩ (.int .i64 (q1 : Int))).setCell ⟨w1.heap.size + 1 + 1, 0, none⟩ (.int .i64 (q2 : Int))).heap[b]? = Wb.heap[b]? := fun b n1 n2 =>
        (Below.heap_setCell _ _ _ b n2).trans (Below.heap_setCell _ _ _ b n1)
      exact ⟨⟨by rw [size_set, size_set]; omega, e _ (by omega) (by omega), e _ (by omega) (by omega), fun _ h => h.elim⟩, h3.of_eq (e _ (by omega) (by omega)), (h4.setCell (by simp; omega) _).setCell (by simp; omega) _, (e _ (by omega) (by omega)).trans h5, h6.of_eq (e _ (by omega) (by omega)), by omega⟩
    · have hci : ¬ (f2 : Int) < (q2 : Int) := by omega
      rw [if_neg hc]
      gi_wp2
      exact ⟨⟨Nat.le_refl _, rfl, rfl, fun _ h => h.elim⟩, by omega⟩
  case fin =>
    rintro W ⟨h1, h2, h3, h4, h5, h6, h7⟩ hD hsz
    have hs := HS2.out
    have hcN := h1.cell
    obtain ⟨_, c0, c1, f0, f1, s0, s1⟩ := Two.mk' h3
    gi_wp2
    refine ⟨by simp, .inl ⟨_, _, rfl, run_takeDeferred hD, ?_⟩⟩
    have hR7 : Blk (W.putObj w4.heap.size (.deferred none)) w.heap.size 25 [.int .i64 0, .int .i64 0] := h3.of_eq (World.putObj_heap_other (by omega))
    have h70 := hR7.cell 0
    have h71 := hR7.cell 1
    exact ⟨.tuple #[.int .i64 ((firstLongest (fls (X zz) zz.length zz.length 0) (0, 0)).1 : Nat), .agg #[.int .i64 0, .int .i64 0]], by simp [results, Tryd.results8, go_sem, h70, h71], rfl, h4.trans ⟨rfl, rfl, rfl, by simp, fun k hk => World.putObj_heap_other (by omega)⟩⟩

end Go.Proofs.YtojnjfkonaeegaaDoor
