/- What perm.Sign answers: the sign by cycles, or the fault. -/
import Derived.Test.YtjchmhngfnlbhaaDoorRng
import Derived.Test.YtjchmhngfnlbhaaDoorSgm
import Derived.Test.YtjchmhngfnlbhaaDoorPow
namespace Go.Proofs.YtjchmhngfnlbhaaDoor
open Go Go.RowKit Go.Shelf

attribute [local go_sem] Oper.semAt_some

set_option maxRecDepth 100000 in
set_option maxHeartbeats 4000000 in
theorem sign_ok (u : Value) (zs : List Int) (w : World) (hu : Sl w u zs) (hperm : IsPerm zs) (hl : zs.length ≤ 1000) :
    Calls Tryd.prog 21 #[u] w fun e w' => e = .returned (.tuple #[.int .i64 (sgOf (cyc zs)), .agg #[.int .i64 0, .int .i64 0]]) ∧ Below w.heap.size w w' := by
  have hB0 : Below w.heap.size w (w.alloc (.cells #[.int .i64 0, .int .i64 0] 26)) := balloc w _
  have hu0 := hu.below hB0
  have T0 := Two.new w
  have htw := fault_of_perm hperm hl
  have hck := check_sl _ zs _ hu0
  rw [htw] at hck
  have HCK := hide hck
  obtain ⟨a, cap, pb, po, rfl, hr, hp, hq3, hq4⟩ := id hu
  have HP := hide hperm
  clear hperm htw hck hu0
  refine (callsIn_wide (n := 9)).1 ?_
  refine callsIn_of_wp_marks Tryd.func21 rfl trivial ?_ rfl
  simp only [Tryd.ntmps21, List.size_toArray, List.length_cons, List.length_nil, Nat.reduceAdd, Nat.reduceSub, Array.replicate_succ, Array.replicate_zero, List.push_toArray, List.append_toArray, List.nil_append, List.cons_append]
  gi_wp2_with fail
  refine ⟨trivial, ?_⟩
  refine (callsIn_wide.2 HCK.out).mono ?_
  rintro e w1 ⟨rfl, hb1⟩
  have hB1 := bcat hB0 hb1 (by simp)
  have T1 := T0.below hb1
  have hs1 : w.heap.size < w1.heap.size := T1.blk.lt
  clear hb1 HCK hB0 T0
  gi_wp2_with fail
  refine ⟨trivial, ?_⟩
  refine (cyclesOf_in _ _ _ _ _ _ rfl).mono ?_
  rintro e w3 ⟨rfl, rfl⟩
  gi_wp2_with fail
  obtain ⟨w3, hw3⟩ : ∃ w3, w3 = ((w1.alloc (.cells #[.int .i64 0, .int .i64 0] 26)).alloc (.cells #[.int .i64 1] 3)).alloc (.cells #[.slice a zs.length cap] 22) := ⟨_, rfl⟩
  have hs3 : w3.heap.size = w1.heap.size + 3 := by rw [hw3]; simp
  have hB3 : Below w.heap.size w w3 := by rw [hw3]; exact ((hB1.alloc hB1.size _).alloc (by simp; omega) _).alloc (by simp; omega) _
  have hR3 : Blk w3 w.heap.size 26 [.int .i64 0, .int .i64 0] := by rw [hw3]; exact ((T1.blk.alloc _).alloc _).alloc _
  have hN3 : Boxed w3 (w1.heap.size + 1) 3 (.int .i64 1) := by
    rw [hw3]
    have := Boxed.new (w1.alloc (.cells #[.int .i64 0, .int .i64 0] 26)) 3 (.int .i64 1)
    rw [World.size_alloc] at this; exact this.alloc _
  have hX3 : Boxed w3 (w1.heap.size + 2) 22 (.slice a zs.length cap) := by
    rw [hw3]
    have := Boxed.new ((w1.alloc (.cells #[.int .i64 0, .int .i64 0] 26)).alloc (.cells #[.int .i64 1] 3)) 22 (.slice a zs.length cap)
    rw [World.size_alloc, World.size_alloc] at this; exact this
  have hr3 : Reads w3 a pb po zs := hr.below hB3 hp
  rw [← hw3]
  have HS3 := hide hs3
  clear hw3 hs3
  refine cyc_range (w1.heap.size + 2) cap pb po a zs
    (fun pre W => Boxed W (w1.heap.size + 1) 3 (.int .i64 (sgOf pre)) ∧ Blk W w.heap.size 26 [.int .i64 0, .int .i64 0] ∧ Below w.heap.size w W)
    (fun _ => False) (by rfl) (by decide) (by rfl) hX3 hr3 (by have := hB3.size; omega) HP.out hl ?hJ (fun _ _ h _ => h.elim) ⟨hN3, hR3, hB3⟩ ?body ?fin (fun _ h => h.elim)
  case hJ =>
    rintro pre W W' ⟨h1, h2, h3⟩ hA
    have hs := HS3.out
    refine ⟨(hA.block _ h1.lt (by omega)).trans h1, h2.of_eq (hA.block _ h2.lt (by omega)), h3.trans (hA.below (by omega) h3.size)⟩
  case body =>
    rintro pre c post W gc cap' hpc hcy ⟨hN, hR, hB⟩ hown hgc1 hgc2 _ _
    gi_wp2
    refine ⟨trivial, ?_⟩
    rintro Wb ⟨hN, hR, hB⟩ hown hgc _ _
    have hs := HS3.out
    have hsg : sgOf pre = 1 ∨ sgOf pre = -1 := by
      have : ∀ (cs : List (List Nat)) (s : Int), s = 1 ∨ s = -1 → cs.foldl (fun s c => if c.length % 2 = 0 then -s else s) s = 1 ∨ cs.foldl (fun s c => if c.length % 2 = 0 then -s else s) s = -1 := by
        intro cs
        induction cs with
        | nil => intro s hs; exact hs
        | cons c cs ih =>
          intro s hs
          rw [List.foldl_cons]
          apply ih
          split
          · rcases hs with rfl | rfl <;> simp
          · exact hs
      exact this _ 1 (.inl rfl)
    have hcN := hN.cell
    have hfN := hN.frozen
    by_cases he : c.length % 2 = 0
    · have hrem : (c.length : Int).tmod 2 = 0 := by rw [Int.tmod_eq_emod_of_nonneg (by omega)]; omega
      have hse := sgOf_even pre he
      generalize sgOf pre = s at *
      have hw : IntKind.i64.wrap (-s) = -s := by rw [IntKind.wrap_i64]; omega
      have hN2 := hN.set (.int .i64 (-s))
      have HSE := hide hse
      clear hse he
      gi_wp2
      refine ⟨⟨by rw [size_set]; omega, fun b hb => Below.heap_setCell _ _ _ b (by simp; omega)⟩, ?_, ?_, ?_⟩
      · rw [HSE.out]; exact hN2
      · exact hR.other (by simp; omega) _
      · exact hB.setCell (by simp; omega) _
    · have hrem : (c.length : Int).tmod 2 = 1 := by rw [Int.tmod_eq_emod_of_nonneg (by omega)]; omega
      have hse := sgOf_odd pre he
      rw [← hse] at hN
      gi_wp2
      refine ⟨⟨Nat.le_refl _, fun _ _ => rfl⟩, ?_⟩
      exact hse ▸ hN
  case fin =>
    rintro W ⟨hN, hR, hB⟩ hD _
    have hs := HS3.out
    have hcN := hN.cell
    obtain ⟨_, c0, c1, f0, f1, s0, s1⟩ := Two.mk' hR
    gi_wp2
    refine ⟨by simp, .inl ⟨_, _, rfl, run_takeDeferred hD, ?_⟩⟩
    have hR7 : Blk (W.putObj w3.heap.size (.deferred none)) w.heap.size 26 [.int .i64 0, .int .i64 0] := hR.of_eq (World.putObj_heap_other (by omega))
    have h70 := hR7.cell 0
    have h71 := hR7.cell 1
    exact ⟨.tuple #[.int .i64 (sgOf (cyc zs)), .agg #[.int .i64 0, .int .i64 0]], by simp [results, Tryd.results21, go_sem, h70, h71], rfl, hB.trans ⟨rfl, rfl, rfl, by simp, fun k hk => World.putObj_heap_other (by omega)⟩⟩
end Go.Proofs.YtjchmhngfnlbhaaDoor
