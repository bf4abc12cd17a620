/- What perm.Cycles answers: at a permutation of at most 1000 points its moved cycles, each in memory of its own; at all else the fault. -/
import Derived.Test.YtjchmhngfnlbhaaDoorColl
import Derived.Test.YtjchmhngfnlbhaaDoorGroupWalk
import Derived.BigRegion
namespace Go.Proofs.YtjchmhngfnlbhaaDoor
open Go Go.RowKit Go.Shelf

theorem bdrew {B : Nat} {a w : World} (h : Below B a w) : Below B a w.drew := ⟨h.os, h.tape, h.output, h.size, h.block⟩

set_option maxRecDepth 100000 in
set_option maxHeartbeats 2000000 in
theorem collect_ok (bx cap pb po : Nat) (a : Option Addr) (zs : List Int) (w : World) (hbx : Boxed w bx 22 (.slice a zs.length cap)) (hr : Reads w a pb po zs) (hp : pb < w.heap.size) (hperm : IsPerm zs) (hl : zs.length ≤ 1000) :
    Calls Tryd.prog 41 #[.func (.func 69) #[] #[.pointer (some ⟨bx, 0, none⟩)]] w fun e w' => ∃ v vs, e = .returned v ∧ w'.ownsRow w.heap.size 22 1 v (moved (cyc zs)).length vs ∧ CRows w' vs (moved (cyc zs)) ∧ Below w.heap.size w w' := by
  go_enter Tryd.func41, Tryd.ntmps41
  go_wp2_with fail
  refine (appendSeq_ok bx cap pb po a zs w hbx hr hp hperm hl).mono ?_
  rintro e w1 ⟨v, vs, rfl, h1, h2, h3⟩
  go_wp2
  go_ret
  exact ⟨v, vs, rfl, h1, h2, h3⟩

set_option maxRecDepth 100000 in
set_option maxHeartbeats 2000000 in
theorem cycles_ok (u : Value) (zs : List Int) (w : World) (hu : Sl w u zs) (hperm : IsPerm zs) (hl : zs.length ≤ 1000) :
    Calls Tryd.prog 10 #[u] w fun e w' => ∃ v vs, e = .returned (.tuple #[v, .agg #[.int .i64 0, .int .i64 0]]) ∧ w'.ownsRow w.heap.size 22 1 v (moved (cyc zs)).length vs ∧ CRows w' vs (moved (cyc zs)) ∧ Below w.heap.size w w' := by
  have hB0 : Below w.heap.size w (w.alloc (.cells #[.int .i64 0, .int .i64 0] 26)) := balloc w _
  have hu0 := hu.below hB0
  have T0 := Two.new w
  have htw := fault_of_perm hperm hl
  obtain ⟨a, cap, pb, po, rfl, hr, hp, hq3, hq4⟩ := hu
  have HL := hide hl
  have HP := hide hperm
  clear hl hperm
  go_enter Tryd.func10, Tryd.ntmps10
  go_wp2_with fail
  refine (check_sl _ zs _ hu0).mono ?_
  rintro e w1 ⟨rfl, hl1⟩
  rw [htw]
  have hB1 := bcat hB0 hl1 (by simp)
  have T1 := T0.below hl1
  have hs1 : w.heap.size < w1.heap.size := T1.blk.lt
  have HTW := hide htw
  clear hl1 hu0 hB0 htw T0
  go_wp2_with fail
  refine (callsIn_wide.1 (movedCyclesOf_in 0 _ _ _ _ _ rfl)).mono ?_
  rintro e w2 ⟨rfl, rfl⟩
  obtain ⟨w2, hw2⟩ : ∃ w2, w2 = (w1.alloc (.cells #[.int .i64 0, .int .i64 0] 26)).alloc (.cells #[.slice a zs.length cap] 22) := ⟨_, rfl⟩
  have hB2 : Below w.heap.size w w2 := by rw [hw2]; exact (hB1.alloc hB1.size _).alloc (by simp; omega) _
  have T2 : Two w2 w.heap.size := by rw [hw2]; exact (T1.alloc _).alloc _
  have hbx : Boxed w2 (w1.heap.size + 1) 22 (.slice a zs.length cap) := by
    rw [hw2]
    have := Boxed.new (w1.alloc (.cells #[.int .i64 0, .int .i64 0] 26)) 22 (.slice a zs.length cap)
    rw [World.size_alloc] at this; exact this
  have hs2 : w.heap.size < w2.heap.size := T2.blk.lt
  simp only [World.size_alloc] at hw2 ⊢
  rw [← hw2]
  clear hw2 hB1 T1
  go_wp2_with fail
  refine (collect_ok (w1.heap.size + 1) cap pb po a zs w2 hbx (hr.below hB2 hp) (by omega) HP.out HL.out).mono ?_
  rintro e w3 ⟨v, vs, rfl, ho3, hC3, hb3⟩
  have hB3 := bcat hB2 hb3 hB2.size
  have T3 := T2.below hb3
  obtain ⟨_, c0, c1, f0, f1, s0, s1⟩ := id T3
  clear hB2 hb3
  go_wp2
  exact bodyPost_ret (v := .tuple #[v, .agg #[.int .i64 0, .int .i64 0]]) (by simp [results, Tryd.results10, go_sem, c0, c1]) rfl ⟨v, vs, rfl, owns_mono ho3 (by omega), hC3, hB3⟩

set_option maxRecDepth 100000 in
set_option maxHeartbeats 2000000 in
theorem cycles_bad (u : Value) (zs : List Int) (w : World) (hu : Sl w u zs) (hf : (fault zs).1 ≠ 0) :
    Calls Tryd.prog 10 #[u] w fun e w' => e = .returned (.tuple #[.slice none 0 0, .agg #[.int .i64 (fault zs).1, .int .i64 (fault zs).2]]) ∧ Below w.heap.size w w' := by
  have hB0 : Below w.heap.size w (w.alloc (.cells #[.int .i64 0, .int .i64 0] 26)) := balloc w _
  have hu0 := hu.below hB0
  have T0 := Two.new w
  have hck := check_sl _ zs _ hu0
  obtain ⟨c, i, hci⟩ : ∃ c i, fault zs = (c, i) := ⟨_, _, rfl⟩
  rw [hci] at hck hf ⊢
  obtain ⟨a, cap, pb, po, rfl, hr, hp, hq3, hq4⟩ := hu
  have hbe : (c != 0) = true := by simpa using hf
  have HCK := hide hck
  clear hci hf hu0 hck
  go_enter Tryd.func10, Tryd.ntmps10
  go_wp2_with fail
  refine HCK.out.mono ?_
  rintro e w1 ⟨rfl, hl1⟩
  have hB1 := bcat hB0 hl1 (by simp)
  have T1 := T0.below hl1
  have hs1 : w.heap.size < w1.heap.size := T1.blk.lt
  have R2 : Blk (w1.alloc (.cells #[.int .i64 c, .int .i64 i] 26)) w.heap.size 26 [.int .i64 0, .int .i64 0] := T1.blk.alloc _
  have N2 : Blk (w1.alloc (.cells #[.int .i64 c, .int .i64 i] 26)) w1.heap.size 26 [.int .i64 c, .int .i64 i] := blk0 _ _
  have hB2 := hB1.alloc hB1.size (.cells #[.int .i64 c, .int .i64 i] 26)
  obtain ⟨hc0, hc1, hf0, hf1⟩ := R2.two
  obtain ⟨hd0, hd1, hg0, hg1⟩ := N2.two
  clear hl1 hB0 T0 HCK
  go_wp2_with fail
  generalize w1.alloc (.cells #[.int .i64 c, .int .i64 i] 26) = w2 at *
  go_region
  go_wp2
  have hR3 : Blk ((w2.setCell ⟨w.heap.size, 0, none⟩ (.int .i64 c)).setCell ⟨w.heap.size, 1, none⟩ (.int .i64 i)).drew w.heap.size 26 [.int .i64 c, .int .i64 i] := (R2.set 0 _).set 1 _
  have hB3 : Below w.heap.size w ((w2.setCell ⟨w.heap.size, 0, none⟩ (.int .i64 c)).setCell ⟨w.heap.size, 1, none⟩ (.int .i64 i)).drew := bdrew ((hB2.setCell (p := ⟨w.heap.size, 0, none⟩) (by simp) _).setCell (p := ⟨w.heap.size, 1, none⟩) (by simp) _)
  generalize ((w2.setCell ⟨w.heap.size, 0, none⟩ (.int .i64 c)).setCell ⟨w.heap.size, 1, none⟩ (.int .i64 i)).drew = W at hR3 hB3 ⊢
  obtain ⟨k0, k1, _, _⟩ := hR3.two
  exact bodyPost_ret (v := .tuple #[.slice none 0 0, .agg #[.int .i64 c, .int .i64 i]]) (by simp [results, Tryd.results10, go_sem, k0, k1]) rfl ⟨rfl, hB3⟩
end Go.Proofs.YtjchmhngfnlbhaaDoor
