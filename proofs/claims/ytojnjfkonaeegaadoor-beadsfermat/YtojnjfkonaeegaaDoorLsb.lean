/- What beads.Least and beads.Factor answer. -/
import Derived.Test.YtojnjfkonaeegaaDoorFal
import Derived.Test.YtojnjfkonaeegaaDoorFch
import Derived.Test.YtojnjfkonaeegaaDoorFk
namespace Go.Proofs.YtojnjfkonaeegaaDoor
open Go Go.RowKit

attribute [local go_sem] Oper.semAt_some

set_option maxRecDepth 100000 in
set_option maxHeartbeats 2000000 in
theorem least_bad (u : Value) (zs : List Int) (w : World) (hu : Sl w u zs) (hf : wfc zs ≠ 0) :
    Calls Tryd.prog 8 #[u] w fun e w' => e = .returned (.tuple #[.int .i64 0, .agg #[.int .i64 (wfc zs), .int .i64 (wfa zs)]]) ∧ Below w.heap.size w w' := by
  have hB0 : Below w.heap.size w (w.alloc (.cells #[.int .i64 0, .int .i64 0] 25)) := balloc w _
  have hu0 := hu.below hB0
  have T0 := Two.new w
  have hck := check_any _ zs _ hu0
  obtain ⟨c, hci⟩ : ∃ c, wfc zs = c := ⟨_, rfl⟩
  obtain ⟨i, hcj⟩ : ∃ i, wfa zs = i := ⟨_, rfl⟩
  rw [hci, hcj] at hck
  rw [hci] at hf
  rw [hci, hcj]
  obtain ⟨a, cap, pb, po, rfl, hr, hp, hq3, hq4⟩ := hu
  have hbe : (c != 0) = true := by simpa using hf
  have HCK := hide hck
  clear hci hcj hf hu0 hck
  refine (callsIn_wide (n := 9)).1 ?_
  refine callsIn_of_wp_marks Tryd.func8 rfl trivial ?_ rfl
  simp only [Tryd.ntmps8, List.size_toArray, List.length_cons, List.length_nil, Nat.reduceAdd, Nat.reduceSub, Array.replicate_succ, Array.replicate_zero, List.push_toArray, List.append_toArray, List.nil_append, List.cons_append]
  gi_wp2_with fail
  refine ⟨trivial, ?_⟩
  refine (callsIn_wide.2 HCK.out).mono ?_
  rintro e w1 ⟨rfl, hl1⟩
  have hB1 := bcat hB0 hl1 (by simp)
  have T1 := T0.below hl1
  have hs1 : w.heap.size < w1.heap.size := T1.blk.lt
  have R2 : Blk (w1.alloc (.cells #[.int .i64 c, .int .i64 i] 25)) w.heap.size 25 [.int .i64 0, .int .i64 0] := T1.blk.alloc _
  have N2 : Blk (w1.alloc (.cells #[.int .i64 c, .int .i64 i] 25)) w1.heap.size 25 [.int .i64 c, .int .i64 i] := blk0 _ _
  have hB2 := hB1.alloc hB1.size (.cells #[.int .i64 c, .int .i64 i] 25)
  obtain ⟨hc0, hc1, hf0, hf1⟩ := R2.two
  obtain ⟨hd0, hd1, hg0, hg1⟩ := N2.two
  clear hl1 hB0 T0 HCK
  gi_wp2_with fail
  generalize w1.alloc (.cells #[.int .i64 c, .int .i64 i] 25) = w2 at *
  gi_region
  gi_wp2
  have hR3 : Blk ((w2.setCell ⟨w.heap.size, 0, none⟩ (.int .i64 c)).setCell ⟨w.heap.size, 1, none⟩ (.int .i64 i)).drew w.heap.size 25 [.int .i64 c, .int .i64 i] := (R2.set 0 _).set 1 _
  have hB3 : Below w.heap.size w ((w2.setCell ⟨w.heap.size, 0, none⟩ (.int .i64 c)).setCell ⟨w.heap.size, 1, none⟩ (.int .i64 i)).drew := bdrew ((hB2.setCell (p := ⟨w.heap.size, 0, none⟩) (by simp) _).setCell (p := ⟨w.heap.size, 1, none⟩) (by simp) _)
  generalize ((w2.setCell ⟨w.heap.size, 0, none⟩ (.int .i64 c)).setCell ⟨w.heap.size, 1, none⟩ (.int .i64 i)).drew = W at hR3 hB3 ⊢
  obtain ⟨k0, k1, _, _⟩ := hR3.two
  exact ⟨.tuple #[.int .i64 0, .agg #[.int .i64 c, .int .i64 i]], by simp [results, Tryd.results8, go_sem, k0, k1], rfl, hB3⟩

set_option maxRecDepth 100000 in
set_option maxHeartbeats 2000000 in
theorem factor_bad (u : Value) (zs : List Int) (w : World) (hu : Sl w u zs) (hf : wfc zs ≠ 0) :
    Calls Tryd.prog 15 #[u] w fun e w' => e = .returned (.tuple #[.slice none 0 0, .agg #[.int .i64 (wfc zs), .int .i64 (wfa zs)]]) ∧ Below w.heap.size w w' := by
  have hB0 : Below w.heap.size w (w.alloc (.cells #[.int .i64 0, .int .i64 0] 25)) := balloc w _
  have hu0 := hu.below hB0
  have T0 := Two.new w
  have hck := check_any _ zs _ hu0
  obtain ⟨c, hci⟩ : ∃ c, wfc zs = c := ⟨_, rfl⟩
  obtain ⟨i, hcj⟩ : ∃ i, wfa zs = i := ⟨_, rfl⟩
  rw [hci, hcj] at hck
  rw [hci] at hf
  rw [hci, hcj]
  obtain ⟨a, cap, pb, po, rfl, hr, hp, hq3, hq4⟩ := hu
  have hbe : (c != 0) = true := by simpa using hf
  have HCK := hide hck
  clear hci hcj hf hu0 hck
  refine (callsIn_wide (n := 9)).1 ?_
  refine callsIn_of_wp_marks Tryd.func15 rfl trivial ?_ rfl
  simp only [Tryd.ntmps15, List.size_toArray, List.length_cons, List.length_nil, Nat.reduceAdd, Nat.reduceSub, Array.replicate_succ, Array.replicate_zero, List.push_toArray, List.append_toArray, List.nil_append, List.cons_append]
  gi_wp2_with fail
  refine ⟨trivial, ?_⟩
  refine (callsIn_wide.2 HCK.out).mono ?_
  rintro e w1 ⟨rfl, hl1⟩
  have hB1 := bcat hB0 hl1 (by simp)
  have T1 := T0.below hl1
  have hs1 : w.heap.size < w1.heap.size := T1.blk.lt
  have R2 : Blk (w1.alloc (.cells #[.int .i64 c, .int .i64 i] 25)) w.heap.size 25 [.int .i64 0, .int .i64 0] := T1.blk.alloc _
  have N2 : Blk (w1.alloc (.cells #[.int .i64 c, .int .i64 i] 25)) w1.heap.size 25 [.int .i64 c, .int .i64 i] := blk0 _ _
  have hB2 := hB1.alloc hB1.size (.cells #[.int .i64 c, .int .i64 i] 25)
  obtain ⟨hc0, hc1, hf0, hf1⟩ := R2.two
  obtain ⟨hd0, hd1, hg0, hg1⟩ := N2.two
  clear hl1 hB0 T0 HCK
  gi_wp2_with fail
  generalize w1.alloc (.cells #[.int .i64 c, .int .i64 i] 25) = w2 at *
  gi_region
  gi_wp2
  have hR3 : Blk ((w2.setCell ⟨w.heap.size, 0, none⟩ (.int .i64 c)).setCell ⟨w.heap.size, 1, none⟩ (.int .i64 i)).drew w.heap.size 25 [.int .i64 c, .int .i64 i] := (R2.set 0 _).set 1 _
  have hB3 : Below w.heap.size w ((w2.setCell ⟨w.heap.size, 0, none⟩ (.int .i64 c)).setCell ⟨w.heap.size, 1, none⟩ (.int .i64 i)).drew := bdrew ((hB2.setCell (p := ⟨w.heap.size, 0, none⟩) (by simp) _).setCell (p := ⟨w.heap.size, 1, none⟩) (by simp) _)
  generalize ((w2.setCell ⟨w.heap.size, 0, none⟩ (.int .i64 c)).setCell ⟨w.heap.size, 1, none⟩ (.int .i64 i)).drew = W at hR3 hB3 ⊢
  obtain ⟨k0, k1, _, _⟩ := hR3.two
  exact ⟨.tuple #[.slice none 0 0, .agg #[.int .i64 c, .int .i64 i]], by simp [results, Tryd.results15, go_sem, k0, k1], rfl, hB3⟩

end Go.Proofs.YtojnjfkonaeegaaDoor
