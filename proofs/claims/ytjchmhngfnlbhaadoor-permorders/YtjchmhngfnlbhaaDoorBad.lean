/- What perm's Shape, Text, Order and Sign answer at what is no permutation: the fault. -/
import Derived.Test.YtjchmhngfnlbhaaDoorSig
import Derived.Test.YtjchmhngfnlbhaaDoorText
namespace Go.Proofs.YtjchmhngfnlbhaaDoor
open Go Go.RowKit Go.Shelf

attribute [local go_sem] Oper.semAt_some

set_option maxRecDepth 100000 in
set_option maxHeartbeats 2000000 in
theorem shape_bad (u : Value) (zs : List Int) (w : World) (hu : Sl w u zs) (hf : (fault zs).1 ≠ 0) :
    Calls Tryd.prog 11 #[u] w fun e w' => e = .returned (.tuple #[.slice none 0 0, .agg #[.int .i64 (fault zs).1, .int .i64 (fault zs).2]]) ∧ Below w.heap.size w w' := by
  have hB0 : Below w.heap.size w (w.alloc (.cells #[.int .i64 0, .int .i64 0] 26)) := balloc w _
  have hu0 := hu.below hB0
  have T0 := Two.new w
  have hck := check_sl _ zs _ hu0
  obtain ⟨c, i, hci⟩ : ∃ c i, fault zs = (c, i) := ⟨_, _, rfl⟩
  rw [hci] at hck hf ⊢
  obtain ⟨a, cap, pb, po, rfl, hr, hp, hq3, hq4⟩ := hu
  have hbe : (c != 0) = true := by simpa using hf
  have HCK := hide hck
  clear hci hf hu0 hck
  refine (callsIn_wide (n := 9)).1 ?_
  refine callsIn_of_wp_marks Tryd.func11 rfl trivial ?_ rfl
  simp only [Tryd.ntmps11, List.size_toArray, List.length_cons, List.length_nil, Nat.reduceAdd, Nat.reduceSub, Array.replicate_succ, Array.replicate_zero, List.push_toArray, List.append_toArray, List.nil_append, List.cons_append]
  gi_wp2_with fail
  refine ⟨trivial, ?_⟩
  refine (callsIn_wide.2 HCK.out).mono ?_
  rintro e w1 ⟨rfl, hl1⟩
  have hB1 := bcat hB0 hl1 (by simp)
  have T1 := T0.below hl1
  have hs1 : w.heap.size < w1.heap.size := T1.blk.lt
  have R2 : Blk (w1.alloc (.cells #[.int .i64 c, .int .i64 i] 26)) w.heap.size 26 [.int .i64 0, .int .i64 0] := T1.blk.alloc _
  have N2 : Blk (w1.alloc (.cells #[.int .i64 c, .int .i64 i] 26)) w1.heap.size 26 [.int .i64 c, .int .i64 i] := blk0 _ _
  have hB2 := hB1.alloc hB1.size (.cells #[.int .i64 c, .int .i64 i] 26)
  obtain ⟨hc0, hc1, hf0, hf1⟩ := R2.two
  obtain ⟨hd0, hd1, hg0, hg1⟩ := N2.two
  clear hl1 hB0 T0 HCK
  gi_wp2_with fail
  generalize w1.alloc (.cells #[.int .i64 c, .int .i64 i] 26) = w2 at *
  gi_region
  gi_wp2
  have hR3 : Blk ((w2.setCell ⟨w.heap.size, 0, none⟩ (.int .i64 c)).setCell ⟨w.heap.size, 1, none⟩ (.int .i64 i)).drew w.heap.size 26 [.int .i64 c, .int .i64 i] := (R2.set 0 _).set 1 _
  have hB3 : Below w.heap.size w ((w2.setCell ⟨w.heap.size, 0, none⟩ (.int .i64 c)).setCell ⟨w.heap.size, 1, none⟩ (.int .i64 i)).drew := bdrew ((hB2.setCell (p := ⟨w.heap.size, 0, none⟩) (by simp) _).setCell (p := ⟨w.heap.size, 1, none⟩) (by simp) _)
  generalize ((w2.setCell ⟨w.heap.size, 0, none⟩ (.int .i64 c)).setCell ⟨w.heap.size, 1, none⟩ (.int .i64 i)).drew = W at hR3 hB3 ⊢
  obtain ⟨k0, k1, _, _⟩ := hR3.two
  exact ⟨.tuple #[.slice none 0 0, .agg #[.int .i64 c, .int .i64 i]], by simp [results, Tryd.results11, go_sem, k0, k1], rfl, hB3⟩

set_option maxRecDepth 100000 in
set_option maxHeartbeats 2000000 in
theorem text_bad (u : Value) (zs : List Int) (w : World) (hu : Sl w u zs) (hf : (fault zs).1 ≠ 0) :
    Calls Tryd.prog 12 #[u] w fun e w' => e = .returned (.tuple #[.string ⟨#[]⟩, .agg #[.int .i64 (fault zs).1, .int .i64 (fault zs).2]]) ∧ Below w.heap.size w w' := by
  have hB0 : Below w.heap.size w (w.alloc (.cells #[.int .i64 0, .int .i64 0] 26)) := balloc w _
  have hu0 := hu.below hB0
  have T0 := Two.new w
  have hck := check_sl _ zs _ hu0
  obtain ⟨c, i, hci⟩ : ∃ c i, fault zs = (c, i) := ⟨_, _, rfl⟩
  rw [hci] at hck hf ⊢
  obtain ⟨a, cap, pb, po, rfl, hr, hp, hq3, hq4⟩ := hu
  have hbe : (c != 0) = true := by simpa using hf
  have HCK := hide hck
  clear hci hf hu0 hck
  refine (callsIn_wide (n := 9)).1 ?_
  refine callsIn_of_wp_marks Tryd.func12 rfl trivial ?_ rfl
  simp only [Tryd.ntmps12, List.size_toArray, List.length_cons, List.length_nil, Nat.reduceAdd, Nat.reduceSub, Array.replicate_succ, Array.replicate_zero, List.push_toArray, List.append_toArray, List.nil_append, List.cons_append]
  gi_wp2_with fail
  refine ⟨trivial, ?_⟩
  refine (callsIn_wide.2 HCK.out).mono ?_
  rintro e w1 ⟨rfl, hl1⟩
  have hB1 := bcat hB0 hl1 (by simp)
  have T1 := T0.below hl1
  have hs1 : w.heap.size < w1.heap.size := T1.blk.lt
  have R2 : Blk (w1.alloc (.cells #[.int .i64 c, .int .i64 i] 26)) w.heap.size 26 [.int .i64 0, .int .i64 0] := T1.blk.alloc _
  have N2 : Blk (w1.alloc (.cells #[.int .i64 c, .int .i64 i] 26)) w1.heap.size 26 [.int .i64 c, .int .i64 i] := blk0 _ _
  have hB2 := hB1.alloc hB1.size (.cells #[.int .i64 c, .int .i64 i] 26)
  obtain ⟨hc0, hc1, hf0, hf1⟩ := R2.two
  obtain ⟨hd0, hd1, hg0, hg1⟩ := N2.two
  clear hl1 hB0 T0 HCK
  gi_wp2_with fail
  generalize w1.alloc (.cells #[.int .i64 c, .int .i64 i] 26) = w2 at *
  gi_region
  gi_wp2
  have hR3 : Blk ((w2.setCell ⟨w.heap.size, 0, none⟩ (.int .i64 c)).setCell ⟨w.heap.size, 1, none⟩ (.int .i64 i)).drew w.heap.size 26 [.int .i64 c, .int .i64 i] := (R2.set 0 _).set 1 _
  have hB3 : Below w.heap.size w ((w2.setCell ⟨w.heap.size, 0, none⟩ (.int .i64 c)).setCell ⟨w.heap.size, 1, none⟩ (.int .i64 i)).drew := bdrew ((hB2.setCell (p := ⟨w.heap.size, 0, none⟩) (by simp) _).setCell (p := ⟨w.heap.size, 1, none⟩) (by simp) _)
  generalize ((w2.setCell ⟨w.heap.size, 0, none⟩ (.int .i64 c)).setCell ⟨w.heap.size, 1, none⟩ (.int .i64 i)).drew = W at hR3 hB3 ⊢
  obtain ⟨k0, k1, _, _⟩ := hR3.two
  exact ⟨.tuple #[.string ⟨#[]⟩, .agg #[.int .i64 c, .int .i64 i]], by simp [results, Tryd.results12, go_sem, k0, k1], rfl, hB3⟩

set_option maxRecDepth 100000 in
set_option maxHeartbeats 2000000 in
theorem order_bad (u : Value) (zs : List Int) (w : World) (hu : Sl w u zs) (hf : (fault zs).1 ≠ 0) :
    Calls Tryd.prog 20 #[u] w fun e w' => e = .returned (.tuple #[.string ⟨#[]⟩, .agg #[.int .i64 (fault zs).1, .int .i64 (fault zs).2]]) ∧ Below w.heap.size w w' := by
  have hB0 : Below w.heap.size w (w.alloc (.cells #[.int .i64 0, .int .i64 0] 26)) := balloc w _
  have hu0 := hu.below hB0
  have T0 := Two.new w
  have hck := check_sl _ zs _ hu0
  obtain ⟨c, i, hci⟩ : ∃ c i, fault zs = (c, i) := ⟨_, _, rfl⟩
  rw [hci] at hck hf ⊢
  obtain ⟨a, cap, pb, po, rfl, hr, hp, hq3, hq4⟩ := hu
  have hbe : (c != 0) = true := by simpa using hf
  have HCK := hide hck
  clear hci hf hu0 hck
  refine (callsIn_wide (n := 9)).1 ?_
  refine callsIn_of_wp_marks Tryd.func20 rfl trivial ?_ rfl
  simp only [Tryd.ntmps20, List.size_toArray, List.length_cons, List.length_nil, Nat.reduceAdd, Nat.reduceSub, Array.replicate_succ, Array.replicate_zero, List.push_toArray, List.append_toArray, List.nil_append, List.cons_append]
  gi_wp2_with fail
  refine ⟨trivial, ?_⟩
  refine (callsIn_wide.2 HCK.out).mono ?_
  rintro e w1 ⟨rfl, hl1⟩
  have hB1 := bcat hB0 hl1 (by simp)
  have T1 := T0.below hl1
  have hs1 : w.heap.size < w1.heap.size := T1.blk.lt
  have R2 : Blk (w1.alloc (.cells #[.int .i64 c, .int .i64 i] 26)) w.heap.size 26 [.int .i64 0, .int .i64 0] := T1.blk.alloc _
  have N2 : Blk (w1.alloc (.cells #[.int .i64 c, .int .i64 i] 26)) w1.heap.size 26 [.int .i64 c, .int .i64 i] := blk0 _ _
  have hB2 := hB1.alloc hB1.size (.cells #[.int .i64 c, .int .i64 i] 26)
  obtain ⟨hc0, hc1, hf0, hf1⟩ := R2.two
  obtain ⟨hd0, hd1, hg0, hg1⟩ := N2.two
  clear hl1 hB0 T0 HCK
  gi_wp2_with fail
  generalize w1.alloc (.cells #[.int .i64 c, .int .i64 i] 26) = w2 at *
  gi_region
  gi_wp2
  have hR3 : Blk ((w2.setCell ⟨w.heap.size, 0, none⟩ (.int .i64 c)).setCell ⟨w.heap.size, 1, none⟩ (.int .i64 i)).drew w.heap.size 26 [.int .i64 c, .int .i64 i] := (R2.set 0 _).set 1 _
  have hB3 : Below w.heap.size w ((w2.setCell ⟨w.heap.size, 0, none⟩ (.int .i64 c)).setCell ⟨w.heap.size, 1, none⟩ (.int .i64 i)).drew := bdrew ((hB2.setCell (p := ⟨w.heap.size, 0, none⟩) (by simp) _).setCell (p := ⟨w.heap.size, 1, none⟩) (by simp) _)
  generalize ((w2.setCell ⟨w.heap.size, 0, none⟩ (.int .i64 c)).setCell ⟨w.heap.size, 1, none⟩ (.int .i64 i)).drew = W at hR3 hB3 ⊢
  obtain ⟨k0, k1, _, _⟩ := hR3.two
  exact ⟨.tuple #[.string ⟨#[]⟩, .agg #[.int .i64 c, .int .i64 i]], by simp [results, Tryd.results20, go_sem, k0, k1], rfl, hB3⟩

set_option maxRecDepth 100000 in
set_option maxHeartbeats 2000000 in
theorem sign_bad (u : Value) (zs : List Int) (w : World) (hu : Sl w u zs) (hf : (fault zs).1 ≠ 0) :
    Calls Tryd.prog 21 #[u] w fun e w' => e = .returned (.tuple #[.int .i64 0, .agg #[.int .i64 (fault zs).1, .int .i64 (fault zs).2]]) ∧ Below w.heap.size w w' := by
  have hB0 : Below w.heap.size w (w.alloc (.cells #[.int .i64 0, .int .i64 0] 26)) := balloc w _
  have hu0 := hu.below hB0
  have T0 := Two.new w
  have hck := check_sl _ zs _ hu0
  obtain ⟨c, i, hci⟩ : ∃ c i, fault zs = (c, i) := ⟨_, _, rfl⟩
  rw [hci] at hck hf ⊢
  obtain ⟨a, cap, pb, po, rfl, hr, hp, hq3, hq4⟩ := hu
  have hbe : (c != 0) = true := by simpa using hf
  have HCK := hide hck
  clear hci hf hu0 hck
  refine (callsIn_wide (n := 9)).1 ?_
  refine callsIn_of_wp_marks Tryd.func21 rfl trivial ?_ rfl
  simp only [Tryd.ntmps21, List.size_toArray, List.length_cons, List.length_nil, Nat.reduceAdd, Nat.reduceSub, Array.replicate_succ, Array.replicate_zero, List.push_toArray, List.append_toArray, List.nil_append, List.cons_append]
  gi_wp2_with fail
  refine ⟨trivial, ?_⟩
  refine (callsIn_wide.2 HCK.out).mono ?_
  rintro e w1 ⟨rfl, hl1⟩
  have hB1 := bcat hB0 hl1 (by simp)
  have T1 := T0.below hl1
  have hs1 : w.heap.size < w1.heap.size := T1.blk.lt
  have R2 : Blk (w1.alloc (.cells #[.int .i64 c, .int .i64 i] 26)) w.heap.size 26 [.int .i64 0, .int .i64 0] := T1.blk.alloc _
  have N2 : Blk (w1.alloc (.cells #[.int .i64 c, .int .i64 i] 26)) w1.heap.size 26 [.int .i64 c, .int .i64 i] := blk0 _ _
  have hB2 := hB1.alloc hB1.size (.cells #[.int .i64 c, .int .i64 i] 26)
  obtain ⟨hc0, hc1, hf0, hf1⟩ := R2.two
  obtain ⟨hd0, hd1, hg0, hg1⟩ := N2.two
  clear hl1 hB0 T0 HCK
  gi_wp2_with fail
  generalize w1.alloc (.cells #[.int .i64 c, .int .i64 i] 26) = w2 at *
  gi_region
  gi_wp2
  have hR3 : Blk ((w2.setCell ⟨w.heap.size, 0, none⟩ (.int .i64 c)).setCell ⟨w.heap.size, 1, none⟩ (.int .i64 i)).drew w.heap.size 26 [.int .i64 c, .int .i64 i] := (R2.set 0 _).set 1 _
  have hB3 : Below w.heap.size w ((w2.setCell ⟨w.heap.size, 0, none⟩ (.int .i64 c)).setCell ⟨w.heap.size, 1, none⟩ (.int .i64 i)).drew := bdrew ((hB2.setCell (p := ⟨w.heap.size, 0, none⟩) (by simp) _).setCell (p := ⟨w.heap.size, 1, none⟩) (by simp) _)
  generalize ((w2.setCell ⟨w.heap.size, 0, none⟩ (.int .i64 c)).setCell ⟨w.heap.size, 1, none⟩ (.int .i64 i)).drew = W at hR3 hB3 ⊢
  obtain ⟨k0, k1, _, _⟩ := hR3.two
  exact ⟨.tuple #[.int .i64 0, .agg #[.int .i64 c, .int .i64 i]], by simp [results, Tryd.results21, go_sem, k0, k1], rfl, hB3⟩

end Go.Proofs.YtjchmhngfnlbhaaDoor
