/- The document's example of package free; what the law's listAs tells. -/
import Derived.Test.YtakmfhnigpmngaaFo
namespace Go.Proofs.Ytakmfhnigpmngaa
open Go Go.RowKit

theorem ex12 (i : Nat) : ex [1, 2] i = 1 ∨ ex [1, 2] i = 2 := by
  unfold ex
  have h : i % ([1, 2] : List Int).length = 0 ∨ i % ([1, 2] : List Int).length = 1 := by simp; omega
  rcases h with h | h
  · rw [h]; exact .inl rfl
  · rw [h]; exact .inr rfl
theorem cr12 : CR [1, 2] := ⟨by decide, fun i => by
  rcases ex12 i with h | h <;> rcases ex12 (i + 1) with k | k <;> rw [h, k] <;> omega⟩
theorem prim12 : Prim [1, 2] := ⟨by decide, per_len _, fun d h1 h2 h3 => by
  have hd : d = 1 := by simp at h2; omega
  subst hd
  have := h3 0
  exact absurd this (by decide)⟩
theorem red1212 : red [1, 2, 1, 2] = [1, 2, 1, 2] := red_of_rd (cr12.pw (m := 2) (by omega)).rd
theorem root1212 {a : List Int} {k : Nat} (h : RootOf (red [1, 2, 1, 2]) a k) : k = 2 ∧ a = [1, 2] := by
  have h2 : RootOf (red ([] ++ (pw [1, 2] 2 ++ wi []))) a k := h
  obtain ⟨h3, h4⟩ := root_conj prim12 cr12 (by omega) h2
  refine ⟨h3, ?_⟩
  rw [h4]
  exact red_of_rd cr12.rd
theorem wd1212 : Wd [1, 2, 1, 2] := ⟨by simp, by
  intro x hx
  simp at hx
  rcases hx with rfl | rfl | rfl | rfl <;> rfl⟩

set_option maxRecDepth 100000 in
set_option maxHeartbeats 4000000 in
theorem freeBegun_any (w : World) :
    Calls Try.prog 11 #[] w fun e w' => e = .returned (.bool true) ∧ Below w.heap.size w w' ∧ 0 < w'.heap.size := by
  have hB0 := balloc w (.cells #[.int .i64 1, .int .i64 2, .int .i64 1, .int .i64 2] 3)
  have hL0 : Blk (w.alloc (.cells #[.int .i64 1, .int .i64 2, .int .i64 1, .int .i64 2] 3)) w.heap.size 3 (([1, 2, 1, 2] : List Int).map (Value.int .i64)) := World.alloc_heap_new w _
  have hs0 : Sl (w.alloc (.cells #[.int .i64 1, .int .i64 2, .int .i64 1, .int .i64 2] 3)) (.slice (some ⟨w.heap.size, 0, none⟩) 4 4) [1, 2, 1, 2] := Sl.of_blk hL0 rfl (by simp)
  have HR := hide (root_good_good _ _ _ hs0 wd1212 (by rw [red1212]; simp))
  have hge0 := hB0.size
  have hlt0 : w.heap.size < (w.alloc (.cells #[.int .i64 1, .int .i64 2, .int .i64 1, .int .i64 2] 3)).heap.size := hL0.lt
  clear hs0
  go_enter Try.func11, Try.ntmps11
  go_wp2_with fail
  generalize w.alloc (.cells #[.int .i64 1, .int .i64 2, .int .i64 1, .int .i64 2] 3) = w0 at *
  refine HR.out.mono ?_
  rintro x w1 ⟨⟨r, b, k, rfl, hr, hroot, _⟩, hb1⟩
  obtain ⟨rfl, rfl⟩ := root1212 hroot
  clear hroot HR hL0
  have hB1 := bcat hB0 hb1 hge0
  have hge1 := hB1.size
  have hge1' := hb1.size
  have hsr := hr.sl (show 0 < w1.heap.size by omega)
  obtain ⟨ra, rc, rfl⟩ := hr.slice
  obtain ⟨W2, hW2⟩ : ∃ W2, W2 = w1.alloc (.cells #[.int .i64 0, .int .i64 0] 26) := ⟨_, rfl⟩
  have hW2s : W2.heap.size = w1.heap.size + 1 := by rw [hW2, World.size_alloc]
  have hF2 : Blk W2 w1.heap.size 26 [.int .i64 0, .int .i64 0] := by rw [hW2]; exact blk0 _ _
  have hb2 : Below w1.heap.size w1 W2 := by rw [hW2]; exact balloc w1 _
  have hB2 := bcat hB1 hb2 hge1
  have hsr2 := hsr.below hb2
  obtain ⟨f0, f1, _, _⟩ := hF2.two
  rw [hW2] at f0
  have hL3 : Blk (W2.alloc (.cells #[.int .i64 1, .int .i64 2] 3)) W2.heap.size 3 (([1, 2] : List Int).map (Value.int .i64)) := World.alloc_heap_new W2 _
  have hs3 : Sl (W2.alloc (.cells #[.int .i64 1, .int .i64 2] 3)) (.slice (some ⟨W2.heap.size, 0, none⟩) 2 2) [1, 2] := Sl.of_blk hL3 rfl (by simp)
  have hb3 := balloc W2 (.cells #[.int .i64 1, .int .i64 2] 3)
  have HI := hide (ints_any _ _ _ _ _ (hsr2.below hb3) hs3)
  rw [hW2s, hW2] at HI
  have hB3 := bcat hB2 hb3 hB2.size
  rw [hW2] at hB3
  have hge3 := hB3.size
  clear hr hsr hW2s hF2 hB2 hsr2 hL3 hs3 hb3 hb2 f1
  go_wp2_with fail
  refine HI.out.mono ?_
  rintro x w4 ⟨rfl, hb4⟩
  have hB4 := bcat hB3 hb4 hge3
  have h04 : 0 < w4.heap.size := by have := hb4.size; simp at this; omega
  clear HI f0 hW2 hB3 hb4
  go_wp2
  go_ret
  exact ⟨rfl, hB4, h04⟩

set_option maxRecDepth 100000 in
set_option maxHeartbeats 8000000 in
theorem las_bad (k : Nat) (caps : Array Value) (c i : Int) (w : World) (hc : c ≠ 0) :
    Calls Try.prog 22 #[.slice none 0 0, .agg #[.int .i64 c, .int .i64 i], .agg #[.int .i64 c, .int .i64 i], .func (.func k) #[] caps] w fun x w' => x = .returned (.bool true) ∧ Below w.heap.size w w' := by
  have hcb : (c != 0) = true := by simpa using hc
  have hF1 : Blk ((w.alloc (.cells #[.int .i64 c, .int .i64 i] 26)).alloc (.cells #[.int .i64 c, .int .i64 i] 26)) w.heap.size 26 [.int .i64 c, .int .i64 i] := (blk0 _ _).alloc _
  have hF2 := blk0 (w := w.alloc (.cells #[.int .i64 c, .int .i64 i] 26)) (T := 26) (.int .i64 c) (.int .i64 i)
  rw [World.size_alloc] at hF2
  have hb : Below w.heap.size w ((w.alloc (.cells #[.int .i64 c, .int .i64 i] 26)).alloc (.cells #[.int .i64 c, .int .i64 i] 26)) := (balloc w _).alloc (by simp) _
  obtain ⟨f0, f1, _, _⟩ := hF1.two
  obtain ⟨g0, g1, _, _⟩ := hF2.two
  go_enter Try.func22, Try.ntmps22
  go_wp2
  go_ret
  exact ⟨rfl, hb⟩
set_option maxRecDepth 100000 in
set_option maxHeartbeats 8000000 in
theorem las_good (k : Nat) (caps : Array Value) (sv : Value) (xs ys : List Int) (w : World) (hs : Sl w sv xs)
    (hcall : ∀ W, Sem.run Try.prog (callFunc k caps) W = .ok (.enter k caps) W)
    (hk : ∀ W, Below w.heap.size w W → Calls Try.prog k caps W fun x w' => ∃ r, x = .returned r ∧ Sl w' r ys ∧ Below W.heap.size W w') :
    Calls Try.prog 22 #[sv, .agg #[.int .i64 0, .int .i64 0], .agg #[.int .i64 0, .int .i64 0], .func (.func k) #[] caps] w fun x w' => x = .returned (.bool (decide (xs = ys))) ∧ Below w.heap.size w w' := by
  have hF1 : Blk ((w.alloc (.cells #[.int .i64 0, .int .i64 0] 26)).alloc (.cells #[.int .i64 0, .int .i64 0] 26)) w.heap.size 26 [.int .i64 0, .int .i64 0] := (blk0 _ _).alloc _
  have hF2 := blk0 (w := w.alloc (.cells #[.int .i64 0, .int .i64 0] 26)) (T := 26) (.int .i64 0) (.int .i64 0)
  rw [World.size_alloc] at hF2
  have hb : Below w.heap.size w ((w.alloc (.cells #[.int .i64 0, .int .i64 0] 26)).alloc (.cells #[.int .i64 0, .int .i64 0] 26)) := (balloc w _).alloc (by simp) _
  obtain ⟨f0, f1, _, _⟩ := hF1.two
  obtain ⟨g0, g1, _, _⟩ := hF2.two
  have HK := hide hk
  clear hk
  go_enter Try.func22, Try.ntmps22
  go_wp2_with fail
  generalize (w.alloc (.cells #[.int .i64 0, .int .i64 0] 26)).alloc (.cells #[.int .i64 0, .int .i64 0] 26) = w0 at *
  refine (HK.out w0 hb).mono ?_
  rintro x w1 ⟨r, rfl, hr, hb1⟩
  go_wp2_with fail
  refine (ints_any sv r xs ys w1 (hs.below (bcat2 hb hb1)) hr).mono ?_
  rintro x w2 ⟨rfl, hb2⟩
  go_wp2
  go_ret
  exact ⟨rfl, bcat2 (bcat2 hb hb1) hb2⟩
end Go.Proofs.Ytakmfhnigpmngaa
