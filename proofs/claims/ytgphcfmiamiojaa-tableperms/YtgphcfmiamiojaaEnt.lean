/- What checkEntries and oneOf answer, and the closures that they hand over. -/
import Derived.Test.YtgphcfmiamiojaaProd
namespace Go.Proofs.Ytgphcfmiamiojaa
open Go Go.RowKit

theorem retB {x y : Bool} (h : x = y) : Ending.returned (.bool x) = Ending.returned (.bool y) := by rw [h]
theorem retI {x y : Int} (h : x = y) : Ending.returned (.int .i64 x) = Ending.returned (.int .i64 y) := by rw [h]
theorem bneN (x y : Nat) : ((x : Int) != (y : Int)) = (x != y) := by
  rw [Bool.eq_iff_iff]; simp; omega
theorem beqN (x y : Nat) : ((x : Int) == (y : Int)) = (x == y) := by
  rw [Bool.eq_iff_iff]; simp; omega

set_option maxRecDepth 100000 in
set_option maxHeartbeats 2000000 in
theorem entry_ok (b i : Nat) (N : Int) (v : Value) (zs : List Int) (w : World) (hg : BoxG w b N v) (hv : Sl w v zs) (hi : i < zs.length) :
    Calls Try.prog 52 #[.int .i64 i, .pointer (some ⟨b, 0, none⟩)] w fun e w' => e = .returned (.bool (decide (zs[i]?.getD 0 < 0 ∨ N ≤ zs[i]?.getD 0))) ∧ Below w.heap.size w w' := by
  obtain ⟨x, cap, pb, po, rfl, hr, hp, hq3, hq4⟩ := hv
  obtain rfl := hr.at_ (by omega)
  have hc := hr.cell i hi
  obtain ⟨c0, c1, _, _⟩ := hg.two
  have hii : (i : Int) < (zs.length : Int) := by omega
  generalize zs[i]?.getD 0 = y at *
  have hS : ∀ W, Below w.heap.size w W → (Below w.heap.size w W ∧ W.cell? ⟨b, 0, none⟩ = some (.int .i64 N) ∧ W.cell? ⟨b, 1, none⟩ = some (.slice (some ⟨pb, po, none⟩) zs.length cap) ∧ W.cell? ⟨pb, po + i, none⟩ = some (.int .i64 y)) :=
    fun W h => ⟨h, below_cell h c0, below_cell h c1, below_cell h hc⟩
  have hS0 := hS _ (bdrew (Below.refl _ w))
  unfold maxLen at hq4
  go_enter Try.func52, Try.ntmps52
  go_wp2_with fail
  go_region_held3 (fun W => Below w.heap.size w W ∧ W.cell? ⟨b, 0, none⟩ = some (.int .i64 N) ∧ W.cell? ⟨b, 1, none⟩ = some (.slice (some ⟨pb, po, none⟩) zs.length cap) ∧ W.cell? ⟨pb, po + i, none⟩ = some (.int .i64 y))
    (first | exact hS0 | assumption | exact hS _ (bcat2 (And.left ‹_›) hl1))
    (first
      | (go_at_call 53; refine (isThing_any N y _ _).mono ?_; rintro e W1 ⟨rfl, hl1⟩))
  obtain ⟨hB, _⟩ := ‹Below w.heap.size w W1 ∧ _›
  go_wp2
  go_ret
  exact ⟨retB (by rw [Bool.eq_iff_iff]; simp), hB⟩

set_option maxRecDepth 100000 in
set_option maxHeartbeats 2000000 in
theorem oneIn_ok (b b2 a e n : Nat) (v : Value) (zs : List Int) (w : World) (ht : IsTab n zs) (hg : BoxG w b n v) (hv : Sl w v zs) (h2 : Boxed w b2 3 (.int .i64 e)) (ha : a < n) (he : e < n) :
    Calls Try.prog 46 #[.int .i64 a, .pointer (some ⟨b, 0, none⟩), .pointer (some ⟨b2, 0, none⟩)] w fun x w' => x = .returned (.bool (tm n zs e a != a || tm n zs a e != a)) ∧ Below w.heap.size w w' := by
  obtain ⟨c0, c1, _, _⟩ := hg.two
  have c2 := h2.cell
  have HT := hide ht
  go_enter Try.func46, Try.ntmps46
  go_wp2_with fail
  refine (product_ok n v zs e a w HT.out hv he ha).mono ?_
  rintro x w1 ⟨rfl, hb1⟩
  by_cases h : tm n zs e a = a
  · have hne : ((tm n zs e a : Int) != (a : Int)) = false := by simp [h]
    have d0 := below_cell hb1 c0
    have d1 := below_cell hb1 c1
    have d2 := below_cell hb1 c2
    have HH := hide h
    clear h
    go_wp2_with fail
    refine (product_ok n v zs a e w1 HT.out (hv.below hb1) ha he).mono ?_
    rintro x w2 ⟨rfl, hb2⟩
    have hB := bcat2 hb1 hb2
    go_wp2
    go_ret
    exact ⟨retB (by rw [bneN, bne_eq_false_iff_eq.2 HH.out, Bool.false_or]), hB⟩
  · have hne : ((tm n zs e a : Int) != (a : Int)) = true := by simp; omega
    go_wp2
    go_ret
    exact ⟨retB (by rw [show (tm n zs e a != a) = true by simpa using h]; rfl), hb1⟩

theorem call81 (a : Int) (x y : Value) (W : World) : Sem.run Try.prog (callFunc 46 (#[.int .i64 a] ++ #[x, y])) W = .ok (.enter 46 (#[.int .i64 a] ++ #[x, y])) W := by kernel_rfl
theorem call80 (a : Int) (x : Value) (W : World) : Sem.run Try.prog (callFunc 45 (#[.int .i64 a] ++ #[x])) W = .ok (.enter 45 (#[.int .i64 a] ++ #[x])) W := by kernel_rfl
theorem call78 (a : Int) (x : Value) (W : World) : Sem.run Try.prog (callFunc 52 (#[.int .i64 a] ++ #[x])) W = .ok (.enter 52 (#[.int .i64 a] ++ #[x])) W := by kernel_rfl

set_option maxRecDepth 100000 in
set_option maxHeartbeats 2000000 in
theorem oneAt_ok (b e n : Nat) (v : Value) (zs : List Int) (w : World) (ht : IsTab n zs) (hg : BoxG w b n v) (hv : Sl w v zs) (he : e < n) :
    Calls Try.prog 45 #[.int .i64 e, .pointer (some ⟨b, 0, none⟩)] w fun x w' => x = .returned (.bool (oneB n zs e)) ∧ Below w.heap.size w w' := by
  have hB0 : Below w.heap.size w (w.alloc (.cells #[.int .i64 e] 3)) := balloc w _
  have h2 : Boxed (w.alloc (.cells #[.int .i64 e] 3)) w.heap.size 3 (.int .i64 e) := Boxed.new w 3 _
  have hg0 := blk_below hg hB0
  have hv0 := hv.below hB0
  obtain ⟨c0, c1, _, _⟩ := hg0.two
  have hle := ht.le
  have hc := least_any n 46 #[.pointer (some ⟨b, 0, none⟩), .pointer (some ⟨w.heap.size, 0, none⟩)] (fun a => tm n zs e a != a || tm n zs a e != a) (w.alloc (.cells #[.int .i64 e] 3)) (by omega) (fun a W => call81 a _ _ W)
    (fun W a hW ha => oneIn_ok b w.heap.size a e n v zs W ht (blk_below hg0 hW) (hv0.below hW) (Boxed.below h2 hW) ha he)
  have HC := hide hc
  have HT := hide ht
  clear hc ht
  go_enter Try.func45, Try.ntmps45
  go_wp2_with fail
  refine HC.out.mono ?_
  rintro x w1 ⟨rfl, hb1⟩
  have hB := bcat2 hB0 hb1
  go_wp2
  go_ret
  exact ⟨retB (by unfold oneB; rw [Bool.eq_iff_iff]; simp), hB⟩

set_option maxRecDepth 100000 in
set_option maxHeartbeats 2000000 in
theorem oneOf_ok (n : Nat) (v : Value) (zs : List Int) (w : World) (ht : IsTab n zs) (hv : Sl w v zs) :
    Calls Try.prog 29 #[.agg #[.int .i64 n, v]] w fun x w' => x = .returned (.int .i64 (one n zs)) ∧ Below w.heap.size w w' := by
  have hB0 : Below w.heap.size w (w.alloc (.cells #[.int .i64 n, v] 27)) := balloc w _
  have hg0 : BoxG (w.alloc (.cells #[.int .i64 n, v] 27)) w.heap.size n v := blk0 _ _
  have hv0 := hv.below hB0
  obtain ⟨c0, c1, _, _⟩ := hg0.two
  have hle := ht.le
  have hc := least_any n 45 #[.pointer (some ⟨w.heap.size, 0, none⟩)] (oneB n zs) (w.alloc (.cells #[.int .i64 n, v] 27)) (by omega) (fun a W => call80 a _ W)
    (fun W a hW ha => oneAt_ok w.heap.size a n v zs W ht (blk_below hg0 hW) (hv0.below hW) ha)
  have HC := hide hc
  clear hc ht
  go_enter Try.func29, Try.ntmps29
  go_wp2_with fail
  refine HC.out.mono ?_
  rintro x w1 ⟨rfl, hb1⟩
  have hB := bcat2 hB0 hb1
  go_wp2
  go_ret
  exact ⟨retI rfl, hB⟩

set_option maxRecDepth 100000 in
set_option maxHeartbeats 2000000 in
theorem checkEntries_any (N : Int) (v : Value) (zs : List Int) (w : World) (hv : Sl w v zs) :
    Calls Try.prog 39 #[.agg #[.int .i64 N, v]] w fun x w' => x = .returned (.agg #[.int .i64 (efault N zs).1, .int .i64 (efault N zs).2]) ∧ Below w.heap.size w w' := by
  have hB0 : Below w.heap.size w ((w.alloc (.cells #[.int .i64 N, v] 27)).alloc (.cells #[.int .i64 0, .int .i64 0] 29)) := (balloc w _).alloc (by simp) _
  have hg0 : BoxG ((w.alloc (.cells #[.int .i64 N, v] 27)).alloc (.cells #[.int .i64 0, .int .i64 0] 29)) w.heap.size N v := (blk0 _ _).alloc _
  have hR0 : Blk ((w.alloc (.cells #[.int .i64 N, v] 27)).alloc (.cells #[.int .i64 0, .int .i64 0] 29)) (w.heap.size + 1) 29 [.int .i64 0, .int .i64 0] := by
    have := Two.new (w.alloc (.cells #[.int .i64 N, v] 27))
    rw [World.size_alloc] at this; exact this.blk
  have hv0 := hv.below hB0
  obtain ⟨c0, c1, _, _⟩ := hg0.two
  obtain ⟨x, cap, pb, po, rfl, hr, hp, hq3, hq4⟩ := id hv
  unfold maxLen at hq4
  by_cases h1 : N < 1
  · have hf : efault N zs = (2, 0) := by unfold efault; rw [if_pos (.inl h1)]
    rw [hf]
    clear hf
    go_enter Try.func39, Try.ntmps39
    go_wp2
    exact bodyPost_ret (v := .agg #[.int .i64 2, .int .i64 0]) (by simp [results, Try.results39, go_sem]) rfl ⟨rfl, (balloc w _).alloc (by simp) _⟩
  · by_cases h2 : 60 < N
    · have hf : efault N zs = (2, 0) := by unfold efault; rw [if_pos (.inr h2)]
      rw [hf]
      clear hf
      go_enter Try.func39, Try.ntmps39
      go_wp2
      exact bodyPost_ret (v := .agg #[.int .i64 2, .int .i64 0]) (by simp [results, Try.results39, go_sem]) rfl ⟨rfl, (balloc w _).alloc (by simp) _⟩
    · obtain ⟨n, rfl⟩ : ∃ n : Nat, N = n := ⟨N.toNat, by omega⟩
      have hn1 : 1 ≤ n := by omega
      have hn2 : n ≤ 60 := by omega
      have hnn : n * n ≤ 60 * 60 := Nat.mul_le_mul hn2 hn2
      have hm : (n : Int) * (n : Int) = ((n * n : Nat) : Int) := by rw [Int.natCast_mul]
      by_cases h3 : zs.length = n * n
      · have hfe : efault n zs = if least zs.length (fun i => decide (zs[i]?.getD 0 < 0 ∨ (n : Int) ≤ zs[i]?.getD 0)) ≠ -1 then (3, least zs.length (fun i => decide (zs[i]?.getD 0 < 0 ∨ (n : Int) ≤ zs[i]?.getD 0))) else (0, 0) := by
          unfold efault
          rw [if_neg (by omega), if_neg (by rw [hm]; omega)]
        have hc := least_any zs.length 52 #[.pointer (some ⟨w.heap.size, 0, none⟩)] (fun i => decide (zs[i]?.getD 0 < 0 ∨ (n : Int) ≤ zs[i]?.getD 0)) _ (by omega) (fun a W => call78 a _ W)
          (fun W a hW ha => entry_ok w.heap.size a n _ zs W (blk_below hg0 hW) (hv0.below hW) ha)
        rw [hfe]
        generalize least zs.length (fun i => decide (zs[i]?.getD 0 < 0 ∨ (n : Int) ≤ zs[i]?.getD 0)) = r at *
        have HC := hide hc
        have hle : (zs.length : Int) = ((n * n : Nat) : Int) := by omega
        have H3 := hide h3
        have hbe : ((zs.length : Int) != ((n * n : Nat) : Int)) = false := by simp [h3]
        clear hc hfe hle h3
        generalize n * n = q at hm hbe hnn
        go_enter Try.func39, Try.ntmps39
        go_wp2_with fail
        refine HC.out.mono ?_
        rintro x w1 ⟨rfl, hb1⟩
        have hB1 := bcat hB0 hb1 hB0.size
        have hR1 := blk_below hR0 hb1
        obtain ⟨d0, d1, f0, f1⟩ := hR1.two
        by_cases hr1 : r = -1
        · subst hr1
          obtain ⟨_, _, _, _, _, s0, s1⟩ := Two.mk' hR1
          go_wp2
          exact bodyPost_ret (v := .agg #[.int .i64 0, .int .i64 0]) (by simp [results, Try.results39, go_sem, d0, d1]) rfl ⟨by simp, hB1⟩
        · have hrb : (r != -1) = true := by simpa using hr1
          go_wp2
          have hR2 : Blk ((w1.setCell ⟨w.heap.size + 1, 0, none⟩ (.int .i64 3)).setCell ⟨w.heap.size + 1, 1, none⟩ (.int .i64 r)) (w.heap.size + 1) 29 [.int .i64 3, .int .i64 r] := (hR1.set 0 _).set 1 _
          have hB2 := (hB1.setCell (p := ⟨w.heap.size + 1, 0, none⟩) (by simp) (.int .i64 3)).setCell (p := ⟨w.heap.size + 1, 1, none⟩) (by simp) (.int .i64 r)
          generalize (w1.setCell ⟨w.heap.size + 1, 0, none⟩ (.int .i64 3)).setCell ⟨w.heap.size + 1, 1, none⟩ (.int .i64 r) = W at hR2 hB2 ⊢
          obtain ⟨k0, k1, _, _⟩ := hR2.two
          exact bodyPost_ret (v := .agg #[.int .i64 3, .int .i64 r]) (by simp [results, Try.results39, go_sem, k0, k1]) rfl ⟨rfl, hB2⟩
      · have hf : efault n zs = (8, 0) := by
          unfold efault
          rw [if_neg (by omega), if_pos (by rw [hm]; omega)]
        have hbe : ((zs.length : Int) != ((n * n : Nat) : Int)) = true := by simp; omega
        rw [hf]
        clear hf
        generalize n * n = q at *
        clear h3
        go_enter Try.func39, Try.ntmps39
        go_wp2
        exact bodyPost_ret (v := .agg #[.int .i64 8, .int .i64 0]) (by simp [results, Try.results39, go_sem]) rfl ⟨rfl, (balloc w _).alloc (by simp) _⟩
end Go.Proofs.Ytgphcfmiamiojaa
