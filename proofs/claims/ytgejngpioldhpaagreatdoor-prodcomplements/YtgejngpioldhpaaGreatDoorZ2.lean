/- What checkEntries and oneOf answer, and the closures that they hand over. What groupsFrom, inverseOf and Check answer. What table.Check answers: at every table, whatever it holds, the fault that the plain function gfault tells. What the document's answers F, E and I are. What the document's GroupFault answers: at every table, whatever it holds, the fault that the plain function gfault tells. What One, Inv and Abelian of package table answer: at every table, whatever it holds, and every number. What Abelian of package table answers, and what the document's Commutes is. What the law's own copies of lists and tables are, and what the document's Ints, SameGroup and ThingFault and the law's numberAs tell. What products, conjugates, commutators and searches of package sub's own group answer. What package sub's made takes: a thing that is not there yet is put to the set and to the list. -/
import Derived.Test.YtgejngpioldhpaaGreatDoorZ1
namespace Go.Proofs.YtgejngpioldhpaaGreatDoor
open Go Go.RowKit

theorem retB {x y : Bool} (h : x = y) : Ending.returned (.bool x) = Ending.returned (.bool y) := by rw [h]
theorem retI {x y : Int} (h : x = y) : Ending.returned (.int .i64 x) = Ending.returned (.int .i64 y) := by rw [h]
theorem bneN (x y : Nat) : ((x : Int) != (y : Int)) = (x != y) := by
  rw [Bool.eq_iff_iff]; simp; omega
theorem beqN (x y : Nat) : ((x : Int) == (y : Int)) = (x == y) := by
  rw [Bool.eq_iff_iff]; simp; omega

set_option maxRecDepth 100000 in
set_option maxHeartbeats 2000000 in
theorem entry_ok (b i : Nat) (N : Int) (v : Value) (zs : List Int) (w : World) (hg : BoxG w b N v) (hv : Sl w v zs) (hi : i < zs.length) :
    Calls Tryz.prog 99 #[.int .i64 i, .pointer (some ⟨b, 0, none⟩)] w fun e w' => e = .returned (.bool (decide (zs[i]?.getD 0 < 0 ∨ N ≤ zs[i]?.getD 0))) ∧ Below w.heap.size w w' := by
  obtain ⟨x, cap, pb, po, rfl, hr, hp, hq3, hq4⟩ := hv
  obtain rfl := hr.at_ (by omega)
  have hc := hr.cell i hi
  obtain ⟨c0, c1, _, _⟩ := hg.two
  have hii : (i : Int) < (zs.length : Int) := by omega
  generalize zs[i]?.getD 0 = y at *
  have hS : ∀ W, Below w.heap.size w W → (Below w.heap.size w W ∧ W.cell? ⟨b, 0, none⟩ = some (.int .i64 N) ∧ W.cell? ⟨b, 1, none⟩ = some (.slice (some ⟨pb, po, none⟩) zs.length cap) ∧ W.cell? ⟨pb, po + i, none⟩ = some (.int .i64 y)) :=
    fun W h => ⟨h, below_cell h c0, below_cell h c1, below_cell h hc⟩
  have hS0 := hS _ (bdrew (Below.refl _ w))
  unfold maxLen at hq4
  go_enter Tryz.func99, Tryz.ntmps99
  go_wp2_with fail
  go_region_held3 (fun W => Below w.heap.size w W ∧ W.cell? ⟨b, 0, none⟩ = some (.int .i64 N) ∧ W.cell? ⟨b, 1, none⟩ = some (.slice (some ⟨pb, po, none⟩) zs.length cap) ∧ W.cell? ⟨pb, po + i, none⟩ = some (.int .i64 y))
    (first | exact hS0 | assumption | exact hS _ (bcat2 (And.left ‹_›) hl1))
    (first
      | (go_at_call 100; refine (isThing_any N y _ _).mono ?_; rintro e W1 ⟨rfl, hl1⟩))
  obtain ⟨hB, _⟩ := ‹Below w.heap.size w W1 ∧ _›
  go_wp2
  go_ret
  exact ⟨retB (by rw [Bool.eq_iff_iff]; simp), hB⟩

set_option maxRecDepth 100000 in
set_option maxHeartbeats 2000000 in
theorem oneIn_ok (b b2 a e n : Nat) (v : Value) (zs : List Int) (w : World) (ht : IsTab n zs) (hg : BoxG w b n v) (hv : Sl w v zs) (h2 : Boxed w b2 3 (.int .i64 e)) (ha : a < n) (he : e < n) :
    Calls Tryz.prog 102 #[.int .i64 a, .pointer (some ⟨b, 0, none⟩), .pointer (some ⟨b2, 0, none⟩)] w fun x w' => x = .returned (.bool (tm n zs e a != a || tm n zs a e != a)) ∧ Below w.heap.size w w' := by
  obtain ⟨c0, c1, _, _⟩ := hg.two
  have c2 := h2.cell
  have HT := hide ht
  go_enter Tryz.func102, Tryz.ntmps102
  go_wp2_with fail
  refine (product_ok n v zs e a w HT.out hv he ha).mono ?_
  rintro x w1 ⟨rfl, hb1⟩
  by_cases h : tm n zs e a = a
  · have hne : ((tm n zs e a : Int) != (a : Int)) = false := by simp [h]
    have d0 := below_cell hb1 c0
    have d1 := below_cell hb1 c1
    have d2 := below_cell hb1 c2
    have HH := hide h
    clear h
    go_wp2_with fail
    refine (product_ok n v zs a e w1 HT.out (hv.below hb1) ha he).mono ?_
    rintro x w2 ⟨rfl, hb2⟩
    have hB := bcat2 hb1 hb2
    go_wp2
    go_ret
    exact ⟨retB (by rw [bneN, bne_eq_false_iff_eq.2 HH.out, Bool.false_or]), hB⟩
  · have hne : ((tm n zs e a : Int) != (a : Int)) = true := by simp; omega
    go_wp2
    go_ret
    exact ⟨retB (by rw [show (tm n zs e a != a) = true by simpa using h]; rfl), hb1⟩

theorem call81 (a : Int) (x y : Value) (W : World) : Sem.run Tryz.prog (callFunc 102 (#[.int .i64 a] ++ #[x, y])) W = .ok (.enter 102 (#[.int .i64 a] ++ #[x, y])) W := by kernel_rfl
theorem call80 (a : Int) (x : Value) (W : World) : Sem.run Tryz.prog (callFunc 101 (#[.int .i64 a] ++ #[x])) W = .ok (.enter 101 (#[.int .i64 a] ++ #[x])) W := by kernel_rfl
theorem call78 (a : Int) (x : Value) (W : World) : Sem.run Tryz.prog (callFunc 99 (#[.int .i64 a] ++ #[x])) W = .ok (.enter 99 (#[.int .i64 a] ++ #[x])) W := by kernel_rfl

set_option maxRecDepth 100000 in
set_option maxHeartbeats 2000000 in
theorem oneAt_ok (b e n : Nat) (v : Value) (zs : List Int) (w : World) (ht : IsTab n zs) (hg : BoxG w b n v) (hv : Sl w v zs) (he : e < n) :
    Calls Tryz.prog 101 #[.int .i64 e, .pointer (some ⟨b, 0, none⟩)] w fun x w' => x = .returned (.bool (oneB n zs e)) ∧ Below w.heap.size w w' := by
  have hB0 : Below w.heap.size w (w.alloc (.cells #[.int .i64 e] 3)) := balloc w _
  have h2 : Boxed (w.alloc (.cells #[.int .i64 e] 3)) w.heap.size 3 (.int .i64 e) := Boxed.new w 3 _
  have hg0 := blk_below hg hB0
  have hv0 := hv.below hB0
  obtain ⟨c0, c1, _, _⟩ := hg0.two
  have hle := ht.le
  have hc := least_any n 102 #[.pointer (some ⟨b, 0, none⟩), .pointer (some ⟨w.heap.size, 0, none⟩)] (fun a => tm n zs e a != a || tm n zs a e != a) (w.alloc (.cells #[.int .i64 e] 3)) (by omega) (fun a W => call81 a _ _ W)
    (fun W a hW ha => oneIn_ok b w.heap.size a e n v zs W ht (blk_below hg0 hW) (hv0.below hW) (Boxed.below h2 hW) ha he)
  have HC := hide hc
  have HT := hide ht
  clear hc ht
  go_enter Tryz.func101, Tryz.ntmps101
  go_wp2_with fail
  refine HC.out.mono ?_
  rintro x w1 ⟨rfl, hb1⟩
  have hB := bcat2 hB0 hb1
  go_wp2
  go_ret
  exact ⟨retB (by unfold oneB; rw [Bool.eq_iff_iff]; simp), hB⟩

set_option maxRecDepth 100000 in
set_option maxHeartbeats 2000000 in
theorem oneOf_ok (n : Nat) (v : Value) (zs : List Int) (w : World) (ht : IsTab n zs) (hv : Sl w v zs) :
    Calls Tryz.prog 81 #[.agg #[.int .i64 n, v]] w fun x w' => x = .returned (.int .i64 (one n zs)) ∧ Below w.heap.size w w' := by
  have hB0 : Below w.heap.size w (w.alloc (.cells #[.int .i64 n, v] 24)) := balloc w _
  have hg0 : BoxG (w.alloc (.cells #[.int .i64 n, v] 24)) w.heap.size n v := blk0 _ _
  have hv0 := hv.below hB0
  obtain ⟨c0, c1, _, _⟩ := hg0.two
  have hle := ht.le
  have hc := least_any n 101 #[.pointer (some ⟨w.heap.size, 0, none⟩)] (oneB n zs) (w.alloc (.cells #[.int .i64 n, v] 24)) (by omega) (fun a W => call80 a _ W)
    (fun W a hW ha => oneAt_ok w.heap.size a n v zs W ht (blk_below hg0 hW) (hv0.below hW) ha)
  have HC := hide hc
  clear hc ht
  go_enter Tryz.func81, Tryz.ntmps81
  go_wp2_with fail
  refine HC.out.mono ?_
  rintro x w1 ⟨rfl, hb1⟩
  have hB := bcat2 hB0 hb1
  go_wp2
  go_ret
  exact ⟨retI rfl, hB⟩

set_option maxRecDepth 100000 in
set_option maxHeartbeats 2000000 in
theorem checkEntries_any (N : Int) (v : Value) (zs : List Int) (w : World) (hv : Sl w v zs) :
    Calls Tryz.prog 80 #[.agg #[.int .i64 N, v]] w fun x w' => x = .returned (.agg #[.int .i64 (efault N zs).1, .int .i64 (efault N zs).2]) ∧ Below w.heap.size w w' := by
  have hB0 : Below w.heap.size w ((w.alloc (.cells #[.int .i64 N, v] 24)).alloc (.cells #[.int .i64 0, .int .i64 0] 27)) := (balloc w _).alloc (by simp) _
  have hg0 : BoxG ((w.alloc (.cells #[.int .i64 N, v] 24)).alloc (.cells #[.int .i64 0, .int .i64 0] 27)) w.heap.size N v := (blk0 _ _).alloc _
  have hR0 : Blk ((w.alloc (.cells #[.int .i64 N, v] 24)).alloc (.cells #[.int .i64 0, .int .i64 0] 27)) (w.heap.size + 1) 27 [.int .i64 0, .int .i64 0] := by
    have := Two.new (w.alloc (.cells #[.int .i64 N, v] 24))
    rw [World.size_alloc] at this; exact this.blk
  have hv0 := hv.below hB0
  obtain ⟨c0, c1, _, _⟩ := hg0.two
  obtain ⟨x, cap, pb, po, rfl, hr, hp, hq3, hq4⟩ := id hv
  unfold maxLen at hq4
  by_cases h1 : N < 1
  · have hf : efault N zs = (2, 0) := by unfold efault; rw [if_pos (.inl h1)]
    rw [hf]
    clear hf
    go_enter Tryz.func80, Tryz.ntmps80
    go_wp2
    exact bodyPost_ret (v := .agg #[.int .i64 2, .int .i64 0]) (by simp [results, Tryz.results80, go_sem]) rfl ⟨rfl, (balloc w _).alloc (by simp) _⟩
  · by_cases h2 : 60 < N
    · have hf : efault N zs = (2, 0) := by unfold efault; rw [if_pos (.inr h2)]
      rw [hf]
      clear hf
      go_enter Tryz.func80, Tryz.ntmps80
      go_wp2
      exact bodyPost_ret (v := .agg #[.int .i64 2, .int .i64 0]) (by simp [results, Tryz.results80, go_sem]) rfl ⟨rfl, (balloc w _).alloc (by simp) _⟩
    · obtain ⟨n, rfl⟩ : ∃ n : Nat, N = n := ⟨N.toNat, by omega⟩
      have hn1 : 1 ≤ n := by omega
      have hn2 : n ≤ 60 := by omega
      have hnn : n * n ≤ 60 * 60 := Nat.mul_le_mul hn2 hn2
      have hm : (n : Int) * (n : Int) = ((n * n : Nat) : Int) := by rw [Int.natCast_mul]
      by_cases h3 : zs.length = n * n
      · have hfe : efault n zs = if least zs.length (fun i => decide (zs[i]?.getD 0 < 0 ∨ (n : Int) ≤ zs[i]?.getD 0)) ≠ -1 then (3, least zs.length (fun i => decide (zs[i]?.getD 0 < 0 ∨ (n : Int) ≤ zs[i]?.getD 0))) else (0, 0) := by
          unfold efault
          rw [if_neg (by omega), if_neg (by rw [hm]; omega)]
        have hc := least_any zs.length 99 #[.pointer (some ⟨w.heap.size, 0, none⟩)] (fun i => decide (zs[i]?.getD 0 < 0 ∨ (n : Int) ≤ zs[i]?.getD 0)) _ (by omega) (fun a W => call78 a _ W)
          (fun W a hW ha => entry_ok w.heap.size a n _ zs W (blk_below hg0 hW) (hv0.below hW) ha)
        rw [hfe]
        generalize least zs.length (fun i => decide (zs[i]?.getD 0 < 0 ∨ (n : Int) ≤ zs[i]?.getD 0)) = r at *
        have HC := hide hc
        have hle : (zs.length : Int) = ((n * n : Nat) : Int) := by omega
        have H3 := hide h3
        have hbe : ((zs.length : Int) != ((n * n : Nat) : Int)) = false := by simp [h3]
        clear hc hfe hle h3
        generalize n * n = q at hm hbe hnn
        go_enter Tryz.func80, Tryz.ntmps80
        go_wp2_with fail
        refine HC.out.mono ?_
        rintro x w1 ⟨rfl, hb1⟩
        have hB1 := bcat hB0 hb1 hB0.size
        have hR1 := blk_below hR0 hb1
        obtain ⟨d0, d1, f0, f1⟩ := hR1.two
        by_cases hr1 : r = -1
        · subst hr1
          obtain ⟨_, _, _, _, _, s0, s1⟩ := Two.mk' hR1
          go_wp2
          exact bodyPost_ret (v := .agg #[.int .i64 0, .int .i64 0]) (by simp [results, Tryz.results80, go_sem, d0, d1]) rfl ⟨by simp, hB1⟩
        · have hrb : (r != -1) = true := by simpa using hr1
          go_wp2
          have hR2 : Blk ((w1.setCell ⟨w.heap.size + 1, 0, none⟩ (.int .i64 3)).setCell ⟨w.heap.size + 1, 1, none⟩ (.int .i64 r)) (w.heap.size + 1) 27 [.int .i64 3, .int .i64 r] := (hR1.set 0 _).set 1 _
          have hB2 := (hB1.setCell (p := ⟨w.heap.size + 1, 0, none⟩) (by simp) (.int .i64 3)).setCell (p := ⟨w.heap.size + 1, 1, none⟩) (by simp) (.int .i64 r)
          generalize (w1.setCell ⟨w.heap.size + 1, 0, none⟩ (.int .i64 3)).setCell ⟨w.heap.size + 1, 1, none⟩ (.int .i64 r) = W at hR2 hB2 ⊢
          obtain ⟨k0, k1, _, _⟩ := hR2.two
          exact bodyPost_ret (v := .agg #[.int .i64 3, .int .i64 r]) (by simp [results, Tryz.results80, go_sem, k0, k1]) rfl ⟨rfl, hB2⟩
      · have hf : efault n zs = (8, 0) := by
          unfold efault
          rw [if_neg (by omega), if_pos (by rw [hm]; omega)]
        have hbe : ((zs.length : Int) != ((n * n : Nat) : Int)) = true := by simp; omega
        rw [hf]
        clear hf
        generalize n * n = q at *
        clear h3
        go_enter Tryz.func80, Tryz.ntmps80
        go_wp2
        exact bodyPost_ret (v := .agg #[.int .i64 8, .int .i64 0]) (by simp [results, Tryz.results80, go_sem]) rfl ⟨rfl, (balloc w _).alloc (by simp) _⟩
end Go.Proofs.YtgejngpioldhpaaGreatDoor

namespace Go.Proofs.YtgejngpioldhpaaGreatDoor
open Go Go.RowKit

set_option maxRecDepth 100000 in
set_option maxHeartbeats 4000000 in
theorem groupsFrom_ok (n a : Nat) (v : Value) (zs : List Int) (w : World) (ht : IsTab n zs) (hv : Sl w v zs) (ha : a < n) :
    Calls Tryz.prog 84 #[.agg #[.int .i64 n, v], .int .i64 a] w fun x w' => x = .returned (.bool (assB n zs a)) ∧ Below w.heap.size w w' := by
  have hB0 : Below w.heap.size w (w.alloc (.cells #[.int .i64 n, v] 24)) := balloc w _
  have hg0 : BoxG (w.alloc (.cells #[.int .i64 n, v] 24)) w.heap.size n v := blk0 _ _
  have hv0 := hv.below hB0
  have hle := ht.le
  have HT := hide ht
  obtain ⟨g0, g1, _, _⟩ := hg0.two
  clear ht
  go_enter Tryz.func84, Tryz.ntmps84
  go_wp2
  generalize w.alloc (.cells #[.int .i64 n, v] 24) = w0 at *
  go_loopw [10] (fun i wr => ∃ k : Nat, k ≤ n ∧ i = .int .i64 k ∧ (∀ b c, b < k → c < n → tm n zs (tm n zs a b) c = tm n zs a (tm n zs b c)) ∧ Below w0.heap.size w0 wr) (fun i _ => n - (intOf i).toNat)
  case atStart => exact ⟨0, Nat.zero_le _, rfl, fun b c hb => by omega, Below.refl _ _⟩
  case round =>
    obtain ⟨b, hk, rfl, hno, hB⟩ := hrel
    have HN := hide hno
    clear hno
    by_cases hlt : b < n
    · have d0 := below_cell hB g0
      have d1 := below_cell hB g1
      go_wp2_with fail
      refine (product_ok n v zs a b wr HT.out (hv0.below hB) ha hlt).mono ?_
      rintro e w1 ⟨rfl, hb1⟩
      have hB1 := bcat2 hB hb1
      have e0 := below_cell hB1 g0
      have e1 := below_cell hB1 g1
      have hab := tm_lt HT.out ha hlt
      clear d0 d1 hb1 hB
      go_wp2
      go_loopw [19] (fun i wr => ∃ k : Nat, k ≤ n ∧ i = .int .i64 k ∧ (∀ c, c < k → tm n zs (tm n zs a b) c = tm n zs a (tm n zs b c)) ∧ Below w0.heap.size w0 wr) (fun i _ => n - (intOf i).toNat)
      case atStart => exact ⟨0, Nat.zero_le _, rfl, fun c hc => by omega, hB1⟩
      case round =>
        obtain ⟨c, hk2, rfl, hno2, hB2⟩ := hrel
        have HN2 := hide hno2
        clear hno2 e0 e1
        by_cases hlt2 : c < n
        · have hbc := tm_lt HT.out hlt hlt2
          have hS : ∀ W, Below w0.heap.size w0 W → (Below w0.heap.size w0 W ∧ W.cell? ⟨w.heap.size, 0, none⟩ = some (.int .i64 n) ∧ W.cell? ⟨w.heap.size, 1, none⟩ = some v) := fun W h => ⟨h, below_cell h g0, below_cell h g1⟩
          have hS0 := hS _ (bdrew hB2)
          go_wp2_with fail
          go_region_held3 (fun W => Below w0.heap.size w0 W ∧ W.cell? ⟨w.heap.size, 0, none⟩ = some (.int .i64 n) ∧ W.cell? ⟨w.heap.size, 1, none⟩ = some v)
            (first | exact hS0 | assumption | exact hS _ (bcat2 (And.left ‹_›) hl1))
            (first | (go_at_call 103; refine (product_ok n v zs _ _ _ HT.out (hv0.below (And.left ‹_›)) (by assumption) (by assumption)).mono ?_; rintro e W1 ⟨rfl, hl1⟩))
          obtain ⟨hB3, _⟩ := ‹Below w0.heap.size w0 W1 ∧ _›
          clear hS hS0 hl1
          by_cases hxy : tm n zs (tm n zs a b) c = tm n zs a (tm n zs b c)
          · have hbe : ((tm n zs (tm n zs a b) c : Int) != (tm n zs a (tm n zs b c) : Int)) = false := by simp [hxy]
            have HXY := hide hxy
            clear hxy
            go_wp2
            go_roundw
            case rel => exact ⟨c + 1, by omega, by go_num, fun d hd => by
              by_cases e : d = c
              · rw [e]; exact HXY.out
              · exact HN2.out d (by omega), hB3⟩
            case measure => simp [intOf]; omega
          · have hbe : ((tm n zs (tm n zs a b) c : Int) != (tm n zs a (tm n zs b c) : Int)) = true := by simp; omega
            go_wp2
            go_ret
            refine ⟨retB ?_, bcat hB0 hB3 hB0.size⟩
            cases hq : assB n zs a with
            | false => rfl
            | true => exact absurd (assB_iff.1 hq b c hlt hlt2) hxy
        · have hcn : c = n := by omega
          subst hcn
          go_wp2
          go_roundw
          case rel => exact ⟨b + 1, by omega, by go_num, fun d c hd hc => by
            by_cases e : d = b
            · rw [e]; exact HN2.out c hc
            · exact HN.out d c (by omega) hc, hB2⟩
          case measure => simp [intOf]; omega
    · have hbn : b = n := by omega
      subst hbn
      go_wp2
      go_ret
      exact ⟨retB (assB_iff.2 (fun d c hd hc => HN.out d c hd hc)).symm, bcat hB0 hB hB0.size⟩

set_option maxRecDepth 100000 in
set_option maxHeartbeats 2000000 in
theorem ungroups_ok (b n a : Nat) (v : Value) (zs : List Int) (w : World) (ht : IsTab n zs) (hg : BoxG w b n v) (hv : Sl w v zs) (ha : a < n) :
    Calls Tryz.prog 83 #[.int .i64 a, .pointer (some ⟨b, 0, none⟩)] w fun x w' => x = .returned (.bool (!assB n zs a)) ∧ Below w.heap.size w w' := by
  obtain ⟨c0, c1, _, _⟩ := hg.two
  go_enter Tryz.func83, Tryz.ntmps83
  go_wp2_with fail
  refine (groupsFrom_ok n a v zs w ht hv ha).mono ?_
  rintro x w1 ⟨rfl, hb1⟩
  go_wp2
  go_ret
  exact ⟨retB rfl, hb1⟩

set_option maxRecDepth 100000 in
set_option maxHeartbeats 2000000 in
theorem invIn_ok (b b2 b3 n a c : Nat) (o : Int) (v : Value) (zs : List Int) (w : World) (ht : IsTab n zs) (hg : BoxG w b n v) (hv : Sl w v zs) (h2 : Boxed w b2 3 (.int .i64 a)) (h3 : Boxed w b3 3 (.int .i64 o)) (ha : a < n) (hc : c < n) :
    Calls Tryz.prog 104 #[.int .i64 c, .pointer (some ⟨b, 0, none⟩), .pointer (some ⟨b2, 0, none⟩), .pointer (some ⟨b3, 0, none⟩)] w fun x w' => x = .returned (.bool (decide ((tm n zs a c : Int) = o))) ∧ Below w.heap.size w w' := by
  obtain ⟨c0, c1, _, _⟩ := hg.two
  have c2 := h2.cell
  have c3 := h3.cell
  have HT := hide ht
  have hS : ∀ W, Below w.heap.size w W → (Below w.heap.size w W ∧ W.cell? ⟨b, 0, none⟩ = some (.int .i64 n) ∧ W.cell? ⟨b, 1, none⟩ = some v ∧ W.cell? ⟨b2, 0, none⟩ = some (.int .i64 a) ∧ W.cell? ⟨b3, 0, none⟩ = some (.int .i64 o)) := fun W h => ⟨h, below_cell h c0, below_cell h c1, below_cell h c2, below_cell h c3⟩
  have hS0 := hS _ (bdrew (Below.refl _ w))
  clear c0 c1 c2 c3
  go_enter Tryz.func104, Tryz.ntmps104
  go_wp2_with fail
  go_region_held3 (fun W => Below w.heap.size w W ∧ W.cell? ⟨b, 0, none⟩ = some (.int .i64 n) ∧ W.cell? ⟨b, 1, none⟩ = some v ∧ W.cell? ⟨b2, 0, none⟩ = some (.int .i64 a) ∧ W.cell? ⟨b3, 0, none⟩ = some (.int .i64 o))
    (first | exact hS0 | assumption | exact hS _ (bcat2 (And.left ‹_›) hl1))
    (first | (go_at_call 103; refine (product_ok n v zs a c _ HT.out (hv.below (And.left ‹_›)) ha hc).mono ?_; rintro e W1 ⟨rfl, hl1⟩))
  obtain ⟨hB3, _⟩ := ‹Below w.heap.size w W1 ∧ _›
  go_wp2
  go_ret
  exact ⟨retB (by rw [Bool.eq_iff_iff]; simp), hB3⟩

theorem call82 (a : Int) (x y z : Value) (W : World) : Sem.run Tryz.prog (callFunc 104 (#[.int .i64 a] ++ #[x, y, z])) W = .ok (.enter 104 (#[.int .i64 a] ++ #[x, y, z])) W := by kernel_rfl
theorem call55 (a : Int) (x : Value) (W : World) : Sem.run Tryz.prog (callFunc 83 (#[.int .i64 a] ++ #[x])) W = .ok (.enter 83 (#[.int .i64 a] ++ #[x])) W := by kernel_rfl
theorem call57 (a : Int) (x y : Value) (W : World) : Sem.run Tryz.prog (callFunc 85 (#[.int .i64 a] ++ #[x, y])) W = .ok (.enter 85 (#[.int .i64 a] ++ #[x, y])) W := by kernel_rfl

set_option maxRecDepth 100000 in
set_option maxHeartbeats 2000000 in
theorem inverseOf_ok (n a : Nat) (o : Int) (v : Value) (zs : List Int) (w : World) (ht : IsTab n zs) (hv : Sl w v zs) (ha : a < n) :
    Calls Tryz.prog 86 #[.agg #[.int .i64 n, v], .int .i64 o, .int .i64 a] w fun x w' => x = .returned (.int .i64 (invL n zs o a)) ∧ Below w.heap.size w w' := by
  obtain ⟨w0, hw0⟩ : ∃ w0, w0 = ((w.alloc (.cells #[.int .i64 n, v] 24)).alloc (.cells #[.int .i64 o] 3)).alloc (.cells #[.int .i64 a] 3) := ⟨_, rfl⟩
  have hB0 : Below w.heap.size w w0 := by rw [hw0]; exact ((balloc w _).alloc (by simp) _).alloc (by simp; omega) _
  have hg0 : BoxG w0 w.heap.size n v := by rw [hw0]; exact ((blk0 _ _).alloc _).alloc _
  have h1 : Boxed w0 (w.heap.size + 1) 3 (.int .i64 o) := by
    rw [hw0]
    have := Boxed.new (w.alloc (.cells #[.int .i64 n, v] 24)) 3 (.int .i64 o)
    rw [World.size_alloc] at this; exact this.alloc _
  have h2 : Boxed w0 (w.heap.size + 1 + 1) 3 (.int .i64 a) := by
    rw [hw0]
    have := Boxed.new ((w.alloc (.cells #[.int .i64 n, v] 24)).alloc (.cells #[.int .i64 o] 3)) 3 (.int .i64 a)
    rw [World.size_alloc, World.size_alloc] at this; exact this
  have hv0 := hv.below hB0
  obtain ⟨c0, c1, _, _⟩ := hg0.two
  have hle := ht.le
  have hc := least_any n 104 #[.pointer (some ⟨w.heap.size, 0, none⟩), .pointer (some ⟨w.heap.size + 1 + 1, 0, none⟩), .pointer (some ⟨w.heap.size + 1, 0, none⟩)] (fun b => decide ((tm n zs a b : Int) = o)) w0 (by omega) (fun a W => call82 a _ _ _ W)
    (fun W c hW hc => invIn_ok w.heap.size (w.heap.size + 1 + 1) (w.heap.size + 1) n a c o v zs W ht (blk_below hg0 hW) (hv0.below hW) (Boxed.below h2 hW) (Boxed.below h1 hW) ha hc)
  have HC := hide hc
  rw [hw0] at c0 c1
  clear hc ht
  go_enter Tryz.func86, Tryz.ntmps86
  go_wp2_with fail
  rw [← hw0]
  refine HC.out.mono ?_
  rintro x w1 ⟨rfl, hb1⟩
  have hB := bcat hB0 hb1 hB0.size
  clear hw0 c0 c1
  go_wp2
  go_ret
  exact ⟨retI rfl, hB⟩

set_option maxRecDepth 100000 in
set_option maxHeartbeats 2000000 in
theorem noInv_ok (b b2 n a : Nat) (o : Int) (v : Value) (zs : List Int) (w : World) (ht : IsTab n zs) (hg : BoxG w b n v) (hv : Sl w v zs) (h2 : Boxed w b2 3 (.int .i64 o)) (ha : a < n) :
    Calls Tryz.prog 85 #[.int .i64 a, .pointer (some ⟨b, 0, none⟩), .pointer (some ⟨b2, 0, none⟩)] w fun x w' => x = .returned (.bool (decide (invL n zs o a = -1))) ∧ Below w.heap.size w w' := by
  obtain ⟨c0, c1, _, _⟩ := hg.two
  have c2 := h2.cell
  go_enter Tryz.func85, Tryz.ntmps85
  go_wp2_with fail
  refine (inverseOf_ok n a o v zs w ht hv ha).mono ?_
  rintro x w1 ⟨rfl, hb1⟩
  go_wp2
  go_ret
  exact ⟨retB (by rw [Bool.eq_iff_iff]; simp), hb1⟩
end Go.Proofs.YtgejngpioldhpaaGreatDoor

namespace Go.Proofs.YtgejngpioldhpaaGreatDoor
open Go Go.RowKit

/-- A fault that is stored into a block of two cells. -/
theorem put2 {W w : World} {b : Nat} {x y : Value} (hR : Blk W b 27 [x, y]) (hB : Below w.heap.size w W) (hb : w.heap.size ≤ b) (c i : Int) :
    Blk ((W.setCell ⟨b, 0, none⟩ (.int .i64 c)).setCell ⟨b, 1, none⟩ (.int .i64 i)) b 27 [.int .i64 c, .int .i64 i] ∧ Below w.heap.size w ((W.setCell ⟨b, 0, none⟩ (.int .i64 c)).setCell ⟨b, 1, none⟩ (.int .i64 i)) :=
  ⟨(hR.set 0 _).set 1 _, (hB.setCell (p := ⟨b, 0, none⟩) hb _).setCell (p := ⟨b, 1, none⟩) hb _⟩

set_option maxRecDepth 100000 in
set_option maxHeartbeats 4000000 in
theorem check_any (N : Int) (v : Value) (zs : List Int) (w : World) (hv : Sl w v zs) :
    Calls Tryz.prog 59 #[.agg #[.int .i64 N, v]] w fun x w' => x = .returned (.agg #[.int .i64 (gfault N zs).1, .int .i64 (gfault N zs).2]) ∧ Below w.heap.size w w' := by
  obtain ⟨w0, hw0⟩ : ∃ w0, w0 = (w.alloc (.cells #[.int .i64 N, v] 24)).alloc (.cells #[.int .i64 0, .int .i64 0] 27) := ⟨_, rfl⟩
  have hB0 : Below w.heap.size w w0 := by rw [hw0]; exact (balloc w _).alloc (by simp) _
  have hg0 : BoxG w0 w.heap.size N v := by rw [hw0]; exact (blk0 _ _).alloc _
  have hR0 : Blk w0 (w.heap.size + 1) 27 [.int .i64 0, .int .i64 0] := by
    rw [hw0]
    have := Two.new (w.alloc (.cells #[.int .i64 N, v] 24))
    rw [World.size_alloc] at this; exact this.blk
  have hv0 := hv.below hB0
  have hs0 : w.heap.size + 1 < w0.heap.size := hR0.lt
  obtain ⟨c0, c1, _, _⟩ := hg0.two
  have hck := checkEntries_any N v zs w0 hv0
  obtain ⟨c, i, hci⟩ : ∃ c i, efault N zs = (c, i) := ⟨_, _, rfl⟩
  rw [hci] at hck
  have HCK := hide hck
  have HCI := hide hci
  clear hck hci
  by_cases hc : c = 0
  · subst hc
    obtain ⟨n, rfl, ht, _⟩ := efault_tab (N := N) (zs := zs) (by rw [HCI.out])
    have hgf : gfault n zs = if one n zs = -1 then (6, 0) else if least n (fun a => !assB n zs a) ≠ -1 then (7, least n (fun a => !assB n zs a)) else if least n (fun a => decide (invL n zs (one n zs) a = -1)) ≠ -1 then (4, least n (fun a => decide (invL n zs (one n zs) a = -1))) else (0, 0) := by
      unfold gfault
      rw [HCI.out, if_neg (by simp), Int.toNat_natCast]
    rw [hgf]
    have hle := ht.le
    have HT := hide ht
    rw [efault_of_tab HT.out] at HCI
    obtain rfl : i = 0 := by have := congrArg Prod.snd HCI.out; exact this.symm
    clear hgf ht HCI
    obtain ⟨o, hoe⟩ : ∃ o, one n zs = o := ⟨_, rfl⟩
    rw [hoe]
    obtain ⟨l1, h1e⟩ : ∃ l1, least n (fun a => !assB n zs a) = l1 := ⟨_, rfl⟩
    rw [h1e]
    obtain ⟨l2, h2e⟩ : ∃ l2, least n (fun a => decide (invL n zs o a = -1)) = l2 := ⟨_, rfl⟩
    rw [h2e]
    have HO : Hid (∀ W, Below w0.heap.size w0 W → Calls Tryz.prog 81 #[.agg #[.int .i64 n, v]] W fun x w' => x = .returned (.int .i64 o) ∧ Below W.heap.size W w') := fun W h => by
      have := oneOf_ok n v zs W HT.out (hv0.below h); rwa [hoe] at this
    have HL1 : Hid (∀ W0, Below w0.heap.size w0 W0 → Calls Tryz.prog 82 #[.int .i64 n, .func (.func 83) #[] #[.pointer (some ⟨w.heap.size, 0, none⟩)]] W0 fun x w' => x = .returned (.int .i64 l1) ∧ Below W0.heap.size W0 w') := fun W0 h0 => by
      have := least_any n 83 #[.pointer (some ⟨w.heap.size, 0, none⟩)] (fun a => !assB n zs a) W0 (by omega) (fun a W => call55 a _ W)
        (fun W a hW ha => ungroups_ok w.heap.size n a v zs W HT.out (blk_below hg0 (bcat2 h0 hW)) (hv0.below (bcat2 h0 hW)) ha)
      rwa [h1e] at this
    have HL2 : Hid (∀ (W0 : World) (b2 : Nat), Below w0.heap.size w0 W0 → Boxed W0 b2 3 (.int .i64 o) → Calls Tryz.prog 82 #[.int .i64 n, .func (.func 85) #[] #[.pointer (some ⟨w.heap.size, 0, none⟩), .pointer (some ⟨b2, 0, none⟩)]] W0 fun x w' => x = .returned (.int .i64 l2) ∧ Below W0.heap.size W0 w') := fun W0 b2 h0 hb => by
      have := least_any n 85 #[.pointer (some ⟨w.heap.size, 0, none⟩), .pointer (some ⟨b2, 0, none⟩)] (fun a => decide (invL n zs o a = -1)) W0 (by omega) (fun a W => call57 a _ _ W)
        (fun W a hW ha => noInv_ok w.heap.size b2 n a o v zs W HT.out (blk_below hg0 (bcat2 h0 hW)) (hv0.below (bcat2 h0 hW)) (Boxed.below hb hW) ha)
      rwa [h2e] at this
    clear hoe h1e h2e
    rw [hw0] at c0 c1
    go_enter Tryz.func59, Tryz.ntmps59
    go_wp2_with fail
    rw [← hw0]
    refine HCK.out.mono ?_
    rintro x w1 ⟨rfl, hb1⟩
    clear c0 c1 hw0 HCK
    have hB1 := bcat2 hb1 (balloc w1 (.cells #[.int .i64 0, .int .i64 0] 27))
    obtain ⟨k0, k1, _, _⟩ := (blk_below hg0 hB1).two
    go_wp2_with fail
    refine (HO.out _ hB1).mono ?_
    rintro x w2 ⟨rfl, hb2⟩
    have hB2 := bcat2 hB1 hb2
    have hB3 := bcat2 hB2 (balloc w2 (.cells #[.int .i64 o] 3))
    have hO3 : Boxed (w2.alloc (.cells #[.int .i64 o] 3)) w2.heap.size 3 (.int .i64 o) := Boxed.new w2 3 _
    obtain ⟨w3, hw3⟩ : ∃ w3, w3 = w2.alloc (.cells #[.int .i64 o] 3) := ⟨_, rfl⟩
    rw [← hw3] at hB3 hO3
    have hR3 := blk_below hR0 hB3
    have hg3 := blk_below hg0 hB3
    have hBw := bcat hB0 hB3 hB0.size
    obtain ⟨r0, r1, f0, f1⟩ := hR3.two
    have cO := hO3.cell
    obtain ⟨q0, q1, _, _⟩ := hg3.two
    rw [hw3] at cO r0 r1 f0 f1 q0 q1
    clear hB1 hB2 hb1 hb2 k0 k1 HO
    by_cases ho : o = -1
    · subst ho
      obtain ⟨hR4, hB4⟩ := put2 hR3 hBw (by omega) 6 0
      rw [hw3] at hR4 hB4
      clear hw3
      go_wp2
      generalize ((w2.alloc (.cells #[.int .i64 (-1)] 3)).setCell ⟨w.heap.size + 1, 0, none⟩ (.int .i64 6)).setCell ⟨w.heap.size + 1, 1, none⟩ (.int .i64 0) = W at hR4 hB4 ⊢
      obtain ⟨z0, z1, _, _⟩ := hR4.two
      exact bodyPost_ret (v := .agg #[.int .i64 6, .int .i64 0]) (by simp [results, Tryz.results59, go_sem, z0, z1]) rfl ⟨rfl, hB4⟩
    · have hob : (o == -1) = false := by simpa using ho
      go_wp2_with fail
      rw [← hw3] at cO r0 r1 f0 f1 q0 q1 ⊢
      clear hw3
      refine (HL1.out _ hB3).mono ?_
      rintro x w4 ⟨rfl, hb4⟩
      have hR4 := blk_below hR3 hb4
      have hB4 := bcat hBw hb4 hBw.size
      obtain ⟨y0, y1, fy0, fy1⟩ := hR4.two
      have q0 := below_cell hb4 q0
      have q1 := below_cell hb4 q1
      clear r0 r1 f0 f1 cO HL1
      by_cases h1 : l1 = -1
      · subst h1
        go_wp2_with fail
        refine (HL2.out w4 w2.heap.size (bcat2 hB3 hb4) (Boxed.below hO3 hb4)).mono ?_
        rintro x w5 ⟨rfl, hb5⟩
        have hR5 := blk_below hR4 hb5
        have hB5 := bcat hB4 hb5 hB4.size
        clear y0 y1 fy0 fy1 q0 q1 HL2
        by_cases h2 : l2 = -1
        · subst h2
          obtain ⟨_, y0, y1, fy0, fy1, s0, s1⟩ := Two.mk' hR5
          go_wp2
          exact bodyPost_ret (v := .agg #[.int .i64 0, .int .i64 0]) (by simp [results, Tryz.results59, go_sem, y0, y1]) rfl ⟨rfl, hB5⟩
        · have h2b : (l2 != -1) = true := by simpa using h2
          obtain ⟨y0, y1, fy0, fy1⟩ := hR5.two
          obtain ⟨hR6, hB6⟩ := put2 hR5 hB5 (by omega) 4 l2
          go_wp2
          generalize (w5.setCell ⟨w.heap.size + 1, 0, none⟩ (.int .i64 4)).setCell ⟨w.heap.size + 1, 1, none⟩ (.int .i64 l2) = W at hR6 hB6 ⊢
          obtain ⟨z0, z1, _, _⟩ := hR6.two
          exact bodyPost_ret (v := .agg #[.int .i64 4, .int .i64 l2]) (by simp [results, Tryz.results59, go_sem, z0, z1]) rfl ⟨rfl, hB6⟩
      · have h1b : (l1 != -1) = true := by simpa using h1
        obtain ⟨hR6, hB6⟩ := put2 hR4 hB4 (by omega) 7 l1
        go_wp2
        generalize (w4.setCell ⟨w.heap.size + 1, 0, none⟩ (.int .i64 7)).setCell ⟨w.heap.size + 1, 1, none⟩ (.int .i64 l1) = W at hR6 hB6 ⊢
        obtain ⟨z0, z1, _, _⟩ := hR6.two
        exact bodyPost_ret (v := .agg #[.int .i64 7, .int .i64 l1]) (by simp [results, Tryz.results59, go_sem, z0, z1]) rfl ⟨rfl, hB6⟩
  · have hgf : gfault N zs = (c, i) := by unfold gfault; rw [HCI.out, if_pos hc]
    rw [hgf]
    clear hgf HCI
    have hcb : (c != 0) = true := by simpa using hc
    rw [hw0] at c0 c1
    go_enter Tryz.func59, Tryz.ntmps59
    go_wp2_with fail
    rw [← hw0]
    refine HCK.out.mono ?_
    rintro x w1 ⟨rfl, hb1⟩
    clear c0 c1 hw0 HCK
    have hB1 := bcat2 hb1 (balloc w1 (.cells #[.int .i64 c, .int .i64 i] 27))
    have hR1 := blk_below hR0 hB1
    have hF1 : Blk (w1.alloc (.cells #[.int .i64 c, .int .i64 i] 27)) w1.heap.size 27 [.int .i64 c, .int .i64 i] := blk0 _ _
    have hBw := bcat hB0 hB1 hB0.size
    obtain ⟨y0, y1, fy0, fy1⟩ := hR1.two
    obtain ⟨t0, t1, _, _⟩ := hF1.two
    obtain ⟨hR6, hB6⟩ := put2 hR1 hBw (by omega) c i
    go_wp2
    generalize ((w1.alloc (.cells #[.int .i64 c, .int .i64 i] 27)).setCell ⟨w.heap.size + 1, 0, none⟩ (.int .i64 c)).setCell ⟨w.heap.size + 1, 1, none⟩ (.int .i64 i) = W at hR6 hB6 ⊢
    obtain ⟨z0, z1, _, _⟩ := hR6.two
    exact bodyPost_ret (v := .agg #[.int .i64 c, .int .i64 i]) (by simp [results, Tryz.results59, go_sem, z0, z1]) rfl ⟨rfl, hB6⟩
end Go.Proofs.YtgejngpioldhpaaGreatDoor

namespace Go.Proofs.YtgejngpioldhpaaGreatDoor
open Go Go.RowKit

set_option maxRecDepth 100000 in
theorem f_any (c i : Int) (w : World) : Calls Tryz.prog 9 #[.int .i64 c, .int .i64 i] w fun e w' => e = .returned (.agg #[.int .i64 c, .int .i64 i]) ∧ Below w.heap.size w w' := by
  go_enter Tryz.func9, Tryz.ntmps9
  go_wp2
  exact bodyPost_ret (v := .agg #[.int .i64 c, .int .i64 i]) (by simp [results, Tryz.results9, go_sem]) rfl ⟨rfl, balloc w _⟩

set_option maxRecDepth 100000 in
set_option maxHeartbeats 4000000 in
theorem E_ok (n : Nat) (v : Value) (zs : List Int) (w : World) (ht : IsTab n zs) (hv : Sl w v zs) :
    Calls Tryz.prog 41 #[.agg #[.int .i64 n, v]] w fun x w' => x = .returned (.int .i64 (one n zs)) ∧ Below w.heap.size w w' := by
  have hB0 : Below w.heap.size w (w.alloc (.cells #[.int .i64 n, v] 24)) := balloc w _
  have hg0 : BoxG (w.alloc (.cells #[.int .i64 n, v] 24)) w.heap.size n v := blk0 _ _
  have hv0 := hv.below hB0
  have hle := ht.le
  have HT := hide ht
  obtain ⟨g0, g1, _, _⟩ := hg0.two
  clear ht
  go_enter Tryz.func41, Tryz.ntmps41
  go_wp2
  generalize w.alloc (.cells #[.int .i64 n, v] 24) = w0 at *
  go_loopw [3] (fun i wr => ∃ k : Nat, k ≤ n ∧ i = .int .i64 k ∧ (∀ t, t < k → oneB n zs t = false) ∧ Below w0.heap.size w0 wr) (fun i _ => n - (intOf i).toNat)
  case atStart => exact ⟨0, Nat.zero_le _, rfl, fun b hb => by omega, Below.refl _ _⟩
  case round =>
    obtain ⟨a, hk, rfl, hno, hB⟩ := hrel
    have HN := hide hno
    have d0 := below_cell hB g0
    have d1 := below_cell hB g1
    clear hno
    by_cases hlt : a < n
    · go_wp2
      clear d0 d1
      go_loopw [4, 5] (fun okv i wr => ∃ (k : Nat) (ok : Bool), k ≤ n ∧ i = .int .i64 k ∧ okv = .bool ok ∧ (ok = true ↔ ∀ c, c < k → tm n zs a c = c ∧ tm n zs c a = c) ∧ Below w0.heap.size w0 wr) (fun _ i _ => n - (intOf i).toNat)
      case atStart => exact ⟨0, true, Nat.zero_le _, rfl, rfl, ⟨fun _ c hc => by omega, fun _ => rfl⟩, hB⟩
      case round =>
        obtain ⟨c, ok, hk2, rfl, rfl, hok, hB2⟩ := hrel
        have HOK := hide hok
        have d0 := below_cell hB2 g0
        have d1 := below_cell hB2 g1
        clear hok
        by_cases hlt2 : c < n
        · go_wp2_with fail
          refine (M_ok n v zs a c _ HT.out (hv0.below hB2) hlt hlt2).mono ?_
          rintro e w1 ⟨rfl, hb1⟩
          have hB3 := bcat2 hB2 hb1
          have e0 := below_cell hB3 g0
          have e1 := below_cell hB3 g1
          clear d0 d1
          by_cases h1 : tm n zs a c = c
          · have h1b : ((tm n zs a c : Int) != (c : Int)) = false := by simp [h1]
            have H1 := hide h1
            clear h1
            go_wp2_with fail
            refine (M_ok n v zs c a _ HT.out (hv0.below hB3) hlt2 hlt).mono ?_
            rintro e w2 ⟨rfl, hb2⟩
            have hB4 := bcat2 hB3 hb2
            clear e0 e1
            by_cases h2 : tm n zs c a = c
            · have h2b : ((tm n zs c a : Int) != (c : Int)) = false := by simp [h2]
              have H2 := hide h2
              clear h2
              go_wp2
              go_roundw
              case rel => exact ⟨c + 1, ok, by omega, by go_num, rfl, ⟨fun h d hd => by
                by_cases e : d = c
                · rw [e]; exact ⟨H1.out, H2.out⟩
                · exact HOK.out.1 h d (by omega), fun h => HOK.out.2 (fun d hd => h d (by omega))⟩, hB4⟩
              case measure => simp [intOf]; omega
            · have h2b : ((tm n zs c a : Int) != (c : Int)) = true := by simp; omega
              go_wp2
              go_roundw
              case rel => exact ⟨c + 1, false, by omega, by go_num, rfl, ⟨fun h => (by cases h), fun h => absurd (h c (by omega)).2 h2⟩, hB4⟩
              case measure => simp [intOf]; omega
          · have h1b : ((tm n zs a c : Int) != (c : Int)) = true := by simp; omega
            go_wp2
            go_roundw
            case rel => exact ⟨c + 1, false, by omega, by go_num, rfl, ⟨fun h => (by cases h), fun h => absurd (h c (by omega)).1 h1⟩, hB3⟩
            case measure => simp [intOf]; omega
        · have hcn : c = n := by omega
          subst hcn
          have hone : oneB c zs a = ok := by
            rw [Bool.eq_iff_iff, oneB_iff]; exact HOK.out.symm
          cases ok with
          | true =>
            go_wp2
            go_ret
            exact ⟨retI (least_at hlt hone HN.out).symm, bcat hB0 hB2 hB0.size⟩
          | false =>
            go_wp2
            go_roundw
            case rel => exact ⟨a + 1, by omega, by go_num, fun t ht => by
              by_cases e : t = a
              · rw [e]; exact hone
              · exact HN.out t (by omega), hB2⟩
            case measure => simp [intOf]; omega
    · have hbn : a = n := by omega
      subst hbn
      go_wp2
      go_ret
      exact ⟨retI (least_none HN.out).symm, bcat hB0 hB hB0.size⟩

/-- The document's inverse: the least thing that is one on both sides. -/
def invR (n : Nat) (zs : List Int) (a : Nat) : Int := least n (fun b => decide ((tm n zs a b : Int) = one n zs) && decide ((tm n zs b a : Int) = one n zs))

set_option maxRecDepth 100000 in
set_option maxHeartbeats 4000000 in
theorem I_ok (n a : Nat) (v : Value) (zs : List Int) (w : World) (ht : IsTab n zs) (hv : Sl w v zs) (ha : a < n) :
    Calls Tryz.prog 48 #[.agg #[.int .i64 n, v], .int .i64 a] w fun x w' => x = .returned (.int .i64 (invR n zs a)) ∧ Below w.heap.size w w' := by
  have hB0 : Below w.heap.size w (w.alloc (.cells #[.int .i64 n, v] 24)) := balloc w _
  have hg0 : BoxG (w.alloc (.cells #[.int .i64 n, v] 24)) w.heap.size n v := blk0 _ _
  have hv0 := hv.below hB0
  have hle := ht.le
  have HE := hide (E_ok n v zs _ ht hv0)
  have HT := hide ht
  unfold invR
  generalize one n zs = o at *
  obtain ⟨g0, g1, _, _⟩ := hg0.two
  clear ht
  go_enter Tryz.func48, Tryz.ntmps48
  go_wp2_with fail
  refine HE.out.mono ?_
  rintro x w1 ⟨rfl, hb1⟩
  generalize w.alloc (.cells #[.int .i64 n, v] 24) = w0 at *
  clear HE
  go_wp2
  go_loopw [6] (fun i wr => ∃ k : Nat, k ≤ n ∧ i = .int .i64 k ∧ (∀ t, t < k → (decide ((tm n zs a t : Int) = o) && decide ((tm n zs t a : Int) = o)) = false) ∧ Below w0.heap.size w0 wr) (fun i _ => n - (intOf i).toNat)
  case atStart => exact ⟨0, Nat.zero_le _, rfl, fun b hb => by omega, hb1⟩
  case round =>
    obtain ⟨c, hk, rfl, hno, hB⟩ := hrel
    have HN := hide hno
    have d0 := below_cell hB g0
    have d1 := below_cell hB g1
    clear hno
    by_cases hlt : c < n
    · go_wp2_with fail
      refine (M_ok n v zs a c _ HT.out (hv0.below hB) ha hlt).mono ?_
      rintro e w2 ⟨rfl, hb2⟩
      have hB3 := bcat2 hB hb2
      have e0 := below_cell hB3 g0
      have e1 := below_cell hB3 g1
      clear d0 d1
      by_cases h1 : (tm n zs a c : Int) = o
      · have h1b : ((tm n zs a c : Int) == o) = true := by simp [h1]
        have H1 := hide h1
        clear h1
        go_wp2_with fail
        refine (M_ok n v zs c a _ HT.out (hv0.below hB3) hlt ha).mono ?_
        rintro e w3 ⟨rfl, hb3⟩
        have hB4 := bcat2 hB3 hb3
        clear e0 e1
        by_cases h2 : (tm n zs c a : Int) = o
        · have h2b : ((tm n zs c a : Int) == o) = true := by simp [h2]
          have H2 := hide h2
          clear h2
          go_wp2
          go_ret
          exact ⟨retI (least_at hlt (by simp [H1.out, H2.out]) HN.out).symm, bcat hB0 hB4 hB0.size⟩
        · have h2b : ((tm n zs c a : Int) == o) = false := by simp [h2]
          go_wp2
          go_roundw
          case rel => exact ⟨c + 1, by omega, by go_num, fun t ht => by
            by_cases e : t = c
            · rw [e]; simp [h2]
            · exact HN.out t (by omega), hB4⟩
          case measure => simp [intOf]; omega
      · have h1b : ((tm n zs a c : Int) == o) = false := by simp [h1]
        go_wp2
        go_roundw
        case rel => exact ⟨c + 1, by omega, by go_num, fun t ht => by
          by_cases e : t = c
          · rw [e]; simp [h1]
          · exact HN.out t (by omega), hB3⟩
        case measure => simp [intOf]; omega
    · have hbn : c = n := by omega
      subst hbn
      go_wp2
      go_ret
      exact ⟨retI (least_none HN.out).symm, bcat hB0 hB hB0.size⟩
end Go.Proofs.YtgejngpioldhpaaGreatDoor

namespace Go.Proofs.YtgejngpioldhpaaGreatDoor
open Go Go.RowKit

theorem gf_range {n : Nat} {zs : List Int} (h1 : 1 ≤ n) (h2 : n ≤ 60) (h3 : zs.length = n * n) {i : Nat} (hi : i < zs.length) (hb : zs[i]?.getD 0 < 0 ∨ (n : Int) ≤ zs[i]?.getD 0) (hno : ∀ t, t < i → ¬ (zs[t]?.getD 0 < 0 ∨ (n : Int) ≤ zs[t]?.getD 0)) : gfault n zs = (3, (i : Int)) := by
  have he : efault n zs = (3, (i : Int)) := by
    unfold efault
    have hl : least zs.length (fun i => decide (zs[i]?.getD 0 < 0 ∨ (n : Int) ≤ zs[i]?.getD 0)) = (i : Int) := least_at hi (decide_eq_true hb) (fun t ht => decide_eq_false (hno t ht))
    rw [if_neg (by omega), if_neg (by rw [h3, Int.natCast_mul]; simp), hl, if_pos (by omega)]
  unfold gfault
  rw [he, if_pos (by simp)]
theorem gf_ef {N : Int} {zs : List Int} {c i : Int} (h : efault N zs = (c, i)) (hc : c ≠ 0) : gfault N zs = (c, i) := by
  unfold gfault
  rw [h, if_pos hc]
theorem gf_none {n : Nat} {zs : List Int} (ht : IsTab n zs) (ho : one n zs = -1) : gfault n zs = (6, 0) := by
  unfold gfault
  rw [efault_of_tab ht, if_neg (by simp), Int.toNat_natCast, if_pos ho]
theorem gf_false {n : Nat} {zs : List Int} (ht : IsTab n zs) (ho : one n zs ≠ -1) {a : Nat} (ha : a < n) (hb : assB n zs a = false) (hno : ∀ t, t < a → assB n zs t = true) : gfault n zs = (7, (a : Int)) := by
  have hl : least n (fun a => !assB n zs a) = (a : Int) := least_at ha (by simp [hb]) (fun t h => by simp [hno t h])
  unfold gfault
  rw [efault_of_tab ht, if_neg (by simp), Int.toNat_natCast, if_neg ho, hl, if_pos (by omega)]
theorem invR_eq {n : Nat} {zs : List Int} (ht : IsTab n zs) (ho : one n zs ≠ -1) (hass : ∀ t, t < n → assB n zs t = true) {a : Nat} (ha : a < n) : invR n zs a = invL n zs (one n zs) a := by
  rcases least_cases n (oneB n zs) with ⟨e, he, hp, _, ee⟩ | ⟨_, ee⟩
  · have hone : one n zs = (e : Int) := ee
    have h1 := oneB_iff.1 hp
    unfold invR invL
    rw [hone]
    refine least_congr fun b hb => ?_
    rw [Bool.eq_iff_iff, Bool.and_eq_true, decide_eq_true_eq, decide_eq_true_eq]
    constructor
    · exact fun h => h.1
    · intro h
      refine ⟨h, ?_⟩
      have h2 := inv_both ht he (fun a ha => (h1 a ha).1) (fun a ha => (h1 a ha).2) (fun a b c ha hb hc => assB_iff.1 (hass a ha) b c hb hc) ha hb (by omega)
      rw [h2]
  · exact absurd ee ho
theorem gf_kind {n : Nat} {zs : List Int} (ht : IsTab n zs) (ho : one n zs ≠ -1) (hass : ∀ t, t < n → assB n zs t = true) {a : Nat} (ha : a < n) (hb : invR n zs a = -1) (hno : ∀ t, t < a → invR n zs t ≠ -1) : gfault n zs = (4, (a : Int)) := by
  have hl : least n (fun a => !assB n zs a) = -1 := least_none (fun t h => by simp [hass t h])
  have hk : least n (fun a => decide (invL n zs (one n zs) a = -1)) = (a : Int) := least_at ha (by rw [decide_eq_true_eq, ← invR_eq ht ho hass ha]; exact hb) (fun t h => by rw [decide_eq_false_iff_not, ← invR_eq ht ho hass (by omega)]; exact hno t h)
  unfold gfault
  rw [efault_of_tab ht, if_neg (by simp), Int.toNat_natCast, if_neg ho, hl, if_neg (by simp), hk, if_pos (by omega)]
theorem gf_ok {n : Nat} {zs : List Int} (ht : IsTab n zs) (ho : one n zs ≠ -1) (hass : ∀ t, t < n → assB n zs t = true) (hno : ∀ t, t < n → invR n zs t ≠ -1) : gfault n zs = (0, 0) := by
  have hl : least n (fun a => !assB n zs a) = -1 := least_none (fun t h => by simp [hass t h])
  have hk : least n (fun a => decide (invL n zs (one n zs) a = -1)) = -1 := least_none (fun t h => by rw [decide_eq_false_iff_not, ← invR_eq ht ho hass (by omega)]; exact hno t h)
  unfold gfault
  rw [efault_of_tab ht, if_neg (by simp), Int.toNat_natCast, if_neg ho, hl, if_neg (by simp), hk, if_neg (by simp)]
theorem invR_neg {n : Nat} {zs : List Int} {a : Nat} : invR n zs a < 0 ↔ invR n zs a = -1 := by
  unfold invR
  rcases least_cases n (fun b => decide ((tm n zs a b : Int) = one n zs) && decide ((tm n zs b a : Int) = one n zs)) with ⟨k, _, _, _, e⟩ | ⟨_, e⟩
  · rw [e]; omega
  · rw [e]; omega
theorem one_neg {n : Nat} {zs : List Int} : one n zs < 0 ↔ one n zs = -1 := by
  unfold one
  rcases least_cases n (oneB n zs) with ⟨k, _, _, _, e⟩ | ⟨_, e⟩
  · rw [e]; omega
  · rw [e]; omega

set_option maxRecDepth 100000 in
set_option maxHeartbeats 8000000 in
theorem groupFault_any (N : Int) (v : Value) (zs : List Int) (w : World) (hv : Sl w v zs) :
    Calls Tryz.prog 18 #[.agg #[.int .i64 N, v]] w fun x w' => x = .returned (.agg #[.int .i64 (gfault N zs).1, .int .i64 (gfault N zs).2]) ∧ Below w.heap.size w w' := by
  obtain ⟨w0, hw0⟩ : ∃ w0, w0 = (w.alloc (.cells #[.int .i64 N, v] 24)).alloc (.cells #[.int .i64 0, .int .i64 0] 27) := ⟨_, rfl⟩
  have hB0 : Below w.heap.size w w0 := by rw [hw0]; exact (balloc w _).alloc (by simp) _
  have hg0 : BoxG w0 w.heap.size N v := by rw [hw0]; exact (blk0 _ _).alloc _
  have hR0 : Blk w0 (w.heap.size + 1) 27 [.int .i64 0, .int .i64 0] := by
    rw [hw0]
    have := Two.new (w.alloc (.cells #[.int .i64 N, v] 24))
    rw [World.size_alloc] at this; exact this.blk
  have hv0 := hv.below hB0
  have hs0 : w.heap.size + 1 < w0.heap.size := hR0.lt
  obtain ⟨x, cap, pb, po, rfl, hr, hp, hq3, hq4⟩ := id hv
  unfold maxLen at hq4
  obtain ⟨g0, g1, _, _⟩ := hg0.two
  have c0 := g0
  have c1 := g1
  rw [hw0] at c0 c1
  by_cases h1 : N < 1
  · have hf : gfault N zs = (2, 0) := gf_ef (by unfold efault; rw [if_pos (.inl h1)]) (by simp)
    rw [hf]
    clear hf
    go_enter Tryz.func18, Tryz.ntmps18
    go_wp2_with fail
    rw [← hw0]
    clear hw0 c0 c1
    refine (f_any 2 0 _).mono ?_
    rintro e w9 ⟨rfl, hb9⟩
    have hB9 := bcat2 (Below.refl _ w0) hb9
    have hR9 := blk_below hR0 hB9
    have hBw9 := bcat hB0 hB9 hB0.size
    obtain ⟨y0, y1, fy0, fy1⟩ := hR9.two
    obtain ⟨hR6, hB6⟩ := put2 hR9 hBw9 (by omega) 2 0
    go_wp2
    generalize (w9.setCell ⟨w.heap.size + 1, 0, none⟩ (.int .i64 2)).setCell ⟨w.heap.size + 1, 1, none⟩ (.int .i64 0) = W at hR6 hB6 ⊢
    obtain ⟨z0, z1, _, _⟩ := hR6.two
    exact bodyPost_ret (v := .agg #[.int .i64 2, .int .i64 0]) (by simp [results, Tryz.results18, go_sem, z0, z1]) rfl ⟨rfl, hB6⟩
  · by_cases h2 : 60 < N
    · have hf : gfault N zs = (2, 0) := gf_ef (by unfold efault; rw [if_pos (.inr h2)]) (by simp)
      rw [hf]
      clear hf
      go_enter Tryz.func18, Tryz.ntmps18
      go_wp2_with fail
      rw [← hw0]
      clear hw0 c0 c1
      refine (f_any 2 0 _).mono ?_
      rintro e w9 ⟨rfl, hb9⟩
      have hB9 := bcat2 (Below.refl _ w0) hb9
      have hR9 := blk_below hR0 hB9
      have hBw9 := bcat hB0 hB9 hB0.size
      obtain ⟨y0, y1, fy0, fy1⟩ := hR9.two
      obtain ⟨hR6, hB6⟩ := put2 hR9 hBw9 (by omega) 2 0
      go_wp2
      generalize (w9.setCell ⟨w.heap.size + 1, 0, none⟩ (.int .i64 2)).setCell ⟨w.heap.size + 1, 1, none⟩ (.int .i64 0) = W at hR6 hB6 ⊢
      obtain ⟨z0, z1, _, _⟩ := hR6.two
      exact bodyPost_ret (v := .agg #[.int .i64 2, .int .i64 0]) (by simp [results, Tryz.results18, go_sem, z0, z1]) rfl ⟨rfl, hB6⟩
    · obtain ⟨n, rfl⟩ : ∃ n : Nat, N = n := ⟨N.toNat, by omega⟩
      have hn1 : 1 ≤ n := by omega
      have hn2 : n ≤ 60 := by omega
      have hnn : n * n ≤ 60 * 60 := Nat.mul_le_mul hn2 hn2
      have hm : (n : Int) * (n : Int) = ((n * n : Nat) : Int) := by rw [Int.natCast_mul]
      by_cases h3 : zs.length = n * n
      · have H3 := hide h3
        have hbe : ((zs.length : Int) != ((n * n : Nat) : Int)) = false := by simp [h3]
        have hll : zs.length ≤ 3600 := by omega
        clear h3
        generalize n * n = q at hm hbe hnn
        go_enter Tryz.func18, Tryz.ntmps18
        go_wp2
        rw [← hw0]
        clear hw0 c0 c1
        go_loopw [3] (fun i wr => ∃ k : Nat, k ≤ zs.length ∧ i = .int .i64 k ∧ (∀ t, t < k → ¬ (zs[t]?.getD 0 < 0 ∨ (n : Int) ≤ zs[t]?.getD 0)) ∧ Below w0.heap.size w0 wr) (fun i _ => zs.length - (intOf i).toNat)
        case atStart => exact ⟨0, Nat.zero_le _, rfl, fun b hb => by omega, Below.refl _ _⟩
        case round =>
          obtain ⟨i, hk, rfl, hno, hB⟩ := hrel
          have HN := hide hno
          have d0 := below_cell hB g0
          have d1 := below_cell hB g1
          clear hno
          by_cases hlt : i < zs.length
          · obtain ⟨y, hy⟩ : ∃ y, zs[i]?.getD 0 = y := ⟨_, rfl⟩
            have hr0 := hr
            obtain rfl := hr.at_ (by omega)
            have hcy := hr0.cell i hlt
            rw [hy] at hcy
            have hcy0 := below_cell hB0 hcy
            have hcy1 := below_cell hB hcy0
            have HY := hide hy
            have hii : (i : Int) < (zs.length : Int) := by omega
            clear hy
            by_cases hy0 : y < 0
            · have hyd : decide (y < 0) = true := decide_eq_true hy0
              go_wp2_with fail
              go_quiet (fail)
              go_wp2_with fail
              refine (f_any 3 (i : Int) _).mono ?_
              rintro e w9 ⟨rfl, hb9⟩
              have hB9 := bcat2 (bdrewN hB _) hb9
              have hR9 := blk_below hR0 hB9
              have hBw9 := bcat hB0 hB9 hB0.size
              obtain ⟨y0, y1, fy0, fy1⟩ := hR9.two
              obtain ⟨hR6, hB6⟩ := put2 hR9 hBw9 (by omega) 3 (i : Int)
              go_wp2
              generalize (w9.setCell ⟨w.heap.size + 1, 0, none⟩ (.int .i64 3)).setCell ⟨w.heap.size + 1, 1, none⟩ (.int .i64 (i : Int)) = W at hR6 hB6 ⊢
              obtain ⟨z0, z1, _, _⟩ := hR6.two
              exact bodyPost_ret (v := .agg #[.int .i64 3, .int .i64 (i : Int)]) (by simp [results, Tryz.results18, go_sem, z0, z1]) rfl ⟨by rw [gf_range hn1 hn2 H3.out hlt (.inl (by rw [HY.out]; exact hy0)) HN.out], hB6⟩
            · have hyd : decide (y < 0) = false := decide_eq_false hy0
              by_cases hy1 : (n : Int) ≤ y
              · have hye : decide ((n : Int) ≤ y) = true := decide_eq_true hy1
                go_wp2_with fail
                go_quiet (fail)
                go_wp2_with fail
                refine (f_any 3 (i : Int) _).mono ?_
                rintro e w9 ⟨rfl, hb9⟩
                have hB9 := bcat2 (bdrewN hB _) hb9
                have hR9 := blk_below hR0 hB9
                have hBw9 := bcat hB0 hB9 hB0.size
                obtain ⟨y0, y1, fy0, fy1⟩ := hR9.two
                obtain ⟨hR6, hB6⟩ := put2 hR9 hBw9 (by omega) 3 (i : Int)
                go_wp2
                generalize (w9.setCell ⟨w.heap.size + 1, 0, none⟩ (.int .i64 3)).setCell ⟨w.heap.size + 1, 1, none⟩ (.int .i64 (i : Int)) = W at hR6 hB6 ⊢
                obtain ⟨z0, z1, _, _⟩ := hR6.two
                exact bodyPost_ret (v := .agg #[.int .i64 3, .int .i64 (i : Int)]) (by simp [results, Tryz.results18, go_sem, z0, z1]) rfl ⟨by rw [gf_range hn1 hn2 H3.out hlt (.inr (by rw [HY.out]; exact hy1)) HN.out], hB6⟩
              · have hye : decide ((n : Int) ≤ y) = false := decide_eq_false hy1
                go_wp2_with fail
                go_quiet (fail)
                go_wp2
                go_roundw
                case rel => exact ⟨i + 1, by omega, by go_num, fun t ht => by
                  by_cases e : t = i
                  · rw [e, HY.out]; omega
                  · exact HN.out t (by omega), bdrewN hB _⟩
                case measure => simp [intOf]; omega
          · have hik : i = zs.length := by omega
            subst hik
            have HT := hide (show IsTab n zs from ⟨hn1, hn2, H3.out, fun t ht => by have := HN.out t (by rw [H3.out]; exact ht); omega⟩)
            clear HN
            go_wp2_with fail
            refine (E_ok n _ zs _ HT.out (hv0.below hB)).mono ?_
            rintro e w1 ⟨rfl, hb1⟩
            have hB1 := bcat2 hB hb1
            have hone := one_neg (n := n) (zs := zs)
            clear d0 d1 hb1 hB
            obtain ⟨o, hoe⟩ : ∃ o, one n zs = o := ⟨_, rfl⟩
            rw [hoe] at hone ⊢
            have HOE := hide hoe
            have HONE := hide hone
            clear hoe hone
            by_cases ho : o < 0
            · go_wp2_with fail
              refine (f_any 6 0 _).mono ?_
              rintro e w9 ⟨rfl, hb9⟩
              have hB9 := bcat2 hB1 hb9
              have hR9 := blk_below hR0 hB9
              have hBw9 := bcat hB0 hB9 hB0.size
              obtain ⟨y0, y1, fy0, fy1⟩ := hR9.two
              obtain ⟨hR6, hB6⟩ := put2 hR9 hBw9 (by omega) 6 0
              go_wp2
              generalize (w9.setCell ⟨w.heap.size + 1, 0, none⟩ (.int .i64 6)).setCell ⟨w.heap.size + 1, 1, none⟩ (.int .i64 0) = W at hR6 hB6 ⊢
              obtain ⟨z0, z1, _, _⟩ := hR6.two
              exact bodyPost_ret (v := .agg #[.int .i64 6, .int .i64 0]) (by simp [results, Tryz.results18, go_sem, z0, z1]) rfl ⟨by rw [gf_none HT.out (by rw [HOE.out]; exact HONE.out.1 ho)], hB6⟩
            · have HO := hide (show one n zs ≠ -1 by rw [HOE.out]; exact fun h => ho (HONE.out.2 h))
              clear HOE HONE
              have d0 := below_cell hB1 g0
              have d1 := below_cell hB1 g1
              go_wp2
              clear d0 d1
              go_loopw [4] (fun i wr => ∃ k : Nat, k ≤ n ∧ i = .int .i64 k ∧ (∀ t, t < k → assB n zs t = true) ∧ Below w0.heap.size w0 wr) (fun i _ => n - (intOf i).toNat)
              case atStart => exact ⟨0, Nat.zero_le _, rfl, fun b hb => by omega, hB1⟩
              case round =>
                obtain ⟨a, hka, rfl, hno, hB2⟩ := hrel
                have HA := hide hno
                have d0 := below_cell hB2 g0
                have d1 := below_cell hB2 g1
                clear hno
                by_cases hlta : a < n
                · go_wp2
                  clear d0 d1
                  go_loopw [5] (fun i wr => ∃ k : Nat, k ≤ n ∧ i = .int .i64 k ∧ (∀ b c, b < k → c < n → tm n zs (tm n zs a b) c = tm n zs a (tm n zs b c)) ∧ Below w0.heap.size w0 wr) (fun i _ => n - (intOf i).toNat)
                  case atStart => exact ⟨0, Nat.zero_le _, rfl, fun b c hb => by omega, hB2⟩
                  case round =>
                    obtain ⟨b, hkb, rfl, hno, hB3⟩ := hrel
                    have HBB := hide hno
                    have d0 := below_cell hB3 g0
                    have d1 := below_cell hB3 g1
                    clear hno
                    by_cases hltb : b < n
                    · have hab := tm_lt HT.out hlta hltb
                      go_wp2
                      clear d0 d1
                      go_loopw [6] (fun i wr => ∃ k : Nat, k ≤ n ∧ i = .int .i64 k ∧ (∀ c, c < k → tm n zs (tm n zs a b) c = tm n zs a (tm n zs b c)) ∧ Below w0.heap.size w0 wr) (fun i _ => n - (intOf i).toNat)
                      case atStart => exact ⟨0, Nat.zero_le _, rfl, fun c hc => by omega, hB3⟩
                      case round =>
                        obtain ⟨c, hkc, rfl, hno, hB4⟩ := hrel
                        have HC := hide hno
                        have d0 := below_cell hB4 g0
                        have d1 := below_cell hB4 g1
                        clear hno
                        by_cases hltc : c < n
                        · have hbc := tm_lt HT.out hltb hltc
                          have hS : ∀ W, Below w0.heap.size w0 W → (Below w0.heap.size w0 W ∧ W.cell? ⟨w.heap.size, 0, none⟩ = some (.int .i64 n) ∧ W.cell? ⟨w.heap.size, 1, none⟩ = some (.slice x zs.length cap)) := fun W h => ⟨h, below_cell h g0, below_cell h g1⟩
                          have hS0 := hS _ (bdrew hB4)
                          go_wp2_with fail
                          clear d0 d1
                          go_region_held3 (fun W => Below w0.heap.size w0 W ∧ W.cell? ⟨w.heap.size, 0, none⟩ = some (.int .i64 n) ∧ W.cell? ⟨w.heap.size, 1, none⟩ = some (.slice x zs.length cap))
                            (first | exact hS0 | assumption | exact hS _ (bcat2 (And.left ‹_›) hl1))
                            (first | (go_at_call 42; refine (M_ok n _ zs _ _ _ HT.out (hv0.below (And.left ‹_›)) (by assumption) (by assumption)).mono ?_; rintro e W1 ⟨rfl, hl1⟩))
                          obtain ⟨hB5, _⟩ := ‹Below w0.heap.size w0 W1 ∧ _›
                          clear hS hS0 hl1
                          by_cases hxy : tm n zs (tm n zs a b) c = tm n zs a (tm n zs b c)
                          · have hbe : ((tm n zs (tm n zs a b) c : Int) != (tm n zs a (tm n zs b c) : Int)) = false := by simp [hxy]
                            have HXY := hide hxy
                            clear hxy
                            go_wp2
                            go_roundw
                            case rel => exact ⟨c + 1, by omega, by go_num, fun d hd => by
                              by_cases e : d = c
                              · rw [e]; exact HXY.out
                              · exact HC.out d (by omega), hB5⟩
                            case measure => simp [intOf]; omega
                          · have hbe : ((tm n zs (tm n zs a b) c : Int) != (tm n zs a (tm n zs b c) : Int)) = true := by simp; omega
                            have hass : assB n zs a = false := by
                              cases hq : assB n zs a with
                              | false => rfl
                              | true => exact absurd (assB_iff.1 hq b c hltb hltc) hxy
                            have HASS := hide hass
                            clear hass
                            go_wp2_with fail
                            refine (f_any 7 (a : Int) _).mono ?_
                            rintro e w9 ⟨rfl, hb9⟩
                            have hB9 := bcat2 hB5 hb9
                            have hR9 := blk_below hR0 hB9
                            have hBw9 := bcat hB0 hB9 hB0.size
                            obtain ⟨y0, y1, fy0, fy1⟩ := hR9.two
                            obtain ⟨hR6, hB6⟩ := put2 hR9 hBw9 (by omega) 7 (a : Int)
                            go_wp2
                            generalize (w9.setCell ⟨w.heap.size + 1, 0, none⟩ (.int .i64 7)).setCell ⟨w.heap.size + 1, 1, none⟩ (.int .i64 (a : Int)) = W at hR6 hB6 ⊢
                            obtain ⟨z0, z1, _, _⟩ := hR6.two
                            exact bodyPost_ret (v := .agg #[.int .i64 7, .int .i64 (a : Int)]) (by simp [results, Tryz.results18, go_sem, z0, z1]) rfl ⟨by rw [gf_false HT.out HO.out hlta HASS.out HA.out], hB6⟩
                        · have hcn : c = n := by omega
                          subst hcn
                          go_wp2
                          go_roundw
                          case rel => exact ⟨b + 1, by omega, by go_num, fun d e hd he => by
                            by_cases h : d = b
                            · rw [h]; exact HC.out e he
                            · exact HBB.out d e (by omega) he, hB4⟩
                          case measure => simp [intOf]; omega
                    · have hbn : b = n := by omega
                      subst hbn
                      go_wp2
                      go_roundw
                      case rel => exact ⟨a + 1, by omega, by go_num, fun t ht => by
                        by_cases e : t = a
                        · rw [e]; exact assB_iff.2 (fun d c hd hc => HBB.out d c hd hc)
                        · exact HA.out t (by omega), hB3⟩
                      case measure => simp [intOf]; omega
                · have han : a = n := by omega
                  subst han
                  go_wp2
                  clear d0 d1
                  go_loopw [7] (fun i wr => ∃ k : Nat, k ≤ a ∧ i = .int .i64 k ∧ (∀ t, t < k → invR a zs t ≠ -1) ∧ Below w0.heap.size w0 wr) (fun i _ => a - (intOf i).toNat)
                  case atStart => exact ⟨0, Nat.zero_le _, rfl, fun b hb => by omega, hB2⟩
                  case round =>
                    obtain ⟨b, hkb, rfl, hno, hB3⟩ := hrel
                    have HK := hide hno
                    have d0 := below_cell hB3 g0
                    have d1 := below_cell hB3 g1
                    clear hno
                    by_cases hltb : b < a
                    · go_wp2_with fail
                      refine (I_ok a b _ zs _ HT.out (hv0.below hB3) hltb).mono ?_
                      rintro e w2 ⟨rfl, hb2⟩
                      have hB4 := bcat2 hB3 hb2
                      have HIN := hide (invR_neg (n := a) (zs := zs) (a := b))
                      clear d0 d1
                      by_cases hin : invR a zs b < 0
                      · go_wp2_with fail
                        refine (f_any 4 (b : Int) _).mono ?_
                        rintro e w9 ⟨rfl, hb9⟩
                        have hB9 := bcat2 hB4 hb9
                        have hR9 := blk_below hR0 hB9
                        have hBw9 := bcat hB0 hB9 hB0.size
                        obtain ⟨y0, y1, fy0, fy1⟩ := hR9.two
                        obtain ⟨hR6, hB6⟩ := put2 hR9 hBw9 (by omega) 4 (b : Int)
                        go_wp2
                        generalize (w9.setCell ⟨w.heap.size + 1, 0, none⟩ (.int .i64 4)).setCell ⟨w.heap.size + 1, 1, none⟩ (.int .i64 (b : Int)) = W at hR6 hB6 ⊢
                        obtain ⟨z0, z1, _, _⟩ := hR6.two
                        exact bodyPost_ret (v := .agg #[.int .i64 4, .int .i64 (b : Int)]) (by simp [results, Tryz.results18, go_sem, z0, z1]) rfl ⟨by rw [gf_kind HT.out HO.out HA.out hltb (HIN.out.1 hin) HK.out], hB6⟩
                      · go_wp2
                        go_roundw
                        case rel => exact ⟨b + 1, by omega, by go_num, fun t ht => by
                          by_cases e : t = b
                          · rw [e]; exact fun h => by have := HIN.out.2 h; omega
                          · exact HK.out t (by omega), hB4⟩
                        case measure => simp [intOf]; omega
                    · have hbn : b = a := by omega
                      subst hbn
                      have hR3 := blk_below hR0 hB3
                      obtain ⟨_, y0, y1, fy0, fy1, s0, s1⟩ := Two.mk' hR3
                      go_wp2
                      exact bodyPost_ret (v := .agg #[.int .i64 0, .int .i64 0]) (by simp [results, Tryz.results18, go_sem, y0, y1]) rfl ⟨by rw [gf_ok HT.out HO.out HA.out HK.out], bcat hB0 hB3 hB0.size⟩
      · have hf : gfault n zs = (8, 0) := gf_ef (by
          unfold efault
          rw [if_neg (by omega), if_pos (by rw [hm]; omega)]) (by simp)
        have hbe : ((zs.length : Int) != ((n * n : Nat) : Int)) = true := by simp; omega
        rw [hf]
        clear hf
        generalize n * n = q at *
        clear h3
        go_enter Tryz.func18, Tryz.ntmps18
        go_wp2_with fail
        rw [← hw0]
        clear hw0 c0 c1
        refine (f_any 8 0 _).mono ?_
        rintro e w9 ⟨rfl, hb9⟩
        have hB9 := bcat2 (Below.refl _ w0) hb9
        have hR9 := blk_below hR0 hB9
        have hBw9 := bcat hB0 hB9 hB0.size
        obtain ⟨y0, y1, fy0, fy1⟩ := hR9.two
        obtain ⟨hR6, hB6⟩ := put2 hR9 hBw9 (by omega) 8 0
        go_wp2
        generalize (w9.setCell ⟨w.heap.size + 1, 0, none⟩ (.int .i64 8)).setCell ⟨w.heap.size + 1, 1, none⟩ (.int .i64 0) = W at hR6 hB6 ⊢
        obtain ⟨z0, z1, _, _⟩ := hR6.two
        exact bodyPost_ret (v := .agg #[.int .i64 8, .int .i64 0]) (by simp [results, Tryz.results18, go_sem, z0, z1]) rfl ⟨rfl, hB6⟩
end Go.Proofs.YtgejngpioldhpaaGreatDoor

namespace Go.Proofs.YtgejngpioldhpaaGreatDoor
open Go Go.RowKit

/-- The number that goes with a fault: none where there is one. -/
def okI (c x : Int) : Int := if c = 0 then x else 0
theorem okI_zero (x : Int) : okI 0 x = x := if_pos rfl
/-- What is wrong with a table, and then with a number as its thing. -/
def tfault (N : Int) (zs : List Int) (a : Int) : Int × Int := if (gfault N zs).1 ≠ 0 then gfault N zs else if 0 ≤ a ∧ a < N then (0, 0) else (3, 1)

/-- What lies where a function of a table begins: the table in a block of its own, and a fault behind it. -/
structure Beg (w w0 : World) (N : Int) (v : Value) : Prop where
  eq : w0 = (w.alloc (.cells #[.int .i64 N, v] 24)).alloc (.cells #[.int .i64 0, .int .i64 0] 27)
  bel : Below w.heap.size w w0
  box : BoxG w0 w.heap.size N v
  res : Blk w0 (w.heap.size + 1) 27 [.int .i64 0, .int .i64 0]
theorem Beg.new (w : World) (N : Int) (v : Value) : ∃ w0, Beg w w0 N v := by
  refine ⟨_, rfl, (balloc w _).alloc (by simp) _, (blk0 _ _).alloc _, ?_⟩
  have := Two.new (w.alloc (.cells #[.int .i64 N, v] 24))
  rw [World.size_alloc] at this; exact this.blk

set_option maxRecDepth 100000 in
set_option maxHeartbeats 4000000 in
theorem one_any (N : Int) (v : Value) (zs : List Int) (w : World) (hv : Sl w v zs) :
    Calls Tryz.prog 76 #[.agg #[.int .i64 N, v]] w fun x w' => x = .returned (.tuple #[.int .i64 (okI (gfault N zs).1 (one N.toNat zs)), .agg #[.int .i64 (gfault N zs).1, .int .i64 (gfault N zs).2]]) ∧ Below w.heap.size w w' := by
  obtain ⟨w0, BG⟩ := Beg.new w N v
  have hv0 := hv.below BG.bel
  obtain ⟨c0, c1, _, _⟩ := BG.box.two
  have hck := check_any N v zs w0 hv0
  obtain ⟨c, i, hci⟩ : ∃ c i, gfault N zs = (c, i) := ⟨_, _, rfl⟩
  rw [hci] at hck ⊢
  have HCK := hide hck
  have HCI := hide hci
  clear hck hci
  by_cases hc : c = 0
  · subst hc
    obtain ⟨n, e, rfl, hgr, hg0⟩ := gfault_grp (N := N) (zs := zs) (by rw [HCI.out])
    obtain rfl : i = 0 := by have := congrArg Prod.snd (HCI.out.symm.trans hg0); exact this
    simp only [okI_zero, Int.toNat_natCast]
    have HO := hide (fun W (h : Sl W v zs) => oneOf_ok n v zs W hgr.tab h)
    generalize one n zs = o at *
    clear hgr hg0 HCI
    rw [BG.eq] at c0 c1
    go_enter Tryz.func76, Tryz.ntmps76
    go_wp2_with fail
    rw [← BG.eq]
    refine HCK.out.mono ?_
    rintro x w1 ⟨rfl, hb1⟩
    clear c0 c1
    have hB1 := bcat2 hb1 (balloc w1 (.cells #[.int .i64 0, .int .i64 0] 27))
    obtain ⟨k0, k1, _, _⟩ := (blk_below BG.box hB1).two
    go_wp2_with fail
    refine (HO.out _ (hv0.below hB1)).mono ?_
    rintro x w2 ⟨rfl, hb2⟩
    have hB2 := bcat2 hB1 hb2
    have hBw := bcat BG.bel hB2 BG.bel.size
    obtain ⟨_, y0, y1, fy0, fy1, s0, s1⟩ := Two.mk' (blk_below BG.res hB2)
    clear k0 k1
    go_wp2
    exact bodyPost_ret (v := .tuple #[.int .i64 o, .agg #[.int .i64 0, .int .i64 0]]) (by simp [results, Tryz.results76, go_sem, y0, y1]) rfl ⟨rfl, hBw⟩
  · have hcb : (c != 0) = true := by simpa using hc
    clear HCI
    rw [BG.eq] at c0 c1
    go_enter Tryz.func76, Tryz.ntmps76
    go_wp2_with fail
    rw [← BG.eq]
    refine (HCK.out).mono ?_
    rintro x w1 ⟨rfl, hb1⟩
    clear c0 c1
    have hB1 := bcat2 hb1 (balloc w1 (.cells #[.int .i64 c, .int .i64 i] 27))
    have hR1 := blk_below BG.res hB1
    have hF1 : Blk (w1.alloc (.cells #[.int .i64 c, .int .i64 i] 27)) w1.heap.size 27 [.int .i64 c, .int .i64 i] := blk0 _ _
    have hBw := bcat BG.bel hB1 BG.bel.size
    have hs9 : w.heap.size + 1 < w1.heap.size := (blk_below BG.res hb1).lt
    obtain ⟨y0, y1, fy0, fy1⟩ := hR1.two
    obtain ⟨t0, t1, _, _⟩ := hF1.two
    go_wp2_with fail
    generalize w1.alloc (.cells #[.int .i64 c, .int .i64 i] 27) = w2 at *
    go_region
    go_wp2
    obtain ⟨hR6, hB6⟩ := put2 hR1 hBw (by omega) c i
    have hB7 := bdrew hB6
    have hR7 : Blk ((w2.setCell ⟨w.heap.size + 1, 0, none⟩ (.int .i64 c)).setCell ⟨w.heap.size + 1, 1, none⟩ (.int .i64 i)).drew (w.heap.size + 1) 27 [.int .i64 c, .int .i64 i] := hR6
    generalize ((w2.setCell ⟨w.heap.size + 1, 0, none⟩ (.int .i64 c)).setCell ⟨w.heap.size + 1, 1, none⟩ (.int .i64 i)).drew = W at hR7 hB7 ⊢
    obtain ⟨z0, z1, _, _⟩ := hR7.two
    exact bodyPost_ret (v := .tuple #[.int .i64 0, .agg #[.int .i64 c, .int .i64 i]]) (by simp [results, Tryz.results76, go_sem, z0, z1]) rfl ⟨by simp [okI, hc], hB7⟩

theorem tfault_grp {N a : Int} {zs : List Int} (h : (tfault N zs a).1 = 0) : ∃ n e b : Nat, N = n ∧ a = b ∧ IsGrp n zs e ∧ b < n ∧ tfault N zs a = (0, 0) := by
  unfold tfault at h ⊢
  by_cases h1 : (gfault N zs).1 ≠ 0
  · rw [if_pos h1] at h; exact absurd h h1
  · rw [if_neg h1] at h ⊢
    obtain ⟨n, e, rfl, hg, _⟩ := gfault_grp (Decidable.not_not.1 h1)
    by_cases h2 : 0 ≤ a ∧ a < n
    · rw [if_pos h2]
      exact ⟨n, e, a.toNat, rfl, by omega, hg, by omega, rfl⟩
    · rw [if_neg h2] at h; cases h

end Go.Proofs.YtgejngpioldhpaaGreatDoor

namespace Go.Proofs.YtgejngpioldhpaaGreatDoor
open Go Go.RowKit

/-- Do all things commute? -/
def comB (n : Nat) (zs : List Int) : Bool := (List.range n).all fun a => (List.range n).all fun b => tm n zs a b == tm n zs b a
theorem comB_iff {n : Nat} {zs : List Int} : comB n zs = true ↔ ∀ a b, a < n → b < n → tm n zs a b = tm n zs b a := by
  unfold comB
  simp only [List.all_eq_true, List.mem_range, beq_iff_eq]
  exact ⟨fun h a b ha hb => h a ha b hb, fun h a ha b hb => h a b ha hb⟩
theorem div_mod_lt {n i : Nat} (hi : i < n * n) : i / n < n ∧ i % n < n := by
  have hn : 0 < n := by
    rcases Nat.eq_zero_or_pos n with h | h
    · subst h; simp at hi
    · exact h
  exact ⟨Nat.div_lt_of_lt_mul hi, Nat.mod_lt _ hn⟩
theorem com_least {n : Nat} {zs : List Int} (_hn : 0 < n) : decide (least (n * n) (fun i => tm n zs (i / n) (i % n) != tm n zs (i % n) (i / n)) = -1) = comB n zs := by
  rw [Bool.eq_iff_iff, decide_eq_true_eq, least_neg, comB_iff]
  constructor
  · intro h a b ha hb
    have h1 := h (a * n + b) (place_lt ha hb)
    have e1 : (a * n + b) / n = a := by rw [Nat.mul_comm, Nat.mul_add_div (by omega), Nat.div_eq_of_lt hb, Nat.add_zero]
    have e2 : (a * n + b) % n = b := by rw [Nat.mul_comm, Nat.mul_add_mod, Nat.mod_eq_of_lt hb]
    rw [e1, e2] at h1
    simpa using h1
  · intro h i hi
    obtain ⟨h1, h2⟩ := div_mod_lt hi
    simpa using h _ _ h1 h2

/-- What goes with a fault, where a Boolean is answered. -/
def okB (c : Int) (x : Bool) : Bool := decide (c = 0) && x

end Go.Proofs.YtgejngpioldhpaaGreatDoor

namespace Go.Proofs.YtgejngpioldhpaaGreatDoor
open Go Go.RowKit

theorem list_ext {xs ys : List Int} (hl : xs.length = ys.length) (h : ∀ i, i < xs.length → xs[i]?.getD 0 = ys[i]?.getD 0) : xs = ys := by
  apply List.ext_getElem hl
  intro i h1 h2
  have := h i h1
  rw [List.getElem?_eq_getElem h1, List.getElem?_eq_getElem h2] at this
  simpa using this
theorem ext_getD {xs ys : List Int} (hl : xs.length = ys.length) (h : ∀ j, j < xs.length → xs[j]?.getD 0 = ys[j]?.getD 0) : xs = ys := by
  apply List.ext_getElem hl
  intro i h1 h2
  have := h i h1
  rw [List.getElem?_eq_getElem h1, List.getElem?_eq_getElem h2] at this
  simpa using this

set_option maxRecDepth 100000 in
set_option maxHeartbeats 2000000 in
theorem ints_any (u v : Value) (xs ys : List Int) (w : World) (hu : Sl w u xs) (hv : Sl w v ys) :
    Calls Tryz.prog 38 #[u, v] w fun e w' => e = .returned (.bool (decide (xs = ys))) ∧ Below w.heap.size w w' := by
  obtain ⟨a, cap, pb, po, rfl, hr, hp, hc1, hm1⟩ := hu
  obtain ⟨b, cap', qb, qo, rfl, hs, hq, hc2, hm2⟩ := hv
  unfold maxLen at hm1 hm2
  by_cases hl : xs.length = ys.length
  · go_enter Tryz.func38, Tryz.ntmps38
    have hbe : ((xs.length : Int) != (ys.length : Int)) = false := by simp [hl]
    have HL := hide hl
    have hle1 : xs.length ≤ ys.length := by omega
    have hle2 : ys.length ≤ xs.length := by omega
    clear hl
    go_wp2
    go_loopw [5] (fun i wr => ∃ k j : Nat, k ≤ xs.length ∧ i = .int .i64 k ∧ wr = w.drewN j ∧ ∀ t, t < k → xs[t]?.getD 0 = ys[t]?.getD 0) (fun i _ => xs.length - (intOf i).toNat)
    case atStart => exact ⟨0, 0, Nat.zero_le _, rfl, rfl, fun t ht => by omega⟩
    case round =>
      obtain ⟨k, j, hk, rfl, rfl, hsame⟩ := hrel
      have HS := hide hsame
      clear hsame
      by_cases hlt : k < xs.length
      · have hx := hr.cell k hlt
        have hy := hs.cell k (by omega)
        obtain rfl := hr.at_ (by omega)
        obtain rfl := hs.at_ (by omega)
        generalize hxe : xs[k]?.getD 0 = x at hx
        generalize hye : ys[k]?.getD 0 = y at hy
        have HX := hide hxe
        have HY := hide hye
        have hki : (k : Int) < (xs.length : Int) := by omega
        have hkj : (k : Int) < (ys.length : Int) := by omega
        clear hxe hye
        by_cases hxy : x = y
        · have hb : (x != y) = false := by simp [hxy]
          have HE := hide hxy
          clear hxy
          go_wp2
          go_quiet (fail)
          go_wp2
          go_roundw
          case rel => exact ⟨k + 1, _, by omega, by go_num, rfl, fun t ht => by
            by_cases e : t = k
            · rw [e, HX.out, HY.out]; exact HE.out
            · exact HS.out t (by omega)⟩
          case measure => simp [intOf]; omega
        · have hb : (x != y) = true := by simp [hxy]
          have hd : decide (xs = ys) = false := by
            rw [decide_eq_false_iff_not]
            intro e
            apply hxy
            rw [← HX.out, ← HY.out, e]
          have HD := hide hd
          clear hxy hd
          go_wp2
          go_quiet (fail)
          go_wp2
          go_ret
          exact ⟨by rw [HD.out]; rfl, bdrewN (bdrewN (Below.refl _ w) _) _⟩
      · have hd : decide (xs = ys) = true := by
          rw [decide_eq_true_eq]
          exact ext_getD HL.out (fun t ht => HS.out t (by omega))
        have HD := hide hd
        clear hd
        go_wp2
        go_ret
        exact ⟨by rw [HD.out]; rfl, bdrewN (Below.refl _ w) _⟩
  · have hbe : ((xs.length : Int) != (ys.length : Int)) = true := by simp; omega
    have hd : decide (xs = ys) = false := by
      rw [decide_eq_false_iff_not]
      intro e
      exact hl (by rw [e])
    have HD := hide hd
    clear hd hl
    go_enter Tryz.func38, Tryz.ntmps38
    go_wp2
    go_ret
    exact ⟨by rw [HD.out]; rfl, Below.refl _ w⟩


set_option maxRecDepth 100000 in
set_option maxHeartbeats 2000000 in
theorem own_any (u : Value) (zs : List Int) (w : World) (hu : Sl w u zs) (hb : zs.length * 8 ≤ 140737488355328) :
    Calls Tryz.prog 7 #[u] w fun e w' => ∃ r, e = .returned r ∧ w'.ownsRow w.heap.size 3 1 r zs.length (zs.map (Value.int .i64)) ∧ Below w.heap.size w w' := by
  obtain ⟨i0, hi, hz0, hz1, hz2⟩ := info_parts info3b
  obtain ⟨a, cap, pb, po, rfl, hr, hp, hq3, hq4⟩ := id hu
  rcases Nat.eq_zero_or_pos zs.length with hz | hpos
  · have hz : zs = [] := List.length_eq_zero_iff.1 hz
    subst hz
    cases a with
    | none =>
      go_enter Tryz.func7, Tryz.ntmps7
      go_wp2
      go_ret
      exact ⟨_, rfl, World.ownsRow_nil _ _ _ _, Below.refl _ _⟩
    | some x =>
      go_enter Tryz.func7, Tryz.ntmps7
      go_wp2
      go_ret
      exact ⟨_, rfl, World.ownsRow_nil _ _ _ _, Below.refl _ _⟩
  · obtain rfl := hr.at_ hpos
    go_enter Tryz.func7, Tryz.ntmps7
    go_wp2_with (first
      | (at_builtin; refine wpList_append_grows _ rfl _ _ 22 rfl 3 i0 (.int .i64 0) 1 8 under22b hi hz0 hz1 hz2 rfl (by decide) none 0 0 [] rfl (fun _ => ⟨rfl, rfl⟩) rfl (fun b hb => by cases hb) ⟨pb, po, none⟩ zs.length cap (zs.map (Value.int .i64)) rfl (by simp) ?c1 ?c2 ?c3 ?c4 ?c5 ?_))
    case c1 =>
      intro j v hj
      rw [List.getElem?_map] at hj
      obtain ⟨z, hz, rfl⟩ := Option.map_eq_some_iff.1 hj
      have hjl := (List.getElem?_eq_some_iff.1 hz).1
      have := hr.cell j hjl
      rw [hz] at this
      rw [show (⟨pb, po, none⟩ : Addr).add j = ⟨pb, po + j, none⟩ by unfold Addr.add; split <;> simp_all]
      exact this
    case c2 => intro v hv; obtain ⟨z, _, rfl⟩ := List.mem_map.1 hv; rfl
    case c3 => omega
    case c4 => unfold maxLen; omega
    case c5 => omega
    intro v' w' hown hg
    have hB : Below w.heap.size w w' := (Below.refl _ w).grown hg (Nat.le_refl _) (by simp)
    go_wp2
    go_ret
    exact ⟨_, rfl, hown, hB⟩


theorem own_slice {w : World} {base n : Nat} {v : Value} {xs : List Value} (h : w.ownsRow base 3 1 v n xs) : ∃ a cap, v = .slice a n cap := by
  rcases h.2 with ⟨rfl, rfl⟩ | ⟨g, cap, cur, rfl, _⟩
  · exact ⟨none, 0, rfl⟩
  · exact ⟨_, _, rfl⟩
theorem own_put {W W' : World} {base : Nat} {u : Value} {zs : List Int} (h : W.ownsRow base 3 1 u zs.length (zs.map (Value.int .i64))) (hk : ∀ b, base ≤ b → W'.heap[b]? = W.heap[b]?) (h0 : 0 < W'.heap.size) : Sl W' u zs := by
  refine Sl.of_own (base := base) ⟨h.1, ?_⟩ h0
  rcases h.2 with h2 | ⟨g, cap, cur, hv, hge, hh, rest⟩
  · exact .inl h2
  · exact .inr ⟨g, cap, cur, hv, hge, (hk g hge).trans hh, rest⟩
theorem undrew {a b : World} (h : Below a.drew.heap.size a.drew b) : Below a.heap.size a b := ⟨h.os, h.tape, h.output, h.size, h.block⟩

set_option maxRecDepth 100000 in
set_option maxHeartbeats 2000000 in
theorem ownGroup_any (N : Int) (v : Value) (zs : List Int) (w : World) (hv : Sl w v zs) (hb : zs.length * 8 ≤ 140737488355328) :
    Calls Tryz.prog 6 #[.agg #[.int .i64 N, v]] w fun e w' => ∃ u, e = .returned (.agg #[.int .i64 N, u]) ∧ Sl w' u zs ∧ Below w.heap.size w w' := by
  obtain ⟨w0, hw0⟩ : ∃ w0, w0 = (w.alloc (.cells #[.int .i64 N, v] 24)).alloc (.cells #[.int .i64 0, .slice none 0 0] 24) := ⟨_, rfl⟩
  have hB0 : Below w.heap.size w w0 := by rw [hw0]; exact (balloc w _).alloc (by simp) _
  have hg0 : BoxG w0 w.heap.size N v := by rw [hw0]; exact (blk0 _ _).alloc _
  have hR0 : Blk w0 (w.heap.size + 1) 24 [.int .i64 0, .slice none 0 0] := by
    rw [hw0]
    have : Blk ((w.alloc (.cells #[.int .i64 N, v] 24)).alloc (.cells #[.int .i64 0, .slice none 0 0] 24)) (w.alloc (.cells #[.int .i64 N, v] 24)).heap.size 24 [.int .i64 0, .slice none 0 0] := blk0 _ _
    rw [World.size_alloc] at this; exact this
  have hv0 := hv.below hB0
  obtain ⟨k0, k1, _, _⟩ := hg0.two
  obtain ⟨r0, r1, fr0, fr1⟩ := hR0.two
  obtain ⟨a, cap, pb, po, rfl, hr, hp, hq3, hq4⟩ := id hv
  have hS : ∀ W, Below w0.heap.size w0 W → (Below w.heap.size w W ∧ W.cell? ⟨w.heap.size, 0, none⟩ = some (.int .i64 N) ∧ W.cell? ⟨w.heap.size, 1, none⟩ = some (.slice a zs.length cap)) := fun W h => ⟨bcat hB0 h hB0.size, below_cell h k0, below_cell h k1⟩
  have hS3 : ∀ W u, Below w0.heap.size w0 W → (Below w.heap.size w ((W.setCell ⟨w.heap.size + 1, 0, none⟩ (.int .i64 N)).setCell ⟨w.heap.size + 1, 1, none⟩ u) ∧ ((W.setCell ⟨w.heap.size + 1, 0, none⟩ (.int .i64 N)).setCell ⟨w.heap.size + 1, 1, none⟩ u).cell? ⟨w.heap.size, 0, none⟩ = some (.int .i64 N) ∧ ((W.setCell ⟨w.heap.size + 1, 0, none⟩ (.int .i64 N)).setCell ⟨w.heap.size + 1, 1, none⟩ u).cell? ⟨w.heap.size, 1, none⟩ = some (.slice a zs.length cap)) := fun W u h => by
    have h1 : Below w.heap.size w W := bcat hB0 h hB0.size
    refine ⟨(h1.setCell (p := ⟨w.heap.size + 1, 0, none⟩) (by simp) _).setCell (p := ⟨w.heap.size + 1, 1, none⟩) (by simp) _, ?_, ?_⟩
    · rw [World.cell?_setCell_far _ _ _ _ (by simp), World.cell?_setCell_far _ _ _ _ (by simp)]; exact below_cell h k0
    · rw [World.cell?_setCell_far _ _ _ _ (by simp), World.cell?_setCell_far _ _ _ _ (by simp)]; exact below_cell h k1
  have hS0 := hS _ (bdrew (Below.refl _ w0))
  clear k0 k1 r0 r1 fr0 fr1
  go_enter Tryz.func6, Tryz.ntmps6
  go_wp2_with fail
  rw [← hw0]
  clear hw0
  go_region_held3 (fun W => Below w.heap.size w W ∧ W.cell? ⟨w.heap.size, 0, none⟩ = some (.int .i64 N) ∧ W.cell? ⟨w.heap.size, 1, none⟩ = some (.slice a zs.length cap))
    (first | exact hS0 | assumption | exact hS _ hl2 | exact hS3 _ _ hl2)
    (first | (go_at_call 7; refine (own_any _ zs _ (hv.below (And.left ‹_›)) hb).mono ?_; rintro e W1 ⟨u, rfl, hu1, hl1⟩; obtain ⟨a9, cap9, rfl⟩ := own_slice hu1; have hl2 := undrew hl1; obtain ⟨y0, y1, fy0, fy1⟩ := (blk_below hR0 hl2).two))
  have hR1 := blk_below hR0 hl2
  have hBw := bcat hB0 hl2 hB0.size
  have hs9 := hR0.lt
  have hu2 : Sl ((W1.setCell ⟨w.heap.size + 1, 0, none⟩ (.int .i64 N)).setCell ⟨w.heap.size + 1, 1, none⟩ (.slice a9 zs.length cap9)) (.slice a9 zs.length cap9) zs := own_put hu1 (fun b hb => by
    have hb : w0.heap.size ≤ b := hb
    rw [Below.heap_setCell _ _ _ _ (by simp; omega), Below.heap_setCell _ _ _ _ (by simp; omega)]) (by rw [size_set, size_set]; have := hR1.lt; omega)
  have hR6 : Blk ((W1.setCell ⟨w.heap.size + 1, 0, none⟩ (.int .i64 N)).setCell ⟨w.heap.size + 1, 1, none⟩ (.slice a9 zs.length cap9)) (w.heap.size + 1) 24 [.int .i64 N, .slice a9 zs.length cap9] := (hR1.set 0 _).set 1 _
  have hB6 := (hBw.setCell (p := ⟨w.heap.size + 1, 0, none⟩) (by simp) (.int .i64 N)).setCell (p := ⟨w.heap.size + 1, 1, none⟩) (by simp) (.slice a9 zs.length cap9)
  clear y0 y1 fy0 fy1 hS hS3 hS0
  go_wp2
  generalize (W1.setCell ⟨w.heap.size + 1, 0, none⟩ (.int .i64 N)).setCell ⟨w.heap.size + 1, 1, none⟩ (.slice a9 zs.length cap9) = W at hR6 hB6 hu2 ⊢
  obtain ⟨z0, z1, _, _⟩ := hR6.two
  exact bodyPost_ret (v := .agg #[.int .i64 N, .slice a9 zs.length cap9]) (by simp [results, Tryz.results6, go_sem, z0, z1]) rfl ⟨_, rfl, hu2, hB6⟩
end Go.Proofs.YtgejngpioldhpaaGreatDoor

namespace Go.Proofs.YtgejngpioldhpaaGreatDoor
open Go Go.RowKit

/-- The value of package sub's group: a table, its one, its inverses. -/
def gw (n : Nat) (v : Value) (e : Nat) (u : Value) : Value := .agg #[.int .i64 n, v, .int .i64 e, u]
/-- A group that lies in memory, with what is known of it. -/
structure GA (w : World) (n : Nat) (v : Value) (e : Nat) (u : Value) (zs : List Int) : Prop where
  grp : IsGrp n zs e
  mul : Sl w v zs
  inv : Sl w u (li ((List.range n).map (iv n zs e)))
theorem GA.below {w w' : World} {n e : Nat} {v u : Value} {zs : List Int} (h : GA w n v e u zs) (hb : Below w.heap.size w w') : GA w' n v e u zs := ⟨h.grp, h.mul.below hb, h.inv.below hb⟩
theorem GA.le {w : World} {n e : Nat} {v u : Value} {zs : List Int} (h : GA w n v e u zs) : n ≤ 60 := h.grp.tab.le
theorem blk4 {w : World} {T : TypeId} (a b c d : Value) : Blk (w.alloc (.cells #[a, b, c, d] T)) w.heap.size T [a, b, c, d] := World.alloc_heap_new w _
theorem or_bs (p q : Nat → Bool) {n : Nat} (hn : n ≤ 60) : bits BinOp.or IntKind.u64 (bs p n : Int) (bs q n : Int) = (bs (fun a => p a || q a) n : Int) := by
  rw [bits_or_u64_nat _ _ (bs_64 hn) (bs_64 hn), bs_or]
theorem and_bs (p q : Nat → Bool) {n : Nat} (hn : n ≤ 60) : bits BinOp.and IntKind.u64 (bs p n : Int) (bs q n : Int) = (bs (fun a => p a && q a) n : Int) := by
  rw [bits_and_u64_nat _ _ (bs_64 hn) (bs_64 hn), bs_and]

/-- A set of one thing. -/
theorem of_one (n b j : Nat) (w : World) (hn : n ≤ 60) (hj : j < n) (hc : w.cell? ⟨b, 0, none⟩ = some (.int .i64 j)) :
    Calls Tryz.prog 26 #[.slice (some ⟨b, 0, none⟩) 1 1] w fun e w' => e = .returned (.int .u64 (bs (fun a => decide (a = j)) n)) ∧ w' = w := by
  have := of_ok n (.slice (some ⟨b, 0, none⟩) 1 1) [j] w hn (by simp) ⟨some ⟨b, 0, none⟩, 1, b, 0, rfl, ⟨fun _ => rfl, fun k hk => by
    have : k = 0 := by simp [li] at hk; omega
    subst this
    exact hc⟩, World.block_lt_of_cell? w _ hc, by simp [li], by unfold maxLen; omega⟩ (fun x hx => by simp at hx; omega)
  simpa using this

set_option maxRecDepth 100000 in
set_option maxHeartbeats 1000000 in
theorem prd_ok (n : Nat) (v u : Value) (zs : List Int) (e a b : Nat) (w : World) (ht : IsTab n zs) (hv : Sl w v zs) (ha : a < n) (hb : b < n) :
    Calls Tryz.prog 79 #[.agg #[.int .i64 n, v, .int .i64 e, u], .int .i64 a, .int .i64 b] w fun x w' => x = .returned (.int .i64 (tm n zs a b)) ∧ Below w.heap.size w w' := by
  have hlt := place_lt ha hb
  have hle := ht.le
  have hlen := ht.len
  have hn2 : n * n ≤ 60 * 60 := Nat.mul_le_mul hle hle
  have hg := tm_get ht ha hb
  have han : a * n ≤ 60 * 60 := Nat.mul_le_mul (by omega) (by omega)
  have hB0 : Below w.heap.size w (w.alloc (.cells #[.int .i64 n, v, .int .i64 e, u] 51)) := balloc w _
  have N0 : Blk (w.alloc (.cells #[.int .i64 n, v, .int .i64 e, u] 51)) w.heap.size 51 [.int .i64 n, v, .int .i64 e, u] := blk4 _ _ _ _
  obtain ⟨x, cap, pb, po, rfl, hr, hp, hq3, hq4⟩ := hv.below hB0
  obtain rfl := hr.at_ (by omega)
  have hc := hr.cell (a * n + b) (by omega)
  rw [hg] at hc
  have c0 := N0.cell 0
  have c1 := N0.cell 1
  simp at c0 c1
  have hi : ((a * n + b : Nat) : Int) < (zs.length : Int) := by omega
  have hm : ((a : Int) * (n : Int)) = ((a * n : Nat) : Int) := by rw [Int.natCast_mul]
  have HLEN := hide hlen
  have HB0 := hide hB0
  generalize hk : a * n = k at *
  generalize tm n zs a b = r at *
  clear hlen hB0 hg hn2 hk
  go_enter Tryz.func79, Tryz.ntmps79
  go_wp2
  go_ret
  exact ⟨rfl, HB0.out⟩

/-- A group's box. -/
structure Box4 (W : World) (b n e : Nat) (v u : Value) : Prop where
  blk : Blk W b 51 [.int .i64 n, v, .int .i64 e, u]
theorem Box4.cells {W : World} {b n e : Nat} {v u : Value} (h : Box4 W b n e v u) : W.cell? ⟨b, 0, none⟩ = some (.int .i64 n) ∧ W.cell? ⟨b, 1, none⟩ = some v ∧ W.cell? ⟨b, 2, none⟩ = some (.int .i64 e) ∧ W.cell? ⟨b, 3, none⟩ = some u :=
  ⟨h.blk.cell 0, h.blk.cell 1, h.blk.cell 2, h.blk.cell 3⟩
theorem Box4.below {W W' : World} {b n e : Nat} {v u : Value} (h : Box4 W b n e v u) (hb : Below W.heap.size W W') : Box4 W' b n e v u := ⟨blk_below h.blk hb⟩
theorem Box4.new (w : World) (n e : Nat) (v u : Value) : Box4 (w.alloc (.cells #[.int .i64 n, v, .int .i64 e, u] 51)) w.heap.size n e v u := ⟨blk4 _ _ _ _⟩

theorem ivs_at {n e : Nat} {zs : List Int} {a : Nat} (ha : a < n) : (li ((List.range n).map (iv n zs e)))[a]?.getD 0 = (iv n zs e a : Int) := by
  simp [li, ha]
theorem ivs_len {n e : Nat} {zs : List Int} : (li ((List.range n).map (iv n zs e))).length = n := by simp [li]

set_option maxRecDepth 100000 in
set_option maxHeartbeats 2000000 in
theorem conj_ok (n : Nat) (v u : Value) (zs : List Int) (e x a : Nat) (w : World) (hG : GA w n v e u zs) (hx : x < n) (ha : a < n) :
    Calls Tryz.prog 92 #[.agg #[.int .i64 n, v, .int .i64 e, u], .int .i64 x, .int .i64 a] w fun y w' => y = .returned (.int .i64 (Fin.cj (tm n zs) (iv n zs e) x a)) ∧ Below w.heap.size w w' := by
  obtain ⟨hi, hi1, hi2, _⟩ := iv_spec hG.grp ha
  have heq : Fin.cj (tm n zs) (iv n zs e) x a = tm n zs (tm n zs (iv n zs e a) x) a := by
    unfold Fin.cj
    rw [hG.grp.ass _ _ _ hi hx ha]
  rw [heq]
  have hB0 : Below w.heap.size w (w.alloc (.cells #[.int .i64 n, v, .int .i64 e, u] 51)) := balloc w _
  have N0 := Box4.new w n e v u
  have hG0 := hG.below hB0
  obtain ⟨w0, hw0⟩ : ∃ w0, w0 = w.alloc (.cells #[.int .i64 n, v, .int .i64 e, u] 51) := ⟨_, rfl⟩
  rw [← hw0] at hB0 N0 hG0
  have ht := tm_lt hG.grp.tab hi hx
  have HP1 := hide (fun W (h : Below w0.heap.size w0 W) => prd_ok n v u zs e (iv n zs e a) x W hG.grp.tab (hG0.mul.below h) hi hx)
  have HP2 := hide (fun W (h : Below w0.heap.size w0 W) => prd_ok n v u zs e (tm n zs (iv n zs e a) x) a W hG.grp.tab (hG0.mul.below h) ht ha)
  obtain ⟨y, cap, pb, po, rfl, hr, hp, hq3, hq4⟩ := hG0.inv
  rw [ivs_len] at hq3
  have hiv := hr.cell a (by rw [ivs_len]; exact ha)
  rw [ivs_at ha] at hiv
  obtain rfl := hr.at_ (by rw [ivs_len]; omega)
  rw [ivs_len] at *
  clear hr hG hG0 hi1 hi2 heq
  generalize tm n zs (tm n zs (iv n zs e a) x) a = r at *
  generalize tm n zs (iv n zs e a) x = t at *
  generalize iv n zs e a = i at *
  have hai : (a : Int) < (n : Int) := by omega
  have hS : ∀ W, Below w0.heap.size w0 W → (Below w0.heap.size w0 W ∧ W.cell? ⟨w.heap.size, 0, none⟩ = some (.int .i64 n) ∧ W.cell? ⟨w.heap.size, 1, none⟩ = some v ∧ W.cell? ⟨w.heap.size, 2, none⟩ = some (.int .i64 e) ∧ W.cell? ⟨w.heap.size, 3, none⟩ = some (.slice (some ⟨pb, po, none⟩) n cap) ∧ W.cell? ⟨pb, po + a, none⟩ = some (.int .i64 i)) := fun W h => by
    obtain ⟨c0, c1, c2, c3⟩ := (N0.below h).cells
    exact ⟨h, c0, c1, c2, c3, below_cell h hiv⟩
  have hS0 := hS _ (bdrew (Below.refl _ w0))
  clear hiv N0
  go_enter Tryz.func92, Tryz.ntmps92
  go_wp2_with fail
  rw [← hw0]
  clear hw0
  go_region_held3 (fun W => Below w0.heap.size w0 W ∧ W.cell? ⟨w.heap.size, 0, none⟩ = some (.int .i64 n) ∧ W.cell? ⟨w.heap.size, 1, none⟩ = some v ∧ W.cell? ⟨w.heap.size, 2, none⟩ = some (.int .i64 e) ∧ W.cell? ⟨w.heap.size, 3, none⟩ = some (.slice (some ⟨pb, po, none⟩) n cap) ∧ W.cell? ⟨pb, po + a, none⟩ = some (.int .i64 i))
    (first | exact hS0 | assumption | exact hS _ (bcat2 (And.left ‹_›) hl1))
    (first
      | (go_at_call_of 79 (Value.int IntKind.i64 (i : Int)); refine (HP1.out _ (And.left ‹_›)).mono ?_; rintro e1 W1 ⟨rfl, hl1⟩)
      | (go_at_call_of 79 (Value.int IntKind.i64 (t : Int)); refine (HP2.out _ (And.left ‹_›)).mono ?_; rintro e2 W2 ⟨rfl, hl1⟩))
  all_goals (
    have hB9 := And.left ‹Below w0.heap.size w0 W2 ∧ _›
    go_wp2
    go_ret
    exact ⟨rfl, bcat hB0 hB9 hB0.size⟩)

set_option maxRecDepth 100000 in
set_option maxHeartbeats 1000000 in
theorem those_ok (n k : Nat) (v u : Value) (e : Nat) (caps : Array Value) (p : Nat → Bool) (w : World) (hn : n ≤ 60)
    (hcall : ∀ a W, Sem.run Tryz.prog (callFunc k (#[.int .i64 a] ++ caps)) W = .ok (.enter k (#[.int .i64 a] ++ caps)) W)
    (hp : ∀ (W : World) (a : Nat), Below w.heap.size w W → a < n → Calls Tryz.prog k (#[.int .i64 a] ++ caps) W fun e w' => e = .returned (.bool (p a)) ∧ Below W.heap.size W w') :
    Calls Tryz.prog 55 #[.agg #[.int .i64 n, v, .int .i64 e, u], .func (.func k) #[] caps] w fun x w' => x = .returned (.int .u64 (bs p n)) ∧ Below w.heap.size w w' := by
  have HP := hide hp
  clear hp
  have hB0 : Below w.heap.size w (w.alloc (.cells #[.int .i64 n, v, .int .i64 e, u] 51)) := balloc w _
  have N0 := Box4.new w n e v u
  obtain ⟨c0, c1, c2, c3⟩ := N0.cells
  go_enter Tryz.func55, Tryz.ntmps55
  go_wp2
  go_loopw [5, 10] (fun s i wr => ∃ j : Nat, j ≤ n ∧ i = .int .i64 j ∧ s = .int .u64 (bs (fun a => p a && decide (a < j)) n) ∧ Below w.heap.size w wr) (fun _ i _ => n - (intOf i).toNat)
  case atStart => exact ⟨0, Nat.zero_le _, rfl, by simp [bs_none], hB0⟩
  case round =>
    obtain ⟨j, hj, rfl, rfl, hB⟩ := hrel
    clear c0 c1 c2 c3
    by_cases hlt : j < n
    · go_wp2_with fail
      refine (HP.out wr j hB hlt).mono ?_
      rintro e1 w1 ⟨rfl, hb1⟩
      have hB1 := bcat hB hb1 hB.size
      cases hpj : p j with
      | true =>
        have HE := hide (show bs (fun a => (p a && decide (a < j)) || decide (a = j)) n = bs (fun a => p a && decide (a < j + 1)) n from bs_ext fun a _ => by
          by_cases h1 : a = j
          · subst h1; simp [hpj]
          · have : a < j + 1 ↔ a < j := by omega
            simp [h1, this])
        have hor := or_bs (fun a => p a && decide (a < j)) (fun a => decide (a = j)) hn
        rw [HE.out] at hor
        have hB2 := hB1.alloc hB1.size (.cells #[.int .i64 j] 3)
        go_wp2_with fail
        refine (of_one n w1.heap.size j _ hn hlt (cell_one_new _ _ _ 0 _ rfl)).mono ?_
        rintro e2 w2 ⟨rfl, rfl⟩
        go_wp2
        go_roundw
        case rel => exact ⟨j + 1, by omega, by go_num, rfl, hB2⟩
        case measure => simp [intOf]; omega
      | false =>
        have HE := hide (show bs (fun a => p a && decide (a < j)) n = bs (fun a => p a && decide (a < j + 1)) n from bs_ext fun a _ => by
          by_cases h1 : a = j
          · subst h1; simp [hpj]
          · have : a < j + 1 ↔ a < j := by omega
            simp [this])
        go_wp2
        go_roundw
        case rel => exact ⟨j + 1, by omega, by go_num, by rw [HE.out], hB1⟩
        case measure => simp [intOf]; omega
    · have hjn : j = n := by omega
      subst hjn
      have HE := hide (show bs (fun a => p a && decide (a < j)) j = bs p j from bs_ext fun a ha => by simp [ha])
      go_wp2
      go_ret
      exact ⟨by rw [← HE.out]; rfl, hB⟩
end Go.Proofs.YtgejngpioldhpaaGreatDoor

namespace Go.Proofs.YtgejngpioldhpaaGreatDoor
open Go Go.RowKit

theorem cell1 (w : World) (v : Value) (t : TypeId) : (w.alloc (.cells #[v] t)).cell? ⟨w.heap.size, 0, none⟩ = some v := Boxed.cell (Boxed.new w t v)
theorem cell1d (w : World) (v : Value) (t : TypeId) : (w.alloc (.cells #[v] t)).drew.cell? ⟨w.heap.size, 0, none⟩ = some v := cell1 w v t
/-- What is found so far: a set in a box of its own, a list in another one, whose memory lies from B on. -/
structure Fnd (W : World) (B sb fb n : Nat) (F : List Nat) : Prop where
  sub : Boxed W sb 55 (.int .u64 (bs (fun a => decide (a ∈ F)) n))
  fnd : ∃ fv, Boxed W fb 22 fv ∧ W.ownsRow B 3 1 fv F.length ((li F).map (Value.int .i64))
  ne : sb ≠ fb
  slt : sb < B
  flt : fb < B
/-- Nothing below B has turned but two boxes. -/
structure Chg (B sb fb : Nat) (w w' : World) : Prop where
  os : w'.os = w.os
  tape : w'.tape = w.tape
  output : w'.output = w.output
  size : w.heap.size ≤ w'.heap.size
  block : ∀ k, k < B → k ≠ sb → k ≠ fb → w'.heap[k]? = w.heap[k]?
theorem Chg.refl (B sb fb : Nat) (w : World) : Chg B sb fb w w := ⟨rfl, rfl, rfl, Nat.le_refl _, fun _ _ _ _ => rfl⟩
theorem Chg.trans {B sb fb : Nat} {a b c : World} (h : Chg B sb fb a b) (k : Chg B sb fb b c) : Chg B sb fb a c :=
  ⟨k.os.trans h.os, k.tape.trans h.tape, k.output.trans h.output, Nat.le_trans h.size k.size, fun i h1 h2 h3 => (k.block i h1 h2 h3).trans (h.block i h1 h2 h3)⟩
theorem Chg.of_below {B sb fb : Nat} {a b : World} (h : Below a.heap.size a b) (hB : B ≤ a.heap.size) : Chg B sb fb a b := ⟨h.os, h.tape, h.output, h.size, fun i h1 _ _ => h.block i (by omega)⟩
theorem Chg.below {B sb fb g : Nat} {a b : World} (h : Chg B sb fb a b) (hg : g ≤ sb) (hf : g ≤ fb) (hB : g ≤ B) : Below g a b := ⟨h.os, h.tape, h.output, h.size, fun i hi => h.block i (by omega) (by omega) (by omega)⟩
theorem Fnd.below {W W' : World} {B sb fb n : Nat} {F : List Nat} (h : Fnd W B sb fb n F) (hb : Below W.heap.size W W') : Fnd W' B sb fb n F := by
  obtain ⟨h1, ⟨fv, h2, h3⟩, h4, h5, h6⟩ := h
  refine ⟨Boxed.below h1 hb, ⟨fv, Boxed.below h2 hb, ?_⟩, h4, h5, h6⟩
  refine ⟨h3.1, ?_⟩
  rcases h3.2 with h0 | ⟨g, cap, cur, hv, hg, hh, rest⟩
  · exact .inl h0
  · exact .inr ⟨g, cap, cur, hv, hg, (hb.block g (Array.getElem?_eq_some_iff.1 hh).1).trans hh, rest⟩

theorem own_keep {W W' : World} {B n : Nat} {v : Value} {xs : List Value} (h : W.ownsRow B 3 1 v n xs) (hk : ∀ g, B ≤ g → g < W.heap.size → W'.heap[g]? = W.heap[g]?) : W'.ownsRow B 3 1 v n xs := by
  refine ⟨h.1, ?_⟩
  rcases h.2 with h0 | ⟨g, cap, cur, hv, hg, hh, rest⟩
  · exact .inl h0
  · exact .inr ⟨g, cap, cur, hv, hg, (hk g hg (Array.getElem?_eq_some_iff.1 hh).1).trans hh, rest⟩

set_option maxRecDepth 100000 in
set_option maxHeartbeats 2000000 in
theorem take_ok (B sb fb n a : Nat) (F : List Nat) (w : World) (hF : Fnd w B sb fb n F) (hB : B ≤ w.heap.size) (hn : n ≤ 60) (ha : a < n) (hl : F.length ≤ 60) :
    Calls Tryz.prog 77 #[.int .i64 a, .pointer (some ⟨sb, 0, none⟩), .pointer (some ⟨fb, 0, none⟩)] w fun e w' => e = .returned (.tuple #[]) ∧ Fnd w' B sb fb n (if a ∈ F then F else F ++ [a]) ∧ Chg B sb fb w w' := by
  obtain ⟨i0, hi, hz0, hz1, hz2⟩ := info_parts info3b
  have hs := hF.sub.cell
  have hfz := hF.sub.frozen
  by_cases hin : a ∈ F
  · rw [if_pos hin]
    have HH := hide (has_ok n a (fun x => decide (x ∈ F)) w hn ha)
    simp only [hin, decide_true] at HH
    go_enter Tryz.func77, Tryz.ntmps77
    go_wp2_with fail
    refine HH.out.mono ?_
    rintro e w1 ⟨rfl, rfl⟩
    go_wp2
    go_end0
    exact ⟨rfl, hF, Chg.refl _ _ _ _⟩
  · rw [if_neg hin]
    have HH := hide (has_ok n a (fun x => decide (x ∈ F)) w hn ha)
    simp only [hin, decide_false] at HH
    have hor := or_bs (fun x => decide (x ∈ F)) (fun x => decide (x = a)) hn
    have he : (fun x => decide (x ∈ F) || decide (x = a)) = fun x => decide (x ∈ F ++ [a]) := by funext x; simp
    rw [he] at hor
    clear he
    obtain ⟨fv, hfb, hrow⟩ := hF.fnd
    have hne := hF.ne
    have hslt := hF.slt
    have hflt := hF.flt
    have HF := hide hF
    have HRW := hide hrow
    clear hF hrow
    have hfc := hfb.cell
    have hff := hfb.frozen
    have HSB := hide HF.out.sub
    generalize bs (fun x => decide (x ∈ F)) n = X at *
    generalize hY : bs (fun x => decide (x ∈ F ++ [a])) n = Y at *
    have HOF := hide (fun W b (hc : W.cell? ⟨b, 0, none⟩ = some (.int .i64 a)) => of_one n b a W hn ha hc)
    generalize bs (fun x => decide (x = a)) n = Z at *
    go_enter Tryz.func77, Tryz.ntmps77
    go_wp2_with fail
    refine HH.out.mono ?_
    rintro e w1 ⟨rfl, rfl⟩
    go_wp2_with fail
    have HY := hide hY
    clear hY
    have hq1 : (w1.alloc (.cells #[.int .i64 a] 3)).drew.cell? ⟨sb, 0, none⟩ = some (.int .u64 X) := Boxed.cell (Boxed.alloc HSB.out (.cells #[.int .i64 a] 3))
    have hq2 : (w1.alloc (.cells #[.int .i64 a] 3)).drew.frozen? ⟨sb, 0, none⟩ = false := Boxed.frozen (Boxed.alloc HSB.out (.cells #[.int .i64 a] 3))
    have hq3 : (w1.alloc (.cells #[.int .i64 a] 3)).cell? ⟨sb, 0, none⟩ = some (.int .u64 X) := Boxed.cell (Boxed.alloc HSB.out (.cells #[.int .i64 a] 3))
    have hq4 : (w1.alloc (.cells #[.int .i64 a] 3)).frozen? ⟨sb, 0, none⟩ = false := Boxed.frozen (Boxed.alloc HSB.out (.cells #[.int .i64 a] 3))
    have hq5 : sb < w1.heap.size := by omega
    have hq6 : ¬ sb = w1.heap.size := by omega
    obtain ⟨w5, hw5⟩ : ∃ w5, w5 = ((w1.setCell ⟨sb, 0, none⟩ (.int .u64 Y)).alloc (.cells #[.int .i64 a] 3)).drew := ⟨_, rfl⟩
    have hk5 : ∀ g, g ≠ sb → g < w1.heap.size → w5.heap[g]? = w1.heap[g]? := fun g h1 h2 => by
      rw [hw5]
      exact (Below.heap_alloc _ _ g (by simp [World.setCell]; exact h2)).trans (Below.heap_setCell _ _ _ g h1)
    have h5z : w1.heap.size ≤ w5.heap.size := by rw [hw5]; show _ ≤ (World.alloc _ _).heap.size; simp [World.alloc, World.setCell]
    have h5s : Boxed w5 sb 55 (.int .u64 Y) := by rw [hw5]; exact (Boxed.alloc (HSB.out.set (.int .u64 Y)) _)
    have h5f : Boxed w5 fb 22 fv := (hk5 fb (Ne.symm hne) hfb.lt).trans hfb
    have h5r : w5.ownsRow B 3 1 fv F.length ((li F).map (Value.int .i64)) := own_keep HRW.out (fun g h1 h2 => hk5 g (by omega) h2)
    have h5c : Chg B sb fb w1 w5 := ⟨by rw [hw5]; rfl, by rw [hw5]; rfl, by rw [hw5]; rfl, h5z, fun g h1 h2 h3 => hk5 g h2 (by omega)⟩
    go_region_with (refine (HOF.out _ _ (cell1d _ _ _)).mono ?_; rintro e2 w2 ⟨rfl, rfl⟩)
    all_goals (
      rw [← hw5]
      clear hw5 hk5 hq1 hq2 hq3 hq4 hq5 hq6 hs hfz hfc hff
      have hfc := h5f.cell
      have hff := h5f.frozen
      have HFL := hide hl
      go_wp2_with (first
        | (at_builtin; refine wpList_append_own _ rfl _ _ 22 rfl B 3 i0 (.int .i64 0) 1 8 under22b hi hz0 hz1 hz2 rfl (by decide) _ _ _ rfl (World.ownsRow.alloc h5r _) ⟨w5.heap.size, 0, none⟩ 1 1 [.int .i64 a] rfl rfl ?c1 ?c2 ?c3 ?c4 ?c5 ?_))
      case c1 => exact cell_one_new _ _ _
      case c2 => simp [Value.oneCell']
      case c3 => unfold maxLen; have := HFL.out; omega
      case c4 => have := HFL.out; omega
      case c5 => simp; omega
      intro v9 w6 hown' hgrow _
      obtain ⟨g', cap', rfl⟩ := ownsRow_succ hown'
      have hown' := hown'
      have h6f : Boxed w6 fb 22 fv := Boxed.kept (Boxed.alloc h5f _) hgrow (h5f.not_row (by decide) h5r)
      have h6s : Boxed w6 sb 55 (.int .u64 Y) := Boxed.kept (Boxed.alloc h5s _) hgrow (h5s.not_row (by decide) h5r)
      have h6k : ∀ g, g < B → w6.heap[g]? = w5.heap[g]? := fun g h1 => (hgrow.block g (by simp; omega) (fun e => by have := owns_ge h5r g e.symm; omega)).trans (Below.heap_alloc _ _ g (by omega))
      have h6z : w5.heap.size ≤ w6.heap.size := by have := hgrow.size; simp at this; omega
      have h6c : Chg B sb fb w5 (w6.setCell ⟨fb, 0, none⟩ (.slice (some ⟨g', 0, none⟩) (F.length + 1) cap')) := ⟨hgrow.os, hgrow.tape, hgrow.output, by rw [size_set]; exact h6z, fun g h1 _ h3 => (Below.heap_setCell _ _ _ g h3).trans (h6k g h1)⟩
      have h7s : Boxed (w6.setCell ⟨fb, 0, none⟩ (.slice (some ⟨g', 0, none⟩) (F.length + 1) cap')) sb 55 (.int .u64 Y) := (Below.heap_setCell _ _ _ sb hne).trans h6s
      have h7f : Boxed (w6.setCell ⟨fb, 0, none⟩ (.slice (some ⟨g', 0, none⟩) (F.length + 1) cap')) fb 22 (.slice (some ⟨g', 0, none⟩) (F.length + 1) cap') := h6f.set (.slice (some ⟨g', 0, none⟩) (F.length + 1) cap')
      have h7r : (w6.setCell ⟨fb, 0, none⟩ (.slice (some ⟨g', 0, none⟩) (F.length + 1) cap')).ownsRow B 3 1 (.slice (some ⟨g', 0, none⟩) (F.length + 1) cap') (F ++ [a]).length ((li (F ++ [a])).map (Value.int .i64)) := by
        have := own_keep hown' (fun g h1 h2 => Below.heap_setCell w6 ⟨fb, 0, none⟩ (.slice (some ⟨g', 0, none⟩) (F.length + 1) cap') g (by simp; omega))
        simpa [li] using this
      have h7n : Fnd (w6.setCell ⟨fb, 0, none⟩ (.slice (some ⟨g', 0, none⟩) (F.length + 1) cap')) B sb fb n (F ++ [a]) := ⟨by rw [HY.out]; exact h7s, ⟨(.slice (some ⟨g', 0, none⟩) (F.length + 1) cap'), h7f, h7r⟩, hne, hslt, hflt⟩
      have h7c := h5c.trans h6c
      have hfc6 := h6f.cell
      have hff6 := h6f.frozen
      clear hown' hgrow hfc hff h5s h5f h5r h5c h6c h7s h7f h7r h6s h6k
      go_wp2
      go_end0
      exact ⟨rfl, h7n, h7c⟩)
end Go.Proofs.YtgejngpioldhpaaGreatDoor
