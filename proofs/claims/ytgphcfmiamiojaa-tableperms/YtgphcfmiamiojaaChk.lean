/- What groupsFrom, inverseOf and Check answer. -/
import Derived.Test.YtgphcfmiamiojaaEnt
namespace Go.Proofs.Ytgphcfmiamiojaa
open Go Go.RowKit

set_option maxRecDepth 100000 in
set_option maxHeartbeats 4000000 in
theorem groupsFrom_ok (n a : Nat) (v : Value) (zs : List Int) (w : World) (ht : IsTab n zs) (hv : Sl w v zs) (ha : a < n) :
    Calls Try.prog 42 #[.agg #[.int .i64 n, v], .int .i64 a] w fun x w' => x = .returned (.bool (assB n zs a)) ∧ Below w.heap.size w w' := by
  have hB0 : Below w.heap.size w (w.alloc (.cells #[.int .i64 n, v] 27)) := balloc w _
  have hg0 : BoxG (w.alloc (.cells #[.int .i64 n, v] 27)) w.heap.size n v := blk0 _ _
  have hv0 := hv.below hB0
  have hle := ht.le
  have HT := hide ht
  obtain ⟨g0, g1, _, _⟩ := hg0.two
  clear ht
  go_enter Try.func42, Try.ntmps42
  go_wp2
  generalize w.alloc (.cells #[.int .i64 n, v] 27) = w0 at *
  go_loopw [10] (fun i wr => ∃ k : Nat, k ≤ n ∧ i = .int .i64 k ∧ (∀ b c, b < k → c < n → tm n zs (tm n zs a b) c = tm n zs a (tm n zs b c)) ∧ Below w0.heap.size w0 wr) (fun i _ => n - (intOf i).toNat)
  case atStart => exact ⟨0, Nat.zero_le _, rfl, fun b c hb => by omega, Below.refl _ _⟩
  case round =>
    obtain ⟨b, hk, rfl, hno, hB⟩ := hrel
    have HN := hide hno
    clear hno
    by_cases hlt : b < n
    · have d0 := below_cell hB g0
      have d1 := below_cell hB g1
      go_wp2_with fail
      refine (product_ok n v zs a b wr HT.out (hv0.below hB) ha hlt).mono ?_
      rintro e w1 ⟨rfl, hb1⟩
      have hB1 := bcat2 hB hb1
      have e0 := below_cell hB1 g0
      have e1 := below_cell hB1 g1
      have hab := tm_lt HT.out ha hlt
      clear d0 d1 hb1 hB
      go_wp2
      go_loopw [19] (fun i wr => ∃ k : Nat, k ≤ n ∧ i = .int .i64 k ∧ (∀ c, c < k → tm n zs (tm n zs a b) c = tm n zs a (tm n zs b c)) ∧ Below w0.heap.size w0 wr) (fun i _ => n - (intOf i).toNat)
      case atStart => exact ⟨0, Nat.zero_le _, rfl, fun c hc => by omega, hB1⟩
      case round =>
        obtain ⟨c, hk2, rfl, hno2, hB2⟩ := hrel
        have HN2 := hide hno2
        clear hno2 e0 e1
        by_cases hlt2 : c < n
        · have hbc := tm_lt HT.out hlt hlt2
          have hS : ∀ W, Below w0.heap.size w0 W → (Below w0.heap.size w0 W ∧ W.cell? ⟨w.heap.size, 0, none⟩ = some (.int .i64 n) ∧ W.cell? ⟨w.heap.size, 1, none⟩ = some v) := fun W h => ⟨h, below_cell h g0, below_cell h g1⟩
          have hS0 := hS _ (bdrew hB2)
          go_wp2_with fail
          go_region_held3 (fun W => Below w0.heap.size w0 W ∧ W.cell? ⟨w.heap.size, 0, none⟩ = some (.int .i64 n) ∧ W.cell? ⟨w.heap.size, 1, none⟩ = some v)
            (first | exact hS0 | assumption | exact hS _ (bcat2 (And.left ‹_›) hl1))
            (first | (go_at_call 47; refine (product_ok n v zs _ _ _ HT.out (hv0.below (And.left ‹_›)) (by assumption) (by assumption)).mono ?_; rintro e W1 ⟨rfl, hl1⟩))
          obtain ⟨hB3, _⟩ := ‹Below w0.heap.size w0 W1 ∧ _›
          clear hS hS0 hl1
          by_cases hxy : tm n zs (tm n zs a b) c = tm n zs a (tm n zs b c)
          · have hbe : ((tm n zs (tm n zs a b) c : Int) != (tm n zs a (tm n zs b c) : Int)) = false := by simp [hxy]
            have HXY := hide hxy
            clear hxy
            go_wp2
            go_roundw
            case rel => exact ⟨c + 1, by omega, by go_num, fun d hd => by
              by_cases e : d = c
              · rw [e]; exact HXY.out
              · exact HN2.out d (by omega), hB3⟩
            case measure => simp [intOf]; omega
          · have hbe : ((tm n zs (tm n zs a b) c : Int) != (tm n zs a (tm n zs b c) : Int)) = true := by simp; omega
            go_wp2
            go_ret
            refine ⟨retB ?_, bcat hB0 hB3 hB0.size⟩
            cases hq : assB n zs a with
            | false => rfl
            | true => exact absurd (assB_iff.1 hq b c hlt hlt2) hxy
        · have hcn : c = n := by omega
          subst hcn
          go_wp2
          go_roundw
          case rel => exact ⟨b + 1, by omega, by go_num, fun d c hd hc => by
            by_cases e : d = b
            · rw [e]; exact HN2.out c hc
            · exact HN.out d c (by omega) hc, hB2⟩
          case measure => simp [intOf]; omega
    · have hbn : b = n := by omega
      subst hbn
      go_wp2
      go_ret
      exact ⟨retB (assB_iff.2 (fun d c hd hc => HN.out d c hd hc)).symm, bcat hB0 hB hB0.size⟩

set_option maxRecDepth 100000 in
set_option maxHeartbeats 2000000 in
theorem ungroups_ok (b n a : Nat) (v : Value) (zs : List Int) (w : World) (ht : IsTab n zs) (hg : BoxG w b n v) (hv : Sl w v zs) (ha : a < n) :
    Calls Try.prog 41 #[.int .i64 a, .pointer (some ⟨b, 0, none⟩)] w fun x w' => x = .returned (.bool (!assB n zs a)) ∧ Below w.heap.size w w' := by
  obtain ⟨c0, c1, _, _⟩ := hg.two
  go_enter Try.func41, Try.ntmps41
  go_wp2_with fail
  refine (groupsFrom_ok n a v zs w ht hv ha).mono ?_
  rintro x w1 ⟨rfl, hb1⟩
  go_wp2
  go_ret
  exact ⟨retB rfl, hb1⟩

set_option maxRecDepth 100000 in
set_option maxHeartbeats 2000000 in
theorem invIn_ok (b b2 b3 n a c : Nat) (o : Int) (v : Value) (zs : List Int) (w : World) (ht : IsTab n zs) (hg : BoxG w b n v) (hv : Sl w v zs) (h2 : Boxed w b2 3 (.int .i64 a)) (h3 : Boxed w b3 3 (.int .i64 o)) (ha : a < n) (hc : c < n) :
    Calls Try.prog 54 #[.int .i64 c, .pointer (some ⟨b, 0, none⟩), .pointer (some ⟨b2, 0, none⟩), .pointer (some ⟨b3, 0, none⟩)] w fun x w' => x = .returned (.bool (decide ((tm n zs a c : Int) = o))) ∧ Below w.heap.size w w' := by
  obtain ⟨c0, c1, _, _⟩ := hg.two
  have c2 := h2.cell
  have c3 := h3.cell
  have HT := hide ht
  have hS : ∀ W, Below w.heap.size w W → (Below w.heap.size w W ∧ W.cell? ⟨b, 0, none⟩ = some (.int .i64 n) ∧ W.cell? ⟨b, 1, none⟩ = some v ∧ W.cell? ⟨b2, 0, none⟩ = some (.int .i64 a) ∧ W.cell? ⟨b3, 0, none⟩ = some (.int .i64 o)) := fun W h => ⟨h, below_cell h c0, below_cell h c1, below_cell h c2, below_cell h c3⟩
  have hS0 := hS _ (bdrew (Below.refl _ w))
  clear c0 c1 c2 c3
  go_enter Try.func54, Try.ntmps54
  go_wp2_with fail
  go_region_held3 (fun W => Below w.heap.size w W ∧ W.cell? ⟨b, 0, none⟩ = some (.int .i64 n) ∧ W.cell? ⟨b, 1, none⟩ = some v ∧ W.cell? ⟨b2, 0, none⟩ = some (.int .i64 a) ∧ W.cell? ⟨b3, 0, none⟩ = some (.int .i64 o))
    (first | exact hS0 | assumption | exact hS _ (bcat2 (And.left ‹_›) hl1))
    (first | (go_at_call 47; refine (product_ok n v zs a c _ HT.out (hv.below (And.left ‹_›)) ha hc).mono ?_; rintro e W1 ⟨rfl, hl1⟩))
  obtain ⟨hB3, _⟩ := ‹Below w.heap.size w W1 ∧ _›
  go_wp2
  go_ret
  exact ⟨retB (by rw [Bool.eq_iff_iff]; simp), hB3⟩

theorem call82 (a : Int) (x y z : Value) (W : World) : Sem.run Try.prog (callFunc 54 (#[.int .i64 a] ++ #[x, y, z])) W = .ok (.enter 54 (#[.int .i64 a] ++ #[x, y, z])) W := by kernel_rfl
theorem call55 (a : Int) (x : Value) (W : World) : Sem.run Try.prog (callFunc 41 (#[.int .i64 a] ++ #[x])) W = .ok (.enter 41 (#[.int .i64 a] ++ #[x])) W := by kernel_rfl
theorem call57 (a : Int) (x y : Value) (W : World) : Sem.run Try.prog (callFunc 43 (#[.int .i64 a] ++ #[x, y])) W = .ok (.enter 43 (#[.int .i64 a] ++ #[x, y])) W := by kernel_rfl

set_option maxRecDepth 100000 in
set_option maxHeartbeats 2000000 in
theorem inverseOf_ok (n a : Nat) (o : Int) (v : Value) (zs : List Int) (w : World) (ht : IsTab n zs) (hv : Sl w v zs) (ha : a < n) :
    Calls Try.prog 44 #[.agg #[.int .i64 n, v], .int .i64 o, .int .i64 a] w fun x w' => x = .returned (.int .i64 (invL n zs o a)) ∧ Below w.heap.size w w' := by
  obtain ⟨w0, hw0⟩ : ∃ w0, w0 = ((w.alloc (.cells #[.int .i64 n, v] 27)).alloc (.cells #[.int .i64 o] 3)).alloc (.cells #[.int .i64 a] 3) := ⟨_, rfl⟩
  have hB0 : Below w.heap.size w w0 := by rw [hw0]; exact ((balloc w _).alloc (by simp) _).alloc (by simp; omega) _
  have hg0 : BoxG w0 w.heap.size n v := by rw [hw0]; exact ((blk0 _ _).alloc _).alloc _
  have h1 : Boxed w0 (w.heap.size + 1) 3 (.int .i64 o) := by
    rw [hw0]
    have := Boxed.new (w.alloc (.cells #[.int .i64 n, v] 27)) 3 (.int .i64 o)
    rw [World.size_alloc] at this; exact this.alloc _
  have h2 : Boxed w0 (w.heap.size + 1 + 1) 3 (.int .i64 a) := by
    rw [hw0]
    have := Boxed.new ((w.alloc (.cells #[.int .i64 n, v] 27)).alloc (.cells #[.int .i64 o] 3)) 3 (.int .i64 a)
    rw [World.size_alloc, World.size_alloc] at this; exact this
  have hv0 := hv.below hB0
  obtain ⟨c0, c1, _, _⟩ := hg0.two
  have hle := ht.le
  have hc := least_any n 54 #[.pointer (some ⟨w.heap.size, 0, none⟩), .pointer (some ⟨w.heap.size + 1 + 1, 0, none⟩), .pointer (some ⟨w.heap.size + 1, 0, none⟩)] (fun b => decide ((tm n zs a b : Int) = o)) w0 (by omega) (fun a W => call82 a _ _ _ W)
    (fun W c hW hc => invIn_ok w.heap.size (w.heap.size + 1 + 1) (w.heap.size + 1) n a c o v zs W ht (blk_below hg0 hW) (hv0.below hW) (Boxed.below h2 hW) (Boxed.below h1 hW) ha hc)
  have HC := hide hc
  rw [hw0] at c0 c1
  clear hc ht
  go_enter Try.func44, Try.ntmps44
  go_wp2_with fail
  rw [← hw0]
  refine HC.out.mono ?_
  rintro x w1 ⟨rfl, hb1⟩
  have hB := bcat hB0 hb1 hB0.size
  clear hw0 c0 c1
  go_wp2
  go_ret
  exact ⟨retI rfl, hB⟩

set_option maxRecDepth 100000 in
set_option maxHeartbeats 2000000 in
theorem noInv_ok (b b2 n a : Nat) (o : Int) (v : Value) (zs : List Int) (w : World) (ht : IsTab n zs) (hg : BoxG w b n v) (hv : Sl w v zs) (h2 : Boxed w b2 3 (.int .i64 o)) (ha : a < n) :
    Calls Try.prog 43 #[.int .i64 a, .pointer (some ⟨b, 0, none⟩), .pointer (some ⟨b2, 0, none⟩)] w fun x w' => x = .returned (.bool (decide (invL n zs o a = -1))) ∧ Below w.heap.size w w' := by
  obtain ⟨c0, c1, _, _⟩ := hg.two
  have c2 := h2.cell
  go_enter Try.func43, Try.ntmps43
  go_wp2_with fail
  refine (inverseOf_ok n a o v zs w ht hv ha).mono ?_
  rintro x w1 ⟨rfl, hb1⟩
  go_wp2
  go_ret
  exact ⟨retB (by rw [Bool.eq_iff_iff]; simp), hb1⟩
end Go.Proofs.Ytgphcfmiamiojaa
