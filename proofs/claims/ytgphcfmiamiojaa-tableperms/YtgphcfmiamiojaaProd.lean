/- What the product of two things, the question whether a number is a thing, and the search for the least number answer. -/
import Derived.Test.YtgphcfmiamiojaaBase
import Derived.Test.YtgphcfmiamiojaaGrp
namespace Go.Proofs.Ytgphcfmiamiojaa
open Go Go.RowKit

/-- A table's value: how many things, and the list. -/
def gv (N : Int) (v : Value) : Value := .agg #[.int .i64 N, v]
/-- A table that lies in a block of its own. -/
abbrev BoxG (w : World) (b : Nat) (N : Int) (v : Value) : Prop := Blk w b 27 [.int .i64 N, v]
theorem blk_below {W W' : World} {s : Nat} {e : TypeId} {vs : List Value} (h : Blk W s e vs) (hb : Below W.heap.size W W') : Blk W' s e vs := h.of_eq (hb.block _ h.lt)

set_option maxRecDepth 100000 in
set_option maxHeartbeats 1000000 in
theorem product_ok (n : Nat) (v : Value) (zs : List Int) (a b : Nat) (w : World) (ht : IsTab n zs) (hv : Sl w v zs) (ha : a < n) (hb : b < n) :
    Calls Try.prog 47 #[.agg #[.int .i64 n, v], .int .i64 a, .int .i64 b] w fun e w' => e = .returned (.int .i64 (tm n zs a b)) ∧ Below w.heap.size w w' := by
  have hlt := place_lt ha hb
  have hle := ht.le
  have hlen := ht.len
  have hn2 : n * n ≤ 60 * 60 := Nat.mul_le_mul hle hle
  have hg := tm_get ht ha hb
  have han : a * n ≤ 60 * 60 := Nat.mul_le_mul (by omega) (by omega)
  have hB0 : Below w.heap.size w (w.alloc (.cells #[.int .i64 n, v] 27)) := balloc w _
  have N0 : Blk (w.alloc (.cells #[.int .i64 n, v] 27)) w.heap.size 27 [.int .i64 n, v] := blk0 _ _
  obtain ⟨x, cap, pb, po, rfl, hr, hp, hq3, hq4⟩ := hv.below hB0
  obtain rfl := hr.at_ (by omega)
  have hc := hr.cell (a * n + b) (by omega)
  rw [hg] at hc
  obtain ⟨c0, c1, _, _⟩ := N0.two
  have hi : ((a * n + b : Nat) : Int) < (zs.length : Int) := by omega
  have hm : ((a : Int) * (n : Int)) = ((a * n : Nat) : Int) := by rw [Int.natCast_mul]
  have HLEN := hide hlen
  have HB0 := hide hB0
  generalize hk : a * n = k at *
  generalize tm n zs a b = r at *
  clear hlen hB0 hg hn2 hk
  go_enter Try.func47, Try.ntmps47
  go_wp2
  go_ret
  exact ⟨rfl, HB0.out⟩
set_option maxRecDepth 100000 in
set_option maxHeartbeats 1000000 in
theorem M_ok (n : Nat) (v : Value) (zs : List Int) (a b : Nat) (w : World) (ht : IsTab n zs) (hv : Sl w v zs) (ha : a < n) (hb : b < n) :
    Calls Try.prog 12 #[.agg #[.int .i64 n, v], .int .i64 a, .int .i64 b] w fun e w' => e = .returned (.int .i64 (tm n zs a b)) ∧ Below w.heap.size w w' := by
  have hlt := place_lt ha hb
  have hle := ht.le
  have hlen := ht.len
  have hn2 : n * n ≤ 60 * 60 := Nat.mul_le_mul hle hle
  have hg := tm_get ht ha hb
  have han : a * n ≤ 60 * 60 := Nat.mul_le_mul (by omega) (by omega)
  have hB0 : Below w.heap.size w (w.alloc (.cells #[.int .i64 n, v] 27)) := balloc w _
  have N0 : Blk (w.alloc (.cells #[.int .i64 n, v] 27)) w.heap.size 27 [.int .i64 n, v] := blk0 _ _
  obtain ⟨x, cap, pb, po, rfl, hr, hp, hq3, hq4⟩ := hv.below hB0
  obtain rfl := hr.at_ (by omega)
  have hc := hr.cell (a * n + b) (by omega)
  rw [hg] at hc
  obtain ⟨c0, c1, _, _⟩ := N0.two
  have hi : ((a * n + b : Nat) : Int) < (zs.length : Int) := by omega
  have hm : ((a : Int) * (n : Int)) = ((a * n : Nat) : Int) := by rw [Int.natCast_mul]
  have HLEN := hide hlen
  have HB0 := hide hB0
  generalize hk : a * n = k at *
  generalize tm n zs a b = r at *
  clear hlen hB0 hg hn2 hk
  go_enter Try.func12, Try.ntmps12
  go_wp2
  go_ret
  exact ⟨rfl, HB0.out⟩

set_option maxRecDepth 100000 in
set_option maxHeartbeats 1000000 in
theorem isThing_any (N a : Int) (v : Value) (w : World) :
    Calls Try.prog 53 #[.agg #[.int .i64 N, v], .int .i64 a] w fun e w' => e = .returned (.bool (decide (0 ≤ a ∧ a < N))) ∧ Below w.heap.size w w' := by
  have hB0 : Below w.heap.size w (w.alloc (.cells #[.int .i64 N, v] 27)) := balloc w _
  have N0 : Blk (w.alloc (.cells #[.int .i64 N, v] 27)) w.heap.size 27 [.int .i64 N, v] := blk0 _ _
  obtain ⟨c0, c1, _, _⟩ := N0.two
  by_cases h1 : 0 ≤ a
  · by_cases h2 : a < N
    · go_enter Try.func53, Try.ntmps53
      go_wp2
      go_ret
      exact ⟨by simp [h1, h2], hB0⟩
    · go_enter Try.func53, Try.ntmps53
      go_wp2
      go_ret
      exact ⟨by simp [h2], hB0⟩
  · go_enter Try.func53, Try.ntmps53
    go_wp2
    go_ret
    exact ⟨by simp; omega, hB0⟩

set_option maxRecDepth 100000 in
set_option maxHeartbeats 1000000 in
theorem least_any (n k : Nat) (caps : Array Value) (p : Nat → Bool) (w : World) (hn : n ≤ 1000000)
    (hcall : ∀ a W, Sem.run Try.prog (callFunc k (#[.int .i64 a] ++ caps)) W = .ok (.enter k (#[.int .i64 a] ++ caps)) W)
    (hp : ∀ (W : World) (a : Nat), Below w.heap.size w W → a < n → Calls Try.prog k (#[.int .i64 a] ++ caps) W fun e w' => e = .returned (.bool (p a)) ∧ Below W.heap.size W w') :
    Calls Try.prog 40 #[.int .i64 n, .func (.func k) #[] caps] w fun e w' => e = .returned (.int .i64 (least n p)) ∧ Below w.heap.size w w' := by
  have HP := hide hp
  clear hp
  go_enter Try.func40, Try.ntmps40
  go_wp2
  go_loopw [7] (fun i wr => ∃ j : Nat, j ≤ n ∧ i = .int .i64 j ∧ (∀ t, t < j → p t = false) ∧ Below w.heap.size w wr) (fun i _ => n - (intOf i).toNat)
  case atStart => exact ⟨0, Nat.zero_le _, rfl, fun t ht => by omega, Below.refl _ _⟩
  case round =>
    obtain ⟨j, hj, rfl, hno, hB⟩ := hrel
    have HN := hide hno
    clear hno
    by_cases hlt : j < n
    · go_wp2_with fail
      refine (HP.out wr j hB hlt).mono ?_
      rintro e w1 ⟨rfl, hb1⟩
      have hB1 := bcat hB hb1 hB.size
      cases hpj : p j with
      | true =>
        go_wp2
        go_ret
        exact ⟨by rw [least_at hlt hpj HN.out]; rfl, hB1⟩
      | false =>
        go_wp2
        go_roundw
        case rel => exact ⟨j + 1, by omega, by go_num, fun t ht => by
          by_cases e : t = j
          · rw [e]; exact hpj
          · exact HN.out t (by omega), hB1⟩
        case measure => simp [intOf]; omega
    · have hjn : j = n := by omega
      subst hjn
      go_wp2
      go_ret
      exact ⟨by rw [least_none HN.out]; rfl, hB⟩
end Go.Proofs.Ytgphcfmiamiojaa
