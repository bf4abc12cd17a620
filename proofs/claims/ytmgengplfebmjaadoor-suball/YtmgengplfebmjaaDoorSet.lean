/- What package set answers: sets as bits, of lists, asked, and as lists. Condition: the library's table of places lies as its text lays it. -/
import Derived.Test.YtmgengplfebmjaaDoorBits
import Derived.Test.YtmgengplfebmjaaDoorProd
import Derived.Shelf.Spec.TrailingZeros
namespace Go.Proofs.YtmgengplfebmjaaDoor
open Go Go.RowKit

/-- Numbers as ints. -/
def li (xs : List Nat) : List Int := xs.map fun (x : Nat) => (x : Int)
theorem li_len (xs : List Nat) : (li xs).length = xs.length := by simp [li]
theorem li_get {xs : List Nat} {k : Nat} (hk : k < xs.length) : (li xs)[k]?.getD 0 = (xs[k] : Int) := by simp [li, hk]
theorem or_one {p : Nat → Bool} {n x : Nat} (hn : n ≤ 60) (hx : x < n) : bits BinOp.or IntKind.u64 (bs p n : Int) (IntKind.u64.wrap (2 ^ x)) = (bs (fun a => p a || decide (a = x)) n : Int) := by
  have h1 : IntKind.u64.wrap ((2 : Int) ^ x) = ((2 ^ x : Nat) : Int) := by
    have : 2 ^ x < 18446744073709551616 := by rw [← bs_one hx]; exact bs_64 hn
    rw [IntKind.wrap_u64]
    have e : ((2 : Int) ^ x) = ((2 ^ x : Nat) : Int) := by simp
    rw [e]
    generalize 2 ^ x = y at this
    omega
  rw [h1, ← bs_one hx, bits_or_u64_nat _ _ (bs_64 hn) (bs_64 hn), bs_or]

set_option maxRecDepth 100000 in
set_option maxHeartbeats 1000000 in
theorem of_ok (n : Nat) (v : Value) (xs : List Nat) (w : World) (hn : n ≤ 60) (hm : xs.length ≤ 60) (hv : Sl w v (li xs)) (hx : ∀ x, x ∈ xs → x < n) :
    Calls Tryd.prog 68 #[v] w fun e w' => e = .returned (.int .u64 (bs (fun a => decide (a ∈ xs)) n)) ∧ w' = w := by
  obtain ⟨a, cap, pb, po, rfl, hr, hp, hq3, hq4⟩ := hv
  rw [li_len] at hq3
  have hc : ∀ k, (hk : k < xs.length) → w.cell? ⟨pb, po + k, none⟩ = some (.int .i64 (xs[k] : Int)) := fun k hk => by
    have := hr.cell k (by rw [li_len]; exact hk)
    rwa [li_get hk] at this
  have ha : 0 < xs.length → a = some ⟨pb, po, none⟩ := fun h => hr.at_ (by rw [li_len]; exact h)
  rw [li_len]
  have HC := hide hc
  have HX := hide hx
  have HA := hide ha
  clear hr hc hx ha
  go_enter Tryd.func68, Tryd.ntmps68
  go_wp2
  go_loopw [3, 8] (fun s i wr => ∃ k : Nat, k ≤ xs.length ∧ i = .int .i64 k ∧ s = .int .u64 (bs (fun a => decide (a ∈ xs.take k)) n) ∧ wr = w) (fun _ i _ => xs.length - (intOf i).toNat)
  case atStart => exact ⟨0, Nat.zero_le _, rfl, by simp [bs_none], rfl⟩
  case round =>
    obtain ⟨k, hk, rfl, rfl, rfl⟩ := hrel
    by_cases hlt : k < xs.length
    · obtain rfl := HA.out (by omega)
      have hck := HC.out k hlt
      have hxk : xs[k] < n := HX.out _ (List.getElem_mem hlt)
      have hor := or_one (p := fun a => decide (a ∈ xs.take k)) hn hxk
      have he : (fun a => decide (a ∈ xs.take k) || decide (a = xs[k])) = fun a => decide (a ∈ xs.take (k + 1)) := by
        funext a
        simp only [List.take_succ_eq_append_getElem hlt, List.mem_append, List.mem_singleton, Bool.decide_or]
      rw [he] at hor
      generalize xs[k] = x at *
      have hx0 : (0 : Int) ≤ (x : Int) := by omega
      have hx1 : (x : Int) ≤ 64 := by omega
      clear he
      go_wp2_with (simp only [hor])
      go_roundw
      case rel => exact ⟨k + 1, by omega, by go_num, rfl, trivial⟩
      case measure => simp [intOf]; omega
    · have : k = xs.length := by omega
      subst this
      rw [List.take_length]
      go_wp2
      go_ret
      exact ⟨rfl, rfl⟩

set_option maxRecDepth 100000 in
set_option maxHeartbeats 1000000 in
theorem has_ok (n a : Nat) (p : Nat → Bool) (w : World) (hn : n ≤ 60) (ha : a < n) :
    Calls Tryd.prog 98 #[.int .u64 (bs p n), .int .i64 a] w fun e w' => e = .returned (.bool (p a)) ∧ w' = w := by
  have h0 : (0 : Int) ≤ (a : Int) := by omega
  have h1 : (a : Int) ≤ 64 := by omega
  have h2 : bits BinOp.and IntKind.u64 ((bs p n : Int) / 2 ^ a) 1 = (if p a then 1 else 0 : Int) := by
    have e : ((bs p n : Int) / 2 ^ a) = ((bs p n / 2 ^ a : Nat) : Int) := by simp
    have hlt : bs p n / 2 ^ a < 18446744073709551616 := Nat.lt_of_le_of_lt (Nat.div_le_self _ _) (bs_64 hn)
    have := bits_and_u64_nat (bs p n / 2 ^ a) 1 hlt (by omega)
    rw [e]
    refine this.trans ?_
    rw [Nat.and_one_is_mod, bs_has p ha]
    cases p a <;> rfl
  cases hpa : p a with
  | true =>
    rw [hpa] at h2
    go_enter Tryd.func98, Tryd.ntmps98
    go_wp2_with (simp only [h2])
    go_ret
    exact ⟨rfl, rfl⟩
  | false =>
    rw [hpa] at h2
    go_enter Tryd.func98, Tryd.ntmps98
    go_wp2_with (simp only [h2])
    go_ret
    exact ⟨rfl, rfl⟩

theorem and127 (x : Int) : ∃ k : Nat, k ≤ 127 ∧ bits BinOp.and IntKind.i64 x 127 = (k : Int) := by
  refine ⟨(BitVec.ofInt 64 x &&& BitVec.ofInt 64 127).toNat, ?_, ?_⟩
  · rw [BitVec.toNat_and]; exact Nat.and_le_right
  · have h : (BitVec.ofInt 64 x &&& BitVec.ofInt 64 127).toNat ≤ 127 := by rw [BitVec.toNat_and]; exact Nat.and_le_right
    show IntKind.i64.wrap ((BitVec.ofInt 64 x &&& BitVec.ofInt 64 127).toNat : Int) = _
    rw [IntKind.wrap_i64]
    omega
set_option maxRecDepth 100000 in
set_option maxHeartbeats 1000000 in
theorem ones_raw (x : Int) (w : World) :
    Calls Tryd.prog 107 #[.int .u64 x] w fun e w' => (∃ y : Int, e = .returned (.int .i64 (bits BinOp.and IntKind.i64 y 127))) ∧ w' = w := by
  go_enter Tryd.func107, Tryd.ntmps107
  go_wp2
  go_ret
  exact ⟨⟨_, rfl⟩, rfl⟩
theorem ones_ok (x : Int) (w : World) :
    Calls Tryd.prog 107 #[.int .u64 x] w fun e w' => (∃ k : Nat, k ≤ 127 ∧ e = .returned (.int .i64 k)) ∧ w' = w := by
  refine (ones_raw x w).mono ?_
  rintro e w' ⟨⟨y, rfl⟩, rfl⟩
  obtain ⟨k, hk, he⟩ := and127 y
  exact ⟨⟨k, hk, by rw [he]⟩, rfl⟩
/-- How many things a set has: some number. -/
theorem len_ok (x : Int) (w : World) :
    Calls Tryd.prog 84 #[.int .u64 x] w fun e w' => (∃ k : Nat, k ≤ 127 ∧ e = .returned (.int .i64 k)) ∧ w' = w := by
  go_enter Tryd.func84, Tryd.ntmps84
  go_wp2_with fail
  refine (ones_ok _ w).mono ?_
  rintro e w1 ⟨⟨c, hc, rfl⟩, rfl⟩
  go_wp2
  go_ret
  exact ⟨⟨c, hc, rfl⟩, rfl⟩
end Go.Proofs.YtmgengplfebmjaaDoor
