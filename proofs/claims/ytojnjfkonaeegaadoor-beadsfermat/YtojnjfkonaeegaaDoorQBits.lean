/- What math/bits.Add64, Mul64 and Div64 answer where nothing passes @TMISSING64@ bits; what perm.lessBehind counts. -/
import Derived.Test.YtojnjfkonaeegaaDoorQCheck
import Derived.Test.YtojnjfkonaeegaaDoorQShelf
import Derived.Shelf.Spec.BitsCarry
import Derived.Deep.QuietTactic
import Derived.BigQuiet
namespace Go.Proofs
open Go.Shelf
def Tryd.lays25_ren : Go.Shelf.Ren := ⟨fun | 25 => 89 | n => n, fun | 22 => 89 | n => n, fun | n => n⟩
theorem Tryd.lays25 : Go.Proofs.Lays7.n25 Tryd.prog Tryd.lays25_ren := {
  mixed := by kernel_rfl
  f25 := Tryd.func89.trans (congrArg some (by kernel_rfl))
  t22 := Tryd.underlying89
  a22 := Tryd.isAgg89
  z22 := Tryd.sizeOf89
  v22 := Tryd.zeroValue89
  i22 := by kernel_rfl }
end Go.Proofs
namespace Go.Proofs.YtojnjfkonaeegaaDoorQ
open Go Go.RowKit

theorem add64_eq (x y : Int) (hx : 0 ≤ x) (hy : 0 ≤ y) (h : x + y < 18446744073709551616) (w : World) :
    (callFunc 89 #[.int .u64 x, .int .u64 y, .int .u64 0]).run Tryd.prog w = .ok (.value (.tuple #[.int .u64 (x + y), .int .u64 0])) w := by
  obtain ⟨a, rfl⟩ := Int.eq_ofNat_of_zero_le hx
  obtain ⟨b, rfl⟩ := Int.eq_ofNat_of_zero_le hy
  have h1 := Any7.bits_Add64 Tryd.lays25 a b 0 (by omega) w
  have e1 : (((a + b + 0) % 18446744073709551616 : Nat) : Int) = (a : Int) + b := by omega
  have e2 : (((a + b + 0) / 18446744073709551616 : Nat) : Int) = 0 := by omega
  rw [e1, e2] at h1
  exact h1
theorem mul64_any (x y : Int) (hx : 0 ≤ x) (hy : 0 ≤ y) (hx1 : x < 18446744073709551616) (hy1 : y < 18446744073709551616) (h : x * y < 18446744073709551616) (w : World) :
    Calls Tryd.prog 88 #[.int .u64 x, .int .u64 y] w fun e w' => e = .returned (.tuple #[.int .u64 0, .int .u64 (x * y)]) ∧ w' = w := by
  obtain ⟨a, rfl⟩ := Int.eq_ofNat_of_zero_le hx
  obtain ⟨b, rfl⟩ := Int.eq_ofNat_of_zero_le hy
  have h0 : a * b < 18446744073709551616 := by
    have : ((a * b : Nat) : Int) < 18446744073709551616 := by rw [Int.natCast_mul]; exact h
    omega
  refine (Tryd.bits_Mul64 a b (by omega) (by omega) w).mono ?_
  rintro e w' ⟨rfl, rfl⟩
  refine ⟨?_, rfl⟩
  have e1 : ((a * b / 18446744073709551616 : Nat) : Int) = 0 := by omega
  have e2 : ((a * b % 18446744073709551616 : Nat) : Int) = (a : Int) * b := by rw [Nat.mod_eq_of_lt h0, Int.natCast_mul]
  rw [e1, e2]

set_option maxRecDepth 100000 in
set_option maxHeartbeats 1000000 in
theorem div64_small (lo : Int) (h0 : 0 ≤ lo) (h1 : lo < 18446744073709551616) (w : World) :
    Calls Tryd.prog 90 #[.int .u64 0, .int .u64 lo, .int .u64 1000000000] w fun e w' => e = .returned (.tuple #[.int .u64 (lo / 1000000000), .int .u64 (lo % 1000000000)]) ∧ ∃ k, w' = w.drewN k := by
  go_enter Tryd.func90, Tryd.ntmps90
  go_wp2
  go_quiet (fail)
  go_wp2
  go_ret2
  exact ⟨rfl, _, rfl⟩

/-- How many numbers behind the place i are less than the one there. -/
def lb (zs : List Int) (i : Nat) : Nat := ((zs.drop (i + 1)).filter fun x => decide (x < zs[i]?.getD 0)).length

/-- The same, of the first k of them. -/
def lbTo (zs : List Int) (i k : Nat) : Nat := (((zs.drop (i + 1)).take k).filter fun x => decide (x < zs[i]?.getD 0)).length
theorem lbTo_le (zs : List Int) (i k : Nat) : lbTo zs i k ≤ k := Nat.le_trans (List.length_filter_le _ _) (List.length_take_le _ _)
theorem lbTo_all {zs : List Int} {i k : Nat} (h : zs.length ≤ i + 1 + k) : lbTo zs i k = lb zs i := by
  unfold lbTo lb; rw [List.take_of_length_le (by simp; omega)]
theorem lbTo_hit {zs : List Int} {i k : Nat} (hk : i + 1 + k < zs.length) (h : zs[i + 1 + k]?.getD 0 < zs[i]?.getD 0) : lbTo zs i (k + 1) = lbTo zs i k + 1 := by
  unfold lbTo
  rw [List.take_succ_eq_append_getElem (by simp; omega), List.filter_append]
  rw [List.getElem?_eq_getElem hk] at h
  simp at h
  simp [h]
theorem lbTo_miss {zs : List Int} {i k : Nat} (hk : i + 1 + k < zs.length) (h : ¬ zs[i + 1 + k]?.getD 0 < zs[i]?.getD 0) : lbTo zs i (k + 1) = lbTo zs i k := by
  unfold lbTo
  rw [List.take_succ_eq_append_getElem (by simp; omega), List.filter_append]
  rw [List.getElem?_eq_getElem hk] at h
  simp at h
  simp [h]

end Go.Proofs.YtojnjfkonaeegaaDoorQ
