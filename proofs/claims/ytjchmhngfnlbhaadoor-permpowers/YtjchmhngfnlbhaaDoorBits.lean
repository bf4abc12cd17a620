/- What math/bits.Add64, Mul64 and Div64 answer where nothing passes 64 bits; what perm.lessBehind counts. -/
import Derived.Test.YtjchmhngfnlbhaaDoorCheck
import Derived.Test.YtjchmhngfnlbhaaDoorShelf
import Derived.Shelf.Spec.BitsCarry
import Derived.Deep.QuietTactic
import Derived.BigQuiet
namespace Go.Proofs
open Go.Shelf
def Tryd.lays25_ren : Go.Shelf.Ren := ⟨fun | 25 => 78 | n => n, fun | 22 => 77 | n => n, fun | n => n⟩
theorem Tryd.lays25 : Go.Proofs.Lays7.n25 Tryd.prog Tryd.lays25_ren := {
  mixed := by kernel_rfl
  f25 := Tryd.func78.trans (congrArg some (by kernel_rfl))
  t22 := Tryd.underlying77
  a22 := Tryd.isAgg77
  z22 := Tryd.sizeOf77
  v22 := Tryd.zeroValue77
  i22 := by kernel_rfl }
end Go.Proofs
namespace Go.Proofs.YtjchmhngfnlbhaaDoor
open Go Go.RowKit

theorem add64_eq (x y : Int) (hx : 0 ≤ x) (hy : 0 ≤ y) (h : x + y < 18446744073709551616) (w : World) :
    (callFunc 78 #[.int .u64 x, .int .u64 y, .int .u64 0]).run Tryd.prog w = .ok (.value (.tuple #[.int .u64 (x + y), .int .u64 0])) w := by
  obtain ⟨a, rfl⟩ := Int.eq_ofNat_of_zero_le hx
  obtain ⟨b, rfl⟩ := Int.eq_ofNat_of_zero_le hy
  have h1 := Any7.bits_Add64 Tryd.lays25 a b 0 (by omega) w
  have e1 : (((a + b + 0) % 18446744073709551616 : Nat) : Int) = (a : Int) + b := by omega
  have e2 : (((a + b + 0) / 18446744073709551616 : Nat) : Int) = 0 := by omega
  rw [e1, e2] at h1
  exact h1
theorem mul64_any (x y : Int) (hx : 0 ≤ x) (hy : 0 ≤ y) (hx1 : x < 18446744073709551616) (hy1 : y < 18446744073709551616) (h : x * y < 18446744073709551616) (w : World) :
    Calls Tryd.prog 77 #[.int .u64 x, .int .u64 y] w fun e w' => e = .returned (.tuple #[.int .u64 0, .int .u64 (x * y)]) ∧ w' = w := by
  obtain ⟨a, rfl⟩ := Int.eq_ofNat_of_zero_le hx
  obtain ⟨b, rfl⟩ := Int.eq_ofNat_of_zero_le hy
  have h0 : a * b < 18446744073709551616 := by
    have : ((a * b : Nat) : Int) < 18446744073709551616 := by rw [Int.natCast_mul]; exact h
    omega
  refine (Tryd.bits_Mul64 a b (by omega) (by omega) w).mono ?_
  rintro e w' ⟨rfl, rfl⟩
  refine ⟨?_, rfl⟩
  have e1 : ((a * b / 18446744073709551616 : Nat) : Int) = 0 := by omega
  have e2 : ((a * b % 18446744073709551616 : Nat) : Int) = (a : Int) * b := by rw [Nat.mod_eq_of_lt h0, Int.natCast_mul]
  rw [e1, e2]

set_option maxRecDepth 100000 in
set_option maxHeartbeats 1000000 in
theorem div64_small (lo : Int) (h0 : 0 ≤ lo) (h1 : lo < 18446744073709551616) (w : World) :
    Calls Tryd.prog 79 #[.int .u64 0, .int .u64 lo, .int .u64 1000000000] w fun e w' => e = .returned (.tuple #[.int .u64 (lo / 1000000000), .int .u64 (lo % 1000000000)]) ∧ ∃ k, w' = w.drewN k := by
  go_enter Tryd.func79, Tryd.ntmps79
  go_wp2
  go_quiet (fail)
  go_wp2
  go_ret2
  exact ⟨rfl, _, rfl⟩

/-- How many numbers behind the place i are less than the one there. -/
def lb (zs : List Int) (i : Nat) : Nat := ((zs.drop (i + 1)).filter fun x => decide (x < zs[i]?.getD 0)).length

/-- The same, of the first k of them. -/
def lbTo (zs : List Int) (i k : Nat) : Nat := (((zs.drop (i + 1)).take k).filter fun x => decide (x < zs[i]?.getD 0)).length
theorem lbTo_le (zs : List Int) (i k : Nat) : lbTo zs i k ≤ k := Nat.le_trans (List.length_filter_le _ _) (List.length_take_le _ _)
theorem lbTo_all {zs : List Int} {i k : Nat} (h : zs.length ≤ i + 1 + k) : lbTo zs i k = lb zs i := by
  unfold lbTo lb; rw [List.take_of_length_le (by simp; omega)]
theorem lbTo_hit {zs : List Int} {i k : Nat} (hk : i + 1 + k < zs.length) (h : zs[i + 1 + k]?.getD 0 < zs[i]?.getD 0) : lbTo zs i (k + 1) = lbTo zs i k + 1 := by
  unfold lbTo
  rw [List.take_succ_eq_append_getElem (by simp; omega), List.filter_append]
  rw [List.getElem?_eq_getElem hk] at h
  simp at h
  simp [h]
theorem lbTo_miss {zs : List Int} {i k : Nat} (hk : i + 1 + k < zs.length) (h : ¬ zs[i + 1 + k]?.getD 0 < zs[i]?.getD 0) : lbTo zs i (k + 1) = lbTo zs i k := by
  unfold lbTo
  rw [List.take_succ_eq_append_getElem (by simp; omega), List.filter_append]
  rw [List.getElem?_eq_getElem hk] at h
  simp at h
  simp [h]

set_option maxRecDepth 100000 in
set_option maxHeartbeats 1000000 in
theorem lessBehind_any (a : Option Addr) (cap pb po i : Nat) (zs : List Int) (w : World) (hr : Reads w a pb po zs) (hi : i < zs.length) (hl : zs.length ≤ 1000) (hcap : zs.length ≤ cap) (hcm : cap ≤ maxLen) :
    Calls Tryd.prog 60 #[.slice a zs.length cap, .int .i64 i] w fun e w' => e = .returned (.int .u64 (lb zs i)) ∧ w' = w := by
  unfold maxLen at hcm
  obtain rfl := hr.at_ (by omega)
  have hci := hr.cell i hi
  generalize hxe : zs[i]?.getD 0 = x at hci
  have HX := hide hxe
  clear hxe
  go_enter Tryd.func60, Tryd.ntmps60
  by_cases hcc : cap = i + 1
  · have hn : zs.length = i + 1 := by omega
    have hlb : lb zs i = 0 := by rw [← lbTo_all (k := 0) (by omega)]; have := lbTo_le zs i 0; omega
    have HLB := hide hlb
    have h1 : zs.length ≤ i + 1 := by omega
    have h2 : cap ≤ i + 1 := by omega
    clear hlb hn
    go_wp2
    go_loop [5, 13] (fun n k => n = .int .u64 0 ∧ k = .int .i64 0) (fun _ _ => 0)
    case atStart => exact ⟨rfl, rfl⟩
    case round =>
      obtain ⟨rfl, rfl⟩ := hrel
      have h3 : ((zs.length : Int) - (i + 1)) ≤ 0 := by omega
      go_wp2
      go_ret
      exact ⟨by rw [HLB.out]; rfl, rfl⟩
  · go_wp2
    go_loop [5, 13] (fun n i' => ∃ k : Nat, i + 1 + k ≤ zs.length ∧ i' = .int .i64 k ∧ n = .int .u64 (lbTo zs i k)) (fun _ i' => zs.length - (intOf i').toNat)
    case atStart => exact ⟨0, by omega, rfl, by simp [lbTo]⟩
    case round =>
      obtain ⟨k, hk, rfl, rfl⟩ := hrel
      have hle := lbTo_le zs i k
      by_cases hlt : i + 1 + k < zs.length
      · have hck := hr.cell (i + 1 + k) hlt
        rw [show po + (i + 1 + k) = po + (i + 1) + k by omega] at hck
        have hh := lbTo_hit hlt
        have hm := lbTo_miss hlt
        rw [HX.out] at hh hm
        generalize hye : zs[i + 1 + k]?.getD 0 = y at hck hh hm
        have HH := hide hh
        have HM := hide hm
        clear hh hm hye
        by_cases hyx : y < x
        · have e := HH.out hyx
          have HE := hide e
          clear e
          go_wp2
          go_round
          case rel => exact ⟨k + 1, by omega, by go_num, by rw [HE.out]; go_num⟩
          case measure => simp [intOf]; omega
        · have e := HM.out hyx
          have HE := hide e
          clear e
          go_wp2
          go_round
          case rel => exact ⟨k + 1, by omega, by go_num, by rw [HE.out]⟩
          case measure => simp [intOf]; omega
      · have hall := lbTo_all (zs := zs) (i := i) (k := k) (by omega)
        have HA := hide hall
        clear hall
        go_wp2
        go_ret
        exact ⟨by rw [HA.out]; rfl, rfl⟩

end Go.Proofs.YtjchmhngfnlbhaaDoor
