/- What package set's In answers; the closures of greatest. -/
import Derived.Test.YtelglfegpfhbpaaDoorSg6
import Derived.Test.YtelglfegpfhbpaaDoorCen
namespace Go.Proofs.YtelglfegpfhbpaaDoor
open Go Go.RowKit

theorem andn_bs (p q : Nat → Bool) {n : Nat} (hn : n ≤ 60) : Go.bits BinOp.andNot IntKind.u64 (bs p n : Int) (bs q n : Int) = (bs (fun a => p a && !q a) n : Int) := by
  have h64 : ∀ r : Nat → Bool, bs r n < 2 ^ 64 := fun r => Nat.lt_of_lt_of_le (bs_64 hn) (by decide)
  have hv : ∀ r : Nat → Bool, (BitVec.ofInt 64 (bs r n : Int)).toNat = bs r n := fun r => by
    rw [BitVec.ofInt_natCast, BitVec.toNat_ofNat]; exact Nat.mod_eq_of_lt (h64 r)
  have hx : (BitVec.ofInt 64 (bs p n : Int) &&& ~~~BitVec.ofInt 64 (bs q n : Int)).toNat = bs (fun a => p a && !q a) n := by
    apply Nat.eq_of_testBit_eq
    intro i
    rw [BitVec.testBit_toNat, BitVec.getLsbD_and, BitVec.getLsbD_not, ← BitVec.testBit_toNat, ← BitVec.testBit_toNat, hv, hv, bs_bit, bs_bit, bs_bit]
    by_cases hi : i < n
    · have : i < 64 := by omega
      simp [hi, this]
    · simp [hi]
  show IntKind.u64.wrap ((BitVec.ofInt 64 (bs p n : Int) &&& ~~~BitVec.ofInt 64 (bs q n : Int)).toNat : Int) = _
  rw [hx, IntKind.wrap_u64]
  have := h64 (fun a => p a && !q a)
  omega
/-- Is one set in another one? -/
def inB (s t : Nat) : Bool := decide (s &&& t = s)
theorem inB_iff {n : Nat} {p q : Nat → Bool} : inB (bs p n) (bs q n) = true ↔ ∀ a, a < n → p a = true → q a = true := by
  unfold inB
  rw [decide_eq_true_eq]
  constructor
  · intro h a ha hp
    have := congrArg (fun x => Nat.testBit x a) h
    simp only [Nat.testBit_and, bs_bit] at this
    simp [ha, hp] at this
    exact this
  · intro h
    apply Nat.eq_of_testBit_eq
    intro a
    rw [Nat.testBit_and, bs_bit, bs_bit]
    by_cases ha : a < n
    · cases hp : p a with
      | false => simp
      | true => simp [ha, h a ha hp]
    · simp [ha]
theorem andn_zero {n : Nat} {p q : Nat → Bool} : decide (bs (fun a => p a && !q a) n = 0) = inB (bs p n) (bs q n) := by
  rw [Bool.eq_iff_iff, decide_eq_true_eq, inB_iff]
  constructor
  · intro h a ha hp
    have := congrArg (fun x => Nat.testBit x a) h
    simp only [bs_bit, Nat.zero_testBit] at this
    simp [ha, hp] at this
    exact this
  · intro h
    apply Nat.eq_of_testBit_eq
    intro a
    rw [bs_bit, Nat.zero_testBit]
    by_cases ha : a < n
    · cases hp : p a with
      | false => simp
      | true => simp [h a ha hp]
    · simp [ha]
set_option maxRecDepth 100000 in
theorem in_ok (n : Nat) (p q : Nat → Bool) (w : World) (hn : n ≤ 60) : Calls Tryd.prog 126 #[.int .u64 (bs p n : Nat), .int .u64 (bs q n : Nat)] w fun e w' => e = .returned (.bool (inB (bs p n) (bs q n))) ∧ w' = w := by
  have ha := andn_bs p q hn
  rw [← andn_zero]
  generalize bs (fun a => p a && !q a) n = Z at *
  generalize bs p n = X at *
  generalize bs q n = Y at *
  by_cases hz : Z = 0
  · have hzi : ((Z : Nat) : Int) = 0 := by omega
    have HZ := hide hz
    clear hz
    go_enter Tryd.func126, Tryd.ntmps126
    go_wp2
    go_ret
    exact ⟨by rw [decide_eq_true HZ.out]; rfl, rfl⟩
  · have hzi : ¬ ((Z : Nat) : Int) = 0 := by omega
    have hzb : (((Z : Nat) : Int) == 0) = false := by rw [beq_eq_false_iff_ne]; exact hzi
    have hd : decide (Z = 0) = false := decide_eq_false hz
    have HD := hide hd
    clear hd hz
    go_enter Tryd.func126, Tryd.ntmps126
    go_wp2
    go_ret
    exact ⟨by rw [HD.out]; rfl, rfl⟩
theorem ent123 (s : Int) (x : Value) (W : World) : Sem.run Tryd.prog (callFunc 123 (#[.int .u64 s] ++ #[x])) W = .ok (.enter 123 (#[.int .u64 s] ++ #[x])) W := by kernel_rfl
theorem ent125 (s : Int) (x : Value) (W : World) : Sem.run Tryd.prog (callFunc 125 (#[.int .u64 s] ++ #[x])) W = .ok (.enter 125 (#[.int .u64 s] ++ #[x])) W := by kernel_rfl
set_option maxRecDepth 100000 in
theorem gr1_ok (b s A : Nat) (w : World) (hA : Boxed w b 82 (.int .u64 (A : Nat))) : Calls Tryd.prog 123 (#[.int .u64 (s : Nat)] ++ #[.pointer (some ⟨b, 0, none⟩)]) w fun e w' => e = .returned (.bool (decide (s = A))) ∧ Below w.heap.size w w' := by
  show Calls Tryd.prog 123 #[.int .u64 (s : Nat), .pointer (some ⟨b, 0, none⟩)] w _
  have c0 := hA.cell
  by_cases h : s = A
  · subst h
    go_enter Tryd.func123, Tryd.ntmps123
    go_wp2
    go_ret
    exact ⟨by simp, Below.refl _ _⟩
  · have hi : ¬ (s : Int) = (A : Int) := by omega
    have hib : ((s : Int) == (A : Int)) = false := by rw [beq_eq_false_iff_ne]; exact hi
    have HD := hide (show decide (s = A) = false from decide_eq_false h)
    clear h
    go_enter Tryd.func123, Tryd.ntmps123
    go_wp2
    go_ret
    exact ⟨by rw [HD.out]; rfl, Below.refl _ _⟩
/-- Is a set less than another one? -/
def lessB (s t : Nat) : Bool := decide (s ≠ t) && inB s t
set_option maxRecDepth 100000 in
set_option maxHeartbeats 1000000 in
theorem gr2_ok (n b : Nat) (p q : Nat → Bool) (w : World) (hn : n ≤ 60) (hA : Boxed w b 82 (.int .u64 (bs p n : Nat))) : Calls Tryd.prog 125 (#[.int .u64 (bs q n : Nat)] ++ #[.pointer (some ⟨b, 0, none⟩)]) w fun e w' => e = .returned (.bool (lessB (bs p n) (bs q n))) ∧ Below w.heap.size w w' := by
  show Calls Tryd.prog 125 #[.int .u64 (bs q n : Nat), .pointer (some ⟨b, 0, none⟩)] w _
  have c0 := hA.cell
  have HI := hide (in_ok n p q w hn)
  unfold lessB
  generalize inB (bs p n) (bs q n) = B9 at *
  generalize bs p n = X at *
  generalize bs q n = Y at *
  by_cases h : X = Y
  · have hi : (X : Int) = (Y : Int) := by omega
    have HD := hide (show decide (X ≠ Y) = false from decide_eq_false (fun h9 => h9 h))
    clear h
    go_enter Tryd.func125, Tryd.ntmps125
    go_wp2
    go_ret
    exact ⟨by rw [HD.out]; rfl, Below.refl _ _⟩
  · have hi : ¬ (X : Int) = (Y : Int) := by omega
    have hib : ((X : Int) != (Y : Int)) = true := by rw [bne_iff_ne]; exact hi
    have HD := hide (show decide (X ≠ Y) = true from decide_eq_true h)
    clear h
    go_enter Tryd.func125, Tryd.ntmps125
    go_wp2_with fail
    refine HI.out.mono ?_
    rintro x w1 ⟨rfl, rfl⟩
    go_wp2
    go_ret
    exact ⟨by rw [HD.out, Bool.true_and]; rfl, Below.refl _ _⟩
end Go.Proofs.YtelglfegpfhbpaaDoor
