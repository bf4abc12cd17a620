/- The law's prodBegun: the document's example holds. Condition: the library's table of places lies as its text lays it. Primes and powers: package sylow's isPrime and isPower; the law's isPrime and powerIn. What package sylow's opened answers. How many bits a number of 64 bits has, counted as math/bits.OnesCount64 does: pairs of fields are added, side by side. Pure mathematics. The last steps of the count of bits: eight bytes are added into the lowest. The count of a set's bits is how many things it has. math/bits.OnesCount64 and (set.Set).Len: how many things a set has. What package sylow's grown answers: a subgroup of a power of p things that no thing makes a greater one of that kind. Condition: the library's table of places lies as its text lays it. What package sylow's subgroups answers: a map whose keys are the conjugates of one of Sylow's subgroups. Condition: the library's table of places lies as its text lays it. Package sub and coset again: sets that came in, Made, Is, Normal, Closure, cosets. Condition: the library's table of places lies as its text lays it. Package sub's Centre at a group, the commutator of two things, what two lists have both. Condition: the library's table of places lies as its text lays it. The subgroup that the commutators of two sets make; the least subgroup that has a set and is, conjugated by each thing of another, the same. Condition: the library's table of places lies as its text lays it. What the document's Closed answers. The document's SetFault and SubFault. -/
import Derived.Test.YtgdpgbldjpeopaaGreatDoorZ6
import Derived.Test.YtgdpgbldjpeopaaGreatDoorZ2
import Derived.Test.YtgdpgbldjpeopaaGreatDoorZ3
import Derived.Test.YtgdpgbldjpeopaaGreatDoorZ1
import Derived.Deep.RegionHeld3
import Derived.WalkMore
import Derived.Maps.OwnSet
import Derived.Maps.AppendAt
import Derived.Test.YtgdpgbldjpeopaaGreatDoorZ4
import Derived.BigQuiet
import Derived.Deep.AppendLies
import Derived.Deep.DeepCutAuto
import Derived.Deep.RegionLaw
import Derived.Laws.EntriesVeiled
import Derived.Maps.Ext
import Derived.Maps.OwnOps
namespace Go.Proofs.YtgdpgbldjpeopaaGreatDoor
open Go Go.RowKit

set_option maxRecDepth 100000 in
set_option maxHeartbeats 4000000 in
theorem commutes_ok (n : Nat) (v : Value) (zs : List Int) (w : World) (ht : IsTab n zs) (hv : Sl w v zs) :
    Calls Tryz.prog 19 #[.agg #[.int .i64 n, v]] w fun x w' => x = .returned (.bool (comB n zs)) ∧ Below w.heap.size w w' := by
  have hB0 : Below w.heap.size w (w.alloc (.cells #[.int .i64 n, v] 24)) := balloc w _
  have hg0 : BoxG (w.alloc (.cells #[.int .i64 n, v] 24)) w.heap.size n v := blk0 _ _
  have hv0 := hv.below hB0
  have hle := ht.le
  have HT := hide ht
  obtain ⟨g0, g1, _, _⟩ := hg0.two
  clear ht
  go_enter Tryz.func19, Tryz.ntmps19
  go_wp2
  generalize w.alloc (.cells #[.int .i64 n, v] 24) = w0 at *
  go_loopw [3] (fun i wr => ∃ k : Nat, k ≤ n ∧ i = .int .i64 k ∧ (∀ a b, a < k → b < n → tm n zs a b = tm n zs b a) ∧ Below w0.heap.size w0 wr) (fun i _ => n - (intOf i).toNat)
  case atStart => exact ⟨0, Nat.zero_le _, rfl, fun a b ha => by omega, Below.refl _ _⟩
  case round =>
    obtain ⟨a, hk, rfl, hno, hB⟩ := hrel
    have HN := hide hno
    have d0 := below_cell hB g0
    have d1 := below_cell hB g1
    clear hno
    by_cases hlt : a < n
    · go_wp2
      clear d0 d1
      go_loopw [4] (fun i wr => ∃ k : Nat, k ≤ n ∧ i = .int .i64 k ∧ (∀ b, b < k → tm n zs a b = tm n zs b a) ∧ Below w0.heap.size w0 wr) (fun i _ => n - (intOf i).toNat)
      case atStart => exact ⟨0, Nat.zero_le _, rfl, fun b hb => by omega, hB⟩
      case round =>
        obtain ⟨b, hk2, rfl, hno2, hB2⟩ := hrel
        have HN2 := hide hno2
        have d0 := below_cell hB2 g0
        have d1 := below_cell hB2 g1
        clear hno2
        by_cases hlt2 : b < n
        · have hS : ∀ W, Below w0.heap.size w0 W → (Below w0.heap.size w0 W ∧ W.cell? ⟨w.heap.size, 0, none⟩ = some (.int .i64 n) ∧ W.cell? ⟨w.heap.size, 1, none⟩ = some v) := fun W h => ⟨h, below_cell h g0, below_cell h g1⟩
          have hS0 := hS _ (bdrew hB2)
          go_wp2_with fail
          clear d0 d1
          go_region_held3 (fun W => Below w0.heap.size w0 W ∧ W.cell? ⟨w.heap.size, 0, none⟩ = some (.int .i64 n) ∧ W.cell? ⟨w.heap.size, 1, none⟩ = some v)
            (first | exact hS0 | assumption | exact hS _ (bcat2 (And.left ‹_›) hl1))
            (first | (go_at_call 24; refine (M_ok n v zs _ _ _ HT.out (hv0.below (And.left ‹_›)) (by assumption) (by assumption)).mono ?_; rintro e W1 ⟨rfl, hl1⟩))
          obtain ⟨hB3, _⟩ := ‹Below w0.heap.size w0 W1 ∧ _›
          clear hS hS0 hl1
          by_cases hxy : tm n zs a b = tm n zs b a
          · have hbe : ((tm n zs a b : Int) != (tm n zs b a : Int)) = false := by simp [hxy]
            have HXY := hide hxy
            clear hxy
            go_wp2
            go_roundw
            case rel => exact ⟨b + 1, by omega, by go_num, fun d hd => by
              by_cases e : d = b
              · rw [e]; exact HXY.out
              · exact HN2.out d (by omega), hB3⟩
            case measure => simp [intOf]; omega
          · have hbe : ((tm n zs a b : Int) != (tm n zs b a : Int)) = true := by simp; omega
            go_wp2
            go_ret
            refine ⟨retB ?_, bcat hB0 hB3 hB0.size⟩
            cases hq : comB n zs with
            | false => rfl
            | true => exact absurd (comB_iff.1 hq a b hlt hlt2) hxy
        · have hcn : b = n := by omega
          subst hcn
          go_wp2
          go_roundw
          case rel => exact ⟨a + 1, by omega, by go_num, fun d c hd hc => by
            by_cases e : d = a
            · rw [e]; exact HN2.out c hc
            · exact HN.out d c (by omega) hc, hB2⟩
          case measure => simp [intOf]; omega
    · have hbn : a = n := by omega
      subst hbn
      go_wp2
      go_ret
      exact ⟨retB (comB_iff.2 (fun d c hd hc => HN.out d c hd hc)).symm, bcat hB0 hB hB0.size⟩
theorem sl_blk {W : World} {b : Nat} {xs : List Int} (h : Blk W b 3 (xs.map (Value.int .i64))) (hm : xs.length ≤ maxLen) : Sl W (.slice (some ⟨b, 0, none⟩) xs.length xs.length) xs :=
  ⟨some ⟨b, 0, none⟩, xs.length, b, 0, rfl, ⟨fun _ => rfl, fun j hj => by
    rw [Nat.zero_add, h.cell j]
    simp [hj]⟩, h.lt, Nat.le_refl _, hm⟩
def exA : List (List Int) := [[0, 1, 2], [0, 2, 1]]
theorem ex_semc : semc 3 (rngT 3) 2 (rngT 2) exA = (0, 0) := by decide +kernel
theorem ex_grp : ∃ e, IsGrp 6 (semT 3 (rngT 3) 2 (rngT 2) (actf exA)) e := by
  obtain ⟨n, e, hn, hg, _⟩ := gfault_grp (N := 6) (zs := semT 3 (rngT 3) 2 (rngT 2) (actf exA)) (by decide +kernel)
  obtain rfl : n = 6 := by omega
  exact ⟨e, hg⟩
theorem ex_com : comB 6 (semT 3 (rngT 3) 2 (rngT 2) (actf exA)) = false := by decide +kernel
set_option maxRecDepth 100000 in
set_option maxHeartbeats 4000000 in
theorem prodBegun_any (w : World) (hT : Tab w) : Calls Tryz.prog 4 #[] w fun x w' => x = .returned (.bool true) ∧ Below w.heap.size w w' := by
  have HR3 := hide (ring_ok 3 w (by decide) (by decide))
  go_enter Tryz.func4, Tryz.ntmps4
  go_wp2_with fail
  refine HR3.out.mono ?_
  rintro x w1 ⟨ra, rfl, hra, hb1⟩
  have h0 := hT.lt
  have hsa := row_sl hra (Nat.lt_of_lt_of_le h0 hb1.size)
  obtain ⟨a1, a2, a3, rfl⟩ := hsa.isSlice
  have HR2 := hide (ring_ok 2 w1 (by decide) (by decide))
  go_wp2_with fail
  refine HR2.out.mono ?_
  rintro x w2 ⟨rb, rfl, hrb, hb2⟩
  have hB2 := bcat2 hb1 hb2
  have hsb := row_sl hrb (Nat.lt_of_lt_of_le h0 hB2.size)
  obtain ⟨b1, b2, b3, rfl⟩ := hsb.isSlice
  have hsa2 := hsa.below hb2
  clear hra hrb hsa HR2 HR3
  obtain ⟨w3, hw3⟩ : ∃ w3, w3 = ((w2.alloc (.cells #[.int .i64 0, .int .i64 1, .int .i64 2] 3)).alloc (.cells #[.int .i64 0, .int .i64 2, .int .i64 1] 3)).alloc (.cells #[.slice (some ⟨w2.heap.size, 0, none⟩) 3 3, .slice (some ⟨w2.heap.size + 1, 0, none⟩) 3 3] 22) := ⟨_, rfl⟩
  have hb3 : Below w2.heap.size w2 w3 := by rw [hw3]; exact ((balloc w2 _).alloc (by simp) _).alloc (by simp; omega) _
  have hP : Blk w3 w2.heap.size 3 (([0, 1, 2] : List Int).map (Value.int .i64)) := by
    rw [hw3]
    exact ((show Blk (w2.alloc (.cells #[.int .i64 0, .int .i64 1, .int .i64 2] 3)) w2.heap.size 3 [.int .i64 0, .int .i64 1, .int .i64 2] from World.alloc_heap_new w2 _).alloc _).alloc _
  have hQ : Blk w3 (w2.heap.size + 1) 3 (([0, 2, 1] : List Int).map (Value.int .i64)) := by
    rw [hw3]
    have h := (show Blk ((w2.alloc (.cells #[.int .i64 0, .int .i64 1, .int .i64 2] 3)).alloc (.cells #[.int .i64 0, .int .i64 2, .int .i64 1] 3)) (w2.alloc (.cells #[.int .i64 0, .int .i64 1, .int .i64 2] 3)).heap.size 3 [.int .i64 0, .int .i64 2, .int .i64 1] from World.alloc_heap_new _ _).alloc (.cells #[.slice (some ⟨w2.heap.size, 0, none⟩) 3 3, .slice (some ⟨w2.heap.size + 1, 0, none⟩) 3 3] 22)
    rw [World.size_alloc] at h
    exact h
  have hL : Blk w3 (w2.heap.size + 1 + 1) 22 [.slice (some ⟨w2.heap.size, 0, none⟩) 3 3, .slice (some ⟨w2.heap.size + 1, 0, none⟩) 3 3] := by
    rw [hw3]
    have h := World.alloc_heap_new ((w2.alloc (.cells #[.int .i64 0, .int .i64 1, .int .i64 2] 3)).alloc (.cells #[.int .i64 0, .int .i64 2, .int .i64 1] 3)) (.cells #[.slice (some ⟨w2.heap.size, 0, none⟩) 3 3, .slice (some ⟨w2.heap.size + 1, 0, none⟩) 3 3] 22)
    rw [World.size_alloc, World.size_alloc] at h
    exact h
  have hsL : SlL w3 (.slice (some ⟨w2.heap.size + 1 + 1, 0, none⟩) 2 2) exA := by
    refine ⟨some ⟨w2.heap.size + 1 + 1, 0, none⟩, 2, w2.heap.size + 1 + 1, 0, rfl, fun _ => rfl, fun j hj => ?_, hL.lt, Nat.le_refl _, by unfold maxLen; decide⟩
    rw [Nat.zero_add, hL.cell j]
    have hj : j < 2 := hj
    rcases (show j = 0 ∨ j = 1 by omega) with rfl | rfl
    · exact ⟨_, rfl, sl_blk hP (by unfold maxLen; decide)⟩
    · exact ⟨_, rfl, sl_blk hQ (by unfold maxLen; decide)⟩
  have hB3 := bcat2 hB2 hb3
  have HSE := hide (semi_any 3 2 (.slice a1 a2 a3) (.slice b1 b2 b3) (.slice (some ⟨w2.heap.size + 1 + 1, 0, none⟩) 2 2) (rngT 3) (rngT 2) exA w3 (hsa2.below hb3) (hsb.below hb3) hsL (hT.below hB3))
  rw [ex_semc] at HSE
  simp only at HSE
  go_wp2_with fail
  rw [← hw3]
  clear hw3
  refine HSE.out.mono ?_
  rintro x w4 ⟨g, rfl, _, hg, hb4⟩
  obtain ⟨r1, r2, r3, rfl, hr⟩ := hg (by simp)
  have hsr := row_sl hr (Nat.lt_of_lt_of_le (Nat.lt_of_lt_of_le h0 hB3.size) hb4.size)
  have hsr : Sl w4 (.slice r1 r2 r3) (semT 3 (rngT 3) 2 (rngT 2) (actf exA)) := hsr
  obtain ⟨w5, hw5⟩ : ∃ w5, w5 = (w4.alloc (.cells #[.int .i64 6, .slice r1 r2 r3] 24)).alloc (.cells #[.int .i64 0, .int .i64 0] 28) := ⟨_, rfl⟩
  have hb5 : Below w4.heap.size w4 w5 := by rw [hw5]; exact (balloc w4 _).alloc (by simp) _
  have hG5 : BoxG w5 w4.heap.size 6 (.slice r1 r2 r3) := by rw [hw5]; exact (blk0 _ _).alloc _
  have hF5 : Blk w5 (w4.heap.size + 1) 28 [.int .i64 0, .int .i64 0] := by
    rw [hw5]
    have := blk0 (w := w4.alloc (.cells #[.int .i64 6, .slice r1 r2 r3] 24)) (T := 28) (.int .i64 0) (.int .i64 0)
    rwa [World.size_alloc] at this
  have hB5 := bcat2 hB3 (bcat2 hb4 hb5)
  obtain ⟨e, hgr⟩ := ex_grp
  have HCO := hide (commutes_ok 6 (.slice r1 r2 r3) _ w5 hgr.tab (hsr.below hb5))
  rw [ex_com] at HCO
  obtain ⟨f0, f1, _, _⟩ := hF5.two
  obtain ⟨c0, c1, _, _⟩ := hG5.two
  rw [hw5] at f0 f1 c0 c1
  clear hsr hr hg HSE
  go_wp2_with fail
  rw [← hw5]
  clear f0 f1 c0 c1 hw5
  refine HCO.out.mono ?_
  rintro x w6 ⟨rfl, hb6⟩
  go_wp2
  go_ret
  exact ⟨rfl, bcat2 hB5 hb6⟩
end Go.Proofs.YtgdpgbldjpeopaaGreatDoor

namespace Go.Proofs.YtgdpgbldjpeopaaGreatDoor
open Go Go.RowKit

/-- A prime from 2 to 100. -/
def primeB (p : Int) : Bool := decide (2 ≤ p ∧ p ≤ 100 ∧ ∀ d : Nat, d < p.toNat → 2 ≤ d → p.toNat % d ≠ 0)
theorem prime_root : ∀ p : Nat, p < 101 → 2 ≤ p → (∀ d : Nat, d < p → 2 ≤ d → d * d ≤ p → p % d ≠ 0) → ∀ d : Nat, d < p → 2 ≤ d → p % d ≠ 0 := by
  intro p hp h2 h d hd hd2 hm
  by_cases hle : d * d ≤ p
  · exact h d hd hd2 hle hm
  · obtain ⟨k, hk⟩ := Nat.dvd_of_mod_eq_zero hm
    have hkd : k < d := by
      refine Nat.lt_of_not_le fun h9 => ?_
      have := Nat.mul_le_mul_left d h9
      omega
    have hk2 : 2 ≤ k := by
      match k, hk with
      | 0, hk => simp at hk; omega
      | 1, hk => simp at hk; omega
      | k + 2, _ => omega
    have hkk : k * k ≤ p := by
      have := Nat.mul_le_mul_right k (Nat.le_of_lt hkd)
      omega
    refine h k (by omega) hk2 hkk ?_
    rw [hk]
    exact Nat.mul_mod_left d k
/-- A power of p. -/
def isPw (n p : Nat) : Prop := ∃ k, n = p ^ k
theorem pw_strip {p v j k : Nat} (hp : 2 ≤ p) (hv : ¬ p ∣ v) (h : v * p ^ j = p ^ k) : v = 1 := by
  have hpos : 0 < p := by omega
  rcases Nat.lt_trichotomy j k with h1 | h1 | h1
  · refine absurd ?_ hv
    obtain ⟨t, rfl⟩ : ∃ t, k = j + t + 1 := ⟨k - j - 1, by omega⟩
    have h2 : v = p ^ (t + 1) := by
      refine Nat.eq_of_mul_eq_mul_right (Nat.pow_pos (n := j) hpos) ?_
      rw [h, ← Nat.pow_add]
      congr 1
      omega
    rw [h2, Nat.pow_succ]
    exact Nat.dvd_mul_left _ _
  · subst h1
    exact Nat.eq_of_mul_eq_mul_right (Nat.pow_pos (n := j) hpos) (by rw [h, Nat.one_mul])
  · exfalso
    obtain ⟨t, rfl⟩ : ∃ t, j = k + t + 1 := ⟨j - k - 1, by omega⟩
    have h2 : v * p ^ (t + 1) = 1 := by
      refine Nat.eq_of_mul_eq_mul_right (Nat.pow_pos (n := k) hpos) ?_
      rw [Nat.one_mul, Nat.mul_assoc, ← Nat.pow_add, show t + 1 + k = k + t + 1 by omega]
      exact h
    have h3 := Nat.eq_one_of_mul_eq_one_left h2
    rw [Nat.pow_succ] at h3
    have h4 := Nat.eq_one_of_mul_eq_one_left h3
    omega
end Go.Proofs.YtgdpgbldjpeopaaGreatDoor

namespace Go.Proofs.YtgdpgbldjpeopaaGreatDoor
open Go Go.RowKit

end Go.Proofs.YtgdpgbldjpeopaaGreatDoor

namespace Go.Proofs.YtgdpgbldjpeopaaGreatDoor.Pop
open Go

/-- A number of these digits, the lowest first. -/
def val (B : Nat) : List Nat → Nat
  | [] => 0
  | d :: ds => d + B * val B ds
/-- Fields of k bits, every other one full. -/
def mask (k : Nat) : Nat → Nat
  | 0 => 0
  | n + 1 => (2 ^ k - 1) + 2 ^ (2 * k) * mask k n
def pairs : List Nat → List Nat
  | d :: c :: ds => (d + c) :: pairs ds
  | _ => []
theorem and_split {k a b c d : Nat} (ha : a < 2 ^ k) (hc : c < 2 ^ k) : (a + 2 ^ k * b) &&& (c + 2 ^ k * d) = (a &&& c) + 2 ^ k * (b &&& d) := by
  have hac : a &&& c < 2 ^ k := Nat.lt_of_le_of_lt Nat.and_le_left ha
  apply Nat.eq_of_testBit_eq
  intro i
  rw [Nat.testBit_and, Nat.add_comm a, Nat.add_comm c, Nat.add_comm (a &&& c), Nat.testBit_two_pow_mul_add _ ha, Nat.testBit_two_pow_mul_add _ hc, Nat.testBit_two_pow_mul_add _ hac]
  by_cases h : i < k
  · rw [if_pos h, if_pos h, if_pos h, Nat.testBit_and]
  · rw [if_neg h, if_neg h, if_neg h, Nat.testBit_and]
theorem two_fields {k d c : Nat} (hd : d < 2 ^ k) (hc : c < 2 ^ k) : d + 2 ^ k * c < 2 ^ (2 * k) := by
  have h1 : 2 ^ (2 * k) = 2 ^ k * 2 ^ k := by rw [Nat.two_mul, Nat.pow_add]
  have h2 : 2 ^ k * (c + 1) ≤ 2 ^ k * 2 ^ k := Nat.mul_le_mul_left _ hc
  rw [h1]
  rw [Nat.mul_add] at h2
  omega
theorem low_field {k d c : Nat} (hd : d < 2 ^ k) : (d + 2 ^ k * c) &&& (2 ^ k - 1) = d := by
  rw [Nat.and_two_pow_sub_one_eq_mod, Nat.add_mul_mod_self_left, Nat.mod_eq_of_lt hd]
theorem mask_lt (k : Nat) : 2 ^ k - 1 < 2 ^ (2 * k) := Nat.lt_of_lt_of_le (Nat.sub_lt (Nat.two_pow_pos k) (by omega)) (Nat.pow_le_pow_right (by omega) (by omega))
theorem sq (k x : Nat) : 2 ^ k * (2 ^ k * x) = 2 ^ (2 * k) * x := by rw [← Nat.mul_assoc, ← Nat.pow_add, Nat.two_mul]
/-- One step: fields that stand side by side are added. -/
theorem step (k : Nat) : ∀ (n : Nat) (ds : List Nat), ds.length = 2 * n → (∀ d, d ∈ ds → d < 2 ^ k) →
    ((val (2 ^ k) ds / 2 ^ k) &&& mask k n) + (val (2 ^ k) ds &&& mask k n) = val (2 ^ (2 * k)) (pairs ds)
  | 0, ds, hl, _ => by
    obtain rfl : ds = [] := List.length_eq_zero_iff.1 (by omega)
    simp [mask, pairs, val]
  | n + 1, ds, hl, hd => by
    match ds, hl, hd with
    | d :: c :: ds, hl, hd =>
      have h1 : d < 2 ^ k := hd d (by simp)
      have h2 : c < 2 ^ k := hd c (by simp)
      have ih := step k n ds (by simp at hl; omega) (fun x hx => hd x (by simp [hx]))
      have hp := Nat.two_pow_pos k
      have hV := Nat.mod_add_div (val (2 ^ k) ds) (2 ^ k)
      have hm := Nat.mod_lt (val (2 ^ k) ds) hp
      show ((d + 2 ^ k * (c + 2 ^ k * val (2 ^ k) ds)) / 2 ^ k &&& ((2 ^ k - 1) + 2 ^ (2 * k) * mask k n)) + ((d + 2 ^ k * (c + 2 ^ k * val (2 ^ k) ds)) &&& ((2 ^ k - 1) + 2 ^ (2 * k) * mask k n)) = (d + c) + 2 ^ (2 * k) * val (2 ^ (2 * k)) (pairs ds)
      generalize val (2 ^ k) ds = V at *
      have e2 : (d + 2 ^ k * (c + 2 ^ k * V)) = (d + 2 ^ k * c) + 2 ^ (2 * k) * V := by rw [Nat.mul_add, sq, Nat.add_assoc]
      have e3 : (d + 2 ^ k * (c + 2 ^ k * V)) / 2 ^ k = c + 2 ^ k * V := by rw [Nat.add_mul_div_left _ _ hp, Nat.div_eq_of_lt h1, Nat.zero_add]
      have e4 : c + 2 ^ k * V = (c + 2 ^ k * (V % 2 ^ k)) + 2 ^ (2 * k) * (V / 2 ^ k) := by
        rw [← sq, Nat.add_assoc, ← Nat.mul_add, hV]
      rw [e3, e2, e4, and_split (two_fields h2 hm) (mask_lt k), and_split (two_fields h1 h2) (mask_lt k), low_field h2, low_field h1, ← ih, Nat.mul_add]
      omega
theorem pairs_sum : ∀ (n : Nat) (ds : List Nat), ds.length = 2 * n → (pairs ds).sum = ds.sum ∧ (pairs ds).length = n
  | 0, ds, hl => by
    obtain rfl : ds = [] := List.length_eq_zero_iff.1 (by omega)
    simp [pairs]
  | n + 1, ds, hl => by
    match ds, hl with
    | d :: c :: ds, hl =>
      obtain ⟨h1, h2⟩ := pairs_sum n ds (by simp at hl; omega)
      simp [pairs, h1, h2]
      omega
theorem pairs_le {B : Nat} : ∀ (n : Nat) (ds : List Nat), ds.length = 2 * n → (∀ d, d ∈ ds → d ≤ B) → ∀ d, d ∈ pairs ds → d ≤ 2 * B
  | 0, ds, hl, _ => by
    obtain rfl : ds = [] := List.length_eq_zero_iff.1 (by omega)
    simp [pairs]
  | n + 1, ds, hl, hd => by
    match ds, hl, hd with
    | d :: c :: ds, hl, hd =>
      intro x hx
      have h1 := hd d (by simp)
      have h2 := hd c (by simp)
      rcases List.mem_cons.1 hx with rfl | hx
      · omega
      · exact pairs_le n ds (by simp at hl; omega) (fun y hy => hd y (by simp [hy])) x hx
/-- The digit above is added to each digit. -/
def adj : List Nat → List Nat
  | d :: c :: ds => (d + c) :: adj (c :: ds)
  | ds => ds
theorem adj_val {B : Nat} (hB : 0 < B) : ∀ ds : List Nat, (∀ d, d ∈ ds → d < B) → val B ds / B + val B ds = val B (adj ds)
  | [], _ => by simp [adj, val]
  | [d], h => by
    have := h d (by simp)
    simp [adj, val, Nat.div_eq_of_lt this]
  | d :: c :: ds, h => by
    have ih := adj_val hB (c :: ds) (fun x hx => h x (by simp [hx]))
    have hd := h d (by simp)
    have hc := h c (by simp)
    have e1 : val B (c :: ds) = c + B * val B ds := rfl
    have e2 : (c + B * val B ds) / B = val B ds := by rw [Nat.add_mul_div_left _ _ hB, Nat.div_eq_of_lt hc, Nat.zero_add]
    rw [e1, e2] at ih
    have e3 : val B (d :: c :: ds) = d + B * (c + B * val B ds) := rfl
    have e4 : (d + B * (c + B * val B ds)) / B = c + B * val B ds := by rw [Nat.add_mul_div_left _ _ hB, Nat.div_eq_of_lt hd, Nat.zero_add]
    rw [e3, e4]
    show _ = (d + c) + B * val B (adj (c :: ds))
    rw [← ih]
    generalize val B ds = V
    simp only [Nat.mul_add]
    omega
theorem adj_le {M : Nat} : ∀ ds : List Nat, (∀ d, d ∈ ds → d ≤ M) → ∀ d, d ∈ adj ds → d ≤ 2 * M
  | [], _ => by simp [adj]
  | [d], h => fun x hx => by
    have := h x hx
    omega
  | d :: c :: ds, h => fun x hx => by
    have h1 := h d (by simp)
    have h2 := h c (by simp)
    rcases List.mem_cons.1 hx with rfl | hx
    · omega
    · exact adj_le (c :: ds) (fun y hy => h y (by simp [hy])) x hx
theorem adj_len : ∀ ds : List Nat, (adj ds).length = ds.length
  | [] => rfl
  | [_] => rfl
  | _ :: c :: ds => by simp [adj, adj_len (c :: ds)]
/-- Every other digit. -/
def evens : List Nat → List Nat
  | d :: _ :: ds => d :: evens ds
  | _ => []
theorem and_evens (k : Nat) : ∀ (n : Nat) (ds : List Nat), ds.length = 2 * n → (∀ d, d ∈ ds → d < 2 ^ k) → val (2 ^ k) ds &&& mask k n = val (2 ^ (2 * k)) (evens ds)
  | 0, ds, hl, _ => by
    obtain rfl : ds = [] := List.length_eq_zero_iff.1 (by omega)
    simp [mask, evens, val]
  | n + 1, ds, hl, hd => by
    match ds, hl, hd with
    | d :: c :: ds, hl, hd =>
      have h1 : d < 2 ^ k := hd d (by simp)
      have h2 : c < 2 ^ k := hd c (by simp)
      have ih := and_evens k n ds (by simp at hl; omega) (fun x hx => hd x (by simp [hx]))
      show ((d + 2 ^ k * (c + 2 ^ k * val (2 ^ k) ds)) &&& ((2 ^ k - 1) + 2 ^ (2 * k) * mask k n)) = d + 2 ^ (2 * k) * val (2 ^ (2 * k)) (evens ds)
      generalize val (2 ^ k) ds = V at *
      have e2 : (d + 2 ^ k * (c + 2 ^ k * V)) = (d + 2 ^ k * c) + 2 ^ (2 * k) * V := by rw [Nat.mul_add, sq, Nat.add_assoc]
      rw [e2, and_split (two_fields h1 h2) (mask_lt k), low_field h1, ih]
theorem evens_adj : ∀ (n : Nat) (ds : List Nat), ds.length = 2 * n → evens (adj ds) = pairs ds
  | 0, ds, hl => by
    obtain rfl : ds = [] := List.length_eq_zero_iff.1 (by omega)
    rfl
  | n + 1, ds, hl => by
    match ds, hl with
    | [d, c], _ => rfl
    | d :: c :: b :: ds, hl =>
      have ih := evens_adj n (b :: ds) (by simp at hl ⊢; omega)
      show (d + c) :: evens (adj (b :: ds)) = (d + c) :: pairs (b :: ds)
      rw [ih]
end Go.Proofs.YtgdpgbldjpeopaaGreatDoor.Pop

namespace Go.Proofs.YtgdpgbldjpeopaaGreatDoor.Pop
open Go

theorem last_one {a b c d e f g h y : Nat} (ha : a ≤ 8)
    (hy : y = a + 256 * (b + 256 * (c + 256 * (d + 256 * (e + 256 * (f + 256 * (g + 256 * h))))))) : y + y / 256 = (a + b) + 256 * ((b + c) + 256 * ((c + d) + 256 * ((d + e) + 256 * ((e + f) + 256 * ((f + g) + 256 * ((g + h) + 256 * h)))))) := by
  have e1 : y / 256 = b + 256 * (c + 256 * (d + 256 * (e + 256 * (f + 256 * (g + 256 * h))))) := by
    rw [hy, Nat.add_mul_div_left _ _ (by decide), Nat.div_eq_of_lt (by omega), Nat.zero_add]
  rw [e1, hy]
  clear e1 hy
  omega
theorem last_two {a b c d e f g h y : Nat} (ha : a ≤ 16) (hb : b ≤ 16)
    (hy : y = a + 256 * (b + 256 * (c + 256 * (d + 256 * (e + 256 * (f + 256 * (g + 256 * h))))))) : y + y / 65536 = (a + c) + 256 * ((b + d) + 256 * ((c + e) + 256 * ((d + f) + 256 * ((e + g) + 256 * ((f + h) + 256 * (g + 256 * h)))))) := by
  have e1 : y / 65536 = c + 256 * (d + 256 * (e + 256 * (f + 256 * (g + 256 * h)))) := by
    rw [hy, show a + 256 * (b + 256 * (c + 256 * (d + 256 * (e + 256 * (f + 256 * (g + 256 * h)))))) = (a + 256 * b) + 65536 * (c + 256 * (d + 256 * (e + 256 * (f + 256 * (g + 256 * h))))) by omega, Nat.add_mul_div_left _ _ (by decide), Nat.div_eq_of_lt (by omega), Nat.zero_add]
  rw [e1, hy]
  clear e1 hy
  omega
theorem last_four {a b c d e f g h y : Nat} (ha : a ≤ 32) (hb : b ≤ 32) (hc : c ≤ 32) (hd : d ≤ 32)
    (hy : y = a + 256 * (b + 256 * (c + 256 * (d + 256 * (e + 256 * (f + 256 * (g + 256 * h))))))) : y + y / 4294967296 = (a + e) + 256 * ((b + f) + 256 * ((c + g) + 256 * ((d + h) + 256 * (e + 256 * (f + 256 * (g + 256 * h)))))) := by
  have e1 : y / 4294967296 = e + 256 * (f + 256 * (g + 256 * h)) := by
    rw [hy, show a + 256 * (b + 256 * (c + 256 * (d + 256 * (e + 256 * (f + 256 * (g + 256 * h)))))) = (a + 256 * (b + 256 * (c + 256 * d))) + 4294967296 * (e + 256 * (f + 256 * (g + 256 * h))) by omega, Nat.add_mul_div_left _ _ (by decide), Nat.div_eq_of_lt (by omega), Nat.zero_add]
  rw [e1, hy]
  clear e1 hy
  omega
/-- Eight bytes, none greater than eight, are added into the lowest one. -/
theorem last_steps {a b c d e f g h : Nat} (ha : a ≤ 8) (hb : b ≤ 8) (hc : c ≤ 8) (hd : d ≤ 8) (he : e ≤ 8) (hf : f ≤ 8) (hg : g ≤ 8) (hh : h ≤ 8) {y y1 y2 : Nat}
    (hy : y = val 256 [a, b, c, d, e, f, g, h]) (h1 : y1 = y + y / 256) (h2 : y2 = y1 + y1 / 65536) : (y2 + y2 / 4294967296) % 128 = a + b + c + d + e + f + g + h := by
  have e0 : y = a + 256 * (b + 256 * (c + 256 * (d + 256 * (e + 256 * (f + 256 * (g + 256 * h)))))) := by
    rw [hy]
    simp only [val]
    omega
  rw [last_one ha e0] at h1
  rw [last_two (by omega) (by omega) h1] at h2
  rw [last_four (by omega) (by omega) (by omega) (by omega) h2]
  clear h1 h2 e0 hy
  omega
/-- The count, as the library's text reckons it, without what is cut off at 64 bits: nothing is. -/
def cnt (x : Nat) : Nat :=
  let x1 := ((x / 2 ^ 1) &&& mask 1 32) + (x &&& mask 1 32)
  let x2 := ((x1 / 2 ^ 2) &&& mask 2 16) + (x1 &&& mask 2 16)
  let x3 := (x2 / 2 ^ 4 + x2) &&& mask 4 8
  let y1 := x3 + x3 / 256
  let y2 := y1 + y1 / 65536
  (y2 + y2 / 4294967296) % 128
theorem cnt_eq (ds : List Nat) (hl : ds.length = 64) (hd : ∀ d, d ∈ ds → d ≤ 1) : cnt (val (2 ^ 1) ds) = ds.sum := by
  have s1 := step 1 32 ds (by omega) (fun d h => by have := hd d h; omega)
  have p1 := pairs_sum 32 ds (by omega)
  have l1 := pairs_le 32 ds (by omega) hd
  have s2 := step 2 16 (pairs ds) (by omega) (fun d h => by have := l1 d h; omega)
  have p2 := pairs_sum 16 (pairs ds) (by omega)
  have l2 := pairs_le 16 (pairs ds) (by omega) l1
  have a3 := adj_val (B := 2 ^ 4) (by decide) (pairs (pairs ds)) (fun d h => by have := l2 d h; omega)
  have m3 := adj_le (pairs (pairs ds)) l2
  have n3 := adj_len (pairs (pairs ds))
  have v3 := and_evens 4 8 (adj (pairs (pairs ds))) (by omega) (fun d h => by have := m3 d h; omega)
  have w3 := evens_adj 8 (pairs (pairs ds)) (by omega)
  have p3 := pairs_sum 8 (pairs (pairs ds)) (by omega)
  have l3 := pairs_le 8 (pairs (pairs ds)) (by omega) l2
  rw [w3] at v3
  rw [← p1.1, ← p2.1, ← p3.1]
  clear p1 p2 l1 l2 m3 n3 w3 hl hd
  unfold cnt
  rw [s1]
  show ((((val (2 ^ (2 * 1)) (pairs ds) / 2 ^ 2) &&& mask 2 16) + (val (2 ^ (2 * 1)) (pairs ds) &&& mask 2 16)) / 2 ^ 4 + (((val (2 ^ (2 * 1)) (pairs ds) / 2 ^ 2) &&& mask 2 16) + (val (2 ^ (2 * 1)) (pairs ds) &&& mask 2 16)) &&& mask 4 8 |> fun x3 => (x3 + x3 / 256 |> fun y1 => (y1 + y1 / 65536 |> fun y2 => (y2 + y2 / 4294967296) % 128))) = _
  rw [show 2 ^ (2 * 1) = 2 ^ 2 from rfl, s2, show 2 ^ (2 * 2) = 2 ^ 4 from rfl, a3, v3]
  generalize pairs (pairs (pairs ds)) = qs at *
  match qs, p3, l3 with
  | [a, b, c, d, e, f, g, h], _, l3 =>
    have hall : ∀ x, x ∈ [a, b, c, d, e, f, g, h] → x ≤ 8 := fun x hx => by have := l3 x hx; omega
    have := last_steps (hall a (by simp)) (hall b (by simp)) (hall c (by simp)) (hall d (by simp)) (hall e (by simp)) (hall f (by simp)) (hall g (by simp)) (hall h (by simp)) rfl rfl rfl
    refine Eq.trans this ?_
    simp
    omega
end Go.Proofs.YtgdpgbldjpeopaaGreatDoor.Pop

namespace Go.Proofs.YtgdpgbldjpeopaaGreatDoor.Pop
open Go

theorem val_snoc (B x : Nat) : ∀ ds : List Nat, val B (ds ++ [x]) = val B ds + B ^ ds.length * x
  | [] => by simp [val]
  | d :: ds => by
    show d + B * val B (ds ++ [x]) = d + B * val B ds + B ^ (ds.length + 1) * x
    rw [val_snoc B x ds, Nat.mul_add, ← Nat.mul_assoc, ← Nat.pow_succ', Nat.add_assoc]
/-- A set's bits, the lowest first. -/
def dig (q : Nat → Bool) (k : Nat) : List Nat := (List.range k).map fun a => if q a then 1 else 0
theorem dig_len (q : Nat → Bool) (k : Nat) : (dig q k).length = k := by simp [dig]
theorem dig_succ (q : Nat → Bool) (k : Nat) : dig q (k + 1) = dig q k ++ [if q k then 1 else 0] := by simp [dig, List.range_succ]
theorem dig_val (q : Nat → Bool) : ∀ k, val (2 ^ 1) (dig q k) = bs q k
  | 0 => rfl
  | k + 1 => by
    rw [dig_succ, val_snoc, dig_len, dig_val q k]
    show bs q k + (2 ^ 1) ^ k * _ = 2 ^ k * _ + bs q k
    rw [Nat.add_comm]
theorem dig_sum (q : Nat → Bool) : ∀ k, (dig q k).sum = (lst k q).length
  | 0 => rfl
  | k + 1 => by
    rw [dig_succ, List.sum_append, dig_sum q k]
    unfold lst
    rw [List.range_succ, List.filter_append, List.length_append]
    cases h : q k <;> simp [h]
theorem dig_le (q : Nat → Bool) (k : Nat) : ∀ d, d ∈ dig q k → d ≤ 1 := fun d h => by
  obtain ⟨a, _, rfl⟩ := List.mem_map.1 h
  split <;> omega
theorem bs_wide (p : Nat → Bool) {n : Nat} : ∀ k, bs (fun a => decide (a < n) && p a) (n + k) = bs p n
  | 0 => bs_ext fun a ha => by simp; omega
  | k + 1 => by
    show 2 ^ (n + k) * (if (decide (n + k < n) && p (n + k)) then 1 else 0) + bs _ (n + k) = _
    rw [bs_wide p k, decide_eq_false (by omega)]
    simp
theorem lst_wide (p : Nat → Bool) {n : Nat} : ∀ k, lst (n + k) (fun a => decide (a < n) && p a) = lst n p
  | 0 => List.filter_congr fun a ha => by
    have h1 := List.mem_range.1 ha
    rw [decide_eq_true (show a < n by omega)]
    rfl
  | k + 1 => by
    have h1 := lst_wide p (n := n) k
    unfold lst at h1 ⊢
    rw [← Nat.add_assoc, List.range_succ, List.filter_append, h1]
    simp
    omega
/-- How many things a set has. -/
theorem cnt_bs (p : Nat → Bool) {n : Nat} (hn : n ≤ 60) : cnt (bs p n) = (lst n p).length := by
  have h1 := bs_wide p (n := n) (64 - n)
  have h2 := lst_wide p (n := n) (64 - n)
  rw [show n + (64 - n) = 64 by omega] at h1 h2
  rw [← h1, ← h2, ← dig_val, cnt_eq _ (dig_len _ _) (dig_le _ _), dig_sum]
end Go.Proofs.YtgdpgbldjpeopaaGreatDoor.Pop

namespace Go.Proofs.YtgdpgbldjpeopaaGreatDoor
open Go Go.RowKit

theorem and_nat (a b : Nat) (ha : a < 18446744073709551616) (hb : b < 18446744073709551616) : bits BinOp.and IntKind.u64 (a : Int) (b : Int) = ((a &&& b : Nat) : Int) := bits_and_u64_nat a b ha hb
theorem and_127 (y : Nat) (hy : y < 9223372036854775808) : bits BinOp.and IntKind.i64 (y : Int) 127 = ((y % 128 : Nat) : Int) := by
  have h1 : (BitVec.ofInt 64 (y : Int) &&& BitVec.ofInt 64 127).toNat = y % 128 := by
    rw [BitVec.toNat_and]
    have e1 : (BitVec.ofInt 64 (y : Int)).toNat = y := by rw [BitVec.toNat_ofInt]; omega
    have e2 : (BitVec.ofInt 64 (127 : Int)).toNat = 2 ^ 7 - 1 := by decide
    rw [e1, e2, Nat.and_two_pow_sub_one_eq_mod]
  show IntKind.i64.wrap ((BitVec.ofInt 64 (y : Int) &&& BitVec.ofInt 64 127).toNat : Int) = _
  rw [h1, IntKind.wrap_i64]
  omega
theorem wrap_nat {z : Int} (y : Nat) (h : z = (y : Int)) (hy : y < 18446744073709551616) : IntKind.u64.wrap z = (y : Int) := by
  rw [h, IntKind.wrap_u64]
  omega
set_option maxRecDepth 100000 in
set_option maxHeartbeats 1000000 in
theorem ones_cnt (x : Nat) (hx : x < 18446744073709551616) (w : World) :
    Calls Tryz.prog 92 #[.int .u64 x] w fun e w' => e = .returned (.int .i64 (Pop.cnt x)) ∧ w' = w := by
  have k1 : Pop.mask 1 32 = 6148914691236517205 := by decide +kernel
  have k2 : Pop.mask 2 16 = 3689348814741910323 := by decide +kernel
  have k3 : Pop.mask 4 8 = 1085102592571150095 := by decide +kernel
  obtain ⟨x1, h1⟩ : ∃ x1, x1 = ((x / 2 ^ 1) &&& Pop.mask 1 32) + (x &&& Pop.mask 1 32) := ⟨_, rfl⟩
  obtain ⟨x2, h2⟩ : ∃ x2, x2 = ((x1 / 2 ^ 2) &&& Pop.mask 2 16) + (x1 &&& Pop.mask 2 16) := ⟨_, rfl⟩
  obtain ⟨x3, h3⟩ : ∃ x3, x3 = (x2 / 2 ^ 4 + x2) &&& Pop.mask 4 8 := ⟨_, rfl⟩
  obtain ⟨y1, h4⟩ : ∃ y1, y1 = x3 + x3 / 256 := ⟨_, rfl⟩
  obtain ⟨y2, h5⟩ : ∃ y2, y2 = y1 + y1 / 65536 := ⟨_, rfl⟩
  obtain ⟨y3, h6⟩ : ∃ y3, y3 = y2 + y2 / 4294967296 := ⟨_, rfl⟩
  have hc : Pop.cnt x = y3 % 128 := by
    unfold Pop.cnt
    rw [h6, h5, h4, h3, h2, h1]
  have b1 : x1 < 18446744073709551616 := by
    have := Nat.and_le_right (n := x / 2 ^ 1) (m := Pop.mask 1 32)
    have := Nat.and_le_right (n := x) (m := Pop.mask 1 32)
    omega
  have b2 : x2 ≤ 7378697629483820646 := by
    have := Nat.and_le_right (n := x1 / 2 ^ 2) (m := Pop.mask 2 16)
    have := Nat.and_le_right (n := x1) (m := Pop.mask 2 16)
    omega
  have b3 : x3 ≤ 1085102592571150095 := by
    have := Nat.and_le_right (n := x2 / 2 ^ 4 + x2) (m := Pop.mask 4 8)
    omega
  have E1 : IntKind.u64.wrap (bits BinOp.and IntKind.u64 ((x : Int) / 2) 6148914691236517205 + bits BinOp.and IntKind.u64 (x : Int) 6148914691236517205) = (x1 : Int) := by
    have a1 := and_nat (x / 2) 6148914691236517205 (by omega) (by decide)
    have a2 := and_nat x 6148914691236517205 hx (by decide)
    rw [Int.natCast_ediv] at a1
    refine wrap_nat x1 ?_ b1
    rw [k1] at h1
    have a1' : bits BinOp.and IntKind.u64 ((x : Int) / 2) 6148914691236517205 = ((x / 2 &&& 6148914691236517205 : Nat) : Int) := a1
    have a2' : bits BinOp.and IntKind.u64 (x : Int) 6148914691236517205 = ((x &&& 6148914691236517205 : Nat) : Int) := a2
    rw [a1', a2', h1, Int.natCast_add, Nat.pow_one]
  have E2 : IntKind.u64.wrap (bits BinOp.and IntKind.u64 ((x1 : Int) / 4) 3689348814741910323 + bits BinOp.and IntKind.u64 (x1 : Int) 3689348814741910323) = (x2 : Int) := by
    have a1 := and_nat (x1 / 4) 3689348814741910323 (by omega) (by decide)
    have a2 := and_nat x1 3689348814741910323 b1 (by decide)
    rw [Int.natCast_ediv] at a1
    refine wrap_nat x2 ?_ (by omega)
    rw [k2] at h2
    have a1' : bits BinOp.and IntKind.u64 ((x1 : Int) / 4) 3689348814741910323 = ((x1 / 4 &&& 3689348814741910323 : Nat) : Int) := a1
    have a2' : bits BinOp.and IntKind.u64 (x1 : Int) 3689348814741910323 = ((x1 &&& 3689348814741910323 : Nat) : Int) := a2
    rw [a1', a2', h2, Int.natCast_add]
  have E3 : bits BinOp.and IntKind.u64 (IntKind.u64.wrap ((x2 : Int) / 16 + (x2 : Int))) 1085102592571150095 = (x3 : Int) := by
    rw [wrap_nat (x2 / 16 + x2) (by rw [Int.natCast_add, Int.natCast_ediv]; rfl) (by omega)]
    rw [k3] at h3
    rw [h3]
    exact and_nat (x2 / 16 + x2) 1085102592571150095 (by omega) (by decide)
  have E4 : IntKind.u64.wrap ((x3 : Int) + (x3 : Int) / 256) = (y1 : Int) := wrap_nat y1 (by omega) (by omega)
  have E5 : IntKind.u64.wrap ((y1 : Int) + (y1 : Int) / 65536) = (y2 : Int) := wrap_nat y2 (by omega) (by omega)
  have E6 : IntKind.u64.wrap ((y2 : Int) + (y2 : Int) / 4294967296) = (y3 : Int) := wrap_nat y3 (by omega) (by omega)
  have b6 : y3 < 9223372036854775808 := by omega
  have E7 : IntKind.i64.wrap (y3 : Int) = (y3 : Int) := by rw [IntKind.wrap_i64]; omega
  have E8 := and_127 y3 b6
  rw [hc]
  clear h1 h2 h3 h4 h5 h6 k1 k2 k3 hc b1 b2 b3 b6
  go_enter Tryz.func92, Tryz.ntmps92
  go_wp2
  go_ret
  exact ⟨rfl, rfl⟩
/-- How many things a set has. -/
theorem len_cnt (n : Nat) (p : Nat → Bool) (hn : n ≤ 60) (w : World) :
    Calls Tryz.prog 73 #[.int .u64 (bs p n)] w fun e w' => e = .returned (.int .i64 (lst n p).length) ∧ w' = w := by
  go_enter Tryz.func73, Tryz.ntmps73
  go_wp2_with fail
  refine (ones_cnt (bs p n) (bs_64 hn) w).mono ?_
  rintro e w1 ⟨rfl, rfl⟩
  rw [Pop.cnt_bs p hn]
  go_wp2
  go_ret
  exact ⟨rfl, rfl⟩
end Go.Proofs.YtgdpgbldjpeopaaGreatDoor

namespace Go.Proofs.YtgdpgbldjpeopaaGreatDoor
open Go Go.RowKit

theorem lst_same {n : Nat} {p q : Nat → Bool} (h : ∀ x, x < n → (p x = true ↔ q x = true)) : lst n p = lst n q := lst_congr fun x hx => by
  have := h x hx
  cases h1 : p x <;> cases h2 : q x <;> simp_all
theorem lst_less {n : Nat} {p q : Nat → Bool} (h : ∀ x, x < n → p x = true → q x = true) : (lst n p).length ≤ (lst n q).length ∧ ((∃ x, x < n ∧ q x = true ∧ ¬ p x = true) → (lst n p).length < (lst n q).length) := by
  have e1 : lst n p = (lst n q).filter p := by
    unfold lst
    rw [List.filter_filter]
    refine List.filter_congr fun x hx => ?_
    cases hp : p x with
    | false => simp
    | true => simp [h x (List.mem_range.1 hx) hp]
  rw [e1]
  refine ⟨List.length_filter_le _ _, ?_⟩
  rintro ⟨x, hx, h1, h2⟩
  exact List.length_filter_lt_length_iff_exists.2 ⟨x, mem_lst.2 ⟨hx, h1⟩, h2⟩
/-- A subgroup of a power of p things with no greater one by a thing more. -/
structure Grown (n : Nat) (zs : List Int) (e p : Nat) (s : Nat → Bool) : Prop where
  sub : subT n zs e s = true
  pow : isPw (lst n s).length p
  top : ∀ a (q : Nat → Bool), a < n → (∀ x, x < n → (q x = true ↔ Mkd n zs e (fun y => s y || decide (y = a)) x)) → bs q n = bs s n ∨ ¬ isPw (lst n q).length p
theorem one_lst {n e : Nat} (he : e < n) : lst n (fun a => decide (a = e)) = [e] := by
  have hnd : (lst n (fun a => decide (a = e))).Nodup := List.nodup_range.sublist List.filter_sublist
  have hm : ∀ x, x ∈ lst n (fun a => decide (a = e)) ↔ x ∈ [e] := fun x => by
    rw [mem_lst]
    simp
    intro h9
    omega
  exact (List.perm_singleton.1 ((List.perm_ext_iff_of_nodup hnd (by simp)).2 hm))
theorem one_sub {n e : Nat} {zs : List Int} (g : IsGrp n zs e) : subT n zs e (fun a => decide (a = e)) = true := by
  rw [subT_iff]
  refine ⟨by simp, fun a b _ _ h1 h2 => ?_⟩
  have h1 := of_decide_eq_true h1
  have h2 := of_decide_eq_true h2
  rw [h1, h2]
  exact decide_eq_true (g.left e g.elt)
theorem mkd_ex' (n : Nat) (zs : List Int) (e : Nat) (q : Nat → Bool) : ∃ p : Nat → Bool, ∀ a, a < n → (p a = true ↔ Mkd n zs e q a) := by
  obtain ⟨p, hp⟩ := Fin.test_of (Mkd n zs e q)
  exact ⟨p, fun a _ => hp a⟩
end Go.Proofs.YtgdpgbldjpeopaaGreatDoor

namespace Go.Proofs.YtgdpgbldjpeopaaGreatDoor
open Go Go.RowKit Go.Maps

set_option maxRecDepth 100000 in
set_option maxHeartbeats 2000000 in
theorem conjd_ok (n : Nat) (v u : Value) (zs : List Int) (e a : Nat) (q : Nat → Bool) (w : World) (hG : GA w n v e u zs) (hT : Tab w) (ha : a < n) :
    Calls Tryz.prog 53 #[.agg #[.int .i64 n, v, .int .i64 e, u], .int .u64 (bs q n), .int .i64 a] w fun x w' => x = .returned (.int .u64 (bs (cjq n zs e q a) n)) ∧ Below w.heap.size w w' := by
  have hn := hG.le
  have hg := hG.grp
  have hB0 : Below w.heap.size w (w.alloc (.cells #[.int .i64 n, v, .int .i64 e, u] 54)) := balloc w _
  have hX0 := Box4.new w n e v u
  obtain ⟨w0, hw0⟩ : ∃ w0, w0 = w.alloc (.cells #[.int .i64 n, v, .int .i64 e, u] 54) := ⟨_, rfl⟩
  rw [← hw0] at hB0 hX0
  have hT0 := hT.below hB0
  have HL := hide (list_ok n q w0 hn hT0)
  have HM := hide (fun x (h : x ∈ lst n q) => (mem_lst.1 h).1)
  have hll := lst_len n q
  show Calls Tryz.prog 53 _ w fun x w' => x = .returned (.int .u64 (bs (cjl n zs e (lst n q) a) n)) ∧ Below w.heap.size w w'
  generalize lst n q = xs at *
  go_enter Tryz.func53, Tryz.ntmps53
  go_wp2_with fail
  rw [← hw0]
  clear hw0
  refine HL.out.mono ?_
  rintro x w1 ⟨r, rfl, hr, hb1⟩
  obtain ⟨ra, rc, pb, po, rfl, hr, hp, hq3, hq4, _⟩ := hr
  rw [li_len] at hq3 ⊢
  have hB1 := bcat2 hB0 hb1
  have HR := hide hr
  have HLL := hide (li_len xs)
  clear hr hq4
  go_wp2
  go_loopw [7, 13] (fun s i wr => ∃ k : Nat, k ≤ xs.length ∧ i = .int .i64 k ∧ s = .int .u64 (bs (cjl n zs e (xs.take k) a) n) ∧ Below w1.heap.size w1 wr) (fun _ i _ => xs.length - (intOf i).toNat)
  case atStart => exact ⟨0, Nat.zero_le _, rfl, by rw [List.take_zero, show bs (cjl n zs e [] a) n = 0 from bs_none n]; rfl, Below.refl _ _⟩
  case round =>
    obtain ⟨k, hk, rfl, rfl, hB⟩ := hrel
    by_cases hlt : k < xs.length
    · have hck := (HR.out.below hB hp).cell k (by rw [HLL.out]; exact hlt)
      rw [li_get hlt] at hck
      obtain rfl := HR.out.at_ (by rw [HLL.out]; omega)
      obtain ⟨x, hxe⟩ : ∃ x, xs[k] = x := ⟨_, rfl⟩
      have hxn : x < n := by rw [← hxe]; exact HM.out _ (List.getElem_mem hlt)
      have hsn : xs.take (k + 1) = xs.take k ++ [x] := by rw [List.take_succ_eq_append_getElem hlt, hxe]
      rw [hxe] at hck
      have hGr := (hG.below hB1).below hB
      have hct : Fin.cj (tm n zs) (iv n zs e) x a < n := List.mem_range.1 (Fin.cj_mem (grp_fg hg) (grp_iv hg) (List.mem_range.2 hxn) (List.mem_range.2 ha))
      have hor := bs_put (n := n) (t := Fin.cj (tm n zs) (iv n zs e) x a) (p := cjl n zs e (xs.take k) a) (q := cjl n zs e (xs.take (k + 1)) a) hn (fun z => by
        unfold cjl
        rw [hsn, List.any_append]
        simp only [List.any_cons, List.any_nil, Bool.or_false]
        congr 1
        rw [Bool.eq_iff_iff, decide_eq_true_eq, decide_eq_true_eq]
        exact eq_comm)
      have HCM := hide (conj_ok n v u zs e x a wr hGr hxn ha)
      have HOF := hide (fun W b (h : W.cell? ⟨b, 0, none⟩ = some (.int .i64 (Fin.cj (tm n zs) (iv n zs e) x a))) => of_one n b (Fin.cj (tm n zs) (iv n zs e) x a) W hn hct h)
      obtain ⟨g0, g1, g2, g3⟩ := (hX0.below (bcat2 hb1 hB)).cells
      generalize Fin.cj (tm n zs) (iv n zs e) x a = t at *
      generalize bs (fun z => decide (z = t)) n = T9 at *
      clear hsn hxe
      go_wp2_with fail
      refine HCM.out.mono ?_
      rintro x9 w7 ⟨rfl, hb7⟩
      have hB8 := bcat2 hB (bcat2 hb7 (balloc w7 (.cells #[.int .i64 t] 3)))
      clear g0 g1 g2 g3
      go_wp2_with fail
      refine (HOF.out _ _ (cell1 _ _ _)).mono ?_
      rintro x9 w8 ⟨rfl, rfl⟩
      go_wp2
      go_roundw
      case rel => exact ⟨k + 1, by omega, by go_num, rfl, hB8⟩
      case measure => simp [intOf]; omega
    · have hkn : k = xs.length := by omega
      subst hkn
      rw [List.take_length]
      go_wp2
      go_ret
      exact ⟨rfl, bcat2 hB1 hB⟩
theorem und58 : Tryz.prog.underlying 56 = some (.int .u64) := by kernel_rfl
theorem key58 : Keyed Tryz.prog 56 := int_keyed und58
/-- A map whose keys are the conjugates of s by the things below k. -/
def Cjs (W : World) (n : Nat) (zs : List Int) (e M k : Nat) (s : Nat → Bool) : Prop :=
  ∃ D : DataW Unit, W.ownsMap Tryz.prog 56 unitElem M k D ∧ ∀ t : Nat, Maps.has D (.int .u64 t) = true ↔ ∃ a, a < k ∧ t = bs (cjq n zs e s a) n
theorem below_grown' {w w' : World} (h : Below w.heap.size w w') (row : Option Nat) : w.grownBy w' row := ⟨h.os, h.tape, h.output, h.size, fun b hb _ => h.block b hb⟩
theorem Cjs.below {W W' : World} {n e M k : Nat} {zs : List Int} {s : Nat → Bool} (h : Cjs W n zs e M k s) (hb : Below W.heap.size W W') : Cjs W' n zs e M k s := by
  obtain ⟨D, h1, h2⟩ := h
  exact ⟨D, h1.kept (below_grown' hb none) (by simp), h2⟩
end Go.Proofs.YtgdpgbldjpeopaaGreatDoor

namespace Go.Proofs.YtgdpgbldjpeopaaGreatDoor
open Go Go.RowKit Go.Maps

set_option maxRecDepth 100000 in
set_option maxHeartbeats 4000000 in
theorem setOf_any (n : Nat) (v : Value) (ls : List Int) (w : World) (hn : n ≤ 60) (hv : Sl w v ls) :
    Calls Tryz.prog 55 #[.int .i64 n, v] w fun x w' => x = .returned (.tuple #[.int .u64 (okN (lfault n ls).1 (bs (pset ls) n)), .agg #[.int .i64 (lfault n ls).1, .int .i64 (lfault n ls).2]]) ∧ Below w.heap.size w w' := by
  have hB0 : Below w.heap.size w (w.alloc (.cells #[.int .i64 0, .int .i64 0] 28)) := balloc w _
  have hR0 := Two.new w
  have hv0 := hv.below hB0
  obtain ⟨a, cap, pb, po, rfl, hrw0, hpw0, hq3, hq4⟩ := id hv
  have HRW := hide hrw0
  have HPB := hide hpw0
  have hr := hrw0.below hB0 hpw0
  have hp := Nat.lt_of_lt_of_le hpw0 hB0.size
  clear hrw0 hpw0
  obtain ⟨_, y0, y1, fy0, fy1, s0, s1⟩ := id hR0
  by_cases hmany : n < ls.length
  · have hR6 : Blk ((w.alloc (.cells #[.int .i64 0, .int .i64 0] 28)).setCell ⟨w.heap.size, 0, none⟩ (.int .i64 2)) w.heap.size 28 [.int .i64 2, .int .i64 0] := hR0.blk.set 0 _
    have hB6 : Below w.heap.size w ((w.alloc (.cells #[.int .i64 0, .int .i64 0] 28)).setCell ⟨w.heap.size, 0, none⟩ (.int .i64 2)) := hB0.setCell (p := ⟨w.heap.size, 0, none⟩) (by simp) _
    rw [lfault_many hmany]
    have hmi : (n : Int) < (ls.length : Int) := by omega
    go_enter Tryz.func55, Tryz.ntmps55
    go_wp2
    have hR7 := blk0 (w := w) (T := 28) (.int .i64 2) (.int .i64 0)
    obtain ⟨z0, z1, _, _⟩ := hR7.two
    exact bodyPost_ret (v := .tuple #[.int .u64 0, .agg #[.int .i64 2, .int .i64 0]]) (by simp [results, Tryz.results55, go_sem, z0, z1]) rfl ⟨rfl, balloc w _⟩
  · have hle : ls.length ≤ n := by omega
    have hmi : ¬ (n : Int) < (ls.length : Int) := by omega
    have HV := hide hv
    clear y0 y1 fy0 fy1 s0 s1 hv0 hv
    go_enter Tryz.func55, Tryz.ntmps55
    go_wp2
    go_loopw [15] (fun i wr => ∃ k : Nat, k ≤ ls.length ∧ i = .int .i64 k ∧ (∀ t, t < k → (rbad n ls t || fbad ls t) = false) ∧ Two wr w.heap.size ∧ Below w.heap.size w wr) (fun i _ => ls.length - (intOf i).toNat)
    case atStart => exact ⟨0, Nat.zero_le _, rfl, fun t ht => by omega, hR0, hB0⟩
    case round =>
      obtain ⟨k, hk, rfl, hno, hR, hB⟩ := hrel
      have HNO := hide hno
      clear hno
      obtain ⟨_, y0, y1, fy0, fy1, s0, s1⟩ := id hR
      have hrw : Reads wr a pb po ls := by
        exact HRW.out.below hB HPB.out
      by_cases hlt : k < ls.length
      · have hck := hrw.cell k hlt
        obtain rfl := hrw.at_ (by omega)
        obtain ⟨c, hc⟩ : ∃ c, ls[k]?.getD 0 = c := ⟨_, rfl⟩
        rw [hc] at hck
        have hki : (k : Int) < (ls.length : Int) := by omega
        by_cases hc0 : c < 0
        · have HLF := hide (lfault_r hle hlt HNO.out (by unfold rbad; rw [hc]; simp [hc0]))
          clear hc hrw hr
          obtain ⟨hR9, hB9⟩ := put2 hR.blk hB (Nat.le_refl _) 3 k
          go_wp2
          generalize (wr.setCell ⟨w.heap.size, 0, none⟩ (.int .i64 3)).setCell ⟨w.heap.size, 1, none⟩ (.int .i64 k) = W at hR9 hB9 ⊢
          obtain ⟨z0, z1, _, _⟩ := hR9.two
          exact bodyPost_ret (v := .tuple #[.int .u64 0, .agg #[.int .i64 3, .int .i64 k]]) (by simp [results, Tryz.results55, go_sem, z0, z1]) rfl ⟨by rw [HLF.out]; rfl, hB9⟩
        · by_cases hcn : (n : Int) ≤ c
          · have HLF := hide (lfault_r hle hlt HNO.out (by unfold rbad; rw [hc]; simp [hcn]))
            clear hc hrw hr
            obtain ⟨hR9, hB9⟩ := put2 hR.blk hB (Nat.le_refl _) 3 k
            go_wp2
            generalize (wr.setCell ⟨w.heap.size, 0, none⟩ (.int .i64 3)).setCell ⟨w.heap.size, 1, none⟩ (.int .i64 k) = W at hR9 hB9 ⊢
            obtain ⟨z0, z1, _, _⟩ := hR9.two
            exact bodyPost_ret (v := .tuple #[.int .u64 0, .agg #[.int .i64 3, .int .i64 k]]) (by simp [results, Tryz.results55, go_sem, z0, z1]) rfl ⟨by rw [HLF.out]; rfl, hB9⟩
          · have HRB := hide (show rbad n ls k = false by unfold rbad; rw [hc]; simp; omega)
            have hcn' : c < (n : Int) := by omega
            rcases Nat.eq_zero_or_pos k with rfl | hkp
            · have HFB := hide (show fbad ls 0 = false by simp [fbad])
              rw [Nat.add_zero] at hck
              clear hc hrw hr
              go_wp2
              go_roundw
              case rel => exact ⟨1, by omega, by go_num, fun t ht => by
                have : t = 0 := by omega
                subst this; rw [HRB.out, HFB.out]; rfl, hR, hB⟩
              case measure => simp [intOf]; omega
            · obtain ⟨m, rfl⟩ : ∃ m, k = m + 1 := ⟨k - 1, by omega⟩
              have hcm := hrw.cell m (by omega)
              obtain ⟨d, hd⟩ : ∃ d, ls[m]?.getD 0 = d := ⟨_, rfl⟩
              rw [hd] at hcm
              have hfb : fbad ls (m + 1) = decide (c ≤ d) := by
                unfold fbad
                rw [Nat.add_sub_cancel, hc, hd]
                simp
              have hmi2 : (m : Int) < (ls.length : Int) := by omega
              by_cases hcd : c ≤ d
              · have HLF := hide (lfault_f hle hlt HNO.out HRB.out (by rw [hfb]; simp [hcd]))
                clear hc hd hfb hrw hr
                obtain ⟨hR9, hB9⟩ := put2 hR.blk hB (Nat.le_refl _) 5 ((m : Int) + 1)
                go_wp2
                generalize (wr.setCell ⟨w.heap.size, 0, none⟩ (.int .i64 5)).setCell ⟨w.heap.size, 1, none⟩ (.int .i64 ((m : Int) + 1)) = W at hR9 hB9 ⊢
                obtain ⟨z0, z1, _, _⟩ := hR9.two
                exact bodyPost_ret (v := .tuple #[.int .u64 0, .agg #[.int .i64 5, .int .i64 ((m : Int) + 1)]]) (by simp [results, Tryz.results55, go_sem, z0, z1]) rfl ⟨by rw [HLF.out]; simp [okN], hB9⟩
              · have HFB := hide (show fbad ls (m + 1) = false by rw [hfb]; simp; omega)
                clear hc hd hfb hrw hr
                go_wp2
                go_roundw
                case rel => exact ⟨m + 1 + 1, by omega, by go_num, fun t ht => by
                  by_cases e : t = m + 1
                  · rw [e, HRB.out, HFB.out]; rfl
                  · exact HNO.out t (by omega), hR, hB⟩
                case measure => simp [intOf]; omega
      · have hkk : k = ls.length := by omega
        subst hkk
        have hlf := lfault_ok hle HNO.out
        have hlz : (lfault n ls).1 = 0 := by rw [hlf]
        have hset := set_lst hlz
        have hmem : ∀ x, x ∈ lst n (pset ls) → x < n := fun x hx => (mem_lst.1 hx).1
        have hll : (lst n (pset ls)).length ≤ 60 := Nat.le_trans (lst_len _ _) hn
        have hso := HV.out.below hB
        rw [hset] at hso
        have hof := of_ok n _ (lst n (pset ls)) wr hn hll (by rw [← hset] at hso ⊢; exact hso) hmem
        have hbs : bs (fun a => decide (a ∈ lst n (pset ls))) n = bs (pset ls) n := bs_ext fun a ha => by
          rw [Bool.eq_iff_iff, decide_eq_true_eq, mem_lst]; simp [ha]
        rw [hbs] at hof
        have HOF := hide hof
        have HLF := hide hlf
        clear hof hlf hlz hset hso hbs hmem hrw hr
        go_wp2_with fail
        refine HOF.out.mono ?_
        rintro e1 w1 ⟨rfl, rfl⟩
        go_wp2
        exact bodyPost_ret (v := .tuple #[.int .u64 (bs (pset ls) n), .agg #[.int .i64 0, .int .i64 0]]) (by simp [results, Tryz.results55, go_sem, y0, y1]) rfl ⟨by rw [HLF.out]; rfl, hB⟩
set_option maxRecDepth 100000 in
set_option maxHeartbeats 4000000 in
theorem oset_badg (N : Int) (v u : Value) (zs : List Int) (w : World) (hv : Sl w v zs) (hc : (gfault N zs).1 ≠ 0) :
    Calls Tryz.prog 29 #[.agg #[.int .i64 N, v], u] w fun x w' => x = .returned (.tuple #[.agg #[.int .i64 0, .slice none 0 0, .int .i64 0, .slice none 0 0], .int .u64 0, .agg #[.int .i64 (gfault N zs).1, .int .i64 (gfault N zs).2]]) ∧ Below w.heap.size w w' := by
  obtain ⟨w0, BG⟩ := Beg4.new w N v
  have hv0 := hv.below BG.bel
  obtain ⟨c0, c1, _, _⟩ := BG.box.two
  have hck := opened_bad N v zs w0 hv0 hc
  obtain ⟨c, i, hci⟩ : ∃ c i, gfault N zs = (c, i) := ⟨_, _, rfl⟩
  rw [hci] at hck hc ⊢
  simp only at hc hck
  have HCK := hide hck
  clear hck hci
  have hcb : (c != 0) = true := by simpa using hc
  rw [BG.eq] at c0 c1
  go_enter Tryz.func29, Tryz.ntmps29
  go_wp2_with fail
  rw [← BG.eq]
  refine HCK.out.mono ?_
  rintro x w1 ⟨rfl, hb1⟩
  clear c0 c1
  obtain ⟨w2, hw2⟩ : ∃ w2, w2 = (w1.alloc (.cells #[.int .i64 0, .slice none 0 0, .int .i64 0, .slice none 0 0] 54)).alloc (.cells #[.int .i64 c, .int .i64 i] 28) := ⟨_, rfl⟩
  have hB1 : Below w0.heap.size w0 w2 := by rw [hw2]; exact bcat2 hb1 ((balloc w1 _).alloc (by simp) _)
  have hF1 : Blk w2 (w1.heap.size + 1) 28 [.int .i64 c, .int .i64 i] := by
    rw [hw2]
    have := blk0 (w := w1.alloc (.cells #[.int .i64 0, .slice none 0 0, .int .i64 0, .slice none 0 0] 54)) (T := 28) (.int .i64 c) (.int .i64 i)
    rwa [World.size_alloc] at this
  obtain ⟨hG1, g0, g1, g2, g3, gf0, gf1, gf2, gf3, gs0, gs1, gs2, gs3⟩ := Four.mk' (blk_below BG.grp hB1)
  have hR1 := blk_below BG.res hB1
  have hBw := bcat BG.bel hB1 BG.bel.size
  obtain ⟨y0, y1, fy0, fy1⟩ := hR1.two
  obtain ⟨t0, t1, _, _⟩ := hF1.two
  rw [hw2] at t0 t1
  go_wp2_with fail
  rw [← hw2]
  rw [← hw2] at t0 t1
  clear hw2
  go_region
  all_goals (
    go_wp2
    obtain ⟨hR6, hB6⟩ := put2 hR1 hBw (by omega) c i
    have hB7 := bdrew hB6
    have hR7 : Blk ((w2.setCell ⟨w.heap.size + 1 + 1, 0, none⟩ (.int .i64 c)).setCell ⟨w.heap.size + 1 + 1, 1, none⟩ (.int .i64 i)).drew (w.heap.size + 1 + 1) 28 [.int .i64 c, .int .i64 i] := hR6
    have hG7 : Blk ((w2.setCell ⟨w.heap.size + 1 + 1, 0, none⟩ (.int .i64 c)).setCell ⟨w.heap.size + 1 + 1, 1, none⟩ (.int .i64 i)).drew (w.heap.size + 1) 54 [.int .i64 0, .slice none 0 0, .int .i64 0, .slice none 0 0] :=
      (hG1.other (p := ⟨w.heap.size + 1 + 1, 0, none⟩) (by simp) (.int .i64 c)).other (p := ⟨w.heap.size + 1 + 1, 1, none⟩) (by simp) (.int .i64 i)
    generalize ((w2.setCell ⟨w.heap.size + 1 + 1, 0, none⟩ (.int .i64 c)).setCell ⟨w.heap.size + 1 + 1, 1, none⟩ (.int .i64 i)).drew = W at hR7 hB7 hG7 ⊢
    obtain ⟨z0, z1, _, _⟩ := hR7.two
    obtain ⟨_, q0, q1, q2, q3, _⟩ := Four.mk' hG7
    exact bodyPost_ret (v := .tuple #[.agg #[.int .i64 0, .slice none 0 0, .int .i64 0, .slice none 0 0], .int .u64 0, .agg #[.int .i64 c, .int .i64 i]]) (by simp [results, Tryz.results29, go_sem, z0, z1, q0, q1, q2, q3]) rfl ⟨rfl, hB7⟩)
set_option maxRecDepth 100000 in
set_option maxHeartbeats 4000000 in
theorem oset_badl (n e : Nat) (v u : Value) (zs ls : List Int) (w : World) (hv : Sl w v zs) (hg : IsGrp n zs e) (hu : Sl w u ls) (hc : (lfault n ls).1 ≠ 0) :
    Calls Tryz.prog 29 #[.agg #[.int .i64 n, v], u] w fun x w' => x = .returned (.tuple #[.agg #[.int .i64 0, .slice none 0 0, .int .i64 0, .slice none 0 0], .int .u64 0, .agg #[.int .i64 (lfault n ls).1, .int .i64 (lfault n ls).2]]) ∧ Below w.heap.size w w' := by
  obtain ⟨va, vl, vc, rfl⟩ := hv.isSlice
  obtain ⟨w0, BG⟩ := Beg4.new w n (.slice va vl vc)
  have hv0 := hv.below BG.bel
  have hu0 := hu.below BG.bel
  obtain ⟨c0, c1, _, _⟩ := BG.box.two
  have HCK := hide (opened_good n e (.slice va vl vc) zs w0 hv0 hg)
  have HSO := hide (fun W (h : Sl W u ls) => setOf_any n u ls W hg.tab.le h)
  obtain ⟨c, i, hci⟩ : ∃ c i, lfault n ls = (c, i) := ⟨_, _, rfl⟩
  rw [hci] at HSO hc ⊢
  simp only at hc HSO
  rw [show okN c (bs (pset ls) n) = 0 from if_neg hc] at HSO
  clear hci
  have hcb : (c != 0) = true := by simpa using hc
  rw [BG.eq] at c0 c1
  go_enter Tryz.func29, Tryz.ntmps29
  go_wp2_with fail
  rw [← BG.eq]
  refine HCK.out.mono ?_
  rintro x w1 ⟨iv9, rfl, hGA, hb1⟩
  obtain ⟨ia, il, ic, rfl⟩ := hGA.sl.isSlice
  clear c0 c1 HCK
  obtain ⟨w2, hw2⟩ : ∃ w2, w2 = (w1.alloc (.cells #[.int .i64 n, (.slice va vl vc), .int .i64 e, (.slice ia il ic)] 54)).alloc (.cells #[.int .i64 0, .int .i64 0] 28) := ⟨_, rfl⟩
  have hB1 : Below w0.heap.size w0 w2 := by rw [hw2]; exact bcat2 hb1 ((balloc w1 _).alloc (by simp) _)
  have hF1 : Blk w2 (w1.heap.size + 1) 28 [.int .i64 0, .int .i64 0] := by
    rw [hw2]
    have := blk0 (w := w1.alloc (.cells #[.int .i64 n, (.slice va vl vc), .int .i64 e, (.slice ia il ic)] 54)) (T := 28) (.int .i64 0) (.int .i64 0)
    rwa [World.size_alloc] at this
  obtain ⟨t0, t1, _, _⟩ := hF1.two
  obtain ⟨k0, k1, _, _⟩ := (blk_below BG.box hB1).two
  rw [hw2] at t0 t1 k0 k1
  have hz9 : w.heap.size + 3 ≤ w1.heap.size := by rw [← BG.size]; exact hb1.size
  go_wp2_with fail
  rw [← hw2]
  clear t0 t1 k0 k1 hw2
  refine (HSO.out w2 (hu0.below hB1)).mono ?_
  rintro x w3 ⟨rfl, hb3⟩
  have hF3 := blk_below hF1 hb3
  have hB3 := bcat2 hB1 hb3
  obtain ⟨f0, f1, ff0, ff1⟩ := hF3.two
  have hBw3 := bcat BG.bel hB3 BG.bel.size
  have hG3 := blk_below BG.grp hB3
  have hR3 := blk_below BG.res hB3
  obtain ⟨hF4, hB4⟩ := put2 hF3 hBw3 (by omega) c i
  have hG4 := (hG3.other (p := ⟨w1.heap.size + 1, 0, none⟩) (by simp; omega) (.int .i64 c)).other (p := ⟨w1.heap.size + 1, 1, none⟩) (by simp; omega) (.int .i64 i)
  have hR4 := (hR3.other (p := ⟨w1.heap.size + 1, 0, none⟩) (by simp; omega) (.int .i64 c)).other (p := ⟨w1.heap.size + 1, 1, none⟩) (by simp; omega) (.int .i64 i)
  go_wp2_with fail
  generalize (w3.setCell ⟨w1.heap.size + 1, 0, none⟩ (.int .i64 c)).setCell ⟨w1.heap.size + 1, 1, none⟩ (.int .i64 i) = w4 at hF4 hB4 hG4 hR4 ⊢
  obtain ⟨hG1, g0, g1, g2, g3, gf0, gf1, gf2, gf3, gs0, gs1, gs2, gs3⟩ := Four.mk' hG4
  obtain ⟨y0, y1, fy0, fy1⟩ := hR4.two
  obtain ⟨t0, t1, _, _⟩ := hF4.two
  go_wp2_with fail
  go_region
  all_goals (
    go_wp2
    obtain ⟨hR6, hB6⟩ := put2 hR4 hB4 (by omega) c i
    have hB7 := bdrew hB6
    have hR7 : Blk ((w4.setCell ⟨w.heap.size + 1 + 1, 0, none⟩ (.int .i64 c)).setCell ⟨w.heap.size + 1 + 1, 1, none⟩ (.int .i64 i)).drew (w.heap.size + 1 + 1) 28 [.int .i64 c, .int .i64 i] := hR6
    have hG7 : Blk ((w4.setCell ⟨w.heap.size + 1 + 1, 0, none⟩ (.int .i64 c)).setCell ⟨w.heap.size + 1 + 1, 1, none⟩ (.int .i64 i)).drew (w.heap.size + 1) 54 [.int .i64 0, .slice none 0 0, .int .i64 0, .slice none 0 0] :=
      (hG1.other (p := ⟨w.heap.size + 1 + 1, 0, none⟩) (by simp) (.int .i64 c)).other (p := ⟨w.heap.size + 1 + 1, 1, none⟩) (by simp) (.int .i64 i)
    generalize ((w4.setCell ⟨w.heap.size + 1 + 1, 0, none⟩ (.int .i64 c)).setCell ⟨w.heap.size + 1 + 1, 1, none⟩ (.int .i64 i)).drew = W at hR7 hB7 hG7 ⊢
    obtain ⟨z0, z1, _, _⟩ := hR7.two
    obtain ⟨_, q0, q1, q2, q3, _⟩ := Four.mk' hG7
    exact bodyPost_ret (v := .tuple #[.agg #[.int .i64 0, .slice none 0 0, .int .i64 0, .slice none 0 0], .int .u64 0, .agg #[.int .i64 c, .int .i64 i]]) (by simp [results, Tryz.results29, go_sem, z0, z1, q0, q1, q2, q3]) rfl ⟨rfl, hB7⟩)
theorem oset_bad (N : Int) (v u : Value) (zs ls : List Int) (w : World) (hv : Sl w v zs) (hu : Sl w u ls) (hc : (sfault N zs ls).1 ≠ 0) :
    Calls Tryz.prog 29 #[.agg #[.int .i64 N, v], u] w fun x w' => x = .returned (.tuple #[.agg #[.int .i64 0, .slice none 0 0, .int .i64 0, .slice none 0 0], .int .u64 0, .agg #[.int .i64 (sfault N zs ls).1, .int .i64 (sfault N zs ls).2]]) ∧ Below w.heap.size w w' := by
  rcases sfault_cases N zs ls hc with ⟨h1, h2⟩ | ⟨n, e, rfl, hg, h1, h2⟩
  · rw [h2]; exact oset_badg N v u zs w hv h1
  · rw [h2]; exact oset_badl n e v u zs ls w hv hg hu h1
set_option maxRecDepth 100000 in
set_option maxHeartbeats 4000000 in
theorem oset_good (n e : Nat) (v u : Value) (zs ls : List Int) (w : World) (hv : Sl w v zs) (hg : IsGrp n zs e) (hu : Sl w u ls) (hc : lfault n ls = (0, 0)) :
    Calls Tryz.prog 29 #[.agg #[.int .i64 n, v], u] w fun x w' => ∃ iv9, x = .returned (.tuple #[.agg #[.int .i64 n, v, .int .i64 e, iv9], .int .u64 (bs (pset ls) n), .agg #[.int .i64 0, .int .i64 0]]) ∧ SlF w.heap.size w' iv9 (li ((List.range n).map (iv n zs e))) ∧ Below w.heap.size w w' := by
  obtain ⟨va, vl, vc, rfl⟩ := hv.isSlice
  obtain ⟨w0, BG⟩ := Beg4.new w n (.slice va vl vc)
  have hv0 := hv.below BG.bel
  have hu0 := hu.below BG.bel
  obtain ⟨c0, c1, _, _⟩ := BG.box.two
  have HCK := hide (opened_good n e (.slice va vl vc) zs w0 hv0 hg)
  have HSO := hide (fun W (h : Sl W u ls) => setOf_any n u ls W hg.tab.le h)
  rw [hc] at HSO
  simp only at HSO
  rw [show okN 0 (bs (pset ls) n) = bs (pset ls) n from rfl] at HSO
  clear hc
  rw [BG.eq] at c0 c1
  go_enter Tryz.func29, Tryz.ntmps29
  go_wp2_with fail
  rw [← BG.eq]
  refine HCK.out.mono ?_
  rintro x w1 ⟨iv9, rfl, hGA, hb1⟩
  obtain ⟨ia, il, ic, rfl⟩ := hGA.sl.isSlice
  clear c0 c1 HCK
  obtain ⟨w2, hw2⟩ : ∃ w2, w2 = (w1.alloc (.cells #[.int .i64 n, (.slice va vl vc), .int .i64 e, (.slice ia il ic)] 54)).alloc (.cells #[.int .i64 0, .int .i64 0] 28) := ⟨_, rfl⟩
  have hb2 : Below w1.heap.size w1 w2 := by rw [hw2]; exact (balloc w1 _).alloc (by simp) _
  have hB1 : Below w0.heap.size w0 w2 := bcat2 hb1 hb2
  have hF1 : Blk w2 (w1.heap.size + 1) 28 [.int .i64 0, .int .i64 0] := by
    rw [hw2]
    have := blk0 (w := w1.alloc (.cells #[.int .i64 n, (.slice va vl vc), .int .i64 e, (.slice ia il ic)] 54)) (T := 28) (.int .i64 0) (.int .i64 0)
    rwa [World.size_alloc] at this
  have hH1 : Blk w2 w1.heap.size 54 [.int .i64 n, (.slice va vl vc), .int .i64 e, (.slice ia il ic)] := by
    rw [hw2]; exact (blk4 _ _ _ _).alloc _
  obtain ⟨t0, t1, _, _⟩ := hF1.two
  obtain ⟨k0, k1, _, _⟩ := (blk_below BG.box hB1).two
  rw [hw2] at t0 t1 k0 k1
  have hz9 : w.heap.size + 3 ≤ w1.heap.size := by rw [← BG.size]; exact hb1.size
  go_wp2_with fail
  rw [← hw2]
  clear t0 t1 k0 k1 hw2
  refine (HSO.out w2 (hu0.below hB1)).mono ?_
  rintro x w3 ⟨rfl, hb3⟩
  have hB3 := bcat2 hB1 hb3
  obtain ⟨_, f0, f1, ff0, ff1, fs0, fs1⟩ := Two.mk' (blk_below hF1 hb3)
  have hBw3 := bcat BG.bel hB3 BG.bel.size
  have hG3 := blk_below BG.grp hB3
  obtain ⟨_, h0, h1, h2, h3, _⟩ := Four.mk' (blk_below hH1 hb3)
  obtain ⟨_, g0, g1, g2, g3, gf0, gf1, gf2, gf3, _⟩ := Four.mk' hG3
  obtain ⟨hR3, y0, y1, fy0, fy1, s0, s1⟩ := Two.mk' (blk_below BG.res hB3)
  have hGA3 := (hGA.below (bcat2 hb2 hb3)).mono (show w.heap.size + 3 ≤ w0.heap.size by rw [BG.size]; exact Nat.le_refl _)
  go_wp2
  obtain ⟨W, hW, hG8, hR8, hB8, hS8, hK8⟩ := put6 hG3 hR3 hBw3 (.int .i64 n) (.slice va vl vc) (.int .i64 e) (.slice ia il ic) (.int .i64 0) (.int .i64 0)
  rw [← hW]
  clear hW
  obtain ⟨z0, z1, _, _⟩ := hR8.two
  obtain ⟨_, q0, q1, q2, q3, _⟩ := Four.mk' hG8
  have hGA9 := (hGA3.keep (fun b h1 _ => hK8 b h1) (by omega)).mono (show w.heap.size ≤ w.heap.size + 3 by omega)
  exact bodyPost_ret (v := .tuple #[.agg #[.int .i64 n, .slice va vl vc, .int .i64 e, .slice ia il ic], .int .u64 (bs (pset ls) n), .agg #[.int .i64 0, .int .i64 0]]) (by simp [results, Tryz.results29, go_sem, z0, z1, q0, q1, q2, q3]) rfl ⟨_, rfl, hGA9, hB8⟩
theorem call116 (a : Int) (x y : Value) (W : World) : Sem.run Tryz.prog (callFunc 52 (#[.int .i64 a] ++ #[x, y])) W = .ok (.enter 52 (#[.int .i64 a] ++ #[x, y])) W := by kernel_rfl
set_option maxRecDepth 100000 in
set_option maxHeartbeats 2000000 in
theorem nor1_ok (n : Nat) (v u : Value) (zs : List Int) (e a gb sb : Nat) (q : Nat → Bool) (w : World) (hG : GA w n v e u zs) (hT : Tab w) (ha : a < n) (hb : Box4 w gb n e v u) (hs : Boxed w sb 56 (.int .u64 (bs q n))) :
    Calls Tryz.prog 52 (#[.int .i64 a] ++ #[.pointer (some ⟨gb, 0, none⟩), .pointer (some ⟨sb, 0, none⟩)]) w fun y w' => y = .returned (.bool (norq n zs e q a)) ∧ Below w.heap.size w w' := by
  show Calls Tryz.prog 52 #[.int .i64 a, .pointer (some ⟨gb, 0, none⟩), .pointer (some ⟨sb, 0, none⟩)] w _
  have HC := hide (fun W (h : Below w.heap.size w W) => conjd_ok n v u zs e a q W (hG.below h) (hT.below h) ha)
  have hsc := hs.cell
  have hS : ∀ W, Below w.heap.size w W → (Below w.heap.size w W ∧ W.cell? ⟨gb, 0, none⟩ = some (.int .i64 n) ∧ W.cell? ⟨gb, 1, none⟩ = some v ∧ W.cell? ⟨gb, 2, none⟩ = some (.int .i64 e) ∧ W.cell? ⟨gb, 3, none⟩ = some u ∧ W.cell? ⟨sb, 0, none⟩ = some (.int .u64 (bs q n))) := fun W h => by
    obtain ⟨c0, c1, c2, c3⟩ := (hb.below h).cells
    exact ⟨h, c0, c1, c2, c3, below_cell h hsc⟩
  have hS0 := hS _ (bdrew (Below.refl _ w))
  have HN : Hid (norq n zs e q a = decide (bs (cjq n zs e q a) n = bs q n)) := rfl
  clear hsc
  by_cases heq : bs (cjq n zs e q a) n = bs q n
  · rw [decide_eq_true heq] at HN
    rw [heq] at HC
    generalize bs q n = Q at *
    go_enter Tryz.func52, Tryz.ntmps52
    go_wp2_with fail
    go_region_held3 (fun W => Below w.heap.size w W ∧ W.cell? ⟨gb, 0, none⟩ = some (.int .i64 n) ∧ W.cell? ⟨gb, 1, none⟩ = some v ∧ W.cell? ⟨gb, 2, none⟩ = some (.int .i64 e) ∧ W.cell? ⟨gb, 3, none⟩ = some u ∧ W.cell? ⟨sb, 0, none⟩ = some (.int .u64 (Q : Int)))
      (first | exact hS0 | assumption | exact hS _ (bcat2 (And.left ‹_›) hl1))
      (first | (go_at_call 53; refine (HC.out _ (And.left ‹_›)).mono ?_; rintro e1 W1 ⟨rfl, hl1⟩))
    all_goals (
      have hB9 := And.left ‹Below w.heap.size w W1 ∧ _›
      go_wp2
      go_ret
      exact ⟨by rw [HN.out]; simp, hB9⟩)
  · rw [decide_eq_false heq] at HN
    generalize bs (cjq n zs e q a) n = P at *
    generalize bs q n = Q at *
    have hpi : ¬ ((P : Int) = (Q : Int)) := by omega
    go_enter Tryz.func52, Tryz.ntmps52
    go_wp2_with fail
    go_region_held3 (fun W => Below w.heap.size w W ∧ W.cell? ⟨gb, 0, none⟩ = some (.int .i64 n) ∧ W.cell? ⟨gb, 1, none⟩ = some v ∧ W.cell? ⟨gb, 2, none⟩ = some (.int .i64 e) ∧ W.cell? ⟨gb, 3, none⟩ = some u ∧ W.cell? ⟨sb, 0, none⟩ = some (.int .u64 (Q : Int)))
      (first | exact hS0 | assumption | exact hS _ (bcat2 (And.left ‹_›) hl1))
      (first | (go_at_call 53; refine (HC.out _ (And.left ‹_›)).mono ?_; rintro e1 W1 ⟨rfl, hl1⟩))
    all_goals (
      have hB9 := And.left ‹Below w.heap.size w W1 ∧ _›
      go_wp2
      go_ret
      exact ⟨by rw [HN.out]; simp [hpi], hB9⟩)
set_option maxRecDepth 100000 in
set_option maxHeartbeats 2000000 in
theorem norm_ok (n : Nat) (v u : Value) (zs : List Int) (e : Nat) (q : Nat → Bool) (w : World) (hG : GA w n v e u zs) (hT : Tab w) :
    Calls Tryz.prog 27 #[.agg #[.int .i64 n, v, .int .i64 e, u], .int .u64 (bs q n)] w fun x w' => x = .returned (.int .u64 (bs (norq n zs e q) n)) ∧ Below w.heap.size w w' := by
  have hB0 : Below w.heap.size w ((w.alloc (.cells #[.int .i64 n, v, .int .i64 e, u] 54)).alloc (.cells #[.int .u64 (bs q n)] 56)) := (balloc w _).alloc (by simp) _
  have hX0 : Box4 ((w.alloc (.cells #[.int .i64 n, v, .int .i64 e, u] 54)).alloc (.cells #[.int .u64 (bs q n)] 56)) w.heap.size n e v u := ⟨(blk4 _ _ _ _).alloc _⟩
  have hS0 := Boxed.new (w.alloc (.cells #[.int .i64 n, v, .int .i64 e, u] 54)) 56 (.int .u64 (bs q n))
  rw [World.size_alloc] at hS0
  obtain ⟨c0, c1, c2, c3⟩ := hX0.cells
  go_enter Tryz.func27, Tryz.ntmps27
  go_wp2_with fail
  generalize (w.alloc (.cells #[.int .i64 n, v, .int .i64 e, u] 54)).alloc (.cells #[.int .u64 (bs q n)] 56) = w0 at *
  refine (those_ok n 52 v u e #[.pointer (some ⟨w.heap.size, 0, none⟩), .pointer (some ⟨w.heap.size + 1, 0, none⟩)] (norq n zs e q) w0 hG.le (fun a W => call116 a _ _ W) (fun W a hW ha => nor1_ok n v u zs e a w.heap.size (w.heap.size + 1) q W ((hG.below hB0).below hW) ((hT.below hB0).below hW) ha (hX0.below hW) (Boxed.below hS0 hW))).mono ?_
  rintro x w3 ⟨rfl, hb3⟩
  go_wp2
  go_ret
  exact ⟨rfl, bcat2 hB0 hb3⟩
set_option maxRecDepth 100000 in
set_option maxHeartbeats 4000000 in
theorem osub_good (n e : Nat) (v u : Value) (zs ls : List Int) (w : World) (hv : Sl w v zs) (hg : IsGrp n zs e) (hu : Sl w u ls) (hT : Tab w) (hc : lfault n ls = (0, 0)) (hsb : subT n zs e (pset ls) = true) :
    Calls Tryz.prog 26 #[.agg #[.int .i64 n, v], u] w fun x w' => ∃ iv9, x = .returned (.tuple #[.agg #[.int .i64 n, v, .int .i64 e, iv9], .int .u64 (bs (pset ls) n), .agg #[.int .i64 0, .int .i64 0]]) ∧ SlF w.heap.size w' iv9 (li ((List.range n).map (iv n zs e))) ∧ Below w.heap.size w w' := by
  obtain ⟨va, vl, vc, rfl⟩ := hv.isSlice
  obtain ⟨w0, BG⟩ := Beg4.new w n (.slice va vl vc)
  have hv0 := hv.below BG.bel
  have hu0 := hu.below BG.bel
  obtain ⟨c0, c1, _, _⟩ := BG.box.two
  have HCK := hide (oset_good n e (.slice va vl vc) u zs ls w0 hv0 hg hu0 hc)
  obtain ⟨p, hp⟩ := mkd_test n zs e (pset ls)
  have hpe0 := subT_made hp hg.elt (fun a b ha hb => tm_lt hg.tab ha hb)
  rw [hsb] at hpe0
  have hpe : bs p n = bs (pset ls) n := by simpa using hpe0.symm
  clear hpe0
  have HMK := hide (fun W iv8 (h : GA W n (.slice va vl vc) e iv8 zs) (h2 : Tab W) => made_ok n (.slice va vl vc) iv8 zs e (pset ls) p W h h2 hp)
  rw [hpe] at HMK
  clear hc hsb hp hpe
  rw [BG.eq] at c0 c1
  go_enter Tryz.func26, Tryz.ntmps26
  go_wp2_with fail
  rw [← BG.eq]
  refine HCK.out.mono ?_
  rintro x w1 ⟨iv9, rfl, hGA, hb1⟩
  obtain ⟨ia, il, ic, rfl⟩ := hGA.sl.isSlice
  clear c0 c1 HCK
  obtain ⟨w2, hw2⟩ : ∃ w2, w2 = (w1.alloc (.cells #[.int .i64 n, (.slice va vl vc), .int .i64 e, (.slice ia il ic)] 54)).alloc (.cells #[.int .i64 0, .int .i64 0] 28) := ⟨_, rfl⟩
  have hb2 : Below w1.heap.size w1 w2 := by rw [hw2]; exact (balloc w1 _).alloc (by simp) _
  have hB1 : Below w0.heap.size w0 w2 := bcat2 hb1 hb2
  have hF1 : Blk w2 (w1.heap.size + 1) 28 [.int .i64 0, .int .i64 0] := by
    rw [hw2]
    have := blk0 (w := w1.alloc (.cells #[.int .i64 n, (.slice va vl vc), .int .i64 e, (.slice ia il ic)] 54)) (T := 28) (.int .i64 0) (.int .i64 0)
    rwa [World.size_alloc] at this
  have hH1 : Blk w2 w1.heap.size 54 [.int .i64 n, (.slice va vl vc), .int .i64 e, (.slice ia il ic)] := by
    rw [hw2]; exact (blk4 _ _ _ _).alloc _
  obtain ⟨t0, t1, _, _⟩ := hF1.two
  obtain ⟨_, k0, k1, k2, k3, _⟩ := Four.mk' hH1
  rw [hw2] at t0 t1 k0 k1 k2 k3
  go_wp2_with fail
  rw [← hw2]
  clear t0 t1 k0 k1 k2 k3 hw2
  have hGA2 : GA w2 n (.slice va vl vc) e (.slice ia il ic) zs := ⟨hg, hv0.below hB1, (hGA.below hb2).sl⟩
  refine (HMK.out w2 _ hGA2 ((hT.below BG.bel).below hB1)).mono ?_
  rintro x w3 ⟨rfl, hb3⟩
  have hB3 := bcat2 hB1 hb3
  obtain ⟨_, f0, f1, ff0, ff1, fs0, fs1⟩ := Two.mk' (blk_below hF1 hb3)
  have hBw3 := bcat BG.bel hB3 BG.bel.size
  have hG3 := blk_below BG.grp hB3
  obtain ⟨_, h0, h1, h2, h3, _⟩ := Four.mk' (blk_below hH1 hb3)
  obtain ⟨_, g0, g1, g2, g3, gf0, gf1, gf2, gf3, _⟩ := Four.mk' hG3
  obtain ⟨hR3, y0, y1, fy0, fy1, s0, s1⟩ := Two.mk' (blk_below BG.res hB3)
  have hGA3 := (hGA.below (bcat2 hb2 hb3)).mono (show w.heap.size + 3 ≤ w0.heap.size by rw [BG.size]; exact Nat.le_refl _)
  go_wp2
  obtain ⟨W, hW, hG8, hR8, hB8, hS8, hK8⟩ := put6 hG3 hR3 hBw3 (.int .i64 n) (.slice va vl vc) (.int .i64 e) (.slice ia il ic) (.int .i64 0) (.int .i64 0)
  rw [← hW]
  clear hW
  obtain ⟨z0, z1, _, _⟩ := hR8.two
  obtain ⟨_, q0, q1, q2, q3, _⟩ := Four.mk' hG8
  have hGA9 := (hGA3.keep (fun b h1 _ => hK8 b h1) (by omega)).mono (show w.heap.size ≤ w.heap.size + 3 by omega)
  exact bodyPost_ret (v := .tuple #[.agg #[.int .i64 n, .slice va vl vc, .int .i64 e, .slice ia il ic], .int .u64 (bs (pset ls) n), .agg #[.int .i64 0, .int .i64 0]]) (by simp [results, Tryz.results26, go_sem, z0, z1, q0, q1, q2, q3]) rfl ⟨_, rfl, hGA9, hB8⟩
set_option maxRecDepth 100000 in
set_option maxHeartbeats 4000000 in
theorem nrm_good (n e : Nat) (v u0 : Value) (zs l0 : List Int) (w : World) (hv : Sl w v zs) (hg : IsGrp n zs e) (hu : Sl w u0 l0) (hT : Tab w) (hc : lfault n l0 = (0, 0)) (hs : subT n zs e (pset l0) = true) :
    Calls Tryz.prog 11 #[.agg #[.int .i64 n, v], u0] w fun x w' => x = .returned (.tuple #[.bool (nrmq n zs e (pset l0)), .agg #[.int .i64 0, .int .i64 0]]) ∧ Below w.heap.size w w' := by
  obtain ⟨va, vl, vc, rfl⟩ := hv.isSlice
  obtain ⟨w0, BG⟩ := Beg.new w n (.slice va vl vc)
  have hv0 := hv.below BG.bel
  obtain ⟨c0, c1, _, _⟩ := BG.box.two
  have HCK := hide (osub_good n e (.slice va vl vc) u0 zs l0 w0 hv0 hg (hu.below BG.bel) (hT.below BG.bel) hc hs)
  have HZ0 := hide (show w.heap.size + 2 ≤ w0.heap.size by rw [BG.eq]; simp)
  rw [BG.eq] at c0 c1
  go_enter Tryz.func11, Tryz.ntmps11
  go_wp2_with fail
  rw [← BG.eq]
  refine HCK.out.mono ?_
  rintro x w1 ⟨iv9, rfl, hSI, hb1⟩
  obtain ⟨ia, il, ic, rfl⟩ := hSI.sl.isSlice
  clear c0 c1 HCK
  obtain ⟨w2, hw2⟩ : ∃ w2, w2 = (w1.alloc (.cells #[.int .i64 n, (.slice va vl vc), .int .i64 e, (.slice ia il ic)] 54)).alloc (.cells #[.int .i64 0, .int .i64 0] 28) := ⟨_, rfl⟩
  have hb2 : Below w1.heap.size w1 w2 := by rw [hw2]; exact (balloc w1 _).alloc (by simp) _
  have hB1 : Below w0.heap.size w0 w2 := bcat2 hb1 hb2
  have hF1 : Blk w2 (w1.heap.size + 1) 28 [.int .i64 0, .int .i64 0] := by
    rw [hw2]
    have := blk0 (w := w1.alloc (.cells #[.int .i64 n, (.slice va vl vc), .int .i64 e, (.slice ia il ic)] 54)) (T := 28) (.int .i64 0) (.int .i64 0)
    rwa [World.size_alloc] at this
  have hH2 : Blk w2 w1.heap.size 54 [.int .i64 n, (.slice va vl vc), .int .i64 e, (.slice ia il ic)] := by
    rw [hw2]; exact (blk4 _ _ _ _).alloc _
  have hBw2 := bcat BG.bel hB1 BG.bel.size
  have hR2 := blk_below BG.res hB1
  have hT2 := hT.below hBw2
  have hGA2 : GA w2 n (.slice va vl vc) e (.slice ia il ic) zs := ⟨hg, hv.below hBw2, (hSI.below hb2).sl⟩
  obtain ⟨t0, t1, _, _⟩ := hF1.two
  obtain ⟨_, h0, h1, h2, h3, _⟩ := Four.mk' hH2
  have hx2 := blk_below BG.box hB1
  have HZ1 := hide (Nat.le_trans HZ0.out hb1.size)
  have HZ2 := hide hb2.size
  rw [hw2] at t0 t1 h0 h1 h2 h3
  go_wp2_with fail
  rw [← hw2]
  rw [← hw2] at t0 t1 h0 h1 h2 h3
  clear hw2
  have hS : ∀ W, Below w2.heap.size w2 W → (Below w2.heap.size w2 W ∧ W.cell? ⟨w1.heap.size, 0, none⟩ = some (.int .i64 n) ∧ W.cell? ⟨w1.heap.size, 1, none⟩ = some (.slice va vl vc) ∧ W.cell? ⟨w1.heap.size, 2, none⟩ = some (.int .i64 e) ∧ W.cell? ⟨w1.heap.size, 3, none⟩ = some (.slice ia il ic) ∧ W.cell? ⟨w.heap.size + 1, 0, none⟩ = some (.int .i64 0) ∧ W.cell? ⟨w.heap.size + 1, 1, none⟩ = some (.int .i64 0) ∧ W.frozen? ⟨w.heap.size + 1, 0, none⟩ = false ∧ W.frozen? ⟨w.heap.size + 1, 1, none⟩ = false ∧ W.setCell ⟨w.heap.size + 1, 0, none⟩ (.int .i64 0) = W ∧ W.setCell ⟨w.heap.size + 1, 1, none⟩ (.int .i64 0) = W) := fun W h => by
    obtain ⟨_, y0, y1, fy0, fy1, s0, s1⟩ := Two.mk' (blk_below hR2 h)
    exact ⟨h, below_cell h h0, below_cell h h1, below_cell h h2, below_cell h h3, y0, y1, fy0, fy1, s0, s1⟩
  have hS0 := hS _ (bdrew (Below.refl _ w2))
  have HA := hide (fun W => all_ok n (.slice va vl vc) (.slice ia il ic) e W hg.tab.le)
  have HC := hide (fun W (h : Below w2.heap.size w2 W) => norm_ok n (.slice va vl vc) (.slice ia il ic) zs e (pset l0) W (hGA2.below h) (hT2.below h))
  clear h0 h1 h2 h3 t0 t1
  have HN : Hid (nrmq n zs e (pset l0) = decide (bs (norq n zs e (pset l0)) n = bs (fun _ => true) n)) := rfl
  by_cases heq : bs (norq n zs e (pset l0)) n = bs (fun _ => true) n
  · rw [heq] at HC HN
    rw [decide_eq_true rfl] at HN
    generalize bs (norq n zs e (pset l0)) n = P at *
    generalize bs (fun _ => true) n = A at *
    
    go_region_held3 (fun W => Below w2.heap.size w2 W ∧ W.cell? ⟨w1.heap.size, 0, none⟩ = some (.int .i64 n) ∧ W.cell? ⟨w1.heap.size, 1, none⟩ = some (.slice va vl vc) ∧ W.cell? ⟨w1.heap.size, 2, none⟩ = some (.int .i64 e) ∧ W.cell? ⟨w1.heap.size, 3, none⟩ = some (.slice ia il ic) ∧ W.cell? ⟨w.heap.size + 1, 0, none⟩ = some (.int .i64 0) ∧ W.cell? ⟨w.heap.size + 1, 1, none⟩ = some (.int .i64 0) ∧ W.frozen? ⟨w.heap.size + 1, 0, none⟩ = false ∧ W.frozen? ⟨w.heap.size + 1, 1, none⟩ = false ∧ W.setCell ⟨w.heap.size + 1, 0, none⟩ (.int .i64 0) = W ∧ W.setCell ⟨w.heap.size + 1, 1, none⟩ (.int .i64 0) = W)
      (first | exact hS0 | assumption | exact hS _ (bcat2 (And.left ‹_›) hl1))
      (first
        | (go_at_call 27; refine (HC.out _ (And.left ‹_›)).mono ?_; rintro e1 W1 ⟨rfl, hl1⟩)
        | (go_at_call 28; refine (HA.out _).mono ?_; rintro e2 W2 ⟨rfl, hl1⟩))
    all_goals (
      obtain ⟨hB9, _, _, _, _, y0, y1, _⟩ := ‹Below w2.heap.size w2 W2 ∧ _›
      have hBz := bcat hBw2 hB9 hBw2.size
      clear hS hS0
      go_wp2
      exact bodyPost_ret (v := .tuple #[.bool true, .agg #[.int .i64 0, .int .i64 0]]) (by simp [results, Tryz.results11, go_sem, y0, y1]) rfl ⟨by rw [HN.out], hBz⟩)
  · skip
    rw [decide_eq_false heq] at HN
    generalize bs (norq n zs e (pset l0)) n = P at *
    generalize bs (fun _ => true) n = A at *
    have hpi : ¬ ((P : Int) = (A : Int)) := by omega
    go_region_held3 (fun W => Below w2.heap.size w2 W ∧ W.cell? ⟨w1.heap.size, 0, none⟩ = some (.int .i64 n) ∧ W.cell? ⟨w1.heap.size, 1, none⟩ = some (.slice va vl vc) ∧ W.cell? ⟨w1.heap.size, 2, none⟩ = some (.int .i64 e) ∧ W.cell? ⟨w1.heap.size, 3, none⟩ = some (.slice ia il ic) ∧ W.cell? ⟨w.heap.size + 1, 0, none⟩ = some (.int .i64 0) ∧ W.cell? ⟨w.heap.size + 1, 1, none⟩ = some (.int .i64 0) ∧ W.frozen? ⟨w.heap.size + 1, 0, none⟩ = false ∧ W.frozen? ⟨w.heap.size + 1, 1, none⟩ = false ∧ W.setCell ⟨w.heap.size + 1, 0, none⟩ (.int .i64 0) = W ∧ W.setCell ⟨w.heap.size + 1, 1, none⟩ (.int .i64 0) = W)
      (first | exact hS0 | assumption | exact hS _ (bcat2 (And.left ‹_›) hl1))
      (first
        | (go_at_call 27; refine (HC.out _ (And.left ‹_›)).mono ?_; rintro e1 W1 ⟨rfl, hl1⟩)
        | (go_at_call 28; refine (HA.out _).mono ?_; rintro e2 W2 ⟨rfl, hl1⟩))
    all_goals (
      obtain ⟨hB9, _, _, _, _, y0, y1, _⟩ := ‹Below w2.heap.size w2 W2 ∧ _›
      have hBz := bcat hBw2 hB9 hBw2.size
      clear hS hS0
      go_wp2
      exact bodyPost_ret (v := .tuple #[.bool false, .agg #[.int .i64 0, .int .i64 0]]) (by simp [results, Tryz.results11, go_sem, y0, y1, hpi]) rfl ⟨by rw [HN.out], hBz⟩)
set_option maxRecDepth 100000 in
set_option maxHeartbeats 4000000 in
theorem osub_bads (N : Int) (v u : Value) (zs ls : List Int) (w : World) (hv : Sl w v zs) (hu : Sl w u ls) (hc : (sfault N zs ls).1 ≠ 0) :
    Calls Tryz.prog 26 #[.agg #[.int .i64 N, v], u] w fun x w' => x = .returned (.tuple #[.agg #[.int .i64 0, .slice none 0 0, .int .i64 0, .slice none 0 0], .int .u64 0, .agg #[.int .i64 (sfault N zs ls).1, .int .i64 (sfault N zs ls).2]]) ∧ Below w.heap.size w w' := by
  obtain ⟨w0, BG⟩ := Beg4.new w N v
  have hv0 := hv.below BG.bel
  obtain ⟨c0, c1, _, _⟩ := BG.box.two
  have hck := oset_bad N v u zs ls w0 hv0 (hu.below BG.bel) hc
  obtain ⟨c, i, hci⟩ : ∃ c i, sfault N zs ls = (c, i) := ⟨_, _, rfl⟩
  rw [hci] at hck hc ⊢
  simp only at hc hck
  have HCK := hide hck
  clear hck hci
  have hcb : (c != 0) = true := by simpa using hc
  rw [BG.eq] at c0 c1
  go_enter Tryz.func26, Tryz.ntmps26
  go_wp2_with fail
  rw [← BG.eq]
  refine HCK.out.mono ?_
  rintro x w1 ⟨rfl, hb1⟩
  clear c0 c1
  obtain ⟨w2, hw2⟩ : ∃ w2, w2 = (w1.alloc (.cells #[.int .i64 0, .slice none 0 0, .int .i64 0, .slice none 0 0] 54)).alloc (.cells #[.int .i64 c, .int .i64 i] 28) := ⟨_, rfl⟩
  have hB1 : Below w0.heap.size w0 w2 := by rw [hw2]; exact bcat2 hb1 ((balloc w1 _).alloc (by simp) _)
  have hF1 : Blk w2 (w1.heap.size + 1) 28 [.int .i64 c, .int .i64 i] := by
    rw [hw2]
    have := blk0 (w := w1.alloc (.cells #[.int .i64 0, .slice none 0 0, .int .i64 0, .slice none 0 0] 54)) (T := 28) (.int .i64 c) (.int .i64 i)
    rwa [World.size_alloc] at this
  obtain ⟨hG1, g0, g1, g2, g3, gf0, gf1, gf2, gf3, gs0, gs1, gs2, gs3⟩ := Four.mk' (blk_below BG.grp hB1)
  have hR1 := blk_below BG.res hB1
  have hBw := bcat BG.bel hB1 BG.bel.size
  obtain ⟨y0, y1, fy0, fy1⟩ := hR1.two
  obtain ⟨t0, t1, _, _⟩ := hF1.two
  rw [hw2] at t0 t1
  go_wp2_with fail
  rw [← hw2]
  rw [← hw2] at t0 t1
  clear hw2
  go_region
  all_goals (
    go_wp2
    obtain ⟨hR6, hB6⟩ := put2 hR1 hBw (by omega) c i
    have hB7 := bdrew hB6
    have hR7 : Blk ((w2.setCell ⟨w.heap.size + 1 + 1, 0, none⟩ (.int .i64 c)).setCell ⟨w.heap.size + 1 + 1, 1, none⟩ (.int .i64 i)).drew (w.heap.size + 1 + 1) 28 [.int .i64 c, .int .i64 i] := hR6
    have hG7 : Blk ((w2.setCell ⟨w.heap.size + 1 + 1, 0, none⟩ (.int .i64 c)).setCell ⟨w.heap.size + 1 + 1, 1, none⟩ (.int .i64 i)).drew (w.heap.size + 1) 54 [.int .i64 0, .slice none 0 0, .int .i64 0, .slice none 0 0] :=
      (hG1.other (p := ⟨w.heap.size + 1 + 1, 0, none⟩) (by simp) (.int .i64 c)).other (p := ⟨w.heap.size + 1 + 1, 1, none⟩) (by simp) (.int .i64 i)
    generalize ((w2.setCell ⟨w.heap.size + 1 + 1, 0, none⟩ (.int .i64 c)).setCell ⟨w.heap.size + 1 + 1, 1, none⟩ (.int .i64 i)).drew = W at hR7 hB7 hG7 ⊢
    obtain ⟨z0, z1, _, _⟩ := hR7.two
    obtain ⟨_, q0, q1, q2, q3, _⟩ := Four.mk' hG7
    exact bodyPost_ret (v := .tuple #[.agg #[.int .i64 0, .slice none 0 0, .int .i64 0, .slice none 0 0], .int .u64 0, .agg #[.int .i64 c, .int .i64 i]]) (by simp [results, Tryz.results26, go_sem, z0, z1, q0, q1, q2, q3]) rfl ⟨rfl, hB7⟩)
set_option maxRecDepth 100000 in
set_option maxHeartbeats 4000000 in
theorem osub_badu (n e : Nat) (v u : Value) (zs ls : List Int) (w : World) (hv : Sl w v zs) (hg : IsGrp n zs e) (hu : Sl w u ls) (hT : Tab w) (hc : lfault n ls = (0, 0)) (hsb : subT n zs e (pset ls) = false) :
    Calls Tryz.prog 26 #[.agg #[.int .i64 n, v], u] w fun x w' => x = .returned (.tuple #[.agg #[.int .i64 0, .slice none 0 0, .int .i64 0, .slice none 0 0], .int .u64 0, .agg #[.int .i64 7, .int .i64 0]]) ∧ Below w.heap.size w w' := by
  obtain ⟨va, vl, vc, rfl⟩ := hv.isSlice
  obtain ⟨w0, BG⟩ := Beg4.new w n (.slice va vl vc)
  have hv0 := hv.below BG.bel
  have hu0 := hu.below BG.bel
  obtain ⟨c0, c1, _, _⟩ := BG.box.two
  have HCK := hide (oset_good n e (.slice va vl vc) u zs ls w0 hv0 hg hu0 hc)
  obtain ⟨p, hp⟩ := mkd_test n zs e (pset ls)
  have hpe0 := subT_made hp hg.elt (fun a b ha hb => tm_lt hg.tab ha hb)
  rw [hsb] at hpe0
  have hpe : ¬ bs p n = bs (pset ls) n := by simpa using hpe0.symm
  have hpi : ¬ ((bs p n : Nat) : Int) = ((bs (pset ls) n : Nat) : Int) := by omega
  clear hpe0
  have HMK := hide (fun W iv8 (h : GA W n (.slice va vl vc) e iv8 zs) (h2 : Tab W) => made_ok n (.slice va vl vc) iv8 zs e (pset ls) p W h h2 hp)
  clear hc hsb hp hpe
  rw [BG.eq] at c0 c1
  go_enter Tryz.func26, Tryz.ntmps26
  go_wp2_with fail
  rw [← BG.eq]
  refine HCK.out.mono ?_
  rintro x w1 ⟨iv9, rfl, hGA, hb1⟩
  obtain ⟨ia, il, ic, rfl⟩ := hGA.sl.isSlice
  clear c0 c1 HCK
  obtain ⟨w2, hw2⟩ : ∃ w2, w2 = (w1.alloc (.cells #[.int .i64 n, (.slice va vl vc), .int .i64 e, (.slice ia il ic)] 54)).alloc (.cells #[.int .i64 0, .int .i64 0] 28) := ⟨_, rfl⟩
  have hb2 : Below w1.heap.size w1 w2 := by rw [hw2]; exact (balloc w1 _).alloc (by simp) _
  have hB1 : Below w0.heap.size w0 w2 := bcat2 hb1 hb2
  have hF1 : Blk w2 (w1.heap.size + 1) 28 [.int .i64 0, .int .i64 0] := by
    rw [hw2]
    have := blk0 (w := w1.alloc (.cells #[.int .i64 n, (.slice va vl vc), .int .i64 e, (.slice ia il ic)] 54)) (T := 28) (.int .i64 0) (.int .i64 0)
    rwa [World.size_alloc] at this
  have hH1 : Blk w2 w1.heap.size 54 [.int .i64 n, (.slice va vl vc), .int .i64 e, (.slice ia il ic)] := by
    rw [hw2]; exact (blk4 _ _ _ _).alloc _
  obtain ⟨t0, t1, _, _⟩ := hF1.two
  obtain ⟨_, k0, k1, k2, k3, _⟩ := Four.mk' hH1
  rw [hw2] at t0 t1 k0 k1 k2 k3
  go_wp2_with fail
  rw [← hw2]
  clear t0 t1 k0 k1 k2 k3 hw2
  have hGA2 : GA w2 n (.slice va vl vc) e (.slice ia il ic) zs := ⟨hg, hv0.below hB1, (hGA.below hb2).sl⟩
  refine (HMK.out w2 _ hGA2 ((hT.below BG.bel).below hB1)).mono ?_
  rintro x w3 ⟨rfl, hb3⟩
  have hB3 := bcat2 hB1 hb3
  obtain ⟨_, f0, f1, ff0, ff1, fs0, fs1⟩ := Two.mk' (blk_below hF1 hb3)
  have hBw3 := bcat BG.bel hB3 BG.bel.size
  have hG3 := blk_below BG.grp hB3
  obtain ⟨_, h0, h1, h2, h3, _⟩ := Four.mk' (blk_below hH1 hb3)
  obtain ⟨_, g0, g1, g2, g3, gf0, gf1, gf2, gf3, _⟩ := Four.mk' hG3
  obtain ⟨hR3, y0, y1, fy0, fy1, s0, s1⟩ := Two.mk' (blk_below BG.res hB3)
  have hGA3 := (hGA.below (bcat2 hb2 hb3)).mono (show w.heap.size + 3 ≤ w0.heap.size by rw [BG.size]; exact Nat.le_refl _)
  obtain ⟨_, _, _, _, _, _, _, _, _, gs0, gs1, gs2, gs3⟩ := Four.mk' hG3
  obtain ⟨hR6, hB6⟩ := put2 hR3 hBw3 (by omega) 7 0
  have hG6 := (hG3.other (p := ⟨w.heap.size + 1 + 1, 0, none⟩) (by simp) (.int .i64 7)).other (p := ⟨w.heap.size + 1 + 1, 1, none⟩) (by simp) (.int .i64 0)
  clear s0 s1
  go_wp2
  generalize (w3.setCell ⟨w.heap.size + 1 + 1, 0, none⟩ (.int .i64 7)).setCell ⟨w.heap.size + 1 + 1, 1, none⟩ (.int .i64 0) = W at hR6 hB6 hG6 ⊢
  obtain ⟨z0, z1, _, _⟩ := hR6.two
  obtain ⟨_, q0, q1, q2, q3, _⟩ := Four.mk' hG6
  exact bodyPost_ret (v := .tuple #[.agg #[.int .i64 0, .slice none 0 0, .int .i64 0, .slice none 0 0], .int .u64 0, .agg #[.int .i64 7, .int .i64 0]]) (by simp [results, Tryz.results26, go_sem, z0, z1, q0, q1, q2, q3]) rfl ⟨rfl, hB6⟩
theorem osub_bad (N : Int) (v u : Value) (zs ls : List Int) (w : World) (hv : Sl w v zs) (hu : Sl w u ls) (hT : Tab w) (hc : (ufault N zs ls).1 ≠ 0) :
    Calls Tryz.prog 26 #[.agg #[.int .i64 N, v], u] w fun x w' => x = .returned (.tuple #[.agg #[.int .i64 0, .slice none 0 0, .int .i64 0, .slice none 0 0], .int .u64 0, .agg #[.int .i64 (ufault N zs ls).1, .int .i64 (ufault N zs ls).2]]) ∧ Below w.heap.size w w' := by
  rcases ufault_cases N zs ls hc with ⟨h1, h2⟩ | ⟨n, e, rfl, hg, h1, h2, h3⟩
  · rw [h2]; exact osub_bads N v u zs ls w hv hu h1
  · rw [h3]; exact osub_badu n e v u zs ls w hv hg hu hT h1 h2
set_option maxRecDepth 100000 in
set_option maxHeartbeats 4000000 in
theorem nrm_bad (N : Int) (v u0 : Value) (zs l0 : List Int) (w : World) (hv : Sl w v zs) (hu : Sl w u0 l0) (hT : Tab w) (hc : (ufault N zs l0).1 ≠ 0) :
    Calls Tryz.prog 11 #[.agg #[.int .i64 N, v], u0] w fun x w' => x = .returned (.tuple #[.bool false, .agg #[.int .i64 (ufault N zs l0).1, .int .i64 (ufault N zs l0).2]]) ∧ Below w.heap.size w w' := by
  obtain ⟨w0, BG⟩ := Beg.new w N v
  have hv0 := hv.below BG.bel
  obtain ⟨c0, c1, _, _⟩ := BG.box.two
  have hck := osub_bad N v u0 zs l0 w0 hv0 (hu.below BG.bel) (hT.below BG.bel) hc
  obtain ⟨c, i, hci⟩ : ∃ c i, ufault N zs l0 = (c, i) := ⟨_, _, rfl⟩
  rw [hci] at hck hc ⊢
  simp only at hc hck
  have HCK := hide hck
  clear hck hci
  have hcb : (c != 0) = true := by simpa using hc
  rw [BG.eq] at c0 c1
  go_enter Tryz.func11, Tryz.ntmps11
  go_wp2_with fail
  rw [← BG.eq]
  refine HCK.out.mono ?_
  rintro x w1 ⟨rfl, hb1⟩
  clear c0 c1
  obtain ⟨w2, hw2⟩ : ∃ w2, w2 = (w1.alloc (.cells #[.int .i64 0, .slice none 0 0, .int .i64 0, .slice none 0 0] 54)).alloc (.cells #[.int .i64 c, .int .i64 i] 28) := ⟨_, rfl⟩
  have hB1 : Below w0.heap.size w0 w2 := by rw [hw2]; exact bcat2 hb1 ((balloc w1 _).alloc (by simp) _)
  have hF1 : Blk w2 (w1.heap.size + 1) 28 [.int .i64 c, .int .i64 i] := by
    rw [hw2]
    have := blk0 (w := w1.alloc (.cells #[.int .i64 0, .slice none 0 0, .int .i64 0, .slice none 0 0] 54)) (T := 28) (.int .i64 c) (.int .i64 i)
    rwa [World.size_alloc] at this
  have hR1 := blk_below BG.res hB1
  have hBw := bcat BG.bel hB1 BG.bel.size
  obtain ⟨y0, y1, fy0, fy1⟩ := hR1.two
  obtain ⟨t0, t1, _, _⟩ := hF1.two
  rw [hw2] at t0 t1
  go_wp2_with fail
  rw [← hw2]
  rw [← hw2] at t0 t1
  clear hw2
  go_region
  all_goals (
    go_wp2
    obtain ⟨hR6, hB6⟩ := put2 hR1 hBw (by omega) c i
    have hB7 := bdrew hB6
    have hR7 : Blk ((w2.setCell ⟨w.heap.size + 1, 0, none⟩ (.int .i64 c)).setCell ⟨w.heap.size + 1, 1, none⟩ (.int .i64 i)).drew (w.heap.size + 1) 28 [.int .i64 c, .int .i64 i] := hR6
    generalize ((w2.setCell ⟨w.heap.size + 1, 0, none⟩ (.int .i64 c)).setCell ⟨w.heap.size + 1, 1, none⟩ (.int .i64 i)).drew = W at hR7 hB7 ⊢
    obtain ⟨z0, z1, _, _⟩ := hR7.two
    exact bodyPost_ret (v := .tuple #[.bool false, .agg #[.int .i64 c, .int .i64 i]]) (by simp [results, Tryz.results11, go_sem, z0, z1]) rfl ⟨rfl, hB7⟩)
end Go.Proofs.YtgdpgbldjpeopaaGreatDoor

namespace Go.Proofs.YtgdpgbldjpeopaaGreatDoor
open Go Go.RowKit

set_option maxRecDepth 100000 in
set_option maxHeartbeats 2000000 in
theorem cmt_ok (n : Nat) (v u : Value) (zs : List Int) (e a b : Nat) (w : World) (hG : GA w n v e u zs) (ha : a < n) (hb : b < n) :
    Calls Tryz.prog 83 #[.agg #[.int .i64 n, v, .int .i64 e, u], .int .i64 a, .int .i64 b] w fun y w' => y = .returned (.int .i64 (Fin.cm (tm n zs) (iv n zs e) a b)) ∧ Below w.heap.size w w' := by
  obtain ⟨hi, hi1, hi2, _⟩ := iv_spec hG.grp ha
  obtain ⟨hj, _, _, _⟩ := iv_spec hG.grp hb
  have hct : Fin.cj (tm n zs) (iv n zs e) a b < n := List.mem_range.1 (Fin.cj_mem (grp_fg hG.grp) (grp_iv hG.grp) (List.mem_range.2 ha) (List.mem_range.2 hb))
  have heq : Fin.cm (tm n zs) (iv n zs e) a b = tm n zs (iv n zs e a) (Fin.cj (tm n zs) (iv n zs e) a b) := by
    unfold Fin.cm Fin.cj
    rw [hG.grp.ass _ _ _ hi hj (tm_lt hG.grp.tab ha hb)]
  rw [heq]
  have hB0 : Below w.heap.size w (w.alloc (.cells #[.int .i64 n, v, .int .i64 e, u] 54)) := balloc w _
  have N0 := Box4.new w n e v u
  have hG0 := hG.below hB0
  obtain ⟨w0, hw0⟩ : ∃ w0, w0 = w.alloc (.cells #[.int .i64 n, v, .int .i64 e, u] 54) := ⟨_, rfl⟩
  rw [← hw0] at hB0 N0 hG0
  have HP1 := hide (fun W (h : Below w0.heap.size w0 W) => conj_ok n v u zs e a b W (hG0.below h) ha hb)
  have HP2 := hide (fun W (h : Below w0.heap.size w0 W) => prd_ok n v u zs e (iv n zs e a) (Fin.cj (tm n zs) (iv n zs e) a b) W hG.grp.tab (hG0.mul.below h) hi hct)
  obtain ⟨y, cap, pb, po, rfl, hr, hp, hq3, hq4⟩ := hG0.inv
  rw [ivs_len] at hq3
  have hiv := hr.cell a (by rw [ivs_len]; exact ha)
  rw [ivs_at ha] at hiv
  obtain rfl := hr.at_ (by rw [ivs_len]; omega)
  rw [ivs_len] at *
  clear hr hG hG0 hi1 hi2 heq
  generalize tm n zs (iv n zs e a) (Fin.cj (tm n zs) (iv n zs e) a b) = r at *
  generalize Fin.cj (tm n zs) (iv n zs e) a b = t at *
  generalize iv n zs e a = i at *
  have hai : (a : Int) < (n : Int) := by omega
  have hS : ∀ W, Below w0.heap.size w0 W → (Below w0.heap.size w0 W ∧ W.cell? ⟨w.heap.size, 0, none⟩ = some (.int .i64 n) ∧ W.cell? ⟨w.heap.size, 1, none⟩ = some v ∧ W.cell? ⟨w.heap.size, 2, none⟩ = some (.int .i64 e) ∧ W.cell? ⟨w.heap.size, 3, none⟩ = some (.slice (some ⟨pb, po, none⟩) n cap) ∧ W.cell? ⟨pb, po + a, none⟩ = some (.int .i64 i)) := fun W h => by
    obtain ⟨c0, c1, c2, c3⟩ := (N0.below h).cells
    exact ⟨h, c0, c1, c2, c3, below_cell h hiv⟩
  have hS0 := hS _ (bdrew (Below.refl _ w0))
  clear hiv N0
  go_enter Tryz.func83, Tryz.ntmps83
  go_wp2_with fail
  rw [← hw0]
  clear hw0
  go_region_held3 (fun W => Below w0.heap.size w0 W ∧ W.cell? ⟨w.heap.size, 0, none⟩ = some (.int .i64 n) ∧ W.cell? ⟨w.heap.size, 1, none⟩ = some v ∧ W.cell? ⟨w.heap.size, 2, none⟩ = some (.int .i64 e) ∧ W.cell? ⟨w.heap.size, 3, none⟩ = some (.slice (some ⟨pb, po, none⟩) n cap) ∧ W.cell? ⟨pb, po + a, none⟩ = some (.int .i64 i))
    (first | exact hS0 | assumption | exact hS _ (bcat2 (And.left ‹_›) hl1))
    (first
      | (go_at_call 81; refine (HP1.out _ (And.left ‹_›)).mono ?_; rintro e1 W1 ⟨rfl, hl1⟩)
      | (go_at_call 59; refine (HP2.out _ (And.left ‹_›)).mono ?_; rintro e2 W2 ⟨rfl, hl1⟩))
  all_goals (
    have hB9 := And.left ‹Below w0.heap.size w0 W2 ∧ _›
    go_wp2
    go_ret
    exact ⟨rfl, bcat hB0 hB9 hB0.size⟩)
end Go.Proofs.YtgdpgbldjpeopaaGreatDoor

namespace Go.Proofs.YtgdpgbldjpeopaaGreatDoor
open Go Go.RowKit

set_option maxRecDepth 100000 in
set_option maxHeartbeats 4000000 in
theorem cmms_ok (n : Nat) (v u : Value) (zs : List Int) (e : Nat) (q r c : Nat → Bool) (w : World) (hG : GA w n v e u zs) (hT : Tab w) (hc : ∀ a, a < n → (c a = true ↔ Mkd n zs e (cmq n zs e (lst n q) (lst n r)) a)) :
    Calls Tryz.prog 62 #[.agg #[.int .i64 n, v, .int .i64 e, u], .int .u64 (bs q n), .int .u64 (bs r n)] w fun x w' => x = .returned (.int .u64 (bs c n)) ∧ Below w.heap.size w w' := by
  have hg := hG.grp
  have hn := hG.le
  have hB0 : Below w.heap.size w (w.alloc (.cells #[.int .i64 n, v, .int .i64 e, u] 54)) := balloc w _
  have hX0 : Blk (w.alloc (.cells #[.int .i64 n, v, .int .i64 e, u] 54)) w.heap.size 54 [.int .i64 n, v, .int .i64 e, u] := blk4 _ _ _ _
  have HLS := hide (fun W (p : Nat → Bool) (h : Below w.heap.size w W) => list_ok n p W hn (hT.below h))
  have HMA := hide (fun W (h : Below w.heap.size w W) => made_ok n v u zs e _ c W (hG.below h) (hT.below h) hc)
  have HM0 := hide (fun x (h : x ∈ lst n q) => (mem_lst.1 h).1)
  have HM1 := hide (fun x (h : x ∈ lst n r) => (mem_lst.1 h).1)
  have hl0 := Nat.le_trans (lst_len n q) hn
  have hl1 := Nat.le_trans (lst_len n r) hn
  have HL0 := hide (li_len (lst n q))
  have HL1 := hide (li_len (lst n r))
  have HLQ := hide (fun W (h : Below w.heap.size w W) => HLS.out W q h)
  have HLR := hide (fun W (h : Below w.heap.size w W) => HLS.out W r h)
  clear hc HLS
  generalize lst n q = xs at *
  generalize lst n r = ys at *
  generalize bs q n = Q at *
  generalize bs r n = R at *
  go_enter Tryz.func62, Tryz.ntmps62
  go_wp2_with fail
  generalize w.alloc (.cells #[.int .i64 n, v, .int .i64 e, u] 54) = w0 at *
  refine (HLQ.out _ hB0).mono ?_
  rintro x w1 ⟨rv, rfl, hrv, hb1⟩
  obtain ⟨a0, cap0, pb0, po0, rfl, hr0, hp0, hq0, hm0, _⟩ := hrv
  have hB1 := bcat2 hB0 hb1
  have hX1 := blk_below hX0 hb1
  rw [HL0.out] at hq0 ⊢
  have HR0 := hide hr0
  clear hr0 hX0 hB0 HLQ hm0
  go_wp2_with fail
  go_loopw [7, 15] (fun s i wr => ∃ k : Nat, k ≤ xs.length ∧ i = .int .i64 k ∧ s = .int .u64 (bs (cmq n zs e (xs.take k) ys) n) ∧ Below w1.heap.size w1 wr) (fun _ i _ => xs.length - (intOf i).toNat)
  case atStart => exact ⟨0, Nat.zero_le _, rfl, by rw [List.take_zero, show bs (cmq n zs e [] ys) n = 0 from bs_none n]; rfl, Below.refl _ _⟩
  case round =>
    obtain ⟨k, hk, rfl, rfl, hB⟩ := hrel
    by_cases hlt : k < xs.length
    · have hck := (HR0.out.below hB hp0).cell k (by rw [HL0.out]; exact hlt)
      rw [li_get hlt] at hck
      obtain rfl := HR0.out.at_ (by rw [HL0.out]; omega)
      obtain ⟨x, hxe⟩ : ∃ x, xs[k] = x := ⟨_, rfl⟩
      have hxn : x < n := by rw [← hxe]; exact HM0.out _ (List.getElem_mem hlt)
      have hsn : xs.take (k + 1) = xs.take k ++ [x] := by rw [List.take_succ_eq_append_getElem hlt, hxe]
      rw [hxe] at hck
      have HSN := hide hsn
      clear hxe hsn
      go_wp2_with fail
      clear hck
      refine (HLR.out _ (bcat2 hB1 hB)).mono ?_
      rintro x9 w3 ⟨rv, rfl, hrv, hb3⟩
      obtain ⟨a1, cap1, pb1, po1, rfl, hr1, hp1, hq1, hm1, _⟩ := hrv
      have hB3 := bcat2 hB hb3
      rw [HL1.out] at hq1 ⊢
      have HR1 := hide hr1
      clear hr1 hm1
      go_wp2_with fail
      go_loopw [7, 22] (fun s i wr => ∃ j : Nat, j ≤ ys.length ∧ i = .int .i64 j ∧ s = .int .u64 (bs (fun y => cmq n zs e (xs.take k) ys y || (ys.take j).any fun b => decide (Fin.cm (tm n zs) (iv n zs e) x b = y)) n) ∧ Below w3.heap.size w3 wr) (fun _ i _ => ys.length - (intOf i).toNat)
      case atStart => exact ⟨0, Nat.zero_le _, rfl, by simp, Below.refl _ _⟩
      case round =>
        obtain ⟨j, hj, rfl, rfl, hB'⟩ := hrel
        clear hB
        have hBn := bcat2 hB3 hB'
        by_cases hltj : j < ys.length
        · have hcj := (HR1.out.below hB' hp1).cell j (by rw [HL1.out]; exact hltj)
          rw [li_get hltj] at hcj
          obtain rfl := HR1.out.at_ (by rw [HL1.out]; omega)
          obtain ⟨y, hye⟩ : ∃ y, ys[j] = y := ⟨_, rfl⟩
          have hyn : y < n := by rw [← hye]; exact HM1.out _ (List.getElem_mem hltj)
          have hsn : ys.take (j + 1) = ys.take j ++ [y] := by rw [List.take_succ_eq_append_getElem hltj, hye]
          rw [hye] at hcj
          have hGr := hG.below (bcat2 hB1 hBn)
          have hct : Fin.cm (tm n zs) (iv n zs e) x y < n := List.mem_range.1 (Fin.cm_mem (grp_fg hg) (grp_iv hg) (List.mem_range.2 hxn) (List.mem_range.2 hyn))
          have hor := bs_put (n := n) (t := Fin.cm (tm n zs) (iv n zs e) x y) (p := fun z => cmq n zs e (xs.take k) ys z || (ys.take j).any fun b => decide (Fin.cm (tm n zs) (iv n zs e) x b = z)) (q := fun z => cmq n zs e (xs.take k) ys z || (ys.take (j + 1)).any fun b => decide (Fin.cm (tm n zs) (iv n zs e) x b = z)) hn (fun z => by
            rw [hsn, List.any_append]
            simp only [List.any_cons, List.any_nil, Bool.or_false, Bool.or_assoc]
            congr 2
            rw [Bool.eq_iff_iff, decide_eq_true_eq, decide_eq_true_eq]
            exact eq_comm)
          have HCM := hide (cmt_ok n _ _ zs e x y wr hGr hxn hyn)
          have HOF := hide (fun W b (h : W.cell? ⟨b, 0, none⟩ = some (.int .i64 (Fin.cm (tm n zs) (iv n zs e) x y))) => of_one n b (Fin.cm (tm n zs) (iv n zs e) x y) W hn hct h)
          obtain ⟨_, g0, g1, g2, g3, _⟩ := Four.mk' (blk_below hX1 hBn)
          generalize Fin.cm (tm n zs) (iv n zs e) x y = t at *
          generalize bs (fun z => decide (z = t)) n = T9 at *
          clear hsn hye
          go_wp2_with fail
          refine HCM.out.mono ?_
          rintro x9 w7 ⟨rfl, hb7⟩
          have hB8 := bcat2 hB' (bcat2 hb7 (balloc w7 (.cells #[.int .i64 t] 3)))
          clear g0 g1 g2 g3
          go_wp2_with fail
          refine (HOF.out _ _ (cell1 _ _ _)).mono ?_
          rintro x9 w8 ⟨rfl, rfl⟩
          go_wp2
          go_roundw
          case rel => exact ⟨j + 1, by omega, by go_num, rfl, hB8⟩
          case measure => simp [intOf]; omega
        · have hjn : j = ys.length := by omega
          subst hjn
          have HE := hide (show bs (fun y => cmq n zs e (xs.take k) ys y || (ys.take ys.length).any fun b => decide (Fin.cm (tm n zs) (iv n zs e) x b = y)) n = bs (cmq n zs e (xs.take (k + 1)) ys) n from bs_ext fun y _ => by
            rw [List.take_length, HSN.out]
            simp [cmq])
          rw [HE.out]
          go_wp2
          go_roundw
          case rel => exact ⟨k + 1, by omega, by go_num, rfl, hBn⟩
          case measure => simp [intOf]; omega
    · have hkn : k = xs.length := by omega
      subst hkn
      rw [List.take_length]
      obtain ⟨_, g0, g1, g2, g3, _⟩ := Four.mk' (blk_below hX1 hB)
      go_wp2_with fail
      refine (HMA.out _ (bcat2 hB1 hB)).mono ?_
      rintro x9 w8 ⟨rfl, hb8⟩
      go_wp2
      go_ret
      exact ⟨rfl, bcat2 (bcat2 hB1 hB) hb8⟩
end Go.Proofs.YtgdpgbldjpeopaaGreatDoor

namespace Go.Proofs.YtgdpgbldjpeopaaGreatDoor
open Go Go.RowKit

end Go.Proofs.YtgdpgbldjpeopaaGreatDoor

namespace Go.Proofs.YtgdpgbldjpeopaaGreatDoor
open Go Go.RowKit

end Go.Proofs.YtgdpgbldjpeopaaGreatDoor
