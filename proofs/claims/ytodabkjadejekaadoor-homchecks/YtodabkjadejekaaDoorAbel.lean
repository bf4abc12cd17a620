/- What Abelian of package table answers, and what the document's Commutes is. -/
import Derived.Test.YtodabkjadejekaaDoorAsks
namespace Go.Proofs.YtodabkjadejekaaDoor
open Go Go.RowKit

/-- Do all things commute? -/
def comB (n : Nat) (zs : List Int) : Bool := (List.range n).all fun a => (List.range n).all fun b => tm n zs a b == tm n zs b a
theorem comB_iff {n : Nat} {zs : List Int} : comB n zs = true ↔ ∀ a b, a < n → b < n → tm n zs a b = tm n zs b a := by
  unfold comB
  simp only [List.all_eq_true, List.mem_range, beq_iff_eq]
  exact ⟨fun h a b ha hb => h a ha b hb, fun h a ha b hb => h a b ha hb⟩
theorem div_mod_lt {n i : Nat} (hi : i < n * n) : i / n < n ∧ i % n < n := by
  have hn : 0 < n := by
    rcases Nat.eq_zero_or_pos n with h | h
    · subst h; simp at hi
    · exact h
  exact ⟨Nat.div_lt_of_lt_mul hi, Nat.mod_lt _ hn⟩
theorem com_least {n : Nat} {zs : List Int} (_hn : 0 < n) : decide (least (n * n) (fun i => tm n zs (i / n) (i % n) != tm n zs (i % n) (i / n)) = -1) = comB n zs := by
  rw [Bool.eq_iff_iff, decide_eq_true_eq, least_neg, comB_iff]
  constructor
  · intro h a b ha hb
    have h1 := h (a * n + b) (place_lt ha hb)
    have e1 : (a * n + b) / n = a := by rw [Nat.mul_comm, Nat.mul_add_div (by omega), Nat.div_eq_of_lt hb, Nat.add_zero]
    have e2 : (a * n + b) % n = b := by rw [Nat.mul_comm, Nat.mul_add_mod, Nat.mod_eq_of_lt hb]
    rw [e1, e2] at h1
    simpa using h1
  · intro h i hi
    obtain ⟨h1, h2⟩ := div_mod_lt hi
    simpa using h _ _ h1 h2

/-- What goes with a fault, where a Boolean is answered. -/
def okB (c : Int) (x : Bool) : Bool := decide (c = 0) && x

set_option maxRecDepth 100000 in
set_option maxHeartbeats 4000000 in
theorem commutes_ok (n : Nat) (v : Value) (zs : List Int) (w : World) (ht : IsTab n zs) (hv : Sl w v zs) :
    Calls Tryd.prog 51 #[.agg #[.int .i64 n, v]] w fun x w' => x = .returned (.bool (comB n zs)) ∧ Below w.heap.size w w' := by
  have hB0 : Below w.heap.size w (w.alloc (.cells #[.int .i64 n, v] 24)) := balloc w _
  have hg0 : BoxG (w.alloc (.cells #[.int .i64 n, v] 24)) w.heap.size n v := blk0 _ _
  have hv0 := hv.below hB0
  have hle := ht.le
  have HT := hide ht
  obtain ⟨g0, g1, _, _⟩ := hg0.two
  clear ht
  go_enter Tryd.func51, Tryd.ntmps51
  go_wp2
  generalize w.alloc (.cells #[.int .i64 n, v] 24) = w0 at *
  go_loopw [3] (fun i wr => ∃ k : Nat, k ≤ n ∧ i = .int .i64 k ∧ (∀ a b, a < k → b < n → tm n zs a b = tm n zs b a) ∧ Below w0.heap.size w0 wr) (fun i _ => n - (intOf i).toNat)
  case atStart => exact ⟨0, Nat.zero_le _, rfl, fun a b ha => by omega, Below.refl _ _⟩
  case round =>
    obtain ⟨a, hk, rfl, hno, hB⟩ := hrel
    have HN := hide hno
    have d0 := below_cell hB g0
    have d1 := below_cell hB g1
    clear hno
    by_cases hlt : a < n
    · go_wp2
      clear d0 d1
      go_loopw [4] (fun i wr => ∃ k : Nat, k ≤ n ∧ i = .int .i64 k ∧ (∀ b, b < k → tm n zs a b = tm n zs b a) ∧ Below w0.heap.size w0 wr) (fun i _ => n - (intOf i).toNat)
      case atStart => exact ⟨0, Nat.zero_le _, rfl, fun b hb => by omega, hB⟩
      case round =>
        obtain ⟨b, hk2, rfl, hno2, hB2⟩ := hrel
        have HN2 := hide hno2
        have d0 := below_cell hB2 g0
        have d1 := below_cell hB2 g1
        clear hno2
        by_cases hlt2 : b < n
        · have hS : ∀ W, Below w0.heap.size w0 W → (Below w0.heap.size w0 W ∧ W.cell? ⟨w.heap.size, 0, none⟩ = some (.int .i64 n) ∧ W.cell? ⟨w.heap.size, 1, none⟩ = some v) := fun W h => ⟨h, below_cell h g0, below_cell h g1⟩
          have hS0 := hS _ (bdrew hB2)
          go_wp2_with fail
          clear d0 d1
          go_region_held3 (fun W => Below w0.heap.size w0 W ∧ W.cell? ⟨w.heap.size, 0, none⟩ = some (.int .i64 n) ∧ W.cell? ⟨w.heap.size, 1, none⟩ = some v)
            (first | exact hS0 | assumption | exact hS _ (bcat2 (And.left ‹_›) hl1))
            (first | (go_at_call 45; refine (M_ok n v zs _ _ _ HT.out (hv0.below (And.left ‹_›)) (by assumption) (by assumption)).mono ?_; rintro e W1 ⟨rfl, hl1⟩))
          obtain ⟨hB3, _⟩ := ‹Below w0.heap.size w0 W1 ∧ _›
          clear hS hS0 hl1
          by_cases hxy : tm n zs a b = tm n zs b a
          · have hbe : ((tm n zs a b : Int) != (tm n zs b a : Int)) = false := by simp [hxy]
            have HXY := hide hxy
            clear hxy
            go_wp2
            go_roundw
            case rel => exact ⟨b + 1, by omega, by go_num, fun d hd => by
              by_cases e : d = b
              · rw [e]; exact HXY.out
              · exact HN2.out d (by omega), hB3⟩
            case measure => simp [intOf]; omega
          · have hbe : ((tm n zs a b : Int) != (tm n zs b a : Int)) = true := by simp; omega
            go_wp2
            go_ret
            refine ⟨retB ?_, bcat hB0 hB3 hB0.size⟩
            cases hq : comB n zs with
            | false => rfl
            | true => exact absurd (comB_iff.1 hq a b hlt hlt2) hxy
        · have hcn : b = n := by omega
          subst hcn
          go_wp2
          go_roundw
          case rel => exact ⟨a + 1, by omega, by go_num, fun d c hd hc => by
            by_cases e : d = a
            · rw [e]; exact HN2.out c hc
            · exact HN.out d c (by omega) hc, hB2⟩
          case measure => simp [intOf]; omega
    · have hbn : a = n := by omega
      subst hbn
      go_wp2
      go_ret
      exact ⟨retB (comB_iff.2 (fun d c hd hc => HN.out d c hd hc)).symm, bcat hB0 hB hB0.size⟩
end Go.Proofs.YtodabkjadejekaaDoor
