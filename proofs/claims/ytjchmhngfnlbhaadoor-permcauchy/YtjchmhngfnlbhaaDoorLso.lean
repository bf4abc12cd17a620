/- What the document's Lists answers at two lists of the same lists. -/
import Derived.Test.YtjchmhngfnlbhaaDoorCyo
import Derived.Test.YtjchmhngfnlbhaaDoorSgl
import Derived.Deep.RegionHeld3
namespace Go.Proofs.YtjchmhngfnlbhaaDoor
open Go Go.RowKit

/-- A slice of slices that reads as L. -/
def LSl (W : World) (v : Value) (L : List (List Nat)) : Prop := ∃ base vs, W.ownsRow base 22 1 v L.length vs ∧ CRows W vs L
theorem LSl.below {W W' : World} {v : Value} {L : List (List Nat)} (h : LSl W v L) (hb : Below W.heap.size W W') : LSl W' v L := by
  obtain ⟨base, vs, h1, h2⟩ := h
  exact ⟨base, vs, row_below h1 hb, h2.below hb⟩
theorem LSl.shape {W : World} {v : Value} {L : List (List Nat)} (h : LSl W v L) : ∃ a c, v = .slice a L.length c := by
  obtain ⟨base, vs, h1, h2⟩ := h
  rcases h1.2 with ⟨rfl, h0⟩ | ⟨g, c, cur, rfl, _⟩
  · exact ⟨none, 0, by rw [h0]⟩
  · exact ⟨_, _, rfl⟩
theorem LSl.at {W : World} {a : Option Addr} {cap : Nat} {L : List (List Nat)} (h : LSl W (.slice a L.length cap) L) (hpos : 0 < L.length) : ∃ g, a = some ⟨g, 0, none⟩ ∧ ∀ i, i < L.length → ∃ r, W.cell? ⟨g, i, none⟩ = some r ∧ Sl W r (nz (L[i]?.getD [])) ∧ ∃ a2 c2, r = .slice a2 (L[i]?.getD []).length c2 := by
  obtain ⟨base, vs, h1, h2⟩ := h
  obtain ⟨q, hq⟩ : ∃ q, L.length = q + 1 := ⟨L.length - 1, by omega⟩
  rw [hq] at h1
  obtain ⟨g, c, hg⟩ := ownsRow_succ h1
  cases hg
  have h0 : 0 < W.heap.size := by
    rcases h1.2 with ⟨h, _⟩ | ⟨g', c, cur, h, _, hh, _⟩
    · cases h
    · have := (Array.getElem?_eq_some_iff.1 hh).1; omega
  refine ⟨g, rfl, fun i hi => ?_⟩
  obtain ⟨g2, c2, k1, k2⟩ := h2.2 i hi
  have h4 := h1.cells (g := g) rfl i _ k1
  rw [show (⟨g, 0, none⟩ : Addr).add i = ⟨g, i, none⟩ by unfold Addr.add; split <;> simp_all] at h4
  exact ⟨_, h4, pts_sl k2 h0, _, _, rfl⟩

set_option maxRecDepth 100000 in
set_option maxHeartbeats 4000000 in
theorem lists_true (u v : Value) (L : List (List Nat)) (w : World) (hu : LSl w u L) (hv : LSl w v L) (hl : L.length ≤ 1000) :
    Calls Tryd.prog 16 #[u, v] w fun e w' => e = .returned (.bool true) ∧ Below w.heap.size w w' := by
  obtain ⟨a, ca, rfl⟩ := hu.shape
  obtain ⟨b, cb, rfl⟩ := hv.shape
  go_enter Tryd.func16, Tryd.ntmps16
  go_wp2
  go_loopw [5] (fun iv wr => ∃ i : Nat, i ≤ L.length ∧ iv = .int .i64 i ∧ Below w.heap.size w wr) (fun iv _ => L.length - (intOf iv).toNat)
  case atStart => exact ⟨0, Nat.zero_le _, rfl, Below.refl _ _⟩
  case round =>
    obtain ⟨i, hi, rfl, hB⟩ := hrel
    by_cases hlt : i < L.length
    · have hu1 := hu.below hB
      have hv1 := hv.below hB
      obtain ⟨g, rfl, hg⟩ := hu1.at (by omega)
      obtain ⟨g', rfl, hg'⟩ := hv1.at (by omega)
      obtain ⟨r, hr1, hr2, ra, rc, hre⟩ := hg i hlt
      obtain ⟨r', hr1', hr2', ra', rc', hre'⟩ := hg' i hlt
      subst hre hre'
      have HLT := hide hlt
      have hlti : (i : Int) < (L.length : Int) := by omega
      have hLi : (L.length : Int) ≤ 1000 := by omega
      generalize nz (L[i]?.getD []) = z at *
      generalize (L[i]?.getD []).length = n at *
      clear hg hg' hu1 hv1
      have hS : ∀ W, Below wr.heap.size wr W → (Below wr.heap.size wr W ∧ W.cell? ⟨g, i, none⟩ = some (.slice ra n rc) ∧ W.cell? ⟨g', i, none⟩ = some (.slice ra' n rc')) := fun W h => ⟨h, below_cell h hr1, below_cell h hr1'⟩
      have hS0 := hS _ (bdrew (Below.refl _ wr))
      go_wp2_with fail
      go_region_held3 (fun W => Below wr.heap.size wr W ∧ W.cell? ⟨g, i, none⟩ = some (.slice ra n rc) ∧ W.cell? ⟨g', i, none⟩ = some (.slice ra' n rc'))
        (first | exact hS0 | exact hS _ (bcat2 (And.left ‹_›) hl1))
        (first
          | (go_at_call 15; refine (ints_true _ _ z z _ (hr2.below (And.left ‹_›)) (hr2'.below (And.left ‹_›)) rfl).mono ?_; rintro e W1 ⟨rfl, hl1⟩))
      obtain ⟨hb2, _, _⟩ := ‹Below wr.heap.size wr _ ∧ _›
      have hB2 := bcat hB hb2 hB.size
      clear hS hS0
      go_wp2
      go_roundw
      case rel => exact ⟨i + 1, by have := HLT.out; omega, by go_num, hB2⟩
      case measure => have := HLT.out; simp [intOf]; omega
    · have hii : i = L.length := by omega
      subst hii
      go_wp2
      go_ret
      exact ⟨rfl, hB⟩
end Go.Proofs.YtjchmhngfnlbhaaDoor
