/- The law's prodBegun: the document's example holds. Condition: the library's table of places lies as its text lays it. The law ProdSemi: what lies in its boxes, and what is asked of what it calls. -/
import Derived.Test.YtanbpjfdfnmjpaaDoorZ7
import Derived.Test.YtanbpjfdfnmjpaaDoorZ6
import Derived.Test.YtanbpjfdfnmjpaaDoorZ5
namespace Go.Proofs.YtanbpjfdfnmjpaaDoor
open Go Go.RowKit

set_option maxRecDepth 100000 in
set_option maxHeartbeats 4000000 in
theorem commutes_ok (n : Nat) (v : Value) (zs : List Int) (w : World) (ht : IsTab n zs) (hv : Sl w v zs) :
    Calls Tryd.prog 31 #[.agg #[.int .i64 n, v]] w fun x w' => x = .returned (.bool (comB n zs)) ∧ Below w.heap.size w w' := by
  have hB0 : Below w.heap.size w (w.alloc (.cells #[.int .i64 n, v] 24)) := balloc w _
  have hg0 : BoxG (w.alloc (.cells #[.int .i64 n, v] 24)) w.heap.size n v := blk0 _ _
  have hv0 := hv.below hB0
  have hle := ht.le
  have HT := hide ht
  obtain ⟨g0, g1, _, _⟩ := hg0.two
  clear ht
  go_enter Tryd.func31, Tryd.ntmps31
  go_wp2
  generalize w.alloc (.cells #[.int .i64 n, v] 24) = w0 at *
  go_loopw [3] (fun i wr => ∃ k : Nat, k ≤ n ∧ i = .int .i64 k ∧ (∀ a b, a < k → b < n → tm n zs a b = tm n zs b a) ∧ Below w0.heap.size w0 wr) (fun i _ => n - (intOf i).toNat)
  case atStart => exact ⟨0, Nat.zero_le _, rfl, fun a b ha => by omega, Below.refl _ _⟩
  case round =>
    obtain ⟨a, hk, rfl, hno, hB⟩ := hrel
    have HN := hide hno
    have d0 := below_cell hB g0
    have d1 := below_cell hB g1
    clear hno
    by_cases hlt : a < n
    · go_wp2
      clear d0 d1
      go_loopw [4] (fun i wr => ∃ k : Nat, k ≤ n ∧ i = .int .i64 k ∧ (∀ b, b < k → tm n zs a b = tm n zs b a) ∧ Below w0.heap.size w0 wr) (fun i _ => n - (intOf i).toNat)
      case atStart => exact ⟨0, Nat.zero_le _, rfl, fun b hb => by omega, hB⟩
      case round =>
        obtain ⟨b, hk2, rfl, hno2, hB2⟩ := hrel
        have HN2 := hide hno2
        have d0 := below_cell hB2 g0
        have d1 := below_cell hB2 g1
        clear hno2
        by_cases hlt2 : b < n
        · have hS : ∀ W, Below w0.heap.size w0 W → (Below w0.heap.size w0 W ∧ W.cell? ⟨w.heap.size, 0, none⟩ = some (.int .i64 n) ∧ W.cell? ⟨w.heap.size, 1, none⟩ = some v) := fun W h => ⟨h, below_cell h g0, below_cell h g1⟩
          have hS0 := hS _ (bdrew hB2)
          go_wp2_with fail
          clear d0 d1
          go_region_held3 (fun W => Below w0.heap.size w0 W ∧ W.cell? ⟨w.heap.size, 0, none⟩ = some (.int .i64 n) ∧ W.cell? ⟨w.heap.size, 1, none⟩ = some v)
            (first | exact hS0 | assumption | exact hS _ (bcat2 (And.left ‹_›) hl1))
            (first | (go_at_call 15; refine (M_ok n v zs _ _ _ HT.out (hv0.below (And.left ‹_›)) (by assumption) (by assumption)).mono ?_; rintro e W1 ⟨rfl, hl1⟩))
          obtain ⟨hB3, _⟩ := ‹Below w0.heap.size w0 W1 ∧ _›
          clear hS hS0 hl1
          by_cases hxy : tm n zs a b = tm n zs b a
          · have hbe : ((tm n zs a b : Int) != (tm n zs b a : Int)) = false := by simp [hxy]
            have HXY := hide hxy
            clear hxy
            go_wp2
            go_roundw
            case rel => exact ⟨b + 1, by omega, by go_num, fun d hd => by
              by_cases e : d = b
              · rw [e]; exact HXY.out
              · exact HN2.out d (by omega), hB3⟩
            case measure => simp [intOf]; omega
          · have hbe : ((tm n zs a b : Int) != (tm n zs b a : Int)) = true := by simp; omega
            go_wp2
            go_ret
            refine ⟨retB ?_, bcat hB0 hB3 hB0.size⟩
            cases hq : comB n zs with
            | false => rfl
            | true => exact absurd (comB_iff.1 hq a b hlt hlt2) hxy
        · have hcn : b = n := by omega
          subst hcn
          go_wp2
          go_roundw
          case rel => exact ⟨a + 1, by omega, by go_num, fun d c hd hc => by
            by_cases e : d = a
            · rw [e]; exact HN2.out c hc
            · exact HN.out d c (by omega) hc, hB2⟩
          case measure => simp [intOf]; omega
    · have hbn : a = n := by omega
      subst hbn
      go_wp2
      go_ret
      exact ⟨retB (comB_iff.2 (fun d c hd hc => HN.out d c hd hc)).symm, bcat hB0 hB hB0.size⟩
theorem sl_blk {W : World} {b : Nat} {xs : List Int} (h : Blk W b 3 (xs.map (Value.int .i64))) (hm : xs.length ≤ maxLen) : Sl W (.slice (some ⟨b, 0, none⟩) xs.length xs.length) xs :=
  ⟨some ⟨b, 0, none⟩, xs.length, b, 0, rfl, ⟨fun _ => rfl, fun j hj => by
    rw [Nat.zero_add, h.cell j]
    simp [hj]⟩, h.lt, Nat.le_refl _, hm⟩
def exA : List (List Int) := [[0, 1, 2], [0, 2, 1]]
theorem ex_semc : semc 3 (rngT 3) 2 (rngT 2) exA = (0, 0) := by decide +kernel
theorem ex_grp : ∃ e, IsGrp 6 (semT 3 (rngT 3) 2 (rngT 2) (actf exA)) e := by
  obtain ⟨n, e, hn, hg, _⟩ := gfault_grp (N := 6) (zs := semT 3 (rngT 3) 2 (rngT 2) (actf exA)) (by decide +kernel)
  obtain rfl : n = 6 := by omega
  exact ⟨e, hg⟩
theorem ex_com : comB 6 (semT 3 (rngT 3) 2 (rngT 2) (actf exA)) = false := by decide +kernel
set_option maxRecDepth 100000 in
set_option maxHeartbeats 4000000 in
theorem prodBegun_any (w : World) (hT : Tab w) : Calls Tryd.prog 6 #[] w fun x w' => x = .returned (.bool true) ∧ Below w.heap.size w w' := by
  have HR3 := hide (ring_ok 3 w (by decide) (by decide))
  go_enter Tryd.func6, Tryd.ntmps6
  go_wp2_with fail
  refine HR3.out.mono ?_
  rintro x w1 ⟨ra, rfl, hra, hb1⟩
  have h0 := hT.lt
  have hsa := row_sl hra (Nat.lt_of_lt_of_le h0 hb1.size)
  obtain ⟨a1, a2, a3, rfl⟩ := hsa.isSlice
  have HR2 := hide (ring_ok 2 w1 (by decide) (by decide))
  go_wp2_with fail
  refine HR2.out.mono ?_
  rintro x w2 ⟨rb, rfl, hrb, hb2⟩
  have hB2 := bcat2 hb1 hb2
  have hsb := row_sl hrb (Nat.lt_of_lt_of_le h0 hB2.size)
  obtain ⟨b1, b2, b3, rfl⟩ := hsb.isSlice
  have hsa2 := hsa.below hb2
  clear hra hrb hsa HR2 HR3
  obtain ⟨w3, hw3⟩ : ∃ w3, w3 = ((w2.alloc (.cells #[.int .i64 0, .int .i64 1, .int .i64 2] 3)).alloc (.cells #[.int .i64 0, .int .i64 2, .int .i64 1] 3)).alloc (.cells #[.slice (some ⟨w2.heap.size, 0, none⟩) 3 3, .slice (some ⟨w2.heap.size + 1, 0, none⟩) 3 3] 22) := ⟨_, rfl⟩
  have hb3 : Below w2.heap.size w2 w3 := by rw [hw3]; exact ((balloc w2 _).alloc (by simp) _).alloc (by simp; omega) _
  have hP : Blk w3 w2.heap.size 3 (([0, 1, 2] : List Int).map (Value.int .i64)) := by
    rw [hw3]
    exact ((show Blk (w2.alloc (.cells #[.int .i64 0, .int .i64 1, .int .i64 2] 3)) w2.heap.size 3 [.int .i64 0, .int .i64 1, .int .i64 2] from World.alloc_heap_new w2 _).alloc _).alloc _
  have hQ : Blk w3 (w2.heap.size + 1) 3 (([0, 2, 1] : List Int).map (Value.int .i64)) := by
    rw [hw3]
    have h := (show Blk ((w2.alloc (.cells #[.int .i64 0, .int .i64 1, .int .i64 2] 3)).alloc (.cells #[.int .i64 0, .int .i64 2, .int .i64 1] 3)) (w2.alloc (.cells #[.int .i64 0, .int .i64 1, .int .i64 2] 3)).heap.size 3 [.int .i64 0, .int .i64 2, .int .i64 1] from World.alloc_heap_new _ _).alloc (.cells #[.slice (some ⟨w2.heap.size, 0, none⟩) 3 3, .slice (some ⟨w2.heap.size + 1, 0, none⟩) 3 3] 22)
    rw [World.size_alloc] at h
    exact h
  have hL : Blk w3 (w2.heap.size + 1 + 1) 22 [.slice (some ⟨w2.heap.size, 0, none⟩) 3 3, .slice (some ⟨w2.heap.size + 1, 0, none⟩) 3 3] := by
    rw [hw3]
    have h := World.alloc_heap_new ((w2.alloc (.cells #[.int .i64 0, .int .i64 1, .int .i64 2] 3)).alloc (.cells #[.int .i64 0, .int .i64 2, .int .i64 1] 3)) (.cells #[.slice (some ⟨w2.heap.size, 0, none⟩) 3 3, .slice (some ⟨w2.heap.size + 1, 0, none⟩) 3 3] 22)
    rw [World.size_alloc, World.size_alloc] at h
    exact h
  have hsL : SlL w3 (.slice (some ⟨w2.heap.size + 1 + 1, 0, none⟩) 2 2) exA := by
    refine ⟨some ⟨w2.heap.size + 1 + 1, 0, none⟩, 2, w2.heap.size + 1 + 1, 0, rfl, fun _ => rfl, fun j hj => ?_, hL.lt, Nat.le_refl _, by unfold maxLen; decide⟩
    rw [Nat.zero_add, hL.cell j]
    have hj : j < 2 := hj
    rcases (show j = 0 ∨ j = 1 by omega) with rfl | rfl
    · exact ⟨_, rfl, sl_blk hP (by unfold maxLen; decide)⟩
    · exact ⟨_, rfl, sl_blk hQ (by unfold maxLen; decide)⟩
  have hB3 := bcat2 hB2 hb3
  have HSE := hide (semi_any 3 2 (.slice a1 a2 a3) (.slice b1 b2 b3) (.slice (some ⟨w2.heap.size + 1 + 1, 0, none⟩) 2 2) (rngT 3) (rngT 2) exA w3 (hsa2.below hb3) (hsb.below hb3) hsL (hT.below hB3))
  rw [ex_semc] at HSE
  simp only at HSE
  go_wp2_with fail
  rw [← hw3]
  clear hw3
  refine HSE.out.mono ?_
  rintro x w4 ⟨g, rfl, _, hg, hb4⟩
  obtain ⟨r1, r2, r3, rfl, hr⟩ := hg (by simp)
  have hsr := row_sl hr (Nat.lt_of_lt_of_le (Nat.lt_of_lt_of_le h0 hB3.size) hb4.size)
  have hsr : Sl w4 (.slice r1 r2 r3) (semT 3 (rngT 3) 2 (rngT 2) (actf exA)) := hsr
  obtain ⟨w5, hw5⟩ : ∃ w5, w5 = (w4.alloc (.cells #[.int .i64 6, .slice r1 r2 r3] 24)).alloc (.cells #[.int .i64 0, .int .i64 0] 28) := ⟨_, rfl⟩
  have hb5 : Below w4.heap.size w4 w5 := by rw [hw5]; exact (balloc w4 _).alloc (by simp) _
  have hG5 : BoxG w5 w4.heap.size 6 (.slice r1 r2 r3) := by rw [hw5]; exact (blk0 _ _).alloc _
  have hF5 : Blk w5 (w4.heap.size + 1) 28 [.int .i64 0, .int .i64 0] := by
    rw [hw5]
    have := blk0 (w := w4.alloc (.cells #[.int .i64 6, .slice r1 r2 r3] 24)) (T := 28) (.int .i64 0) (.int .i64 0)
    rwa [World.size_alloc] at this
  have hB5 := bcat2 hB3 (bcat2 hb4 hb5)
  obtain ⟨e, hgr⟩ := ex_grp
  have HCO := hide (commutes_ok 6 (.slice r1 r2 r3) _ w5 hgr.tab (hsr.below hb5))
  rw [ex_com] at HCO
  obtain ⟨f0, f1, _, _⟩ := hF5.two
  obtain ⟨c0, c1, _, _⟩ := hG5.two
  rw [hw5] at f0 f1 c0 c1
  clear hsr hr hg HSE
  go_wp2_with fail
  rw [← hw5]
  clear f0 f1 c0 c1 hw5
  refine HCO.out.mono ?_
  rintro x w6 ⟨rfl, hb6⟩
  go_wp2
  go_ret
  exact ⟨rfl, bcat2 hB5 hb6⟩
end Go.Proofs.YtanbpjfdfnmjpaaDoor

namespace Go.Proofs.YtanbpjfdfnmjpaaDoor
open Go Go.RowKit

/-- The five boxes of the law. -/
structure PSt (w W : World) (wb gb fb : Nat) (N M : Int) (v y : Value) (GN : Int) (r : Value) (sc si c i : Int) : Prop where
  x : Blk W w.heap.size 24 [.int .i64 N, v]
  y : Blk W (w.heap.size + 1) 24 [.int .i64 M, y]
  g : Blk W gb 24 [.int .i64 GN, r]
  f : Blk W fb 28 [.int .i64 sc, .int .i64 si]
  b : Blk W wb 28 [.int .i64 c, .int .i64 i]
  bel : Below w.heap.size w W
  l1 : w.heap.size + 1 < wb
  l2 : gb < wb
  l3 : fb < wb
variable {w W W' : World} {wb gb fb : Nat} {N M : Int} {v y : Value} {GN : Int} {r : Value} {sc si c i : Int}
theorem PSt.below (h : PSt w W wb gb fb N M v y GN r sc si c i) (hb : Below W.heap.size W W') : PSt w W' wb gb fb N M v y GN r sc si c i :=
  ⟨blk_below h.x hb, blk_below h.y hb, blk_below h.g hb, blk_below h.f hb, blk_below h.b hb, bcat2 h.bel hb, h.l1, h.l2, h.l3⟩
theorem PSt.put (h : PSt w W wb gb fb N M v y GN r sc si c i) (d j : Int) : PSt w ((W.setCell ⟨wb, 0, none⟩ (.int .i64 d)).setCell ⟨wb, 1, none⟩ (.int .i64 j)) wb gb fb N M v y GN r sc si d j := by
  have l1 := h.l1
  have l2 := h.l2
  have l3 := h.l3
  obtain ⟨k1, k2⟩ := put2 h.b h.bel (by omega) d j
  exact ⟨(h.x.other (by show w.heap.size ≠ wb; omega) _).other (by show w.heap.size ≠ wb; omega) _, (h.y.other (by show w.heap.size + 1 ≠ wb; omega) _).other (by show w.heap.size + 1 ≠ wb; omega) _, (h.g.other (by show gb ≠ wb; omega) _).other (by show gb ≠ wb; omega) _, (h.f.other (by show fb ≠ wb; omega) _).other (by show fb ≠ wb; omega) _, k1, k2, l1, l2, l3⟩

/-- What is asked of what the law's two first loops call. -/
structure CPrem (w : World) (n m : Nat) (v y : Value) (lb lo : Nat) (ea : Nat → Option Addr) (el ec : Nat → Nat) (hc hi : Nat → Int) (ob : Nat → Bool) (st : Nat → Nat → Bool) (TM : Nat → Nat → Nat) (TP : World → Nat → Nat → Value → Prop) : Prop where
  cell : ∀ W, Below w.heap.size w W → ∀ i, i < m → W.cell? ⟨lb, lo + i, none⟩ = some (.slice (ea i) (el i) (ec i))
  hf : ∀ W i, Below w.heap.size w W → i < m → Calls Tryd.prog 12 #[.agg #[.int .i64 n, v], .agg #[.int .i64 n, v], .slice (ea i) (el i) (ec i)] W fun x W' => x = .returned (.agg #[.int .i64 (hc i), .int .i64 (hi i)]) ∧ Below W.heap.size W W'
  oo : ∀ W i, Below w.heap.size w W → i < m → hc i = 0 → Calls Tryd.prog 13 #[.slice (ea i) (el i) (ec i), .int .i64 n] W fun x W' => x = .returned (.bool (ob i)) ∧ Below W.heap.size W W'
  tm : ∀ W a b, Below w.heap.size w W → a < m → b < m → Calls Tryd.prog 15 #[.agg #[.int .i64 m, y], .int .i64 ((a : Nat) : Int), .int .i64 ((b : Nat) : Int)] W fun x W' => x = .returned (.int .i64 ((TM a b : Nat) : Int)) ∧ Below W.heap.size W W'
  tl : ∀ a b, a < m → b < m → TM a b < m
  th : (∀ i, i < m → hc i = 0 ∧ ob i = true) → ∀ W a b, Below w.heap.size w W → a < m → b < m → Calls Tryd.prog 16 #[.slice (ea b) (el b) (ec b), .slice (ea a) (el a) (ec a)] W fun x W' => ∃ r1 r2 r3, x = .returned (.slice r1 r2 r3) ∧ TP W' a b (.slice r1 r2 r3) ∧ Below W.heap.size W W'
  il : ∀ W a b u, Below w.heap.size w W → a < m → b < m → TP W a b u → Calls Tryd.prog 14 #[.slice (ea (TM a b)) (el (TM a b)) (ec (TM a b)), u] W fun x W' => x = .returned (.bool (!st a b)) ∧ Below W.heap.size W W'
end Go.Proofs.YtanbpjfdfnmjpaaDoor
