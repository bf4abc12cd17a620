/- What the law HomIso answers: true, at every two tables. HomIso holds at every two tables. The frame that all rows of this family share: how a table that came in reads. The frame that all rows of this family share: what the listed table gives a walk; how a list of ints that came in reads. -/
import Derived.Test.YtlhjeenijcokoaaGreatDoorZ10
import Derived.Test.YtlhjeenijcokoaaGreatDoorZ9
import Derived.Test.YtlhjeenijcokoaaGreatDoorRows
import Derived.Test.YtlhjeenijcokoaaGreatDoorZ1
import Derived.ProofKit
import Derived.OpenShut
import Derived.ChangeOld
import Derived.Below
import Derived.SizedLaws
import Derived.Test.YtlhjeenijcokoaaGreatDoorZ2
import Derived.LaidMore
import Derived.Stop.Joined
import Derived.Stop.LaidErr
import Derived.Lib.LaidTab
namespace Go.Proofs.YtlhjeenijcokoaaGreatDoor
open Go Go.RowKit

theorem mkA {X U : World} {x y : Value} (k : Below (X.alloc (.cells #[x, y] 26)).heap.size (X.alloc (.cells #[x, y] 26)) U) : Blk U X.heap.size 26 [x, y] := blk_below (blk0 x y) k
theorem undA {W U : World} (k : Below W.drew.heap.size W.drew U) : Below W.heap.size W U := ⟨k.os, k.tape, k.output, k.size, k.block⟩
/-- What lies there behind the first call. -/
def IRel (w0 : World) (C : Int → Int → List Int → Prop) (s5 s6 : Value) (wx : World) : Prop := ∃ (b : Nat) (a : Option Addr) (cp : Nat) (c i : Int) (L : List Int), s5 = .slice a L.length cp ∧ s6 = .pointer (some ⟨b, 0, none⟩) ∧ w0.heap.size ≤ b ∧ Blk wx b 26 [.int .i64 c, .int .i64 i] ∧ Sl wx (.slice a L.length cp) L ∧ C c i L ∧ Below w0.heap.size w0 wx
theorem irel_put {w0 U : World} {C : Int → Int → List Int → Prop} {c i : Int} {L : List Int} {x y : Value} {b : Nat} {a : Option Addr} {cp : Nat} (hb : w0.heap.size ≤ b) (hB : Below w0.heap.size w0 U) (hp : Blk U b 26 [x, y]) (hs : Sl ((U.setCell ⟨b, 0, none⟩ (.int .i64 c)).setCell ⟨b, 1, none⟩ (.int .i64 i)) (.slice a L.length cp) L) (hC : C c i L) : IRel w0 C (.slice a L.length cp) (.pointer (some ⟨b, 0, none⟩)) ((U.setCell ⟨b, 0, none⟩ (.int .i64 c)).setCell ⟨b, 1, none⟩ (.int .i64 i)) :=
  ⟨b, a, cp, c, i, L, rfl, rfl, hb, (hp.set 0 _).set 1 _, hs, hC, bSet (bSet hB hb) hb⟩
theorem irel_new {w0 U : World} {C : Int → Int → List Int → Prop} {c i : Int} {L : List Int} {a : Option Addr} {cp : Nat} (hB : Below w0.heap.size w0 U) (hs : Sl U (.slice a L.length cp) L) (hC : C c i L) : IRel w0 C (.slice a L.length cp) (.pointer (some ⟨U.heap.size, 0, none⟩)) (U.alloc (.cells #[.int .i64 c, .int .i64 i] 26)) :=
  ⟨U.heap.size, a, cp, c, i, L, rfl, rfl, hB.size, blk0 _ _, hs.below (balloc _ _), hC, bcat2 hB (balloc _ _)⟩
theorem iso_refl (n : Nat) (zs : List Int) : IsIso n zs n zs id := ⟨⟨fun _ ha => ha, fun _ _ _ _ => rfl⟩, fun _ _ _ _ h => h⟩
/-- What Iso may answer at two groups. -/
def IC (n : Nat) (zs : List Int) (m : Nat) (ys : List Int) (c i : Int) (L : List Int) : Prop :=
  (c = 0 ∧ i = 0 ∧ n = m ∧ ∃ φ, IsIso n zs m ys φ ∧ L = li ((List.range n).map φ)) ∨ (c = 6 ∧ i = 0 ∧ L = [] ∧ (n = m → ¬ ∃ φ, IsIso n zs m ys φ))
theorem li_map_get {n a : Nat} {φ : Nat → Nat} (ha : a < n) : (li ((List.range n).map φ))[a]?.getD 0 = (φ a : Int) := by
  unfold li
  simp [ha]
set_option maxRecDepth 100000 in
set_option maxHeartbeats 8000000 in
theorem hiso_law_bad (N M tc ti : Int) (C : Int → Int → List Int → Prop) (hCC : ∀ c i L, C c i L → c = tc ∧ i = ti ∧ L = []) (v1 : Option Addr) (v2 v3 : Nat) (y1 : Option Addr) (y2 y3 : Nat) (zs ys : List Int) (w : World) (hT : Tab w) (hc : tc ≠ 0)
    (HO1 : Hid (∀ W, Below w.heap.size w W → Calls Tryz.prog 8 #[.agg #[.int .i64 N, .slice v1 v2 v3]] W fun x W' => ∃ u1 u2 u3, x = .returned (.agg #[.int .i64 N, .slice u1 u2 u3]) ∧ Sl W' (.slice u1 u2 u3) zs ∧ Below W.heap.size W W'))
    (HO2 : Hid (∀ W, Below w.heap.size w W → Calls Tryz.prog 8 #[.agg #[.int .i64 M, .slice y1 y2 y3]] W fun x W' => ∃ u1 u2 u3, x = .returned (.agg #[.int .i64 M, .slice u1 u2 u3]) ∧ Sl W' (.slice u1 u2 u3) ys ∧ Below W.heap.size W W'))
    (HIS : Hid (∀ W u t, Below w.heap.size w W → Sl W u zs → Sl W t ys → Calls Tryz.prog 7 #[.agg #[.int .i64 N, u], .agg #[.int .i64 M, t]] W fun x W' => ∃ (a : Option Addr) (cp : Nat) (c i : Int) (L : List Int), x = .returned (.tuple #[.slice a L.length cp, .agg #[.int .i64 c, .int .i64 i]]) ∧ Sl W' (.slice a L.length cp) L ∧ (∀ b p q, b < W.heap.size → Sl ((W'.setCell ⟨b, 0, none⟩ p).setCell ⟨b, 1, none⟩ q) (.slice a L.length cp) L) ∧ C c i L ∧ Below W.heap.size W W'))
    (HTW : Hid (∀ W, Below w.heap.size w W → Calls Tryz.prog 9 #[.agg #[.int .i64 N, .slice v1 v2 v3], .agg #[.int .i64 M, .slice y1 y2 y3]] W fun x W' => x = .returned (.agg #[.int .i64 tc, .int .i64 ti]) ∧ Below W.heap.size W W')) :
    Calls Tryz.prog 3 #[.agg #[.int .i64 N, .slice v1 v2 v3], .agg #[.int .i64 M, .slice y1 y2 y3]] w fun e w' => e = .returned (.bool true) ∧ Below w.heap.size w w' := by
  have hcb : (tc != 0) = true := by simpa using hc
  obtain ⟨w0, hw0⟩ : ∃ w0, w0 = (w.alloc (.cells #[.int .i64 N, .slice v1 v2 v3] 24)).alloc (.cells #[.int .i64 M, .slice y1 y2 y3] 24) := ⟨_, rfl⟩
  have hB0 : Below w.heap.size w w0 := by rw [hw0]; exact (balloc w _).alloc (by simp) _
  have hX0 : BoxG w0 w.heap.size N (.slice v1 v2 v3) := by rw [hw0]; exact (blk0 (w := w) (T := 24) _ _).alloc _
  have hY0 : BoxG w0 (w.heap.size + 1) M (.slice y1 y2 y3) := by
    rw [hw0]
    have := blk0 (w := w.alloc (.cells #[.int .i64 N, .slice v1 v2 v3] 24)) (T := 24) (.int .i64 M) (.slice y1 y2 y3)
    rwa [World.size_alloc] at this
  have hs0 : w.heap.size + 1 < w0.heap.size := hY0.lt
  obtain ⟨c0, c1, _, _⟩ := hX0.two
  obtain ⟨d0, d1, _, _⟩ := hY0.two
  have hS : ∀ W9, Below w0.heap.size w0 W9 → (Below w0.heap.size w0 W9 ∧ W9.cell? ⟨w.heap.size, 0, none⟩ = some (.int .i64 N) ∧ W9.cell? ⟨w.heap.size, 1, none⟩ = some (.slice v1 v2 v3) ∧ W9.cell? ⟨w.heap.size + 1, 0, none⟩ = some (.int .i64 M) ∧ W9.cell? ⟨w.heap.size + 1, 1, none⟩ = some (.slice y1 y2 y3)) := fun W9 h => ⟨h, below_cell h c0, below_cell h c1, below_cell h d0, below_cell h d1⟩
  have hS0 := hS _ (bdrew (Below.refl _ w0))
  clear c0 c1 d0 d1
  go_enter Tryz.func3, Tryz.ntmps3
  go_wp2_with fail
  rw [← hw0]
  clear hw0
  go_cut [5, 6] (fun s5 s6 wx => IRel w0 C s5 s6 wx)
  case first =>
    clear HTW
    go_region_held3 (fun W9 => Below w0.heap.size w0 W9 ∧ W9.cell? ⟨w.heap.size, 0, none⟩ = some (.int .i64 N) ∧ W9.cell? ⟨w.heap.size, 1, none⟩ = some (.slice v1 v2 v3) ∧ W9.cell? ⟨w.heap.size + 1, 0, none⟩ = some (.int .i64 M) ∧ W9.cell? ⟨w.heap.size + 1, 1, none⟩ = some (.slice y1 y2 y3))
      (first | exact hS0 | assumption | exact hS _ (bcat2 (And.left ‹_›) hl7) | exact hS _ (bcat2 (And.left ‹_›) hl6) | exact hS _ (bcat2 (And.left ‹_›) hl5) | exact hS _ (bcat2 (And.left ‹_›) (balloc _ _)) | exact hS _ (bcat2 hU7 (balloc _ _)) | exact hS _ (bSet (bSet hU7 hU6.size) hU6.size) | exact hS _ (bSet (bSet hU7 hU5.size) hU5.size) | exact hS _ (bSet (bSet hU7 (Nat.le_refl _)) (Nat.le_refl _)))
      (first
        | (go_at_call_of 8 (Value.slice v1 v2 v3); refine (HO1.out _ (bcat2 hB0 (And.left ‹_›))).mono ?_; rintro e5 U5 ⟨a1, a2, a3, rfl, ha5, hl5⟩; have hU5 := bcat2 (And.left ‹_›) hl5; (first | (with_reducible have pA := mkA hl5) | (with_reducible have pA := mkA (undA hl5)) | skip))
        | (go_at_call_of 8 (Value.slice y1 y2 y3); refine (HO2.out _ (bcat2 hB0 (And.left ‹_›))).mono ?_; rintro e6 U6 ⟨b1, b2, b3, rfl, hb6, hl6⟩; have hU6 := bcat2 (And.left ‹_›) hl6; (first | (with_reducible have pB := mkA hl6; have ltB := pB.lt) | skip); (first | (with_reducible have pA := blk_below pA hl6; have ltA := pA.lt) | skip))
        | (go_at_call 7; refine (HIS.out _ _ _ (bcat2 hB0 (And.left ‹_›)) (by first | exact ha5.below hl6 | exact (ha5.below (balloc _ _)).below hl6 | exact (ha5.below hl6).below (balloc _ _)) (by first | exact hb6 | exact hb6.below (balloc _ _))).mono ?_; rintro e7 U7 ⟨q1, q3, qc, qi, QL, rfl, hs7, hst7, hC7, hl7⟩; (first | (with_reducible have pC := mkA hl7) | skip); (first | (with_reducible have pB := blk_below pB hl7) | skip); (first | (with_reducible have pA := blk_below pA hl7) | skip); (try (obtain ⟨_, _, _, _⟩ := pA.two)); (try (obtain ⟨_, _, _, _⟩ := pB.two)); (try (obtain ⟨_, _, _, _⟩ := pC.two)); have hU7 := bcat2 (And.left ‹_›) hl7))
    all_goals (go_wp2; go_meet)
    all_goals (first
      | exact irel_new hU7 hs7 hC7
      | exact irel_put hU6.size hU7 pC (hst7 _ _ _ (by simp)) hC7
      | exact irel_put hU5.size hU7 pB (hst7 _ _ _ ltB) hC7
      | exact irel_put (Nat.le_refl _) hU7 pA (hst7 _ _ _ ltA) hC7)
  case rest =>
    obtain ⟨fb, ra, rc, c, i, L, rfl, rfl, hfb, hF, hsl, hC, hbx⟩ := hcut
    have hB := bcat2 hB0 hbx
    have hX := blk_below hX0 hbx
    have hY := blk_below hY0 hbx
    clear HO1 HO2 HIS hS hS0 hX0 hY0
    obtain ⟨c0, c1, _, _⟩ := hX.two
    obtain ⟨d0, d1, _, _⟩ := hY.two
    go_wp2_with fail
    clear c0 c1 d0 d1
    refine (HTW.out _ hB).mono ?_
    rintro x w4 ⟨rfl, hb4⟩
    obtain ⟨w5, hw5⟩ : ∃ w5, w5 = w4.alloc (.cells #[.int .i64 tc, .int .i64 ti] 26) := ⟨_, rfl⟩
    have hb5 : Below w4.heap.size w4 w5 := by rw [hw5]; exact balloc w4 _
    have hW5 : Blk w5 w4.heap.size 26 [.int .i64 tc, .int .i64 ti] := by rw [hw5]; exact blk0 (w := w4) (T := 26) _ _
    have hB5 := bcat2 hB (bcat2 hb4 hb5)
    have hX5 := blk_below hX (bcat2 hb4 hb5)
    have hY5 := blk_below hY (bcat2 hb4 hb5)
    have hF5 := blk_below hF (bcat2 hb4 hb5)
    have hsl5 := hsl.below (bcat2 hb4 hb5)
    go_wp2_with fail
    rw [← hw5]
    clear hw5
    refine (homBegun_any _ (hT.below hB5)).mono ?_
    rintro x w8 ⟨rfl, hb8⟩
    have hX8 := blk_below hX5 hb8
    have hY8 := blk_below hY5 hb8
    have hF8 := blk_below hF5 hb8
    have hW8 := blk_below hW5 hb8
    have hsl8 := hsl5.below hb8
    have hB8 := bcat2 hB5 hb8
    clear hX hY hF hsl hX5 hY5 hF5 hW5 hsl5 hB5 hb8 hb5 hb4 hbx hB
    obtain ⟨u0, u1, _, _⟩ := hW8.two
    obtain ⟨g0, g1, _, _⟩ := hF8.two
    obtain ⟨rfl, rfl, rfl⟩ := hCC _ _ _ hC
    go_wp2
    go_ret
    exact ⟨rfl, hB8⟩
set_option maxRecDepth 100000 in
set_option maxHeartbeats 8000000 in
theorem hiso_law_good (n e m d : Nat) (v1 : Option Addr) (v2 v3 : Nat) (y1 : Option Addr) (y2 y3 : Nat) (zs ys : List Int) (w : World) (hT : Tab w) (hg : IsGrp n zs e) (hh : IsGrp m ys d) (hv : Sl w (.slice v1 v2 v3) zs) (hy : Sl w (.slice y1 y2 y3) ys)
    (HO1 : Hid (∀ W, Below w.heap.size w W → Calls Tryz.prog 8 #[.agg #[.int .i64 n, .slice v1 v2 v3]] W fun x W' => ∃ u1 u2 u3, x = .returned (.agg #[.int .i64 n, .slice u1 u2 u3]) ∧ Sl W' (.slice u1 u2 u3) zs ∧ Below W.heap.size W W'))
    (HO2 : Hid (∀ W, Below w.heap.size w W → Calls Tryz.prog 8 #[.agg #[.int .i64 m, .slice y1 y2 y3]] W fun x W' => ∃ u1 u2 u3, x = .returned (.agg #[.int .i64 m, .slice u1 u2 u3]) ∧ Sl W' (.slice u1 u2 u3) ys ∧ Below W.heap.size W W'))
    (HIS : Hid (∀ W u t, Below w.heap.size w W → Sl W u zs → Sl W t ys → Calls Tryz.prog 7 #[.agg #[.int .i64 n, u], .agg #[.int .i64 m, t]] W fun x W' => ∃ (a : Option Addr) (cp : Nat) (c i : Int) (L : List Int), x = .returned (.tuple #[.slice a L.length cp, .agg #[.int .i64 c, .int .i64 i]]) ∧ Sl W' (.slice a L.length cp) L ∧ (∀ b p q, b < W.heap.size → Sl ((W'.setCell ⟨b, 0, none⟩ p).setCell ⟨b, 1, none⟩ q) (.slice a L.length cp) L) ∧ IC n zs m ys c i L ∧ Below W.heap.size W W'))
    (HTW : Hid (∀ W, Below w.heap.size w W → Calls Tryz.prog 9 #[.agg #[.int .i64 n, .slice v1 v2 v3], .agg #[.int .i64 m, .slice y1 y2 y3]] W fun x W' => x = .returned (.agg #[.int .i64 0, .int .i64 0]) ∧ Below W.heap.size W W'))
    (HHM : Hid (¬ 24 < n → n = m → (¬ ∃ φ, IsIso n zs m ys φ) → ∀ W, Below w.heap.size w W → Calls Tryz.prog 17 #[.agg #[.int .i64 n, .slice v1 v2 v3], .agg #[.int .i64 m, .slice y1 y2 y3], .int .i64 3000] W fun x W' => ∃ (r1 : Option Addr) (r3 : Nat) (ms : List (List Int)) (ok : Bool), x = .returned (.tuple #[.slice r1 ms.length r3, .bool ok]) ∧ SlL W' (.slice r1 ms.length r3) ms ∧ ms.length ≤ 3000 ∧ (∀ l, l ∈ ms → l.length = n ∧ o1 n l = false) ∧ Below W.heap.size W W')) :
    Calls Tryz.prog 3 #[.agg #[.int .i64 n, .slice v1 v2 v3], .agg #[.int .i64 m, .slice y1 y2 y3]] w fun e w' => e = .returned (.bool true) ∧ Below w.heap.size w w' := by
  have hn60 := hg.tab.le
  obtain ⟨w0, hw0⟩ : ∃ w0, w0 = (w.alloc (.cells #[.int .i64 n, .slice v1 v2 v3] 24)).alloc (.cells #[.int .i64 m, .slice y1 y2 y3] 24) := ⟨_, rfl⟩
  have hB0 : Below w.heap.size w w0 := by rw [hw0]; exact (balloc w _).alloc (by simp) _
  have hX0 : BoxG w0 w.heap.size n (.slice v1 v2 v3) := by rw [hw0]; exact (blk0 (w := w) (T := 24) _ _).alloc _
  have hY0 : BoxG w0 (w.heap.size + 1) m (.slice y1 y2 y3) := by
    rw [hw0]
    have := blk0 (w := w.alloc (.cells #[.int .i64 n, .slice v1 v2 v3] 24)) (T := 24) (.int .i64 m) (.slice y1 y2 y3)
    rwa [World.size_alloc] at this
  have hs0 : w.heap.size + 1 < w0.heap.size := hY0.lt
  obtain ⟨c0, c1, _, _⟩ := hX0.two
  obtain ⟨d0, d1, _, _⟩ := hY0.two
  have hS : ∀ W9, Below w0.heap.size w0 W9 → (Below w0.heap.size w0 W9 ∧ W9.cell? ⟨w.heap.size, 0, none⟩ = some (.int .i64 n) ∧ W9.cell? ⟨w.heap.size, 1, none⟩ = some (.slice v1 v2 v3) ∧ W9.cell? ⟨w.heap.size + 1, 0, none⟩ = some (.int .i64 m) ∧ W9.cell? ⟨w.heap.size + 1, 1, none⟩ = some (.slice y1 y2 y3)) := fun W9 h => ⟨h, below_cell h c0, below_cell h c1, below_cell h d0, below_cell h d1⟩
  have hS0 := hS _ (bdrew (Below.refl _ w0))
  clear c0 c1 d0 d1
  go_enter Tryz.func3, Tryz.ntmps3
  go_wp2_with fail
  rw [← hw0]
  clear hw0
  go_cut [5, 6] (fun s5 s6 wx => IRel w0 (IC n zs m ys) s5 s6 wx)
  case first =>
    clear HTW
    go_region_held3 (fun W9 => Below w0.heap.size w0 W9 ∧ W9.cell? ⟨w.heap.size, 0, none⟩ = some (.int .i64 n) ∧ W9.cell? ⟨w.heap.size, 1, none⟩ = some (.slice v1 v2 v3) ∧ W9.cell? ⟨w.heap.size + 1, 0, none⟩ = some (.int .i64 m) ∧ W9.cell? ⟨w.heap.size + 1, 1, none⟩ = some (.slice y1 y2 y3))
      (first | exact hS0 | assumption | exact hS _ (bcat2 (And.left ‹_›) hl7) | exact hS _ (bcat2 (And.left ‹_›) hl6) | exact hS _ (bcat2 (And.left ‹_›) hl5) | exact hS _ (bcat2 (And.left ‹_›) (balloc _ _)) | exact hS _ (bcat2 hU7 (balloc _ _)) | exact hS _ (bSet (bSet hU7 hU6.size) hU6.size) | exact hS _ (bSet (bSet hU7 hU5.size) hU5.size) | exact hS _ (bSet (bSet hU7 (Nat.le_refl _)) (Nat.le_refl _)))
      (first
        | (go_at_call_of 8 (Value.slice v1 v2 v3); refine (HO1.out _ (bcat2 hB0 (And.left ‹_›))).mono ?_; rintro e5 U5 ⟨a1, a2, a3, rfl, ha5, hl5⟩; have hU5 := bcat2 (And.left ‹_›) hl5; (first | (with_reducible have pA := mkA hl5) | (with_reducible have pA := mkA (undA hl5)) | skip))
        | (go_at_call_of 8 (Value.slice y1 y2 y3); refine (HO2.out _ (bcat2 hB0 (And.left ‹_›))).mono ?_; rintro e6 U6 ⟨b1, b2, b3, rfl, hb6, hl6⟩; have hU6 := bcat2 (And.left ‹_›) hl6; (first | (with_reducible have pB := mkA hl6; have ltB := pB.lt) | skip); (first | (with_reducible have pA := blk_below pA hl6; have ltA := pA.lt) | skip))
        | (go_at_call 7; refine (HIS.out _ _ _ (bcat2 hB0 (And.left ‹_›)) (by first | exact ha5.below hl6 | exact (ha5.below (balloc _ _)).below hl6 | exact (ha5.below hl6).below (balloc _ _)) (by first | exact hb6 | exact hb6.below (balloc _ _))).mono ?_; rintro e7 U7 ⟨q1, q3, qc, qi, QL, rfl, hs7, hst7, hC7, hl7⟩; (first | (with_reducible have pC := mkA hl7) | skip); (first | (with_reducible have pB := blk_below pB hl7) | skip); (first | (with_reducible have pA := blk_below pA hl7) | skip); (try (obtain ⟨_, _, _, _⟩ := pA.two)); (try (obtain ⟨_, _, _, _⟩ := pB.two)); (try (obtain ⟨_, _, _, _⟩ := pC.two)); have hU7 := bcat2 (And.left ‹_›) hl7))
    all_goals (go_wp2; go_meet)
    all_goals (first
      | exact irel_new hU7 hs7 hC7
      | exact irel_put hU6.size hU7 pC (hst7 _ _ _ (by simp)) hC7
      | exact irel_put hU5.size hU7 pB (hst7 _ _ _ ltB) hC7
      | exact irel_put (Nat.le_refl _) hU7 pA (hst7 _ _ _ ltA) hC7)
  case rest =>
    obtain ⟨fb, ra, rc, c, i, L, rfl, rfl, hfb, hF, hsl, hC, hbx⟩ := hcut
    have hB := bcat2 hB0 hbx
    have hX := blk_below hX0 hbx
    have hY := blk_below hY0 hbx
    clear HO1 HO2 HIS hS hS0 hX0 hY0
    obtain ⟨c0, c1, _, _⟩ := hX.two
    obtain ⟨d0, d1, _, _⟩ := hY.two
    go_wp2_with fail
    clear c0 c1 d0 d1
    refine (HTW.out _ hB).mono ?_
    rintro x w4 ⟨rfl, hb4⟩
    obtain ⟨w5, hw5⟩ : ∃ w5, w5 = w4.alloc (.cells #[.int .i64 0, .int .i64 0] 26) := ⟨_, rfl⟩
    have hb5 : Below w4.heap.size w4 w5 := by rw [hw5]; exact balloc w4 _
    have hW5 : Blk w5 w4.heap.size 26 [.int .i64 0, .int .i64 0] := by rw [hw5]; exact blk0 (w := w4) (T := 26) _ _
    have hB5 := bcat2 hB (bcat2 hb4 hb5)
    have hX5 := blk_below hX (bcat2 hb4 hb5)
    have hY5 := blk_below hY (bcat2 hb4 hb5)
    have hF5 := blk_below hF (bcat2 hb4 hb5)
    have hsl5 := hsl.below (bcat2 hb4 hb5)
    go_wp2_with fail
    rw [← hw5]
    clear hw5
    refine (homBegun_any _ (hT.below hB5)).mono ?_
    rintro x w8 ⟨rfl, hb8⟩
    have hX8 := blk_below hX5 hb8
    have hY8 := blk_below hY5 hb8
    have hF8 := blk_below hF5 hb8
    have hW8 := blk_below hW5 hb8
    have hsl8 := hsl5.below hb8
    have hB8 := bcat2 hB5 hb8
    clear hX hY hF hsl hX5 hY5 hF5 hW5 hsl5 hB5 hb8 hb5 hb4 hbx hB
    obtain ⟨u0, u1, _, _⟩ := hW8.two
    obtain ⟨g0, g1, _, _⟩ := hF8.two
    obtain ⟨p0, p1, _, _⟩ := hX8.two
    obtain ⟨q0, q1, _, _⟩ := hY8.two
    rcases hC with ⟨rfl, rfl, hnm, φ, A, hL⟩ | ⟨rfl, rfl, hL, hno⟩
    · subst hnm
      have hLn : L.length = n := by rw [hL, li_len]; simp
      have HHF := hide (fun W (h : Below w8.heap.size w8 W) => rhom_any n n (.slice v1 v2 v3) (.slice y1 y2 y3) (.slice ra L.length rc) zs ys L W (hv.below (bcat2 hB8 h)) (hy.below (bcat2 hB8 h)) (hsl8.below h))
      rw [of_hom hg hh A.hom hLn (fun a ha => by rw [hL]; exact li_map_get ha)] at HHF
      have HON := hide (fun W (h : Below w8.heap.size w8 W) => one_ok n (.slice ra L.length rc) L W (hsl8.below h) hLn (by omega))
      rw [show o1 n L = true by rw [hL]; exact A.o1 rfl] at HON
      clear hsl8 A hL hLn HHM
      generalize L.length = LL at *
      go_wp2_with fail
      refine (HHF.out _ (Below.refl _ _)).mono ?_
      rintro x w9 ⟨rfl, hb9⟩
      have r0 := below_cell hb9 q0
      have hfld : ∀ W, Sem.run Tryz.prog (Instr.field 26 (.agg #[.int .i64 0, .int .i64 0]) 0) W = .ok (.int .i64 0) W := fun W => by kernel_rfl
      clear p0 p1 q0 q1 u0 u1 g0 g1
      go_wp2_with fail
      refine (HON.out _ hb9).mono ?_
      rintro x w10 ⟨rfl, hb10⟩
      go_wp2
      go_ret
      exact ⟨rfl, bcat2 hB8 (bcat2 hb9 hb10)⟩
    · subst hL
      have HFF := hide (fun W => f_any 6 0 W)
      have hS9 : ∀ W9, Below w8.heap.size w8 W9 → ((fun W9 => Below w8.heap.size w8 W9 ∧ W9.cell? ⟨fb, 0, none⟩ = some (.int .i64 6) ∧ W9.cell? ⟨fb, 1, none⟩ = some (.int .i64 0)) W9) := fun W9 h => ⟨h, below_cell h g0, below_cell h g1⟩
      have hS0 := hS9 _ (bdrew (Below.refl _ w8))
      go_wp2_with fail
      refine wp_region_held_drew (S := (fun W9 => Below w8.heap.size w8 W9 ∧ W9.cell? ⟨fb, 0, none⟩ = some (.int .i64 6) ∧ W9.cell? ⟨fb, 1, none⟩ = some (.int .i64 0))) (by kernel_rfl) hS0 (fun hHeld => ?_)
      refine wpAnyH_take (i := 0) (oi := ({ dst := some 57, op := Go.Op.load 26 (Go.Operand.tmp 6), type := 26, pos := _, after := #[], guard := none } : Oper)) (v := ?_) rfl (by kernel_rfl) (by kernel_rfl) (by kernel_rfl) (fun _ _ _ h => h) (Or.inl ⟨by rfl, ?_⟩) (by assumption) ?_
      rotate_left
      · (intro w hSw; (try dsimp only at hSw); go_simp; try with_reducible rfl)
      simp only [Act.put, List.setIfInBounds_toArray, List.set_cons_zero, List.set_cons_succ]
      refine wpAnyH_ready (rs := [1]) (by kernel_rfl) (by simp) (AllReadyH.cons (o := ({ dst := some 58, op := Go.Op.call { callee := Go.Callee.value (Go.Operand.func 13), args := #[Go.Operand.const (Go.Value.int Go.IntKind.i64 6), Go.Operand.const (Go.Value.int Go.IntKind.i64 0)], argTypes := #[3, 3] }, type := 26, pos := _, after := #[], guard := none } : Oper)) rfl (fun KK hK => ?_) AllReadyH.nil)
      go_simp
      refine (HFF.out _).mono ?_
      rintro e1 w9 ⟨rfl, hq1⟩
      try go_wp2_with fail
      have hb9 := bcat2 (And.left hHeld) hq1
      refine hK.out _ _ (hS9 _ hb9) (fun hHeld => ?_)
      clear hK
      try simp only [Act.put, List.setIfInBounds_toArray, List.set_cons_zero, List.set_cons_succ]
      refine wpAnyH_take (i := 2) (oi := ({ dst := some 59, op := Go.Op.binOp Go.BinOp.neq 26 (Go.Operand.tmp 57) (Go.Operand.tmp 58) 26, type := 4, pos := _, after := #[{ on := 0, ground := Go.Ground.data }, { on := 1, ground := Go.Ground.data }], guard := none } : Oper)) (v := ?_) rfl (by kernel_rfl) (by kernel_rfl) (by kernel_rfl) (fun _ _ _ h => h) (Or.inl ⟨by rfl, ?_⟩) (by assumption) ?_
      rotate_left
      · (intro w hSw; (try dsimp only at hSw); go_simp; try with_reducible rfl)
      simp only [Act.put, List.setIfInBounds_toArray, List.set_cons_zero, List.set_cons_succ]
      refine wpAnyH_take (i := 3) (oi := ({ dst := some 60, op := Go.Op.move (Go.Operand.tmp 59), type := 4, pos := _, after := #[{ on := 2, ground := Go.Ground.data }, { on := 1, ground := Go.Ground.chain }], guard := none } : Oper)) (v := ?_) rfl (by kernel_rfl) (by kernel_rfl) (by kernel_rfl) (fun _ _ _ h => h) (Or.inl ⟨by rfl, ?_⟩) (by assumption) ?_
      rotate_left
      · (intro w hSw; (try dsimp only at hSw); go_simp; try with_reducible rfl)
      simp only [Act.put, List.setIfInBounds_toArray, List.set_cons_zero, List.set_cons_succ]
      refine wpAnyH_take (i := 4) (oi := ({ dst := some 61, op := Go.Op.move (Go.Operand.tmp 5), type := 22, pos := _, after := #[{ on := 3, ground := Go.Ground.guard }], guard := some (3, false) } : Oper)) (v := ?_) rfl (by kernel_rfl) (by kernel_rfl) (by kernel_rfl) (fun _ _ _ h => h) (Or.inl ⟨by rfl, ?_⟩) (by assumption) ?_
      rotate_left
      · (intro w hSw; (try dsimp only at hSw); go_simp; try with_reducible rfl)
      simp only [Act.put, List.setIfInBounds_toArray, List.set_cons_zero, List.set_cons_succ]
      refine wpAnyH_take (i := 5) (oi := ({ dst := some 62, op := Go.Op.call { callee := Go.Callee.builtin Go.Builtin.len, args := #[Go.Operand.tmp 61], argTypes := #[22] }, type := 3, pos := _, after := #[{ on := 4, ground := Go.Ground.data }, { on := 3, ground := Go.Ground.guard }], guard := some (3, false) } : Oper)) (v := ?_) rfl (by kernel_rfl) (by kernel_rfl) (by kernel_rfl) (fun _ _ _ h => h) (Or.inl ⟨by rfl, ?_⟩) (by assumption) ?_
      rotate_left
      · (intro w hSw; (try dsimp only at hSw); go_simp; try with_reducible rfl)
      simp only [Act.put, List.setIfInBounds_toArray, List.set_cons_zero, List.set_cons_succ]
      refine wpAnyH_take (i := 6) (oi := ({ dst := some 63, op := Go.Op.binOp Go.BinOp.gtr 3 (Go.Operand.tmp 62) (Go.Operand.const (Go.Value.int Go.IntKind.i64 0)) 3, type := 4, pos := _, after := #[{ on := 5, ground := Go.Ground.data }, { on := 3, ground := Go.Ground.guard }], guard := some (3, false) } : Oper)) (v := ?_) rfl (by kernel_rfl) (by kernel_rfl) (by kernel_rfl) (fun _ _ _ h => h) (Or.inl ⟨by rfl, ?_⟩) (by assumption) ?_
      rotate_left
      · (intro w hSw; (try dsimp only at hSw); go_simp; try with_reducible rfl)
      simp only [Act.put, List.setIfInBounds_toArray, List.set_cons_zero, List.set_cons_succ]
      refine wpAnyH_take (i := 7) (oi := ({ dst := some 64, op := Go.Op.pick (Go.Operand.tmp 60) (Go.Operand.const (Go.Value.bool true)) (Go.Operand.tmp 63), type := 4, pos := _, after := #[{ on := 3, ground := Go.Ground.data }, { on := 6, ground := Go.Ground.data }], guard := none } : Oper)) (v := ?_) rfl (by kernel_rfl) (by kernel_rfl) (by kernel_rfl) (fun _ _ _ h => h) (Or.inl ⟨by rfl, ?_⟩) (by assumption) ?_
      rotate_left
      · (intro w hSw; (try dsimp only at hSw); go_simp; try with_reducible rfl)
      simp only [Act.put, List.setIfInBounds_toArray, List.set_cons_zero, List.set_cons_succ]
      refine wpAnyH_done (by kernel_rfl) ?_ _
      clear hS9 hS0 hHeld p0 p1 q0 q1 u0 u1 g0 g1 hF8 hW8
      have hX9 := blk_below hX8 hb9
      have hY9 := blk_below hY8 hb9
      have hB9 := bcat2 hB8 hb9
      clear hX8 hY8 hB8 hsl8 hb9
      obtain ⟨p0, p1, _, _⟩ := hX9.two
      obtain ⟨q0, q1, _, _⟩ := hY9.two
      have hS9 : ∀ W9, Below w9.heap.size w9 W9 → ((fun W9 => Below w9.heap.size w9 W9 ∧ W9.cell? ⟨w.heap.size, 0, none⟩ = some (.int .i64 n) ∧ W9.cell? ⟨w.heap.size, 1, none⟩ = some (.slice v1 v2 v3) ∧ W9.cell? ⟨w.heap.size + 1, 0, none⟩ = some (.int .i64 m) ∧ W9.cell? ⟨w.heap.size + 1, 1, none⟩ = some (.slice y1 y2 y3)) W9) := fun W9 h => ⟨h, below_cell h p0, below_cell h p1, below_cell h q0, below_cell h q1⟩
      have hS0 := hS9 _ (bdrew (Below.refl _ w9))
      by_cases hnm : n = m
      · subst hnm
        have hno := hno rfl
        have HP1 := hide (fun W (h : Below w9.heap.size w9 W) => prof_ok n e (.slice v1 v2 v3) zs W (hv.below (bcat2 hB9 h)) hg)
        have HP2 := hide (fun W (h : Below w9.heap.size w9 W) => prof_ok n d (.slice y1 y2 y3) ys W (hy.below (bcat2 hB9 h)) hh)
        have HIN := hide (fun a1 n1 b1 n2 xs zs' W (h1 : Sl W (.slice a1 n1 n1) xs) (h2 : Sl W (.slice b1 n2 n2) zs') => show Calls Tryz.prog 14 #[.slice a1 n1 n1, .slice b1 n2 n2] W fun x W' => ∃ b, x = .returned (.bool b) ∧ Below W.heap.size W W' from (ints_any _ _ xs zs' W h1 h2).mono (fun x W' h => ⟨_, h.1, h.2⟩))
        have HSM := hide (fun W (h : Below w.heap.size w W) => sameGroup_any n n (.slice v1 v2 v3) (.slice y1 y2 y3) zs ys W (hv.below h) (hy.below h))
        have hzy : ¬ zs = ys := fun h => hno ⟨id, by rw [← h]; exact iso_refl n zs⟩
        rw [show (decide ((n : Int) = (n : Int)) && decide (zs = ys)) = false by simp [hzy]] at HSM
        have HHN := hide (fun h24 => HHM.out h24 rfl hno)
        clear hno hzy hg hh hv hy HHM
        go_wp2_with fail
        refine wp_region_held_drew (S := (fun W9 => Below w9.heap.size w9 W9 ∧ W9.cell? ⟨w.heap.size, 0, none⟩ = some (.int .i64 n) ∧ W9.cell? ⟨w.heap.size, 1, none⟩ = some (.slice v1 v2 v3) ∧ W9.cell? ⟨w.heap.size + 1, 0, none⟩ = some (.int .i64 n) ∧ W9.cell? ⟨w.heap.size + 1, 1, none⟩ = some (.slice y1 y2 y3))) (by kernel_rfl) hS0 (fun hHeld => ?_)
        refine wpAnyH_take (i := 0) (oi := ({ dst := some 65, op := Go.Op.fieldAddr 24 (Go.Operand.tmp 2) 0, type := 0, pos := _, after := #[], guard := none } : Oper)) (v := ?_) rfl (by kernel_rfl) (by kernel_rfl) (by kernel_rfl) (fun _ _ _ h => h) (Or.inl ⟨by rfl, ?_⟩) (by assumption) ?_
        rotate_left
        · (intro w hSw; (try dsimp only at hSw); go_simp; try with_reducible rfl)
        simp only [Act.put, List.setIfInBounds_toArray, List.set_cons_zero, List.set_cons_succ]
        refine wpAnyH_take (i := 1) (oi := ({ dst := some 66, op := Go.Op.load 3 (Go.Operand.tmp 65), type := 3, pos := _, after := #[{ on := 0, ground := Go.Ground.data }], guard := none } : Oper)) (v := ?_) rfl (by kernel_rfl) (by kernel_rfl) (by kernel_rfl) (fun _ _ _ h => h) (Or.inl ⟨by rfl, ?_⟩) (by assumption) ?_
        rotate_left
        · (intro w hSw; (try dsimp only at hSw); go_simp; try with_reducible rfl)
        simp only [Act.put, List.setIfInBounds_toArray, List.set_cons_zero, List.set_cons_succ]
        refine wpAnyH_take (i := 2) (oi := ({ dst := some 67, op := Go.Op.fieldAddr 24 (Go.Operand.tmp 3) 0, type := 0, pos := _, after := #[], guard := none } : Oper)) (v := ?_) rfl (by kernel_rfl) (by kernel_rfl) (by kernel_rfl) (fun _ _ _ h => h) (Or.inl ⟨by rfl, ?_⟩) (by assumption) ?_
        rotate_left
        · (intro w hSw; (try dsimp only at hSw); go_simp; try with_reducible rfl)
        simp only [Act.put, List.setIfInBounds_toArray, List.set_cons_zero, List.set_cons_succ]
        refine wpAnyH_take (i := 3) (oi := ({ dst := some 68, op := Go.Op.load 3 (Go.Operand.tmp 67), type := 3, pos := _, after := #[{ on := 2, ground := Go.Ground.data }], guard := none } : Oper)) (v := ?_) rfl (by kernel_rfl) (by kernel_rfl) (by kernel_rfl) (fun _ _ _ h => h) (Or.inl ⟨by rfl, ?_⟩) (by assumption) ?_
        rotate_left
        · (intro w hSw; (try dsimp only at hSw); go_simp; try with_reducible rfl)
        simp only [Act.put, List.setIfInBounds_toArray, List.set_cons_zero, List.set_cons_succ]
        refine wpAnyH_take (i := 4) (oi := ({ dst := some 69, op := Go.Op.binOp Go.BinOp.neq 3 (Go.Operand.tmp 66) (Go.Operand.tmp 68) 3, type := 4, pos := _, after := #[{ on := 1, ground := Go.Ground.data }, { on := 3, ground := Go.Ground.data }], guard := none } : Oper)) (v := ?_) rfl (by kernel_rfl) (by kernel_rfl) (by kernel_rfl) (fun _ _ _ h => h) (Or.inl ⟨by rfl, ?_⟩) (by assumption) ?_
        rotate_left
        · (intro w hSw; (try dsimp only at hSw); go_simp; try with_reducible rfl)
        simp only [Act.put, List.setIfInBounds_toArray, List.set_cons_zero, List.set_cons_succ]
        refine wpAnyH_take (i := 5) (oi := ({ dst := some 70, op := Go.Op.move (Go.Operand.tmp 69), type := 4, pos := _, after := #[{ on := 4, ground := Go.Ground.data }], guard := none } : Oper)) (v := ?_) rfl (by kernel_rfl) (by kernel_rfl) (by kernel_rfl) (fun _ _ _ h => h) (Or.inl ⟨by rfl, ?_⟩) (by assumption) ?_
        rotate_left
        · (intro w hSw; (try dsimp only at hSw); go_simp; try with_reducible rfl)
        simp only [Act.put, List.setIfInBounds_toArray, List.set_cons_zero, List.set_cons_succ]
        refine wpAnyH_take (i := 6) (oi := ({ dst := some 71, op := Go.Op.load 24 (Go.Operand.tmp 2), type := 24, pos := _, after := #[{ on := 5, ground := Go.Ground.guard }], guard := some (5, false) } : Oper)) (v := ?_) rfl (by kernel_rfl) (by kernel_rfl) (by kernel_rfl) (fun _ _ _ h => h) (Or.inl ⟨by rfl, ?_⟩) (by assumption) ?_
        rotate_left
        · (intro w hSw; (try dsimp only at hSw); go_simp; try with_reducible rfl)
        simp only [Act.put, List.setIfInBounds_toArray, List.set_cons_zero, List.set_cons_succ]
        refine wpAnyH_take (i := 8) (oi := ({ dst := some 73, op := Go.Op.load 24 (Go.Operand.tmp 3), type := 24, pos := _, after := #[{ on := 5, ground := Go.Ground.guard }], guard := some (5, false) } : Oper)) (v := ?_) rfl (by kernel_rfl) (by kernel_rfl) (by kernel_rfl) (fun _ _ _ h => h) (Or.inl ⟨by rfl, ?_⟩) (by assumption) ?_
        rotate_left
        · (intro w hSw; (try dsimp only at hSw); go_simp; try with_reducible rfl)
        simp only [Act.put, List.setIfInBounds_toArray, List.set_cons_zero, List.set_cons_succ]
        refine wpAnyH_ready (rs := [7]) (by kernel_rfl) (by simp) (AllReadyH.cons (o := ({ dst := some 72, op := Go.Op.call { callee := Go.Callee.value (Go.Operand.func 15), args := #[Go.Operand.tmp 71], argTypes := #[24] }, type := 22, pos := _, after := #[{ on := 6, ground := Go.Ground.data }, { on := 5, ground := Go.Ground.chain }, { on := 5, ground := Go.Ground.guard }], guard := some (5, false) } : Oper)) rfl (fun KK hK => ?_) AllReadyH.nil)
        go_simp
        refine (HP1.out _ (And.left hHeld)).mono ?_
        rintro e1 U1 ⟨x1, xs1, rfl, hx1, hq1⟩
        try go_wp2_with fail
        have hb1 := bcat2 (And.left hHeld) hq1
        refine hK.out _ _ (hS9 _ hb1) (fun hHeld => ?_)
        clear hK
        try simp only [Act.put, List.setIfInBounds_toArray, List.set_cons_zero, List.set_cons_succ]
        refine wpAnyH_ready (rs := [9]) (by kernel_rfl) (by simp) (AllReadyH.cons (o := ({ dst := some 74, op := Go.Op.call { callee := Go.Callee.value (Go.Operand.func 15), args := #[Go.Operand.tmp 73], argTypes := #[24] }, type := 22, pos := _, after := #[{ on := 8, ground := Go.Ground.data }, { on := 7, ground := Go.Ground.chain }, { on := 5, ground := Go.Ground.guard }], guard := some (5, false) } : Oper)) rfl (fun KK hK => ?_) AllReadyH.nil)
        go_simp
        refine (HP2.out _ (And.left hHeld)).mono ?_
        rintro e2 U2 ⟨x2, xs2, rfl, hx2, hq2⟩
        try go_wp2_with fail
        have hb2 := bcat2 (And.left hHeld) hq2
        refine hK.out _ _ (hS9 _ hb2) (fun hHeld => ?_)
        clear hK
        try simp only [Act.put, List.setIfInBounds_toArray, List.set_cons_zero, List.set_cons_succ]
        refine wpAnyH_ready (rs := [10]) (by kernel_rfl) (by simp) (AllReadyH.cons (o := ({ dst := some 75, op := Go.Op.call { callee := Go.Callee.value (Go.Operand.func 14), args := #[Go.Operand.tmp 72, Go.Operand.tmp 74], argTypes := #[22, 22] }, type := 4, pos := _, after := #[{ on := 7, ground := Go.Ground.data }, { on := 9, ground := Go.Ground.data }, { on := 9, ground := Go.Ground.chain }, { on := 5, ground := Go.Ground.guard }], guard := some (5, false) } : Oper)) rfl (fun KK hK => ?_) AllReadyH.nil)
        go_simp
        refine (HIN.out _ _ _ _ _ _ _ (hx1.below hq2) hx2).mono ?_
        rintro e3 w10 ⟨bb, rfl, hq3⟩
        try go_wp2_with fail
        have hb3 := bcat2 (And.left hHeld) hq3
        refine hK.out _ _ (hS9 _ hb3) (fun hHeld => ?_)
        clear hK
        try simp only [Act.put, List.setIfInBounds_toArray, List.set_cons_zero, List.set_cons_succ]
        refine wpAnyH_take (i := 11) (oi := ({ dst := some 76, op := Go.Op.unOp Go.UnOp.not 4 (Go.Operand.tmp 75), type := 4, pos := _, after := #[{ on := 10, ground := Go.Ground.data }, { on := 5, ground := Go.Ground.guard }], guard := some (5, false) } : Oper)) (v := ?_) rfl (by kernel_rfl) (by kernel_rfl) (by kernel_rfl) (fun _ _ _ h => h) (Or.inl ⟨by rfl, ?_⟩) (by assumption) ?_
        rotate_left
        · (intro w hSw; (try dsimp only at hSw); go_simp; try with_reducible rfl)
        simp only [Act.put, List.setIfInBounds_toArray, List.set_cons_zero, List.set_cons_succ]
        refine wpAnyH_take (i := 12) (oi := ({ dst := some 77, op := Go.Op.pick (Go.Operand.tmp 70) (Go.Operand.const (Go.Value.bool true)) (Go.Operand.tmp 76), type := 4, pos := _, after := #[{ on := 5, ground := Go.Ground.data }, { on := 11, ground := Go.Ground.data }], guard := none } : Oper)) (v := ?_) rfl (by kernel_rfl) (by kernel_rfl) (by kernel_rfl) (fun _ _ _ h => h) (Or.inl ⟨by rfl, ?_⟩) (by assumption) ?_
        rotate_left
        · (intro w hSw; (try dsimp only at hSw); go_simp; try with_reducible rfl)
        simp only [Act.put, List.setIfInBounds_toArray, List.set_cons_zero, List.set_cons_succ]
        refine wpAnyH_done (by kernel_rfl) ?_ _
        clear hS9 hS0 hHeld p0 p1 q0 q1 hx1 hx2 hq1 hq2 hq3 hb1 hb2
        have hX10 := blk_below hX9 hb3
        have hY10 := blk_below hY9 hb3
        have hB10 := bcat2 hB9 hb3
        clear hX9 hY9 hB9 hb3
        obtain ⟨p0, p1, _, _⟩ := hX10.two
        obtain ⟨q0, q1, _, _⟩ := hY10.two
        cases bb with
        | false =>
          go_wp2
          go_ret
          exact ⟨rfl, hB10⟩
        | true =>
          by_cases h24 : 24 < n
          · have h24i : (24 : Int) < (n : Int) := by omega
            have hn0 : ((n : Int) == 0) = false := by simp; omega
            go_wp2_with fail
            refine (HSM.out _ hB10).mono ?_
            rintro x w11 ⟨rfl, hb11⟩
            go_wp2
            go_ret
            exact ⟨rfl, bcat2 hB10 hb11⟩
          · have h24i : ¬ (24 : Int) < (n : Int) := by omega
            have HHO := hide (HHN.out h24)
            go_wp2_with fail
            refine (HHO.out _ hB10).mono ?_
            rintro x w11 ⟨r1, r3, ms, ok, rfl, hms, hml, hmo, hb11⟩
            have hX11 := blk_below hX10 hb11
            have hY11 := blk_below hY10 hb11
            have hB11 := bcat2 hB10 hb11
            clear p0 p1 q0 q1 hX10 hY10 hB10 hb11 HHO HHN
            obtain ⟨p0, p1, _, _⟩ := hX11.two
            obtain ⟨q0, q1, _, _⟩ := hY11.two
            obtain ⟨la, lc, lpb, lpo, hlv, hla, hlr, hlp, hl1, hl2⟩ := hms
            injection hlv with hla' _ hlc'
            subst hla' hlc'
            go_wp2
            go_loopw [10] (fun i wr => ∃ k : Nat, k ≤ ms.length ∧ i = .int .i64 k ∧ Below w11.heap.size w11 wr) (fun i _ => ms.length - (intOf i).toNat)
            case atStart => exact ⟨0, Nat.zero_le _, rfl, Below.refl _ _⟩
            case round =>
              obtain ⟨k, hk, rfl, hB⟩ := hrel
              by_cases hlt : k < ms.length
              · obtain ⟨xv, hxc, hxs⟩ := hlr k hlt
                obtain rfl := hla (by omega)
                have hki : (k : Int) < (ms.length : Int) := by omega
                have hmk : ms[k] ∈ ms := List.getElem_mem hlt
                obtain ⟨hlk, hok⟩ := hmo _ hmk
                rw [List.getElem?_eq_getElem hlt, Option.getD_some] at hxs
                obtain ⟨xa, xl, xc, rfl⟩ := hxs.isSlice
                have HON := hide (fun W (h : Below w11.heap.size w11 W) => one_ok n (.slice xa xl xc) ms[k] W (hxs.below h) hlk (by omega))
                rw [hok] at HON
                have r0 := below_cell hB q0
                have rx := below_cell hB hxc
                have hS : ∀ W9, Below wr.heap.size wr W9 → ((fun W9 => Below wr.heap.size wr W9 ∧ W9.cell? ⟨w.heap.size + 1, 0, none⟩ = some (.int .i64 n) ∧ W9.cell? ⟨lpb, lpo + k, none⟩ = some (.slice xa xl xc)) W9) := fun W9 h => ⟨h, below_cell h r0, below_cell h rx⟩
                have hS0 := hS _ (bdrew (Below.refl _ wr))
                clear hxs hmk hlk hok hlr
                go_wp2_with fail
                clear r0 rx
                refine wp_region_held_drew (S := (fun W9 => Below wr.heap.size wr W9 ∧ W9.cell? ⟨w.heap.size + 1, 0, none⟩ = some (.int .i64 n) ∧ W9.cell? ⟨lpb, lpo + k, none⟩ = some (.slice xa xl xc))) (by kernel_rfl) hS0 (fun hHeld => ?_)
                refine wpAnyH_take (i := 0) (oi := ({ dst := some 102, op := Go.Op.move (Go.Operand.tmp 8), type := 38, pos := _, after := #[], guard := none } : Oper)) (v := ?_) rfl (by kernel_rfl) (by kernel_rfl) (by kernel_rfl) (fun _ _ _ h => h) (Or.inl ⟨by rfl, ?_⟩) (by assumption) ?_
                rotate_left
                · (intro w hSw; (try dsimp only at hSw); go_simp; try with_reducible rfl)
                simp only [Act.put, List.setIfInBounds_toArray, List.set_cons_zero, List.set_cons_succ]
                refine wpAnyH_take (i := 1) (oi := ({ dst := some 103, op := Go.Op.move (Go.Operand.tmp 10), type := 3, pos := _, after := #[], guard := none } : Oper)) (v := ?_) rfl (by kernel_rfl) (by kernel_rfl) (by kernel_rfl) (fun _ _ _ h => h) (Or.inl ⟨by rfl, ?_⟩) (by assumption) ?_
                rotate_left
                · (intro w hSw; (try dsimp only at hSw); go_simp; try with_reducible rfl)
                simp only [Act.put, List.setIfInBounds_toArray, List.set_cons_zero, List.set_cons_succ]
                refine wpAnyH_take (i := 2) (oi := ({ dst := some 104, op := Go.Op.indexAddr 38 (Go.Operand.tmp 102) (Go.Operand.tmp 103), type := 0, pos := _, after := #[{ on := 0, ground := Go.Ground.data }, { on := 1, ground := Go.Ground.data }], guard := none } : Oper)) (v := ?_) rfl (by kernel_rfl) (by kernel_rfl) (by kernel_rfl) (fun _ _ _ h => h) (Or.inl ⟨by rfl, ?_⟩) (by assumption) ?_
                rotate_left
                · (intro w hSw; (try dsimp only at hSw); go_simp; try with_reducible rfl)
                simp only [Act.put, List.setIfInBounds_toArray, List.set_cons_zero, List.set_cons_succ]
                refine wpAnyH_take (i := 3) (oi := ({ dst := some 105, op := Go.Op.load 22 (Go.Operand.tmp 104), type := 22, pos := _, after := #[{ on := 2, ground := Go.Ground.data }], guard := none } : Oper)) (v := ?_) rfl (by kernel_rfl) (by kernel_rfl) (by kernel_rfl) (fun _ _ _ h => h) (Or.inl ⟨by rfl, ?_⟩) (by assumption) ?_
                rotate_left
                · (intro w hSw; (try dsimp only at hSw); go_simp; try with_reducible rfl)
                simp only [Act.put, List.setIfInBounds_toArray, List.set_cons_zero, List.set_cons_succ]
                refine wpAnyH_take (i := 4) (oi := ({ dst := some 106, op := Go.Op.fieldAddr 24 (Go.Operand.tmp 3) 0, type := 0, pos := _, after := #[], guard := none } : Oper)) (v := ?_) rfl (by kernel_rfl) (by kernel_rfl) (by kernel_rfl) (fun _ _ _ h => h) (Or.inl ⟨by rfl, ?_⟩) (by assumption) ?_
                rotate_left
                · (intro w hSw; (try dsimp only at hSw); go_simp; try with_reducible rfl)
                simp only [Act.put, List.setIfInBounds_toArray, List.set_cons_zero, List.set_cons_succ]
                refine wpAnyH_take (i := 5) (oi := ({ dst := some 107, op := Go.Op.load 3 (Go.Operand.tmp 106), type := 3, pos := _, after := #[{ on := 4, ground := Go.Ground.data }], guard := none } : Oper)) (v := ?_) rfl (by kernel_rfl) (by kernel_rfl) (by kernel_rfl) (fun _ _ _ h => h) (Or.inl ⟨by rfl, ?_⟩) (by assumption) ?_
                rotate_left
                · (intro w hSw; (try dsimp only at hSw); go_simp; try with_reducible rfl)
                simp only [Act.put, List.setIfInBounds_toArray, List.set_cons_zero, List.set_cons_succ]
                refine wpAnyH_ready (rs := [6]) (by kernel_rfl) (by simp) (AllReadyH.cons (o := ({ dst := some 108, op := Go.Op.call { callee := Go.Callee.value (Go.Operand.func 12), args := #[Go.Operand.tmp 105, Go.Operand.tmp 107], argTypes := #[22, 3] }, type := 4, pos := _, after := #[{ on := 3, ground := Go.Ground.data }, { on := 5, ground := Go.Ground.data }], guard := none } : Oper)) rfl (fun KK hK => ?_) AllReadyH.nil)
                go_simp
                refine (HON.out _ (bcat2 hB (And.left hHeld))).mono ?_
                rintro e1 U1 ⟨rfl, hq1⟩
                try go_wp2_with fail
                have hb1 := bcat2 (And.left hHeld) hq1
                refine hK.out _ _ (hS _ hb1) (fun hHeld => ?_)
                clear hK
                try simp only [Act.put, List.setIfInBounds_toArray, List.set_cons_zero, List.set_cons_succ]
                refine wpAnyH_done (by kernel_rfl) ?_ _
                go_wp2
                go_roundw
                case rel => exact ⟨k + 1, by omega, by go_num, bcat2 hB hb1⟩
                case measure => simp [intOf]; omega
              · have hki : ¬ (k : Int) < (ms.length : Int) := by omega
                have r0 := below_cell hB p0
                have r1 := below_cell hB p1
                have s0 := below_cell hB q0
                have s1 := below_cell hB q1
                cases ok with
                | true =>
                  go_wp2
                  go_ret
                  exact ⟨rfl, bcat2 hB11 hB⟩
                | false =>
                  go_wp2_with fail
                  refine (HSM.out _ (bcat2 hB11 hB)).mono ?_
                  rintro x w12 ⟨rfl, hb12⟩
                  go_wp2
                  go_ret
                  exact ⟨rfl, bcat2 hB11 (bcat2 hB hb12)⟩
      · have hnmi : ((n : Int) != (m : Int)) = true := by simp; omega
        go_wp2_with fail
        refine wp_region_held_drew (S := (fun W9 => Below w9.heap.size w9 W9 ∧ W9.cell? ⟨w.heap.size, 0, none⟩ = some (.int .i64 n) ∧ W9.cell? ⟨w.heap.size, 1, none⟩ = some (.slice v1 v2 v3) ∧ W9.cell? ⟨w.heap.size + 1, 0, none⟩ = some (.int .i64 m) ∧ W9.cell? ⟨w.heap.size + 1, 1, none⟩ = some (.slice y1 y2 y3))) (by kernel_rfl) hS0 (fun hHeld => ?_)
        refine wpAnyH_take (i := 0) (oi := ({ dst := some 65, op := Go.Op.fieldAddr 24 (Go.Operand.tmp 2) 0, type := 0, pos := _, after := #[], guard := none } : Oper)) (v := ?_) rfl (by kernel_rfl) (by kernel_rfl) (by kernel_rfl) (fun _ _ _ h => h) (Or.inl ⟨by rfl, ?_⟩) (by assumption) ?_
        rotate_left
        · (intro w hSw; (try dsimp only at hSw); go_simp; try with_reducible rfl)
        simp only [Act.put, List.setIfInBounds_toArray, List.set_cons_zero, List.set_cons_succ]
        refine wpAnyH_take (i := 1) (oi := ({ dst := some 66, op := Go.Op.load 3 (Go.Operand.tmp 65), type := 3, pos := _, after := #[{ on := 0, ground := Go.Ground.data }], guard := none } : Oper)) (v := ?_) rfl (by kernel_rfl) (by kernel_rfl) (by kernel_rfl) (fun _ _ _ h => h) (Or.inl ⟨by rfl, ?_⟩) (by assumption) ?_
        rotate_left
        · (intro w hSw; (try dsimp only at hSw); go_simp; try with_reducible rfl)
        simp only [Act.put, List.setIfInBounds_toArray, List.set_cons_zero, List.set_cons_succ]
        refine wpAnyH_take (i := 2) (oi := ({ dst := some 67, op := Go.Op.fieldAddr 24 (Go.Operand.tmp 3) 0, type := 0, pos := _, after := #[], guard := none } : Oper)) (v := ?_) rfl (by kernel_rfl) (by kernel_rfl) (by kernel_rfl) (fun _ _ _ h => h) (Or.inl ⟨by rfl, ?_⟩) (by assumption) ?_
        rotate_left
        · (intro w hSw; (try dsimp only at hSw); go_simp; try with_reducible rfl)
        simp only [Act.put, List.setIfInBounds_toArray, List.set_cons_zero, List.set_cons_succ]
        refine wpAnyH_take (i := 3) (oi := ({ dst := some 68, op := Go.Op.load 3 (Go.Operand.tmp 67), type := 3, pos := _, after := #[{ on := 2, ground := Go.Ground.data }], guard := none } : Oper)) (v := ?_) rfl (by kernel_rfl) (by kernel_rfl) (by kernel_rfl) (fun _ _ _ h => h) (Or.inl ⟨by rfl, ?_⟩) (by assumption) ?_
        rotate_left
        · (intro w hSw; (try dsimp only at hSw); go_simp; try with_reducible rfl)
        simp only [Act.put, List.setIfInBounds_toArray, List.set_cons_zero, List.set_cons_succ]
        refine wpAnyH_take (i := 4) (oi := ({ dst := some 69, op := Go.Op.binOp Go.BinOp.neq 3 (Go.Operand.tmp 66) (Go.Operand.tmp 68) 3, type := 4, pos := _, after := #[{ on := 1, ground := Go.Ground.data }, { on := 3, ground := Go.Ground.data }], guard := none } : Oper)) (v := ?_) rfl (by kernel_rfl) (by kernel_rfl) (by kernel_rfl) (fun _ _ _ h => h) (Or.inl ⟨by rfl, ?_⟩) (by assumption) ?_
        rotate_left
        · (intro w hSw; (try dsimp only at hSw); go_simp; try with_reducible rfl)
        simp only [Act.put, List.setIfInBounds_toArray, List.set_cons_zero, List.set_cons_succ]
        refine wpAnyH_take (i := 5) (oi := ({ dst := some 70, op := Go.Op.move (Go.Operand.tmp 69), type := 4, pos := _, after := #[{ on := 4, ground := Go.Ground.data }], guard := none } : Oper)) (v := ?_) rfl (by kernel_rfl) (by kernel_rfl) (by kernel_rfl) (fun _ _ _ h => h) (Or.inl ⟨by rfl, ?_⟩) (by assumption) ?_
        rotate_left
        · (intro w hSw; (try dsimp only at hSw); go_simp; try with_reducible rfl)
        simp only [Act.put, List.setIfInBounds_toArray, List.set_cons_zero, List.set_cons_succ]
        refine wpAnyH_take (i := 6) (oi := ({ dst := some 71, op := Go.Op.load 24 (Go.Operand.tmp 2), type := 24, pos := _, after := #[{ on := 5, ground := Go.Ground.guard }], guard := some (5, false) } : Oper)) (v := undef) rfl (by kernel_rfl) (by kernel_rfl) (by kernel_rfl) (fun _ _ _ h => h) (Or.inr ⟨by rfl, rfl⟩) (by assumption) ?_
        simp only [Act.put, List.setIfInBounds_toArray, List.set_cons_zero, List.set_cons_succ]
        refine wpAnyH_take (i := 7) (oi := ({ dst := some 72, op := Go.Op.call { callee := Go.Callee.value (Go.Operand.func 15), args := #[Go.Operand.tmp 71], argTypes := #[24] }, type := 22, pos := _, after := #[{ on := 6, ground := Go.Ground.data }, { on := 5, ground := Go.Ground.chain }, { on := 5, ground := Go.Ground.guard }], guard := some (5, false) } : Oper)) (v := undef) rfl (by kernel_rfl) (by kernel_rfl) (by kernel_rfl) (fun _ _ _ h => h) (Or.inr ⟨by rfl, rfl⟩) (by assumption) ?_
        simp only [Act.put, List.setIfInBounds_toArray, List.set_cons_zero, List.set_cons_succ]
        refine wpAnyH_take (i := 8) (oi := ({ dst := some 73, op := Go.Op.load 24 (Go.Operand.tmp 3), type := 24, pos := _, after := #[{ on := 5, ground := Go.Ground.guard }], guard := some (5, false) } : Oper)) (v := undef) rfl (by kernel_rfl) (by kernel_rfl) (by kernel_rfl) (fun _ _ _ h => h) (Or.inr ⟨by rfl, rfl⟩) (by assumption) ?_
        simp only [Act.put, List.setIfInBounds_toArray, List.set_cons_zero, List.set_cons_succ]
        refine wpAnyH_take (i := 9) (oi := ({ dst := some 74, op := Go.Op.call { callee := Go.Callee.value (Go.Operand.func 15), args := #[Go.Operand.tmp 73], argTypes := #[24] }, type := 22, pos := _, after := #[{ on := 8, ground := Go.Ground.data }, { on := 7, ground := Go.Ground.chain }, { on := 5, ground := Go.Ground.guard }], guard := some (5, false) } : Oper)) (v := undef) rfl (by kernel_rfl) (by kernel_rfl) (by kernel_rfl) (fun _ _ _ h => h) (Or.inr ⟨by rfl, rfl⟩) (by assumption) ?_
        simp only [Act.put, List.setIfInBounds_toArray, List.set_cons_zero, List.set_cons_succ]
        refine wpAnyH_take (i := 10) (oi := ({ dst := some 75, op := Go.Op.call { callee := Go.Callee.value (Go.Operand.func 14), args := #[Go.Operand.tmp 72, Go.Operand.tmp 74], argTypes := #[22, 22] }, type := 4, pos := _, after := #[{ on := 7, ground := Go.Ground.data }, { on := 9, ground := Go.Ground.data }, { on := 9, ground := Go.Ground.chain }, { on := 5, ground := Go.Ground.guard }], guard := some (5, false) } : Oper)) (v := undef) rfl (by kernel_rfl) (by kernel_rfl) (by kernel_rfl) (fun _ _ _ h => h) (Or.inr ⟨by rfl, rfl⟩) (by assumption) ?_
        simp only [Act.put, List.setIfInBounds_toArray, List.set_cons_zero, List.set_cons_succ]
        refine wpAnyH_take (i := 11) (oi := ({ dst := some 76, op := Go.Op.unOp Go.UnOp.not 4 (Go.Operand.tmp 75), type := 4, pos := _, after := #[{ on := 10, ground := Go.Ground.data }, { on := 5, ground := Go.Ground.guard }], guard := some (5, false) } : Oper)) (v := undef) rfl (by kernel_rfl) (by kernel_rfl) (by kernel_rfl) (fun _ _ _ h => h) (Or.inr ⟨by rfl, rfl⟩) (by assumption) ?_
        simp only [Act.put, List.setIfInBounds_toArray, List.set_cons_zero, List.set_cons_succ]
        refine wpAnyH_take (i := 12) (oi := ({ dst := some 77, op := Go.Op.pick (Go.Operand.tmp 70) (Go.Operand.const (Go.Value.bool true)) (Go.Operand.tmp 76), type := 4, pos := _, after := #[{ on := 5, ground := Go.Ground.data }, { on := 11, ground := Go.Ground.data }], guard := none } : Oper)) (v := ?_) rfl (by kernel_rfl) (by kernel_rfl) (by kernel_rfl) (fun _ _ _ h => h) (Or.inl ⟨by rfl, ?_⟩) (by assumption) ?_
        rotate_left
        · (intro w hSw; (try dsimp only at hSw); go_simp; try with_reducible rfl)
        simp only [Act.put, List.setIfInBounds_toArray, List.set_cons_zero, List.set_cons_succ]
        refine wpAnyH_done (by kernel_rfl) ?_ _
        go_wp2
        go_ret
        exact ⟨rfl, bdrew hB9⟩
end Go.Proofs.YtlhjeenijcokoaaGreatDoor

namespace Go.Proofs.YtlhjeenijcokoaaGreatDoor
open Go Go.RowKit

theorem hiso_law (N M : Int) (v y : Value) (zs ys : List Int) (w : World) (hv : Sl w v zs) (hy : Sl w y ys) (hT : Tab w) (b1 : zs.length * 8 ≤ 140737488355328) (b2 : ys.length * 8 ≤ 140737488355328) :
    Calls Tryz.prog 3 #[.agg #[.int .i64 N, v], .agg #[.int .i64 M, y]] w fun e w' => e = .returned (.bool true) ∧ Below w.heap.size w w' := by
  obtain ⟨v1, v2, v3, rfl⟩ := hv.isSlice
  obtain ⟨y1, y2, y3, rfl⟩ := hy.isSlice
  have HO1 : Hid (∀ W, Below w.heap.size w W → Calls Tryz.prog 8 #[.agg #[.int .i64 N, .slice v1 v2 v3]] W fun x W' => ∃ u1 u2 u3, x = .returned (.agg #[.int .i64 N, .slice u1 u2 u3]) ∧ Sl W' (.slice u1 u2 u3) zs ∧ Below W.heap.size W W') := hide fun W h => (ownGroup_any N (.slice v1 v2 v3) zs W (hv.below h) b1).mono (fun x W' h9 => by
    obtain ⟨u, rfl, hu, hb⟩ := h9
    obtain ⟨u1, u2, u3, rfl⟩ := hu.isSlice
    exact ⟨u1, u2, u3, rfl, hu, hb⟩)
  have HO2 : Hid (∀ W, Below w.heap.size w W → Calls Tryz.prog 8 #[.agg #[.int .i64 M, .slice y1 y2 y3]] W fun x W' => ∃ u1 u2 u3, x = .returned (.agg #[.int .i64 M, .slice u1 u2 u3]) ∧ Sl W' (.slice u1 u2 u3) ys ∧ Below W.heap.size W W') := hide fun W h => (ownGroup_any M (.slice y1 y2 y3) ys W (hy.below h) b2).mono (fun x W' h9 => by
    obtain ⟨u, rfl, hu, hb⟩ := h9
    obtain ⟨u1, u2, u3, rfl⟩ := hu.isSlice
    exact ⟨u1, u2, u3, rfl, hu, hb⟩)
  have HTW := hide (fun W (h : Below w.heap.size w W) => rtwo_any N M (.slice v1 v2 v3) (.slice y1 y2 y3) zs ys W (hv.below h) (hy.below h))
  by_cases hc : (twofault N zs M ys).1 = 0
  · have hc1 : (gfault N zs).1 = 0 := by
      unfold twofault at hc
      by_cases h9 : (gfault N zs).1 = 0
      · exact h9
      · rw [if_pos h9] at hc; exact absurd hc h9
    have hc2 : (gfault M ys).1 = 0 := by
      unfold twofault at hc
      rw [if_neg (by simpa using hc1)] at hc
      exact hc
    obtain ⟨n, e, rfl, hg, _⟩ := gfault_grp hc1
    obtain ⟨m, d, rfl, hh, _⟩ := gfault_grp hc2
    have ht : twofault n zs m ys = (0, 0) := by unfold twofault; rw [if_neg (by simpa using hc1)]; exact grp_fault hh
    rw [ht] at HTW
    refine hiso_law_good n e m d v1 v2 v3 y1 y2 y3 zs ys w hT hg hh hv hy HO1 HO2 (hide fun W u t h hu ht => ?_) HTW (hide fun h24 hnm hno W h => ?_)
    · refine (hiso_any n e m d u t zs ys W hu hg ht hh (hT.below h)).mono ?_
      rintro x W' ⟨hb, ⟨φ, g, hnm, A, rfl, hgs, hM⟩ | ⟨rfl, hno⟩⟩
      · have hl : (li ((List.range n).map φ)).length = n := by rw [li_len]; simp
        have h60 := hg.tab.le
        refine ⟨some ⟨g, 0, none⟩, n, 0, 0, li ((List.range n).map φ), by rw [hl], by have h8 := Sl.of_blk (n := n) hM hl.symm (by rw [hl]; omega); rw [hl]; exact h8, fun b p q hb9 => ?_, .inl ⟨rfl, rfl, hnm, φ, A, rfl⟩, hb⟩
        have hM2 : Blk ((W'.setCell ⟨b, 0, none⟩ p).setCell ⟨b, 1, none⟩ q) g 3 ((li ((List.range n).map φ)).map (Value.int .i64)) := (hM.other (p := ⟨b, 0, none⟩) (by simp; omega) p).other (p := ⟨b, 1, none⟩) (by simp; omega) q
        have h9 := Sl.of_blk (n := n) hM2 hl.symm (by rw [hl]; omega)
        rw [hl]; exact h9
      · have h0 : 0 < W'.heap.size := Nat.lt_of_lt_of_le (Nat.lt_of_lt_of_le hT.lt h.size) hb.size
        exact ⟨none, 0, 6, 0, [], rfl, Sl.nil h0, fun b p q _ => Sl.nil (by rw [size_set, size_set]; exact h0), .inr ⟨rfl, rfl, rfl, hno⟩, hb⟩
    · subst hnm
      refine (homs_ok n e n d 3000 (.slice v1 v2 v3) (.slice y1 y2 y3) zs ys W (hv.below h) hg (hy.below h) hh (by omega)).mono ?_
      rintro x W' ⟨hb, ks, hkn, hkl, hgen, ⟨hle, r, us, ms, rfl, hrow, hls, hpm, hst⟩ | ⟨_, rfl⟩⟩
      · have hsl := SlL.of_own hrow hls (Nat.lt_of_lt_of_le (Nat.lt_of_lt_of_le hT.lt h.size) hb.size)
        obtain ⟨ra, rc, rfl⟩ := own_slice' hrow
        rw [hls.1] at hsl ⊢
        refine ⟨ra, rc, ms, true, rfl, hsl, by rw [hpm.length_eq]; exact hle, fun l hl => ?_, hb⟩
        obtain ⟨φ, H, rfl, _⟩ := (dh_mem hg hh hkn hgen _ _ _ (by simp) (by simp)).1 (hpm.mem_iff.1 hl)
        refine ⟨by rw [li_len]; simp, ?_⟩
        cases ho : o1 n (li ((List.range n).map φ)) with
        | false => rfl
        | true => exact absurd ⟨φ, iso_of_o1 H rfl ho⟩ hno
      · have h0 : 0 < W'.heap.size := Nat.lt_of_lt_of_le (Nat.lt_of_lt_of_le hT.lt h.size) hb.size
        exact ⟨none, 0, [], false, rfl, ⟨none, 0, 0, 0, rfl, by simp, by simp, h0, Nat.le_refl _, by unfold maxLen; omega⟩, by simp, by simp, hb⟩
  · exact hiso_law_bad N M _ _ (fun c i L => c = (twofault N zs M ys).1 ∧ i = (twofault N zs M ys).2 ∧ L = []) (fun _ _ _ h => h) v1 v2 v3 y1 y2 y3 zs ys w hT hc HO1 HO2 (hide fun W u t h hu ht => (hiso_bad N M u t zs ys W hu ht hc).mono (fun x W' h9 => by
      obtain ⟨rfl, hb⟩ := h9
      have h0 : 0 < W'.heap.size := Nat.lt_of_lt_of_le (Nat.lt_of_lt_of_le hT.lt h.size) hb.size
      exact ⟨none, 0, _, _, [], rfl, Sl.nil h0, fun b p q _ => Sl.nil (by rw [size_set, size_set]; exact h0), ⟨rfl, rfl, rfl⟩, hb⟩)) HTW
end Go.Proofs.YtlhjeenijcokoaaGreatDoor

namespace Go.Proofs.YtlhjeenijcokoaaGreatDoor
open Go.ChangeShapes Go.WideShapes Go.ChangeAt Go.RowKit

theorem own : ownKnob Tryz.prog.godebug = none := by kernel_rfl
theorem laidOut : laidOutB Tryz.prog = true := by kernel_rfl

/-- A slice of ints that reads as zs; where nothing is in it, nothing is told of the memory. -/
def SlA (w : World) (v : Value) (zs : List Int) : Prop := ∃ a cap pb po, v = .slice a zs.length cap ∧ Reads w a pb po zs ∧ (0 < zs.length → pb < w.heap.size) ∧ zs.length ≤ cap ∧ cap ≤ maxLen
theorem SlA.up {w w' : World} {v : Value} {zs : List Int} (h : SlA w v zs) (hb : Below w.heap.size w w') (h0 : 0 < w'.heap.size) : Sl w' v zs := by
  obtain ⟨a, cap, pb, po, hv, hr, hp, h1, h2⟩ := h
  rcases Nat.eq_zero_or_pos zs.length with hz | hz
  · exact ⟨a, cap, 0, 0, hv, ⟨fun h => by omega, fun j hj => by omega⟩, h0, h1, h2⟩
  · exact ⟨a, cap, pb, po, hv, hr.below hb (hp hz), Nat.lt_of_lt_of_le (hp hz) hb.size, h1, h2⟩
theorem SlA.of {w : World} {v : Value} {zs : List Int} (h : Sl w v zs) : SlA w v zs := by
  obtain ⟨a, cap, pb, po, hv, hr, hp, h1, h2⟩ := h
  exact ⟨a, cap, pb, po, hv, hr, fun _ => hp, h1, h2⟩

theorem und24 : ∃ f0 f1 : Field, Tryz.prog.underlying 24 = some (.struct #[f0, f1]) ∧ f0.type = 3 ∧ f1.type = 22 ∧ f0.offset = 0 ∧ f1.offset = 1 := ⟨_, _, Tryz.underlying24, rfl, rfl, rfl, rfl⟩
theorem und3 : Tryz.prog.underlying 3 = some (.int .i64) := by kernel_rfl
theorem und22 : Tryz.prog.underlying 22 = some (.slice 3) := by kernel_rfl
theorem und4 : Tryz.prog.underlying 4 = some .bool := by kernel_rfl

set_option maxRecDepth 100000 in
/-- What is told of a table that came in. -/
theorem open_group {H : Type} {enc : TypeId × Value → H} {W : World} {b0 : Nat} {v : Value} {d : DataW H} {ps : List MemPlace} (hval : Value.okWide Tryz.prog W .any b0 24 v)
    (hd : DataW.Trod enc Tryz.prog W 0 (fun _ => true) true 24 v d ps) :
    ∃ N u zs, v = .agg #[.int .i64 N, u] ∧ SlA W u zs ∧ (Lit.int .i64 N).wf = true ∧ ((d.weights Tryz.prog 24).all (· ≤ reachBytes) = true → zs.length * 8 ≤ 140737488355328) := by
  obtain ⟨f0, f1, hu, ht0, ht1, ho0, ho1⟩ := und24
  obtain ⟨cs, rfl, hsz⟩ := okWide_struct hu hval
  rw [show Tryz.prog.cellsOf 24 = 2 by kernel_rfl] at hsz
  obtain ⟨l⟩ := cs
  match l, hsz with
  | [c0, c1], _ =>
  obtain ⟨fuel, hf⟩ := hd
  obtain ⟨y0, y1, m, hx, _, hy0, hy1⟩ := trod_struct2 hu hf
  rw [ht0, ho0, show Tryz.prog.cellsOf 3 = 1 by kernel_rfl] at hy0
  rw [ht1, ho1, show Tryz.prog.cellsOf 22 = 1 by kernel_rfl] at hy1
  obtain ⟨N, e0, rfl, wN⟩ := DataW.trod_int und3 hy0
  simp [Value.cells] at e0
  subst e0
  simp [Value.cells] at hy1
  rcases open_ints und22 und3 (by kernel_rfl) hy1 with ⟨hcs, _⟩ | ⟨x, l, c, zs, hcs, _, hl, hm, hz, heq, hcell, hwz⟩
  · simp at hcs
    subst hcs
    exact ⟨N, _, [], rfl, ⟨none, 0, 0, 0, rfl, ⟨by simp, by simp⟩, by simp, by simp, by unfold maxLen; omega⟩, wN, fun _ => by simp⟩
  · simp at hcs
    subst hcs
    have hzc : zs.length = c := by simpa using hz
    have hlen : (zs.take l).length = l := by rw [List.length_take]; omega
    refine ⟨N, _, zs.take l, rfl, ?_, wN, fun hw => ?_⟩
    · by_cases hpos : 0 < c
      · obtain ⟨b, o, rfl, hc'⟩ := ints_at hcell (by omega)
        refine ⟨some ⟨b, o, none⟩, c, b, o, by rw [hlen], ⟨fun _ => rfl, fun j hj => ?_⟩, fun _ => World.block_lt_of_cell? W _ (hc' 0 (by omega)), by omega, hm⟩
        rw [hlen] at hj
        rw [hc' j (by omega), List.getElem?_take, if_pos hj, List.getD_eq_getElem?_getD]
      · have : l = 0 := by omega
        subst this
        exact ⟨some x, c, 0, 0, by simp, ⟨by simp, by simp⟩, by simp, by simp, hm⟩
    · have hd : d = .agg [.lit (.int .i64 N), .slice (lits .i64 (zs.take l)) (lits .i64 (zs.drop l))] := by
        have h1 := congrArg Prod.fst hx
        simp only [heq] at h1
        exact h1
      have hw2 := List.all_eq_true.1 hw (((lits (H := H) .i64 (zs.take l)).length + (lits (H := H) .i64 (zs.drop l)).length) * Tryz.prog.bytesOf 3) (by
        rw [hd]; simp [DataW.weights, DataW.weightsEach, hu, ht0, ht1])
      rw [show Tryz.prog.bytesOf 3 = 8 by kernel_rfl] at hw2
      simp only [lits, List.length_map, decide_eq_true_eq] at hw2
      unfold reachBytes at hw2
      omega
end Go.Proofs.YtlhjeenijcokoaaGreatDoor

namespace Go.Proofs.YtlhjeenijcokoaaGreatDoor
open Go.ChangeShapes Go.WideShapes Go.ChangeAt Go.RowKit

/-- What the rows list. -/
def laid1 : List (String × DataW Unit) := Rows.homIsoRow.laid
def tabZ : List Int := Lib.deBruijn64tab.map fun (x : Nat) => (x : Int)
theorem tab_data : (Rows.laid_math_bits_deBruijn64tab : DataW Unit) = Lib.tabData .u8 tabZ := by kernel_rfl
/-- The door's own heap meets the condition. -/
theorem door_met (os : Os) (args : Array Value) : laidMetH Tryz.prog laid1 ((World.doorLaid Tryz.prog 400 os).forCall (fun _ _ => 0) ⟨#[], args, []⟩).memory :=
  laidMetH_of_parts3 (fuel := 8) (laidMet_of_run' 8 (by kernel_rfl) (by kernel_rfl)) (by kernel_rfl) (by kernel_rfl)
theorem tab_of_laid {W : World} (h : laidMetH Tryz.prog laid1 W) : Tab W := by
  rw [MakeChecks.laidMetH_plain _ _ _ (by kernel_rfl)] at h
  have h2 : laidMet Tryz.prog [("math/bits.deBruijn64tab", (Rows.laid_math_bits_deBruijn64tab : DataW Unit))] W := h
  rw [tab_data] at h2
  have hg : Tryz.prog.globalNamed "math/bits.deBruijn64tab" = some 0 := by kernel_rfl
  have hT := Lib.tabIs_of_head hg (t := 131) (e := 5) (n := 64) (by kernel_rfl) (by kernel_rfl) (by kernel_rfl) (by kernel_rfl) (by kernel_rfl) h2
  intro j hj
  have hj' : j < tabZ.length := by simpa [tabZ] using hj
  have hc := hT.cell hg j hj'
  rw [hc]
  simp [tabZ, hj]
set_option maxRecDepth 100000 in
/-- A list of ints that came in: its value, what it reads as, and its size. -/
theorem open_list {H : Type} {enc : TypeId × Value → H} {W : World} {b0 : Nat} {v : Value} {d : DataW H} {ps : List MemPlace} (hval : Value.okWide Tryz.prog W .any b0 22 v)
    (hd : DataW.Trod enc Tryz.prog W 0 (fun _ => true) true 22 v d ps) (h0 : 0 < W.heap.size) :
    ∃ zs, Sl W v zs ∧ ((d.weights Tryz.prog 22).all (· ≤ reachBytes) = true → zs.length * 8 ≤ 140737488355328) := by
  obtain ⟨a, len, cap, rfl⟩ := okWide_slice und22 hval
  obtain ⟨fuel, hf⟩ := hd
  rcases open_ints und22 und3 (by kernel_rfl) hf with ⟨hcs, _⟩ | ⟨x, l, c, zs, hcs, _, hl, hm, hz, heq, hcell, hwz⟩
  · simp [Value.cells] at hcs
    obtain ⟨rfl, rfl, rfl⟩ := hcs
    exact ⟨[], Sl.nil h0, fun _ => by simp⟩
  · simp [Value.cells] at hcs
    obtain ⟨rfl, rfl, rfl⟩ := hcs
    have hzc : zs.length = cap := by simpa using hz
    have hlen : (zs.take len).length = len := by rw [List.length_take]; omega
    refine ⟨zs.take len, ?_, fun hw => ?_⟩
    · by_cases hpos : 0 < cap
      · obtain ⟨b, o, rfl, hc'⟩ := ints_at hcell (by omega)
        refine ⟨some ⟨b, o, none⟩, cap, b, o, by rw [hlen], ⟨fun _ => rfl, fun j hj => ?_⟩, World.block_lt_of_cell? W _ (hc' 0 (by omega)), by omega, hm⟩
        rw [hlen] at hj
        rw [hc' j (by omega), List.getElem?_take, if_pos hj, List.getD_eq_getElem?_getD]
      · have : len = 0 := by omega
        subst this
        exact ⟨some x, cap, 0, 0, by simp, ⟨by simp, by simp⟩, h0, by simp, hm⟩
    · simp only [Prod.mk.injEq] at heq
      have hw2 := List.all_eq_true.1 hw (((lits (H := H) .i64 (zs.take len)).length + (lits (H := H) .i64 (zs.drop len)).length) * Tryz.prog.bytesOf 3) (by
        rw [heq.1]; simp [DataW.weights])
      rw [show Tryz.prog.bytesOf 3 = 8 by kernel_rfl] at hw2
      simp only [lits, List.length_map, decide_eq_true_eq] at hw2
      unfold reachBytes at hw2
      omega
end Go.Proofs.YtlhjeenijcokoaaGreatDoor
