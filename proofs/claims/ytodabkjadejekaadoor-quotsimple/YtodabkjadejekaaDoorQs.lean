/- What the law QuotSimple answers: true, at every table. -/
import Derived.Test.YtodabkjadejekaaDoorQx
import Derived.Test.YtodabkjadejekaaDoorQk
namespace Go.Proofs.YtodabkjadejekaaDoor
open Go Go.RowKit

section
variable {n e : Nat} {zs : List Int}
/-- A thing, conjugated by all. -/
def cjL (n : Nat) (zs : List Int) (e a : Nat) : List Nat := (List.range n).map fun b => Fin.cj (tm n zs) (iv n zs e) a b
/-- All commutators. -/
def cmL (n : Nat) (zs : List Int) (e : Nat) : List Nat := (List.range (n * n)).map fun i => Fin.cm (tm n zs) (iv n zs e) (i / n) (i % n)
theorem cjL_len (n : Nat) (zs : List Int) (e a : Nat) : (li (cjL n zs e a)).length = n := by simp [cjL, li]
theorem cmL_len (n : Nat) (zs : List Int) (e : Nat) : (li (cmL n zs e)).length = n * n := by simp [cmL, li]
theorem cjL_get {a b : Nat} (hb : b < n) : (li (cjL n zs e a))[b]?.getD 0 = (Fin.cj (tm n zs) (iv n zs e) a b : Int) := by simp [cjL, li, hb]
theorem cmL_get {a b : Nat} (ha : a < n) (hb : b < n) : (li (cmL n zs e))[a * n + b]?.getD 0 = (Fin.cm (tm n zs) (iv n zs e) a b : Int) := by
  obtain ⟨e1, e2⟩ := dm' (a := a) hb
  have := place_lt ha hb
  simp [cmL, li, this, e1, e2]
theorem cjL_lt (g : IsGrp n zs e) {a : Nat} (ha : a < n) : ∀ x, x ∈ cjL n zs e a → x < n := fun x hx => by
  obtain ⟨b, hb, rfl⟩ := List.mem_map.1 hx
  exact rcj_lt g ha (List.mem_range.1 hb)
theorem cmL_lt (g : IsGrp n zs e) : ∀ x, x ∈ cmL n zs e → x < n := fun x hx => by
  obtain ⟨i, hi, rfl⟩ := List.mem_map.1 hx
  obtain ⟨h1, h2⟩ := div_mod_lt (List.mem_range.1 hi)
  exact List.mem_range.1 (Fin.cm_mem (grp_fg g) (grp_iv g) (List.mem_range.2 h1) (List.mem_range.2 h2))
theorem cj_test {a : Nat} (ha : a < n) (y : Nat) : Mkd n zs e (cloq n zs e (pset [(a : Int)]) n) y ↔ Mkd n zs e (fun x => decide (x ∈ cjL n zs e a)) y := by
  have h : ∀ x, (cloq n zs e (pset [(a : Int)]) n x = true ↔ decide (x ∈ cjL n zs e a) = true) := fun x => by
    rw [clo_iff, decide_eq_true_eq]
    unfold Fin.Conj cjL
    rw [List.mem_map]
    constructor
    · rintro ⟨z, b, _, hb, hz, he⟩
      have : z = a := by
        unfold pset at hz
        simp at hz
        omega
      subst this
      exact ⟨b, hb, he⟩
    · rintro ⟨b, hb, he⟩
      exact ⟨a, b, List.mem_range.2 ha, hb, by unfold pset; simp, he⟩
  exact ⟨fun h1 => Fin.Gen.mono (fun x _ hx => (h x).1 hx) h1, fun h1 => Fin.Gen.mono (fun x _ hx => (h x).2 hx) h1⟩
theorem cm_test (y : Nat) : Mkd n zs e (cmq n zs e (List.range n) (List.range n)) y ↔ Mkd n zs e (fun x => decide (x ∈ cmL n zs e)) y := by
  have h : ∀ x, (cmq n zs e (List.range n) (List.range n) x = true ↔ decide (x ∈ cmL n zs e) = true) := fun x => by
    unfold cmq cmL
    simp only [List.any_eq_true, decide_eq_true_eq, List.mem_map, List.mem_range]
    constructor
    · rintro ⟨a, ha, b, hb, he⟩
      obtain ⟨e1, e2⟩ := dm' (a := a) hb
      exact ⟨a * n + b, place_lt ha hb, by rw [e1, e2]; exact he⟩
    · rintro ⟨i, hi, he⟩
      obtain ⟨h1, h2⟩ := div_mod_lt hi
      exact ⟨_, h1, _, h2, he⟩
  exact ⟨fun h1 => Fin.Gen.mono (fun x _ hx => (h x).1 hx) h1, fun h1 => Fin.Gen.mono (fun x _ hx => (h x).2 hx) h1⟩
/-- What the law wants, behind the first things. -/
def wan (n e : Nat) (L : Nat → Nat) (k : Nat) : Bool := decide (1 < n) && (List.range k).all fun a => decide (a = e) || !decide (L a < n)
theorem wan_succ (n e : Nat) (L : Nat → Nat) (k : Nat) : wan n e L (k + 1) = (wan n e L k && (decide (k = e) || !decide (L k < n))) := by
  unfold wan
  rw [List.range_succ, List.all_append, ← Bool.and_assoc]
  simp
end
set_option maxRecDepth 100000 in
set_option maxHeartbeats 8000000 in
theorem qsimple_bad (N : Int) (v1 : Option Addr) (v2 v3 : Nat) (zs : List Int) (w : World) (hv : Sl w (.slice v1 v2 v3) zs) (hT : Tab w) (hz : zs.length * 8 ≤ 140737488355328) (hc : (gfault N zs).1 ≠ 0) :
    Calls Tryd.prog 9 #[.agg #[.int .i64 N, .slice v1 v2 v3]] w fun e w' => e = .returned (.bool true) ∧ Below w.heap.size w w' := by
  have hB0 : Below w.heap.size w (w.alloc (.cells #[.int .i64 N, .slice v1 v2 v3] 24)) := balloc w _
  have hX0 : BoxG (w.alloc (.cells #[.int .i64 N, .slice v1 v2 v3] 24)) w.heap.size N (.slice v1 v2 v3) := blk0 _ _
  have HOG := hide (fun W (h : Below w.heap.size w W) => ownGroup_row N (.slice v1 v2 v3) zs W (hv.below h) hz)
  have HS := hide (fun W x (h1 : Sl W x zs) => simple_bad N x zs W h1 hc)
  have HA := hide (fun W x (h1 : Sl W x zs) => abel_bad N x zs W h1 hc)
  have HG := hide (fun W (h : Below w.heap.size w W) => groupFault_any N (.slice v1 v2 v3) zs W (hv.below h))
  have at0 : ∀ W : World, Below w.heap.size w W → 0 < W.heap.size := fun W h => Nat.lt_of_lt_of_le hT.lt h.size
  obtain ⟨c, i, hci⟩ : ∃ c i, gfault N zs = (c, i) := ⟨_, _, rfl⟩
  rw [hci] at HS HA HG hc
  simp only at HS HA HG hc
  clear hci
  have hcb : (c != 0) = true := by simpa using hc
  obtain ⟨c0, c1, _, _⟩ := hX0.two
  go_enter Tryd.func9, Tryd.ntmps9
  go_wp2_with fail
  generalize w.alloc (.cells #[.int .i64 N, .slice v1 v2 v3] 24) = w0 at *
  clear c0 c1
  refine (HOG.out _ hB0).mono ?_
  rintro x w1 ⟨x9, rfl, hx9, hb1⟩
  have hB1 := bcat2 hB0 hb1
  have hX1 := blk_below hX0 hb1
  go_wp2_with fail
  refine (HS.out _ _ (row_sl hx9 (at0 _ hB1))).mono ?_
  rintro x w2 ⟨rfl, hb2⟩
  have hF3 := blk0 (w := w2) (T := 28) (.int .i64 c) (.int .i64 i)
  have hb23 := bcat2 hb2 (balloc w2 (.cells #[.int .i64 c, .int .i64 i] 28))
  have hB3 := bcat2 hB1 hb23
  have hX3 := blk_below hX1 hb23
  obtain ⟨c0, c1, _, _⟩ := hX3.two
  go_wp2_with fail
  generalize w2.alloc (.cells #[.int .i64 c, .int .i64 i] 28) = w3 at *
  clear c0 c1
  refine (HOG.out _ hB3).mono ?_
  rintro x w4 ⟨y9, rfl, hy9, hb4⟩
  have hB4 := bcat2 hB3 hb4
  have hX4 := blk_below hX3 hb4
  have hF4 := blk_below hF3 hb4
  go_wp2_with fail
  refine (HA.out _ _ (row_sl hy9 (at0 _ hB4))).mono ?_
  rintro x w5 ⟨rfl, hb5⟩
  obtain ⟨W, hW⟩ : ∃ W, W = (w5.alloc (.cells #[.int .i64 0, .slice none 0 0] 24)).alloc (.cells #[.int .i64 c, .int .i64 i] 28) := ⟨_, rfl⟩
  have hbW : Below w5.heap.size w5 W := by rw [hW]; exact (balloc w5 _).alloc (by simp) _
  have hQ6 : Blk W w5.heap.size 24 [.int .i64 0, .slice none 0 0] := by rw [hW]; exact (blk0 (w := w5) (T := 24) _ _).alloc _
  have hE6 : Blk W (w5.heap.size + 1) 28 [.int .i64 c, .int .i64 i] := by
    have := blk0 (w := w5.alloc (.cells #[.int .i64 0, .slice none 0 0] 24)) (T := 28) (.int .i64 c) (.int .i64 i)
    rw [World.size_alloc] at this
    rw [hW]; exact this
  have hb56 := bcat2 hb5 hbW
  have hB6 := bcat2 hB4 hb56
  have hX6 := blk_below hX4 hb56
  have hF6 := blk_below hF4 hb56
  obtain ⟨c0, c1, _, _⟩ := hX6.two
  rw [hW] at c0 c1
  go_wp2_with fail
  rw [← hW] at c0 c1 ⊢
  clear hW c0 c1
  refine (HG.out _ hB6).mono ?_
  rintro x w7 ⟨rfl, hb7⟩
  have hb78 := bcat2 hb7 (balloc w7 (.cells #[.int .i64 c, .int .i64 i] 28))
  have hW8 := blk0 (w := w7) (T := 28) (.int .i64 c) (.int .i64 i)
  have hB8 := bcat2 hB6 hb78
  have hQ8 := blk_below hQ6 hb78
  have hE8 := blk_below hE6 hb78
  have hF8 := blk_below hF6 hb78
  go_wp2_with fail
  generalize w7.alloc (.cells #[.int .i64 c, .int .i64 i] 28) = w8 at *
  refine (quotBegun_any _ (hT.below hB8)).mono ?_
  rintro x w9 ⟨rfl, hb9⟩
  have hB9 := bcat2 hB8 hb9
  obtain ⟨q0, q1, _, _⟩ := (blk_below hQ8 hb9).two
  obtain ⟨d0, d1, _, _⟩ := (blk_below hE8 hb9).two
  obtain ⟨f0, f1, _, _⟩ := (blk_below hF8 hb9).two
  obtain ⟨t0, t1, _, _⟩ := (blk_below hW8 hb9).two
  go_wp2_with fail
  refine (noGroup_any _ _ _).mono ?_
  rintro x w11 ⟨rfl, hb11⟩
  have hB11 := bcat2 hB9 hb11
  go_wp2
  go_ret
  exact ⟨rfl, hB11⟩
set_option maxRecDepth 100000 in
set_option maxHeartbeats 16000000 in
theorem qsimple_good (n e K : Nat) (v1 : Option Addr) (v2 v3 : Nat) (zs T M : List Int) (L : Nat → Nat) (xs : List Int) (w : World) (hv : Sl w (.slice v1 v2 v3) zs) (hT : Tab w) (hz : zs.length * 8 ≤ 140737488355328) (hg : IsGrp n zs e) (hL : ∀ a, a < n → L a ≤ n)
    (HS : Hid (∀ W x, Below w.heap.size w W → Sl W x zs → Calls Tryd.prog 46 #[.agg #[.int .i64 n, x]] W fun x W' => x = .returned (.tuple #[.bool (wan n e L n), .agg #[.int .i64 0, .int .i64 0]]) ∧ Below W.heap.size W W'))
    (HA : Hid (∀ W x, Below w.heap.size w W → Sl W x zs → Calls Tryd.prog 47 #[.agg #[.int .i64 n, x]] W fun x W' => ∃ r1 r2 r3 s1 s2 s3, x = .returned (.tuple #[.agg #[.int .i64 K, .slice r1 r2 r3], .slice s1 s2 s3, .agg #[.int .i64 0, .int .i64 0]]) ∧ Sl W' (.slice r1 r2 r3) T ∧ Sl W' (.slice s1 s2 s3) M ∧ Below W.heap.size W W'))
    (HC : Hid (∀ W u a, Below w.heap.size w W → a < n → Sl W u (li (cjL n zs e a)) → Calls Tryd.prog 49 #[.agg #[.int .i64 n, .slice v1 v2 v3], u] W fun x W' => ∃ q1 q3, x = .returned (.slice q1 (L a) q3) ∧ Below W.heap.size W W'))
    (HD : Hid (∀ W u, Below w.heap.size w W → Sl W u (li (cmL n zs e)) → Calls Tryd.prog 49 #[.agg #[.int .i64 n, .slice v1 v2 v3], u] W fun x W' => ∃ q1 q2 q3, x = .returned (.slice q1 q2 q3) ∧ Sl W' (.slice q1 q2 q3) xs ∧ Below W.heap.size W W'))
    (HI : Hid (∀ W u qv mv, Below w.heap.size w W → Sl W u xs → Sl W qv T → Sl W mv M → Calls Tryd.prog 41 #[.agg #[.int .i64 n, .slice v1 v2 v3], u, .agg #[.int .i64 K, qv], mv] W fun x W' => x = .returned (.bool true) ∧ Below W.heap.size W W'))
    (HM : Hid (∀ W qv, Sl W qv T → Calls Tryd.prog 51 #[.agg #[.int .i64 K, qv]] W fun x W' => x = .returned (.bool true) ∧ Below W.heap.size W W')) :
    Calls Tryd.prog 9 #[.agg #[.int .i64 n, .slice v1 v2 v3]] w fun e w' => e = .returned (.bool true) ∧ Below w.heap.size w w' := by
  obtain ⟨i0, hi, hz0, hz1, hz2⟩ := info_parts info3b
  have hn := hg.tab.le
  have hen := hg.elt
  have hB0 : Below w.heap.size w (w.alloc (.cells #[.int .i64 n, .slice v1 v2 v3] 24)) := balloc w _
  have hX0 : BoxG (w.alloc (.cells #[.int .i64 n, .slice v1 v2 v3] 24)) w.heap.size n (.slice v1 v2 v3) := blk0 _ _
  have HOG := hide (fun W (h : Below w.heap.size w W) => ownGroup_row n (.slice v1 v2 v3) zs W (hv.below h) hz)
  have HG := hide (fun W (h : Below w.heap.size w W) => groupFault_any n (.slice v1 v2 v3) zs W (hv.below h))
  rw [gfault_of_grp hg] at HG
  have HE := hide (fun W (h : Below w.heap.size w W) => E_ok n (.slice v1 v2 v3) zs W hg.tab (hv.below h))
  rw [hg.one] at HE
  have HCJ := hide (fun W a b (h : Below w.heap.size w W) (ha : a < n) (hb : b < n) => rcj_ok n e a b (.slice v1 v2 v3) zs W hg (hv.below h) ha hb)
  have HCM := hide (fun W a b (h : Below w.heap.size w W) (ha : a < n) (hb : b < n) => rcm_ok n e a b (.slice v1 v2 v3) zs W hg (hv.below h) ha hb)
  have at0 : ∀ W : World, Below w.heap.size w W → 0 < W.heap.size := fun W h => Nat.lt_of_lt_of_le hT.lt h.size
  have HW0 := hide (show wan n e L 0 = decide (1 < n) by unfold wan; simp)
  have HWS := hide (fun k => wan_succ n e L k)
  obtain ⟨B, hBB⟩ : ∃ B : Nat → Bool, B = wan n e L := ⟨_, rfl⟩
  rw [← hBB] at HS HW0 HWS
  have HLE := hide hL
  clear hBB hL
  obtain ⟨c0, c1, _, _⟩ := hX0.two
  go_enter Tryd.func9, Tryd.ntmps9
  go_wp2_with fail
  generalize w.alloc (.cells #[.int .i64 n, .slice v1 v2 v3] 24) = w0 at *
  clear c0 c1
  refine (HOG.out _ hB0).mono ?_
  rintro x w1 ⟨x9, rfl, hx9, hb1⟩
  have hB1 := bcat2 hB0 hb1
  have hX1 := blk_below hX0 hb1
  go_wp2_with fail
  refine (HS.out _ _ hB1 (row_sl hx9 (at0 _ hB1))).mono ?_
  rintro x w2 ⟨rfl, hb2⟩
  have hF3 := blk0 (w := w2) (T := 28) (.int .i64 0) (.int .i64 0)
  have hb23 := bcat2 hb2 (balloc w2 (.cells #[.int .i64 0, .int .i64 0] 28))
  have hB3 := bcat2 hB1 hb23
  have hX3 := blk_below hX1 hb23
  obtain ⟨c0, c1, _, _⟩ := hX3.two
  go_wp2_with fail
  generalize w2.alloc (.cells #[.int .i64 0, .int .i64 0] 28) = w3 at *
  clear c0 c1
  refine (HOG.out _ hB3).mono ?_
  rintro x w4 ⟨y9, rfl, hy9, hb4⟩
  have hB4 := bcat2 hB3 hb4
  have hX4 := blk_below hX3 hb4
  have hF4 := blk_below hF3 hb4
  go_wp2_with fail
  refine (HA.out _ _ hB4 (row_sl hy9 (at0 _ hB4))).mono ?_
  rintro x w5 ⟨r1, r2, r3, s1, s2, s3, rfl, hq5, hm5, hb5⟩
  obtain ⟨W, hW⟩ : ∃ W, W = (w5.alloc (.cells #[.int .i64 K, .slice r1 r2 r3] 24)).alloc (.cells #[.int .i64 0, .int .i64 0] 28) := ⟨_, rfl⟩
  have hbW : Below w5.heap.size w5 W := by rw [hW]; exact (balloc w5 _).alloc (by simp) _
  have hQ6 : BoxG W w5.heap.size K (.slice r1 r2 r3) := by rw [hW]; exact (blk0 (w := w5) (T := 24) _ _).alloc _
  have hE6 : Blk W (w5.heap.size + 1) 28 [.int .i64 0, .int .i64 0] := by
    have := blk0 (w := w5.alloc (.cells #[.int .i64 K, .slice r1 r2 r3] 24)) (T := 28) (.int .i64 0) (.int .i64 0)
    rw [World.size_alloc] at this
    rw [hW]; exact this
  have hb56 := bcat2 hb5 hbW
  have hB6 := bcat2 hB4 hb56
  have hX6 := blk_below hX4 hb56
  have hF6 := blk_below hF4 hb56
  obtain ⟨c0, c1, _, _⟩ := hX6.two
  rw [hW] at c0 c1
  go_wp2_with fail
  rw [← hW] at c0 c1 ⊢
  clear hW c0 c1
  refine (HG.out _ hB6).mono ?_
  rintro x w7 ⟨rfl, hb7⟩
  have hb78 := bcat2 hb7 (balloc w7 (.cells #[.int .i64 0, .int .i64 0] 28))
  have hW8 := blk0 (w := w7) (T := 28) (.int .i64 0) (.int .i64 0)
  have hB8 := bcat2 hB6 hb78
  have hX8 := blk_below hX6 hb78
  have hQ8 := blk_below hQ6 hb78
  have hE8 := blk_below hE6 hb78
  have hF8 := blk_below hF6 hb78
  have hq8 := (hq5.below hbW).below hb78
  have hm8 := (hm5.below hbW).below hb78
  go_wp2_with fail
  generalize w7.alloc (.cells #[.int .i64 0, .int .i64 0] 28) = w8 at *
  refine (quotBegun_any _ (hT.below hB8)).mono ?_
  rintro x w9 ⟨rfl, hb9⟩
  have hB9 := bcat2 hB8 hb9
  have hX9 := blk_below hX8 hb9
  have hQ9 := blk_below hQ8 hb9
  have hq9 := hq8.below hb9
  have hm9 := hm8.below hb9
  obtain ⟨d0, d1, _, _⟩ := (blk_below hE8 hb9).two
  obtain ⟨f0, f1, _, _⟩ := (blk_below hF8 hb9).two
  obtain ⟨t0, t1, _, _⟩ := (blk_below hW8 hb9).two
  obtain ⟨g0, g1, _, _⟩ := hX9.two
  obtain ⟨k0, k1, _, _⟩ := hQ9.two
  have hS : ∀ W, Below w9.heap.size w9 W → (Below w9.heap.size w9 W ∧ W.cell? ⟨w.heap.size, 0, none⟩ = some (.int .i64 n) ∧ W.cell? ⟨w.heap.size, 1, none⟩ = some (.slice v1 v2 v3)) := fun W h => ⟨h, below_cell h g0, below_cell h g1⟩
  have HK := hide (fun W (h : Below w9.heap.size w9 W) => And.intro (below_cell h k0) (below_cell h k1))
  have hd1 : decide ((1 : Int) < (n : Int)) = B 0 := by
    rw [HW0.out]
    by_cases h : 1 < n
    · rw [decide_eq_true h]; exact decide_eq_true (by omega)
    · rw [decide_eq_false h]; exact decide_eq_false (by omega)
  have hd2 : decide (1 < n) = B 0 := HW0.out.symm
  clear hX0 hX1 hX3 hX4 hX6 hX8 hF3 hF4 hF6 hF8 hQ6 hQ8 hE6 hE8 hW8 hq8 hm8 hq5 hm5 hx9 hy9 HS HA HOG HG k0 k1
  go_wp2
  clear d0 d1 f0 f1 t0 t1 g0 g1 hd1 hd2
  go_loopw [9, 10] (fun b i wr => ∃ a : Nat, a ≤ n ∧ i = .int .i64 a ∧ b = .bool (B a) ∧ Below w9.heap.size w9 wr) (fun _ i _ => n - (intOf i).toNat)
  case atStart => exact ⟨0, Nat.zero_le _, rfl, rfl, Below.refl _ _⟩
  case round =>
    obtain ⟨a, ha, rfl, rfl, hB⟩ := hrel
    obtain ⟨_, g0, g1⟩ := hS _ hB
    by_cases hlt : a < n
    · have hai : (a : Int) < (n : Int) := by omega
      have HCG := hide (fun b (hb : b < n) => cjL_get (n := n) (zs := zs) (e := e) (a := a) hb)
      have HCLN := hide (cjL_len n zs e a)
      have HSP := hide (fun W u (h : Below w.heap.size w W) (hu : Sl W u (li (cjL n zs e a))) => HC.out W u a h hlt hu)
      generalize li (cjL n zs e a) = cl at *
      obtain ⟨wo, rfl⟩ : ∃ wo, wo = wr := ⟨_, rfl⟩
      have h0o := at0 _ (bcat2 hB9 hB)
      go_wp2
      go_loopw [11, 12] (fun r i wi => ∃ b : Nat, b ≤ n ∧ i = .int .i64 b ∧ Row wi wo.heap.size r (cl.take b) ∧ Below wo.heap.size wo wi) (fun _ i _ => n - (intOf i).toNat)
      case atStart => exact ⟨0, Nat.zero_le _, rfl, by simpa using nil_row _ _, Below.refl _ _⟩
      case round =>
        clear g0 g1
        obtain ⟨b, hb, rfl, hrow, hBi⟩ := hrel
        have hBr := bcat2 hB hBi
        obtain ⟨_, g0, g1⟩ := hS _ hBr
        by_cases hltb : b < n
        · have hbi : (b : Int) < (n : Int) := by omega
          have HCA := hide (HCJ.out wr a b (bcat2 hB9 hBr) hlt hltb)
          have HTK := hide (show cl.take (b + 1) = cl.take b ++ [(Fin.cj (tm n zs) (iv n zs e) a b : Int)] by
            rw [take_snoc' (by rw [HCLN.out]; exact hltb), HCG.out b hltb])
          generalize Fin.cj (tm n zs) (iv n zs e) a b = cj9 at *
          have HLN := hide (show (cl.take b).length ≤ 60 by rw [List.length_take]; omega)
          generalize cl.take b = xb at *
          obtain ⟨rx, rcap, rfl⟩ := own_slice hrow
          go_wp2_with fail
          refine HCA.out.mono ?_
          rintro x w11 ⟨rfl, hb11⟩
          have hown : w11.ownsRow wo.heap.size 3 1 (.slice rx xb.length rcap) xb.length (xb.map (Value.int .i64)) := row_below hrow hb11
          have hB11 := bcat2 hBi hb11
          clear hrow
          go_wp2_with (first
            | (at_builtin; refine wpList_append_own _ rfl _ _ 22 rfl wo.heap.size 3 i0 (.int .i64 0) 1 8 under22b hi hz0 hz1 hz2 rfl (by decide) _ _ _ rfl (World.ownsRow.alloc hown _) ⟨w11.heap.size, 0, none⟩ 1 1 [.int .i64 cj9] rfl rfl ?c1 ?c2 ?c3 ?c4 ?c5 ?_))
          case c1 => exact cell_one_new _ _ _
          case c2 => simp [Value.oneCell']
          case c3 => unfold maxLen; have := HLN.out; omega
          case c4 => have := HLN.out; omega
          case c5 => have := hB11.size; simp; omega
          intro v9 w12 hown' hgrow _
          obtain ⟨g', cap', rfl⟩ := ownsRow_succ hown'
          have hB12 : Below wo.heap.size wo w12 := (hB11.alloc hB11.size _).grown hgrow (by have := hB11.size; simp; omega) (fun t e9 => by have := owns_ge hown t e9; omega)
          have hrow2 : Row w12 wo.heap.size (.slice (some ⟨g', 0, none⟩) (xb.length + 1) cap') (cl.take (b + 1)) := by
            unfold Row
            rw [HTK.out]
            simpa using hown'
          clear hown hown' hgrow
          go_wp2
          go_roundw
          case rel => exact ⟨b + 1, by omega, by go_num, hrow2, hB12⟩
          case measure => simp [intOf]; omega
        · have hbi : ¬ (b : Int) < (n : Int) := by omega
          have hcl9 : cl.take b = cl := List.take_of_length_le (by rw [HCLN.out]; omega)
          rw [hcl9] at hrow
          have hBw := hB9
          have hrs := row_sl hrow (at0 _ (bcat2 hB9 hBr))
          obtain ⟨rx, rcap, rfl⟩ := own_slice hrow
          have HLA := hide (HLE.out a hlt)
          have HWA := hide (HWS.out a)
          clear hcl9 hrow HCG HCJ HCM HD HI HM HC
          have hB := hBr
          cases hBa : B a with
          | false =>
            have HBN := hide (show B (a + 1) = false by rw [HWA.out, hBa]; rfl)
            clear hBa
            go_wp2_with fail
            go_quiet (fail)
            have hBq := bdrewN hBr nq
            generalize wr.drewN nq = wq at hBq ⊢
            go_wp2
            go_roundw
            case rel => exact ⟨a + 1, by omega, by go_num, by rw [HBN.out], hBq⟩
            case measure => simp [intOf]; omega
          | true =>
            by_cases hae : a = e
            · have hei : (a : Int) = (e : Int) := by omega
              have HBN := hide (show B (a + 1) = true by rw [HWA.out, hBa, decide_eq_true hae]; rfl)
              clear hBa hae
              go_wp2_with fail
              refine wp_region_held_drew (S := (fun W => Below w9.heap.size w9 W ∧ W.cell? ⟨w.heap.size, 0, none⟩ = some (.int .i64 n) ∧ W.cell? ⟨w.heap.size, 1, none⟩ = some (.slice v1 v2 v3))) (by kernel_rfl) (hS _ (bdrew hB)) (fun hHeld => ?_)
              refine wpAnyH_take (i := 0) (oi := ({ dst := some 79, op := Go.Op.move (Go.Operand.tmp 9), type := 4, pos := _, after := #[], guard := none } : Oper)) (v := ?_) rfl (by kernel_rfl) (by kernel_rfl) (by kernel_rfl) (fun _ _ _ h => h) (Or.inl ⟨by rfl, ?_⟩) (by assumption) ?_
              rotate_left
              · (intro w hSw; (try dsimp only at hSw); go_simp; try with_reducible rfl)
              simp only [Act.put, List.setIfInBounds_toArray, List.set_cons_zero, List.set_cons_succ]
              refine wpAnyH_take (i := 1) (oi := ({ dst := some 80, op := Go.Op.move (Go.Operand.tmp 79), type := 4, pos := _, after := #[{ on := 0, ground := Go.Ground.data }], guard := none } : Oper)) (v := ?_) rfl (by kernel_rfl) (by kernel_rfl) (by kernel_rfl) (fun _ _ _ h => h) (Or.inl ⟨by rfl, ?_⟩) (by assumption) ?_
              rotate_left
              · (intro w hSw; (try dsimp only at hSw); go_simp; try with_reducible rfl)
              simp only [Act.put, List.setIfInBounds_toArray, List.set_cons_zero, List.set_cons_succ]
              refine wpAnyH_take (i := 2) (oi := ({ dst := some 81, op := Go.Op.move (Go.Operand.tmp 10), type := 3, pos := _, after := #[{ on := 1, ground := Go.Ground.guard }], guard := some (1, true) } : Oper)) (v := ?_) rfl (by kernel_rfl) (by kernel_rfl) (by kernel_rfl) (fun _ _ _ h => h) (Or.inl ⟨by rfl, ?_⟩) (by assumption) ?_
              rotate_left
              · (intro w hSw; (try dsimp only at hSw); go_simp; try with_reducible rfl)
              simp only [Act.put, List.setIfInBounds_toArray, List.set_cons_zero, List.set_cons_succ]
              refine wpAnyH_take (i := 3) (oi := ({ dst := some 82, op := Go.Op.load 24 (Go.Operand.tmp 1), type := 24, pos := _, after := #[{ on := 1, ground := Go.Ground.guard }], guard := some (1, true) } : Oper)) (v := ?_) rfl (by kernel_rfl) (by kernel_rfl) (by kernel_rfl) (fun _ _ _ h => h) (Or.inl ⟨by rfl, ?_⟩) (by assumption) ?_
              rotate_left
              · (intro w hSw; (try dsimp only at hSw); go_simp; try with_reducible rfl)
              simp only [Act.put, List.setIfInBounds_toArray, List.set_cons_zero, List.set_cons_succ]
              refine wpAnyH_ready (rs := [4]) (by kernel_rfl) (by simp) (AllReadyH.cons (o := ({ dst := some 83, op := Go.Op.call { callee := Go.Callee.value (Go.Operand.func 23), args := #[Go.Operand.tmp 82], argTypes := #[24] }, type := 3, pos := _, after := #[{ on := 3, ground := Go.Ground.data }, { on := 1, ground := Go.Ground.chain }, { on := 1, ground := Go.Ground.guard }], guard := some (1, true) } : Oper)) rfl (fun KK hK => ?_) AllReadyH.nil)
              go_simp
              refine (HE.out _ (bcat2 hBw (And.left hHeld))).mono ?_
              rintro x U1 ⟨rfl, hl1⟩
              try go_wp2_with fail
              refine hK.out _ _ (hS _ (bcat2 (And.left hHeld) hl1)) (fun hHeld => ?_)
              clear hK
              try simp only [Act.put, List.setIfInBounds_toArray, List.set_cons_zero, List.set_cons_succ]
              refine wpAnyH_take (i := 5) (oi := ({ dst := some 84, op := Go.Op.binOp Go.BinOp.eql 3 (Go.Operand.tmp 81) (Go.Operand.tmp 83) 3, type := 4, pos := _, after := #[{ on := 2, ground := Go.Ground.data }, { on := 4, ground := Go.Ground.data }, { on := 1, ground := Go.Ground.guard }], guard := some (1, true) } : Oper)) (v := ?_) rfl (by kernel_rfl) (by kernel_rfl) (by kernel_rfl) (fun _ _ _ h => h) (Or.inl ⟨by rfl, ?_⟩) (by assumption) ?_
              rotate_left
              · (intro w hSw; (try dsimp only at hSw); go_simp; try with_reducible rfl)
              simp only [Act.put, List.setIfInBounds_toArray, List.set_cons_zero, List.set_cons_succ]
              refine wpAnyH_take (i := 6) (oi := ({ dst := some 85, op := Go.Op.move (Go.Operand.tmp 84), type := 4, pos := _, after := #[{ on := 5, ground := Go.Ground.data }, { on := 4, ground := Go.Ground.chain }, { on := 1, ground := Go.Ground.guard }], guard := some (1, true) } : Oper)) (v := ?_) rfl (by kernel_rfl) (by kernel_rfl) (by kernel_rfl) (fun _ _ _ h => h) (Or.inl ⟨by rfl, ?_⟩) (by assumption) ?_
              rotate_left
              · (intro w hSw; (try dsimp only at hSw); go_simp; try with_reducible rfl)
              simp only [Act.put, List.setIfInBounds_toArray, List.set_cons_zero, List.set_cons_succ]
              refine wpAnyH_take (i := 7) (oi := ({ dst := some 86, op := Go.Op.load 24 (Go.Operand.tmp 1), type := 24, pos := _, after := #[{ on := 6, ground := Go.Ground.guard }], guard := some (6, false) } : Oper)) (v := undef) rfl (by kernel_rfl) (by kernel_rfl) (by kernel_rfl) (fun _ _ _ h => h) (Or.inr ⟨by rfl, rfl⟩) (by assumption) ?_
              simp only [Act.put, List.setIfInBounds_toArray, List.set_cons_zero, List.set_cons_succ]
              refine wpAnyH_take (i := 8) (oi := ({ dst := some 87, op := Go.Op.move (Go.Operand.tmp 11), type := 22, pos := _, after := #[{ on := 6, ground := Go.Ground.guard }], guard := some (6, false) } : Oper)) (v := undef) rfl (by kernel_rfl) (by kernel_rfl) (by kernel_rfl) (fun _ _ _ h => h) (Or.inr ⟨by rfl, rfl⟩) (by assumption) ?_
              simp only [Act.put, List.setIfInBounds_toArray, List.set_cons_zero, List.set_cons_succ]
              refine wpAnyH_take (i := 9) (oi := ({ dst := some 88, op := Go.Op.call { callee := Go.Callee.value (Go.Operand.func 49), args := #[Go.Operand.tmp 86, Go.Operand.tmp 87], argTypes := #[24, 22] }, type := 22, pos := _, after := #[{ on := 7, ground := Go.Ground.data }, { on := 8, ground := Go.Ground.data }, { on := 6, ground := Go.Ground.chain }, { on := 6, ground := Go.Ground.guard }], guard := some (6, false) } : Oper)) (v := undef) rfl (by kernel_rfl) (by kernel_rfl) (by kernel_rfl) (fun _ _ _ h => h) (Or.inr ⟨by rfl, rfl⟩) (by assumption) ?_
              simp only [Act.put, List.setIfInBounds_toArray, List.set_cons_zero, List.set_cons_succ]
              refine wpAnyH_take (i := 10) (oi := ({ dst := some 89, op := Go.Op.call { callee := Go.Callee.builtin Go.Builtin.len, args := #[Go.Operand.tmp 88], argTypes := #[22] }, type := 3, pos := _, after := #[{ on := 9, ground := Go.Ground.data }, { on := 6, ground := Go.Ground.guard }], guard := some (6, false) } : Oper)) (v := undef) rfl (by kernel_rfl) (by kernel_rfl) (by kernel_rfl) (fun _ _ _ h => h) (Or.inr ⟨by rfl, rfl⟩) (by assumption) ?_
              simp only [Act.put, List.setIfInBounds_toArray, List.set_cons_zero, List.set_cons_succ]
              refine wpAnyH_take (i := 11) (oi := ({ dst := some 90, op := Go.Op.fieldAddr 24 (Go.Operand.tmp 1) 0, type := 0, pos := _, after := #[{ on := 6, ground := Go.Ground.guard }], guard := some (6, false) } : Oper)) (v := undef) rfl (by kernel_rfl) (by kernel_rfl) (by kernel_rfl) (fun _ _ _ h => h) (Or.inr ⟨by rfl, rfl⟩) (by assumption) ?_
              simp only [Act.put, List.setIfInBounds_toArray, List.set_cons_zero, List.set_cons_succ]
              refine wpAnyH_take (i := 12) (oi := ({ dst := some 91, op := Go.Op.load 3 (Go.Operand.tmp 90), type := 3, pos := _, after := #[{ on := 11, ground := Go.Ground.data }, { on := 6, ground := Go.Ground.guard }], guard := some (6, false) } : Oper)) (v := undef) rfl (by kernel_rfl) (by kernel_rfl) (by kernel_rfl) (fun _ _ _ h => h) (Or.inr ⟨by rfl, rfl⟩) (by assumption) ?_
              simp only [Act.put, List.setIfInBounds_toArray, List.set_cons_zero, List.set_cons_succ]
              refine wpAnyH_take (i := 13) (oi := ({ dst := some 92, op := Go.Op.binOp Go.BinOp.eql 3 (Go.Operand.tmp 89) (Go.Operand.tmp 91) 3, type := 4, pos := _, after := #[{ on := 10, ground := Go.Ground.data }, { on := 12, ground := Go.Ground.data }, { on := 6, ground := Go.Ground.guard }], guard := some (6, false) } : Oper)) (v := undef) rfl (by kernel_rfl) (by kernel_rfl) (by kernel_rfl) (fun _ _ _ h => h) (Or.inr ⟨by rfl, rfl⟩) (by assumption) ?_
              simp only [Act.put, List.setIfInBounds_toArray, List.set_cons_zero, List.set_cons_succ]
              refine wpAnyH_take (i := 14) (oi := ({ dst := some 93, op := Go.Op.pick (Go.Operand.tmp 85) (Go.Operand.const (Go.Value.bool true)) (Go.Operand.tmp 92), type := 4, pos := _, after := #[{ on := 6, ground := Go.Ground.data }, { on := 13, ground := Go.Ground.data }, { on := 1, ground := Go.Ground.guard }], guard := some (1, true) } : Oper)) (v := ?_) rfl (by kernel_rfl) (by kernel_rfl) (by kernel_rfl) (fun _ _ _ h => h) (Or.inl ⟨by rfl, ?_⟩) (by assumption) ?_
              rotate_left
              · (intro w hSw; (try dsimp only at hSw); go_simp; try with_reducible rfl)
              simp only [Act.put, List.setIfInBounds_toArray, List.set_cons_zero, List.set_cons_succ]
              refine wpAnyH_take (i := 15) (oi := ({ dst := some 94, op := Go.Op.pick (Go.Operand.tmp 80) (Go.Operand.tmp 93) (Go.Operand.const (Go.Value.bool false)), type := 4, pos := _, after := #[{ on := 1, ground := Go.Ground.data }, { on := 14, ground := Go.Ground.data }], guard := none } : Oper)) (v := ?_) rfl (by kernel_rfl) (by kernel_rfl) (by kernel_rfl) (fun _ _ _ h => h) (Or.inl ⟨by rfl, ?_⟩) (by assumption) ?_
              rotate_left
              · (intro w hSw; (try dsimp only at hSw); go_simp; try with_reducible rfl)
              simp only [Act.put, List.setIfInBounds_toArray, List.set_cons_zero, List.set_cons_succ]
              refine wpAnyH_take (i := 16) (oi := ({ dst := some 9, op := Go.Op.assign (Go.Operand.tmp 94), type := 4, pos := _, after := #[{ on := 15, ground := Go.Ground.data }, { on := 9, ground := Go.Ground.chain }, { on := 0, ground := Go.Ground.phase }, { on := 1, ground := Go.Ground.phase }, { on := 2, ground := Go.Ground.phase }, { on := 3, ground := Go.Ground.phase }, { on := 4, ground := Go.Ground.phase }, { on := 5, ground := Go.Ground.phase }, { on := 6, ground := Go.Ground.phase }, { on := 7, ground := Go.Ground.phase }, { on := 8, ground := Go.Ground.phase }, { on := 9, ground := Go.Ground.phase }, { on := 10, ground := Go.Ground.phase }, { on := 11, ground := Go.Ground.phase }, { on := 12, ground := Go.Ground.phase }, { on := 13, ground := Go.Ground.phase }, { on := 14, ground := Go.Ground.phase }, { on := 15, ground := Go.Ground.phase }], guard := none } : Oper)) (v := ?_) rfl (by kernel_rfl) (by kernel_rfl) (by kernel_rfl) (fun _ _ _ h => h) (Or.inl ⟨by rfl, ?_⟩) (by assumption) ?_
              rotate_left
              · (intro w hSw; (try dsimp only at hSw); go_simp; try with_reducible rfl)
              simp only [Act.put, List.setIfInBounds_toArray, List.set_cons_zero, List.set_cons_succ]
              refine wpAnyH_done (by kernel_rfl) ?_ _
              have hBq := And.left hHeld
              go_wp2
              go_roundw
              case rel => exact ⟨a + 1, by omega, by go_num, by rw [HBN.out], hBq⟩
              case measure => simp [intOf]; omega
            · have hei : ¬ (a : Int) = (e : Int) := by omega
              have hd1 : ((a : Int) == (e : Int)) = false := by simpa using hei
              have hd2 : decide (a = e) = false := decide_eq_false hae
              have hd3 : (a == e) = false := by simpa using hae
              by_cases hLn : L a = n
              · have HBN := hide (show B (a + 1) = true by rw [HWA.out, hBa, decide_eq_false hae, decide_eq_false (by omega)]; rfl)
                have hli : (L a : Int) = (n : Int) := by omega
                generalize L a = la at *
                clear hBa
                go_wp2_with fail
                refine wp_region_held_drew (S := (fun W => Below w9.heap.size w9 W ∧ W.cell? ⟨w.heap.size, 0, none⟩ = some (.int .i64 n) ∧ W.cell? ⟨w.heap.size, 1, none⟩ = some (.slice v1 v2 v3))) (by kernel_rfl) (hS _ (bdrew hB)) (fun hHeld => ?_)
                refine wpAnyH_take (i := 0) (oi := ({ dst := some 79, op := Go.Op.move (Go.Operand.tmp 9), type := 4, pos := _, after := #[], guard := none } : Oper)) (v := ?_) rfl (by kernel_rfl) (by kernel_rfl) (by kernel_rfl) (fun _ _ _ h => h) (Or.inl ⟨by rfl, ?_⟩) (by assumption) ?_
                rotate_left
                · (intro w hSw; (try dsimp only at hSw); go_simp; try with_reducible rfl)
                simp only [Act.put, List.setIfInBounds_toArray, List.set_cons_zero, List.set_cons_succ]
                refine wpAnyH_take (i := 1) (oi := ({ dst := some 80, op := Go.Op.move (Go.Operand.tmp 79), type := 4, pos := _, after := #[{ on := 0, ground := Go.Ground.data }], guard := none } : Oper)) (v := ?_) rfl (by kernel_rfl) (by kernel_rfl) (by kernel_rfl) (fun _ _ _ h => h) (Or.inl ⟨by rfl, ?_⟩) (by assumption) ?_
                rotate_left
                · (intro w hSw; (try dsimp only at hSw); go_simp; try with_reducible rfl)
                simp only [Act.put, List.setIfInBounds_toArray, List.set_cons_zero, List.set_cons_succ]
                refine wpAnyH_take (i := 2) (oi := ({ dst := some 81, op := Go.Op.move (Go.Operand.tmp 10), type := 3, pos := _, after := #[{ on := 1, ground := Go.Ground.guard }], guard := some (1, true) } : Oper)) (v := ?_) rfl (by kernel_rfl) (by kernel_rfl) (by kernel_rfl) (fun _ _ _ h => h) (Or.inl ⟨by rfl, ?_⟩) (by assumption) ?_
                rotate_left
                · (intro w hSw; (try dsimp only at hSw); go_simp; try with_reducible rfl)
                simp only [Act.put, List.setIfInBounds_toArray, List.set_cons_zero, List.set_cons_succ]
                refine wpAnyH_take (i := 3) (oi := ({ dst := some 82, op := Go.Op.load 24 (Go.Operand.tmp 1), type := 24, pos := _, after := #[{ on := 1, ground := Go.Ground.guard }], guard := some (1, true) } : Oper)) (v := ?_) rfl (by kernel_rfl) (by kernel_rfl) (by kernel_rfl) (fun _ _ _ h => h) (Or.inl ⟨by rfl, ?_⟩) (by assumption) ?_
                rotate_left
                · (intro w hSw; (try dsimp only at hSw); go_simp; try with_reducible rfl)
                simp only [Act.put, List.setIfInBounds_toArray, List.set_cons_zero, List.set_cons_succ]
                refine wpAnyH_ready (rs := [4]) (by kernel_rfl) (by simp) (AllReadyH.cons (o := ({ dst := some 83, op := Go.Op.call { callee := Go.Callee.value (Go.Operand.func 23), args := #[Go.Operand.tmp 82], argTypes := #[24] }, type := 3, pos := _, after := #[{ on := 3, ground := Go.Ground.data }, { on := 1, ground := Go.Ground.chain }, { on := 1, ground := Go.Ground.guard }], guard := some (1, true) } : Oper)) rfl (fun KK hK => ?_) AllReadyH.nil)
                go_simp
                refine (HE.out _ (bcat2 hBw (And.left hHeld))).mono ?_
                rintro x U1 ⟨rfl, hl1⟩
                try go_wp2_with fail
                refine hK.out _ _ (hS _ (bcat2 (And.left hHeld) hl1)) (fun hHeld => ?_)
                clear hK
                try simp only [Act.put, List.setIfInBounds_toArray, List.set_cons_zero, List.set_cons_succ]
                refine wpAnyH_take (i := 5) (oi := ({ dst := some 84, op := Go.Op.binOp Go.BinOp.eql 3 (Go.Operand.tmp 81) (Go.Operand.tmp 83) 3, type := 4, pos := _, after := #[{ on := 2, ground := Go.Ground.data }, { on := 4, ground := Go.Ground.data }, { on := 1, ground := Go.Ground.guard }], guard := some (1, true) } : Oper)) (v := ?_) rfl (by kernel_rfl) (by kernel_rfl) (by kernel_rfl) (fun _ _ _ h => h) (Or.inl ⟨by rfl, ?_⟩) (by assumption) ?_
                rotate_left
                · (intro w hSw; (try dsimp only at hSw); go_simp; try with_reducible rfl)
                simp only [Act.put, List.setIfInBounds_toArray, List.set_cons_zero, List.set_cons_succ]
                refine wpAnyH_take (i := 6) (oi := ({ dst := some 85, op := Go.Op.move (Go.Operand.tmp 84), type := 4, pos := _, after := #[{ on := 5, ground := Go.Ground.data }, { on := 4, ground := Go.Ground.chain }, { on := 1, ground := Go.Ground.guard }], guard := some (1, true) } : Oper)) (v := ?_) rfl (by kernel_rfl) (by kernel_rfl) (by kernel_rfl) (fun _ _ _ h => h) (Or.inl ⟨by rfl, ?_⟩) (by assumption) ?_
                rotate_left
                · (intro w hSw; (try dsimp only at hSw); go_simp; try with_reducible rfl)
                simp only [Act.put, List.setIfInBounds_toArray, List.set_cons_zero, List.set_cons_succ]
                refine wpAnyH_take (i := 7) (oi := ({ dst := some 86, op := Go.Op.load 24 (Go.Operand.tmp 1), type := 24, pos := _, after := #[{ on := 6, ground := Go.Ground.guard }], guard := some (6, false) } : Oper)) (v := ?_) rfl (by kernel_rfl) (by kernel_rfl) (by kernel_rfl) (fun _ _ _ h => h) (Or.inl ⟨by rfl, ?_⟩) (by assumption) ?_
                rotate_left
                · (intro w hSw; (try dsimp only at hSw); go_simp; try with_reducible rfl)
                simp only [Act.put, List.setIfInBounds_toArray, List.set_cons_zero, List.set_cons_succ]
                refine wpAnyH_take (i := 8) (oi := ({ dst := some 87, op := Go.Op.move (Go.Operand.tmp 11), type := 22, pos := _, after := #[{ on := 6, ground := Go.Ground.guard }], guard := some (6, false) } : Oper)) (v := ?_) rfl (by kernel_rfl) (by kernel_rfl) (by kernel_rfl) (fun _ _ _ h => h) (Or.inl ⟨by rfl, ?_⟩) (by assumption) ?_
                rotate_left
                · (intro w hSw; (try dsimp only at hSw); go_simp; try with_reducible rfl)
                simp only [Act.put, List.setIfInBounds_toArray, List.set_cons_zero, List.set_cons_succ]
                refine wpAnyH_take (i := 11) (oi := ({ dst := some 90, op := Go.Op.fieldAddr 24 (Go.Operand.tmp 1) 0, type := 0, pos := _, after := #[{ on := 6, ground := Go.Ground.guard }], guard := some (6, false) } : Oper)) (v := ?_) rfl (by kernel_rfl) (by kernel_rfl) (by kernel_rfl) (fun _ _ _ h => h) (Or.inl ⟨by rfl, ?_⟩) (by assumption) ?_
                rotate_left
                · (intro w hSw; (try dsimp only at hSw); go_simp; try with_reducible rfl)
                simp only [Act.put, List.setIfInBounds_toArray, List.set_cons_zero, List.set_cons_succ]
                refine wpAnyH_take (i := 12) (oi := ({ dst := some 91, op := Go.Op.load 3 (Go.Operand.tmp 90), type := 3, pos := _, after := #[{ on := 11, ground := Go.Ground.data }, { on := 6, ground := Go.Ground.guard }], guard := some (6, false) } : Oper)) (v := ?_) rfl (by kernel_rfl) (by kernel_rfl) (by kernel_rfl) (fun _ _ _ h => h) (Or.inl ⟨by rfl, ?_⟩) (by assumption) ?_
                rotate_left
                · (intro w hSw; (try dsimp only at hSw); go_simp; try with_reducible rfl)
                simp only [Act.put, List.setIfInBounds_toArray, List.set_cons_zero, List.set_cons_succ]
                refine wpAnyH_ready (rs := [9]) (by kernel_rfl) (by simp) (AllReadyH.cons (o := ({ dst := some 88, op := Go.Op.call { callee := Go.Callee.value (Go.Operand.func 49), args := #[Go.Operand.tmp 86, Go.Operand.tmp 87], argTypes := #[24, 22] }, type := 22, pos := _, after := #[{ on := 7, ground := Go.Ground.data }, { on := 8, ground := Go.Ground.data }, { on := 6, ground := Go.Ground.chain }, { on := 6, ground := Go.Ground.guard }], guard := some (6, false) } : Oper)) rfl (fun KK hK => ?_) AllReadyH.nil)
                go_simp
                refine (HSP.out _ _ (bcat2 hBw (And.left hHeld)) (hrs.below (bcat2 (bdrew (Below.refl _ wr)) hl1))).mono ?_
                rintro x U2 ⟨q1, q3, rfl, hl2⟩
                try go_wp2_with fail
                refine hK.out _ _ (hS _ (bcat2 (And.left hHeld) hl2)) (fun hHeld => ?_)
                clear hK
                try simp only [Act.put, List.setIfInBounds_toArray, List.set_cons_zero, List.set_cons_succ]
                refine wpAnyH_take (i := 10) (oi := ({ dst := some 89, op := Go.Op.call { callee := Go.Callee.builtin Go.Builtin.len, args := #[Go.Operand.tmp 88], argTypes := #[22] }, type := 3, pos := _, after := #[{ on := 9, ground := Go.Ground.data }, { on := 6, ground := Go.Ground.guard }], guard := some (6, false) } : Oper)) (v := ?_) rfl (by kernel_rfl) (by kernel_rfl) (by kernel_rfl) (fun _ _ _ h => h) (Or.inl ⟨by rfl, ?_⟩) (by assumption) ?_
                rotate_left
                · (intro w hSw; (try dsimp only at hSw); go_simp; try with_reducible rfl)
                simp only [Act.put, List.setIfInBounds_toArray, List.set_cons_zero, List.set_cons_succ]
                refine wpAnyH_take (i := 13) (oi := ({ dst := some 92, op := Go.Op.binOp Go.BinOp.eql 3 (Go.Operand.tmp 89) (Go.Operand.tmp 91) 3, type := 4, pos := _, after := #[{ on := 10, ground := Go.Ground.data }, { on := 12, ground := Go.Ground.data }, { on := 6, ground := Go.Ground.guard }], guard := some (6, false) } : Oper)) (v := ?_) rfl (by kernel_rfl) (by kernel_rfl) (by kernel_rfl) (fun _ _ _ h => h) (Or.inl ⟨by rfl, ?_⟩) (by assumption) ?_
                rotate_left
                · (intro w hSw; (try dsimp only at hSw); go_simp; try with_reducible rfl)
                simp only [Act.put, List.setIfInBounds_toArray, List.set_cons_zero, List.set_cons_succ]
                refine wpAnyH_take (i := 14) (oi := ({ dst := some 93, op := Go.Op.pick (Go.Operand.tmp 85) (Go.Operand.const (Go.Value.bool true)) (Go.Operand.tmp 92), type := 4, pos := _, after := #[{ on := 6, ground := Go.Ground.data }, { on := 13, ground := Go.Ground.data }, { on := 1, ground := Go.Ground.guard }], guard := some (1, true) } : Oper)) (v := ?_) rfl (by kernel_rfl) (by kernel_rfl) (by kernel_rfl) (fun _ _ _ h => h) (Or.inl ⟨by rfl, ?_⟩) (by assumption) ?_
                rotate_left
                · (intro w hSw; (try dsimp only at hSw); go_simp; try with_reducible rfl)
                simp only [Act.put, List.setIfInBounds_toArray, List.set_cons_zero, List.set_cons_succ]
                refine wpAnyH_take (i := 15) (oi := ({ dst := some 94, op := Go.Op.pick (Go.Operand.tmp 80) (Go.Operand.tmp 93) (Go.Operand.const (Go.Value.bool false)), type := 4, pos := _, after := #[{ on := 1, ground := Go.Ground.data }, { on := 14, ground := Go.Ground.data }], guard := none } : Oper)) (v := ?_) rfl (by kernel_rfl) (by kernel_rfl) (by kernel_rfl) (fun _ _ _ h => h) (Or.inl ⟨by rfl, ?_⟩) (by assumption) ?_
                rotate_left
                · (intro w hSw; (try dsimp only at hSw); go_simp; try with_reducible rfl)
                simp only [Act.put, List.setIfInBounds_toArray, List.set_cons_zero, List.set_cons_succ]
                refine wpAnyH_take (i := 16) (oi := ({ dst := some 9, op := Go.Op.assign (Go.Operand.tmp 94), type := 4, pos := _, after := #[{ on := 15, ground := Go.Ground.data }, { on := 9, ground := Go.Ground.chain }, { on := 0, ground := Go.Ground.phase }, { on := 1, ground := Go.Ground.phase }, { on := 2, ground := Go.Ground.phase }, { on := 3, ground := Go.Ground.phase }, { on := 4, ground := Go.Ground.phase }, { on := 5, ground := Go.Ground.phase }, { on := 6, ground := Go.Ground.phase }, { on := 7, ground := Go.Ground.phase }, { on := 8, ground := Go.Ground.phase }, { on := 9, ground := Go.Ground.phase }, { on := 10, ground := Go.Ground.phase }, { on := 11, ground := Go.Ground.phase }, { on := 12, ground := Go.Ground.phase }, { on := 13, ground := Go.Ground.phase }, { on := 14, ground := Go.Ground.phase }, { on := 15, ground := Go.Ground.phase }], guard := none } : Oper)) (v := ?_) rfl (by kernel_rfl) (by kernel_rfl) (by kernel_rfl) (fun _ _ _ h => h) (Or.inl ⟨by rfl, ?_⟩) (by assumption) ?_
                rotate_left
                · (intro w hSw; (try dsimp only at hSw); go_simp; try with_reducible rfl)
                simp only [Act.put, List.setIfInBounds_toArray, List.set_cons_zero, List.set_cons_succ]
                refine wpAnyH_done (by kernel_rfl) ?_ _
                have hBq := And.left hHeld
                go_wp2
                go_roundw
                case rel => exact ⟨a + 1, by omega, by go_num, by rw [HBN.out], hBq⟩
                case measure => simp [intOf]; omega
              · have HBN := hide (show B (a + 1) = false by rw [HWA.out, hBa, decide_eq_false hae, decide_eq_true (by have := HLA.out; omega)]; rfl)
                have hli : ¬ (L a : Int) = (n : Int) := by omega
                generalize L a = la at *
                have hf1 : ((la : Int) == (n : Int)) = false := by simpa using hli
                have hf2 : (la == n) = false := by simpa using hLn
                clear hBa
                go_wp2_with fail
                refine wp_region_held_drew (S := (fun W => Below w9.heap.size w9 W ∧ W.cell? ⟨w.heap.size, 0, none⟩ = some (.int .i64 n) ∧ W.cell? ⟨w.heap.size, 1, none⟩ = some (.slice v1 v2 v3))) (by kernel_rfl) (hS _ (bdrew hB)) (fun hHeld => ?_)
                refine wpAnyH_take (i := 0) (oi := ({ dst := some 79, op := Go.Op.move (Go.Operand.tmp 9), type := 4, pos := _, after := #[], guard := none } : Oper)) (v := ?_) rfl (by kernel_rfl) (by kernel_rfl) (by kernel_rfl) (fun _ _ _ h => h) (Or.inl ⟨by rfl, ?_⟩) (by assumption) ?_
                rotate_left
                · (intro w hSw; (try dsimp only at hSw); go_simp; try with_reducible rfl)
                simp only [Act.put, List.setIfInBounds_toArray, List.set_cons_zero, List.set_cons_succ]
                refine wpAnyH_take (i := 1) (oi := ({ dst := some 80, op := Go.Op.move (Go.Operand.tmp 79), type := 4, pos := _, after := #[{ on := 0, ground := Go.Ground.data }], guard := none } : Oper)) (v := ?_) rfl (by kernel_rfl) (by kernel_rfl) (by kernel_rfl) (fun _ _ _ h => h) (Or.inl ⟨by rfl, ?_⟩) (by assumption) ?_
                rotate_left
                · (intro w hSw; (try dsimp only at hSw); go_simp; try with_reducible rfl)
                simp only [Act.put, List.setIfInBounds_toArray, List.set_cons_zero, List.set_cons_succ]
                refine wpAnyH_take (i := 2) (oi := ({ dst := some 81, op := Go.Op.move (Go.Operand.tmp 10), type := 3, pos := _, after := #[{ on := 1, ground := Go.Ground.guard }], guard := some (1, true) } : Oper)) (v := ?_) rfl (by kernel_rfl) (by kernel_rfl) (by kernel_rfl) (fun _ _ _ h => h) (Or.inl ⟨by rfl, ?_⟩) (by assumption) ?_
                rotate_left
                · (intro w hSw; (try dsimp only at hSw); go_simp; try with_reducible rfl)
                simp only [Act.put, List.setIfInBounds_toArray, List.set_cons_zero, List.set_cons_succ]
                refine wpAnyH_take (i := 3) (oi := ({ dst := some 82, op := Go.Op.load 24 (Go.Operand.tmp 1), type := 24, pos := _, after := #[{ on := 1, ground := Go.Ground.guard }], guard := some (1, true) } : Oper)) (v := ?_) rfl (by kernel_rfl) (by kernel_rfl) (by kernel_rfl) (fun _ _ _ h => h) (Or.inl ⟨by rfl, ?_⟩) (by assumption) ?_
                rotate_left
                · (intro w hSw; (try dsimp only at hSw); go_simp; try with_reducible rfl)
                simp only [Act.put, List.setIfInBounds_toArray, List.set_cons_zero, List.set_cons_succ]
                refine wpAnyH_ready (rs := [4]) (by kernel_rfl) (by simp) (AllReadyH.cons (o := ({ dst := some 83, op := Go.Op.call { callee := Go.Callee.value (Go.Operand.func 23), args := #[Go.Operand.tmp 82], argTypes := #[24] }, type := 3, pos := _, after := #[{ on := 3, ground := Go.Ground.data }, { on := 1, ground := Go.Ground.chain }, { on := 1, ground := Go.Ground.guard }], guard := some (1, true) } : Oper)) rfl (fun KK hK => ?_) AllReadyH.nil)
                go_simp
                refine (HE.out _ (bcat2 hBw (And.left hHeld))).mono ?_
                rintro x U1 ⟨rfl, hl1⟩
                try go_wp2_with fail
                refine hK.out _ _ (hS _ (bcat2 (And.left hHeld) hl1)) (fun hHeld => ?_)
                clear hK
                try simp only [Act.put, List.setIfInBounds_toArray, List.set_cons_zero, List.set_cons_succ]
                refine wpAnyH_take (i := 5) (oi := ({ dst := some 84, op := Go.Op.binOp Go.BinOp.eql 3 (Go.Operand.tmp 81) (Go.Operand.tmp 83) 3, type := 4, pos := _, after := #[{ on := 2, ground := Go.Ground.data }, { on := 4, ground := Go.Ground.data }, { on := 1, ground := Go.Ground.guard }], guard := some (1, true) } : Oper)) (v := ?_) rfl (by kernel_rfl) (by kernel_rfl) (by kernel_rfl) (fun _ _ _ h => h) (Or.inl ⟨by rfl, ?_⟩) (by assumption) ?_
                rotate_left
                · (intro w hSw; (try dsimp only at hSw); go_simp; try with_reducible rfl)
                simp only [Act.put, List.setIfInBounds_toArray, List.set_cons_zero, List.set_cons_succ]
                refine wpAnyH_take (i := 6) (oi := ({ dst := some 85, op := Go.Op.move (Go.Operand.tmp 84), type := 4, pos := _, after := #[{ on := 5, ground := Go.Ground.data }, { on := 4, ground := Go.Ground.chain }, { on := 1, ground := Go.Ground.guard }], guard := some (1, true) } : Oper)) (v := ?_) rfl (by kernel_rfl) (by kernel_rfl) (by kernel_rfl) (fun _ _ _ h => h) (Or.inl ⟨by rfl, ?_⟩) (by assumption) ?_
                rotate_left
                · (intro w hSw; (try dsimp only at hSw); go_simp; try with_reducible rfl)
                simp only [Act.put, List.setIfInBounds_toArray, List.set_cons_zero, List.set_cons_succ]
                refine wpAnyH_take (i := 7) (oi := ({ dst := some 86, op := Go.Op.load 24 (Go.Operand.tmp 1), type := 24, pos := _, after := #[{ on := 6, ground := Go.Ground.guard }], guard := some (6, false) } : Oper)) (v := ?_) rfl (by kernel_rfl) (by kernel_rfl) (by kernel_rfl) (fun _ _ _ h => h) (Or.inl ⟨by rfl, ?_⟩) (by assumption) ?_
                rotate_left
                · (intro w hSw; (try dsimp only at hSw); go_simp; try with_reducible rfl)
                simp only [Act.put, List.setIfInBounds_toArray, List.set_cons_zero, List.set_cons_succ]
                refine wpAnyH_take (i := 8) (oi := ({ dst := some 87, op := Go.Op.move (Go.Operand.tmp 11), type := 22, pos := _, after := #[{ on := 6, ground := Go.Ground.guard }], guard := some (6, false) } : Oper)) (v := ?_) rfl (by kernel_rfl) (by kernel_rfl) (by kernel_rfl) (fun _ _ _ h => h) (Or.inl ⟨by rfl, ?_⟩) (by assumption) ?_
                rotate_left
                · (intro w hSw; (try dsimp only at hSw); go_simp; try with_reducible rfl)
                simp only [Act.put, List.setIfInBounds_toArray, List.set_cons_zero, List.set_cons_succ]
                refine wpAnyH_take (i := 11) (oi := ({ dst := some 90, op := Go.Op.fieldAddr 24 (Go.Operand.tmp 1) 0, type := 0, pos := _, after := #[{ on := 6, ground := Go.Ground.guard }], guard := some (6, false) } : Oper)) (v := ?_) rfl (by kernel_rfl) (by kernel_rfl) (by kernel_rfl) (fun _ _ _ h => h) (Or.inl ⟨by rfl, ?_⟩) (by assumption) ?_
                rotate_left
                · (intro w hSw; (try dsimp only at hSw); go_simp; try with_reducible rfl)
                simp only [Act.put, List.setIfInBounds_toArray, List.set_cons_zero, List.set_cons_succ]
                refine wpAnyH_take (i := 12) (oi := ({ dst := some 91, op := Go.Op.load 3 (Go.Operand.tmp 90), type := 3, pos := _, after := #[{ on := 11, ground := Go.Ground.data }, { on := 6, ground := Go.Ground.guard }], guard := some (6, false) } : Oper)) (v := ?_) rfl (by kernel_rfl) (by kernel_rfl) (by kernel_rfl) (fun _ _ _ h => h) (Or.inl ⟨by rfl, ?_⟩) (by assumption) ?_
                rotate_left
                · (intro w hSw; (try dsimp only at hSw); go_simp; try with_reducible rfl)
                simp only [Act.put, List.setIfInBounds_toArray, List.set_cons_zero, List.set_cons_succ]
                refine wpAnyH_ready (rs := [9]) (by kernel_rfl) (by simp) (AllReadyH.cons (o := ({ dst := some 88, op := Go.Op.call { callee := Go.Callee.value (Go.Operand.func 49), args := #[Go.Operand.tmp 86, Go.Operand.tmp 87], argTypes := #[24, 22] }, type := 22, pos := _, after := #[{ on := 7, ground := Go.Ground.data }, { on := 8, ground := Go.Ground.data }, { on := 6, ground := Go.Ground.chain }, { on := 6, ground := Go.Ground.guard }], guard := some (6, false) } : Oper)) rfl (fun KK hK => ?_) AllReadyH.nil)
                go_simp
                refine (HSP.out _ _ (bcat2 hBw (And.left hHeld)) (hrs.below (bcat2 (bdrew (Below.refl _ wr)) hl1))).mono ?_
                rintro x U2 ⟨q1, q3, rfl, hl2⟩
                try go_wp2_with fail
                refine hK.out _ _ (hS _ (bcat2 (And.left hHeld) hl2)) (fun hHeld => ?_)
                clear hK
                try simp only [Act.put, List.setIfInBounds_toArray, List.set_cons_zero, List.set_cons_succ]
                refine wpAnyH_take (i := 10) (oi := ({ dst := some 89, op := Go.Op.call { callee := Go.Callee.builtin Go.Builtin.len, args := #[Go.Operand.tmp 88], argTypes := #[22] }, type := 3, pos := _, after := #[{ on := 9, ground := Go.Ground.data }, { on := 6, ground := Go.Ground.guard }], guard := some (6, false) } : Oper)) (v := ?_) rfl (by kernel_rfl) (by kernel_rfl) (by kernel_rfl) (fun _ _ _ h => h) (Or.inl ⟨by rfl, ?_⟩) (by assumption) ?_
                rotate_left
                · (intro w hSw; (try dsimp only at hSw); go_simp; try with_reducible rfl)
                simp only [Act.put, List.setIfInBounds_toArray, List.set_cons_zero, List.set_cons_succ]
                refine wpAnyH_take (i := 13) (oi := ({ dst := some 92, op := Go.Op.binOp Go.BinOp.eql 3 (Go.Operand.tmp 89) (Go.Operand.tmp 91) 3, type := 4, pos := _, after := #[{ on := 10, ground := Go.Ground.data }, { on := 12, ground := Go.Ground.data }, { on := 6, ground := Go.Ground.guard }], guard := some (6, false) } : Oper)) (v := ?_) rfl (by kernel_rfl) (by kernel_rfl) (by kernel_rfl) (fun _ _ _ h => h) (Or.inl ⟨by rfl, ?_⟩) (by assumption) ?_
                rotate_left
                · (intro w hSw; (try dsimp only at hSw); go_simp; try with_reducible rfl)
                simp only [Act.put, List.setIfInBounds_toArray, List.set_cons_zero, List.set_cons_succ]
                refine wpAnyH_take (i := 14) (oi := ({ dst := some 93, op := Go.Op.pick (Go.Operand.tmp 85) (Go.Operand.const (Go.Value.bool true)) (Go.Operand.tmp 92), type := 4, pos := _, after := #[{ on := 6, ground := Go.Ground.data }, { on := 13, ground := Go.Ground.data }, { on := 1, ground := Go.Ground.guard }], guard := some (1, true) } : Oper)) (v := ?_) rfl (by kernel_rfl) (by kernel_rfl) (by kernel_rfl) (fun _ _ _ h => h) (Or.inl ⟨by rfl, ?_⟩) (by assumption) ?_
                rotate_left
                · (intro w hSw; (try dsimp only at hSw); go_simp; try with_reducible rfl)
                simp only [Act.put, List.setIfInBounds_toArray, List.set_cons_zero, List.set_cons_succ]
                refine wpAnyH_take (i := 15) (oi := ({ dst := some 94, op := Go.Op.pick (Go.Operand.tmp 80) (Go.Operand.tmp 93) (Go.Operand.const (Go.Value.bool false)), type := 4, pos := _, after := #[{ on := 1, ground := Go.Ground.data }, { on := 14, ground := Go.Ground.data }], guard := none } : Oper)) (v := ?_) rfl (by kernel_rfl) (by kernel_rfl) (by kernel_rfl) (fun _ _ _ h => h) (Or.inl ⟨by rfl, ?_⟩) (by assumption) ?_
                rotate_left
                · (intro w hSw; (try dsimp only at hSw); go_simp; try with_reducible rfl)
                simp only [Act.put, List.setIfInBounds_toArray, List.set_cons_zero, List.set_cons_succ]
                refine wpAnyH_take (i := 16) (oi := ({ dst := some 9, op := Go.Op.assign (Go.Operand.tmp 94), type := 4, pos := _, after := #[{ on := 15, ground := Go.Ground.data }, { on := 9, ground := Go.Ground.chain }, { on := 0, ground := Go.Ground.phase }, { on := 1, ground := Go.Ground.phase }, { on := 2, ground := Go.Ground.phase }, { on := 3, ground := Go.Ground.phase }, { on := 4, ground := Go.Ground.phase }, { on := 5, ground := Go.Ground.phase }, { on := 6, ground := Go.Ground.phase }, { on := 7, ground := Go.Ground.phase }, { on := 8, ground := Go.Ground.phase }, { on := 9, ground := Go.Ground.phase }, { on := 10, ground := Go.Ground.phase }, { on := 11, ground := Go.Ground.phase }, { on := 12, ground := Go.Ground.phase }, { on := 13, ground := Go.Ground.phase }, { on := 14, ground := Go.Ground.phase }, { on := 15, ground := Go.Ground.phase }], guard := none } : Oper)) (v := ?_) rfl (by kernel_rfl) (by kernel_rfl) (by kernel_rfl) (fun _ _ _ h => h) (Or.inl ⟨by rfl, ?_⟩) (by assumption) ?_
                rotate_left
                · (intro w hSw; (try dsimp only at hSw); go_simp; try with_reducible rfl)
                simp only [Act.put, List.setIfInBounds_toArray, List.set_cons_zero, List.set_cons_succ]
                refine wpAnyH_done (by kernel_rfl) ?_ _
                have hBq := And.left hHeld
                go_wp2
                go_roundw
                case rel => exact ⟨a + 1, by omega, by go_num, by rw [HBN.out], hBq⟩
                case measure => simp [intOf]; omega
    · have hai : ¬ (a : Int) < (n : Int) := by omega
      have hBn : B a = B n := by rw [show a = n by omega]
      rw [hBn]
      clear hBn HWS HW0 HC HCJ
      generalize B n = bb at *
      have HMG := hide (fun a b (ha : a < n) (hb : b < n) => cmL_get (zs := zs) (e := e) ha hb)
      have HMLN := hide (cmL_len n zs e)
      generalize li (cmL n zs e) = cl at *
      have hnn : n * n ≤ 3600 := Nat.mul_le_mul hn hn
      obtain ⟨wo, rfl⟩ : ∃ wo, wo = wr := ⟨_, rfl⟩
      have h0o := at0 _ (bcat2 hB9 hB)
      go_wp2
      clear g0 g1
      go_loopw [13, 14] (fun r i wi => ∃ a : Nat, a ≤ n ∧ i = .int .i64 a ∧ Row wi wo.heap.size r (cl.take (a * n)) ∧ Below wo.heap.size wo wi) (fun _ i _ => n - (intOf i).toNat)
      case atStart => exact ⟨0, Nat.zero_le _, rfl, by simpa using nil_row _ _, Below.refl _ _⟩
      case round =>
        obtain ⟨a, ha, rfl, hrow, hBo⟩ := hrel
        have hBr := bcat2 hB hBo
        obtain ⟨_, g0, g1⟩ := hS _ hBr
        by_cases hlt : a < n
        · have hai : (a : Int) < (n : Int) := by omega
          go_wp2
          go_loopw [13, 15] (fun r i wi => ∃ b : Nat, b ≤ n ∧ i = .int .i64 b ∧ Row wi wo.heap.size r (cl.take (a * n + b)) ∧ Below wo.heap.size wo wi) (fun _ i _ => n - (intOf i).toNat)
          case atStart => exact ⟨0, Nat.zero_le _, rfl, hrow, hBo⟩
          case round =>
            clear g0 g1 hrow hBo hBr
            obtain ⟨b, hb, rfl, hrow, hBi⟩ := hrel
            have hBr := bcat2 hB hBi
            obtain ⟨_, g0, g1⟩ := hS _ hBr
            by_cases hltb : b < n
            · have hbi : (b : Int) < (n : Int) := by omega
              have hpl := place_lt hlt hltb
              have HCA := hide (HCM.out wr a b (bcat2 hB9 hBr) hlt hltb)
              have HTK := hide (show cl.take (a * n + (b + 1)) = cl.take (a * n + b) ++ [(Fin.cm (tm n zs) (iv n zs e) a b : Int)] by
                rw [← Nat.add_assoc, take_snoc' (by rw [HMLN.out]; exact hpl), HMG.out a b hlt hltb])
              generalize Fin.cm (tm n zs) (iv n zs e) a b = cj9 at *
              have HLN := hide (show (cl.take (a * n + b)).length ≤ 3600 by rw [List.length_take]; omega)
              generalize cl.take (a * n + b) = xb at *
              obtain ⟨rx, rcap, rfl⟩ := own_slice hrow
              clear hpl
              go_wp2_with fail
              refine HCA.out.mono ?_
              rintro x w11 ⟨rfl, hb11⟩
              have hown : w11.ownsRow wo.heap.size 3 1 (.slice rx xb.length rcap) xb.length (xb.map (Value.int .i64)) := row_below hrow hb11
              have hB11 := bcat2 hBi hb11
              clear hrow
              go_wp2_with (first
                | (at_builtin; refine wpList_append_own _ rfl _ _ 22 rfl wo.heap.size 3 i0 (.int .i64 0) 1 8 under22b hi hz0 hz1 hz2 rfl (by decide) _ _ _ rfl (World.ownsRow.alloc hown _) ⟨w11.heap.size, 0, none⟩ 1 1 [.int .i64 cj9] rfl rfl ?d1 ?d2 ?d3 ?d4 ?d5 ?_))
              case d2 => simp [Value.oneCell']
              case d3 => unfold maxLen; have := HLN.out; omega
              case d4 => have := HLN.out; omega
              case d5 => have := hB11.size; simp; omega
              case d1 => exact cell_one_new _ _ _
              intro v9 w12 hown' hgrow _
              obtain ⟨g', cap', rfl⟩ := ownsRow_succ hown'
              have hB12 : Below wo.heap.size wo w12 := (hB11.alloc hB11.size _).grown hgrow (by have := hB11.size; simp; omega) (fun t e9 => by have := owns_ge hown t e9; omega)
              have hrow2 : Row w12 wo.heap.size (.slice (some ⟨g', 0, none⟩) (xb.length + 1) cap') (cl.take (a * n + (b + 1))) := by
                unfold Row
                rw [HTK.out]
                simpa using hown'
              clear hown hown' hgrow
              go_wp2
              go_roundw
              case rel => exact ⟨b + 1, by omega, by go_num, hrow2, hB12⟩
              case measure => simp [intOf]; omega
            · have hbi : ¬ (b : Int) < (n : Int) := by omega
              have hte : a * n + b = (a + 1) * n := by rw [Nat.succ_mul, show b = n by omega]
              rw [hte] at hrow
              clear hte
              go_wp2
              go_roundw
              case rel => exact ⟨a + 1, by omega, by go_num, hrow, hBi⟩
              case measure => simp [intOf]; omega
        · have hai : ¬ (a : Int) < (n : Int) := by omega
          have hcl9 : cl.take (a * n) = cl := List.take_of_length_le (by rw [HMLN.out, show a = n by omega]; exact Nat.le_refl _)
          rw [hcl9] at hrow
          have hcs := row_sl hrow (at0 _ (bcat2 hB9 hBr))
          obtain ⟨rx, rcap, rfl⟩ := own_slice hrow
          have hBw := bcat2 hB9 hBr
          have hqr := hq9.below hBr
          have hmr := hm9.below hBr
          obtain ⟨k0, k1⟩ := HK.out _ hBr
          clear hcl9 hrow HMG HMLN HCM HE HLE
          have hS26 : ∀ W, Below wr.heap.size wr W → (Below wr.heap.size wr W ∧ W.cell? ⟨w.heap.size, 0, none⟩ = some (.int .i64 n) ∧ W.cell? ⟨w.heap.size, 1, none⟩ = some (.slice v1 v2 v3) ∧ W.cell? ⟨w5.heap.size, 0, none⟩ = some (.int .i64 K) ∧ W.cell? ⟨w5.heap.size, 1, none⟩ = some (.slice r1 r2 r3)) := fun W h => ⟨h, below_cell h g0, below_cell h g1, below_cell h k0, below_cell h k1⟩
          have hS0 := hS26 _ (bdrew (Below.refl _ wr))
          clear g0 g1 k0 k1
          obtain ⟨_, g0, g1, _, _⟩ := hS26 _ (Below.refl _ wr)
          go_wp2_with fail
          go_region_held3 (fun W => Below wr.heap.size wr W ∧ W.cell? ⟨w.heap.size, 0, none⟩ = some (.int .i64 n) ∧ W.cell? ⟨w.heap.size, 1, none⟩ = some (.slice v1 v2 v3) ∧ W.cell? ⟨w5.heap.size, 0, none⟩ = some (.int .i64 K) ∧ W.cell? ⟨w5.heap.size, 1, none⟩ = some (.slice r1 r2 r3))
            (first | exact hS0 | assumption | exact hS26 _ (bcat2 (And.left ‹_›) hl1))
            (first
              | (go_at_call 49; refine (HD.out _ _ (bcat2 hBw (And.left ‹_›)) (hcs.below (And.left ‹_›))).mono ?_; rintro e1 U1 ⟨q1, q2, q3, rfl, hxs, hl1⟩)
              | (go_at_call 41; refine (HI.out _ _ _ _ (bcat2 hBw (And.left ‹_›)) hxs (hqr.below (And.left ‹_›)) (hmr.below (And.left ‹_›))).mono ?_; rintro e2 U2 ⟨rfl, hl1⟩)
              | (go_at_call 51; refine (HM.out _ _ (hqr.below (And.left ‹_›))).mono ?_; rintro e3 U3 ⟨rfl, hl1⟩))
          all_goals (
            have hB99 := bcat2 hBw (And.left ‹Below wr.heap.size wr U3 ∧ _›)
            go_wp2
            go_ret
            exact ⟨rfl, hB99⟩)
theorem qsimple_law (N : Int) (v : Value) (zs : List Int) (w : World) (hv : Sl w v zs) (hT : Tab w) (hz : zs.length * 8 ≤ 140737488355328) :
    Calls Tryd.prog 9 #[.agg #[.int .i64 N, v]] w fun e w' => e = .returned (.bool true) ∧ Below w.heap.size w w' := by
  obtain ⟨v1, v2, v3, rfl⟩ := hv.isSlice
  have at0 : ∀ W : World, Below w.heap.size w W → 0 < W.heap.size := fun W h => Nat.lt_of_lt_of_le hT.lt h.size
  by_cases hc : (gfault N zs).1 = 0
  · obtain ⟨n, e, rfl, hg, _⟩ := gfault_grp hc
    have hn := hg.tab.le
    have hP : ∀ a : Nat, ∃ p : Nat → Bool, ∀ y, y < n → (p y = true ↔ Mkd n zs e (cloq n zs e (pset [(a : Int)]) n) y) := fun a => mkd_test n zs e _
    obtain ⟨P, hP⟩ : ∃ P : Nat → Nat → Bool, ∀ a y, y < n → (P a y = true ↔ Mkd n zs e (cloq n zs e (pset [(a : Int)]) n) y) := ⟨fun a => Classical.choose (hP a), fun a => Classical.choose_spec (hP a)⟩
    obtain ⟨p, hp⟩ := mkd_test n zs e (cmq n zs e (List.range n) (List.range n))
    refine qsimple_good n e (fsts n (rgtq n zs (lst n (pset (li (lst n p))))) n).length v1 v2 v3 zs _ _ (fun a => (lst n (P a)).length) (li (lst n p)) w hv hT hz hg (fun a _ => lst_le n (P a))
      (hide fun W x h h1 => simple_good n e x zs P W h1 hg (hT.below h) (fun a _ => hP a))
      (hide fun W x h h1 => abel_good n e x zs p W h1 hg (hT.below h) hp)
      (hide fun W u a h ha hu => ?_) (hide fun W u h hu => ?_)
      (hide fun W u qv mv h h1 h2 h3 => quoIs_good hg (lst_fault n p) (der_sub hg hp) (der_nrm hg hp) (hv.below h) h1 h2 h3)
      (hide fun W qv h1 => ?_)
    · refine (span_ok n e (.slice v1 v2 v3) u zs (cjL n zs e a) (P a) W (hv.below h) hg hu (cjL_lt hg ha) (by unfold cjL; rw [List.length_map, List.length_range]; omega) (fun y hy => (hP a y hy).trans (cj_test ha y))).mono ?_
      rintro x w1 ⟨r, rfl, hr, hb⟩
      obtain ⟨q1, q3, rfl⟩ := own_slice hr
      exact ⟨q1, q3, by rw [li_len], hb⟩
    · exact those_sl (at0 W h) (span_ok n e (.slice v1 v2 v3) u zs (cmL n zs e) p W (hv.below h) hg hu (cmL_lt hg) (by unfold cmL; rw [List.length_map, List.length_range]; have := Nat.mul_le_mul hn hn; omega) (fun y hy => (hp y hy).trans (cm_test y)))
    · have h9 := commutes_ok (fsts n (rgtq n zs (lst n (pset (li (lst n p))))) n).length qv _ W (quo_grp hg (der_sub hg hp) (der_nrm hg hp)).tab h1
      rw [der_com hg hp] at h9
      exact h9
  · exact qsimple_bad N v1 v2 v3 zs w hv hT hz hc
end Go.Proofs.YtodabkjadejekaaDoor
