/- What the document's Moves and Then give; what the moves of a regular polygon's corners are. -/
import Derived.Test.YtpcgacelljbkdaaMgrp
import Derived.Test.YtpcgacelljbkdaaSame
namespace Go.Proofs.Ytpcgacelljbkdaa
open Go Go.RowKit

theorem take_snoc {zs : List Int} {i : Nat} (hi : i < zs.length) : zs.take (i + 1) = zs.take i ++ [zs[i]?.getD 0] := by
  rw [List.take_add_one]
  simp [hi]
/-- An own slice of ints. -/
def Row (w : World) (base : Nat) (v : Value) (zs : List Int) : Prop := w.ownsRow base 3 1 v zs.length (zs.map (Value.int .i64))
theorem Row.sl {w : World} {base : Nat} {v : Value} {zs : List Int} (h : Row w base v zs) (h0 : 0 < w.heap.size) : Sl w v zs := Sl.of_own h h0

/-- Where a corner goes. -/
def mv (n i k x : Nat) : Nat := (if k = 1 then i + n - x else x + i) % n
def movL (n i k : Nat) : List Int := (List.range n).map fun x => (mv n i k x : Int)
theorem movL_len (n i k : Nat) : (movL n i k).length = n := by simp [movL]
theorem movL_get {n i k x : Nat} (hx : x < n) : (movL n i k)[x]?.getD 0 = (mv n i k x : Int) := by simp [movL, hx]
theorem mv_lt {n i k x : Nat} (hn : 1 ≤ n) : mv n i k x < n := Nat.mod_lt _ hn
def thenL (xs ys : List Int) : List Int := xs.map fun x => ys[x.toNat]?.getD 0
theorem thenL_len (xs ys : List Int) : (thenL xs ys).length = xs.length := by simp [thenL]
theorem thenL_get {xs ys : List Int} {j x : Nat} (hj : j < xs.length) (hx : xs[j]?.getD 0 = (x : Int)) : (thenL xs ys)[j]?.getD 0 = ys[x]?.getD 0 := by
  have h1 : xs[j] = (x : Int) := by simpa [hj] using hx
  simp [thenL, hj, h1]

set_option maxRecDepth 100000 in
set_option maxHeartbeats 4000000 in
theorem then_ok (u v : Value) (xs ys : List Int) (w : World) (hu : Sl w u xs) (hv : Sl w v ys) (hx : ∀ j, j < xs.length → ∃ x : Nat, xs[j]?.getD 0 = (x : Int) ∧ x < ys.length) (h1000 : xs.length ≤ 1000) (h1001 : ys.length ≤ 1000) :
    Calls Try.prog 43 #[u, v] w fun e w' => ∃ r, e = .returned r ∧ Row w' w.heap.size r (thenL xs ys) ∧ Below w.heap.size w w' := by
  obtain ⟨i0, hi, hz0, hz1, hz2⟩ := info_parts info3b
  obtain ⟨a, cap, pb, po, rfl, hr, hp, hq3, hq4⟩ := hu
  obtain ⟨b, cap', qb, qo, rfl, hs, hq, hq7, hq8⟩ := hv
  have HX := hide hx
  have hml := thenL_len xs ys
  have hmg : ∀ k x, k < xs.length → xs[k]?.getD 0 = ((x : Nat) : Int) → (thenL xs ys)[k]?.getD 0 = ys[x]?.getD 0 := fun k x hk h => thenL_get hk h
  generalize thenL xs ys = M at hml hmg
  have HML := hide hml
  have HMG := hide hmg
  clear hx hml hmg
  go_enter Try.func43, Try.ntmps43
  go_wp2
  go_loopw [5, 6] (fun v i wr => ∃ k : Nat, k ≤ xs.length ∧ i = .int .i64 k ∧ Row wr w.heap.size v (M.take k) ∧ Below w.heap.size w wr)
    (fun _ i _ => xs.length - (intOf i).toNat)
  case atStart => exact ⟨0, Nat.zero_le _, rfl, World.ownsRow_nil _ _ _ _, Below.refl _ _⟩
  case round =>
    obtain ⟨k, hk, rfl, hown, hB⟩ := hrel
    obtain ⟨v, rfl⟩ : ∃ v, v = u5 := ⟨_, rfl⟩
    have hBs := hB.size
    by_cases hlt : k < xs.length
    · have hil : (M.take k).length = k := by rw [List.length_take, HML.out]; omega
      obtain ⟨x, hxk, hxl⟩ := HX.out k hlt
      have hcx := (hr.below hB hp).cell k hlt
      have hcy := (hs.below hB hq).cell x hxl
      rw [hxk] at hcx
      obtain rfl := hr.at_ (by omega)
      obtain rfl := hs.at_ (by omega)
      have hsn : M.take (k + 1) = M.take k ++ [ys[x]?.getD 0] := by rw [take_snoc (zs := M) (by rw [HML.out]; omega), HMG.out k x hlt hxk]
      have HIL := hide hil
      have HSN := hide hsn
      clear hil hsn hxk
      generalize ys[x]?.getD 0 = y at hcy HSN
      have hx1 : (x : Int) < (ys.length : Int) := by omega
      go_wp2_with (first
        | (at_builtin; refine wpList_append_own _ rfl _ _ 22 rfl w.heap.size 3 i0 (.int .i64 0) 1 8 under22b hi hz0 hz1 hz2 rfl (by decide) _ _ _ rfl (World.ownsRow.alloc hown _) ⟨wr.heap.size, 0, none⟩ 1 1 [.int .i64 y] rfl rfl ?c1 ?c2 ?c3 ?c4 ?c5 ?_))
      case c1 => exact cell_one_new _ _ _
      case c2 => simp [Value.oneCell']
      case c3 => unfold maxLen; have := HIL.out; omega
      case c4 => have := HIL.out; omega
      case c5 => simp; omega
      intro v' w2 hown' hgrow _
      obtain ⟨g', cap', rfl⟩ := ownsRow_succ hown'
      have hB2 : Below w.heap.size w w2 := (hB.alloc hBs _).grown hgrow (by simp; omega) (fun j e => owns_ge hown j e)
      have hown5 : Row w2 w.heap.size (.slice (some ⟨g', 0, none⟩) ((M.take k).length + 1) cap') (M.take (k + 1)) := by
        unfold Row
        rw [HSN.out]; simpa using hown'
      clear hown' hgrow hown
      go_wp2
      go_roundw
      case rel => exact ⟨k + 1, by omega, by go_num, (by rw [List.length_take] at hown5; exact hown5), hB2⟩
      case measure => simp [intOf]; omega
    · have hkk : k = xs.length := by omega
      subst hkk
      rw [← HML.out, List.take_length] at hown
      go_wp2
      go_ret
      exact ⟨_, rfl, hown, hB⟩

set_option maxRecDepth 100000 in
set_option maxHeartbeats 4000000 in
theorem moves_ok (n i s : Nat) (w : World) (hn : 1 ≤ n) (hn2 : n ≤ 60) (hi9 : i < n) (hs9 : s ≤ 1) :
    Calls Try.prog 42 #[.int .i64 n, .int .i64 i, .int .i64 s] w fun e w' => ∃ r, e = .returned r ∧ Row w' w.heap.size r (movL n i s) ∧ Below w.heap.size w w' := by
  obtain ⟨i0, hi, hz0, hz1, hz2⟩ := info_parts info3b
  have hml := movL_len n i s
  have hmg : ∀ x, x < n → (movL n i s)[x]?.getD 0 = (mv n i s x : Int) := fun x hx => movL_get hx
  generalize movL n i s = M at hml hmg
  have HML := hide hml
  have HMG := hide hmg
  have hm0 : ¬ ((n : Int) = 0) := by omega
  have hs01 : s = 0 ∨ s = 1 := by omega
  clear hml hmg
  rcases hs01 with rfl | rfl
  · change Calls Try.prog 42 #[.int .i64 n, .int .i64 i, .int .i64 0] w _
    go_enter Try.func42, Try.ntmps42
    go_wp2
    go_loopw [7, 8] (fun v i wr => ∃ k : Nat, k ≤ n ∧ i = .int .i64 k ∧ Row wr w.heap.size v (M.take k) ∧ Below w.heap.size w wr)
      (fun _ i _ => n - (intOf i).toNat)
    case atStart => exact ⟨0, Nat.zero_le _, rfl, World.ownsRow_nil _ _ _ _, Below.refl _ _⟩
    case round =>
      obtain ⟨k, hk, rfl, hown, hB⟩ := hrel
      obtain ⟨v, rfl⟩ : ∃ v, v = u7 := ⟨_, rfl⟩
      have hBs := hB.size
      by_cases hlt : k < n
      · have hil : (M.take k).length = k := by rw [List.length_take, HML.out]; omega
        have hsn := take_snoc (zs := M) (i := k) (by rw [HML.out]; omega)
        rw [HMG.out k hlt] at hsn
        have hr1 := nmod (x := (k : Int) + (i : Int)) (y := k + i) (m := n) (by omega)
        have hr2 := nmod (x := (i : Int) + (n : Int) - (k : Int)) (y := i + n - k) (m := n) (by omega)
        have hrl1 : (k + i) % n < n := Nat.mod_lt _ (by omega)
        have hrl2 : (i + n - k) % n < n := Nat.mod_lt _ (by omega)
        simp only [mv, if_neg (show ¬ 0 = 1 by omega)] at hsn
        have HIL := hide hil
        have HSN := hide hsn
        clear hil hsn
        generalize (k + i) % n = y1 at *
        generalize (i + n - k) % n = y2 at *
        go_wp2_with (first
          | (at_builtin; refine wpList_append_own _ rfl _ _ 22 rfl w.heap.size 3 i0 (.int .i64 0) 1 8 under22b hi hz0 hz1 hz2 rfl (by decide) _ _ _ rfl (World.ownsRow.alloc hown _) ⟨wr.heap.size, 0, none⟩ 1 1 [.int .i64 y1] rfl rfl ?c1 ?c2 ?c3 ?c4 ?c5 ?_))
        case c1 => exact cell_one_new _ _ _
        case c2 => simp [Value.oneCell']
        case c3 => unfold maxLen; have := HIL.out; omega
        case c4 => have := HIL.out; omega
        case c5 => simp; omega
        intro v' w2 hown' hgrow _
        obtain ⟨g', cap', rfl⟩ := ownsRow_succ hown'
        have hB2 : Below w.heap.size w w2 := (hB.alloc hBs _).grown hgrow (by simp; omega) (fun j e => owns_ge hown j e)
        have hown5 : Row w2 w.heap.size (.slice (some ⟨g', 0, none⟩) ((M.take k).length + 1) cap') (M.take (k + 1)) := by
          unfold Row
          rw [HSN.out]; simpa using hown'
        clear hown' hgrow hown
        go_wp2
        go_roundw
        case rel => exact ⟨k + 1, by omega, by go_num, (by rw [List.length_take] at hown5; exact hown5), hB2⟩
        case measure => simp [intOf]; omega
      · have hkk : k = n := by omega
        subst hkk
        have h9 := HML.out
        rw [show M.take k = M by rw [← h9, List.take_length]] at hown
        go_wp2
        go_ret
        exact ⟨_, rfl, hown, hB⟩
  · change Calls Try.prog 42 #[.int .i64 n, .int .i64 i, .int .i64 1] w _
    go_enter Try.func42, Try.ntmps42
    go_wp2
    go_loopw [7, 8] (fun v i wr => ∃ k : Nat, k ≤ n ∧ i = .int .i64 k ∧ Row wr w.heap.size v (M.take k) ∧ Below w.heap.size w wr)
      (fun _ i _ => n - (intOf i).toNat)
    case atStart => exact ⟨0, Nat.zero_le _, rfl, World.ownsRow_nil _ _ _ _, Below.refl _ _⟩
    case round =>
      obtain ⟨k, hk, rfl, hown, hB⟩ := hrel
      obtain ⟨v, rfl⟩ : ∃ v, v = u7 := ⟨_, rfl⟩
      have hBs := hB.size
      by_cases hlt : k < n
      · have hil : (M.take k).length = k := by rw [List.length_take, HML.out]; omega
        have hsn := take_snoc (zs := M) (i := k) (by rw [HML.out]; omega)
        rw [HMG.out k hlt] at hsn
        have hr1 := nmod (x := (k : Int) + (i : Int)) (y := k + i) (m := n) (by omega)
        have hr2 := nmod (x := (i : Int) + (n : Int) - (k : Int)) (y := i + n - k) (m := n) (by omega)
        have hrl1 : (k + i) % n < n := Nat.mod_lt _ (by omega)
        have hrl2 : (i + n - k) % n < n := Nat.mod_lt _ (by omega)
        simp only [mv, if_true] at hsn
        have HIL := hide hil
        have HSN := hide hsn
        clear hil hsn
        generalize (k + i) % n = y1 at *
        generalize (i + n - k) % n = y2 at *
        go_wp2_with (first
          | (at_builtin; refine wpList_append_own _ rfl _ _ 22 rfl w.heap.size 3 i0 (.int .i64 0) 1 8 under22b hi hz0 hz1 hz2 rfl (by decide) _ _ _ rfl (World.ownsRow.alloc hown _) ⟨wr.heap.size, 0, none⟩ 1 1 [.int .i64 y2] rfl rfl ?c1 ?c2 ?c3 ?c4 ?c5 ?_))
        case c1 => exact cell_one_new _ _ _
        case c2 => simp [Value.oneCell']
        case c3 => unfold maxLen; have := HIL.out; omega
        case c4 => have := HIL.out; omega
        case c5 => simp; omega
        intro v' w2 hown' hgrow _
        obtain ⟨g', cap', rfl⟩ := ownsRow_succ hown'
        have hB2 : Below w.heap.size w w2 := (hB.alloc hBs _).grown hgrow (by simp; omega) (fun j e => owns_ge hown j e)
        have hown5 : Row w2 w.heap.size (.slice (some ⟨g', 0, none⟩) ((M.take k).length + 1) cap') (M.take (k + 1)) := by
          unfold Row
          rw [HSN.out]; simpa using hown'
        clear hown' hgrow hown
        go_wp2
        go_roundw
        case rel => exact ⟨k + 1, by omega, by go_num, (by rw [List.length_take] at hown5; exact hown5), hB2⟩
        case measure => simp [intOf]; omega
      · have hkk : k = n := by omega
        subst hkk
        have h9 := HML.out
        rw [show M.take k = M by rw [← h9, List.take_length]] at hown
        go_wp2
        go_ret
        exact ⟨_, rfl, hown, hB⟩

end Go.Proofs.Ytpcgacelljbkdaa
