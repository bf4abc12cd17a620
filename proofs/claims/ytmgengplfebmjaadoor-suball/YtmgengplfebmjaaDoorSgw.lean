/- The document's Subgroups whole: orders of lists and their sorting, the list that takes what is new, the mathematics of what is made, the walk. -/
import Derived.Test.YtmgengplfebmjaaDoorOps
import Derived.Test.YtmgengplfebmjaaDoorRef1
import Derived.Test.YtmgengplfebmjaaDoorCsa
import Derived.Shelf.SlSortCmp.Whole1
import Derived.Shelf.Lay
import Derived.Ground.SlsfProg
import Derived.Test.YtmgengplfebmjaaDoorSpn
import Derived.Maps.AppendAt
import Derived.Test.YtmgengplfebmjaaDoorSg2
import Derived.Test.YtmgengplfebmjaaDoorPrd
import Derived.Deep.AppendLies
namespace Go.Proofs.YtmgengplfebmjaaDoor
open Go Go.RowKit

def cmpI (x y : Int) : Int := if x < y then -1 else if y < x then 1 else 0
theorem isNaN_ok (x : Int) (w : World) : Calls Tryd.prog 88 #[.int .i64 x] w fun e w' => e = .returned (.bool false) ∧ w' = w := by
  have h : (x != x) = false := by simp
  go_enter Tryd.func88, Tryd.ntmps88
  go_wp2
  go_ret
  exact ⟨rfl, rfl⟩
set_option maxRecDepth 100000 in
theorem cmpI_ok (x y : Int) (w : World) : Calls Tryd.prog 54 #[.int .i64 x, .int .i64 y] w fun e w' => e = .returned (.int .i64 (cmpI x y)) ∧ w' = w := by
  unfold cmpI
  by_cases h1 : x < y
  · rw [if_pos h1]
    go_enter Tryd.func54, Tryd.ntmps54
    go_wp2_with fail
    refine (isNaN_ok x w).mono ?_
    rintro e w1 ⟨rfl, rfl⟩
    go_wp2_with fail
    refine (isNaN_ok y w1).mono ?_
    rintro e w2 ⟨rfl, rfl⟩
    go_wp2
    go_ret
    exact ⟨rfl, rfl⟩
  · rw [if_neg h1]
    by_cases h2 : y < x
    · rw [if_pos h2]
      go_enter Tryd.func54, Tryd.ntmps54
      go_wp2_with fail
      refine (isNaN_ok x w).mono ?_
      rintro e w1 ⟨rfl, rfl⟩
      go_wp2_with fail
      refine (isNaN_ok y w1).mono ?_
      rintro e w2 ⟨rfl, rfl⟩
      go_wp2
      go_ret
      exact ⟨rfl, rfl⟩
    · rw [if_neg h2]
      go_enter Tryd.func54, Tryd.ntmps54
      go_wp2_with fail
      refine (isNaN_ok x w).mono ?_
      rintro e w1 ⟨rfl, rfl⟩
      go_wp2_with fail
      refine (isNaN_ok y w1).mono ?_
      rintro e w2 ⟨rfl, rfl⟩
      go_wp2
      go_ret
      exact ⟨rfl, rfl⟩
/-- How two lists compare. -/
def cmpL : List Int → List Int → Int
  | [], [] => 0
  | [], _ :: _ => -1
  | _ :: _, [] => 1
  | x :: xs, y :: ys => if cmpI x y ≠ 0 then cmpI x y else cmpL xs ys
theorem cmpL_step {xs ys : List Int} {k : Nat} (h1 : k < xs.length) (h2 : k < ys.length) : cmpL (xs.drop k) (ys.drop k) = if cmpI xs[k] ys[k] ≠ 0 then cmpI xs[k] ys[k] else cmpL (xs.drop (k + 1)) (ys.drop (k + 1)) := by
  rw [List.drop_eq_getElem_cons h1, List.drop_eq_getElem_cons h2, cmpL]
theorem cmpL_more {xs ys : List Int} {k : Nat} (h1 : k < xs.length) (h2 : ys.length ≤ k) : cmpL (xs.drop k) (ys.drop k) = 1 := by
  rw [List.drop_eq_getElem_cons h1, List.drop_eq_nil_of_le h2, cmpL]
theorem cmpL_less {xs ys : List Int} {k : Nat} (h1 : xs.length ≤ k) (h2 : k < ys.length) : cmpL (xs.drop k) (ys.drop k) = -1 := by
  rw [List.drop_eq_getElem_cons h2, List.drop_eq_nil_of_le h1, cmpL]
theorem cmpL_end {xs ys : List Int} {k : Nat} (h1 : xs.length ≤ k) (h2 : ys.length ≤ k) : cmpL (xs.drop k) (ys.drop k) = 0 := by
  rw [List.drop_eq_nil_of_le h1, List.drop_eq_nil_of_le h2, cmpL]
set_option maxRecDepth 100000 in
set_option maxHeartbeats 2000000 in
theorem scmp_ok (v u : Value) (xs ys : List Int) (w : World) (hv : Sl w v xs) (hu : Sl w u ys) (hx : xs.length ≤ 60) (hy : ys.length ≤ 60) :
    Calls Tryd.prog 55 #[v, u] w fun e w' => e = .returned (.int .i64 (cmpL xs ys)) ∧ w' = w := by
  obtain ⟨xa, xcap, xb, xo, rfl, ⟨x1, x2⟩, _, _, x5⟩ := hv
  obtain ⟨ya, ycap, yb, yo, rfl, ⟨y1, y2⟩, _, _, y5⟩ := hu
  have HX1 := hide x1
  have HX2 := hide x2
  have HY1 := hide y1
  have HY2 := hide y2
  clear x1 x2 y1 y2 x5 y5
  go_enter Tryd.func55, Tryd.ntmps55
  go_wp2
  go_loopw [11] (fun i wr => ∃ k : Nat, k ≤ xs.length ∧ k ≤ ys.length ∧ i = .int .i64 k ∧ cmpL xs ys = cmpL (xs.drop k) (ys.drop k) ∧ wr = w) (fun i _ => xs.length - (intOf i).toNat)
  case atStart => exact ⟨0, Nat.zero_le _, Nat.zero_le _, rfl, by simp, rfl⟩
  case round =>
    obtain ⟨k, hk, hk2, rfl, hc, hwr⟩ := hrel
    rw [hwr]
    clear hwr
    have HC := hide hc
    clear hc
    by_cases hlt : k < xs.length
    · have hki : (k : Int) < (xs.length : Int) := by omega
      obtain rfl := HX1.out (by omega)
      have cx := HX2.out k hlt
      rw [List.getElem?_eq_getElem hlt, Option.getD_some] at cx
      by_cases hlu : k < ys.length
      · have hku : ¬ (k : Int) ≥ (ys.length : Int) := by omega
        have hku' : ¬ (ys.length : Int) ≤ (k : Int) := by omega
        have hki2 : (k : Int) < (ys.length : Int) := by omega
        obtain rfl := HY1.out (by omega)
        have cy := HY2.out k hlu
        rw [List.getElem?_eq_getElem hlu, Option.getD_some] at cy
        have HE := hide (cmpL_step hlt hlu)
        generalize xs[k] = x at *
        generalize ys[k] = y at *
        have HI := hide (cmpI_ok x y w)
        obtain ⟨z, hz⟩ : ∃ z, cmpI x y = z := ⟨_, rfl⟩
        rw [hz] at HI HE
        clear hz
        by_cases hz0 : z = 0
        · subst hz0
          go_wp2_with fail
          refine HI.out.mono ?_
          rintro e w1 ⟨rfl, rfl⟩
          go_wp2
          go_roundw
          case rel => exact ⟨k + 1, by omega, by omega, by go_num, by rw [HC.out, HE.out]; rfl, trivial⟩
          case measure => simp [intOf]; omega
        · have hzb : (z != 0) = true := by simpa using hz0
          have HZ := hide (show cmpL xs ys = z by rw [HC.out, HE.out, if_pos hz0])
          go_wp2_with fail
          refine HI.out.mono ?_
          rintro e w1 ⟨rfl, rfl⟩
          go_wp2
          go_ret
          exact ⟨by rw [HZ.out]; rfl, rfl⟩
      · have hku : (k : Int) ≥ (ys.length : Int) := by omega
        have hku' : (ys.length : Int) ≤ (k : Int) := by omega
        have HZ := hide (show cmpL xs ys = 1 by rw [HC.out, cmpL_more hlt (by omega)])
        go_wp2
        go_ret
        exact ⟨by rw [HZ.out]; rfl, rfl⟩
    · have hki : ¬ (k : Int) < (xs.length : Int) := by omega
      by_cases hlu : xs.length < ys.length
      · have hlu' : (xs.length : Int) < (ys.length : Int) := by omega
        have HZ := hide (show cmpL xs ys = -1 by rw [HC.out, cmpL_less (by omega) (by omega)])
        go_wp2
        go_ret
        exact ⟨by rw [HZ.out]; rfl, rfl⟩
      · have hlu' : ¬ (xs.length : Int) < (ys.length : Int) := by omega
        have HZ := hide (show cmpL xs ys = 0 by rw [HC.out, cmpL_end (by omega) (by omega)])
        go_wp2
        go_ret
        exact ⟨by rw [HZ.out]; rfl, rfl⟩
end Go.Proofs.YtmgengplfebmjaaDoor

namespace Go.Proofs.YtmgengplfebmjaaDoor
open Go Go.RowKit

/-- The first that is not 0. -/
def orL : List Int → Int
  | [] => 0
  | x :: xs => if x ≠ 0 then x else orL xs
theorem orL_step {xs : List Int} {k : Nat} (h1 : k < xs.length) : orL (xs.drop k) = if xs[k] ≠ 0 then xs[k] else orL (xs.drop (k + 1)) := by
  rw [List.drop_eq_getElem_cons h1, orL]
theorem orL_end {xs : List Int} {k : Nat} (h1 : xs.length ≤ k) : orL (xs.drop k) = 0 := by
  rw [List.drop_eq_nil_of_le h1, orL]
set_option maxRecDepth 100000 in
set_option maxHeartbeats 2000000 in
theorem or_ok (v : Value) (xs : List Int) (w : World) (hv : Sl w v xs) (hx : xs.length ≤ 60) :
    Calls Tryd.prog 53 #[v] w fun e w' => e = .returned (.int .i64 (orL xs)) ∧ w' = w := by
  obtain ⟨xa, xcap, xb, xo, rfl, ⟨x1, x2⟩, _, _, x5⟩ := hv
  have HX1 := hide x1
  have HX2 := hide x2
  clear x1 x2 x5
  go_enter Tryd.func53, Tryd.ntmps53
  go_wp2
  go_loopw [8] (fun i wr => ∃ k : Nat, k ≤ xs.length ∧ i = .int .i64 k ∧ orL xs = orL (xs.drop k) ∧ wr = w) (fun i _ => xs.length - (intOf i).toNat)
  case atStart => exact ⟨0, Nat.zero_le _, rfl, by simp, rfl⟩
  case round =>
    obtain ⟨k, hk, rfl, hc, hwr⟩ := hrel
    rw [hwr]
    clear hwr
    have HC := hide hc
    clear hc
    by_cases hlt : k < xs.length
    · have hki : (k : Int) < (xs.length : Int) := by omega
      obtain rfl := HX1.out (by omega)
      have cx := HX2.out k hlt
      rw [List.getElem?_eq_getElem hlt, Option.getD_some] at cx
      have HE := hide (orL_step hlt)
      generalize xs[k] = z at *
      by_cases hz0 : z = 0
      · subst hz0
        go_wp2
        go_roundw
        case rel => exact ⟨k + 1, by omega, by go_num, by rw [HC.out, HE.out]; rfl, trivial⟩
        case measure => simp [intOf]; omega
      · have hzb : (z != 0) = true := by simpa using hz0
        have HZ := hide (show orL xs = z by rw [HC.out, HE.out, if_pos hz0])
        go_wp2
        go_ret
        exact ⟨by rw [HZ.out]; rfl, rfl⟩
    · have hki : ¬ (k : Int) < (xs.length : Int) := by omega
      have HZ := hide (show orL xs = 0 by rw [HC.out, orL_end (by omega)])
      go_wp2
      go_ret
      exact ⟨by rw [HZ.out]; rfl, rfl⟩
end Go.Proofs.YtmgengplfebmjaaDoor

namespace Go.Proofs.YtmgengplfebmjaaDoor
open Go Go.RowKit

/-- How two lists compare by their lengths first. -/
def cmpN (xs ys : List Int) : Int := orL [cmpI xs.length ys.length, cmpL xs ys]
theorem two_sl (w : World) (c d : Int) : Sl (w.alloc (.cells #[.int .i64 c, .int .i64 d] 3)) (.slice (some ⟨w.heap.size, 0, none⟩) 2 2) [c, d] := by
  refine ⟨_, _, w.heap.size, 0, rfl, ⟨fun _ => rfl, fun j hj => ?_⟩, by simp, by simp, by unfold maxLen; omega⟩
  have h := blk0 (w := w) (T := 3) (.int .i64 c) (.int .i64 d)
  match j, hj with
  | 0, _ => exact h.cell 0
  | 1, _ => exact h.cell 1
set_option maxRecDepth 100000 in
set_option maxHeartbeats 2000000 in
theorem lcmp_ok (v u : Value) (xs ys : List Int) (w : World) (hv : Sl w v xs) (hu : Sl w u ys) (hx : xs.length ≤ 60) (hy : ys.length ≤ 60) :
    Calls Tryd.prog 52 #[v, u] w fun e w' => e = .returned (.int .i64 (cmpN xs ys)) ∧ ∃ o q, w' = (w.alloc o).drewN q := by
  have HS := hide (scmp_ok v u xs ys w hv hu hx hy)
  have HI := hide (cmpI_ok xs.length ys.length w)
  obtain ⟨xa, xcap, xb, xo, rfl, _⟩ := hv
  obtain ⟨ya, ycap, yb, yo, rfl, _⟩ := hu
  obtain ⟨c, hc⟩ : ∃ c, cmpI xs.length ys.length = c := ⟨_, rfl⟩
  obtain ⟨d, hd⟩ : ∃ d, cmpL xs ys = d := ⟨_, rfl⟩
  unfold cmpN
  rw [hc] at HI ⊢
  rw [hd] at HS ⊢
  clear hc hd
  go_enter Tryd.func52, Tryd.ntmps52
  go_wp2_with fail
  refine HI.out.mono ?_
  rintro e w1 ⟨rfl, rfl⟩
  go_wp2_with fail
  refine HS.out.mono ?_
  rintro e w2 ⟨rfl, rfl⟩
  go_wp2_with fail
  refine (or_ok _ [c, d] (w2.alloc (.cells #[.int .i64 c, .int .i64 d] 3)) (two_sl w2 c d) (by simp)).mono ?_
  rintro e w3 ⟨rfl, rfl⟩
  go_wp2
  go_ret
  exact ⟨rfl, _, 0, rfl⟩
end Go.Proofs.YtmgengplfebmjaaDoor

namespace Go.Proofs.YtmgengplfebmjaaDoor
open Go Go.RowKit

theorem cmpI_neg (x y : Int) : cmpI y x = - cmpI x y := by unfold cmpI; split <;> split <;> (try split) <;> omega
theorem cmpI_lt {x y : Int} : cmpI x y < 0 ↔ x < y := by unfold cmpI; split <;> (try split) <;> omega
theorem cmpI_zero {x y : Int} : cmpI x y = 0 ↔ x = y := by unfold cmpI; split <;> (try split) <;> omega
theorem cmpL_neg : ∀ xs ys : List Int, cmpL ys xs = - cmpL xs ys
  | [], [] => rfl
  | [], _ :: _ => rfl
  | _ :: _, [] => rfl
  | x :: xs, y :: ys => by
    unfold cmpL
    rw [cmpI_neg x y, cmpL_neg xs ys]
    split <;> split <;> omega
theorem cmpL_zero : ∀ xs ys : List Int, cmpL xs ys = 0 ↔ xs = ys
  | [], [] => by simp [cmpL]
  | [], _ :: _ => by simp [cmpL]
  | _ :: _, [] => by simp [cmpL]
  | x :: xs, y :: ys => by
    unfold cmpL
    have h1 := @cmpI_zero x y
    have h2 := cmpL_zero xs ys
    rw [List.cons.injEq]
    split
    · exact ⟨fun h => absurd h (by assumption), fun h => absurd (h1.2 h.1) (by assumption)⟩
    · rename_i h
      rw [Decidable.not_not] at h
      exact ⟨fun k => ⟨h1.1 h, h2.1 k⟩, fun k => h2.2 k.2⟩
theorem cmpL_trans : ∀ xs ys zs : List Int, cmpL xs ys < 0 → cmpL ys zs < 0 → cmpL xs zs < 0
  | [], [], _, h, _ => absurd h (by simp [cmpL])
  | _ :: _, [], _, h, _ => absurd h (by simp [cmpL])
  | _, _ :: _, [], _, h => absurd h (by simp [cmpL])
  | [], _ :: _, _ :: _, _, _ => by simp [cmpL]
  | x :: xs, y :: ys, z :: zs, h1, h2 => by
    unfold cmpL at *
    have a1 := @cmpI_lt x y
    have a2 := @cmpI_lt y z
    have a3 := @cmpI_lt x z
    have b1 := @cmpI_zero x y
    have b2 := @cmpI_zero y z
    have b3 := @cmpI_zero x z
    have ih := cmpL_trans xs ys zs
    split at h1
    · have hxy := a1.1 h1
      split at h2
      · have hyz := a2.1 h2
        have := a3.2 (by omega)
        rw [if_pos (by omega)]; exact this
      · rename_i h
        have := b2.1 (by omega)
        have := a3.2 (by omega)
        rw [if_pos (by omega)]; exact this
    · rename_i h
      have hxy := b1.1 (by omega)
      split at h2
      · have hyz := a2.1 h2
        have := a3.2 (by omega)
        rw [if_pos (by omega)]; exact this
      · rename_i h'
        have := b2.1 (by omega)
        have := b3.2 (by omega)
        rw [if_neg (by omega)]; exact ih h1 h2
theorem cmpN_eq (xs ys : List Int) : cmpN xs ys = if cmpI xs.length ys.length ≠ 0 then cmpI xs.length ys.length else cmpL xs ys := by
  unfold cmpN orL orL orL
  split
  · rfl
  · split
    · rfl
    · omega
theorem cmpN_neg (xs ys : List Int) : cmpN ys xs = - cmpN xs ys := by
  rw [cmpN_eq, cmpN_eq, cmpI_neg xs.length ys.length, cmpL_neg xs ys]
  split <;> split <;> omega
theorem cmpN_zero {xs ys : List Int} : cmpN xs ys = 0 ↔ xs = ys := by
  rw [cmpN_eq]
  split
  · rename_i h
    exact ⟨fun k => absurd k h, fun k => absurd (cmpI_zero.2 (by rw [k])) h⟩
  · exact cmpL_zero xs ys
theorem cmpN_trans {xs ys zs : List Int} (h1 : cmpN xs ys < 0) (h2 : cmpN ys zs < 0) : cmpN xs zs < 0 := by
  rw [cmpN_eq] at *
  have a1 := @cmpI_lt xs.length ys.length
  have a2 := @cmpI_lt ys.length zs.length
  have a3 := @cmpI_lt xs.length zs.length
  have b1 := @cmpI_zero xs.length ys.length
  have b2 := @cmpI_zero ys.length zs.length
  have b3 := @cmpI_zero xs.length zs.length
  split at h1
  · have hxy := a1.1 h1
    split at h2
    · have hyz := a2.1 h2
      have := a3.2 (by omega)
      rw [if_pos (by omega)]; exact this
    · have := b2.1 (by omega)
      have := a3.2 (by omega)
      rw [if_pos (by omega)]; exact this
  · have hxy := b1.1 (by omega)
    split at h2
    · have hyz := a2.1 h2
      have := a3.2 (by omega)
      rw [if_pos (by omega)]; exact this
    · have := b2.1 (by omega)
      have := b3.2 (by omega)
      rw [if_neg (by omega)]; exact cmpL_trans _ _ _ h1 h2
/-- Not less and not less is not less. -/
theorem cmpN_ge {xs ys zs : List Int} (h1 : ¬ cmpN xs ys < 0) (h2 : ¬ cmpN ys zs < 0) : ¬ cmpN xs zs < 0 := by
  intro h
  rcases Int.lt_or_eq_of_le (show 0 ≤ cmpN xs ys by omega) with k | k
  · have hyx : cmpN ys xs < 0 := by rw [cmpN_neg xs ys]; omega
    exact h2 (cmpN_trans hyx h)
  · rw [cmpN_zero.1 k.symm] at h
    exact h2 h
end Go.Proofs.YtmgengplfebmjaaDoor

namespace Go.Proofs.YtmgengplfebmjaaDoor
open Go Go.RowKit



theorem sw_heap {α : Type} [Inhabited α] (enc : α → Value) (w : World) (g m : Nat) (dk : Array α) (os : Array Obj) {b : Nat} (hb : b < w.heap.size) (hne : b ≠ g) : (sortWorld enc w g 0 m dk os).heap[b]? = w.heap[b]? := by
  show ((w.heap.modify g _) ++ os)[b]? = _
  rw [Array.getElem?_append_left (by rw [Array.size_modify]; exact hb), Array.getElem?_modify, if_neg (fun h => hne h.symm)]
theorem sw_size {α : Type} [Inhabited α] (enc : α → Value) (w : World) (g m : Nat) (dk : Array α) (os : Array Obj) : w.heap.size ≤ (sortWorld enc w g 0 m dk os).heap.size := by
  show _ ≤ ((w.heap.modify g _) ++ os).size
  rw [Array.size_append, Array.size_modify]; omega
theorem sw_below {α : Type} [Inhabited α] (enc : α → Value) (w : World) (g m : Nat) (dk : Array α) (os : Array Obj) {B : Nat} (hB : B ≤ g) (hg : g < w.heap.size) : Below B w (sortWorld enc w g 0 m dk os) :=
  ⟨rfl, rfl, rfl, sw_size enc w g m dk os, fun b hb => sw_heap enc w g m dk os (by omega) (by omega)⟩
theorem swo_cmpN {α : Type} (f : α → List Int) : Go.Sort.SWO (ltOf fun i j => cmpN (f i) (f j)) where
  irrefl x := by
    have : cmpN (f x) (f x) = 0 := cmpN_zero.2 rfl
    unfold ltOf; simp [this]
  trans x y z h1 h2 := by
    unfold ltOf at *
    rw [decide_eq_true_eq] at *
    exact cmpN_trans h1 h2
  ntrans x y z h1 h2 := by
    unfold ltOf at *
    rw [decide_eq_false_iff_not] at *
    exact cmpN_ge h1 h2
shelf_lay_g SlLaysF.n6 Slsf 6 at Tryd 51 as sortLists
end Go.Proofs.YtmgengplfebmjaaDoor

namespace Go.Proofs.YtmgengplfebmjaaDoor
open Go Go.RowKit

theorem ent77 (args : Array Value) (w : World) : (callFunc 52 args).run Tryd.prog w = .ok (.enter 52 args) w := enters_of Tryd.func52 (by kernel_rfl) rfl args w
/-- The lists, as they are sorted. -/
def srt (ms : List (List Int)) : Prop := ∀ i j, i < j → j < ms.length → ¬ cmpN (ms[j]?.getD []) (ms[i]?.getD []) < 0
theorem sort_ok (B g cap : Nat) (vs : List Value) (ls : List (List Int)) (w : World) (hrow : w.ownsRow B 22 1 (.slice (some ⟨g, 0, none⟩) vs.length cap) vs.length vs) (hls : Lsts w B (.slice (some ⟨g, 0, none⟩) vs.length cap) vs ls) (h60 : ∀ l, l ∈ ls → l.length ≤ 60) (hlen : vs.length < 4611686018427387904) (hpos : 0 < vs.length) :
    Calls Tryd.prog 51 #[.slice (some ⟨g, 0, none⟩) vs.length cap, .func (.func 52) #[] #[]] w fun e w' => e = .returned (.tuple #[]) ∧ Below B w w' ∧ ∃ ms : List (List Int), ms.Perm ls ∧ srt ms ∧ ∀ W' : World, (∀ b, B ≤ b → b < w'.heap.size → W'.heap[b]? = w'.heap[b]?) → w'.heap.size ≤ W'.heap.size → SlL W' (.slice (some ⟨g, 0, none⟩) vs.length cap) ms := by
  have hvl := hls.1
  have hown : B ≤ g ∧ g < w.heap.size ∧ vs.length ≤ cap ∧ cap ≤ maxLen := by
    rcases hrow.2 with ⟨h, _⟩ | ⟨g', cap', cur, h, h1, h2, h3, h4, _⟩
    · cases h
    · injection h with h5 _ h6
      injection h5 with h5
      injection h5 with h5
      subst h5 h6
      exact ⟨h1, (Array.getElem?_eq_some_iff.1 h2).1, h3, h4⟩
  obtain ⟨hBg, hgw, hcap, hcap2⟩ := hown
  haveI : Inhabited (Fin ls.length) := ⟨⟨0, by omega⟩⟩
  obtain ⟨enc, henc⟩ : ∃ enc : Fin ls.length → Value, ∀ i : Fin ls.length, vs[i.1]? = some (enc i) := ⟨fun i => vs[i.1]'(by omega), fun i => List.getElem?_eq_getElem (by omega)⟩
  have hval : ∀ i : Fin ls.length, ∃ a c pb po, enc i = .slice a (ls.get i).length c ∧ Reads w a pb po (ls.get i) ∧ pb < w.heap.size ∧ (ls.get i).length ≤ c ∧ c ≤ maxLen ∧ B ≤ pb ∧ pb ≠ g := fun i => by
    obtain ⟨a, c, pb, po, h1, h2, h3, h4, h5, h6, h7⟩ := hls.2 i.1 (enc i) (ls.get i) (henc i) (List.getElem?_eq_getElem i.2)
    exact ⟨a, c, pb, po, h1, h2, h3, h4, h5, h6, h7 g rfl⟩
  have hOne : OneCell enc := fun i => by
    obtain ⟨a, c, pb, po, h1, _⟩ := hval i
    rw [h1]; rfl
  obtain ⟨d, hd⟩ : ∃ d : Array (Fin ls.length), d = Array.ofFn (fun i => i) := ⟨_, rfl⟩
  have hds : d.size = vs.length := by rw [hd, Array.size_ofFn, hvl]
  have hH : Go.Sort.Holds enc w g 0 d := fun j hj => by
    have hj' : j < ls.length := by omega
    have h1 : d[j]! = ⟨j, hj'⟩ := by
      rw [getElem!_pos d j hj]
      simp [hd]
    have h3 := hrow.cells (g := g) rfl j (enc ⟨j, hj'⟩) (henc ⟨j, hj'⟩)
    rw [show (⟨g, 0, none⟩ : Addr).add j = ⟨g, j, none⟩ by unfold Addr.add; split <;> simp_all] at h3
    rw [Nat.zero_add, h1]
    exact ⟨h3, hrow.frozenAt j⟩
  have hSl : ∀ (W : World) (i : Fin ls.length), (∀ b, B ≤ b → b < w.heap.size → b ≠ g → W.heap[b]? = w.heap[b]?) → w.heap.size ≤ W.heap.size → Sl W (enc i) (ls.get i) := fun W i hW hs => by
    obtain ⟨a, c, pb, po, h1, h2, h3, h4, h5, h6, h7⟩ := hval i
    exact ⟨a, c, pb, po, h1, h2.of_eq (hW pb h6 h3 h7), Nat.lt_of_lt_of_le h3 hs, h4, h5⟩
  have hcmp : CmpLays1 Tryd.prog 52 #[] enc (fun i j : Fin ls.length => cmpN (ls.get i) (ls.get j)) g 0 d.size w := by
    intro m os dk _ x y
    have hw := fun b (_ : B ≤ b) (h1 : b < w.heap.size) (h2 : b ≠ g) => sw_heap enc w g m dk os h1 h2
    refine (lcmp_ok (enc x) (enc y) (ls.get x) (ls.get y) (sortWorld enc w g 0 m dk os) (hSl _ x hw (sw_size ..)) (hSl _ y hw (sw_size ..)) (h60 _ (List.get_mem ls _)) (h60 _ (List.get_mem ls _))).mono ?_
    rintro e w' ⟨rfl, o, q, rfl⟩
    refine ⟨rfl, q, #[o], ?_⟩
    rw [Go.Sort.alloc_eq_grow]
    rfl
  have hcon := Any.slices_SortFunc sortLists enc hOne (fun i j : Fin ls.length => cmpN (ls.get i) (ls.get j)) (swo_cmpN fun i : Fin ls.length => ls.get i) 52 #[] g 0 cap d w ent77 hcmp hH hgw (by omega)
  change Calls Tryd.prog 51 _ _ _ at hcon
  rw [hds] at hcon
  refine hcon.mono ?_
  rintro e w' ⟨rfl, d', n, os, hp, hs, rfl⟩
  refine ⟨rfl, sw_below enc w g n d' os hBg hgw, d'.toList.map (fun i => ls.get i), ?_, ?_, ?_⟩
  · obtain ⟨hp1, _, hp3⟩ := hp
    rw [← hds, show d.extract 0 d.size = d by simp, show d'.extract 0 d.size = d' by rw [← hp1]; simp] at hp3
    have h1 := hp3.map (fun i : Fin ls.length => ls.get i)
    have h2 : d.toList.map (fun i : Fin ls.length => ls.get i) = ls := by
      rw [hd]
      apply List.ext_getElem
      · simp
      · intro k h1 h2
        simp
    rw [h2] at h1
    exact h1
  · intro i j hij hj
    have hsz : d'.size = vs.length := by rw [hp.1, hds]
    have hj' : j < d'.size := by simpa using hj
    have h := hs i j (Nat.zero_le _) hij (by omega)
    unfold ltOf at h
    rw [decide_eq_false_iff_not, getElem!_pos d' i (by omega), getElem!_pos d' j hj'] at h
    rw [List.getElem?_map, List.getElem?_map, Array.getElem?_toList, Array.getElem?_toList, Array.getElem?_eq_getElem hj', Array.getElem?_eq_getElem (by omega)]
    exact h
  · intro W' hW hsW
    have hsz : d'.size = vs.length := by rw [hp.1, hds]
    have hsw := sw_size enc w g n d' os
    have hH' : Go.Sort.Holds enc (sortWorld enc w g 0 n d' os) g 0 d' := SW.holds ⟨n, os, rfl⟩ hgw hH (by rw [hsz, hds])
    refine ⟨some ⟨g, 0, none⟩, cap, g, 0, by simp [hsz], fun _ => rfl, fun j hj => ?_, by omega, by simp [hsz]; omega, hcap2⟩
    have hj' : j < d'.size := by simpa using hj
    obtain ⟨h1, _⟩ := hH' j hj'
    rw [getElem!_pos d' j hj'] at h1
    refine ⟨enc d'[j], ?_, ?_⟩
    · rw [← h1]
      simp only [World.cell?]
      rw [hW g hBg (by omega)]
    · rw [List.getElem?_map, Array.getElem?_toList, Array.getElem?_eq_getElem hj']
      exact hSl W' d'[j] (fun b h2 h3 h4 => (hW b h2 (by omega)).trans (sw_heap enc w g n d' os h3 h4)) (by omega)
end Go.Proofs.YtmgengplfebmjaaDoor

namespace Go.Proofs.YtmgengplfebmjaaDoor
open Go Go.RowKit

/-- How what is found lies: the group's box, the box of the list, the list. -/
structure SgV (w W : World) (n : Nat) (v : Value) (os : List (List Int)) : Prop where
  bel : Below w.heap.size w W
  box : BoxG W w.heap.size n v
  sz : w.heap.size + 2 ≤ W.heap.size
  ex : ∃ r vs, Boxed W (w.heap.size + 1) 25 r ∧ W.ownsRow (w.heap.size + 2) 22 1 r vs.length vs ∧ Lsts W (w.heap.size + 2) r vs os
theorem SgV.below {w W W' : World} {n : Nat} {v : Value} {os : List (List Int)} (h : SgV w W n v os) (hb : Below W.heap.size W W') : SgV w W' n v os := by
  obtain ⟨r, vs, h1, h2, h3⟩ := h.ex
  exact ⟨bcat2 h.bel hb, blk_below h.box hb, Nat.le_trans h.sz hb.size, r, vs, Boxed.below h1 hb, own_keep' h2 (fun g _ h9 => hb.block g h9), h3.keep hb.size (fun g _ h9 _ => hb.block g h9) (.inl rfl)⟩
theorem SgV.own_lt {w W : World} {n : Nat} {v : Value} {os : List (List Int)} (h : SgV w W n v os) {r : Value} (hr : Boxed W (w.heap.size + 1) 25 r) {t : Nat} (ht : r.ownBlock = some t) : t < W.heap.size := by
  obtain ⟨r9, vs, h1, h2, _⟩ := h.ex
  have h93 := h1.cell
  rw [hr.cell] at h93
  injection h93 with h93
  subst h93
  rcases h2.2 with ⟨h8, _⟩ | ⟨g9, cap9, cur9, h8, h7, h6, _⟩
  · rw [h8] at ht; simp [Value.ownBlock] at ht
  · rw [h8] at ht
    simp [Value.ownBlock] at ht
    subst ht
    exact (Array.getElem?_eq_some_iff.1 h6).1
theorem call62 (a x : Value) (W : World) : Sem.run Tryd.prog (callFunc 62 (#[a] ++ #[x])) W = .ok (.enter 62 (#[a] ++ #[x])) W := by kernel_rfl
/-- The list, with one more where it is new. -/
def putL (os : List (List Int)) (xs : List Int) : List (List Int) := if xs ∈ os then os else os ++ [xs]
theorem addr_add' (g t : Nat) : (⟨g, 0, none⟩ : Addr).add t = ⟨g, t, none⟩ := by unfold Addr.add; split <;> simp_all
set_option maxRecDepth 100000 in
set_option maxHeartbeats 8000000 in
theorem add_ok (n B : Nat) (v lv : Value) (os : List (List Int)) (xs : List Int) (w W : World) (hV : SgV w W n v os) (hl : Row W B lv xs) (hx0 : 0 < xs.length) (hB : w.heap.size + 2 ≤ B) (hown : ∀ r, Boxed W (w.heap.size + 1) 25 r → ∀ t, r.ownBlock = some t → t < B) (hos : os.length ≤ 16777216) :
    Calls Tryd.prog 62 (#[lv] ++ #[.pointer (some ⟨w.heap.size + 1, 0, none⟩)]) W fun x W' => (∃ b, x = .returned (.bool b)) ∧ SgV w W' n v (putL os xs) := by
  show Calls Tryd.prog 62 #[lv, .pointer (some ⟨w.heap.size + 1, 0, none⟩)] W _
  obtain ⟨i2, hi2, hy0, hy1, hy2⟩ := info_parts info22b
  obtain ⟨r, vs, hr1, hr2, hr3⟩ := hV.ex
  have h0W : 0 < W.heap.size := by have := hV.sz; omega
  have hlS := row_sl hl h0W
  obtain ⟨m1, m3, hme⟩ := own_slice hl
  subst hme
  have hLS := SlL.of_own hr2 hr3 h0W
  obtain ⟨ra, rc, hre⟩ := own_slice' hr2
  subst hre
  have hvl := hr3.1
  obtain ⟨oa, oc, opb, opo, hov, hoat, hocell, hop, ho4, ho5⟩ := id hLS
  injection hov with e1 e2 e3
  subst e1 e3
  have HOA := hide hoat
  have HOC := hide hocell
  have HVL := hide hvl
  have HOL := hide (fun t ht => hown _ hr1 t ht)
  have HV := hide hV
  have hvs : vs.length ≤ 16777216 := by omega
  have k0 := hr1.cell
  clear hoat hocell ho4 ho5 e2 hvl hown
  go_enter Tryd.func62, Tryd.ntmps62
  go_wp2
  go_loopw [4] (fun i wr => ∃ k : Nat, k ≤ vs.length ∧ i = .int .i64 k ∧ ¬ xs ∈ os.take k ∧ Below W.heap.size W wr) (fun i _ => vs.length - (intOf i).toNat)
  case atStart => exact ⟨0, Nat.zero_le _, rfl, by simp, Below.refl _ _⟩
  case round =>
    obtain ⟨k, hk, rfl, hno, hBk⟩ := hrel
    have HNO := hide hno
    have k1 := below_cell hBk k0
    clear hno
    by_cases hlt : k < vs.length
    · have hki : (k : Int) < (vs.length : Int) := by omega
      have hko : k < os.length := by have := HVL.out; omega
      obtain rfl := HOA.out (by omega)
      obtain ⟨x, hx, hxs⟩ := HOC.out k hko
      rw [List.getElem?_eq_getElem hko, Option.getD_some] at hxs
      obtain ⟨x1, x2, x3, rfl⟩ := hxs.isSlice
      have hx := below_cell hBk hx
      have HI := hide (ints_any (.slice x1 x2 x3) (.slice m1 xs.length m3) _ _ wr (hxs.below hBk) (hlS.below hBk))
      have htk : os.take (k + 1) = os.take k ++ [os[k]] := List.take_succ_eq_append_getElem hko
      go_wp2_with fail
      clear hx
      refine HI.out.mono ?_
      rintro x w6 ⟨rfl, hb6⟩
      have hB6 := bcat2 hBk hb6
      by_cases he : os[k] = xs
      · rw [decide_eq_true he]
        have hin : xs ∈ os := he ▸ List.getElem_mem hko
        go_wp2
        go_ret
        exact ⟨⟨false, rfl⟩, by unfold putL; rw [if_pos hin]; exact HV.out.below hB6⟩
      · rw [decide_eq_false he]
        have hno2 : ¬ xs ∈ os.take (k + 1) := by
          rw [htk, List.mem_append, List.mem_singleton]
          rintro (h | h)
          · exact HNO.out h
          · exact he h.symm
        clear htk he
        go_wp2
        go_roundw
        case rel => exact ⟨k + 1, by omega, by go_num, hno2, hB6⟩
        case measure => simp [intOf]; omega
    · have hki : ¬ (k : Int) < (vs.length : Int) := by omega
      have hnin : ¬ xs ∈ os := by
        have := HNO.out
        rwa [List.take_of_length_le (by have := HVL.out; omega)] at this
      have hVr := HV.out.below hBk
      have hrr2 := own_keep' hr2 (fun g _ h9 => hBk.block g h9)
      have hrr3 := hr3.keep (r' := .slice ra vs.length rc) hBk.size (fun g _ h9 _ => hBk.block g h9) (.inl rfl)
      have hrr1 := Boxed.below hr1 hBk
      have hlr := row_below hl hBk
      have hszr := hVr.sz
      have HNI := hide hnin
      clear hnin
      go_wp2_with (first
        | (at_builtin; refine wpList_append_own_at _ rfl _ _ 25 rfl (w.heap.size + 2) 22 i2 (.slice none 0 0) 1 24 under25b hi2 hy0 hy1 hy2 rfl (by decide) _ _ _ rfl (World.ownsRow.alloc hrr2 _) ⟨wr.heap.size, 0, none⟩ 1 1 [.slice m1 xs.length m3] rfl rfl (cell_one_new _ _ _) ?c2 ?c3 ?c4 ?c5 ?_))
      case c2 => simp [Value.oneCell']
      case c3 => unfold maxLen; omega
      case c4 => omega
      case c5 => (first | omega | (rw [World.size_alloc]; omega) | (simp; omega))
      intro v' W2 hown' hgrow hnil hloc
      obtain ⟨ra', rcap', rfl⟩ := own_slice' hown'
      have hge := owns_ge hrr2
      have hne : ∀ b, b < w.heap.size + 2 → some b ≠ (Value.slice ra vs.length rc).ownBlock := fun b h1 h2 => by have := hge b h2.symm; omega
      have hO2 : Boxed W2 (w.heap.size + 1) 25 (.slice ra vs.length rc) := (hrr1.alloc _).kept hgrow (hne _ (by omega))
      have hB2 : Below w.heap.size w W2 := (hVr.bel.alloc (by omega) _).grown hgrow (by simp; omega) (fun j e => by have := hge j e; omega)
      have hX2 : BoxG W2 w.heap.size n v := (hVr.box.alloc _).grown hgrow (hne _ (by omega))
      have hszw : wr.heap.size + 1 ≤ W2.heap.size := by have := hgrow.size; simpa using this
      have hkeep : ∀ b, b < wr.heap.size → b ≠ w.heap.size + 1 → (Value.slice ra vs.length rc).ownBlock ≠ some b → (W2.setCell ⟨w.heap.size + 1, 0, none⟩ (.slice ra' (vs.length + 1) rcap')).heap[b]? = wr.heap[b]? := fun b h1 h2 h3 => by
        rw [Below.heap_setCell _ _ _ _ h2, hgrow.block b (by simp; omega) (fun e => h3 e.symm)]
        exact Below.heap_alloc _ _ _ h1
      have hlo : (Value.slice ra' (vs.length + 1) rcap').ownBlock = (Value.slice ra vs.length rc).ownBlock ∨ ∀ g, (Value.slice ra' (vs.length + 1) rcap').ownBlock = some g → wr.heap.size ≤ g := by
        rcases hloc with h | h
        · exact .inl h
        · right; intro g hg; rw [h] at hg; simp at hg; omega
      have hV3 : SgV w (W2.setCell ⟨w.heap.size + 1, 0, none⟩ (.slice ra' (vs.length + 1) rcap')) n v (os ++ [xs]) := by
        refine ⟨hB2.setCell (p := ⟨w.heap.size + 1, 0, none⟩) (by simp) _, hX2.other (p := ⟨w.heap.size + 1, 0, none⟩) (by simp) _, by rw [size_set]; omega, .slice ra' (vs.length + 1) rcap', vs ++ [.slice m1 xs.length m3], hO2.set _, ?_, ?_⟩
        · rw [List.length_append]
          exact own_keep' hown' (fun b h1 h2 => Below.heap_setCell _ _ _ _ (by simp; omega))
        · refine (hrr3.keep (by rw [size_set]; omega) (fun b h1 h2 h3 => hkeep b h2 (by omega) h3) hlo).snoc ?_
          rcases hlr.2 with ⟨h8, h7⟩ | ⟨g9, cap9, cur9, h8, h7, h6, h5, h4, _⟩
          · omega
          · injection h8 with e1 e2 e3
            subst e1 e3
            have hg9 : g9 < wr.heap.size := (Array.getElem?_eq_some_iff.1 h6).1
            have hrd : Reads wr (some ⟨g9, 0, none⟩) g9 0 xs := by
              refine ⟨fun _ => rfl, fun t ht => ?_⟩
              have h3 := hlr.cells (g := g9) rfl t (.int .i64 (xs[t]?.getD 0)) (by simp [ht])
              rw [addr_add'] at h3
              rw [Nat.zero_add]; exact h3
            have hne9 : (Value.slice ra vs.length rc).ownBlock ≠ some g9 := fun e => by have := HOL.out g9 e; omega
            refine ⟨some ⟨g9, 0, none⟩, m3, g9, 0, rfl, hrd.of_eq (hkeep g9 hg9 (by omega) hne9), by rw [size_set]; omega, h5, h4, by omega, fun g hg e => ?_⟩
            subst e
            rcases hlo with h | h
            · exact hne9 (h ▸ hg)
            · have := h _ hg; omega
      have k2 := hO2.cell
      have kf2 := hO2.frozen
      have HV3 := hide hV3
      clear hV3 hlo hkeep hszw hX2 hB2 hO2 hne hge hown' hgrow hnil hloc hVr hrr2 hrr3 hrr1 hlr
      go_wp2
      go_ret
      exact ⟨⟨true, rfl⟩, by unfold putL; rw [if_neg HNI.out]; exact HV3.out⟩
end Go.Proofs.YtmgengplfebmjaaDoor

namespace Go.Proofs.YtmgengplfebmjaaDoor
open Go Go.RowKit

def LL (n : Nat) (P : List (Nat → Bool)) : List (List Int) := P.map fun p => li (lst n p)
theorem lst_bs {n : Nat} {p q : Nat → Bool} : li (lst n p) = li (lst n q) ↔ bs p n = bs q n := by
  constructor
  · intro h
    have h := li_inj h
    refine bs_ext fun a ha => ?_
    have h1 : a ∈ lst n p ↔ a ∈ lst n q := by rw [h]
    rw [mem_lst, mem_lst] at h1
    cases hp : p a <;> cases hq : q a <;> simp_all
  · intro h
    rw [lst_congr (bs_inj h)]
theorem LL_mem {n : Nat} {P : List (Nat → Bool)} {p : Nat → Bool} : li (lst n p) ∈ LL n P ↔ bs p n ∈ bits n P := by
  unfold LL bits
  rw [List.mem_map, List.mem_map]
  constructor
  · rintro ⟨q, hq, h⟩; exact ⟨q, hq, lst_bs.1 h⟩
  · rintro ⟨q, hq, h⟩; exact ⟨q, hq, lst_bs.2 h⟩
theorem putL_put {n : Nat} {P : List (Nat → Bool)} {p : Nat → Bool} : putL (LL n P) (li (lst n p)) = LL n (put n P p) := by
  unfold putL put
  by_cases h : bs p n ∈ bits n P
  · rw [if_pos (LL_mem.2 h), if_pos h]
  · rw [if_neg (fun h9 => h (LL_mem.1 h9)), if_neg h]
    simp [LL]
theorem LL_nodup {n : Nat} {P : List (Nat → Bool)} (h : (bits n P).Nodup) : (LL n P).Nodup := by
  unfold LL bits at *
  rw [List.nodup_iff_pairwise_ne, List.pairwise_map] at *
  exact h.imp fun {p q} h9 h8 => h9 (lst_bs.1 h8)
theorem mkb {n e a : Nat} {zs : List Int} {q : Nat → Bool} (ha : a < n) (h : q a = true) : Mkd n zs e q a := Fin.Gen.base (List.mem_range.2 ha) h
/-- What one thing makes. -/
def CM (n : Nat) (zs : List Int) (e b : Nat) (p : Nat → Bool) : Prop := ∀ x, x < n → (p x = true ↔ Mkd n zs e (fun y => decide (y ∈ [b])) x)
/-- What two sets make. -/
def JM (n : Nat) (zs : List Int) (e : Nat) (q r p : Nat → Bool) : Prop := ∀ x, x < n → (p x = true ↔ Mkd n zs e (fun y => decide (y ∈ lst n q ++ lst n r)) x)
theorem mk_sub {n e : Nat} {zs : List Int} {q p : Nat → Bool} (g : IsGrp n zs e) (h : ∀ x, x < n → (p x = true ↔ Mkd n zs e q x)) : subT n zs e p = true := subT_iff.2 (made_sg g h)
structure DA (n : Nat) (zs : List Int) (e : Nat) (P : List (Nat → Bool)) (c : Nat) : Prop where
  sub : ∀ p, p ∈ P → subT n zs e p = true
  nd : (bits n P).Nodup
  cyc : ∀ b, b < c → ∃ (j : Nat) (p : Nat → Bool), P[j]? = some p ∧ CM n zs e b p
structure DB (n : Nat) (zs : List Int) (e : Nat) (P : List (Nat → Bool)) (few i k : Nat) : Prop where
  sub : ∀ p, p ∈ P → subT n zs e p = true
  nd : (bits n P).Nodup
  cyc : ∀ b, b < n → ∃ (j : Nat) (p : Nat → Bool), j < few ∧ P[j]? = some p ∧ CM n zs e b p
  fl : few ≤ P.length
  cl : ∀ i' q k' r, P[i']? = some q → P[k']? = some r → k' < few → (i' < i ∨ i' = i ∧ k' < k) → ∃ p, p ∈ P ∧ JM n zs e q r p
section
variable {n e : Nat} {zs : List Int} {P : List (Nat → Bool)} {p q r : Nat → Bool}
theorem put_nd (h : (bits n P).Nodup) : (bits n (put n P p)).Nodup := by
  unfold put
  by_cases h9 : bs p n ∈ bits n P
  · rw [if_pos h9]; exact h
  · rw [if_neg h9, bits_snoc, List.nodup_append]
    refine ⟨h, by simp, fun x hx y hy => ?_⟩
    rw [List.mem_singleton] at hy
    subst hy
    intro e9
    subst e9
    exact h9 hx
theorem put_subs (h : ∀ p, p ∈ P → subT n zs e p = true) (hp : subT n zs e p = true) : ∀ r, r ∈ put n P p → subT n zs e r = true := fun r hr => by
  unfold put at hr
  split at hr
  · exact h r hr
  · rcases List.mem_append.1 hr with hr | hr
    · exact h r hr
    · rw [List.mem_singleton] at hr; subst hr; exact hp
theorem put_old {i : Nat} (hi : i < P.length) (h : (put n P p)[i]? = some q) : P[i]? = some q := by
  have := put_get (n := n) p (List.getElem?_eq_getElem hi)
  rw [this] at h
  rw [← h]
  exact List.getElem?_eq_getElem hi
theorem put_len : P.length ≤ (put n P p).length := by unfold put; split <;> simp
theorem bits_fit (h : (bits n P).Nodup) (hn : n ≤ 24) : P.length ≤ 16777216 := by
  rw [← bits_len n P]
  refine nodup_fits h fun x hx => ?_
  unfold bits at hx
  obtain ⟨p, _, rfl⟩ := List.mem_map.1 hx
  exact Nat.lt_of_lt_of_le (bs_lt p n) (Nat.le_trans (Nat.pow_le_pow_right (by omega) hn) (by decide))
theorem DA.start : DA n zs e [] 0 := ⟨fun p hp => by simp at hp, by simp [bits], fun b hb => by omega⟩
theorem DA.step {c : Nat} (g : IsGrp n zs e) (h : DA n zs e P c) (hp : CM n zs e c p) : DA n zs e (put n P p) (c + 1) := by
  refine ⟨put_subs h.sub (mk_sub g hp), put_nd h.nd, fun b hb => ?_⟩
  by_cases hbc : b = c
  · subst hbc
    obtain ⟨p', h1, h2⟩ := put_mem (n := n) (P := P) (p := p)
    obtain ⟨j, hj⟩ := List.mem_iff_getElem?.1 h1
    exact ⟨j, p', hj, fun x hx => by rw [bs_inj h2 x hx]; exact hp x hx⟩
  · obtain ⟨j, p', h1, h2⟩ := h.cyc b (by omega)
    exact ⟨j, p', put_get p h1, h2⟩
theorem DA.on (h : DA n zs e P n) : DB n zs e P P.length 0 0 :=
  ⟨h.sub, h.nd, fun b hb => by
    obtain ⟨j, p, h1, h2⟩ := h.cyc b hb
    exact ⟨j, p, (List.getElem?_eq_some_iff.1 h1).1, h1, h2⟩, Nat.le_refl _, fun i' q k' r _ _ _ h9 => by omega⟩
theorem DB.step {few i k : Nat} (g : IsGrp n zs e) (h : DB n zs e P few i k) (hq : P[i]? = some q) (hr : P[k]? = some r) (hp : JM n zs e q r p) : DB n zs e (put n P p) few i (k + 1) := by
  refine ⟨put_subs h.sub (mk_sub g hp), put_nd h.nd, fun b hb => ?_, Nat.le_trans h.fl put_len, fun i' q' k' r' h1 h2 h3 h4 => ?_⟩
  · obtain ⟨j, p', h1, h2, h3⟩ := h.cyc b hb
    exact ⟨j, p', h1, put_get p h2, h3⟩
  · have hil := (List.getElem?_eq_some_iff.1 hq).1
    have hfl := h.fl
    have h1 := put_old (by omega) h1
    have h2 := put_old (by omega) h2
    by_cases h9 : i' = i ∧ k' = k
    · obtain ⟨rfl, rfl⟩ := h9
      rw [hq] at h1
      rw [hr] at h2
      injection h1 with h1
      injection h2 with h2
      subst h1 h2
      obtain ⟨p', h5, h6⟩ := put_mem (n := n) (P := P) (p := p)
      exact ⟨p', h5, fun x hx => by rw [bs_inj h6 x hx]; exact hp x hx⟩
    · obtain ⟨p', h5, h6⟩ := h.cl i' q' k' r' h1 h2 h3 (by omega)
      exact ⟨p', put_sub h5, h6⟩
theorem mkd_in {x : Nat} (hq : subT n zs e q = true) {t : Nat → Bool} (ht : ∀ y, y < n → t y = true → q y = true) (hm : Mkd n zs e t x) : q x = true :=
  hm _ (subT_iff.1 hq) (fun z hz h => ht z (List.mem_range.1 hz) h)
theorem DB.skip {few i k : Nat} (h : DB n zs e P few i k) (hq : P[i]? = some q) (hr : P[k]? = some r) (hin : ∀ y, y < n → r y = true → q y = true) : DB n zs e P few i (k + 1) :=
  ⟨h.sub, h.nd, h.cyc, h.fl, fun i' q' k' r' h1 h2 h3 h4 => by
    by_cases h9 : i' = i ∧ k' = k
    · obtain ⟨rfl, rfl⟩ := h9
      rw [hq] at h1
      rw [hr] at h2
      injection h1 with h1
      injection h2 with h2
      subst h1 h2
      have hqm := List.mem_of_getElem? hq
      refine ⟨q, hqm, fun x hx => ⟨fun h5 => mkb hx (decide_eq_true (List.mem_append_left _ (mem_lst.2 ⟨hx, h5⟩))), fun h5 => mkd_in (h.sub q hqm) (fun y hy hyt => ?_) h5⟩⟩
      rcases List.mem_append.1 (of_decide_eq_true hyt) with h6 | h6
      · exact (mem_lst.1 h6).2
      · exact hin y hy (mem_lst.1 h6).2
    · exact h.cl i' q' k' r' h1 h2 h3 (by omega)⟩
theorem DB.next {few i k : Nat} (h : DB n zs e P few i k) (hk : few ≤ k) : DB n zs e P few (i + 1) 0 :=
  ⟨h.sub, h.nd, h.cyc, h.fl, fun i' q' k' r' h1 h2 h3 h4 => h.cl i' q' k' r' h1 h2 h3 (by omega)⟩
theorem DB.fin {few i : Nat} (g : IsGrp n zs e) (h : DB n zs e P few i 0) (hi : P.length ≤ i) : SInv n zs e P P.length 0 := by
  refine ⟨h.sub, h.nd, ?_, fun i' q hq b hb _ => ?_⟩
  · obtain ⟨j, p, _, h1, h2⟩ := h.cyc e g.elt
    unfold bits
    refine List.mem_map.2 ⟨p, List.mem_of_getElem? h1, bs_ext fun x hx => ?_⟩
    have hone : subT n zs e (fun x => decide (x = e)) = true := (SInv.start g).sub _ (by simp)
    cases hp : p x
    · symm
      refine decide_eq_false fun h9 => ?_
      subst h9
      have := (h2 x hx).2 ((Fin.Gen.sg _).one)
      rw [hp] at this
      cases this
    · symm
      exact mkd_in (q := fun x => decide (x = e)) hone (fun y _ hyt => by
        have := of_decide_eq_true hyt
        rw [List.mem_singleton] at this
        exact decide_eq_true this) ((h2 x hx).1 hp)
  · obtain ⟨j, c, hj, h1, h2⟩ := h.cyc b hb
    have hil := (List.getElem?_eq_some_iff.1 hq).1
    obtain ⟨p, h3, h4⟩ := h.cl i' q j c hq h1 hj (by omega)
    refine ⟨p, h3, fun x hx => ?_⟩
    rw [h4 x hx]
    have S1 := Fin.Gen.sg (l := List.range n) (m := tm n zs) (e := e) (fun y => (fun y => q y || decide (y = b)) y = true)
    have S2 := Fin.Gen.sg (l := List.range n) (m := tm n zs) (e := e) (fun y => (fun y => decide (y ∈ lst n q ++ lst n c)) y = true)
    constructor
    · intro h5
      refine h5 _ S1 (fun z hz hq9 => ?_)
      rcases List.mem_append.1 (of_decide_eq_true hq9) with h6 | h6
      · exact Fin.Gen.base hz (by simp [(mem_lst.1 h6).2])
      · have h7 := (h2 z (List.mem_range.1 hz)).1 (mem_lst.1 h6).2
        refine h7 _ S1 (fun y hy h8 => ?_)
        have := of_decide_eq_true h8
        rw [List.mem_singleton] at this
        exact Fin.Gen.base hy (by simp [this])
    · intro h5
      refine h5 _ S2 (fun z hz hq9 => ?_)
      have hzn := List.mem_range.1 hz
      by_cases hqz : q z = true
      · exact Fin.Gen.base hz (decide_eq_true (List.mem_append_left _ (mem_lst.2 ⟨hzn, hqz⟩)))
      · have hzb : z = b := by simpa [hqz] using hq9
        exact Fin.Gen.base hz (decide_eq_true (List.mem_append_right _ (mem_lst.2 ⟨hzn, (h2 z hzn).2 (mkb hzn (by simp [hzb]))⟩)))
end
end Go.Proofs.YtmgengplfebmjaaDoor

namespace Go.Proofs.YtmgengplfebmjaaDoor
open Go Go.RowKit

set_option maxRecDepth 100000 in
set_option maxHeartbeats 2000000 in
theorem less_ok (u v : Value) (xs ys : List Int) (w : World) (hu : Sl w u xs) (hv : Sl w v ys) (hl : xs.length = ys.length) :
    Calls Tryd.prog 39 #[u, v] w fun e w' => e = .returned (.bool (decide (cmpL xs ys < 0))) ∧ Below w.heap.size w w' := by
  obtain ⟨a, cap, pb, po, rfl, hr, hp, hc1, hm1⟩ := hu
  obtain ⟨b, cap', qb, qo, rfl, hs, hq, hc2, hm2⟩ := hv
  unfold maxLen at hm1 hm2
  have HL := hide hl
  have hle1 : xs.length ≤ ys.length := by omega
  have hle2 : ys.length ≤ xs.length := by omega
  clear hl
  go_enter Tryd.func39, Tryd.ntmps39
  go_wp2
  go_loopw [5] (fun i wr => ∃ k j : Nat, k ≤ xs.length ∧ i = .int .i64 k ∧ wr = w.drewN j ∧ cmpL xs ys = cmpL (xs.drop k) (ys.drop k)) (fun i _ => xs.length - (intOf i).toNat)
  case atStart => exact ⟨0, 0, Nat.zero_le _, rfl, rfl, by simp⟩
  case round =>
    obtain ⟨k, j, hk, rfl, rfl, hsame⟩ := hrel
    have HS := hide hsame
    clear hsame
    by_cases hlt : k < xs.length
    · have hlu : k < ys.length := by omega
      have hx := hr.cell k hlt
      have hy := hs.cell k hlu
      have HE := hide (cmpL_step hlt hlu)
      rw [List.getElem?_eq_getElem hlt, Option.getD_some] at hx
      rw [List.getElem?_eq_getElem hlu, Option.getD_some] at hy
      obtain rfl := hr.at_ (by omega)
      obtain rfl := hs.at_ (by omega)
      generalize xs[k] = x at *
      generalize ys[k] = y at *
      have hki : (k : Int) < (xs.length : Int) := by omega
      have hkj : (k : Int) < (ys.length : Int) := by omega
      by_cases hxy : x = y
      · have hb : (x != y) = false := by simp [hxy]
        have HN := hide (show cmpL xs ys = cmpL (xs.drop (k + 1)) (ys.drop (k + 1)) by
          rw [HS.out, HE.out, if_neg (by rw [Decidable.not_not]; exact cmpI_zero.2 hxy)])
        clear hxy
        go_wp2
        go_quiet (fail)
        go_wp2
        go_roundw
        case rel => exact ⟨k + 1, _, by omega, by go_num, rfl, HN.out⟩
        case measure => simp [intOf]; omega
      · have hb : (x != y) = true := by simp [hxy]
        have HD := hide (show decide (cmpL xs ys < 0) = decide (x < y) by
          rw [HS.out, HE.out, if_pos (fun h => hxy (cmpI_zero.1 h))]
          rw [Bool.eq_iff_iff, decide_eq_true_eq, decide_eq_true_eq]
          exact cmpI_lt)
        clear hxy
        go_wp2
        go_quiet (fail)
        go_wp2
        go_quiet (fail)
        go_wp2
        go_ret
        exact ⟨by rw [HD.out]; rfl, bdrewN (bdrewN (bdrewN (Below.refl _ w) _) _) _⟩
    · have HD := hide (show decide (cmpL xs ys < 0) = false by
        rw [HS.out, cmpL_end (by omega) (by omega)]; rfl)
      go_wp2
      go_ret
      exact ⟨by rw [HD.out]; rfl, bdrewN (Below.refl _ w) _⟩

/-- Two places, changed. -/
def swA {α : Type} (l : List α) (i k : Nat) (x y : α) : List α := (l.set i y).set k x
theorem swA_len {α : Type} {l : List α} {i k : Nat} {x y : α} : (swA l i k x y).length = l.length := by simp [swA]
theorem swA_perm {α : Type} {l : List α} {i k : Nat} {x y : α} (hi : i < l.length) (hk : k < l.length) (hx : l[i]? = some x) (hy : l[k]? = some y) : (swA l i k x y).Perm l := by
  have h1 := @List.set_set_perm _ l i k hi hk
  rw [List.getElem?_eq_getElem hi] at hx
  rw [List.getElem?_eq_getElem hk] at hy
  injection hx with hx
  injection hy with hy
  rw [hx, hy] at h1
  exact h1
theorem swA_get {α : Type} {l : List α} {i k t : Nat} {x y : α} (hi : i < l.length) (hk : k < l.length) (hik : i ≠ k) : (swA l i k x y)[t]? = if t = k then some x else if t = i then some y else l[t]? := by
  unfold swA
  rw [List.getElem?_set, List.getElem?_set]
  by_cases h1 : t = k
  · subst h1
    rw [if_pos rfl, if_pos rfl, if_pos (by rw [List.length_set]; omega)]
  · rw [if_neg (fun e => h1 e.symm), if_neg h1]
    by_cases h2 : t = i
    · subst h2
      rw [if_pos rfl, if_pos rfl, if_pos hi]
    · rw [if_neg (fun e => h2 e.symm), if_neg h2]
theorem lsts_swA {W : World} {B : Nat} {r : Value} {vs : List Value} {ls : List (List Int)} {i k : Nat} {a b : Value} {x y : List Int} (h : Lsts W B r vs ls) (hi : i < vs.length) (hk : k < vs.length) (hik : i ≠ k) (ha : vs[i]? = some a) (hb : vs[k]? = some b) (hx : ls[i]? = some x) (hy : ls[k]? = some y) : Lsts W B r (swA vs i k a b) (swA ls i k x y) := by
  refine ⟨by rw [swA_len, swA_len]; exact h.1, fun t u l h1 h2 => ?_⟩
  have hl := h.1
  rw [swA_get hi hk hik] at h1
  rw [swA_get (by omega) (by omega) hik] at h2
  by_cases e1 : t = k
  · rw [if_pos e1] at h1 h2
    injection h1 with h1
    injection h2 with h2
    subst h1 h2
    exact h.2 i _ _ ha hx
  · rw [if_neg e1] at h1 h2
    by_cases e2 : t = i
    · rw [if_pos e2] at h1 h2
      injection h1 with h1
      injection h2 with h2
      subst h1 h2
      exact h.2 k _ _ hb hy
    · rw [if_neg e2] at h1 h2
      exact h.2 t u l h1 h2
def srtA (ms : List (List Int)) (i : Nat) : Prop := ∀ a b, a < i → a < b → b < ms.length → ¬ cmpN (ms[b]?.getD []) (ms[a]?.getD []) < 0
structure SrtB (ms : List (List Int)) (i k : Nat) : Prop where
  l : srtA ms i
  r : ∀ b, i < b → b < k → b < ms.length → ¬ cmpN (ms[b]?.getD []) (ms[i]?.getD []) < 0
theorem SrtB.start {ms : List (List Int)} {i : Nat} (h : srtA ms i) : SrtB ms i (i + 1) := ⟨h, fun b h1 h2 => by omega⟩
theorem SrtB.skip {ms : List (List Int)} {i k : Nat} {x y : List Int} (h : SrtB ms i k) (hx : ms[i]? = some x) (hy : ms[k]? = some y) (hn : ¬ cmpN y x < 0) : SrtB ms i (k + 1) :=
  ⟨h.l, fun b h1 h2 h3 => by
    by_cases e : b = k
    · subst e; rw [hx, hy]; exact hn
    · exact h.r b h1 (by omega) h3⟩
theorem SrtB.swap {ms : List (List Int)} {i k : Nat} {x y : List Int} (h : SrtB ms i k) (hik : i < k) (hk : k < ms.length) (hx : ms[i]? = some x) (hy : ms[k]? = some y) (hn : cmpN y x < 0) : SrtB (swA ms i k x y) i (k + 1) := by
  have gx : ms[i]?.getD [] = x := by rw [hx]; rfl
  have gy : ms[k]?.getD [] = y := by rw [hy]; rfl
  have hxy : ¬ cmpN x y < 0 := by have := cmpN_neg y x; omega
  refine ⟨fun a b h1 h2 h3 => ?_, fun b h1 h2 h3 => ?_⟩
  · rw [swA_len] at h3
    rw [swA_get (by omega) hk (by omega), swA_get (by omega) hk (by omega), if_neg (show ¬ a = k by omega), if_neg (show ¬ a = i by omega)]
    by_cases e1 : b = k
    · rw [if_pos e1]
      show ¬ cmpN x _ < 0
      rw [← gx]
      exact h.l a i h1 (by omega) (by omega)
    · rw [if_neg e1]
      by_cases e2 : b = i
      · rw [if_pos e2]
        show ¬ cmpN y _ < 0
        rw [← gy]
        exact h.l a k h1 (by omega) hk
      · rw [if_neg e2]
        exact h.l a b h1 h2 h3
  · rw [swA_len] at h3
    rw [swA_get (by omega) hk (by omega), swA_get (by omega) hk (by omega), if_neg (show ¬ i = k by omega), if_pos rfl]
    by_cases e1 : b = k
    · rw [if_pos e1]; exact hxy
    · rw [if_neg e1, if_neg (show ¬ b = i by omega)]
      have h4 := h.r b h1 (by omega) h3
      rw [gx] at h4
      exact cmpN_ge h4 hxy
theorem SrtB.fin {ms : List (List Int)} {i k : Nat} (h : SrtB ms i k) (hk : ms.length ≤ k) : srtA ms (i + 1) := fun a b h1 h2 h3 => by
  by_cases e : a = i
  · subst e; exact h.r b h2 (by omega) h3
  · exact h.l a b (by omega) h2 h3
/-- How the lists lie while they are put in order. -/
structure SgT (w W : World) (n : Nat) (v : Value) (g K rc : Nat) (us : List Value) (ms : List (List Int)) : Prop where
  bel : Below w.heap.size w W
  sz : w.heap.size + 2 ≤ W.heap.size
  ob : Boxed W (w.heap.size + 1) 25 (.slice (some ⟨g, 0, none⟩) K rc)
  row : W.ownsRow (w.heap.size + 2) 22 1 (.slice (some ⟨g, 0, none⟩) K rc) K us
  ls : Lsts W (w.heap.size + 2) (.slice (some ⟨g, 0, none⟩) K rc) us ms
  ul : us.length = K
theorem SgT.below {w W W' : World} {n : Nat} {v : Value} {g K rc : Nat} {us : List Value} {ms : List (List Int)} (h : SgT w W n v g K rc us ms) (hb : Below W.heap.size W W') : SgT w W' n v g K rc us ms :=
  ⟨bcat2 h.bel hb, Nat.le_trans h.sz hb.size, Boxed.below h.ob hb, own_keep' h.row (fun g _ h9 => hb.block g h9), h.ls.keep hb.size (fun g _ h9 _ => hb.block g h9) (.inl rfl), h.ul⟩
theorem SgT.ge {w W : World} {n : Nat} {v : Value} {g K rc : Nat} {us : List Value} {ms : List (List Int)} (h : SgT w W n v g K rc us ms) : w.heap.size + 2 ≤ g := owns_ge h.row g (by simp [Value.ownBlock])
theorem SgT.swap {w W : World} {n : Nat} {v : Value} {g K rc i k : Nat} {us : List Value} {ms : List (List Int)} {a b : Value} {x y : List Int} (h : SgT w W n v g K rc us ms) (hi : i < K) (hk : k < K) (hik : i ≠ k) (ha : us[i]? = some a) (hb : us[k]? = some b) (hx : ms[i]? = some x) (hy : ms[k]? = some y) : SgT w ((W.setCell ⟨g, i, none⟩ b).setCell ⟨g, k, none⟩ a) n v g K rc (swA us i k a b) (swA ms i k x y) := by
  have hge := h.ge
  have hk9 : ∀ t, t ≠ g → ((W.setCell ⟨g, i, none⟩ b).setCell ⟨g, k, none⟩ a).heap[t]? = W.heap[t]? := fun t ht => by
    rw [Below.heap_setCell _ _ _ _ ht, Below.heap_setCell _ _ _ _ ht]
  have hul := h.ul
  refine ⟨(h.bel.setCell (p := ⟨g, i, none⟩) (by simp; omega) _).setCell (p := ⟨g, k, none⟩) (by simp; omega) _, by rw [size_set, size_set]; exact h.sz, (hk9 _ (by omega)).trans h.ob, ((h.row.stored i b).1.stored k a).1, ?_, by rw [swA_len]; exact h.ul⟩
  refine lsts_swA (h.ls.keep (by rw [size_set, size_set]; exact Nat.le_refl _) (fun t h1 h2 h3 => hk9 t (fun e => h3 (by rw [e]; rfl))) (.inl rfl)) (by omega) (by omega) hik ha hb hx hy
end Go.Proofs.YtmgengplfebmjaaDoor

namespace Go.Proofs.YtmgengplfebmjaaDoor
open Go Go.RowKit

theorem undrew9 {a b : World} (h : Below a.drew.heap.size a.drew b) : Below a.heap.size a b := ⟨h.os, h.tape, h.output, h.size, h.block⟩
theorem SgV.get {w W : World} {n : Nat} {v : Value} {os : List (List Int)} (h : SgV w W n v os) : ∃ (ra : Option Addr) (rc pb po : Nat), Boxed W (w.heap.size + 1) 25 (.slice ra os.length rc) ∧ (0 < os.length → ra = some ⟨pb, po, none⟩) ∧ ∀ j (hj : j < os.length), ∃ (x1 : Option Addr) (x3 : Nat), W.cell? ⟨pb, po + j, none⟩ = some (.slice x1 os[j].length x3) ∧ Sl W (.slice x1 os[j].length x3) os[j] := by
  obtain ⟨r, vs, h1, h2, h3⟩ := h.ex
  have hS := SlL.of_own h2 h3 (by have := h.sz; omega)
  obtain ⟨a, cap, pb, po, rfl, h4, h5, _⟩ := hS
  refine ⟨a, cap, pb, po, h1, h4, fun j hj => ?_⟩
  obtain ⟨x, hx, hs⟩ := h5 j hj
  rw [List.getElem?_eq_getElem hj, Option.getD_some] at hs
  obtain ⟨xa, xc, _, _, rfl, _⟩ := id hs
  exact ⟨xa, xc, hx, hs⟩
theorem sl_news {W : World} {a : Option Addr} {l c : Nat} {xs : List Int} (h : Sl W (.slice a l c) xs) (h0 : 0 < xs.length) : ∃ pb po, a = some ⟨pb, po, none⟩ ∧ l = xs.length ∧ ∀ U, Below W.heap.size W U → ∀ j u, (xs.map (Value.int .i64))[j]? = some u → U.cell? ((⟨pb, po, none⟩ : Addr).add j) = some u := by
  obtain ⟨a', cap, pb, po, hv, hr, hp, _⟩ := h
  injection hv with e1 e2 e3
  subst e1 e2 e3
  refine ⟨pb, po, hr.at_ h0, rfl, fun U hU j u hj => ?_⟩
  rw [List.getElem?_map] at hj
  obtain ⟨z, hz, rfl⟩ := Option.map_eq_some_iff.1 hj
  have hjl := (List.getElem?_eq_some_iff.1 hz).1
  have := (hr.below hU hp).cell j hjl
  rw [hz] at this
  rw [show (⟨pb, po, none⟩ : Addr).add j = ⟨pb, po + j, none⟩ by unfold Addr.add; split <;> simp_all]
  exact this
theorem int_one (xs : List Int) : ∀ u, u ∈ xs.map (Value.int .i64) → u.oneCell' = true := fun u hu => by
  obtain ⟨z, _, rfl⟩ := List.mem_map.1 hu
  rfl
theorem lst_pos {n e : Nat} {zs : List Int} {p : Nat → Bool} (g : IsGrp n zs e) (h : subT n zs e p = true) : 0 < (li (lst n p)).length := by
  rw [li_len]
  exact List.length_pos_of_mem (mem_lst.2 ⟨g.elt, (subT_iff.1 h).one⟩)
theorem lst_le (n : Nat) (p : Nat → Bool) : (li (lst n p)).length ≤ n := by rw [li_len]; exact lst_len n p
theorem LL_get {n j : Nat} {P : List (Nat → Bool)} {q : Nat → Bool} (h : P[j]? = some q) (hj : j < (LL n P).length) : (LL n P)[j] = li (lst n q) := by
  have : (LL n P)[j]? = some (li (lst n q)) := by unfold LL; rw [List.getElem?_map, h]; rfl
  rw [List.getElem?_eq_getElem hj] at this
  injection this
theorem LL_len {n : Nat} {P : List (Nat → Bool)} : (LL n P).length = P.length := by simp [LL]
/-- What Subgroups answers. -/
structure SubsR (n : Nat) (zs : List Int) (e : Nat) (w : World) (x : Ending) (w' : World) : Prop where
  ans : ∃ (r : Value) (P : List (Nat → Bool)) (us : List Value) (ms : List (List Int)), x = .returned r ∧ SInv n zs e P P.length 0 ∧ ms.Perm (LL n P) ∧ srt ms ∧ w'.ownsRow w.heap.size 22 1 r us.length us ∧ Lsts w' w.heap.size r us ms ∧ Below w.heap.size w w'
set_option maxRecDepth 100000 in
set_option maxHeartbeats 16000000 in
theorem subs_ok (n e : Nat) (v : Value) (zs : List Int) (w : World) (hv : Sl w v zs) (hg : IsGrp n zs e) (h24 : n ≤ 24) :
    Calls Tryd.prog 15 #[.agg #[.int .i64 n, v]] w (SubsR n zs e w) := by
  obtain ⟨i0, hi0, hz0, hz1, hz2⟩ := info_parts info3b
  obtain ⟨v1, v2, v3, rfl⟩ := hv.isSlice
  have hn0 : 0 < n := Nat.lt_of_le_of_lt (Nat.zero_le _) hg.elt
  have hst : SgV w ((w.alloc (.cells #[.int .i64 n, .slice v1 v2 v3] 24)).alloc (.cells #[.slice none 0 0] 25)) n (.slice v1 v2 v3) (LL n []) := by
    refine ⟨(balloc w _).alloc (by simp) _, Blk.alloc (blk0 _ _) _, by simp, .slice none 0 0, [], ?_, World.ownsRow_nil _ _ _ _, rfl, fun t x l h => by simp at h⟩
    have := Boxed.new (w.alloc (.cells #[.int .i64 n, .slice v1 v2 v3] 24)) 25 (.slice none 0 0)
    rwa [World.size_alloc] at this
  have hcall := call62
  go_enter Tryd.func15, Tryd.ntmps15
  go_wp2
  go_loopw [5] (fun i wr => ∃ (a : Nat) (P : List (Nat → Bool)), a ≤ n ∧ i = .int .i64 a ∧ SgV w wr n (.slice v1 v2 v3) (LL n P) ∧ DA n zs e P a) (fun i _ => n - (intOf i).toNat)
  case atStart => exact ⟨0, [], Nat.zero_le _, rfl, hst, DA.start⟩
  case round =>
    obtain ⟨a, P, han, rfl, hV, hD⟩ := hrel
    clear hst
    obtain ⟨g0, g1, _, _⟩ := hV.box.two
    by_cases hlt : a < n
    · have hai : (a : Int) < (n : Int) := by omega
      obtain ⟨p, hp⟩ := mkd_test n zs e (fun y => decide (y ∈ [a]))
      have hb1 : Below wr.heap.size wr (wr.alloc (.cells #[.int .i64 a] 3)) := balloc wr _
      have hSa : Sl (wr.alloc (.cells #[.int .i64 a] 3)) (.slice (some ⟨wr.heap.size, 0, none⟩) 1 1) (li [a]) := Sl.of_blk (zs := li [a]) (World.alloc_heap_new wr _) rfl (by simp [li])
      have HSP := hide (span_ok n e (.slice v1 v2 v3) (.slice (some ⟨wr.heap.size, 0, none⟩) 1 1) zs [a] p (wr.alloc (.cells #[.int .i64 a] 3)) ((hv.below hV.bel).below hb1) hg hSa (fun x hx => by simp at hx; omega) (by simp) hp)
      have HOL := hide (fun r (h : Boxed wr (w.heap.size + 1) 25 r) t (ht : r.ownBlock = some t) => hV.own_lt h ht)
      have HVW := hide (fun W (h : Below wr.heap.size wr W) => hV.below h)
      have HD := hide (hD.step hg hp)
      have HP0 := hide (lst_pos hg (mk_sub hg hp))
      have HLN := hide (show (LL n P).length ≤ 16777216 by rw [LL_len]; exact bits_fit hD.nd h24)
      have hszr := hV.sz
      clear hp hSa hD
      go_wp2_with fail
      clear g0 g1
      generalize hwx : wr.alloc (.cells #[.int .i64 a] 3) = wx at *
      have hsx : wr.heap.size + 1 ≤ wx.heap.size := by rw [← hwx]; simp
      clear hwx
      refine HSP.out.mono ?_
      rintro x W1 ⟨r1, rfl, hr1, hl1⟩
      have hB1 := bcat2 hb1 hl1
      have hVW := HVW.out W1 hB1
      have HAD := hide (add_ok n wx.heap.size (.slice v1 v2 v3) r1 (LL n P) (li (lst n p)) w W1 hVW hr1 HP0.out (by omega) (fun r hr t ht => by
        have := HOL.out r ((hB1.block _ (by omega)).symm.trans hr) t ht
        omega) HLN.out)
      obtain ⟨r1a, r1b, r1c, rfl⟩ : ∃ a b c, r1 = .slice a b c := by
        obtain ⟨a, cap, he⟩ := own_slice hr1
        exact ⟨a, _, cap, he⟩
      clear hVW hr1
      go_wp2_with fail
      refine HAD.out.mono ?_
      rintro x W2 ⟨⟨bb, rfl⟩, hV2⟩
      rw [putL_put] at hV2
      have HV2 := hide hV2
      clear hV2
      go_wp2
      go_roundw
      case rel => exact ⟨a + 1, _, by omega, by go_num, HV2.out, HD.out⟩
      case measure => simp [intOf]; omega
    · have hai : ¬ (a : Int) < (n : Int) := by omega
      have hae : a = n := by omega
      rw [hae] at hD
      have hDB := hD.on
      obtain ⟨ra, rc, pb, po, hbx, _, _⟩ := hV.get
      have k0 := hbx.cell
      rw [LL_len] at k0
      obtain ⟨few, hfew⟩ : ∃ few, few = P.length := ⟨_, rfl⟩
      rw [← hfew] at hDB k0
      have HST := hide (show ∃ (i : Nat) (P : List (Nat → Bool)), i ≤ P.length ∧ (.int .i64 0 : Value) = .int .i64 i ∧ SgV w wr n (.slice v1 v2 v3) (LL n P) ∧ DB n zs e P few i 0 from ⟨0, P, Nat.zero_le _, rfl, hV, hDB⟩)
      clear hfew hDB hD hV hae hbx
      go_wp2
      clear k0 g0 g1
      go_loopw [7] (fun i wr => ∃ (t : Nat) (P : List (Nat → Bool)), t ≤ P.length ∧ i = .int .i64 t ∧ SgV w wr n (.slice v1 v2 v3) (LL n P) ∧ DB n zs e P few t 0) (fun i _ => 16777217 - (intOf i).toNat)
      case atStart => exact HST.out
      case round =>
        obtain ⟨i, P, hiP, rfl, hV, hD⟩ := hrel
        clear HST
        have hPl := bits_fit hD.nd h24
        obtain ⟨ra, rc, pb, po, hbx, _, _⟩ := hV.get
        have k0 := hbx.cell
        rw [LL_len] at k0
        by_cases hlt : i < P.length
        · have hii : (i : Int) < (P.length : Int) := by omega
          have HST := hide (show ∃ (k : Nat) (P : List (Nat → Bool)), k ≤ few ∧ (.int .i64 0 : Value) = .int .i64 k ∧ SgV w wr n (.slice v1 v2 v3) (LL n P) ∧ DB n zs e P few i k ∧ i < P.length from ⟨0, P, Nat.zero_le _, rfl, hV, hD, hlt⟩)
          clear hV hD hbx
          go_wp2
          clear k0
          go_loopw [8] (fun kv wr => ∃ (k : Nat) (P : List (Nat → Bool)), k ≤ few ∧ kv = .int .i64 k ∧ SgV w wr n (.slice v1 v2 v3) (LL n P) ∧ DB n zs e P few i k ∧ i < P.length) (fun k _ => few - (intOf k).toNat)
          case atStart => exact HST.out
          case round =>
            obtain ⟨k, P, hkf, rfl, hV, hD, hlt⟩ := hrel
            clear HST
            have hPl := bits_fit hD.nd h24
            by_cases hkl : k < few
            · have hki : (k : Int) < (few : Int) := by omega
              have hkP : k < P.length := by have := hD.fl; omega
              obtain ⟨q, hq⟩ : ∃ q, P[i]? = some q := ⟨_, List.getElem?_eq_getElem hlt⟩
              obtain ⟨r, hr⟩ : ∃ r, P[k]? = some r := ⟨_, List.getElem?_eq_getElem hkP⟩
              obtain ⟨ra, rc, pb, po, hbx, hra, hcl⟩ := hV.get
              obtain rfl := hra (by rw [LL_len]; omega)
              obtain ⟨xa, x3, cx, hxs⟩ := hcl i (by rw [LL_len]; exact hlt)
              obtain ⟨ya, y3, cy, hys⟩ := hcl k (by rw [LL_len]; exact hkP)
              rw [LL_get hq] at cx hxs
              rw [LL_get hr] at cy hys
              have k0 := hbx.cell
              rw [LL_len] at k0
              have hii : (i : Int) < (P.length : Int) := by omega
              have hkk : (k : Int) < (P.length : Int) := by omega
              have HPT := hide (fun j => parted_ok (.slice ya (li (lst n r)).length y3) (.slice xa (li (lst n q)).length x3) _ _ (wr.drewN j) (hys.below (bdrewN (Below.refl _ wr) j)) (hxs.below (bdrewN (Below.refl _ wr) j)))
              have hqs := hD.sub q (List.mem_of_getElem? hq)
              have hrs := hD.sub r (List.mem_of_getElem? hr)
              have hxl0 := lst_pos hg hqs
              have hyl0 := lst_pos hg hrs
              have hxln := lst_le n q
              have hyln := lst_le n r
              have HQ := hide hq
              have HR := hide hr
              have HD := hide hD
              have HIL0 := hide hlt
              have HV := hide hV
              have HXS := hide hxs
              have HYS := hide hys
              cases hpt : ((li (lst n r)).all fun a => decide (a ∈ li (lst n q)))
              · rw [hpt] at HPT
                clear hpt hxs hys hq hr hD hV hcl hra hbx hqs hrs
                go_wp2_with fail
                go_quiet ((go_at_call 63; exact Calls.quiet_of_same (HPT.out _)))
                have hBq : Below wr.heap.size wr (wr.drewN nq) := bdrewN (Below.refl _ wr) nq
                generalize wr.drewN nq = wq at hBq ⊢
                have hVq := HV.out.below hBq
                obtain ⟨g0, g1, _, _⟩ := hVq.box.two
                have cob := below_cell hBq k0
                have ci := below_cell hBq cx
                have ck := below_cell hBq cy
                obtain ⟨xpb, xpo, rfl, _, hxn⟩ := sl_news (HXS.out.below hBq) hxl0
                obtain ⟨ypb, ypo, rfl, _, hyn⟩ := sl_news (HYS.out.below hBq) hyl0
                have HXN := hide hxn
                have HYN := hide hyn
                have HXM := hide (show ((li (lst n q)).map (Value.int .i64)).length = (li (lst n q)).length * 1 by rw [List.length_map, Nat.mul_one])
                have HYM := hide (show ((li (lst n r)).map (Value.int .i64)).length = (li (lst n r)).length * 1 by rw [List.length_map, Nat.mul_one])
                have HX1 := hide (int_one (li (lst n q)))
                have HY1 := hide (int_one (li (lst n r)))
                have HXL := hide (show 0 + (li (lst n q)).length ≤ maxLen by unfold maxLen; omega)
                have HXB := hide (show (0 + (li (lst n q)).length) * 8 ≤ 140737488355328 by omega)
                have HYL := hide (show (li (lst n q)).length + (li (lst n r)).length ≤ maxLen by unfold maxLen; omega)
                have HYB := hide (show ((li (lst n q)).length + (li (lst n r)).length) * 8 ≤ 140737488355328 by omega)
                obtain ⟨p, hp⟩ := mkd_test n zs e (fun y => decide (y ∈ lst n q ++ lst n r))
                have HSP := hide (show ∀ W u, Below wq.heap.size wq W → Sl W u (li (lst n q ++ lst n r)) → Calls Tryd.prog 20 #[.agg #[.int .i64 n, .slice v1 v2 v3], u] W fun x W' => ∃ s1 s2 s3, x = .returned (.slice s1 s2 s3) ∧ Row W' W.heap.size (.slice s1 s2 s3) (li (lst n p)) ∧ Below W.heap.size W W' from fun W u h hu => by
                  refine (span_ok n e (.slice v1 v2 v3) u zs (lst n q ++ lst n r) p W ((hv.below hVq.bel).below h) hg hu (fun x hx => ?_) ?_ hp).mono ?_
                  · rcases List.mem_append.1 hx with h9 | h9
                    · exact (mem_lst.1 h9).1
                    · exact (mem_lst.1 h9).1
                  · rw [List.length_append]
                    have := lst_len n q
                    have := lst_len n r
                    omega
                  · rintro x W' ⟨r9, rfl, hr9, hb9⟩
                    obtain ⟨a9, cap9, rfl⟩ := own_slice hr9
                    exact ⟨_, _, _, rfl, hr9, hb9⟩)
                have HUN := hide (show ∀ (W : World) (gg cc : Nat), W.ownsRow wq.heap.size 3 1 (.slice (some ⟨gg, 0, none⟩) ((li (lst n q)).length + (li (lst n r)).length) cc) ((li (lst n q)).length + (li (lst n r)).length) ((li (lst n q)).map (Value.int .i64) ++ (li (lst n r)).map (Value.int .i64)) → Below wq.heap.size wq W → Sl W (.slice (some ⟨gg, 0, none⟩) ((li (lst n q)).length + (li (lst n r)).length) cc) (li (lst n q ++ lst n r)) from fun W gg cc hw hb => by
                  have hlen : (li (lst n q ++ lst n r)).length = (li (lst n q)).length + (li (lst n r)).length := by
                    simp [li]
                  refine Sl.of_own (base := wq.heap.size) ?_ (by have := hVq.sz; have := hb.size; omega)
                  rw [hlen]
                  have hm : (li (lst n q ++ lst n r)).map (Value.int .i64) = (li (lst n q)).map (Value.int .i64) ++ (li (lst n r)).map (Value.int .i64) := by simp [li]
                  rw [hm]
                  exact hw)
                have HAD := hide (show ∀ (W U : World) (s : Value), wq.heap.size ≤ W.heap.size → Below wq.heap.size wq U → Row U W.heap.size s (li (lst n p)) → Calls Tryd.prog 62 (#[s] ++ #[.pointer (some ⟨w.heap.size + 1, 0, none⟩)]) U fun x U' => (∃ b, x = .returned (.bool b)) ∧ SgV w U' n (.slice v1 v2 v3) (LL n (put n P p)) from fun W U s h1 h2 h3 => by
                  have h9 := add_ok n W.heap.size (.slice v1 v2 v3) s (LL n P) (li (lst n p)) w U (hVq.below h2) h3 (lst_pos hg (mk_sub hg hp)) (by have := hVq.sz; omega) (fun r hr t ht => by
                    have := hVq.own_lt ((h2.block _ (by have := hVq.sz; omega)).symm.trans hr) ht
                    omega) (by rw [LL_len]; exact hPl)
                  rw [putL_put] at h9
                  exact h9)
                have HDS := hide (HD.out.step hg HQ.out HR.out hp)
                have HIL := hide (show i < (put n P p).length from Nat.lt_of_lt_of_le HIL0.out put_len)
                clear hp hxn hyn hVq k0 cx cy HPT
                go_wp2_with fail
                refine wp_region_held_drew (S := (fun U => U.cell? ⟨w.heap.size, 0, none⟩ = some (.int .i64 n) ∧ U.cell? ⟨w.heap.size, 1, none⟩ = some (.slice v1 v2 v3))) (by kernel_rfl) ⟨g0, g1⟩ (fun hHeld => ?_)
                refine wpAnyH_take (i := 0) (oi := ({ dst := some 47, op := Go.Op.move (Go.Operand.tmp 4), type := 60, pos := _, after := #[], guard := none } : Oper)) (v := ?_) rfl (by kernel_rfl) (by kernel_rfl) (by kernel_rfl) (fun _ _ _ h => h) (Or.inl ⟨by rfl, ?_⟩) (by assumption) ?_
                rotate_left
                · (intro w hSw; (try dsimp only at hSw); go_simp; try with_reducible rfl)
                simp only [Act.put, List.setIfInBounds_toArray, List.set_cons_zero, List.set_cons_succ]
                refine wpAnyH_take (i := 1) (oi := ({ dst := some 48, op := Go.Op.load 24 (Go.Operand.tmp 1), type := 24, pos := _, after := #[], guard := none } : Oper)) (v := ?_) rfl (by kernel_rfl) (by kernel_rfl) (by kernel_rfl) (fun _ _ _ h => h) (Or.inl ⟨by rfl, ?_⟩) (by assumption) ?_
                rotate_left
                · (intro w hSw; (try dsimp only at hSw); go_simp; try with_reducible rfl)
                simp only [Act.put, List.setIfInBounds_toArray, List.set_cons_zero, List.set_cons_succ]
                refine wpAnyH_take (i := 3) (oi := ({ dst := some 50, op := Go.Op.move (Go.Operand.tmp 7), type := 3, pos := _, after := #[], guard := none } : Oper)) (v := ?_) rfl (by kernel_rfl) (by kernel_rfl) (by kernel_rfl) (fun _ _ _ h => h) (Or.inl ⟨by rfl, ?_⟩) (by assumption) ?_
                rotate_left
                · (intro w hSw; (try dsimp only at hSw); go_simp; try with_reducible rfl)
                simp only [Act.put, List.setIfInBounds_toArray, List.set_cons_zero, List.set_cons_succ]
                refine wpAnyH_take (i := 8) (oi := ({ dst := some 55, op := Go.Op.move (Go.Operand.tmp 8), type := 3, pos := _, after := #[], guard := none } : Oper)) (v := ?_) rfl (by kernel_rfl) (by kernel_rfl) (by kernel_rfl) (fun _ _ _ h => h) (Or.inl ⟨by rfl, ?_⟩) (by assumption) ?_
                rotate_left
                · (intro w hSw; (try dsimp only at hSw); go_simp; try with_reducible rfl)
                simp only [Act.put, List.setIfInBounds_toArray, List.set_cons_zero, List.set_cons_succ]
                refine wpAnyH_ready (rs := [2, 7]) (by kernel_rfl) (by simp) (AllReadyH.cons (o := ({ dst := some 49, op := Go.Op.load 25 (Go.Operand.tmp 3), type := 25, pos := _, after := #[], guard := none } : Oper)) rfl (fun KK hK => ?_) (AllReadyH.cons (o := ({ dst := some 54, op := Go.Op.load 25 (Go.Operand.tmp 3), type := 25, pos := _, after := #[], guard := none } : Oper)) rfl (fun KK hK => ?_) AllReadyH.nil))
                · go_simp
                  refine hK.out _ _ hHeld (fun hHeld => ?_)
                  clear hK
                  try simp only [Act.put, List.setIfInBounds_toArray, List.set_cons_zero, List.set_cons_succ]
                  refine wpAnyH_take (i := 4) (oi := ({ dst := some 51, op := Go.Op.indexAddr 25 (Go.Operand.tmp 49) (Go.Operand.tmp 50), type := 0, pos := _, after := #[{ on := 2, ground := Go.Ground.data }, { on := 3, ground := Go.Ground.data }], guard := none } : Oper)) (v := ?_) rfl (by kernel_rfl) (by kernel_rfl) (by kernel_rfl) (fun _ _ _ h => h) (Or.inl ⟨by rfl, ?_⟩) (by assumption) ?_
                  rotate_left
                  · (intro w hSw; (try dsimp only at hSw); go_simp; try with_reducible rfl)
                  simp only [Act.put, List.setIfInBounds_toArray, List.set_cons_zero, List.set_cons_succ]
                  refine wpAnyH_ready (rs := [5, 7]) (by kernel_rfl) (by simp) (AllReadyH.cons (o := ({ dst := some 52, op := Go.Op.load 22 (Go.Operand.tmp 51), type := 22, pos := _, after := #[{ on := 4, ground := Go.Ground.data }], guard := none } : Oper)) rfl (fun KK hK => ?_) (AllReadyH.cons (o := ({ dst := some 54, op := Go.Op.load 25 (Go.Operand.tmp 3), type := 25, pos := _, after := #[], guard := none } : Oper)) rfl (fun KK hK => ?_) AllReadyH.nil))
                  · go_simp
                    refine hK.out _ _ hHeld (fun hHeld => ?_)
                    clear hK
                    try simp only [Act.put, List.setIfInBounds_toArray, List.set_cons_zero, List.set_cons_succ]
                    refine wpAnyH_ready (rs := [6, 7]) (by kernel_rfl) (by simp) (AllReadyH.cons (o := ({ dst := some 53, op := Go.Op.call { callee := Go.Callee.builtin Go.Builtin.append, args := #[Go.Operand.const (Go.Value.slice none 0 0), Go.Operand.tmp 52], argTypes := #[22, 22] }, type := 22, pos := _, after := #[{ on := 5, ground := Go.Ground.data }], guard := none } : Oper)) rfl (fun KK hK => ?_) (AllReadyH.cons (o := ({ dst := some 54, op := Go.Op.load 25 (Go.Operand.tmp 3), type := 25, pos := _, after := #[], guard := none } : Oper)) rfl (fun KK hK => ?_) AllReadyH.nil))
                    · refine step_append_lies _ rfl _ _ 22 rfl wq.heap.size 3 i0 (.int .i64 0) 1 8 under22b hi0 hz0 hz1 hz2 rfl (by decide) (.slice none 0 0) 0 [] rfl (World.ownsRow_nil _ _ _ _) ⟨xpb, xpo, none⟩ (li (lst n q)).length x3 ((li (lst n q)).map (Value.int .i64)) rfl HXM.out (HXN.out _ (bdrew (Below.refl _ wq))) HX1.out hxl0 HXL.out HXB.out (Nat.le_refl _) _ rfl ?_
                      intro g9 cap9 w9 hown9 hgrow9 hloc9 hlt9
                      have hB9 : Below wq.heap.size wq w9 := (bdrew (Below.refl _ wq)).grown hgrow9 (Nat.le_refl _) (by simp [Value.ownBlock])
                      rw [Nat.zero_add, List.nil_append] at hown9
                      have cob := below_cell hB9 cob
                      have ck := below_cell hB9 ck
                      refine hK.out _ _ ⟨below_cell hB9 g0, below_cell hB9 g1⟩ (fun hHeld => ?_)
                      clear hK hgrow9 hloc9 hlt9
                      try simp only [Act.put, List.setIfInBounds_toArray, List.set_cons_zero, List.set_cons_succ]
                      try simp only [Nat.zero_add]
                      refine wpAnyH_ready (rs := [7]) (by kernel_rfl) (by simp) (AllReadyH.cons (o := ({ dst := some 54, op := Go.Op.load 25 (Go.Operand.tmp 3), type := 25, pos := _, after := #[], guard := none } : Oper)) rfl (fun KK hK => ?_) AllReadyH.nil)
                      go_simp
                      refine hK.out _ _ hHeld (fun hHeld => ?_)
                      clear hK
                      try simp only [Act.put, List.setIfInBounds_toArray, List.set_cons_zero, List.set_cons_succ]
                      refine wpAnyH_take (i := 9) (oi := ({ dst := some 56, op := Go.Op.indexAddr 25 (Go.Operand.tmp 54) (Go.Operand.tmp 55), type := 0, pos := _, after := #[{ on := 7, ground := Go.Ground.data }, { on := 8, ground := Go.Ground.data }], guard := none } : Oper)) (v := ?_) rfl (by kernel_rfl) (by kernel_rfl) (by kernel_rfl) (fun _ _ _ h => h) (Or.inl ⟨by rfl, ?_⟩) (by assumption) ?_
                      rotate_left
                      · (intro w hSw; (try dsimp only at hSw); go_simp; try with_reducible rfl)
                      simp only [Act.put, List.setIfInBounds_toArray, List.set_cons_zero, List.set_cons_succ]
                      refine wpAnyH_ready (rs := [10]) (by kernel_rfl) (by simp) (AllReadyH.cons (o := ({ dst := some 57, op := Go.Op.load 22 (Go.Operand.tmp 56), type := 22, pos := _, after := #[{ on := 9, ground := Go.Ground.data }], guard := none } : Oper)) rfl (fun KK hK => ?_) AllReadyH.nil)
                      go_simp
                      refine hK.out _ _ hHeld (fun hHeld => ?_)
                      clear hK
                      try simp only [Act.put, List.setIfInBounds_toArray, List.set_cons_zero, List.set_cons_succ]
                      refine wpAnyH_ready (rs := [11]) (by kernel_rfl) (by simp) (AllReadyH.cons (o := ({ dst := some 58, op := Go.Op.call { callee := Go.Callee.builtin Go.Builtin.append, args := #[Go.Operand.tmp 53, Go.Operand.tmp 57], argTypes := #[22, 22] }, type := 22, pos := _, after := #[{ on := 6, ground := Go.Ground.data }, { on := 10, ground := Go.Ground.data }, { on := 6, ground := Go.Ground.chain }], guard := none } : Oper)) rfl (fun KK hK => ?_) AllReadyH.nil)
                      refine step_append_lies _ rfl _ _ 22 rfl wq.heap.size 3 i0 (.int .i64 0) 1 8 under22b hi0 hz0 hz1 hz2 rfl (by decide) (.slice (some ⟨g9, 0, none⟩) (li (lst n q)).length cap9) (li (lst n q)).length _ rfl hown9 ⟨ypb, ypo, none⟩ (li (lst n r)).length y3 ((li (lst n r)).map (Value.int .i64)) rfl HYM.out (HYN.out _ hB9) HY1.out hyl0 HYL.out HYB.out hB9.size _ rfl ?_
                      intro gA capA wA hownA hgrowA hlocA hltA
                      have hBA : Below wq.heap.size wq wA := hB9.grown hgrowA hB9.size (fun j e => owns_ge hown9 j e)
                      refine hK.out _ _ ⟨below_cell hBA g0, below_cell hBA g1⟩ (fun hHeld => ?_)
                      clear hK
                      try simp only [Act.put, List.setIfInBounds_toArray, List.set_cons_zero, List.set_cons_succ]
                      refine wpAnyH_ready (rs := [12]) (by kernel_rfl) (by simp) (AllReadyH.cons (o := ({ dst := some 59, op := Go.Op.call { callee := Go.Callee.value (Go.Operand.func 20), args := #[Go.Operand.tmp 48, Go.Operand.tmp 58], argTypes := #[24, 22] }, type := 22, pos := _, after := #[{ on := 1, ground := Go.Ground.data }, { on := 11, ground := Go.Ground.data }, { on := 11, ground := Go.Ground.chain }], guard := none } : Oper)) rfl (fun KK hK => ?_) AllReadyH.nil)
                      go_simp
                      refine (HSP.out _ _ hBA (HUN.out _ _ _ hownA hBA)).mono ?_
                      rintro e1 U1 ⟨s1, s2, s3, rfl, hrowS, hl1⟩
                      try go_wp2_with fail
                      have hBU := bcat2 hBA hl1
                      refine hK.out _ _ ⟨below_cell hBU g0, below_cell hBU g1⟩ (fun hHeld => ?_)
                      clear hK
                      try simp only [Act.put, List.setIfInBounds_toArray, List.set_cons_zero, List.set_cons_succ]
                      refine wpAnyH_ready (rs := [13]) (by kernel_rfl) (by simp) (AllReadyH.cons (o := ({ dst := some 60, op := Go.Op.call { callee := Go.Callee.value (Go.Operand.tmp 47), args := #[Go.Operand.tmp 59], argTypes := #[22] }, type := 4, pos := _, after := #[{ on := 0, ground := Go.Ground.data }, { on := 12, ground := Go.Ground.data }, { on := 12, ground := Go.Ground.chain }], guard := none } : Oper)) rfl (fun KK hK => ?_) AllReadyH.nil)
                      go_simp
                      refine (HAD.out _ _ _ hBA.size hBU hrowS).mono ?_
                      rintro e2 U2 ⟨⟨bb, rfl⟩, hV2⟩
                      try go_wp2_with fail
                      refine hK.out _ _ ⟨hV2.box.two.1, hV2.box.two.2.1⟩ (fun hHeld => ?_)
                      clear hK
                      try simp only [Act.put, List.setIfInBounds_toArray, List.set_cons_zero, List.set_cons_succ]
                      refine wpAnyH_done (by kernel_rfl) ?_ _
                      have HV2 := hide hV2
                      clear hV2
                      go_wp2
                      go_roundw
                      case rel => exact ⟨k + 1, _, by omega, by go_num, HV2.out, HDS.out, HIL.out⟩
                      case measure => simp [intOf]; omega
                    · go_simp
                      refine hK.out _ _ hHeld (fun hHeld => ?_)
                      clear hK
                      try simp only [Act.put, List.setIfInBounds_toArray, List.set_cons_zero, List.set_cons_succ]
                      refine wpAnyH_take (i := 9) (oi := ({ dst := some 56, op := Go.Op.indexAddr 25 (Go.Operand.tmp 54) (Go.Operand.tmp 55), type := 0, pos := _, after := #[{ on := 7, ground := Go.Ground.data }, { on := 8, ground := Go.Ground.data }], guard := none } : Oper)) (v := ?_) rfl (by kernel_rfl) (by kernel_rfl) (by kernel_rfl) (fun _ _ _ h => h) (Or.inl ⟨by rfl, ?_⟩) (by assumption) ?_
                      rotate_left
                      · (intro w hSw; (try dsimp only at hSw); go_simp; try with_reducible rfl)
                      simp only [Act.put, List.setIfInBounds_toArray, List.set_cons_zero, List.set_cons_succ]
                      refine wpAnyH_ready (rs := [6, 10]) (by kernel_rfl) (by simp) (AllReadyH.cons (o := ({ dst := some 53, op := Go.Op.call { callee := Go.Callee.builtin Go.Builtin.append, args := #[Go.Operand.const (Go.Value.slice none 0 0), Go.Operand.tmp 52], argTypes := #[22, 22] }, type := 22, pos := _, after := #[{ on := 5, ground := Go.Ground.data }], guard := none } : Oper)) rfl (fun KK hK => ?_) (AllReadyH.cons (o := ({ dst := some 57, op := Go.Op.load 22 (Go.Operand.tmp 56), type := 22, pos := _, after := #[{ on := 9, ground := Go.Ground.data }], guard := none } : Oper)) rfl (fun KK hK => ?_) AllReadyH.nil))
                      · refine step_append_lies _ rfl _ _ 22 rfl wq.heap.size 3 i0 (.int .i64 0) 1 8 under22b hi0 hz0 hz1 hz2 rfl (by decide) (.slice none 0 0) 0 [] rfl (World.ownsRow_nil _ _ _ _) ⟨xpb, xpo, none⟩ (li (lst n q)).length x3 ((li (lst n q)).map (Value.int .i64)) rfl HXM.out (HXN.out _ (bdrew (Below.refl _ wq))) HX1.out hxl0 HXL.out HXB.out (Nat.le_refl _) _ rfl ?_
                        intro g9 cap9 w9 hown9 hgrow9 hloc9 hlt9
                        have hB9 : Below wq.heap.size wq w9 := (bdrew (Below.refl _ wq)).grown hgrow9 (Nat.le_refl _) (by simp [Value.ownBlock])
                        rw [Nat.zero_add, List.nil_append] at hown9
                        have cob := below_cell hB9 cob
                        have ck := below_cell hB9 ck
                        refine hK.out _ _ ⟨below_cell hB9 g0, below_cell hB9 g1⟩ (fun hHeld => ?_)
                        clear hK hgrow9 hloc9 hlt9
                        try simp only [Act.put, List.setIfInBounds_toArray, List.set_cons_zero, List.set_cons_succ]
                        try simp only [Nat.zero_add]
                        refine wpAnyH_ready (rs := [10]) (by kernel_rfl) (by simp) (AllReadyH.cons (o := ({ dst := some 57, op := Go.Op.load 22 (Go.Operand.tmp 56), type := 22, pos := _, after := #[{ on := 9, ground := Go.Ground.data }], guard := none } : Oper)) rfl (fun KK hK => ?_) AllReadyH.nil)
                        go_simp
                        refine hK.out _ _ hHeld (fun hHeld => ?_)
                        clear hK
                        try simp only [Act.put, List.setIfInBounds_toArray, List.set_cons_zero, List.set_cons_succ]
                        refine wpAnyH_ready (rs := [11]) (by kernel_rfl) (by simp) (AllReadyH.cons (o := ({ dst := some 58, op := Go.Op.call { callee := Go.Callee.builtin Go.Builtin.append, args := #[Go.Operand.tmp 53, Go.Operand.tmp 57], argTypes := #[22, 22] }, type := 22, pos := _, after := #[{ on := 6, ground := Go.Ground.data }, { on := 10, ground := Go.Ground.data }, { on := 6, ground := Go.Ground.chain }], guard := none } : Oper)) rfl (fun KK hK => ?_) AllReadyH.nil)
                        refine step_append_lies _ rfl _ _ 22 rfl wq.heap.size 3 i0 (.int .i64 0) 1 8 under22b hi0 hz0 hz1 hz2 rfl (by decide) (.slice (some ⟨g9, 0, none⟩) (li (lst n q)).length cap9) (li (lst n q)).length _ rfl hown9 ⟨ypb, ypo, none⟩ (li (lst n r)).length y3 ((li (lst n r)).map (Value.int .i64)) rfl HYM.out (HYN.out _ hB9) HY1.out hyl0 HYL.out HYB.out hB9.size _ rfl ?_
                        intro gA capA wA hownA hgrowA hlocA hltA
                        have hBA : Below wq.heap.size wq wA := hB9.grown hgrowA hB9.size (fun j e => owns_ge hown9 j e)
                        refine hK.out _ _ ⟨below_cell hBA g0, below_cell hBA g1⟩ (fun hHeld => ?_)
                        clear hK
                        try simp only [Act.put, List.setIfInBounds_toArray, List.set_cons_zero, List.set_cons_succ]
                        refine wpAnyH_ready (rs := [12]) (by kernel_rfl) (by simp) (AllReadyH.cons (o := ({ dst := some 59, op := Go.Op.call { callee := Go.Callee.value (Go.Operand.func 20), args := #[Go.Operand.tmp 48, Go.Operand.tmp 58], argTypes := #[24, 22] }, type := 22, pos := _, after := #[{ on := 1, ground := Go.Ground.data }, { on := 11, ground := Go.Ground.data }, { on := 11, ground := Go.Ground.chain }], guard := none } : Oper)) rfl (fun KK hK => ?_) AllReadyH.nil)
                        go_simp
                        refine (HSP.out _ _ hBA (HUN.out _ _ _ hownA hBA)).mono ?_
                        rintro e1 U1 ⟨s1, s2, s3, rfl, hrowS, hl1⟩
                        try go_wp2_with fail
                        have hBU := bcat2 hBA hl1
                        refine hK.out _ _ ⟨below_cell hBU g0, below_cell hBU g1⟩ (fun hHeld => ?_)
                        clear hK
                        try simp only [Act.put, List.setIfInBounds_toArray, List.set_cons_zero, List.set_cons_succ]
                        refine wpAnyH_ready (rs := [13]) (by kernel_rfl) (by simp) (AllReadyH.cons (o := ({ dst := some 60, op := Go.Op.call { callee := Go.Callee.value (Go.Operand.tmp 47), args := #[Go.Operand.tmp 59], argTypes := #[22] }, type := 4, pos := _, after := #[{ on := 0, ground := Go.Ground.data }, { on := 12, ground := Go.Ground.data }, { on := 12, ground := Go.Ground.chain }], guard := none } : Oper)) rfl (fun KK hK => ?_) AllReadyH.nil)
                        go_simp
                        refine (HAD.out _ _ _ hBA.size hBU hrowS).mono ?_
                        rintro e2 U2 ⟨⟨bb, rfl⟩, hV2⟩
                        try go_wp2_with fail
                        refine hK.out _ _ ⟨hV2.box.two.1, hV2.box.two.2.1⟩ (fun hHeld => ?_)
                        clear hK
                        try simp only [Act.put, List.setIfInBounds_toArray, List.set_cons_zero, List.set_cons_succ]
                        refine wpAnyH_done (by kernel_rfl) ?_ _
                        have HV2 := hide hV2
                        clear hV2
                        go_wp2
                        go_roundw
                        case rel => exact ⟨k + 1, _, by omega, by go_num, HV2.out, HDS.out, HIL.out⟩
                        case measure => simp [intOf]; omega
                      · go_simp
                        refine hK.out _ _ hHeld (fun hHeld => ?_)
                        clear hK
                        try simp only [Act.put, List.setIfInBounds_toArray, List.set_cons_zero, List.set_cons_succ]
                        refine wpAnyH_ready (rs := [6]) (by kernel_rfl) (by simp) (AllReadyH.cons (o := ({ dst := some 53, op := Go.Op.call { callee := Go.Callee.builtin Go.Builtin.append, args := #[Go.Operand.const (Go.Value.slice none 0 0), Go.Operand.tmp 52], argTypes := #[22, 22] }, type := 22, pos := _, after := #[{ on := 5, ground := Go.Ground.data }], guard := none } : Oper)) rfl (fun KK hK => ?_) AllReadyH.nil)
                        refine step_append_lies _ rfl _ _ 22 rfl wq.heap.size 3 i0 (.int .i64 0) 1 8 under22b hi0 hz0 hz1 hz2 rfl (by decide) (.slice none 0 0) 0 [] rfl (World.ownsRow_nil _ _ _ _) ⟨xpb, xpo, none⟩ (li (lst n q)).length x3 ((li (lst n q)).map (Value.int .i64)) rfl HXM.out (HXN.out _ (bdrew (Below.refl _ wq))) HX1.out hxl0 HXL.out HXB.out (Nat.le_refl _) _ rfl ?_
                        intro g9 cap9 w9 hown9 hgrow9 hloc9 hlt9
                        have hB9 : Below wq.heap.size wq w9 := (bdrew (Below.refl _ wq)).grown hgrow9 (Nat.le_refl _) (by simp [Value.ownBlock])
                        rw [Nat.zero_add, List.nil_append] at hown9
                        have cob := below_cell hB9 cob
                        have ck := below_cell hB9 ck
                        refine hK.out _ _ ⟨below_cell hB9 g0, below_cell hB9 g1⟩ (fun hHeld => ?_)
                        clear hK hgrow9 hloc9 hlt9
                        try simp only [Act.put, List.setIfInBounds_toArray, List.set_cons_zero, List.set_cons_succ]
                        try simp only [Nat.zero_add]
                        refine wpAnyH_ready (rs := [11]) (by kernel_rfl) (by simp) (AllReadyH.cons (o := ({ dst := some 58, op := Go.Op.call { callee := Go.Callee.builtin Go.Builtin.append, args := #[Go.Operand.tmp 53, Go.Operand.tmp 57], argTypes := #[22, 22] }, type := 22, pos := _, after := #[{ on := 6, ground := Go.Ground.data }, { on := 10, ground := Go.Ground.data }, { on := 6, ground := Go.Ground.chain }], guard := none } : Oper)) rfl (fun KK hK => ?_) AllReadyH.nil)
                        refine step_append_lies _ rfl _ _ 22 rfl wq.heap.size 3 i0 (.int .i64 0) 1 8 under22b hi0 hz0 hz1 hz2 rfl (by decide) (.slice (some ⟨g9, 0, none⟩) (li (lst n q)).length cap9) (li (lst n q)).length _ rfl hown9 ⟨ypb, ypo, none⟩ (li (lst n r)).length y3 ((li (lst n r)).map (Value.int .i64)) rfl HYM.out (HYN.out _ hB9) HY1.out hyl0 HYL.out HYB.out hB9.size _ rfl ?_
                        intro gA capA wA hownA hgrowA hlocA hltA
                        have hBA : Below wq.heap.size wq wA := hB9.grown hgrowA hB9.size (fun j e => owns_ge hown9 j e)
                        refine hK.out _ _ ⟨below_cell hBA g0, below_cell hBA g1⟩ (fun hHeld => ?_)
                        clear hK
                        try simp only [Act.put, List.setIfInBounds_toArray, List.set_cons_zero, List.set_cons_succ]
                        refine wpAnyH_ready (rs := [12]) (by kernel_rfl) (by simp) (AllReadyH.cons (o := ({ dst := some 59, op := Go.Op.call { callee := Go.Callee.value (Go.Operand.func 20), args := #[Go.Operand.tmp 48, Go.Operand.tmp 58], argTypes := #[24, 22] }, type := 22, pos := _, after := #[{ on := 1, ground := Go.Ground.data }, { on := 11, ground := Go.Ground.data }, { on := 11, ground := Go.Ground.chain }], guard := none } : Oper)) rfl (fun KK hK => ?_) AllReadyH.nil)
                        go_simp
                        refine (HSP.out _ _ hBA (HUN.out _ _ _ hownA hBA)).mono ?_
                        rintro e1 U1 ⟨s1, s2, s3, rfl, hrowS, hl1⟩
                        try go_wp2_with fail
                        have hBU := bcat2 hBA hl1
                        refine hK.out _ _ ⟨below_cell hBU g0, below_cell hBU g1⟩ (fun hHeld => ?_)
                        clear hK
                        try simp only [Act.put, List.setIfInBounds_toArray, List.set_cons_zero, List.set_cons_succ]
                        refine wpAnyH_ready (rs := [13]) (by kernel_rfl) (by simp) (AllReadyH.cons (o := ({ dst := some 60, op := Go.Op.call { callee := Go.Callee.value (Go.Operand.tmp 47), args := #[Go.Operand.tmp 59], argTypes := #[22] }, type := 4, pos := _, after := #[{ on := 0, ground := Go.Ground.data }, { on := 12, ground := Go.Ground.data }, { on := 12, ground := Go.Ground.chain }], guard := none } : Oper)) rfl (fun KK hK => ?_) AllReadyH.nil)
                        go_simp
                        refine (HAD.out _ _ _ hBA.size hBU hrowS).mono ?_
                        rintro e2 U2 ⟨⟨bb, rfl⟩, hV2⟩
                        try go_wp2_with fail
                        refine hK.out _ _ ⟨hV2.box.two.1, hV2.box.two.2.1⟩ (fun hHeld => ?_)
                        clear hK
                        try simp only [Act.put, List.setIfInBounds_toArray, List.set_cons_zero, List.set_cons_succ]
                        refine wpAnyH_done (by kernel_rfl) ?_ _
                        have HV2 := hide hV2
                        clear hV2
                        go_wp2
                        go_roundw
                        case rel => exact ⟨k + 1, _, by omega, by go_num, HV2.out, HDS.out, HIL.out⟩
                        case measure => simp [intOf]; omega
                  · go_simp
                    refine hK.out _ _ hHeld (fun hHeld => ?_)
                    clear hK
                    try simp only [Act.put, List.setIfInBounds_toArray, List.set_cons_zero, List.set_cons_succ]
                    refine wpAnyH_take (i := 9) (oi := ({ dst := some 56, op := Go.Op.indexAddr 25 (Go.Operand.tmp 54) (Go.Operand.tmp 55), type := 0, pos := _, after := #[{ on := 7, ground := Go.Ground.data }, { on := 8, ground := Go.Ground.data }], guard := none } : Oper)) (v := ?_) rfl (by kernel_rfl) (by kernel_rfl) (by kernel_rfl) (fun _ _ _ h => h) (Or.inl ⟨by rfl, ?_⟩) (by assumption) ?_
                    rotate_left
                    · (intro w hSw; (try dsimp only at hSw); go_simp; try with_reducible rfl)
                    simp only [Act.put, List.setIfInBounds_toArray, List.set_cons_zero, List.set_cons_succ]
                    refine wpAnyH_ready (rs := [5, 10]) (by kernel_rfl) (by simp) (AllReadyH.cons (o := ({ dst := some 52, op := Go.Op.load 22 (Go.Operand.tmp 51), type := 22, pos := _, after := #[{ on := 4, ground := Go.Ground.data }], guard := none } : Oper)) rfl (fun KK hK => ?_) (AllReadyH.cons (o := ({ dst := some 57, op := Go.Op.load 22 (Go.Operand.tmp 56), type := 22, pos := _, after := #[{ on := 9, ground := Go.Ground.data }], guard := none } : Oper)) rfl (fun KK hK => ?_) AllReadyH.nil))
                    · go_simp
                      refine hK.out _ _ hHeld (fun hHeld => ?_)
                      clear hK
                      try simp only [Act.put, List.setIfInBounds_toArray, List.set_cons_zero, List.set_cons_succ]
                      refine wpAnyH_ready (rs := [6, 10]) (by kernel_rfl) (by simp) (AllReadyH.cons (o := ({ dst := some 53, op := Go.Op.call { callee := Go.Callee.builtin Go.Builtin.append, args := #[Go.Operand.const (Go.Value.slice none 0 0), Go.Operand.tmp 52], argTypes := #[22, 22] }, type := 22, pos := _, after := #[{ on := 5, ground := Go.Ground.data }], guard := none } : Oper)) rfl (fun KK hK => ?_) (AllReadyH.cons (o := ({ dst := some 57, op := Go.Op.load 22 (Go.Operand.tmp 56), type := 22, pos := _, after := #[{ on := 9, ground := Go.Ground.data }], guard := none } : Oper)) rfl (fun KK hK => ?_) AllReadyH.nil))
                      · refine step_append_lies _ rfl _ _ 22 rfl wq.heap.size 3 i0 (.int .i64 0) 1 8 under22b hi0 hz0 hz1 hz2 rfl (by decide) (.slice none 0 0) 0 [] rfl (World.ownsRow_nil _ _ _ _) ⟨xpb, xpo, none⟩ (li (lst n q)).length x3 ((li (lst n q)).map (Value.int .i64)) rfl HXM.out (HXN.out _ (bdrew (Below.refl _ wq))) HX1.out hxl0 HXL.out HXB.out (Nat.le_refl _) _ rfl ?_
                        intro g9 cap9 w9 hown9 hgrow9 hloc9 hlt9
                        have hB9 : Below wq.heap.size wq w9 := (bdrew (Below.refl _ wq)).grown hgrow9 (Nat.le_refl _) (by simp [Value.ownBlock])
                        rw [Nat.zero_add, List.nil_append] at hown9
                        have cob := below_cell hB9 cob
                        have ck := below_cell hB9 ck
                        refine hK.out _ _ ⟨below_cell hB9 g0, below_cell hB9 g1⟩ (fun hHeld => ?_)
                        clear hK hgrow9 hloc9 hlt9
                        try simp only [Act.put, List.setIfInBounds_toArray, List.set_cons_zero, List.set_cons_succ]
                        try simp only [Nat.zero_add]
                        refine wpAnyH_ready (rs := [10]) (by kernel_rfl) (by simp) (AllReadyH.cons (o := ({ dst := some 57, op := Go.Op.load 22 (Go.Operand.tmp 56), type := 22, pos := _, after := #[{ on := 9, ground := Go.Ground.data }], guard := none } : Oper)) rfl (fun KK hK => ?_) AllReadyH.nil)
                        go_simp
                        refine hK.out _ _ hHeld (fun hHeld => ?_)
                        clear hK
                        try simp only [Act.put, List.setIfInBounds_toArray, List.set_cons_zero, List.set_cons_succ]
                        refine wpAnyH_ready (rs := [11]) (by kernel_rfl) (by simp) (AllReadyH.cons (o := ({ dst := some 58, op := Go.Op.call { callee := Go.Callee.builtin Go.Builtin.append, args := #[Go.Operand.tmp 53, Go.Operand.tmp 57], argTypes := #[22, 22] }, type := 22, pos := _, after := #[{ on := 6, ground := Go.Ground.data }, { on := 10, ground := Go.Ground.data }, { on := 6, ground := Go.Ground.chain }], guard := none } : Oper)) rfl (fun KK hK => ?_) AllReadyH.nil)
                        refine step_append_lies _ rfl _ _ 22 rfl wq.heap.size 3 i0 (.int .i64 0) 1 8 under22b hi0 hz0 hz1 hz2 rfl (by decide) (.slice (some ⟨g9, 0, none⟩) (li (lst n q)).length cap9) (li (lst n q)).length _ rfl hown9 ⟨ypb, ypo, none⟩ (li (lst n r)).length y3 ((li (lst n r)).map (Value.int .i64)) rfl HYM.out (HYN.out _ hB9) HY1.out hyl0 HYL.out HYB.out hB9.size _ rfl ?_
                        intro gA capA wA hownA hgrowA hlocA hltA
                        have hBA : Below wq.heap.size wq wA := hB9.grown hgrowA hB9.size (fun j e => owns_ge hown9 j e)
                        refine hK.out _ _ ⟨below_cell hBA g0, below_cell hBA g1⟩ (fun hHeld => ?_)
                        clear hK
                        try simp only [Act.put, List.setIfInBounds_toArray, List.set_cons_zero, List.set_cons_succ]
                        refine wpAnyH_ready (rs := [12]) (by kernel_rfl) (by simp) (AllReadyH.cons (o := ({ dst := some 59, op := Go.Op.call { callee := Go.Callee.value (Go.Operand.func 20), args := #[Go.Operand.tmp 48, Go.Operand.tmp 58], argTypes := #[24, 22] }, type := 22, pos := _, after := #[{ on := 1, ground := Go.Ground.data }, { on := 11, ground := Go.Ground.data }, { on := 11, ground := Go.Ground.chain }], guard := none } : Oper)) rfl (fun KK hK => ?_) AllReadyH.nil)
                        go_simp
                        refine (HSP.out _ _ hBA (HUN.out _ _ _ hownA hBA)).mono ?_
                        rintro e1 U1 ⟨s1, s2, s3, rfl, hrowS, hl1⟩
                        try go_wp2_with fail
                        have hBU := bcat2 hBA hl1
                        refine hK.out _ _ ⟨below_cell hBU g0, below_cell hBU g1⟩ (fun hHeld => ?_)
                        clear hK
                        try simp only [Act.put, List.setIfInBounds_toArray, List.set_cons_zero, List.set_cons_succ]
                        refine wpAnyH_ready (rs := [13]) (by kernel_rfl) (by simp) (AllReadyH.cons (o := ({ dst := some 60, op := Go.Op.call { callee := Go.Callee.value (Go.Operand.tmp 47), args := #[Go.Operand.tmp 59], argTypes := #[22] }, type := 4, pos := _, after := #[{ on := 0, ground := Go.Ground.data }, { on := 12, ground := Go.Ground.data }, { on := 12, ground := Go.Ground.chain }], guard := none } : Oper)) rfl (fun KK hK => ?_) AllReadyH.nil)
                        go_simp
                        refine (HAD.out _ _ _ hBA.size hBU hrowS).mono ?_
                        rintro e2 U2 ⟨⟨bb, rfl⟩, hV2⟩
                        try go_wp2_with fail
                        refine hK.out _ _ ⟨hV2.box.two.1, hV2.box.two.2.1⟩ (fun hHeld => ?_)
                        clear hK
                        try simp only [Act.put, List.setIfInBounds_toArray, List.set_cons_zero, List.set_cons_succ]
                        refine wpAnyH_done (by kernel_rfl) ?_ _
                        have HV2 := hide hV2
                        clear hV2
                        go_wp2
                        go_roundw
                        case rel => exact ⟨k + 1, _, by omega, by go_num, HV2.out, HDS.out, HIL.out⟩
                        case measure => simp [intOf]; omega
                      · go_simp
                        refine hK.out _ _ hHeld (fun hHeld => ?_)
                        clear hK
                        try simp only [Act.put, List.setIfInBounds_toArray, List.set_cons_zero, List.set_cons_succ]
                        refine wpAnyH_ready (rs := [6]) (by kernel_rfl) (by simp) (AllReadyH.cons (o := ({ dst := some 53, op := Go.Op.call { callee := Go.Callee.builtin Go.Builtin.append, args := #[Go.Operand.const (Go.Value.slice none 0 0), Go.Operand.tmp 52], argTypes := #[22, 22] }, type := 22, pos := _, after := #[{ on := 5, ground := Go.Ground.data }], guard := none } : Oper)) rfl (fun KK hK => ?_) AllReadyH.nil)
                        refine step_append_lies _ rfl _ _ 22 rfl wq.heap.size 3 i0 (.int .i64 0) 1 8 under22b hi0 hz0 hz1 hz2 rfl (by decide) (.slice none 0 0) 0 [] rfl (World.ownsRow_nil _ _ _ _) ⟨xpb, xpo, none⟩ (li (lst n q)).length x3 ((li (lst n q)).map (Value.int .i64)) rfl HXM.out (HXN.out _ (bdrew (Below.refl _ wq))) HX1.out hxl0 HXL.out HXB.out (Nat.le_refl _) _ rfl ?_
                        intro g9 cap9 w9 hown9 hgrow9 hloc9 hlt9
                        have hB9 : Below wq.heap.size wq w9 := (bdrew (Below.refl _ wq)).grown hgrow9 (Nat.le_refl _) (by simp [Value.ownBlock])
                        rw [Nat.zero_add, List.nil_append] at hown9
                        have cob := below_cell hB9 cob
                        have ck := below_cell hB9 ck
                        refine hK.out _ _ ⟨below_cell hB9 g0, below_cell hB9 g1⟩ (fun hHeld => ?_)
                        clear hK hgrow9 hloc9 hlt9
                        try simp only [Act.put, List.setIfInBounds_toArray, List.set_cons_zero, List.set_cons_succ]
                        try simp only [Nat.zero_add]
                        refine wpAnyH_ready (rs := [11]) (by kernel_rfl) (by simp) (AllReadyH.cons (o := ({ dst := some 58, op := Go.Op.call { callee := Go.Callee.builtin Go.Builtin.append, args := #[Go.Operand.tmp 53, Go.Operand.tmp 57], argTypes := #[22, 22] }, type := 22, pos := _, after := #[{ on := 6, ground := Go.Ground.data }, { on := 10, ground := Go.Ground.data }, { on := 6, ground := Go.Ground.chain }], guard := none } : Oper)) rfl (fun KK hK => ?_) AllReadyH.nil)
                        refine step_append_lies _ rfl _ _ 22 rfl wq.heap.size 3 i0 (.int .i64 0) 1 8 under22b hi0 hz0 hz1 hz2 rfl (by decide) (.slice (some ⟨g9, 0, none⟩) (li (lst n q)).length cap9) (li (lst n q)).length _ rfl hown9 ⟨ypb, ypo, none⟩ (li (lst n r)).length y3 ((li (lst n r)).map (Value.int .i64)) rfl HYM.out (HYN.out _ hB9) HY1.out hyl0 HYL.out HYB.out hB9.size _ rfl ?_
                        intro gA capA wA hownA hgrowA hlocA hltA
                        have hBA : Below wq.heap.size wq wA := hB9.grown hgrowA hB9.size (fun j e => owns_ge hown9 j e)
                        refine hK.out _ _ ⟨below_cell hBA g0, below_cell hBA g1⟩ (fun hHeld => ?_)
                        clear hK
                        try simp only [Act.put, List.setIfInBounds_toArray, List.set_cons_zero, List.set_cons_succ]
                        refine wpAnyH_ready (rs := [12]) (by kernel_rfl) (by simp) (AllReadyH.cons (o := ({ dst := some 59, op := Go.Op.call { callee := Go.Callee.value (Go.Operand.func 20), args := #[Go.Operand.tmp 48, Go.Operand.tmp 58], argTypes := #[24, 22] }, type := 22, pos := _, after := #[{ on := 1, ground := Go.Ground.data }, { on := 11, ground := Go.Ground.data }, { on := 11, ground := Go.Ground.chain }], guard := none } : Oper)) rfl (fun KK hK => ?_) AllReadyH.nil)
                        go_simp
                        refine (HSP.out _ _ hBA (HUN.out _ _ _ hownA hBA)).mono ?_
                        rintro e1 U1 ⟨s1, s2, s3, rfl, hrowS, hl1⟩
                        try go_wp2_with fail
                        have hBU := bcat2 hBA hl1
                        refine hK.out _ _ ⟨below_cell hBU g0, below_cell hBU g1⟩ (fun hHeld => ?_)
                        clear hK
                        try simp only [Act.put, List.setIfInBounds_toArray, List.set_cons_zero, List.set_cons_succ]
                        refine wpAnyH_ready (rs := [13]) (by kernel_rfl) (by simp) (AllReadyH.cons (o := ({ dst := some 60, op := Go.Op.call { callee := Go.Callee.value (Go.Operand.tmp 47), args := #[Go.Operand.tmp 59], argTypes := #[22] }, type := 4, pos := _, after := #[{ on := 0, ground := Go.Ground.data }, { on := 12, ground := Go.Ground.data }, { on := 12, ground := Go.Ground.chain }], guard := none } : Oper)) rfl (fun KK hK => ?_) AllReadyH.nil)
                        go_simp
                        refine (HAD.out _ _ _ hBA.size hBU hrowS).mono ?_
                        rintro e2 U2 ⟨⟨bb, rfl⟩, hV2⟩
                        try go_wp2_with fail
                        refine hK.out _ _ ⟨hV2.box.two.1, hV2.box.two.2.1⟩ (fun hHeld => ?_)
                        clear hK
                        try simp only [Act.put, List.setIfInBounds_toArray, List.set_cons_zero, List.set_cons_succ]
                        refine wpAnyH_done (by kernel_rfl) ?_ _
                        have HV2 := hide hV2
                        clear hV2
                        go_wp2
                        go_roundw
                        case rel => exact ⟨k + 1, _, by omega, by go_num, HV2.out, HDS.out, HIL.out⟩
                        case measure => simp [intOf]; omega
                    · go_simp
                      refine hK.out _ _ hHeld (fun hHeld => ?_)
                      clear hK
                      try simp only [Act.put, List.setIfInBounds_toArray, List.set_cons_zero, List.set_cons_succ]
                      refine wpAnyH_ready (rs := [5]) (by kernel_rfl) (by simp) (AllReadyH.cons (o := ({ dst := some 52, op := Go.Op.load 22 (Go.Operand.tmp 51), type := 22, pos := _, after := #[{ on := 4, ground := Go.Ground.data }], guard := none } : Oper)) rfl (fun KK hK => ?_) AllReadyH.nil)
                      go_simp
                      refine hK.out _ _ hHeld (fun hHeld => ?_)
                      clear hK
                      try simp only [Act.put, List.setIfInBounds_toArray, List.set_cons_zero, List.set_cons_succ]
                      refine wpAnyH_ready (rs := [6]) (by kernel_rfl) (by simp) (AllReadyH.cons (o := ({ dst := some 53, op := Go.Op.call { callee := Go.Callee.builtin Go.Builtin.append, args := #[Go.Operand.const (Go.Value.slice none 0 0), Go.Operand.tmp 52], argTypes := #[22, 22] }, type := 22, pos := _, after := #[{ on := 5, ground := Go.Ground.data }], guard := none } : Oper)) rfl (fun KK hK => ?_) AllReadyH.nil)
                      refine step_append_lies _ rfl _ _ 22 rfl wq.heap.size 3 i0 (.int .i64 0) 1 8 under22b hi0 hz0 hz1 hz2 rfl (by decide) (.slice none 0 0) 0 [] rfl (World.ownsRow_nil _ _ _ _) ⟨xpb, xpo, none⟩ (li (lst n q)).length x3 ((li (lst n q)).map (Value.int .i64)) rfl HXM.out (HXN.out _ (bdrew (Below.refl _ wq))) HX1.out hxl0 HXL.out HXB.out (Nat.le_refl _) _ rfl ?_
                      intro g9 cap9 w9 hown9 hgrow9 hloc9 hlt9
                      have hB9 : Below wq.heap.size wq w9 := (bdrew (Below.refl _ wq)).grown hgrow9 (Nat.le_refl _) (by simp [Value.ownBlock])
                      rw [Nat.zero_add, List.nil_append] at hown9
                      have cob := below_cell hB9 cob
                      have ck := below_cell hB9 ck
                      refine hK.out _ _ ⟨below_cell hB9 g0, below_cell hB9 g1⟩ (fun hHeld => ?_)
                      clear hK hgrow9 hloc9 hlt9
                      try simp only [Act.put, List.setIfInBounds_toArray, List.set_cons_zero, List.set_cons_succ]
                      try simp only [Nat.zero_add]
                      refine wpAnyH_ready (rs := [11]) (by kernel_rfl) (by simp) (AllReadyH.cons (o := ({ dst := some 58, op := Go.Op.call { callee := Go.Callee.builtin Go.Builtin.append, args := #[Go.Operand.tmp 53, Go.Operand.tmp 57], argTypes := #[22, 22] }, type := 22, pos := _, after := #[{ on := 6, ground := Go.Ground.data }, { on := 10, ground := Go.Ground.data }, { on := 6, ground := Go.Ground.chain }], guard := none } : Oper)) rfl (fun KK hK => ?_) AllReadyH.nil)
                      refine step_append_lies _ rfl _ _ 22 rfl wq.heap.size 3 i0 (.int .i64 0) 1 8 under22b hi0 hz0 hz1 hz2 rfl (by decide) (.slice (some ⟨g9, 0, none⟩) (li (lst n q)).length cap9) (li (lst n q)).length _ rfl hown9 ⟨ypb, ypo, none⟩ (li (lst n r)).length y3 ((li (lst n r)).map (Value.int .i64)) rfl HYM.out (HYN.out _ hB9) HY1.out hyl0 HYL.out HYB.out hB9.size _ rfl ?_
                      intro gA capA wA hownA hgrowA hlocA hltA
                      have hBA : Below wq.heap.size wq wA := hB9.grown hgrowA hB9.size (fun j e => owns_ge hown9 j e)
                      refine hK.out _ _ ⟨below_cell hBA g0, below_cell hBA g1⟩ (fun hHeld => ?_)
                      clear hK
                      try simp only [Act.put, List.setIfInBounds_toArray, List.set_cons_zero, List.set_cons_succ]
                      refine wpAnyH_ready (rs := [12]) (by kernel_rfl) (by simp) (AllReadyH.cons (o := ({ dst := some 59, op := Go.Op.call { callee := Go.Callee.value (Go.Operand.func 20), args := #[Go.Operand.tmp 48, Go.Operand.tmp 58], argTypes := #[24, 22] }, type := 22, pos := _, after := #[{ on := 1, ground := Go.Ground.data }, { on := 11, ground := Go.Ground.data }, { on := 11, ground := Go.Ground.chain }], guard := none } : Oper)) rfl (fun KK hK => ?_) AllReadyH.nil)
                      go_simp
                      refine (HSP.out _ _ hBA (HUN.out _ _ _ hownA hBA)).mono ?_
                      rintro e1 U1 ⟨s1, s2, s3, rfl, hrowS, hl1⟩
                      try go_wp2_with fail
                      have hBU := bcat2 hBA hl1
                      refine hK.out _ _ ⟨below_cell hBU g0, below_cell hBU g1⟩ (fun hHeld => ?_)
                      clear hK
                      try simp only [Act.put, List.setIfInBounds_toArray, List.set_cons_zero, List.set_cons_succ]
                      refine wpAnyH_ready (rs := [13]) (by kernel_rfl) (by simp) (AllReadyH.cons (o := ({ dst := some 60, op := Go.Op.call { callee := Go.Callee.value (Go.Operand.tmp 47), args := #[Go.Operand.tmp 59], argTypes := #[22] }, type := 4, pos := _, after := #[{ on := 0, ground := Go.Ground.data }, { on := 12, ground := Go.Ground.data }, { on := 12, ground := Go.Ground.chain }], guard := none } : Oper)) rfl (fun KK hK => ?_) AllReadyH.nil)
                      go_simp
                      refine (HAD.out _ _ _ hBA.size hBU hrowS).mono ?_
                      rintro e2 U2 ⟨⟨bb, rfl⟩, hV2⟩
                      try go_wp2_with fail
                      refine hK.out _ _ ⟨hV2.box.two.1, hV2.box.two.2.1⟩ (fun hHeld => ?_)
                      clear hK
                      try simp only [Act.put, List.setIfInBounds_toArray, List.set_cons_zero, List.set_cons_succ]
                      refine wpAnyH_done (by kernel_rfl) ?_ _
                      have HV2 := hide hV2
                      clear hV2
                      go_wp2
                      go_roundw
                      case rel => exact ⟨k + 1, _, by omega, by go_num, HV2.out, HDS.out, HIL.out⟩
                      case measure => simp [intOf]; omega
                · go_simp
                  refine hK.out _ _ hHeld (fun hHeld => ?_)
                  clear hK
                  try simp only [Act.put, List.setIfInBounds_toArray, List.set_cons_zero, List.set_cons_succ]
                  refine wpAnyH_take (i := 9) (oi := ({ dst := some 56, op := Go.Op.indexAddr 25 (Go.Operand.tmp 54) (Go.Operand.tmp 55), type := 0, pos := _, after := #[{ on := 7, ground := Go.Ground.data }, { on := 8, ground := Go.Ground.data }], guard := none } : Oper)) (v := ?_) rfl (by kernel_rfl) (by kernel_rfl) (by kernel_rfl) (fun _ _ _ h => h) (Or.inl ⟨by rfl, ?_⟩) (by assumption) ?_
                  rotate_left
                  · (intro w hSw; (try dsimp only at hSw); go_simp; try with_reducible rfl)
                  simp only [Act.put, List.setIfInBounds_toArray, List.set_cons_zero, List.set_cons_succ]
                  refine wpAnyH_ready (rs := [2, 10]) (by kernel_rfl) (by simp) (AllReadyH.cons (o := ({ dst := some 49, op := Go.Op.load 25 (Go.Operand.tmp 3), type := 25, pos := _, after := #[], guard := none } : Oper)) rfl (fun KK hK => ?_) (AllReadyH.cons (o := ({ dst := some 57, op := Go.Op.load 22 (Go.Operand.tmp 56), type := 22, pos := _, after := #[{ on := 9, ground := Go.Ground.data }], guard := none } : Oper)) rfl (fun KK hK => ?_) AllReadyH.nil))
                  · go_simp
                    refine hK.out _ _ hHeld (fun hHeld => ?_)
                    clear hK
                    try simp only [Act.put, List.setIfInBounds_toArray, List.set_cons_zero, List.set_cons_succ]
                    refine wpAnyH_take (i := 4) (oi := ({ dst := some 51, op := Go.Op.indexAddr 25 (Go.Operand.tmp 49) (Go.Operand.tmp 50), type := 0, pos := _, after := #[{ on := 2, ground := Go.Ground.data }, { on := 3, ground := Go.Ground.data }], guard := none } : Oper)) (v := ?_) rfl (by kernel_rfl) (by kernel_rfl) (by kernel_rfl) (fun _ _ _ h => h) (Or.inl ⟨by rfl, ?_⟩) (by assumption) ?_
                    rotate_left
                    · (intro w hSw; (try dsimp only at hSw); go_simp; try with_reducible rfl)
                    simp only [Act.put, List.setIfInBounds_toArray, List.set_cons_zero, List.set_cons_succ]
                    refine wpAnyH_ready (rs := [5, 10]) (by kernel_rfl) (by simp) (AllReadyH.cons (o := ({ dst := some 52, op := Go.Op.load 22 (Go.Operand.tmp 51), type := 22, pos := _, after := #[{ on := 4, ground := Go.Ground.data }], guard := none } : Oper)) rfl (fun KK hK => ?_) (AllReadyH.cons (o := ({ dst := some 57, op := Go.Op.load 22 (Go.Operand.tmp 56), type := 22, pos := _, after := #[{ on := 9, ground := Go.Ground.data }], guard := none } : Oper)) rfl (fun KK hK => ?_) AllReadyH.nil))
                    · go_simp
                      refine hK.out _ _ hHeld (fun hHeld => ?_)
                      clear hK
                      try simp only [Act.put, List.setIfInBounds_toArray, List.set_cons_zero, List.set_cons_succ]
                      refine wpAnyH_ready (rs := [6, 10]) (by kernel_rfl) (by simp) (AllReadyH.cons (o := ({ dst := some 53, op := Go.Op.call { callee := Go.Callee.builtin Go.Builtin.append, args := #[Go.Operand.const (Go.Value.slice none 0 0), Go.Operand.tmp 52], argTypes := #[22, 22] }, type := 22, pos := _, after := #[{ on := 5, ground := Go.Ground.data }], guard := none } : Oper)) rfl (fun KK hK => ?_) (AllReadyH.cons (o := ({ dst := some 57, op := Go.Op.load 22 (Go.Operand.tmp 56), type := 22, pos := _, after := #[{ on := 9, ground := Go.Ground.data }], guard := none } : Oper)) rfl (fun KK hK => ?_) AllReadyH.nil))
                      · refine step_append_lies _ rfl _ _ 22 rfl wq.heap.size 3 i0 (.int .i64 0) 1 8 under22b hi0 hz0 hz1 hz2 rfl (by decide) (.slice none 0 0) 0 [] rfl (World.ownsRow_nil _ _ _ _) ⟨xpb, xpo, none⟩ (li (lst n q)).length x3 ((li (lst n q)).map (Value.int .i64)) rfl HXM.out (HXN.out _ (bdrew (Below.refl _ wq))) HX1.out hxl0 HXL.out HXB.out (Nat.le_refl _) _ rfl ?_
                        intro g9 cap9 w9 hown9 hgrow9 hloc9 hlt9
                        have hB9 : Below wq.heap.size wq w9 := (bdrew (Below.refl _ wq)).grown hgrow9 (Nat.le_refl _) (by simp [Value.ownBlock])
                        rw [Nat.zero_add, List.nil_append] at hown9
                        have cob := below_cell hB9 cob
                        have ck := below_cell hB9 ck
                        refine hK.out _ _ ⟨below_cell hB9 g0, below_cell hB9 g1⟩ (fun hHeld => ?_)
                        clear hK hgrow9 hloc9 hlt9
                        try simp only [Act.put, List.setIfInBounds_toArray, List.set_cons_zero, List.set_cons_succ]
                        try simp only [Nat.zero_add]
                        refine wpAnyH_ready (rs := [10]) (by kernel_rfl) (by simp) (AllReadyH.cons (o := ({ dst := some 57, op := Go.Op.load 22 (Go.Operand.tmp 56), type := 22, pos := _, after := #[{ on := 9, ground := Go.Ground.data }], guard := none } : Oper)) rfl (fun KK hK => ?_) AllReadyH.nil)
                        go_simp
                        refine hK.out _ _ hHeld (fun hHeld => ?_)
                        clear hK
                        try simp only [Act.put, List.setIfInBounds_toArray, List.set_cons_zero, List.set_cons_succ]
                        refine wpAnyH_ready (rs := [11]) (by kernel_rfl) (by simp) (AllReadyH.cons (o := ({ dst := some 58, op := Go.Op.call { callee := Go.Callee.builtin Go.Builtin.append, args := #[Go.Operand.tmp 53, Go.Operand.tmp 57], argTypes := #[22, 22] }, type := 22, pos := _, after := #[{ on := 6, ground := Go.Ground.data }, { on := 10, ground := Go.Ground.data }, { on := 6, ground := Go.Ground.chain }], guard := none } : Oper)) rfl (fun KK hK => ?_) AllReadyH.nil)
                        refine step_append_lies _ rfl _ _ 22 rfl wq.heap.size 3 i0 (.int .i64 0) 1 8 under22b hi0 hz0 hz1 hz2 rfl (by decide) (.slice (some ⟨g9, 0, none⟩) (li (lst n q)).length cap9) (li (lst n q)).length _ rfl hown9 ⟨ypb, ypo, none⟩ (li (lst n r)).length y3 ((li (lst n r)).map (Value.int .i64)) rfl HYM.out (HYN.out _ hB9) HY1.out hyl0 HYL.out HYB.out hB9.size _ rfl ?_
                        intro gA capA wA hownA hgrowA hlocA hltA
                        have hBA : Below wq.heap.size wq wA := hB9.grown hgrowA hB9.size (fun j e => owns_ge hown9 j e)
                        refine hK.out _ _ ⟨below_cell hBA g0, below_cell hBA g1⟩ (fun hHeld => ?_)
                        clear hK
                        try simp only [Act.put, List.setIfInBounds_toArray, List.set_cons_zero, List.set_cons_succ]
                        refine wpAnyH_ready (rs := [12]) (by kernel_rfl) (by simp) (AllReadyH.cons (o := ({ dst := some 59, op := Go.Op.call { callee := Go.Callee.value (Go.Operand.func 20), args := #[Go.Operand.tmp 48, Go.Operand.tmp 58], argTypes := #[24, 22] }, type := 22, pos := _, after := #[{ on := 1, ground := Go.Ground.data }, { on := 11, ground := Go.Ground.data }, { on := 11, ground := Go.Ground.chain }], guard := none } : Oper)) rfl (fun KK hK => ?_) AllReadyH.nil)
                        go_simp
                        refine (HSP.out _ _ hBA (HUN.out _ _ _ hownA hBA)).mono ?_
                        rintro e1 U1 ⟨s1, s2, s3, rfl, hrowS, hl1⟩
                        try go_wp2_with fail
                        have hBU := bcat2 hBA hl1
                        refine hK.out _ _ ⟨below_cell hBU g0, below_cell hBU g1⟩ (fun hHeld => ?_)
                        clear hK
                        try simp only [Act.put, List.setIfInBounds_toArray, List.set_cons_zero, List.set_cons_succ]
                        refine wpAnyH_ready (rs := [13]) (by kernel_rfl) (by simp) (AllReadyH.cons (o := ({ dst := some 60, op := Go.Op.call { callee := Go.Callee.value (Go.Operand.tmp 47), args := #[Go.Operand.tmp 59], argTypes := #[22] }, type := 4, pos := _, after := #[{ on := 0, ground := Go.Ground.data }, { on := 12, ground := Go.Ground.data }, { on := 12, ground := Go.Ground.chain }], guard := none } : Oper)) rfl (fun KK hK => ?_) AllReadyH.nil)
                        go_simp
                        refine (HAD.out _ _ _ hBA.size hBU hrowS).mono ?_
                        rintro e2 U2 ⟨⟨bb, rfl⟩, hV2⟩
                        try go_wp2_with fail
                        refine hK.out _ _ ⟨hV2.box.two.1, hV2.box.two.2.1⟩ (fun hHeld => ?_)
                        clear hK
                        try simp only [Act.put, List.setIfInBounds_toArray, List.set_cons_zero, List.set_cons_succ]
                        refine wpAnyH_done (by kernel_rfl) ?_ _
                        have HV2 := hide hV2
                        clear hV2
                        go_wp2
                        go_roundw
                        case rel => exact ⟨k + 1, _, by omega, by go_num, HV2.out, HDS.out, HIL.out⟩
                        case measure => simp [intOf]; omega
                      · go_simp
                        refine hK.out _ _ hHeld (fun hHeld => ?_)
                        clear hK
                        try simp only [Act.put, List.setIfInBounds_toArray, List.set_cons_zero, List.set_cons_succ]
                        refine wpAnyH_ready (rs := [6]) (by kernel_rfl) (by simp) (AllReadyH.cons (o := ({ dst := some 53, op := Go.Op.call { callee := Go.Callee.builtin Go.Builtin.append, args := #[Go.Operand.const (Go.Value.slice none 0 0), Go.Operand.tmp 52], argTypes := #[22, 22] }, type := 22, pos := _, after := #[{ on := 5, ground := Go.Ground.data }], guard := none } : Oper)) rfl (fun KK hK => ?_) AllReadyH.nil)
                        refine step_append_lies _ rfl _ _ 22 rfl wq.heap.size 3 i0 (.int .i64 0) 1 8 under22b hi0 hz0 hz1 hz2 rfl (by decide) (.slice none 0 0) 0 [] rfl (World.ownsRow_nil _ _ _ _) ⟨xpb, xpo, none⟩ (li (lst n q)).length x3 ((li (lst n q)).map (Value.int .i64)) rfl HXM.out (HXN.out _ (bdrew (Below.refl _ wq))) HX1.out hxl0 HXL.out HXB.out (Nat.le_refl _) _ rfl ?_
                        intro g9 cap9 w9 hown9 hgrow9 hloc9 hlt9
                        have hB9 : Below wq.heap.size wq w9 := (bdrew (Below.refl _ wq)).grown hgrow9 (Nat.le_refl _) (by simp [Value.ownBlock])
                        rw [Nat.zero_add, List.nil_append] at hown9
                        have cob := below_cell hB9 cob
                        have ck := below_cell hB9 ck
                        refine hK.out _ _ ⟨below_cell hB9 g0, below_cell hB9 g1⟩ (fun hHeld => ?_)
                        clear hK hgrow9 hloc9 hlt9
                        try simp only [Act.put, List.setIfInBounds_toArray, List.set_cons_zero, List.set_cons_succ]
                        try simp only [Nat.zero_add]
                        refine wpAnyH_ready (rs := [11]) (by kernel_rfl) (by simp) (AllReadyH.cons (o := ({ dst := some 58, op := Go.Op.call { callee := Go.Callee.builtin Go.Builtin.append, args := #[Go.Operand.tmp 53, Go.Operand.tmp 57], argTypes := #[22, 22] }, type := 22, pos := _, after := #[{ on := 6, ground := Go.Ground.data }, { on := 10, ground := Go.Ground.data }, { on := 6, ground := Go.Ground.chain }], guard := none } : Oper)) rfl (fun KK hK => ?_) AllReadyH.nil)
                        refine step_append_lies _ rfl _ _ 22 rfl wq.heap.size 3 i0 (.int .i64 0) 1 8 under22b hi0 hz0 hz1 hz2 rfl (by decide) (.slice (some ⟨g9, 0, none⟩) (li (lst n q)).length cap9) (li (lst n q)).length _ rfl hown9 ⟨ypb, ypo, none⟩ (li (lst n r)).length y3 ((li (lst n r)).map (Value.int .i64)) rfl HYM.out (HYN.out _ hB9) HY1.out hyl0 HYL.out HYB.out hB9.size _ rfl ?_
                        intro gA capA wA hownA hgrowA hlocA hltA
                        have hBA : Below wq.heap.size wq wA := hB9.grown hgrowA hB9.size (fun j e => owns_ge hown9 j e)
                        refine hK.out _ _ ⟨below_cell hBA g0, below_cell hBA g1⟩ (fun hHeld => ?_)
                        clear hK
                        try simp only [Act.put, List.setIfInBounds_toArray, List.set_cons_zero, List.set_cons_succ]
                        refine wpAnyH_ready (rs := [12]) (by kernel_rfl) (by simp) (AllReadyH.cons (o := ({ dst := some 59, op := Go.Op.call { callee := Go.Callee.value (Go.Operand.func 20), args := #[Go.Operand.tmp 48, Go.Operand.tmp 58], argTypes := #[24, 22] }, type := 22, pos := _, after := #[{ on := 1, ground := Go.Ground.data }, { on := 11, ground := Go.Ground.data }, { on := 11, ground := Go.Ground.chain }], guard := none } : Oper)) rfl (fun KK hK => ?_) AllReadyH.nil)
                        go_simp
                        refine (HSP.out _ _ hBA (HUN.out _ _ _ hownA hBA)).mono ?_
                        rintro e1 U1 ⟨s1, s2, s3, rfl, hrowS, hl1⟩
                        try go_wp2_with fail
                        have hBU := bcat2 hBA hl1
                        refine hK.out _ _ ⟨below_cell hBU g0, below_cell hBU g1⟩ (fun hHeld => ?_)
                        clear hK
                        try simp only [Act.put, List.setIfInBounds_toArray, List.set_cons_zero, List.set_cons_succ]
                        refine wpAnyH_ready (rs := [13]) (by kernel_rfl) (by simp) (AllReadyH.cons (o := ({ dst := some 60, op := Go.Op.call { callee := Go.Callee.value (Go.Operand.tmp 47), args := #[Go.Operand.tmp 59], argTypes := #[22] }, type := 4, pos := _, after := #[{ on := 0, ground := Go.Ground.data }, { on := 12, ground := Go.Ground.data }, { on := 12, ground := Go.Ground.chain }], guard := none } : Oper)) rfl (fun KK hK => ?_) AllReadyH.nil)
                        go_simp
                        refine (HAD.out _ _ _ hBA.size hBU hrowS).mono ?_
                        rintro e2 U2 ⟨⟨bb, rfl⟩, hV2⟩
                        try go_wp2_with fail
                        refine hK.out _ _ ⟨hV2.box.two.1, hV2.box.two.2.1⟩ (fun hHeld => ?_)
                        clear hK
                        try simp only [Act.put, List.setIfInBounds_toArray, List.set_cons_zero, List.set_cons_succ]
                        refine wpAnyH_done (by kernel_rfl) ?_ _
                        have HV2 := hide hV2
                        clear hV2
                        go_wp2
                        go_roundw
                        case rel => exact ⟨k + 1, _, by omega, by go_num, HV2.out, HDS.out, HIL.out⟩
                        case measure => simp [intOf]; omega
                    · go_simp
                      refine hK.out _ _ hHeld (fun hHeld => ?_)
                      clear hK
                      try simp only [Act.put, List.setIfInBounds_toArray, List.set_cons_zero, List.set_cons_succ]
                      refine wpAnyH_ready (rs := [5]) (by kernel_rfl) (by simp) (AllReadyH.cons (o := ({ dst := some 52, op := Go.Op.load 22 (Go.Operand.tmp 51), type := 22, pos := _, after := #[{ on := 4, ground := Go.Ground.data }], guard := none } : Oper)) rfl (fun KK hK => ?_) AllReadyH.nil)
                      go_simp
                      refine hK.out _ _ hHeld (fun hHeld => ?_)
                      clear hK
                      try simp only [Act.put, List.setIfInBounds_toArray, List.set_cons_zero, List.set_cons_succ]
                      refine wpAnyH_ready (rs := [6]) (by kernel_rfl) (by simp) (AllReadyH.cons (o := ({ dst := some 53, op := Go.Op.call { callee := Go.Callee.builtin Go.Builtin.append, args := #[Go.Operand.const (Go.Value.slice none 0 0), Go.Operand.tmp 52], argTypes := #[22, 22] }, type := 22, pos := _, after := #[{ on := 5, ground := Go.Ground.data }], guard := none } : Oper)) rfl (fun KK hK => ?_) AllReadyH.nil)
                      refine step_append_lies _ rfl _ _ 22 rfl wq.heap.size 3 i0 (.int .i64 0) 1 8 under22b hi0 hz0 hz1 hz2 rfl (by decide) (.slice none 0 0) 0 [] rfl (World.ownsRow_nil _ _ _ _) ⟨xpb, xpo, none⟩ (li (lst n q)).length x3 ((li (lst n q)).map (Value.int .i64)) rfl HXM.out (HXN.out _ (bdrew (Below.refl _ wq))) HX1.out hxl0 HXL.out HXB.out (Nat.le_refl _) _ rfl ?_
                      intro g9 cap9 w9 hown9 hgrow9 hloc9 hlt9
                      have hB9 : Below wq.heap.size wq w9 := (bdrew (Below.refl _ wq)).grown hgrow9 (Nat.le_refl _) (by simp [Value.ownBlock])
                      rw [Nat.zero_add, List.nil_append] at hown9
                      have cob := below_cell hB9 cob
                      have ck := below_cell hB9 ck
                      refine hK.out _ _ ⟨below_cell hB9 g0, below_cell hB9 g1⟩ (fun hHeld => ?_)
                      clear hK hgrow9 hloc9 hlt9
                      try simp only [Act.put, List.setIfInBounds_toArray, List.set_cons_zero, List.set_cons_succ]
                      try simp only [Nat.zero_add]
                      refine wpAnyH_ready (rs := [11]) (by kernel_rfl) (by simp) (AllReadyH.cons (o := ({ dst := some 58, op := Go.Op.call { callee := Go.Callee.builtin Go.Builtin.append, args := #[Go.Operand.tmp 53, Go.Operand.tmp 57], argTypes := #[22, 22] }, type := 22, pos := _, after := #[{ on := 6, ground := Go.Ground.data }, { on := 10, ground := Go.Ground.data }, { on := 6, ground := Go.Ground.chain }], guard := none } : Oper)) rfl (fun KK hK => ?_) AllReadyH.nil)
                      refine step_append_lies _ rfl _ _ 22 rfl wq.heap.size 3 i0 (.int .i64 0) 1 8 under22b hi0 hz0 hz1 hz2 rfl (by decide) (.slice (some ⟨g9, 0, none⟩) (li (lst n q)).length cap9) (li (lst n q)).length _ rfl hown9 ⟨ypb, ypo, none⟩ (li (lst n r)).length y3 ((li (lst n r)).map (Value.int .i64)) rfl HYM.out (HYN.out _ hB9) HY1.out hyl0 HYL.out HYB.out hB9.size _ rfl ?_
                      intro gA capA wA hownA hgrowA hlocA hltA
                      have hBA : Below wq.heap.size wq wA := hB9.grown hgrowA hB9.size (fun j e => owns_ge hown9 j e)
                      refine hK.out _ _ ⟨below_cell hBA g0, below_cell hBA g1⟩ (fun hHeld => ?_)
                      clear hK
                      try simp only [Act.put, List.setIfInBounds_toArray, List.set_cons_zero, List.set_cons_succ]
                      refine wpAnyH_ready (rs := [12]) (by kernel_rfl) (by simp) (AllReadyH.cons (o := ({ dst := some 59, op := Go.Op.call { callee := Go.Callee.value (Go.Operand.func 20), args := #[Go.Operand.tmp 48, Go.Operand.tmp 58], argTypes := #[24, 22] }, type := 22, pos := _, after := #[{ on := 1, ground := Go.Ground.data }, { on := 11, ground := Go.Ground.data }, { on := 11, ground := Go.Ground.chain }], guard := none } : Oper)) rfl (fun KK hK => ?_) AllReadyH.nil)
                      go_simp
                      refine (HSP.out _ _ hBA (HUN.out _ _ _ hownA hBA)).mono ?_
                      rintro e1 U1 ⟨s1, s2, s3, rfl, hrowS, hl1⟩
                      try go_wp2_with fail
                      have hBU := bcat2 hBA hl1
                      refine hK.out _ _ ⟨below_cell hBU g0, below_cell hBU g1⟩ (fun hHeld => ?_)
                      clear hK
                      try simp only [Act.put, List.setIfInBounds_toArray, List.set_cons_zero, List.set_cons_succ]
                      refine wpAnyH_ready (rs := [13]) (by kernel_rfl) (by simp) (AllReadyH.cons (o := ({ dst := some 60, op := Go.Op.call { callee := Go.Callee.value (Go.Operand.tmp 47), args := #[Go.Operand.tmp 59], argTypes := #[22] }, type := 4, pos := _, after := #[{ on := 0, ground := Go.Ground.data }, { on := 12, ground := Go.Ground.data }, { on := 12, ground := Go.Ground.chain }], guard := none } : Oper)) rfl (fun KK hK => ?_) AllReadyH.nil)
                      go_simp
                      refine (HAD.out _ _ _ hBA.size hBU hrowS).mono ?_
                      rintro e2 U2 ⟨⟨bb, rfl⟩, hV2⟩
                      try go_wp2_with fail
                      refine hK.out _ _ ⟨hV2.box.two.1, hV2.box.two.2.1⟩ (fun hHeld => ?_)
                      clear hK
                      try simp only [Act.put, List.setIfInBounds_toArray, List.set_cons_zero, List.set_cons_succ]
                      refine wpAnyH_done (by kernel_rfl) ?_ _
                      have HV2 := hide hV2
                      clear hV2
                      go_wp2
                      go_roundw
                      case rel => exact ⟨k + 1, _, by omega, by go_num, HV2.out, HDS.out, HIL.out⟩
                      case measure => simp [intOf]; omega
                  · go_simp
                    refine hK.out _ _ hHeld (fun hHeld => ?_)
                    clear hK
                    try simp only [Act.put, List.setIfInBounds_toArray, List.set_cons_zero, List.set_cons_succ]
                    refine wpAnyH_ready (rs := [2]) (by kernel_rfl) (by simp) (AllReadyH.cons (o := ({ dst := some 49, op := Go.Op.load 25 (Go.Operand.tmp 3), type := 25, pos := _, after := #[], guard := none } : Oper)) rfl (fun KK hK => ?_) AllReadyH.nil)
                    go_simp
                    refine hK.out _ _ hHeld (fun hHeld => ?_)
                    clear hK
                    try simp only [Act.put, List.setIfInBounds_toArray, List.set_cons_zero, List.set_cons_succ]
                    refine wpAnyH_take (i := 4) (oi := ({ dst := some 51, op := Go.Op.indexAddr 25 (Go.Operand.tmp 49) (Go.Operand.tmp 50), type := 0, pos := _, after := #[{ on := 2, ground := Go.Ground.data }, { on := 3, ground := Go.Ground.data }], guard := none } : Oper)) (v := ?_) rfl (by kernel_rfl) (by kernel_rfl) (by kernel_rfl) (fun _ _ _ h => h) (Or.inl ⟨by rfl, ?_⟩) (by assumption) ?_
                    rotate_left
                    · (intro w hSw; (try dsimp only at hSw); go_simp; try with_reducible rfl)
                    simp only [Act.put, List.setIfInBounds_toArray, List.set_cons_zero, List.set_cons_succ]
                    refine wpAnyH_ready (rs := [5]) (by kernel_rfl) (by simp) (AllReadyH.cons (o := ({ dst := some 52, op := Go.Op.load 22 (Go.Operand.tmp 51), type := 22, pos := _, after := #[{ on := 4, ground := Go.Ground.data }], guard := none } : Oper)) rfl (fun KK hK => ?_) AllReadyH.nil)
                    go_simp
                    refine hK.out _ _ hHeld (fun hHeld => ?_)
                    clear hK
                    try simp only [Act.put, List.setIfInBounds_toArray, List.set_cons_zero, List.set_cons_succ]
                    refine wpAnyH_ready (rs := [6]) (by kernel_rfl) (by simp) (AllReadyH.cons (o := ({ dst := some 53, op := Go.Op.call { callee := Go.Callee.builtin Go.Builtin.append, args := #[Go.Operand.const (Go.Value.slice none 0 0), Go.Operand.tmp 52], argTypes := #[22, 22] }, type := 22, pos := _, after := #[{ on := 5, ground := Go.Ground.data }], guard := none } : Oper)) rfl (fun KK hK => ?_) AllReadyH.nil)
                    refine step_append_lies _ rfl _ _ 22 rfl wq.heap.size 3 i0 (.int .i64 0) 1 8 under22b hi0 hz0 hz1 hz2 rfl (by decide) (.slice none 0 0) 0 [] rfl (World.ownsRow_nil _ _ _ _) ⟨xpb, xpo, none⟩ (li (lst n q)).length x3 ((li (lst n q)).map (Value.int .i64)) rfl HXM.out (HXN.out _ (bdrew (Below.refl _ wq))) HX1.out hxl0 HXL.out HXB.out (Nat.le_refl _) _ rfl ?_
                    intro g9 cap9 w9 hown9 hgrow9 hloc9 hlt9
                    have hB9 : Below wq.heap.size wq w9 := (bdrew (Below.refl _ wq)).grown hgrow9 (Nat.le_refl _) (by simp [Value.ownBlock])
                    rw [Nat.zero_add, List.nil_append] at hown9
                    have cob := below_cell hB9 cob
                    have ck := below_cell hB9 ck
                    refine hK.out _ _ ⟨below_cell hB9 g0, below_cell hB9 g1⟩ (fun hHeld => ?_)
                    clear hK hgrow9 hloc9 hlt9
                    try simp only [Act.put, List.setIfInBounds_toArray, List.set_cons_zero, List.set_cons_succ]
                    try simp only [Nat.zero_add]
                    refine wpAnyH_ready (rs := [11]) (by kernel_rfl) (by simp) (AllReadyH.cons (o := ({ dst := some 58, op := Go.Op.call { callee := Go.Callee.builtin Go.Builtin.append, args := #[Go.Operand.tmp 53, Go.Operand.tmp 57], argTypes := #[22, 22] }, type := 22, pos := _, after := #[{ on := 6, ground := Go.Ground.data }, { on := 10, ground := Go.Ground.data }, { on := 6, ground := Go.Ground.chain }], guard := none } : Oper)) rfl (fun KK hK => ?_) AllReadyH.nil)
                    refine step_append_lies _ rfl _ _ 22 rfl wq.heap.size 3 i0 (.int .i64 0) 1 8 under22b hi0 hz0 hz1 hz2 rfl (by decide) (.slice (some ⟨g9, 0, none⟩) (li (lst n q)).length cap9) (li (lst n q)).length _ rfl hown9 ⟨ypb, ypo, none⟩ (li (lst n r)).length y3 ((li (lst n r)).map (Value.int .i64)) rfl HYM.out (HYN.out _ hB9) HY1.out hyl0 HYL.out HYB.out hB9.size _ rfl ?_
                    intro gA capA wA hownA hgrowA hlocA hltA
                    have hBA : Below wq.heap.size wq wA := hB9.grown hgrowA hB9.size (fun j e => owns_ge hown9 j e)
                    refine hK.out _ _ ⟨below_cell hBA g0, below_cell hBA g1⟩ (fun hHeld => ?_)
                    clear hK
                    try simp only [Act.put, List.setIfInBounds_toArray, List.set_cons_zero, List.set_cons_succ]
                    refine wpAnyH_ready (rs := [12]) (by kernel_rfl) (by simp) (AllReadyH.cons (o := ({ dst := some 59, op := Go.Op.call { callee := Go.Callee.value (Go.Operand.func 20), args := #[Go.Operand.tmp 48, Go.Operand.tmp 58], argTypes := #[24, 22] }, type := 22, pos := _, after := #[{ on := 1, ground := Go.Ground.data }, { on := 11, ground := Go.Ground.data }, { on := 11, ground := Go.Ground.chain }], guard := none } : Oper)) rfl (fun KK hK => ?_) AllReadyH.nil)
                    go_simp
                    refine (HSP.out _ _ hBA (HUN.out _ _ _ hownA hBA)).mono ?_
                    rintro e1 U1 ⟨s1, s2, s3, rfl, hrowS, hl1⟩
                    try go_wp2_with fail
                    have hBU := bcat2 hBA hl1
                    refine hK.out _ _ ⟨below_cell hBU g0, below_cell hBU g1⟩ (fun hHeld => ?_)
                    clear hK
                    try simp only [Act.put, List.setIfInBounds_toArray, List.set_cons_zero, List.set_cons_succ]
                    refine wpAnyH_ready (rs := [13]) (by kernel_rfl) (by simp) (AllReadyH.cons (o := ({ dst := some 60, op := Go.Op.call { callee := Go.Callee.value (Go.Operand.tmp 47), args := #[Go.Operand.tmp 59], argTypes := #[22] }, type := 4, pos := _, after := #[{ on := 0, ground := Go.Ground.data }, { on := 12, ground := Go.Ground.data }, { on := 12, ground := Go.Ground.chain }], guard := none } : Oper)) rfl (fun KK hK => ?_) AllReadyH.nil)
                    go_simp
                    refine (HAD.out _ _ _ hBA.size hBU hrowS).mono ?_
                    rintro e2 U2 ⟨⟨bb, rfl⟩, hV2⟩
                    try go_wp2_with fail
                    refine hK.out _ _ ⟨hV2.box.two.1, hV2.box.two.2.1⟩ (fun hHeld => ?_)
                    clear hK
                    try simp only [Act.put, List.setIfInBounds_toArray, List.set_cons_zero, List.set_cons_succ]
                    refine wpAnyH_done (by kernel_rfl) ?_ _
                    have HV2 := hide hV2
                    clear hV2
                    go_wp2
                    go_roundw
                    case rel => exact ⟨k + 1, _, by omega, by go_num, HV2.out, HDS.out, HIL.out⟩
                    case measure => simp [intOf]; omega
              · rw [hpt] at HPT
                have HDK := hide (HD.out.skip HQ.out HR.out (fun y hy hry => by
                  have h9 := List.all_eq_true.1 hpt (y : Int) (mem_li.2 (mem_lst.2 ⟨hy, hry⟩))
                  exact (mem_lst.1 (mem_li.1 (of_decide_eq_true h9))).2))
                clear hpt hxs hys hq hr hD hV hcl hra hbx hqs hrs hxl0 hyl0 hxln hyln
                go_wp2_with fail
                go_quiet ((go_at_call 63; exact Calls.quiet_of_same (HPT.out _)))
                have hBq : Below wr.heap.size wr (wr.drewN nq) := bdrewN (Below.refl _ wr) nq
                have HVq := hide (HV.out.below hBq)
                generalize wr.drewN nq = wq at HVq ⊢
                go_wp2
                go_roundw
                case rel => exact ⟨k + 1, P, by omega, by go_num, HVq.out, HDK.out, HIL0.out⟩
                case measure => simp [intOf]; omega
            · have hki : ¬ (k : Int) < (few : Int) := by omega
              have HDN := hide (hD.next (by omega))
              have HV := hide hV
              clear hV hD
              go_wp2
              go_roundw
              case rel => exact ⟨i + 1, P, by omega, by go_num, HV.out, HDN.out⟩
              case measure => simp [intOf]; omega
        · have hii : ¬ (i : Int) < (P.length : Int) := by omega
          have HFI := hide (hD.fin hg (by omega))
          have HV := hide hV
          clear hD hV hbx
          go_wp2
          obtain ⟨r, vs, hbx, hrow, hls⟩ := HV.out.ex
          have hvl := hls.1
          rw [LL_len] at hvl
          have hPp : 0 < P.length := by
            obtain ⟨p9, hp9, _⟩ := List.mem_map.1 HFI.out.one
            exact List.length_pos_of_mem hp9
          obtain ⟨g, K, rc, hre, hKe⟩ : ∃ g K rc, r = .slice (some ⟨g, 0, none⟩) K rc ∧ vs.length = K := by
            rcases hrow.2 with ⟨_, h0⟩ | ⟨g, cap, cur, hre, _⟩
            · omega
            · exact ⟨g, _, cap, hre, rfl⟩
          subst hre
          have hK9 : K ≤ 16777216 := by omega
          have HT0 := hide (show SgT w wr n (.slice v1 v2 v3) g K rc vs (LL n P) from ⟨HV.out.bel, HV.out.sz, hbx, by rw [hKe] at hrow; exact hrow, hls, hKe⟩)
          have HKP := hide (hKe.symm.trans hvl)
          have HST := hide (show ∃ (t : Nat) (us : List Value) (ms : List (List Int)), t ≤ K ∧ (.int .i64 0 : Value) = .int .i64 t ∧ SgT w wr n (.slice v1 v2 v3) g K rc us ms ∧ ms.Perm (LL n P) ∧ srtA ms t from ⟨0, vs, LL n P, Nat.zero_le _, rfl, HT0.out, List.Perm.refl _, fun a b h => by omega⟩)
          clear hrow hls hvl hKe hbx k0 HV
          go_loopw [9] (fun iv wr => ∃ (t : Nat) (us : List Value) (ms : List (List Int)), t ≤ K ∧ iv = .int .i64 t ∧ SgT w wr n (.slice v1 v2 v3) g K rc us ms ∧ ms.Perm (LL n P) ∧ srtA ms t) (fun iv _ => K - (intOf iv).toNat)
          case atStart => exact HST.out
          case round =>
            obtain ⟨s, us, ms, hsK, rfl, hT, hpm, hsr⟩ := hrel
            clear HST
            have k0 := hT.ob.cell
            by_cases hlt2 : s < K
            · have hsi : (s : Int) < (K : Int) := by omega
              have HST := hide (show ∃ (t : Nat) (us : List Value) (ms : List (List Int)), t ≤ K ∧ (.int .i64 ((s : Int) + 1) : Value) = .int .i64 t ∧ s < t ∧ SgT w wr n (.slice v1 v2 v3) g K rc us ms ∧ ms.Perm (LL n P) ∧ SrtB ms s t from ⟨s + 1, us, ms, by omega, by go_num, by omega, hT, hpm, SrtB.start hsr⟩)
              clear hT hpm hsr
              go_wp2
              clear k0
              go_loopw [10] (fun kv wr => ∃ (t : Nat) (us : List Value) (ms : List (List Int)), t ≤ K ∧ kv = .int .i64 t ∧ s < t ∧ SgT w wr n (.slice v1 v2 v3) g K rc us ms ∧ ms.Perm (LL n P) ∧ SrtB ms s t) (fun kv _ => K - (intOf kv).toNat)
              case atStart => exact HST.out
              case round =>
                obtain ⟨t, us, ms, htK, rfl, hst, hT, hpm, hsr⟩ := hrel
                clear HST
                have k0 := hT.ob.cell
                by_cases hlt3 : t < K
                · have hti : (t : Int) < (K : Int) := by omega
                  have hul := hT.ul
                  have hml : us.length = ms.length := hT.ls.1
                  obtain ⟨a, ha⟩ : ∃ a, us[s]? = some a := ⟨_, List.getElem?_eq_getElem (by omega)⟩
                  obtain ⟨b, hb⟩ : ∃ b, us[t]? = some b := ⟨_, List.getElem?_eq_getElem (by omega)⟩
                  obtain ⟨x, hx⟩ : ∃ x, ms[s]? = some x := ⟨_, List.getElem?_eq_getElem (by omega)⟩
                  obtain ⟨y, hy⟩ : ∃ y, ms[t]? = some y := ⟨_, List.getElem?_eq_getElem (by omega)⟩
                  obtain ⟨a1, a3, apb, apo, rfl, a4, a5, a6, a7, _, _⟩ := hT.ls.2 s a x ha hx
                  obtain ⟨b1, b3, bpb, bpo, rfl, b4, b5, b6, b7, _, _⟩ := hT.ls.2 t b y hb hy
                  have hsa : Sl wr (.slice a1 x.length a3) x := ⟨a1, a3, apb, apo, rfl, a4, a5, a6, a7⟩
                  have hsb : Sl wr (.slice b1 y.length b3) y := ⟨b1, b3, bpb, bpo, rfl, b4, b5, b6, b7⟩
                  have ca : wr.cell? ⟨g, s, none⟩ = some (.slice a1 x.length a3) := by
                    have := hT.row.cells (g := g) rfl s _ ha
                    rwa [addr_add'] at this
                  have cb : wr.cell? ⟨g, t, none⟩ = some (.slice b1 y.length b3) := by
                    have := hT.row.cells (g := g) rfl t _ hb
                    rwa [addr_add'] at this
                  have HSW := hide (fun W (h : Below wr.heap.size wr W) => (hT.below h).swap (by omega) (by omega) (by omega) ha hb hx hy)
                  have HSB := hide (fun W (h : Below wr.heap.size wr W) => hT.below h)
                  have HS1 := hide (fun (h : cmpN y x < 0) => And.intro ((swA_perm (by omega) (by omega) hx hy).trans hpm) (hsr.swap (by omega) (by omega) hx hy h))
                  have HS2 := hide (fun (h : ¬ cmpN y x < 0) => hsr.skip hx hy h)
                  have HPM := hide hpm
                  have HFR := hide (fun W (h : Below wr.heap.size wr W) j => (hT.below h).row.frozenAt j)
                  have hsi2 : (s : Int) < (K : Int) := by omega
                  have HGE := hide hT.ge
                  have hce := cmpN_eq y x
                  have HSA := hide hsa
                  have HSBl := hide hsb
                  clear hT hpm hsr ha hb hx hy a4 a5 a6 a7 b4 b5 b6 b7 hul hml hsa hsb
                  rcases Nat.lt_trichotomy y.length x.length with hln | hln | hln
                  · have hcn : cmpN y x < 0 := by
                      have h9 := cmpI_lt.2 (show ((y.length : Nat) : Int) < ((x.length : Nat) : Int) by omega)
                      rw [hce, if_pos (by omega)]; exact h9
                    have hli : ((y.length : Nat) : Int) < ((x.length : Nat) : Int) := by omega
                    obtain ⟨h1, h2⟩ := HS1.out hcn
                    have HP1 := hide h1
                    have HP2 := hide h2
                    generalize y.length = yl at *
                    generalize x.length = xl at *
                    clear hce hcn h1 h2
                    go_wp2_with fail
                    go_quiet (fail)
                    have hBq : Below wr.heap.size wr (wr.drewN nq) := bdrewN (Below.refl _ wr) nq
                    generalize wr.drewN nq = wq at hBq ⊢
                    have k0 := below_cell hBq k0
                    have ca := below_cell hBq ca
                    have cb := below_cell hBq cb
                    have fa := HFR.out _ hBq s
                    have fb := HFR.out _ hBq t
                    have HT3 := hide (HSW.out _ hBq)
                    have hst2 : ¬ s = t := by omega
                    have hgo : ¬ w.heap.size + 1 = g := by have := HGE.out; omega
                    have hgo2 : ¬ g = w.heap.size + 1 := by have := HGE.out; omega
                    go_wp2_with fail
                    go_region
                    all_goals (
                      go_wp2
                      go_roundw
                      case rel => exact ⟨t + 1, _, _, by omega, by go_num, by omega, HT3.out.below (bdrew (Below.refl _ _)), HP1.out, HP2.out⟩
                      case measure => simp [intOf]; omega)
                  · have HLE := hide (fun W (h : Below wr.heap.size wr W) => less_ok (.slice b1 y.length b3) (.slice a1 x.length a3) y x W (HSBl.out.below h) (HSA.out.below h) hln)
                    have hcn : cmpN y x < 0 ↔ cmpL y x < 0 := by
                      have h9 := cmpI_zero.2 (show ((y.length : Nat) : Int) = ((x.length : Nat) : Int) by omega)
                      rw [hce, if_neg (by omega)]
                    have hS : ∀ W, Below wr.heap.size wr W → (Below wr.heap.size wr W ∧ W.cell? ⟨w.heap.size + 1, 0, none⟩ = some (.slice (some ⟨g, 0, none⟩) K rc) ∧ W.cell? ⟨g, s, none⟩ = some (.slice a1 x.length a3) ∧ W.cell? ⟨g, t, none⟩ = some (.slice b1 y.length b3)) := fun W h => ⟨h, below_cell h k0, below_cell h ca, below_cell h cb⟩
                    have hS0 := hS _ (bdrew (Below.refl _ wr))
                    have hli : ¬ ((y.length : Nat) : Int) < ((x.length : Nat) : Int) := by omega
                    have hle : ((y.length : Nat) : Int) = ((x.length : Nat) : Int) := by omega
                    generalize y.length = yl at *
                    generalize x.length = xl at *
                    have hln := hln.symm
                    subst hln
                    by_cases hcl : cmpL y x < 0
                    · obtain ⟨h1, h2⟩ := HS1.out (hcn.2 hcl)
                      rw [show decide (cmpL y x < 0) = true from decide_eq_true hcl] at HLE
                      have HP1 := hide h1
                      have HP2 := hide h2
                      clear hce hcn h1 h2 hcl hle hli
                      go_wp2_with fail
                      clear k0 ca cb
                      go_region_held3 (fun W => Below wr.heap.size wr W ∧ W.cell? ⟨w.heap.size + 1, 0, none⟩ = some (.slice (some ⟨g, 0, none⟩) K rc) ∧ W.cell? ⟨g, s, none⟩ = some (.slice a1 xl a3) ∧ W.cell? ⟨g, t, none⟩ = some (.slice b1 xl b3))
                        (first | exact hS0 | assumption | exact hS _ (bcat2 (And.left ‹_›) hq1))
                        (first | (go_at_call 39; refine (HLE.out _ (And.left ‹_›)).mono ?_; rintro e1 W1 ⟨rfl, hq1⟩))
                      all_goals (
                        obtain ⟨hBq, k0, ca, cb⟩ := ‹Below wr.heap.size wr W1 ∧ _›
                        clear hq1 hS hS0 HLE
                        generalize W1 = wq at *
                        have fa := HFR.out _ hBq s
                        have fb := HFR.out _ hBq t
                        have HT3 := hide (HSW.out _ hBq)
                        have hst2 : ¬ s = t := by omega
                        have hgo : ¬ w.heap.size + 1 = g := by have := HGE.out; omega
                        have hgo2 : ¬ g = w.heap.size + 1 := by have := HGE.out; omega
                        go_wp2_with fail
                        go_region
                        all_goals (
                          go_wp2
                          go_roundw
                          case rel => exact ⟨t + 1, _, _, by omega, by go_num, by omega, HT3.out.below (bdrew (Below.refl _ _)), HP1.out, HP2.out⟩
                          case measure => simp [intOf]; omega))
                    · have HP2 := hide (HS2.out (fun h => hcl (hcn.1 h)))
                      rw [show decide (cmpL y x < 0) = false from decide_eq_false hcl] at HLE
                      clear hce hcn hcl hle hli
                      go_wp2_with fail
                      clear k0 ca cb
                      go_region_held3 (fun W => Below wr.heap.size wr W ∧ W.cell? ⟨w.heap.size + 1, 0, none⟩ = some (.slice (some ⟨g, 0, none⟩) K rc) ∧ W.cell? ⟨g, s, none⟩ = some (.slice a1 xl a3) ∧ W.cell? ⟨g, t, none⟩ = some (.slice b1 xl b3))
                        (first | exact hS0 | assumption | exact hS _ (bcat2 (And.left ‹_›) hq1))
                        (first | (go_at_call 39; refine (HLE.out _ (And.left ‹_›)).mono ?_; rintro e1 W1 ⟨rfl, hq1⟩))
                      all_goals (
                        have hBq := And.left ‹Below wr.heap.size wr W1 ∧ _›
                        go_wp2
                        go_roundw
                        case rel => exact ⟨t + 1, us, ms, by omega, by go_num, by omega, HSB.out W1 hBq, HPM.out, HP2.out⟩
                        case measure => simp [intOf]; omega)
                  · have hcn : ¬ cmpN y x < 0 := by
                      have h9 := @cmpI_lt (y.length : Int) (x.length : Int)
                      have h8 := @cmpI_zero (y.length : Int) (x.length : Int)
                      rw [hce, if_pos (by omega)]; omega
                    have HP2 := hide (HS2.out hcn)
                    have hli : ¬ ((y.length : Nat) : Int) < ((x.length : Nat) : Int) := by omega
                    have hle : ¬ ((y.length : Nat) : Int) = ((x.length : Nat) : Int) := by omega
                    have hlb : (((y.length : Nat) : Int) == ((x.length : Nat) : Int)) = false := by simp; omega
                    have hlc : decide (((y.length : Nat) : Int) < ((x.length : Nat) : Int)) = false := decide_eq_false (by omega)
                    have hld : decide (y.length < x.length) = false := decide_eq_false (by omega)
                    have hle2 : ¬ y.length = x.length := by omega
                    generalize y.length = yl at *
                    generalize x.length = xl at *
                    clear hce hcn
                    go_wp2_with fail
                    go_quiet (fail)
                    have hBq : Below wr.heap.size wr (wr.drewN nq) := bdrewN (Below.refl _ wr) nq
                    have HSq := hide (HSB.out _ hBq)
                    generalize wr.drewN nq = wq at HSq ⊢
                    go_wp2
                    go_roundw
                    case rel => exact ⟨t + 1, us, ms, by omega, by go_num, by omega, HSq.out, HPM.out, HP2.out⟩
                    case measure => simp [intOf]; omega
                · have hti : ¬ (t : Int) < (K : Int) := by omega
                  have HSF := hide (hsr.fin (by have h1 := hT.ls.1; have h2 := hT.ul; omega))
                  have HTT := hide hT
                  have HPM := hide hpm
                  clear hT hsr hpm
                  go_wp2
                  go_roundw
                  case rel => exact ⟨s + 1, us, ms, by omega, by go_num, HTT.out, HPM.out, HSF.out⟩
                  case measure => simp [intOf]; omega
            · have hsi : ¬ (s : Int) < (K : Int) := by omega
              have hml : ms.length ≤ s := by have h1 := hT.ls.1; have h2 := hT.ul; omega
              have HTT := hide hT
              have hul := hT.ul
              go_wp2
              go_ret
              exact ⟨⟨_, P, us, ms, rfl, HFI.out, hpm, fun a b h1 h2 => hsr a b (by omega) h1 h2, by rw [hul]; exact owns_mono HTT.out.row (by omega), HTT.out.ls.mono (by omega), HTT.out.bel⟩⟩
end Go.Proofs.YtmgengplfebmjaaDoor
