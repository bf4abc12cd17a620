/- What the document's Less and Lists, and the law's question for no group, answer. -/
import Derived.Test.YtgphcfmiamiojaaSty
namespace Go.Proofs.Ytgphcfmiamiojaa
open Go Go.RowKit
open Pm

set_option maxRecDepth 100000 in
set_option maxHeartbeats 2000000 in
theorem less_ok (u v : Value) (xs ys : List Int) (w : World) (hu : Sl w u xs) (hv : Sl w v ys) (hl : xs.length = ys.length) :
    Calls Try.prog 26 #[u, v] w fun e w' => e = .returned (.bool (decide (cmpL xs ys < 0))) ∧ Below w.heap.size w w' := by
  obtain ⟨a, cap, pb, po, rfl, hr, hp, hc1, hm1⟩ := hu
  obtain ⟨b, cap', qb, qo, rfl, hs, hq, hc2, hm2⟩ := hv
  unfold maxLen at hm1 hm2
  have HL := hide hl
  have hle1 : xs.length ≤ ys.length := by omega
  have hle2 : ys.length ≤ xs.length := by omega
  clear hl
  go_enter Try.func26, Try.ntmps26
  go_wp2
  go_loopw [5] (fun i wr => ∃ k j : Nat, k ≤ xs.length ∧ i = .int .i64 k ∧ wr = w.drewN j ∧ cmpL xs ys = cmpL (xs.drop k) (ys.drop k)) (fun i _ => xs.length - (intOf i).toNat)
  case atStart => exact ⟨0, 0, Nat.zero_le _, rfl, rfl, by simp⟩
  case round =>
    obtain ⟨k, j, hk, rfl, rfl, hsame⟩ := hrel
    have HS := hide hsame
    clear hsame
    by_cases hlt : k < xs.length
    · have hlu : k < ys.length := by omega
      have hx := hr.cell k hlt
      have hy := hs.cell k hlu
      have HE := hide (cmpL_step hlt hlu)
      rw [List.getElem?_eq_getElem hlt, Option.getD_some] at hx
      rw [List.getElem?_eq_getElem hlu, Option.getD_some] at hy
      obtain rfl := hr.at_ (by omega)
      obtain rfl := hs.at_ (by omega)
      generalize xs[k] = x at *
      generalize ys[k] = y at *
      have hki : (k : Int) < (xs.length : Int) := by omega
      have hkj : (k : Int) < (ys.length : Int) := by omega
      by_cases hxy : x = y
      · have hb : (x != y) = false := by simp [hxy]
        have HN := hide (show cmpL xs ys = cmpL (xs.drop (k + 1)) (ys.drop (k + 1)) by
          rw [HS.out, HE.out, if_neg (by rw [Decidable.not_not]; exact cmpI_zero.2 hxy)])
        clear hxy
        go_wp2
        go_quiet (fail)
        go_wp2
        go_roundw
        case rel => exact ⟨k + 1, _, by omega, by go_num, rfl, HN.out⟩
        case measure => simp [intOf]; omega
      · have hb : (x != y) = true := by simp [hxy]
        have HD := hide (show decide (cmpL xs ys < 0) = decide (x < y) by
          rw [HS.out, HE.out, if_pos (fun h => hxy (cmpI_zero.1 h))]
          rw [Bool.eq_iff_iff, decide_eq_true_eq, decide_eq_true_eq]
          exact cmpI_lt)
        clear hxy
        go_wp2
        go_quiet (fail)
        go_wp2
        go_quiet (fail)
        go_wp2
        go_ret
        exact ⟨by rw [HD.out]; rfl, bdrewN (bdrewN (bdrewN (Below.refl _ w) _) _) _⟩
    · have HD := hide (show decide (cmpL xs ys < 0) = false by
        rw [HS.out, cmpL_end (by omega) (by omega)]; rfl)
      go_wp2
      go_ret
      exact ⟨by rw [HD.out]; rfl, bdrewN (Below.refl _ w) _⟩

set_option maxRecDepth 100000 in
set_option maxHeartbeats 8000000 in
theorem noGroup_none (w : World) : Calls Try.prog 11 #[.agg #[.int .i64 0, .slice none 0 0]] w fun r w' => r = .returned (.bool true) ∧ Below w.heap.size w w' := by
  have hB0 : Below w.heap.size w (w.alloc (.cells #[.int .i64 0, .slice none 0 0] 27)) := balloc w _
  have N0 : Blk (w.alloc (.cells #[.int .i64 0, .slice none 0 0] 27)) w.heap.size 27 [.int .i64 0, .slice none 0 0] := blk0 _ _
  obtain ⟨c0, c1, _, _⟩ := N0.two
  go_enter Try.func11, Try.ntmps11
  go_wp2
  go_ret
  exact ⟨rfl, hB0⟩


set_option maxRecDepth 100000 in
set_option maxHeartbeats 4000000 in
theorem lists_any (u v : Value) (ls ms : List (List Int)) (w : World) (hu : SlL w u ls) (hv : SlL w v ms) :
    Calls Try.prog 10 #[u, v] w fun e w' => e = .returned (.bool (decide (ls = ms))) ∧ Below w.heap.size w w' := by
  obtain ⟨a, cap, pb, po, rfl, ha0, hac, hap, hc1, hm1⟩ := hu
  obtain ⟨b, cap', qb, qo, rfl, hb0, hbc, hbp, hc2, hm2⟩ := hv
  unfold maxLen at hm1 hm2
  by_cases hl : ls.length = ms.length
  · have hli : ((ls.length : Int) != (ms.length : Int)) = false := by simp [hl]
    have HL := hide hl
    have hle1 : ls.length ≤ ms.length := by omega
    have hle2 : ms.length ≤ ls.length := by omega
    have HA := hide (And.intro ha0 hac)
    have HB := hide (And.intro hb0 hbc)
    clear hl ha0 hac hb0 hbc
    go_enter Try.func10, Try.ntmps10
    go_wp2
    go_loopw [5] (fun i wr => ∃ k : Nat, k ≤ ls.length ∧ i = .int .i64 k ∧ (∀ j, j < k → ls[j]?.getD [] = ms[j]?.getD []) ∧ Below w.heap.size w wr) (fun i _ => ls.length - (intOf i).toNat)
    case atStart => exact ⟨0, Nat.zero_le _, rfl, fun j hj => by omega, Below.refl _ _⟩
    case round =>
      obtain ⟨k, hk, rfl, hsame, hB⟩ := hrel
      have HS := hide hsame
      clear hsame
      by_cases hlt : k < ls.length
      · obtain rfl := HA.out.1 (by omega)
        obtain rfl := HB.out.1 (by omega)
        obtain ⟨x, hxc, hxs⟩ := HA.out.2 k hlt
        obtain ⟨y, hyc, hys⟩ := HB.out.2 k (by omega)
        obtain ⟨p, hp⟩ : ∃ p, ls[k]?.getD [] = p := ⟨_, rfl⟩
        obtain ⟨q, hq⟩ : ∃ q, ms[k]?.getD [] = q := ⟨_, rfl⟩
        rw [hp] at hxs
        rw [hq] at hys
        have cx := below_cell hB hxc
        have cy := below_cell hB hyc
        have HIN := hide (fun (W : World) (h : Below wr.heap.size wr W) => ints_any x y p q W (hxs.below (bcat2 hB h)) (hys.below (bcat2 hB h)))
        have hki : (k : Int) < (ls.length : Int) := by omega
        have hkj : (k : Int) < (ms.length : Int) := by omega
        have HPQ := hide (And.intro hp hq)
        have HB9 := hide hB
        have hS : ∀ W, Below wr.heap.size wr W → (Below wr.heap.size wr W ∧ W.cell? ⟨pb, po + k, none⟩ = some x ∧ W.cell? ⟨qb, qo + k, none⟩ = some y) := fun W h => ⟨h, below_cell h cx, below_cell h cy⟩
        have hS0 := hS _ (bdrew (Below.refl _ wr))
        clear hxs hys hp hq hxc hyc hB
        by_cases hpq : p = q
        · rw [show decide (p = q) = true from decide_eq_true hpq] at HIN
          have HE := hide hpq
          clear hpq
          go_wp2_with fail
          clear cx cy
          go_region_held3 (fun W => Below wr.heap.size wr W ∧ W.cell? ⟨pb, po + k, none⟩ = some x ∧ W.cell? ⟨qb, qo + k, none⟩ = some y)
            (first | exact hS0 | assumption | exact hS _ (bcat2 (And.left ‹_›) hl1))
            (first | (go_at_call 13; refine (HIN.out _ (And.left ‹_›)).mono ?_; rintro e1 W1 ⟨rfl, hl1⟩))
          obtain ⟨hB1, _⟩ := ‹Below wr.heap.size wr W1 ∧ _›
          clear hS hS0 hl1
          go_wp2
          go_roundw
          case rel => exact ⟨k + 1, by omega, by go_num, fun j hj => by
            by_cases e : j = k
            · rw [e, HPQ.out.1, HPQ.out.2]; exact HE.out
            · exact HS.out j (by omega), bcat2 HB9.out hB1⟩
          case measure => simp [intOf]; omega
        · rw [show decide (p = q) = false from decide_eq_false hpq] at HIN
          have HD := hide (show decide (ls = ms) = false from decide_eq_false (fun e => hpq (by rw [← HPQ.out.1, ← HPQ.out.2, e])))
          clear hpq
          go_wp2_with fail
          clear cx cy
          go_region_held3 (fun W => Below wr.heap.size wr W ∧ W.cell? ⟨pb, po + k, none⟩ = some x ∧ W.cell? ⟨qb, qo + k, none⟩ = some y)
            (first | exact hS0 | assumption | exact hS _ (bcat2 (And.left ‹_›) hl1))
            (first | (go_at_call 13; refine (HIN.out _ (And.left ‹_›)).mono ?_; rintro e1 W1 ⟨rfl, hl1⟩))
          obtain ⟨hB1, _⟩ := ‹Below wr.heap.size wr W1 ∧ _›
          clear hS hS0 hl1
          go_wp2
          go_ret
          exact ⟨retB HD.out.symm, bcat2 HB9.out hB1⟩
      · have hkk : k = ls.length := by omega
        have HD := hide (show decide (ls = ms) = true from decide_eq_true (List.ext_getElem HL.out fun i h1 h2 => by
          have := HS.out i (by omega)
          rw [List.getElem?_eq_getElem h1, List.getElem?_eq_getElem h2] at this
          simpa using this))
        go_wp2
        go_ret
        exact ⟨retB HD.out.symm, hB⟩
  · have hli : ((ls.length : Int) != (ms.length : Int)) = true := by simp; omega
    have HD := hide (show decide (ls = ms) = false from decide_eq_false (fun e => hl (by rw [e])))
    clear hl ha0 hac hb0 hbc
    go_enter Try.func10, Try.ntmps10
    go_wp2
    go_ret
    exact ⟨retB HD.out.symm, Below.refl _ _⟩
end Go.Proofs.Ytgphcfmiamiojaa
