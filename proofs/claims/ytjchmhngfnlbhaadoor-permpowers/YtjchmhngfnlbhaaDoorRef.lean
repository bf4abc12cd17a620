/- What the document's answers Ints, Has, F, PermFault, TwoFault and Stays are, at every list that can be read. -/
import Derived.Test.YtjchmhngfnlbhaaDoorBits
import Derived.Maps.AppendAt
import Derived.Deep.QuietTactic
import Derived.BigQuiet
namespace Go.Proofs.YtjchmhngfnlbhaaDoor
open Go Go.RowKit

/-- A slice of ints that reads as zs. -/
def Sl (w : World) (v : Value) (zs : List Int) : Prop := ∃ a cap pb po, v = .slice a zs.length cap ∧ Reads w a pb po zs ∧ pb < w.heap.size ∧ zs.length ≤ cap ∧ cap ≤ maxLen
theorem Sl.below {w w' : World} {v : Value} {zs : List Int} (h : Sl w v zs) (hb : Below w.heap.size w w') : Sl w' v zs := by
  obtain ⟨a, cap, pb, po, hv, hr, hp, h1, h2⟩ := h
  exact ⟨a, cap, pb, po, hv, hr.below hb hp, Nat.lt_of_lt_of_le hp hb.size, h1, h2⟩
theorem bdrewN {B : Nat} {a w : World} (h : Below B a w) (k : Nat) : Below B a (w.drewN k) := ⟨h.os, h.tape, h.output, h.size, h.block⟩
theorem bcat {B : Nat} {a b c : World} (h : Below B a b) (k : Below b.heap.size b c) (hB : B ≤ b.heap.size) : Below B a c := h.trans (k.mono hB)

set_option maxRecDepth 100000 in
set_option maxHeartbeats 1000000 in
theorem has_any (a : Option Addr) (cap pb po n : Nat) (xs : List Int) (x : Int) (w : World) (hn : n = xs.length) (hr : Reads w a pb po xs) (hl : xs.length ≤ maxLen) :
    Calls Tryd.prog 49 #[.slice a n cap, .int .i64 x] w fun e w' => e = .returned (.bool (decide (x ∈ xs))) ∧ w' = w := by
  subst hn
  unfold maxLen at hl
  go_enter Tryd.func49, Tryd.ntmps49
  go_wp2
  go_loop [5] (fun i => ∃ k : Nat, k ≤ xs.length ∧ i = .int .i64 k ∧ ∀ j, j < k → xs[j]?.getD 0 ≠ x) (fun i => xs.length - (intOf i).toNat)
  case atStart => exact ⟨0, Nat.zero_le _, rfl, fun j hj => by omega⟩
  case round =>
    obtain ⟨k, hk, rfl, hno⟩ := hrel
    have HN := hide hno
    clear hno
    by_cases hlt : k < xs.length
    · have hc := hr.cell k hlt
      obtain rfl := hr.at_ (by omega)
      generalize hye : xs[k]?.getD 0 = y at hc
      have HY := hide hye
      clear hye
      by_cases hyx : y = x
      · have hm : decide (x ∈ xs) = true := by
          rw [decide_eq_true_eq, List.mem_iff_getElem?]
          refine ⟨k, ?_⟩
          have := HY.out
          rw [List.getElem?_eq_getElem hlt] at this ⊢
          simp at this
          rw [this, hyx]
        have HM := hide hm
        have hb : (y == x) = true := by simp [hyx]
        have HE := hide hyx
        clear hm hyx
        go_wp2
        go_ret
        exact ⟨by rw [HM.out]; rfl, rfl⟩
      · have hb : (y == x) = false := by simp [hyx]
        have HE := hide hyx
        clear hyx
        go_wp2
        go_round
        case rel => exact ⟨k + 1, by omega, by go_num, fun j hj => by
          by_cases e : j = k
          · rw [e, HY.out]; exact HE.out
          · exact HN.out j (by omega)⟩
        case measure => simp [intOf]; omega
    · have hm : decide (x ∈ xs) = false := by
        rw [decide_eq_false_iff_not, List.mem_iff_getElem?]
        rintro ⟨j, hj⟩
        have hjl : j < xs.length := (List.getElem?_eq_some_iff.1 hj).1
        exact HN.out j (by omega) (by rw [hj]; rfl)
      have HM := hide hm
      clear hm
      go_wp2
      go_ret
      exact ⟨by rw [HM.out]; rfl, rfl⟩

theorem ext_getD {xs ys : List Int} (hl : xs.length = ys.length) (h : ∀ j, j < xs.length → xs[j]?.getD 0 = ys[j]?.getD 0) : xs = ys := by
  apply List.ext_getElem hl
  intro i h1 h2
  have := h i h1
  rw [List.getElem?_eq_getElem h1, List.getElem?_eq_getElem h2] at this
  simpa using this

set_option maxRecDepth 100000 in
set_option maxHeartbeats 1000000 in
theorem ints_any (u v : Value) (xs ys : List Int) (w : World) (hu : Sl w u xs) (hv : Sl w v ys) :
    Calls Tryd.prog 15 #[u, v] w fun e w' => e = .returned (.bool (decide (xs = ys))) ∧ Below w.heap.size w w' := by
  obtain ⟨a, cap, pb, po, rfl, hr, hp, hc1, hm1⟩ := hu
  obtain ⟨b, cap', qb, qo, rfl, hs, hq, hc2, hm2⟩ := hv
  unfold maxLen at hm1 hm2
  by_cases hl : xs.length = ys.length
  · go_enter Tryd.func15, Tryd.ntmps15
    have hbe : ((xs.length : Int) != (ys.length : Int)) = false := by simp [hl]
    have HL := hide hl
    have hle1 : xs.length ≤ ys.length := by omega
    have hle2 : ys.length ≤ xs.length := by omega
    clear hl
    go_wp2
    go_loopw [5] (fun i wr => ∃ k j : Nat, k ≤ xs.length ∧ i = .int .i64 k ∧ wr = w.drewN j ∧ ∀ t, t < k → xs[t]?.getD 0 = ys[t]?.getD 0) (fun i _ => xs.length - (intOf i).toNat)
    case atStart => exact ⟨0, 0, Nat.zero_le _, rfl, rfl, fun t ht => by omega⟩
    case round =>
      obtain ⟨k, j, hk, rfl, rfl, hsame⟩ := hrel
      have HS := hide hsame
      clear hsame
      by_cases hlt : k < xs.length
      · have hx := hr.cell k hlt
        have hy := hs.cell k (by omega)
        obtain rfl := hr.at_ (by omega)
        obtain rfl := hs.at_ (by omega)
        generalize hxe : xs[k]?.getD 0 = x at hx
        generalize hye : ys[k]?.getD 0 = y at hy
        have HX := hide hxe
        have HY := hide hye
        have hki : (k : Int) < (xs.length : Int) := by omega
        have hkj : (k : Int) < (ys.length : Int) := by omega
        clear hxe hye
        by_cases hxy : x = y
        · have hb : (x != y) = false := by simp [hxy]
          have HE := hide hxy
          clear hxy
          go_wp2
          go_quiet (fail)
          go_wp2
          go_roundw
          case rel => exact ⟨k + 1, _, by omega, by go_num, rfl, fun t ht => by
            by_cases e : t = k
            · rw [e, HX.out, HY.out]; exact HE.out
            · exact HS.out t (by omega)⟩
          case measure => simp [intOf]; omega
        · have hb : (x != y) = true := by simp [hxy]
          have hd : decide (xs = ys) = false := by
            rw [decide_eq_false_iff_not]
            intro e
            apply hxy
            rw [← HX.out, ← HY.out, e]
          have HD := hide hd
          clear hxy hd
          go_wp2
          go_quiet (fail)
          go_wp2
          go_ret
          exact ⟨by rw [HD.out]; rfl, bdrewN (bdrewN (Below.refl _ w) _) _⟩
      · have hd : decide (xs = ys) = true := by
          rw [decide_eq_true_eq]
          exact ext_getD HL.out (fun t ht => HS.out t (by omega))
        have HD := hide hd
        clear hd
        go_wp2
        go_ret
        exact ⟨by rw [HD.out]; rfl, bdrewN (Below.refl _ w) _⟩
  · have hbe : ((xs.length : Int) != (ys.length : Int)) = true := by simp; omega
    have hd : decide (xs = ys) = false := by
      rw [decide_eq_false_iff_not]
      intro e
      exact hl (by rw [e])
    have HD := hide hd
    clear hd hl
    go_enter Tryd.func15, Tryd.ntmps15
    go_wp2
    go_ret
    exact ⟨by rw [HD.out]; rfl, Below.refl _ w⟩

set_option maxRecDepth 100000 in
set_option maxHeartbeats 1000000 in
theorem f_any (c i : Int) (w : World) : Calls Tryd.prog 27 #[.int .i64 c, .int .i64 i] w fun e w' => e = .returned (.agg #[.int .i64 c, .int .i64 i]) ∧ Below w.heap.size w w' := by
  go_enter Tryd.func27, Tryd.ntmps27
  go_wp2
  exact bodyPost_ret (v := .agg #[.int .i64 c, .int .i64 i]) (by simp [results, Tryd.results27, go_sem]) rfl ⟨rfl, (Below.refl _ _).alloc (Nat.le_refl _) _⟩

set_option maxRecDepth 100000 in
set_option maxHeartbeats 2000000 in
theorem permFault_any (v : Value) (zs : List Int) (w : World) (hv : Sl w v zs) :
    Calls Tryd.prog 13 #[v] w fun e w' => e = .returned (.agg #[.int .i64 (fault zs).1, .int .i64 (fault zs).2]) ∧ Below w.heap.size w w' := by
  obtain ⟨a, cap, pb, po, rfl, hr, hp, hcap, hcm⟩ := hv
  unfold maxLen at hcm
  have hB0 : Below w.heap.size w (w.alloc (.cells #[.int .i64 0, .int .i64 0] 26)) := (Below.refl _ w).alloc (Nat.le_refl _) _
  by_cases hbig : 1000 < zs.length
  · have hb1 : (1000 : Int) < (zs.length : Int) := by omega
    have hf : fault zs = (2, 0) := by unfold fault; rw [if_pos hbig]
    go_enter Tryd.func13, Tryd.ntmps13
    go_wp2_with fail
    refine (f_any 2 0 _).mono ?_
    rintro e w1 ⟨rfl, hl1⟩
    have hR : Blk w1 w.heap.size 26 [.int .i64 0, .int .i64 0] := (hl1.block w.heap.size (by simp)).trans (World.alloc_heap_new w _)
    have hc0 : w1.cell? ⟨w.heap.size, 0, none⟩ = some (.int .i64 0) := hR.cell 0
    have hc1 : w1.cell? ⟨w.heap.size, 1, none⟩ = some (.int .i64 0) := hR.cell 1
    have hf0 := hR.frozen 0
    have hf1 := hR.frozen 1
    go_wp2
    refine bodyPost_ret (v := .agg #[.int .i64 2, .int .i64 0]) (by simp [results, Tryd.results13, go_sem, hc0, hc1]) rfl ⟨by rw [hf], ?_⟩
    exact ((hB0.trans (hl1.mono (by simp))).setCell (p := ⟨w.heap.size, 0, none⟩) (Nat.le_refl _) _).setCell (p := ⟨w.heap.size, 1, none⟩) (Nat.le_refl _) _
  · have hb1 : (zs.length : Int) ≤ 1000 := by omega
    have hf : fault zs = pf zs zs.length 0 := by unfold fault; rw [if_neg hbig]
    have hR0 : Blk (w.alloc (.cells #[.int .i64 0, .int .i64 0] 26)) w.heap.size 26 [.int .i64 0, .int .i64 0] := World.alloc_heap_new w _
    go_enter Tryd.func13, Tryd.ntmps13
    go_wp2_with fail
    go_loopw [3] (fun i wr => ∃ k : Nat, k ≤ zs.length ∧ i = .int .i64 k ∧ Blk wr w.heap.size 26 [.int .i64 0, .int .i64 0] ∧ Below w.heap.size w wr ∧ pf zs (zs.length - k) k = pf zs zs.length 0)
      (fun i _ => zs.length - (intOf i).toNat)
    case atStart => exact ⟨0, Nat.zero_le _, rfl, hR0, hB0, rfl⟩
    case round =>
      obtain ⟨k, hk, rfl, hR1, hB1, hpf⟩ := hrel
      have HP := hide hpf
      have HF := hide hf
      clear hpf hf hR0 hB0
      have hc0 : wr.cell? ⟨w.heap.size, 0, none⟩ = some (.int .i64 0) := hR1.cell 0
      have hc1 : wr.cell? ⟨w.heap.size, 1, none⟩ = some (.int .i64 0) := hR1.cell 1
      have hf0 := hR1.frozen 0
      have hf1 := hR1.frozen 1
      by_cases hlt : k < zs.length
      · obtain rfl := hr.at_ (by omega)
        have hrr := hr.below hB1 hp
        have hx := hrr.cell k hlt
        generalize hxe : zs[k]?.getD 0 = x at hx
        have HX := hide hxe
        clear hxe
        have HN : Hid (zs.length - k = (zs.length - (k + 1)) + 1) := by unfold Hid; omega
        have hfin : ∀ (c : Int) (w1 : World), Below wr.heap.size wr w1 → Blk w1 w.heap.size 26 [.int .i64 0, .int .i64 0] := fun c w1 h => hR1.of_eq (h.block _ hR1.lt)
        have HFI := hide hfin
        clear hfin
        by_cases hrange : x < 0 ∨ (zs.length : Int) ≤ x
        · have hfl : fault zs = (3, (k : Int)) := by
            rw [HF.out, ← HP.out, HN.out, pf_range (by rw [HX.out]; exact hrange)]
          have HFL := hide hfl
          clear hfl
          rcases hrange with hneg | hbigx
          all_goals
            go_wp2_with fail
            refine (f_any 3 (k : Int) _).mono ?_
            rintro e w1 ⟨rfl, hl1⟩
            have hR := HFI.out 0 w1 hl1
            have hd0 : w1.cell? ⟨w.heap.size, 0, none⟩ = some (.int .i64 0) := hR.cell 0
            have hd1 : w1.cell? ⟨w.heap.size, 1, none⟩ = some (.int .i64 0) := hR.cell 1
            have hg0 := hR.frozen 0
            have hg1 := hR.frozen 1
            go_wp2
            refine bodyPost_ret (v := .agg #[.int .i64 3, .int .i64 k]) (by simp [results, Tryd.results13, go_sem, hd0, hd1]) rfl ⟨by rw [HFL.out], ?_⟩
            exact ((bcat hB1 hl1 hB1.size).setCell (p := ⟨w.heap.size, 0, none⟩) (Nat.le_refl _) _).setCell (p := ⟨w.heap.size, 1, none⟩) (Nat.le_refl _) _
        · have h1 : 0 ≤ x := by omega
          have h2 : x < (zs.length : Int) := by omega
          have HR := hide hrange
          clear hrange
          have hrt : Reads wr (some ⟨pb, po, none⟩) pb po (zs.take k) := ⟨fun _ => rfl, fun j hj => by
            rw [List.length_take] at hj
            rw [hrr.cell j (by omega), List.getElem?_take, if_pos (by omega)]⟩
          have htl : k = (zs.take k).length := by rw [List.length_take]; omega
          have HTL := hide htl
          have h52 : ∀ W, W.heap = wr.heap → Calls Tryd.prog 49 #[.slice (some ⟨pb, po, none⟩) k cap, .int .i64 x] W fun e w' => e = .returned (.bool (decide (x ∈ zs.take k))) ∧ w' = W := fun W hW =>
            has_any _ cap pb po k (zs.take k) x W HTL.out (hrt.of_eq (by rw [hW])) (by rw [← HTL.out]; unfold maxLen; omega)
          generalize hbb : decide (x ∈ zs.take k) = b at h52
          have H52 := hide h52
          clear htl h52 hrt
          have hki : (k : Int) < (zs.length : Int) := by omega
          cases b with
          | true =>
            have h3 : x ∈ zs.take k := of_decide_eq_true hbb
            have hfl : fault zs = (10, (k : Int)) := by
              rw [HF.out, ← HP.out, HN.out, pf_twice (by rw [HX.out]; exact HR.out) (by rw [HX.out]; exact h3)]
            have HFL := hide hfl
            clear hfl h3 hbb
            go_wp2
            go_quiet ((go_at_call 49; exact Calls.quiet_of_same (H52.out _ rfl)))
            go_wp2_with fail
            refine (f_any 10 (k : Int) _).mono ?_
            rintro e w1 ⟨rfl, hl1⟩
            have hR : Blk w1 w.heap.size 26 [.int .i64 0, .int .i64 0] := hR1.of_eq (hl1.block _ hR1.lt)
            have hd0 : w1.cell? ⟨w.heap.size, 0, none⟩ = some (.int .i64 0) := hR.cell 0
            have hd1 : w1.cell? ⟨w.heap.size, 1, none⟩ = some (.int .i64 0) := hR.cell 1
            have hg0 := hR.frozen 0
            have hg1 := hR.frozen 1
            go_wp2
            refine bodyPost_ret (v := .agg #[.int .i64 10, .int .i64 k]) (by simp [results, Tryd.results13, go_sem, hd0, hd1]) rfl ⟨by rw [HFL.out], ?_⟩
            exact ((bcat (bdrewN hB1 _) hl1 hB1.size).setCell (p := ⟨w.heap.size, 0, none⟩) (Nat.le_refl _) _).setCell (p := ⟨w.heap.size, 1, none⟩) (Nat.le_refl _) _
          | false =>
            have h3 : ¬ x ∈ zs.take k := of_decide_eq_false hbb
            have hon : pf zs (zs.length - (k + 1)) (k + 1) = pf zs zs.length 0 := by
              rw [← HP.out, HN.out, pf_on (by rw [HX.out]; exact HR.out) (by rw [HX.out]; exact h3)]
            have HON := hide hon
            clear hon h3 hbb
            go_wp2
            go_quiet ((go_at_call 49; exact Calls.quiet_of_same (H52.out _ rfl)))
            go_wp2
            go_roundw
            case rel => exact ⟨k + 1, by omega, by go_num, hR1, bdrewN hB1 _, HON.out⟩
            case measure => simp [intOf]; omega
      · have hfl : fault zs = (0, 0) := by
          rw [HF.out, ← HP.out, show zs.length - k = 0 by omega]; rfl
        have HFL := hide hfl
        clear hfl
        go_wp2
        refine bodyPost_ret (v := .agg #[.int .i64 0, .int .i64 0]) (by simp [results, Tryd.results13, go_sem, hc0, hc1]) rfl ⟨by rw [HFL.out], ?_⟩
        exact (hB1.setCell (p := ⟨w.heap.size, 0, none⟩) (Nat.le_refl _) _).setCell (p := ⟨w.heap.size, 1, none⟩) (Nat.le_refl _) _
end Go.Proofs.YtjchmhngfnlbhaaDoor
