/- Pieces of lists; what slices.Equal, coreOf and the document's Cored answer. -/
import Derived.Test.YtakmfhnigpmngaaFg
namespace Go.Proofs.Ytakmfhnigpmngaa
open Go Go.RowKit

theorem Sl.empty {w : World} (a : Option Addr) (cap : Nat) (h0 : 0 < w.heap.size) (hc : cap ≤ maxLen) : Sl w (.slice a 0 cap) [] := ⟨a, cap, 0, 0, rfl, ⟨by simp, by simp⟩, h0, by simp, hc⟩
/-- A piece of a list. -/
theorem Reads.piece {w : World} {a : Option Addr} {pb po : Nat} {zs : List Int} (h : Reads w a pb po zs) {i m : Nat} (hm : i + m ≤ zs.length) {b : Option Addr} (hb : 0 < m → b = some ⟨pb, po + i, none⟩) : Reads w b pb (po + i) ((zs.drop i).take m) := by
  have hl : ((zs.drop i).take m).length = m := by simp; omega
  refine ⟨fun h1 => hb (by omega), fun j hj => ?_⟩
  rw [hl] at hj
  rw [show po + i + j = po + (i + j) by omega, h.cell (i + j) (by omega), List.getElem?_take_of_lt hj, List.getElem?_drop]
theorem Reads.sl {w : World} {a : Option Addr} {pb po cap n : Nat} {zs : List Int} (h : Reads w a pb po zs) (hn : n = zs.length) (hp : pb < w.heap.size) (hc : n ≤ cap) (hm : cap ≤ maxLen) : Sl w (.slice a n cap) zs := by
  subst hn
  exact ⟨a, cap, pb, po, rfl, h, hp, hc, hm⟩
theorem Sl.drewN {w : World} {v : Value} {zs : List Int} (h : Sl w v zs) (j : Nat) : Sl (w.drewN j) v zs := by
  obtain ⟨a, cap, pb, po, hv, hr, hp, h1, h2⟩ := h
  exact ⟨a, cap, pb, po, hv, hr.of_eq rfl, hp, h1, h2⟩

set_option maxRecDepth 100000 in
set_option maxHeartbeats 2000000 in
theorem equal_q (u v : Value) (xs ys : List Int) (w : World) (hu : Sl w u xs) (hv : Sl w v ys) :
    Calls Try.prog 39 #[u, v] w fun e w' => e = .returned (.bool (decide (xs = ys))) ∧ ∃ m, w' = w.drewN m := by
  obtain ⟨a, cap, pb, po, rfl, hr, hp, hc1, hm1⟩ := hu
  obtain ⟨b, cap', qb, qo, rfl, hs, hq, hc2, hm2⟩ := hv
  unfold maxLen at hm1 hm2
  by_cases hl : xs.length = ys.length
  · go_enter Try.func39, Try.ntmps39
    have hbe : ((xs.length : Int) != (ys.length : Int)) = false := by simp [hl]
    have HL := hide hl
    have hle1 : xs.length ≤ ys.length := by omega
    have hle2 : ys.length ≤ xs.length := by omega
    clear hl
    go_wp2
    go_loopw [13] (fun i wr => ∃ k j : Nat, k ≤ xs.length ∧ i = .int .i64 k ∧ wr = w.drewN j ∧ ∀ t, t < k → xs[t]?.getD 0 = ys[t]?.getD 0) (fun i _ => xs.length - (intOf i).toNat)
    case atStart => exact ⟨0, 0, Nat.zero_le _, rfl, rfl, fun t ht => by omega⟩
    case round =>
      obtain ⟨k, j, hk, rfl, rfl, hsame⟩ := hrel
      have HS := hide hsame
      clear hsame
      by_cases hlt : k < xs.length
      · have hx := hr.cell k hlt
        have hy := hs.cell k (by omega)
        obtain rfl := hr.at_ (by omega)
        obtain rfl := hs.at_ (by omega)
        generalize hxe : xs[k]?.getD 0 = x at hx
        generalize hye : ys[k]?.getD 0 = y at hy
        have HX := hide hxe
        have HY := hide hye
        have hki : (k : Int) < (xs.length : Int) := by omega
        have hkj : (k : Int) < (ys.length : Int) := by omega
        clear hxe hye
        by_cases hxy : x = y
        · have hb : (x != y) = false := by simp [hxy]
          have HE := hide hxy
          clear hxy
          go_wp2
          go_quiet (fail)
          go_wp2
          go_roundw
          case rel => exact ⟨k + 1, _, by omega, by go_num, rfl, fun t ht => by
            by_cases e : t = k
            · rw [e, HX.out, HY.out]; exact HE.out
            · exact HS.out t (by omega)⟩
          case measure => simp [intOf]; omega
        · have hb : (x != y) = true := by simp [hxy]
          have hd : decide (xs = ys) = false := by
            rw [decide_eq_false_iff_not]
            intro e
            apply hxy
            rw [← HX.out, ← HY.out, e]
          have HD := hide hd
          clear hxy hd
          go_wp2
          go_quiet (fail)
          go_wp2
          go_ret
          exact ⟨by rw [HD.out]; rfl, _, World.drewN_drewN _ _ _⟩
      · have hd : decide (xs = ys) = true := by
          rw [decide_eq_true_eq]
          exact ext_getD HL.out (fun t ht => HS.out t (by omega))
        have HD := hide hd
        clear hd
        go_wp2
        go_ret
        exact ⟨by rw [HD.out]; rfl, _, rfl⟩
  · have hbe : ((xs.length : Int) != (ys.length : Int)) = true := by simp; omega
    have hd : decide (xs = ys) = false := by
      rw [decide_eq_false_iff_not]
      intro e
      exact hl (by rw [e])
    have HD := hide hd
    clear hd hl
    go_enter Try.func39, Try.ntmps39
    go_wp2
    go_ret
    exact ⟨by rw [HD.out]; rfl, 0, rfl⟩

/-- Up to n the word's ends are opposite. -/
structure CI (zs : List Int) (n : Nat) : Prop where
  opp : ∀ t, t < n → zs[t]?.getD 0 = -(zs[zs.length - 1 - t]?.getD 0)
  le : 2 * n ≤ zs.length
theorem CI.start (zs : List Int) : CI zs 0 := ⟨fun t ht => by omega, by omega⟩
theorem CI.next {zs : List Int} (hlt : Lt zs) {n : Nat} (h : CI zs n) (h1 : n < zs.length - n) (he : zs[n]?.getD 0 = -(zs[zs.length - 1 - n]?.getD 0)) : CI zs (n + 1) := by
  refine ⟨fun t ht => ?_, ?_⟩
  · by_cases e : t = n
    · rw [e]; exact he
    · exact h.opp t (by omega)
  · have := h.le
    false_or_by_contra
    have e : zs.length - 1 - n = n := by omega
    rw [e] at he
    obtain ⟨hb, _, _⟩ := bad_parts (hlt.at (show n < zs.length by omega))
    have : zs[n]?.getD 0 = 0 := by omega
    rw [this] at hb
    simp at hb
theorem wi_get {u : List Int} {j : Nat} (hj : j < u.length) : (wi u)[j]?.getD 0 = -(u[u.length - 1 - j]?.getD 0) := by
  unfold wi
  rw [List.getElem?_reverse (by simpa using hj), List.length_map, List.getElem?_map, List.getElem?_eq_getElem (show u.length - 1 - j < u.length by omega)]
  rfl
theorem CI.eq {zs : List Int} {n : Nat} (h : CI zs n) : zs = zs.take n ++ ((zs.drop n).take (zs.length - 2 * n) ++ wi (zs.take n)) := by
  have hle := h.le
  have l1 : (zs.take n).length = n := by simp; omega
  have l2 : ((zs.drop n).take (zs.length - 2 * n)).length = zs.length - 2 * n := by simp; omega
  refine ext_getD (by simp [wi_length]; omega) (fun j hj => ?_)
  by_cases h1 : j < n
  · rw [List.getElem?_append_left (by omega), List.getElem?_take_of_lt h1]
  · rw [List.getElem?_append_right (by omega), l1]
    by_cases h2 : j < zs.length - n
    · rw [List.getElem?_append_left (by omega), List.getElem?_take_of_lt (by omega), List.getElem?_drop, show n + (j - n) = j by omega]
    · rw [List.getElem?_append_right (by omega), l2, wi_get (by omega), l1, List.getElem?_take_of_lt (by omega)]
      have := h.opp (n - 1 - (j - n - (zs.length - 2 * n))) (by omega)
      rw [show zs.length - 1 - (n - 1 - (j - n - (zs.length - 2 * n))) = j by omega] at this
      rw [this]; omega
theorem CI.core {zs : List Int} {n : Nat} (h : CI zs n) (hd : zs.length - n ≤ n ∨ zs[n]?.getD 0 ≠ -(zs[zs.length - 1 - n]?.getD 0)) : IsCore zs ((zs.drop n).take (zs.length - 2 * n)) (zs.take n) := by
  refine ⟨h.eq, ?_⟩
  have hle := h.le
  intro x y h1 h2
  have l2 : ((zs.drop n).take (zs.length - 2 * n)).length = zs.length - 2 * n := by simp; omega
  have l3 := (List.getElem?_eq_some_iff.1 h1).1
  rw [l2] at l3 h2
  rcases hd with hd | hd
  · omega
  · rw [List.getElem?_take_of_lt l3, List.getElem?_drop] at h1
    rw [List.getElem?_take_of_lt (by omega), List.getElem?_drop, show n + (zs.length - 2 * n - 1) = zs.length - 1 - n by omega] at h2
    rw [Nat.add_zero] at h1
    rw [h1, h2] at hd
    exact hd

set_option maxRecDepth 100000 in
set_option maxHeartbeats 2000000 in
theorem coreOf_ok (v : Value) (zs : List Int) (w : World) (hv : Sl w v zs) (hlt : Lt zs) (hsm : zs.length ≤ 1000000) :
    Calls Try.prog 40 #[v] w fun e w' => ∃ u1 u2 c a, e = .returned (.tuple #[u1, u2]) ∧ Sl w' u1 c ∧ Sl w' u2 a ∧ IsCore zs c a ∧ Below w.heap.size w w' := by
  have h0w := hv.pos
  obtain ⟨a, cap, pb, po, rfl, hr, hp, hcap, hcm⟩ := id hv
  have hcm' := hcm
  unfold maxLen at hcm
  rcases Nat.eq_zero_or_pos zs.length with hz | hpos
  · have hz : zs = [] := List.length_eq_zero_iff.1 hz
    subst hz
    have HN := hide (show IsCore [] [] [] from ⟨rfl, Cyc.nil⟩)
    have HS := hide (fun (b : Option Addr) (c : Nat) (hc : c ≤ cap) => (Sl.empty b c h0w (Nat.le_trans hc hcm') : Sl w (.slice b 0 c) []))
    clear hr hv
    cases a with
    | none =>
      go_enter Try.func40, Try.ntmps40
      go_wp2
      go_loopw [4, 5] (fun n e wr => ∃ j : Nat, n = .int .i64 0 ∧ e = .int .i64 0 ∧ wr = w.drewN j) (fun _ _ _ => 0)
      case atStart => exact ⟨0, rfl, rfl, rfl⟩
      case round =>
        obtain ⟨j, rfl, rfl, rfl⟩ := hrel
        go_wp2
        go_quiet (fail)
        go_wp2
        go_quiet (fail)
        go_wp2
        go_ret2
        exact ⟨_, _, [], [], rfl, (((HS.out _ _ (by omega)).drewN _).drewN _).drewN _, (((HS.out _ _ (by omega)).drewN _).drewN _).drewN _, HN.out, bdrewN (bdrewN (bdrewN (Below.refl _ w) _) _) _⟩
    | some x =>
      by_cases hc0 : cap = 0
      · subst hc0
        go_enter Try.func40, Try.ntmps40
        go_wp2
        go_loopw [4, 5] (fun n e wr => ∃ j : Nat, n = .int .i64 0 ∧ e = .int .i64 0 ∧ wr = w.drewN j) (fun _ _ _ => 0)
        case atStart => exact ⟨0, rfl, rfl, rfl⟩
        case round =>
          obtain ⟨j, rfl, rfl, rfl⟩ := hrel
          go_wp2
          go_quiet (fail)
          go_wp2
          go_quiet (fail)
          go_wp2
          go_ret2
          exact ⟨_, _, [], [], rfl, (((HS.out _ _ (by omega)).drewN _).drewN _).drewN _, (((HS.out _ _ (by omega)).drewN _).drewN _).drewN _, HN.out, bdrewN (bdrewN (bdrewN (Below.refl _ w) _) _) _⟩
      · go_enter Try.func40, Try.ntmps40
        go_wp2
        go_loopw [4, 5] (fun n e wr => ∃ j : Nat, n = .int .i64 0 ∧ e = .int .i64 0 ∧ wr = w.drewN j) (fun _ _ _ => 0)
        case atStart => exact ⟨0, rfl, rfl, rfl⟩
        case round =>
          obtain ⟨j, rfl, rfl, rfl⟩ := hrel
          go_wp2
          go_quiet (fail)
          go_wp2
          go_quiet (fail)
          go_wp2
          go_ret2
          exact ⟨_, _, [], [], rfl, (((HS.out _ _ (by omega)).drewN _).drewN _).drewN _, (((HS.out _ _ (by omega)).drewN _).drewN _).drewN _, HN.out, bdrewN (bdrewN (bdrewN (Below.refl _ w) _) _) _⟩
  · obtain rfl := hr.at_ hpos
    have HLT := hide hlt
    have HCI := hide (fun n (h : CI zs n) h1 he => h.next hlt h1 he)
    have hcell := hr.cell
    have HCELL := hide hcell
    have HRD := hide hr
    clear hlt hr hcell hv
    go_enter Try.func40, Try.ntmps40
    go_wp2
    go_loopw [4, 5] (fun i e wr => ∃ n j : Nat, i = .int .i64 n ∧ e = .int .i64 ((zs.length - n : Nat) : Int) ∧ CI zs n ∧ wr = w.drewN j) (fun i _ _ => zs.length - (intOf i).toNat)
    case atStart => exact ⟨0, 0, rfl, rfl, CI.start zs, rfl⟩
    case round =>
      obtain ⟨n, j, rfl, rfl, hci, rfl⟩ := hrel
      have hle := hci.le
      have HC := hide hci
      clear hci
      obtain ⟨e, he⟩ : ∃ e, e = zs.length - n := ⟨_, rfl⟩
      rw [← he]
      have hn63 : n ≤ 1000000 := by omega
      have he63 : e ≤ 1000000 := by omega
      by_cases hlt : n < e
      · have hx := HCELL.out n (by omega)
        have hy := HCELL.out (zs.length - 1 - n) (by omega)
        have hq1 : ((e : Int) - 1) = ((zs.length - 1 - n : Nat) : Int) := by omega
        have HCN := hide (HC.out.core (n := n))
        have HNX := hide (HCI.out n HC.out (by omega))
        obtain ⟨q, hq⟩ : ∃ q : Nat, q = zs.length - 1 - n := ⟨_, rfl⟩
        rw [← hq] at hq1 hy HCN HNX
        have hqe : (q : Int) < (zs.length : Int) := by omega
        have hq0 : q + 1 = e := by omega
        obtain ⟨x, hxe⟩ : ∃ x, zs[n]?.getD 0 = x := ⟨_, rfl⟩
        obtain ⟨y, hye⟩ : ∃ y, zs[q]?.getD 0 = y := ⟨_, rfl⟩
        have hyb := lt_neg (HLT.out.at (show q < zs.length by omega))
        rw [hxe] at hx HCN HNX
        rw [hye] at hy HCN HNX hyb
        obtain ⟨hy1, hy2⟩ := hyb
        have hni : (n : Int) < (e : Int) := by omega
        have hnl : (n : Int) < (zs.length : Int) := by omega
        have HE := hide he
        have HQ := hide hq
        have HQ0 := hide hq0
        clear hxe hye he hq hq0
        by_cases hxy : x = -y
        · have HC2 := hide (HNX.out hxy)
          have hxb : (x == -y) = true := by simpa using hxy
          have hE1 := hide (show ((e : Int) - 1) = ((zs.length - (n + 1) : Nat) : Int) by have := HE.out; omega)
          clear HNX HCN hxy
          go_wp2
          go_quiet (fail)
          go_wp2
          go_roundw
          case rel => exact ⟨n + 1, _, by go_num, by rw [← hE1.out]; go_num, HC2.out, rfl⟩
          case measure => simp [intOf]; omega
        · have HC2 := hide (HCN.out (.inr hxy))
          have hxb : (x == -y) = false := by simpa using hxy
          clear HNX HCN hxy
          have hcn : ¬ cap = n := by omega
          have hec : (e : Int) ≤ (cap : Int) := by omega
          have hnc : (n : Int) ≤ (cap : Int) := by omega
          have hne : (n : Int) ≤ (e : Int) := by omega
          have hsl1 := fun (W : World) (h : W.heap = w.heap) => ((HRD.out.of_eq (w' := W) (by rw [h])).piece (i := n) (m := zs.length - 2 * n) (by have := HE.out; omega) (fun _ => rfl)).sl (n := e - n) (cap := cap - n) (by simp; have := HE.out; omega) (by rw [h]; exact hp) (by omega) (by omega)
          have hsl2 := fun (W : World) (h : W.heap = w.heap) => ((HRD.out.of_eq (w' := W) (by rw [h])).piece (i := 0) (m := n) (b := some ⟨pb, po, none⟩) (by omega) (fun _ => rfl)).sl (n := n) (cap := cap) (by simp; have := HE.out; omega) (by rw [h]; exact hp) (by omega) hcm'
          rw [List.drop_zero] at hsl2
          have HS1 := hide hsl1
          have HS2 := hide hsl2
          clear hsl1 hsl2
          go_wp2
          go_quiet (fail)
          go_wp2
          go_quiet (fail)
          go_wp2
          go_ret2
          exact ⟨_, _, _, _, rfl, HS1.out _ rfl, HS2.out _ rfl, HC2.out, bdrewN (bdrewN (bdrewN (Below.refl _ w) _) _) _⟩
      · have HC2 := hide (HC.out.core (.inl (by omega)))
        have hcn : ¬ cap = n := by omega
        have hec : (e : Int) ≤ (cap : Int) := by omega
        have hnc : (n : Int) ≤ (cap : Int) := by omega
        have hne : (n : Int) ≤ (e : Int) := by omega
        have hnlt : ¬ ((n : Int) < (e : Int)) := by omega
        have hsl1 := fun (W : World) (h : W.heap = w.heap) => ((HRD.out.of_eq (w' := W) (by rw [h])).piece (i := n) (m := zs.length - 2 * n) (by omega) (fun _ => rfl)).sl (n := e - n) (cap := cap - n) (by simp; omega) (by rw [h]; exact hp) (by omega) (by omega)
        have hsl2 := fun (W : World) (h : W.heap = w.heap) => ((HRD.out.of_eq (w' := W) (by rw [h])).piece (i := 0) (m := n) (b := some ⟨pb, po, none⟩) (by omega) (fun _ => rfl)).sl (n := n) (cap := cap) (by simp; omega) (by rw [h]; exact hp) (by omega) hcm'
        rw [List.drop_zero] at hsl2
        have HS1 := hide hsl1
        have HS2 := hide hsl2
        have HE := hide he
        clear hsl1 hsl2 he
        go_wp2
        go_quiet (fail)
        go_wp2
        go_quiet (fail)
        go_wp2
        go_ret2
        exact ⟨_, _, _, _, rfl, HS1.out _ rfl, HS2.out _ rfl, HC2.out, bdrewN (bdrewN (bdrewN (Below.refl _ w) _) _) _⟩

end Go.Proofs.Ytakmfhnigpmngaa
