/- The statements' big numbers: how they lie; give, SetInt64, NewInt, twin, small. -/
import Derived.Test.YtjchmhngfnlbhaaDoorBg1
import Derived.Laws.AppendOwnNone
namespace Go.Proofs.YtjchmhngfnlbhaaDoor
open Go Go.RowKit

theorem WSl.of_own {W : World} {base : Nat} {v : Value} {ws : List Nat} (h : W.ownsRow base 113 1 v ws.length (wds ws)) : WSl W v ws := by
  rcases h.2 with ⟨rfl, h0⟩ | ⟨g, cap, cur, rfl, _, hh, h1, h2, _⟩
  · have := List.length_eq_zero_iff.1 h0
    subst this
    exact WSl.nil W
  · refine ⟨_, g, cap, rfl, h1, h2, fun _ => ⟨rfl, _, _, hh⟩, fun j hj => ?_⟩
    have := h.cells (g := g) rfl j (.int .u32 (ws[j] : Nat)) (by simp [wds, List.getElem?_eq_getElem hj])
    rw [show (⟨g, 0, none⟩ : Addr).add j = ⟨g, j, none⟩ by unfold Addr.add; split <;> simp_all] at this
    rw [this, List.getElem?_eq_getElem hj]; rfl
/-- A big number in a block: its sign, its words; at most so many words. -/
structure BigZ (W : World) (b : Nat) (z : Int) (m : Nat) : Prop where
  ex : ∃ v ws, Blk W b 57 [.bool (decide (z < 0)), v] ∧ WSl W v ws ∧ Can ws ∧ wv ws = z.natAbs ∧ ws.length ≤ m
theorem BigZ.lt {W : World} {b : Nat} {z : Int} {m : Nat} (h : BigZ W b z m) : b < W.heap.size := by
  obtain ⟨v, ws, h1, _⟩ := h
  exact h1.lt
theorem BigZ.kept {W W' : World} {b : Nat} {z : Int} {m : Nat} (h : BigZ W b z m) (hb : W'.heap[b]? = W.heap[b]?) (hk : ∀ (g : Nat) (c : Array Value) (fz : Nat × Nat), W.heap[g]? = some (Obj.cells c 113 fz) → W'.heap[g]? = W.heap[g]?) : BigZ W' b z m := by
  obtain ⟨v, ws, h1, h2, h3⟩ := h
  exact ⟨v, ws, h1.of_eq hb, h2.kept hk, h3⟩
theorem BigZ.below {W W' : World} {b : Nat} {z : Int} {m : Nat} (h : BigZ W b z m) (hb : Below W.heap.size W W') : BigZ W' b z m :=
  h.kept (hb.block _ h.lt) fun g _ _ hg => hb.block g (Array.getElem?_eq_some_iff.1 hg).1
/-- Another number's block was written. -/
theorem BigZ.other {W W' : World} {b c : Nat} {z : Int} {m : Nat} {x y : Value} (h : BigZ W b z m) (hc : Blk W c 57 [x, y]) (hg : W.grownBy W' (some c)) (hne : b ≠ c) : BigZ W' b z m :=
  h.kept (hg.block _ h.lt (by simpa using hne)) fun g cs fz hh => hg.block g (Array.getElem?_eq_some_iff.1 hh).1 (fun e => by
    obtain rfl : g = c := Option.some.inj e
    rw [show W.heap[g]? = _ from hc] at hh; cases hh)
theorem BigZ.mono {W : World} {b : Nat} {z : Int} {m m' : Nat} (h : BigZ W b z m) (hm : m ≤ m') : BigZ W b z m' := by
  obtain ⟨v, ws, h1, h2, h3, h4, h5⟩ := h
  exact ⟨v, ws, h1, h2, h3, h4, by omega⟩
theorem WSl.shape {W : World} {v : Value} {ws : List Nat} (h : WSl W v ws) : ∃ a c, v = .slice a ws.length c := by
  obtain ⟨a, g, cap, h1, _⟩ := h
  exact ⟨a, cap, h1⟩

set_option maxRecDepth 100000 in
set_option maxHeartbeats 2000000 in
theorem give_ok (b : Nat) (neg : Bool) (x y v : Value) (ws : List Nat) (w : World) (hb : Blk w b 57 [x, y]) (hv : WSl w v ws) :
    Calls Tryd.prog 84 #[.pointer (some ⟨b, 0, none⟩), .bool neg, v] w fun e w' => e = .returned (.pointer (some ⟨b, 0, none⟩)) ∧ Blk w' b 57 [.bool (neg && decide (0 < ws.length)), v] ∧ w.grownBy w' (some b) := by
  obtain ⟨a, cap, rfl⟩ := hv.shape
  have hc0 := hb.cell 0
  have hc1 := hb.cell 1
  have hf0 := hb.frozen 0
  have hf1 := hb.frozen 1
  have hfin : Blk ((w.setCell ⟨b, 1, none⟩ (.slice a ws.length cap)).setCell ⟨b, 0, none⟩ (.bool (neg && decide (0 < ws.length)))) b 57 [.bool (neg && decide (0 < ws.length)), .slice a ws.length cap] := (hb.set 1 _).set 0 _
  have hgr : w.grownBy ((w.setCell ⟨b, 1, none⟩ (.slice a ws.length cap)).setCell ⟨b, 0, none⟩ (.bool (neg && decide (0 < ws.length)))) (some b) := gb_trans (gb_set w b 1 _) (gb_set _ b 0 _) (fun j e => by cases e; exact .inl rfl)
  have HF := hide hfin
  have HG := hide hgr
  clear hfin hgr hb hv
  cases neg with
  | false =>
    go_enter Tryd.func84, Tryd.ntmps84
    go_wp2
    go_ret
    exact ⟨rfl, HF.out, HG.out⟩
  | true =>
    by_cases h0 : 0 < ws.length
    · have h0i : (0 : Int) < (ws.length : Int) := by omega
      rw [decide_eq_true h0] at HF HG ⊢
      go_enter Tryd.func84, Tryd.ntmps84
      go_wp2
      go_ret
      exact ⟨rfl, HF.out, HG.out⟩
    · have h0i : ws.length = 0 := by omega
      rw [decide_eq_false h0] at HF HG ⊢
      rw [h0i] at HF HG ⊢
      go_enter Tryd.func84, Tryd.ntmps84
      go_wp2
      go_ret
      exact ⟨rfl, HF.out, HG.out⟩
theorem BigZ.given {w w' : World} {b : Nat} {neg : Bool} {v : Value} {ws : List Nat} {m : Nat} {x y : Value} (h0 : Blk w b 57 [x, y]) (hb : Blk w' b 57 [.bool (neg && decide (0 < ws.length)), v]) (hg : w.grownBy w' (some b)) (hv : WSl w v ws) (hc : Can ws) (hl : ws.length ≤ m) {z : Int} (hz : z = if neg then - (wv ws : Int) else (wv ws : Int)) : BigZ w' b z m := by
  have hv' : WSl w' v ws := hv.grown hg (fun g c fz hh e => by
    obtain rfl : g = b := Option.some.inj e
    rw [show w.heap[g]? = _ from h0] at hh; cases hh)
  have hp : 0 < ws.length → 0 < wv ws := fun h => wv_pos (List.length_pos_iff.1 h) hc.last
  refine ⟨v, ws, ?_, hv', hc, ?_, hl⟩
  · have : (neg && decide (0 < ws.length)) = decide (z < 0) := by
      subst hz
      cases neg with
      | false => simp
      | true =>
        simp only [Bool.true_and, if_true]
        by_cases h : 0 < ws.length
        · have := hp h
          rw [decide_eq_true h, decide_eq_true (by omega)]
        · have e : ws = [] := List.length_eq_zero_iff.1 (by omega)
          subst e
          simp [wv]
    rw [← this]; exact hb
  · subst hz
    cases neg <;> simp

set_option maxRecDepth 100000 in
set_option maxHeartbeats 2000000 in
theorem setInt_ok (b : Nat) (z : Int) (x y : Value) (w : World) (hb : Blk w b 57 [x, y]) (h1 : -9223372036854775808 ≤ z) (h2 : z ≤ 9223372036854775807) :
    Calls Tryd.prog 87 #[.pointer (some ⟨b, 0, none⟩), .int .i64 z] w fun e w' => e = .returned (.pointer (some ⟨b, 0, none⟩)) ∧ BigZ w' b z 2 ∧ w.grownBy w' (some b) := by
  rcases Int.lt_or_le z 0 with hz | hz
  · obtain ⟨n, rfl⟩ : ∃ n : Nat, z = -(n : Int) := ⟨(-z).toNat, by omega⟩
    have hw2 : IntKind.u64.wrap (-IntKind.u64.wrap (-(n : Int))) = (n : Int) := by rw [IntKind.wrap_u64, IntKind.wrap_u64]; omega
    go_enter Tryd.func87, Tryd.ntmps87
    go_wp2_with fail
    refine (words_ok n w (by omega)).mono ?_
    rintro e w1 ⟨⟨r, ws, rfl, hr, hc, hwv, hwl⟩, hbl⟩
    have hb1 := hb.of_eq (hbl.block _ hb.lt)
    go_wp2_with fail
    refine (give_ok b true x y r ws w1 hb1 hr).mono ?_
    rintro e w2 ⟨rfl, hb2, hg2⟩
    have hz2 : BigZ w2 b (-(n : Int)) 2 := BigZ.given hb1 hb2 hg2 hr hc hwl (by rw [hwv]; rfl)
    go_wp2
    go_ret
    exact ⟨rfl, hz2, ⟨hg2.os.trans hbl.os, hg2.tape.trans hbl.tape, hg2.output.trans hbl.output, Nat.le_trans hbl.size hg2.size, fun k hk hne => (hg2.block k (Nat.lt_of_lt_of_le hk hbl.size) hne).trans (hbl.block k hk)⟩⟩
  · obtain ⟨n, rfl⟩ : ∃ n : Nat, z = (n : Int) := ⟨z.toNat, by omega⟩
    have hw1 : IntKind.u64.wrap (n : Int) = (n : Int) := by rw [IntKind.wrap_u64]; omega
    go_enter Tryd.func87, Tryd.ntmps87
    go_wp2_with fail
    refine (words_ok n w (by omega)).mono ?_
    rintro e w1 ⟨⟨r, ws, rfl, hr, hc, hwv, hwl⟩, hbl⟩
    have hb1 := hb.of_eq (hbl.block _ hb.lt)
    go_wp2_with fail
    refine (give_ok b false x y r ws w1 hb1 hr).mono ?_
    rintro e w2 ⟨rfl, hb2, hg2⟩
    have hz2 : BigZ w2 b (n : Int) 2 := BigZ.given hb1 hb2 hg2 hr hc hwl (by rw [hwv]; rfl)
    go_wp2
    go_ret
    exact ⟨rfl, hz2, ⟨hg2.os.trans hbl.os, hg2.tape.trans hbl.tape, hg2.output.trans hbl.output, Nat.le_trans hbl.size hg2.size, fun k hk hne => (hg2.block k (Nat.lt_of_lt_of_le hk hbl.size) hne).trans (hbl.block k hk)⟩⟩
set_option maxRecDepth 100000 in
set_option maxHeartbeats 2000000 in
theorem newInt_ok (z : Int) (w : World) (h1 : -9223372036854775808 ≤ z) (h2 : z ≤ 9223372036854775807) :
    Calls Tryd.prog 67 #[.int .i64 z] w fun e w' => (∃ b, e = .returned (.pointer (some ⟨b, 0, none⟩)) ∧ w.heap.size ≤ b ∧ BigZ w' b z 2) ∧ Below w.heap.size w w' := by
  have hb : Blk (w.alloc (.cells #[.bool false, .slice none 0 0] 57)) w.heap.size 57 [.bool false, .slice none 0 0] := World.alloc_heap_new w _
  go_enter Tryd.func67, Tryd.ntmps67
  go_wp2_with fail
  refine (setInt_ok w.heap.size z _ _ _ hb h1 h2).mono ?_
  rintro e w1 ⟨rfl, hz, hg⟩
  go_wp2
  go_ret
  exact ⟨⟨_, rfl, Nat.le_refl _, hz⟩, (balloc w _).grown hg (Nat.le_of_lt (by simp)) (fun j e => by cases e; exact Nat.le_refl _)⟩
set_option maxRecDepth 100000 in
set_option maxHeartbeats 2000000 in
theorem big_ok (z : Int) (w : World) (h1 : -9223372036854775808 ≤ z) (h2 : z ≤ 9223372036854775807) :
    Calls Tryd.prog 39 #[.int .i64 z] w fun e w' => (∃ b, e = .returned (.pointer (some ⟨b, 0, none⟩)) ∧ w.heap.size ≤ b ∧ BigZ w' b z 2) ∧ Below w.heap.size w w' := by
  go_enter Tryd.func39, Tryd.ntmps39
  go_wp2_with fail
  refine (newInt_ok z _ h1 h2).mono ?_
  rintro e w1 ⟨⟨b, rfl, hb, hz⟩, hB⟩
  go_wp2
  go_ret
  exact ⟨⟨_, rfl, hb, hz⟩, hB⟩

set_option maxRecDepth 100000 in
set_option maxHeartbeats 2000000 in
theorem twin_ok (v : Value) (ws : List Nat) (w : World) (hv : WSl w v ws) (hl : ws.length ≤ 10000000) :
    Calls Tryd.prog 91 #[v] w fun e w' => (∃ r, e = .returned r ∧ WSl w' r ws) ∧ Below w.heap.size w w' := by
  obtain ⟨i0, hi, hz0, hz1, hz2⟩ := info_parts info113
  obtain ⟨a, g, cap, rfl, hcap, hcm, ha, hc⟩ := hv
  cases a with
  | none =>
    have h0 : ws = [] := by
      rcases Nat.eq_zero_or_pos ws.length with h | h
      · exact List.length_eq_zero_iff.1 h
      · cases (ha h).1
    subst h0
    go_enter Tryd.func91, Tryd.ntmps91
    go_wp2_with (first
      | (at_builtin; refine wpList_plain rfl fun K hK => ?_; unfold Oper.wp; simp [execOp, resolve, invoke, builtin, Result.andThen]; refine hK _ _ ?_; clear hK; go_wp2))
    go_ret
    exact ⟨⟨_, rfl, WSl.nil w⟩, Below.refl _ _⟩
  | some ad =>
    have hc1 : ∀ j z, (wds ws)[j]? = some z → w.cell? (ad.add j) = some z := by
      intro j z hj
      unfold wds at hj
      rw [List.getElem?_map] at hj
      obtain ⟨p, hp, rfl⟩ := Option.map_eq_some_iff.1 hj
      have hjl := (List.getElem?_eq_some_iff.1 hp).1
      have := hc j hjl
      rw [hp] at this
      have e := (ha (by omega)).1
      injection e with e
      subst e
      rw [show (⟨g, 0, none⟩ : Addr).add j = ⟨g, j, none⟩ by unfold Addr.add; split <;> simp_all]
      exact this
    go_enter Tryd.func91, Tryd.ntmps91
    go_wp2_with (first
      | (at_builtin; refine wpList_append_own _ rfl _ _ 55 rfl w.heap.size 113 i0 (.int .u32 0) 1 4 under55 hi hz0 hz1 hz2 rfl (by decide) _ 0 [] rfl (World.ownsRow_nil _ _ _ _) ad ws.length cap (wds ws) rfl (by rw [wds_len, Nat.mul_one]) ?c1 ?c2 ?c3 ?c4 ?c5 ?_))
    case c1 => exact hc1
    case c2 =>
      intro u hu
      obtain ⟨p, _, rfl⟩ := List.mem_map.1 hu
      rfl
    case c3 => unfold maxLen; omega
    case c4 => omega
    case c5 => omega
    intro v' w2 hown' hgrow _
    have hW := WSl.of_own hown'
    obtain ⟨a', c', rfl⟩ := hW.shape
    go_wp2
    go_ret
    exact ⟨⟨_, rfl, hW⟩, (Below.refl _ w).grown hgrow (Nat.le_refl _) (fun j e => by simp [Value.ownBlock] at e)⟩
end Go.Proofs.YtjchmhngfnlbhaaDoor
