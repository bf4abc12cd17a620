/- The statements' big numbers (cayleybig): words of 32 bits, how they lie; trim, words. The statements' big numbers: how they lie; give, SetInt64, NewInt, twin, small. The statements' big numbers: division by one word; decimal text. The statements' big numbers: products of lists of words. The statements' big numbers: Mul. The statements' big numbers: sums of lists of words. The statements' big numbers: which of two lists of words is greater; differences. The statements' big numbers: differences of lists of words. The statements' big numbers: sums with signs, Add and Sub. Big numbers: Set; the length and the bits of a number of one word. Big numbers: a number times itself, laid in its own place. Big numbers: Exp, where there is no modulus and the power is small. Big numbers: Cmp of two numbers that are the same, not below 0. What SetString and the document's Digits read of a number's decimal digits. -/
import Derived.Test.YtojnjfkonaeegaaDoorQDcm
import Derived.Laws.AppendOwnNone
import Derived.Lib.EndianBits
import Derived.Deep.QuietTactic
import Derived.BigQuiet
import Derived.Deep.RegionHeld3
import Derived.Laws.Bits64b
namespace Go.Proofs.YtojnjfkonaeegaaDoorQ
open Go Go.RowKit

theorem bcat2 {a b c : World} (h : Below a.heap.size a b) (k : Below b.heap.size b c) : Below a.heap.size a c := h.trans (k.mono h.size)
theorem below_cell {a b : World} (h : Below a.heap.size a b) {p : Addr} {v : Value} (hc : a.cell? p = some v) : b.cell? p = some v := by
  have hl := World.block_lt_of_cell? a p hc
  rw [← hc]; simp [World.cell?, h.block _ hl]

/-- What a list of words is worth, the least first. -/
def wv : List Nat → Nat
  | [] => 0
  | p :: ps => p + 4294967296 * wv ps
theorem wv_app : ∀ (a b : List Nat), wv (a ++ b) = wv a + 4294967296 ^ a.length * wv b
  | [], b => by simp [wv]
  | p :: a, b => by
    rw [List.cons_append, wv, wv, wv_app a b, List.length_cons, Nat.pow_succ]; grind
theorem wv_zero (l : List Nat) : wv (l ++ [0]) = wv l := by rw [wv_app]; simp [wv]
theorem wv_trm (l : List Nat) : wv (trm l) = wv l := by
  obtain ⟨n, hn⟩ : ∃ n, l.length = n := ⟨_, rfl⟩
  induction n generalizing l with
  | zero =>
    have := List.length_eq_zero_iff.1 hn
    subst this; rfl
  | succ n ih =>
    obtain ⟨m, x, rfl⟩ : ∃ m x, l = m ++ [x] := by
      rcases List.eq_nil_or_concat l with h | ⟨m, x, h⟩
      · subst h; simp at hn
      · exact ⟨m, x, by simpa using h⟩
    by_cases hx : x = 0
    · subst hx
      rw [trm_zero, wv_zero]
      exact ih m (by simpa using hn)
    · rw [trm_keep m hx]
/-- Words without a nought at the end. -/
structure Can (ws : List Nat) : Prop where
  lt : ∀ p, p ∈ ws → p < 4294967296
  last : ws.getLast? ≠ some 0
theorem Can.trm {l : List Nat} (h : ∀ p, p ∈ l → p < 4294967296) : Can (trm l) :=
  ⟨fun p hp => h p (by obtain ⟨_, ⟨t, ht⟩, _⟩ := trm_facts l; rw [ht]; simp [hp]), (trm_facts l).2.2⟩
theorem wv_pos : ∀ {l : List Nat}, l ≠ [] → l.getLast? ≠ some 0 → 0 < wv l
  | [], h, _ => absurd rfl h
  | [a], _, h => by simp at h; simp [wv]; omega
  | a :: b :: l, _, h => by
    have := wv_pos (l := b :: l) (by simp) (by simpa using h)
    rw [wv]; omega
theorem wv_lt : ∀ (l : List Nat), (∀ p, p ∈ l → p < 4294967296) → wv l < 4294967296 ^ l.length
  | [], _ => by simp [wv]
  | p :: l, h => by
    have h1 := wv_lt l (fun q hq => h q (by simp [hq]))
    have h2 := h p (by simp)
    rw [wv, List.length_cons, Nat.pow_succ]
    have : 4294967296 * (wv l + 1) ≤ 4294967296 * 4294967296 ^ l.length := Nat.mul_le_mul_left _ h1
    omega
theorem Can.ge {l : List Nat} (h : Can l) (hl : l ≠ []) : 4294967296 ^ (l.length - 1) ≤ wv l := by
  rcases List.eq_nil_or_concat l with e | ⟨m, x, e⟩
  · exact absurd e hl
  · have e' : l = m ++ [x] := by simpa using e
    subst e'
    have hx : x ≠ 0 := fun e => h.last (by subst e; simp)
    rw [wv_app]
    have : wv [x] = x := by simp [wv]
    rw [this, List.length_append, List.length_singleton, Nat.add_sub_cancel]
    have : 4294967296 ^ m.length * 1 ≤ 4294967296 ^ m.length * x := Nat.mul_le_mul_left _ (by omega)
    omega
/-- One number has one list of words. -/
theorem Can.unique : ∀ {a b : List Nat}, Can a → Can b → wv a = wv b → a = b
  | [], [], _, _, _ => rfl
  | [], b :: lb, _, hb, h => by have := wv_pos (l := b :: lb) (by simp) hb.last; rw [← h] at this; simp [wv] at this
  | a :: la, [], ha, _, h => by have := wv_pos (l := a :: la) (by simp) ha.last; rw [h] at this; simp [wv] at this
  | a :: la, b :: lb, ha, hb, h => by
    rw [wv, wv] at h
    have h1 := ha.lt a (by simp)
    have h2 := hb.lt b (by simp)
    have tl : ∀ {x : Nat} {xs : List Nat}, Can (x :: xs) → Can xs := fun {x xs} hx => ⟨fun p hp => hx.lt p (by simp [hp]), fun e => hx.last (by
      cases xs with
      | nil => simp at e
      | cons y ys => simpa using e)⟩
    have := Can.unique (tl ha) (tl hb) (by omega)
    subst this
    congr 1; omega

/-- Words as cells. -/
def wds (l : List Nat) : List Value := l.map fun (p : Nat) => Value.int .u32 (p : Int)
theorem wds_len (l : List Nat) : (wds l).length = l.length := by simp [wds]
/-- A slice of words that reads as ws. -/
structure WSl (W : World) (v : Value) (ws : List Nat) : Prop where
  ex : ∃ a g cap, v = .slice a ws.length cap ∧ ws.length ≤ cap ∧ cap ≤ maxLen ∧ (0 < ws.length → a = some ⟨g, 0, none⟩ ∧ ∃ c fz, W.heap[g]? = some (.cells c 97 fz)) ∧ ∀ j, j < ws.length → W.cell? ⟨g, j, none⟩ = some (.int .u32 ((ws[j]?.getD 0 : Nat) : Int))
theorem WSl.kept {W W' : World} {v : Value} {ws : List Nat} (h : WSl W v ws) (hk : ∀ (g : Nat) (c : Array Value) (fz : Nat × Nat), W.heap[g]? = some (Obj.cells c 97 fz) → W'.heap[g]? = W.heap[g]?) : WSl W' v ws := by
  obtain ⟨a, g, cap, h1, h2, h3, h4, h5⟩ := h
  rcases Nat.eq_zero_or_pos ws.length with h0 | h0
  · exact ⟨a, g, cap, h1, h2, h3, fun h => by omega, fun j hj => by omega⟩
  · obtain ⟨ha, c, fz, hg⟩ := h4 h0
    have e := hk g c fz hg
    exact ⟨a, g, cap, h1, h2, h3, fun _ => ⟨ha, c, fz, e.trans hg⟩, fun j hj => by rw [← h5 j hj]; simp [World.cell?, e]⟩
theorem WSl.below {W W' : World} {v : Value} {ws : List Nat} (h : WSl W v ws) (hb : Below W.heap.size W W') : WSl W' v ws :=
  h.kept fun g _ _ hg => hb.block g (Array.getElem?_eq_some_iff.1 hg).1
theorem WSl.grown {W W' : World} {v : Value} {ws : List Nat} {row : Option Nat} (h : WSl W v ws) (hg : W.grownBy W' row) (hr : ∀ (g : Nat) (c : Array Value) (fz : Nat × Nat), W.heap[g]? = some (Obj.cells c 97 fz) → some g ≠ row) : WSl W' v ws :=
  h.kept fun g c fz hh => hg.block g (Array.getElem?_eq_some_iff.1 hh).1 (hr g c fz hh)
theorem WSl.nil (W : World) : WSl W (.slice none 0 0) [] := ⟨none, 0, 0, rfl, by simp, by unfold maxLen; omega, by simp, by simp⟩
theorem WSl.of_blk {W : World} {g n : Nat} {ws : List Nat} (h : Blk W g 97 (wds ws)) (hn : n = ws.length) (hl : ws.length ≤ maxLen) : WSl W (.slice (some ⟨g, 0, none⟩) n n) ws :=
  ⟨_, g, n, by rw [hn], by omega, by omega, fun _ => ⟨rfl, _, _, h⟩, fun j hj => by rw [h.cell j]; unfold wds; rw [List.getElem?_map, List.getElem?_eq_getElem hj]; rfl⟩
theorem WSl.take {W : World} {v : Value} {ws : List Nat} (h : WSl W v ws) : ∃ a g cap, v = .slice a ws.length cap ∧ ws.length ≤ cap ∧ cap ≤ maxLen ∧ (0 < ws.length → a = some ⟨g, 0, none⟩) ∧ (∀ j, j < ws.length → W.cell? ⟨g, j, none⟩ = some (.int .u32 ((ws[j]?.getD 0 : Nat) : Int))) ∧
    ∀ k, k ≤ ws.length → WSl W (.slice a k cap) (ws.take k) := by
  obtain ⟨a, g, cap, h1, h2, h3, h4, h5⟩ := h
  refine ⟨a, g, cap, h1, h2, h3, fun h => (h4 h).1, h5, fun k hk => ?_⟩
  have hl : (ws.take k).length = k := by rw [List.length_take]; omega
  refine ⟨a, g, cap, by rw [hl], by omega, h3, fun h => h4 (by omega), fun j hj => ?_⟩
  rw [hl] at hj
  rw [h5 j (by omega), List.getElem?_take, if_pos hj]

set_option maxRecDepth 100000 in
set_option maxHeartbeats 2000000 in
theorem trim_ok (v : Value) (ws : List Nat) (w : World) (hv : WSl w v ws) :
    Calls Tryd.prog 65 #[v] w fun e w' => (∃ r, e = .returned r ∧ WSl w r (trm ws)) ∧ w' = w := by
  obtain ⟨a, g, cap, rfl, hcap, hcm, ha, hc, htk⟩ := hv.take
  have htr := trm_take ws
  have htl := trm_len ws
  clear hv
  have hcm2 := hcm
  unfold maxLen at hcm
  go_enter Tryd.func65, Tryd.ntmps65
  go_wp2
  go_loop [3] (fun v => ∃ n : Nat, n ≤ ws.length ∧ v = .int .i64 n ∧ trm (ws.take n) = trm ws) (fun v => (intOf v).toNat)
  case atStart => exact ⟨ws.length, Nat.le_refl _, rfl, by rw [List.take_length]⟩
  case round =>
    obtain ⟨n, hn, rfl, hT⟩ := hrel
    have HT := hide hT
    have HTR := hide htr
    clear hT htr
    rcases Nat.eq_zero_or_pos n with rfl | hn0
    · have h0 : trm ws = [] := by rw [← HT.out]; rfl
      have hW := htk 0 (Nat.zero_le _)
      go_wp2
      go_ret
      have hW2 : WSl w (.slice a 0 cap) [] := by simpa using hW
      exact ⟨⟨_, rfl, hW2⟩, rfl⟩
    · obtain ⟨k, rfl⟩ : ∃ k, n = k + 1 := ⟨n - 1, by omega⟩
      obtain rfl := ha (by omega)
      have hx := hc k (by omega)
      have hki : ((k + 1 : Nat) : Int) - 1 = (k : Int) := by omega
      have hwk : IntKind.i64.wrap (((k + 1 : Nat) : Int) - 1) = (k : Int) := by rw [IntKind.wrap_i64]; omega
      by_cases hz : ws[k]?.getD 0 = 0
      · rw [hz] at hx
        have hs := trm_step (l := ws) (n := k) (by omega) hz
        have HS := hide hs
        clear hs hz
        go_wp2
        go_round
        case rel => exact ⟨k, by omega, by go_num, by rw [← HS.out]; exact HT.out⟩
        case measure => simp [intOf]
      · have hs : trm ws = ws.take (k + 1) := by rw [← HT.out, trm_stop (by omega) hz]
        have HS := hide hs
        generalize ws[k]?.getD 0 = x at hx hz
        have hb : ((x : Int) == 0) = false := by simp; omega
        have hW := htk (k + 1) hn
        clear hs hz
        go_wp2
        go_ret
        rw [← HS.out] at hW
        exact ⟨⟨_, rfl, hW⟩, rfl⟩
theorem info97 : (Tryd.prog.info? 97).map (fun i => (i.zero, i.size, i.bytes)) = some (some (.int .u32 0), 1, 4) := by kernel_rfl
theorem under55 : Tryd.prog.underlying 44 = some (.slice 97) := by kernel_rfl

set_option maxRecDepth 100000 in
set_option maxHeartbeats 2000000 in
theorem words_ok (x : Nat) (w : World) (hx : x < 18446744073709551616) :
    Calls Tryd.prog 55 #[.int .u64 x] w fun e w' => (∃ r ws, e = .returned r ∧ WSl w' r ws ∧ Can ws ∧ wv ws = x ∧ ws.length ≤ 2) ∧ Below w.heap.size w w' := by
  have hB : Below w.heap.size w (w.alloc (.cells #[.int .u32 ((x % 4294967296 : Nat) : Int), .int .u32 ((x / 4294967296 : Nat) : Int)] 97)) := balloc w _
  have hW : WSl (w.alloc (.cells #[.int .u32 ((x % 4294967296 : Nat) : Int), .int .u32 ((x / 4294967296 : Nat) : Int)] 97)) (.slice (some ⟨w.heap.size, 0, none⟩) 2 2) [x % 4294967296, x / 4294967296] :=
    WSl.of_blk (World.alloc_heap_new w _) rfl (by simp [maxLen])
  have hc : Can (trm [x % 4294967296, x / 4294967296]) := Can.trm (by simp; omega)
  have hv : wv (trm [x % 4294967296, x / 4294967296]) = x := by rw [wv_trm]; simp [wv]; omega
  have hl := trm_len [x % 4294967296, x / 4294967296]
  have h1 : (x : Int) % 4294967296 = ((x % 4294967296 : Nat) : Int) := by omega
  have h2 : (x : Int) / 4294967296 = ((x / 4294967296 : Nat) : Int) := by omega
  rw [← h1, ← h2] at hW hB
  have HW := hide hW
  have HB := hide hB
  clear hW hB h1 h2
  go_enter Tryd.func55, Tryd.ntmps55
  go_wp2_with fail
  refine (trim_ok _ _ _ HW.out).mono ?_
  rintro e w1 ⟨⟨r, rfl, hr⟩, rfl⟩
  go_wp2
  go_ret
  exact ⟨⟨_, _, rfl, hr, hc, hv, by simpa using hl⟩, HB.out⟩
end Go.Proofs.YtojnjfkonaeegaaDoorQ

namespace Go.Proofs.YtojnjfkonaeegaaDoorQ
open Go Go.RowKit

theorem WSl.of_own {W : World} {base : Nat} {v : Value} {ws : List Nat} (h : W.ownsRow base 97 1 v ws.length (wds ws)) : WSl W v ws := by
  rcases h.2 with ⟨rfl, h0⟩ | ⟨g, cap, cur, rfl, _, hh, h1, h2, _⟩
  · have := List.length_eq_zero_iff.1 h0
    subst this
    exact WSl.nil W
  · refine ⟨_, g, cap, rfl, h1, h2, fun _ => ⟨rfl, _, _, hh⟩, fun j hj => ?_⟩
    have := h.cells (g := g) rfl j (.int .u32 (ws[j] : Nat)) (by simp [wds, List.getElem?_eq_getElem hj])
    rw [show (⟨g, 0, none⟩ : Addr).add j = ⟨g, j, none⟩ by unfold Addr.add; split <;> simp_all] at this
    rw [this, List.getElem?_eq_getElem hj]; rfl
/-- A big number in a block: its sign, its words; at most so many words. -/
structure BigZ (W : World) (b : Nat) (z : Int) (m : Nat) : Prop where
  ex : ∃ v ws, Blk W b 46 [.bool (decide (z < 0)), v] ∧ WSl W v ws ∧ Can ws ∧ wv ws = z.natAbs ∧ ws.length ≤ m
theorem BigZ.lt {W : World} {b : Nat} {z : Int} {m : Nat} (h : BigZ W b z m) : b < W.heap.size := by
  obtain ⟨v, ws, h1, _⟩ := h
  exact h1.lt
theorem BigZ.kept {W W' : World} {b : Nat} {z : Int} {m : Nat} (h : BigZ W b z m) (hb : W'.heap[b]? = W.heap[b]?) (hk : ∀ (g : Nat) (c : Array Value) (fz : Nat × Nat), W.heap[g]? = some (Obj.cells c 97 fz) → W'.heap[g]? = W.heap[g]?) : BigZ W' b z m := by
  obtain ⟨v, ws, h1, h2, h3⟩ := h
  exact ⟨v, ws, h1.of_eq hb, h2.kept hk, h3⟩
theorem BigZ.below {W W' : World} {b : Nat} {z : Int} {m : Nat} (h : BigZ W b z m) (hb : Below W.heap.size W W') : BigZ W' b z m :=
  h.kept (hb.block _ h.lt) fun g _ _ hg => hb.block g (Array.getElem?_eq_some_iff.1 hg).1
/-- Another number's block was written. -/
theorem BigZ.other {W W' : World} {b c : Nat} {z : Int} {m : Nat} {x y : Value} (h : BigZ W b z m) (hc : Blk W c 46 [x, y]) (hg : W.grownBy W' (some c)) (hne : b ≠ c) : BigZ W' b z m :=
  h.kept (hg.block _ h.lt (by simpa using hne)) fun g cs fz hh => hg.block g (Array.getElem?_eq_some_iff.1 hh).1 (fun e => by
    obtain rfl : g = c := Option.some.inj e
    rw [show W.heap[g]? = _ from hc] at hh; cases hh)
theorem BigZ.mono {W : World} {b : Nat} {z : Int} {m m' : Nat} (h : BigZ W b z m) (hm : m ≤ m') : BigZ W b z m' := by
  obtain ⟨v, ws, h1, h2, h3, h4, h5⟩ := h
  exact ⟨v, ws, h1, h2, h3, h4, by omega⟩
theorem WSl.shape {W : World} {v : Value} {ws : List Nat} (h : WSl W v ws) : ∃ a c, v = .slice a ws.length c := by
  obtain ⟨a, g, cap, h1, _⟩ := h
  exact ⟨a, cap, h1⟩

set_option maxRecDepth 100000 in
set_option maxHeartbeats 2000000 in
theorem give_ok (b : Nat) (neg : Bool) (x y v : Value) (ws : List Nat) (w : World) (hb : Blk w b 46 [x, y]) (hv : WSl w v ws) :
    Calls Tryd.prog 37 #[.pointer (some ⟨b, 0, none⟩), .bool neg, v] w fun e w' => e = .returned (.pointer (some ⟨b, 0, none⟩)) ∧ Blk w' b 46 [.bool (neg && decide (0 < ws.length)), v] ∧ w.grownBy w' (some b) := by
  obtain ⟨a, cap, rfl⟩ := hv.shape
  have hc0 := hb.cell 0
  have hc1 := hb.cell 1
  have hf0 := hb.frozen 0
  have hf1 := hb.frozen 1
  have hfin : Blk ((w.setCell ⟨b, 1, none⟩ (.slice a ws.length cap)).setCell ⟨b, 0, none⟩ (.bool (neg && decide (0 < ws.length)))) b 46 [.bool (neg && decide (0 < ws.length)), .slice a ws.length cap] := (hb.set 1 _).set 0 _
  have hgr : w.grownBy ((w.setCell ⟨b, 1, none⟩ (.slice a ws.length cap)).setCell ⟨b, 0, none⟩ (.bool (neg && decide (0 < ws.length)))) (some b) := gb_trans (gb_set w b 1 _) (gb_set _ b 0 _) (fun j e => by cases e; exact .inl rfl)
  have HF := hide hfin
  have HG := hide hgr
  clear hfin hgr hb hv
  cases neg with
  | false =>
    go_enter Tryd.func37, Tryd.ntmps37
    go_wp2
    go_ret
    exact ⟨rfl, HF.out, HG.out⟩
  | true =>
    by_cases h0 : 0 < ws.length
    · have h0i : (0 : Int) < (ws.length : Int) := by omega
      rw [decide_eq_true h0] at HF HG ⊢
      go_enter Tryd.func37, Tryd.ntmps37
      go_wp2
      go_ret
      exact ⟨rfl, HF.out, HG.out⟩
    · have h0i : ws.length = 0 := by omega
      rw [decide_eq_false h0] at HF HG ⊢
      rw [h0i] at HF HG ⊢
      go_enter Tryd.func37, Tryd.ntmps37
      go_wp2
      go_ret
      exact ⟨rfl, HF.out, HG.out⟩
theorem BigZ.given {w w' : World} {b : Nat} {neg : Bool} {v : Value} {ws : List Nat} {m : Nat} {x y : Value} (h0 : Blk w b 46 [x, y]) (hb : Blk w' b 46 [.bool (neg && decide (0 < ws.length)), v]) (hg : w.grownBy w' (some b)) (hv : WSl w v ws) (hc : Can ws) (hl : ws.length ≤ m) {z : Int} (hz : z = if neg then - (wv ws : Int) else (wv ws : Int)) : BigZ w' b z m := by
  have hv' : WSl w' v ws := hv.grown hg (fun g c fz hh e => by
    obtain rfl : g = b := Option.some.inj e
    rw [show w.heap[g]? = _ from h0] at hh; cases hh)
  have hp : 0 < ws.length → 0 < wv ws := fun h => wv_pos (List.length_pos_iff.1 h) hc.last
  refine ⟨v, ws, ?_, hv', hc, ?_, hl⟩
  · have : (neg && decide (0 < ws.length)) = decide (z < 0) := by
      subst hz
      cases neg with
      | false => simp
      | true =>
        simp only [Bool.true_and, if_true]
        by_cases h : 0 < ws.length
        · have := hp h
          rw [decide_eq_true h, decide_eq_true (by omega)]
        · have e : ws = [] := List.length_eq_zero_iff.1 (by omega)
          subst e
          simp [wv]
    rw [← this]; exact hb
  · subst hz
    cases neg <;> simp

set_option maxRecDepth 100000 in
set_option maxHeartbeats 2000000 in
theorem setInt_ok (b : Nat) (z : Int) (x y : Value) (w : World) (hb : Blk w b 46 [x, y]) (h1 : -9223372036854775808 ≤ z) (h2 : z ≤ 9223372036854775807) :
    Calls Tryd.prog 58 #[.pointer (some ⟨b, 0, none⟩), .int .i64 z] w fun e w' => e = .returned (.pointer (some ⟨b, 0, none⟩)) ∧ BigZ w' b z 2 ∧ w.grownBy w' (some b) := by
  rcases Int.lt_or_le z 0 with hz | hz
  · obtain ⟨n, rfl⟩ : ∃ n : Nat, z = -(n : Int) := ⟨(-z).toNat, by omega⟩
    have hw2 : IntKind.u64.wrap (-IntKind.u64.wrap (-(n : Int))) = (n : Int) := by rw [IntKind.wrap_u64, IntKind.wrap_u64]; omega
    go_enter Tryd.func58, Tryd.ntmps58
    go_wp2_with fail
    refine (words_ok n w (by omega)).mono ?_
    rintro e w1 ⟨⟨r, ws, rfl, hr, hc, hwv, hwl⟩, hbl⟩
    have hb1 := hb.of_eq (hbl.block _ hb.lt)
    go_wp2_with fail
    refine (give_ok b true x y r ws w1 hb1 hr).mono ?_
    rintro e w2 ⟨rfl, hb2, hg2⟩
    have hz2 : BigZ w2 b (-(n : Int)) 2 := BigZ.given hb1 hb2 hg2 hr hc hwl (by rw [hwv]; rfl)
    go_wp2
    go_ret
    exact ⟨rfl, hz2, ⟨hg2.os.trans hbl.os, hg2.tape.trans hbl.tape, hg2.output.trans hbl.output, Nat.le_trans hbl.size hg2.size, fun k hk hne => (hg2.block k (Nat.lt_of_lt_of_le hk hbl.size) hne).trans (hbl.block k hk)⟩⟩
  · obtain ⟨n, rfl⟩ : ∃ n : Nat, z = (n : Int) := ⟨z.toNat, by omega⟩
    have hw1 : IntKind.u64.wrap (n : Int) = (n : Int) := by rw [IntKind.wrap_u64]; omega
    go_enter Tryd.func58, Tryd.ntmps58
    go_wp2_with fail
    refine (words_ok n w (by omega)).mono ?_
    rintro e w1 ⟨⟨r, ws, rfl, hr, hc, hwv, hwl⟩, hbl⟩
    have hb1 := hb.of_eq (hbl.block _ hb.lt)
    go_wp2_with fail
    refine (give_ok b false x y r ws w1 hb1 hr).mono ?_
    rintro e w2 ⟨rfl, hb2, hg2⟩
    have hz2 : BigZ w2 b (n : Int) 2 := BigZ.given hb1 hb2 hg2 hr hc hwl (by rw [hwv]; rfl)
    go_wp2
    go_ret
    exact ⟨rfl, hz2, ⟨hg2.os.trans hbl.os, hg2.tape.trans hbl.tape, hg2.output.trans hbl.output, Nat.le_trans hbl.size hg2.size, fun k hk hne => (hg2.block k (Nat.lt_of_lt_of_le hk hbl.size) hne).trans (hbl.block k hk)⟩⟩
set_option maxRecDepth 100000 in
set_option maxHeartbeats 2000000 in
theorem newInt_ok (z : Int) (w : World) (h1 : -9223372036854775808 ≤ z) (h2 : z ≤ 9223372036854775807) :
    Calls Tryd.prog 40 #[.int .i64 z] w fun e w' => (∃ b, e = .returned (.pointer (some ⟨b, 0, none⟩)) ∧ w.heap.size ≤ b ∧ BigZ w' b z 2) ∧ Below w.heap.size w w' := by
  have hb : Blk (w.alloc (.cells #[.bool false, .slice none 0 0] 46)) w.heap.size 46 [.bool false, .slice none 0 0] := World.alloc_heap_new w _
  go_enter Tryd.func40, Tryd.ntmps40
  go_wp2_with fail
  refine (setInt_ok w.heap.size z _ _ _ hb h1 h2).mono ?_
  rintro e w1 ⟨rfl, hz, hg⟩
  go_wp2
  go_ret
  exact ⟨⟨_, rfl, Nat.le_refl _, hz⟩, (balloc w _).grown hg (Nat.le_of_lt (by simp)) (fun j e => by cases e; exact Nat.le_refl _)⟩
set_option maxRecDepth 100000 in
set_option maxHeartbeats 2000000 in
theorem big_ok (z : Int) (w : World) (h1 : -9223372036854775808 ≤ z) (h2 : z ≤ 9223372036854775807) :
    Calls Tryd.prog 24 #[.int .i64 z] w fun e w' => (∃ b, e = .returned (.pointer (some ⟨b, 0, none⟩)) ∧ w.heap.size ≤ b ∧ BigZ w' b z 2) ∧ Below w.heap.size w w' := by
  go_enter Tryd.func24, Tryd.ntmps24
  go_wp2_with fail
  refine (newInt_ok z _ h1 h2).mono ?_
  rintro e w1 ⟨⟨b, rfl, hb, hz⟩, hB⟩
  go_wp2
  go_ret
  exact ⟨⟨_, rfl, hb, hz⟩, hB⟩

set_option maxRecDepth 100000 in
set_option maxHeartbeats 2000000 in
theorem twin_ok (v : Value) (ws : List Nat) (w : World) (hv : WSl w v ws) (hl : ws.length ≤ 10000000) :
    Calls Tryd.prog 60 #[v] w fun e w' => (∃ r, e = .returned r ∧ WSl w' r ws) ∧ Below w.heap.size w w' := by
  obtain ⟨i0, hi, hz0, hz1, hz2⟩ := info_parts info97
  obtain ⟨a, g, cap, rfl, hcap, hcm, ha, hc⟩ := hv
  cases a with
  | none =>
    have h0 : ws = [] := by
      rcases Nat.eq_zero_or_pos ws.length with h | h
      · exact List.length_eq_zero_iff.1 h
      · cases (ha h).1
    subst h0
    go_enter Tryd.func60, Tryd.ntmps60
    go_wp2_with (first
      | (at_builtin; refine wpList_plain rfl fun K hK => ?_; unfold Oper.wp; simp [execOp, resolve, invoke, builtin, Result.andThen]; refine hK _ _ ?_; clear hK; go_wp2))
    go_ret
    exact ⟨⟨_, rfl, WSl.nil w⟩, Below.refl _ _⟩
  | some ad =>
    have hc1 : ∀ j z, (wds ws)[j]? = some z → w.cell? (ad.add j) = some z := by
      intro j z hj
      unfold wds at hj
      rw [List.getElem?_map] at hj
      obtain ⟨p, hp, rfl⟩ := Option.map_eq_some_iff.1 hj
      have hjl := (List.getElem?_eq_some_iff.1 hp).1
      have := hc j hjl
      rw [hp] at this
      have e := (ha (by omega)).1
      injection e with e
      subst e
      rw [show (⟨g, 0, none⟩ : Addr).add j = ⟨g, j, none⟩ by unfold Addr.add; split <;> simp_all]
      exact this
    go_enter Tryd.func60, Tryd.ntmps60
    go_wp2_with (first
      | (at_builtin; refine wpList_append_own _ rfl _ _ 44 rfl w.heap.size 97 i0 (.int .u32 0) 1 4 under55 hi hz0 hz1 hz2 rfl (by decide) _ 0 [] rfl (World.ownsRow_nil _ _ _ _) ad ws.length cap (wds ws) rfl (by rw [wds_len, Nat.mul_one]) ?c1 ?c2 ?c3 ?c4 ?c5 ?_))
    case c1 => exact hc1
    case c2 =>
      intro u hu
      obtain ⟨p, _, rfl⟩ := List.mem_map.1 hu
      rfl
    case c3 => unfold maxLen; omega
    case c4 => omega
    case c5 => omega
    intro v' w2 hown' hgrow _
    have hW := WSl.of_own hown'
    obtain ⟨a', c', rfl⟩ := hW.shape
    go_wp2
    go_ret
    exact ⟨⟨_, rfl, hW⟩, (Below.refl _ w).grown hgrow (Nat.le_refl _) (fun j e => by simp [Value.ownBlock] at e)⟩
end Go.Proofs.YtojnjfkonaeegaaDoorQ

namespace Go.Proofs.YtojnjfkonaeegaaDoorQ
open Go Go.RowKit

theorem wv_drop (ws : List Nat) {k : Nat} (hk : k < ws.length) : wv (ws.drop k) = ws[k]?.getD 0 + 4294967296 * wv (ws.drop (k + 1)) := by
  rw [List.drop_eq_getElem_cons hk, List.getElem?_eq_getElem hk]; rfl
theorem or_join (r p : Nat) (hr : r < 4294967296) (hp : p < 4294967296) : bits .or .u64 ((r : Int) * 4294967296) (p : Int) = ((r * 4294967296 + p : Nat) : Int) := by
  have h := Go.u64_or32 (p : Int) ((r : Int) * 4294967296) (by omega) (by omega) (by omega) (by omega) (by omega)
  have e : bits .or .u64 ((r : Int) * 4294967296) (p : Int) = bits .or .u64 (p : Int) ((r : Int) * 4294967296) := by unfold bits; simp only [BitVec.or_comm]
  rw [e, h]; omega
theorem div_step {d X a : Nat} (hd : 0 < d) : (X % d * 4294967296 + a) / d + 4294967296 * (X / d) = (a + 4294967296 * X) / d ∧ (X % d * 4294967296 + a) % d = (a + 4294967296 * X) % d := by
  have h := Nat.div_add_mod X d
  have e : a + 4294967296 * X = X % d * 4294967296 + a + d * (4294967296 * (X / d)) := by
    have : 4294967296 * (d * (X / d) + X % d) = 4294967296 * X := by rw [h]
    grind
  rw [e, Nat.add_mul_div_left _ _ hd, Nat.add_mul_mod_self_left]
  exact ⟨rfl, rfl⟩

set_option maxRecDepth 100000 in
set_option maxHeartbeats 4000000 in
theorem small_ok (v : Value) (ws : List Nat) (d : Nat) (w : World) (hv : WSl w v ws) (hws : ∀ p, p ∈ ws → p < 4294967296) (hd : 0 < d) (hd2 : d < 4294967296) (hl : ws.length ≤ 10000000) :
    Calls Tryd.prog 115 #[v, .int .u32 d] w fun e w' => (∃ r qs, e = .returned (.tuple #[r, .int .u32 ((wv ws % d : Nat) : Int)]) ∧ WSl w' r qs ∧ Can qs ∧ wv qs = wv ws / d ∧ qs.length ≤ ws.length) ∧ Below w.heap.size w w' := by
  obtain ⟨i0, hi, hz0, hz1, hz2⟩ := info_parts info97
  obtain ⟨a, g, cap, rfl, hcap, hcm, ha, hc, _⟩ := hv.take
  have hm : ws.length ≤ maxLen := by unfold maxLen; omega
  have hd0 : ¬ ((d : Int) = 0) := by omega
  have hd0n : ¬ d = 0 := by omega
  go_enter Tryd.func115, Tryd.ntmps115
  go_wp2_with (first
    | (at_make; refine wpList_make_full _ rfl _ _ 44 rfl w.heap.size 97 i0 (.int .u32 0) 1 under55 hi hz0 hz1 _ _ _ _ ws.length rfl rfl rfl rfl (by rw [hz2]; omega) hm (Nat.le_refl _) ?_))
  intro w1 hown hg
  have hP : Blk w1 w.heap.size 97 (wds (List.replicate ws.length 0)) := by
    have := Blk.of_owns hown
    rw [made_rep] at this
    unfold wds; rw [List.map_replicate]; exact this
  have hB1 : Below w.heap.size w w1 := (Below.refl _ w).grown hg (Nat.le_refl _) (by simp)
  clear hown hg
  go_wp2
  go_loopw [7, 8] (fun rv iv wr => ∃ (k : Nat) (Q : List Nat), k ≤ ws.length ∧ iv = .int .i64 ((k : Int) - 1) ∧ rv = .int .u64 ((wv (ws.drop k) % d : Nat) : Int) ∧ Q.length = ws.length ∧ (∀ p, p ∈ Q → p < 4294967296) ∧ wv (Q.drop k) = wv (ws.drop k) / d ∧ Blk wr w.heap.size 97 (wds Q) ∧ Below w.heap.size w wr)
    (fun _ iv _ => (intOf iv + 1).toNat)
  case atStart => exact ⟨ws.length, List.replicate ws.length 0, Nat.le_refl _, by go_num, by rw [List.drop_length]; simp [wv], by simp, by simp, by rw [List.drop_of_length_le (by simp), List.drop_length]; simp [wv], hP, hB1⟩
  case round =>
    obtain ⟨k, Q, hk, rfl, rfl, hQl, hQs, hQv, hPk, hBk⟩ := hrel
    clear hP hB1
    rcases Nat.eq_zero_or_pos k with rfl | hkp
    · rw [List.drop_zero] at hQv ⊢
      rw [List.drop_zero] at hQv
      have hrl : wv ws % d < d := Nat.mod_lt _ hd
      have hW : WSl wr (.slice (some ⟨w.heap.size, 0, none⟩) ws.length ws.length) Q := WSl.of_blk hPk hQl.symm (by omega)
      have hcan : Can (trm Q) := Can.trm hQs
      have hwt : wv (trm Q) = wv ws / d := by rw [wv_trm, hQv]
      have hlt : (trm Q).length ≤ ws.length := by have := trm_len Q; omega
      have HC := hide hcan
      have HT := hide hwt
      have HL := hide hlt
      clear hcan hwt hlt hQv hQl hQs
      obtain ⟨r, hrr⟩ : ∃ r, wv ws % d = r := ⟨_, rfl⟩
      rw [hrr] at hrl ⊢
      have HR := hide hrr
      clear hrr
      have hwr : IntKind.u32.wrap (r : Int) = (r : Int) := by rw [IntKind.wrap_u32]; omega
      go_wp2_with fail
      refine (trim_ok _ _ _ hW).mono ?_
      rintro e w2 ⟨⟨rv, rfl, hr⟩, rfl⟩
      go_wp2
      go_ret2
      exact ⟨⟨_, _, by rw [HR.out]; rfl, hr, HC.out, HT.out, HL.out⟩, hBk⟩
    · obtain ⟨j, rfl⟩ : ∃ j, k = j + 1 := ⟨k - 1, by omega⟩
      have hlt : j < ws.length := by omega
      obtain rfl := ha (by omega)
      have hgl : g < w.heap.size := World.block_lt_of_cell? w ⟨g, 0, none⟩ (hc 0 (by omega))
      have hcx : wr.cell? ⟨g, j, none⟩ = some (.int .u32 ((ws[j]?.getD 0 : Nat) : Int)) := by
        rw [← hc j hlt]; simp [World.cell?, hBk.block g hgl]
      have hp1 : ws[j]?.getD 0 < 4294967296 := by rw [List.getElem?_eq_getElem hlt]; exact hws _ (List.getElem_mem hlt)
      have hvd := wv_drop ws hlt
      have hst := div_step (X := wv (ws.drop (j + 1))) (a := ws[j]?.getD 0) hd
      rw [← hvd] at hst
      have hrl : wv (ws.drop (j + 1)) % d < d := Nat.mod_lt _ hd
      have hcj : wr.cell? ⟨w.heap.size, j, none⟩ = some (.int .u32 ((Q[j]?.getD 0 : Nat) : Int)) := by
        rw [hPk.cell j]; unfold wds; rw [List.getElem?_map, List.getElem?_eq_getElem (by omega)]; rfl
      have hfj := hPk.frozen j
      have hQd := wv_drop Q (k := j) (by omega)
      generalize Q[j]?.getD 0 = old at hcj
      obtain ⟨r, hr⟩ : ∃ r, wv (ws.drop (j + 1)) % d = r := ⟨_, rfl⟩
      rw [hr] at hst hrl
      rw [hr]
      generalize ws[j]?.getD 0 = p at *
      obtain ⟨hst1, hst2⟩ := hst
      have HST1 := hide hst1
      have HST2 := hide hst2
      have HQV := hide hQv
      have HQL := hide hQl
      clear hvd hst1 hst2 hr hQd hQv hQl
      have hji : ((j + 1 : Nat) : Int) - 1 = (j : Int) := by omega
      rw [hji]
      have hri : (r : Int) < 4294967296 := by omega
      have hpi : (p : Int) < 4294967296 := by omega
      have hor := or_join r p (by omega) hp1
      obtain ⟨t, ht⟩ : ∃ t, r * 4294967296 + p = t := ⟨_, rfl⟩
      rw [ht] at hor HST1 HST2
      have htl : t < d * 4294967296 := by
        have : (r + 1) * 4294967296 ≤ d * 4294967296 := Nat.mul_le_mul_right _ hrl
        omega
      have hq : t / d < 4294967296 := Nat.div_lt_of_lt_mul htl
      have hqd : (t : Int).tdiv (d : Int) = ((t / d : Nat) : Int) := by rw [Int.tdiv_eq_ediv_of_nonneg (by omega)]; rfl
      have hqm : (t : Int).tmod (d : Int) = ((t % d : Nat) : Int) := by rw [Int.tmod_eq_emod_of_nonneg (by omega)]; rfl
      have hml : t % d < d := Nat.mod_lt _ hd
      obtain ⟨q, hqq⟩ : ∃ q, t / d = q := ⟨_, rfl⟩
      rw [hqq] at hq hqd HST1
      obtain ⟨m, hmm⟩ : ∃ m, t % d = m := ⟨_, rfl⟩
      rw [hmm] at hqm hml HST2
      have hw1 : IntKind.u64.wrap (q : Int) = (q : Int) := by rw [IntKind.wrap_u64]; omega
      have hw2 : (q : Int) % 4294967296 = (q : Int) := by omega
      clear hqq hmm ht htl
      go_wp2
      refine ⟨⟨j, Q.set j q, by omega, rfl, by rw [HST2.out], by rw [List.length_set]; exact HQL.out, fun z hz => ?_, ?_, ?_, ?_⟩, by simp [intOf]⟩
      · rcases List.mem_or_eq_of_mem_set hz with h | h
        · exact hQs z h
        · omega
      · have hjq : j < (Q.set j q).length := by rw [List.length_set, HQL.out]; exact hlt
        rw [wv_drop _ hjq, List.getElem?_set_self (by rw [HQL.out]; exact hlt), List.drop_set_of_lt (by omega)]
        simp only [Option.getD_some]
        rw [HQV.out]; exact HST1.out
      · have := hPk.set j (.int .u32 (q : Int))
        unfold wds at this ⊢
        rwa [List.map_set]
      · exact hBk.setCell (by simp) _
end Go.Proofs.YtojnjfkonaeegaaDoorQ

namespace Go.Proofs.YtojnjfkonaeegaaDoorQ
open Go Go.RowKit

theorem wv_set : ∀ (l : List Nat) (k x : Nat), k < l.length → wv (l.set k x) + l[k]?.getD 0 * 4294967296 ^ k = wv l + x * 4294967296 ^ k
  | [], k, x, h => by simp at h
  | p :: l, 0, x, _ => by simp [wv]; omega
  | p :: l, k + 1, x, h => by
    have ih := wv_set l k x (by simpa using h)
    simp only [List.set_cons_succ, wv, List.getElem?_cons_succ]
    rw [Nat.pow_succ]
    grind
theorem wv_take : ∀ (l : List Nat) (k : Nat), k < l.length → wv (l.take (k + 1)) = wv (l.take k) + l[k]?.getD 0 * 4294967296 ^ k := by
  intro l k h
  rw [List.take_succ_eq_append_getElem h, wv_app, List.length_take, Nat.min_eq_left (by omega), List.getElem?_eq_getElem h]
  simp [wv]; rw [Nat.mul_comm]
/-- One step of the product. -/
theorem mul_step {W R R' W0 ai bj wb c Rk t BI BJ : Nat} (h1 : R + c * (BI * BJ) = W0 + ai * BI * wb) (ht : c + (ai * bj + Rk) = t) (h2 : R' + Rk * (BI * BJ) = R + t % 4294967296 * (BI * BJ)) (hW : W = wb + bj * BJ) :
    R' + t / 4294967296 * (BI * (BJ * 4294967296)) = W0 + ai * BI * W := by
  have h3 := Nat.div_add_mod t 4294967296
  subst hW
  generalize t / 4294967296 = q at *
  generalize t % 4294967296 = m at *
  grind

set_option maxRecDepth 100000 in
set_option maxHeartbeats 8000000 in
theorem mul_w (u v : Value) (la lb : List Nat) (w : World) (hu : WSl w u la) (hv : WSl w v lb) (hla : ∀ p, p ∈ la → p < 4294967296) (hlb : ∀ p, p ∈ lb → p < 4294967296) (hl : la.length + lb.length ≤ 10000000) :
    Calls Tryd.prog 41 #[u, v] w fun e w' => (∃ r ws, e = .returned r ∧ WSl w' r ws ∧ Can ws ∧ wv ws = wv la * wv lb ∧ ws.length ≤ la.length + lb.length) ∧ Below w.heap.size w w' := by
  obtain ⟨i0, hi, hz0, hz1, hz2⟩ := info_parts info97
  obtain ⟨a, g, cap, rfl, hcap, hcm, ha, hc, _⟩ := hu.take
  obtain ⟨a', g', cap', rfl, hcap', hcm', ha', hc', _⟩ := hv.take
  rcases Nat.eq_zero_or_pos la.length with h0 | hpa
  · have e := List.length_eq_zero_iff.1 h0
    subst e
    go_enter Tryd.func41, Tryd.ntmps41
    go_wp2
    go_ret
    exact ⟨⟨_, [], rfl, WSl.nil w, ⟨by simp, by simp⟩, by simp [wv], by simp⟩, Below.refl _ _⟩
  · have hai : ¬ ((la.length : Int) = 0) := by omega
    have haib : ((la.length : Int) == 0) = false := by simpa using hai
    rcases Nat.eq_zero_or_pos lb.length with h0 | hpb
    · have e := List.length_eq_zero_iff.1 h0
      subst e
      go_enter Tryd.func41, Tryd.ntmps41
      go_wp2
      go_ret
      exact ⟨⟨_, [], rfl, WSl.nil w, ⟨by simp, by simp⟩, by simp [wv], by simp⟩, Below.refl _ _⟩
    · have hbi : ¬ ((lb.length : Int) = 0) := by omega
      have hbib : ((lb.length : Int) == 0) = false := by simpa using hbi
      obtain rfl := ha hpa
      obtain rfl := ha' hpb
      have hgl : g < w.heap.size := World.block_lt_of_cell? w ⟨g, 0, none⟩ (hc 0 hpa)
      have hgl' : g' < w.heap.size := World.block_lt_of_cell? w ⟨g', 0, none⟩ (hc' 0 hpb)
      obtain ⟨n, hn⟩ : ∃ n, la.length = n := ⟨_, rfl⟩
      obtain ⟨m, hm⟩ : ∃ m, lb.length = m := ⟨_, rfl⟩
      have hta : la.take n = la := by rw [← hn, List.take_length]
      have htb : lb.take m = lb := by rw [← hm, List.take_length]
      rw [hn] at hpa hai haib hc hl hcap
      rw [hm] at hpb hbi hbib hc' hl hcap'
      have HN := hide hn
      have HM := hide hm
      obtain ⟨sm, hsm⟩ : ∃ sm, n + m = sm := ⟨_, rfl⟩
      have hml : sm ≤ maxLen := by unfold maxLen; omega
      have hnm : (n : Int) + (m : Int) = (sm : Int) := by omega
      have HSM := hide hsm
      have hsl : sm ≤ 10000000 := by omega
      have hng : n ≤ sm := by omega
      have hmg : m ≤ sm := by omega
      rw [hn, hm, hsm]
      clear hn hm hu hv ha ha' hsm hl
      go_enter Tryd.func41, Tryd.ntmps41
      go_wp2_with (first
        | (at_make; refine wpList_make_full _ rfl _ _ 44 rfl w.heap.size 97 i0 (.int .u32 0) 1 under55 hi hz0 hz1 _ _ _ _ sm rfl rfl rfl rfl (by rw [hz2]; omega) hml (Nat.le_refl _) ?_))
      intro w1 hown hg
      have hP : Blk w1 w.heap.size 97 (wds (List.replicate sm 0)) := by
        have := Blk.of_owns hown
        rw [made_rep] at this
        unfold wds; rw [List.map_replicate]; exact this
      have hB1 : Below w.heap.size w w1 := (Below.refl _ w).grown hg (Nat.le_refl _) (by simp)
      clear hown hg
      have hz9 : wv (List.replicate sm 0) = 0 := by
        have : ∀ k, wv (List.replicate k 0) = 0 := by
          intro k
          induction k with
          | zero => rfl
          | succ k ih => rw [List.replicate_succ, wv, ih]
        exact this _
      go_wp2
      go_loopw [6] (fun iv wr => ∃ (i : Nat) (R : List Nat), i ≤ n ∧ iv = .int .i64 i ∧ R.length = sm ∧ (∀ p, p ∈ R → p < 4294967296) ∧ (∀ k, i + m ≤ k → R[k]?.getD 0 = 0) ∧ wv R = wv (la.take i) * wv lb ∧ Blk wr w.heap.size 97 (wds R) ∧ Below w.heap.size w wr)
        (fun iv _ => n - (intOf iv).toNat)
      case atStart => exact ⟨0, List.replicate sm 0, Nat.zero_le _, rfl, by simp, by simp, fun k _ => by
        rw [List.getElem?_replicate]; split <;> rfl, by rw [hz9]; simp [wv], hP, hB1⟩
      case round =>
        obtain ⟨i, R, hi9, rfl, hRl, hRs, hRz, hRv, hPi, hBi⟩ := hrel
        obtain ⟨wo, rfl⟩ : ∃ wo, wo = wr := ⟨_, rfl⟩
        clear hP hB1 hz9
        by_cases hlt : i < n
        · have HLT := hide hlt
          have hlti : (i : Int) < (n : Int) := by omega
          have hai9 : la[i]?.getD 0 < 4294967296 := by rw [List.getElem?_eq_getElem (by rw [HN.out]; exact hlt)]; exact hla _ (List.getElem_mem _)
          have hwt := wv_take la i (by rw [HN.out]; exact hlt)
          have hca := hc i hlt
          obtain ⟨x, hx⟩ : ∃ x, la[i]?.getD 0 = x := ⟨_, rfl⟩
          rw [hx] at hai9 hwt hca
          have HWT := hide hwt
          have HRV := hide hRv
          clear hwt hRv hx
          go_wp2
          go_loopw [7, 8] (fun cv jv wi => ∃ (c j : Nat) (Q : List Nat), j ≤ m ∧ jv = .int .i64 j ∧ cv = .int .u64 (c : Int) ∧ c < 4294967296 ∧ Q.length = sm ∧ (∀ p, p ∈ Q → p < 4294967296) ∧ (∀ k, i + m ≤ k → Q[k]?.getD 0 = 0) ∧ wv Q + c * (4294967296 ^ i * 4294967296 ^ j) = wv (la.take i) * wv lb + x * 4294967296 ^ i * wv (lb.take j) ∧ Blk wi w.heap.size 97 (wds Q) ∧ Below w.heap.size w wi)
            (fun _ jv _ => m - (intOf jv).toNat)
          case atStart => exact ⟨0, 0, R, Nat.zero_le _, rfl, rfl, by omega, hRl, hRs, hRz, by rw [HRV.out]; simp [wv], hPi, hBi⟩
          case round =>
            obtain ⟨c, j, Q, hj9, rfl, rfl, hcl, hQl, hQs, hQz, hQv, hPj, hBj⟩ := hrel
            clear hPi hBi hRl hRs hRz
            have hcell : ∀ k, k < sm → wr.cell? ⟨w.heap.size, k, none⟩ = some (.int .u32 ((Q[k]?.getD 0 : Nat) : Int)) := fun k hk => by
              rw [hPj.cell k]; unfold wds; rw [List.getElem?_map, List.getElem?_eq_getElem (by omega)]; rfl
            by_cases hjl : j < m
            · have hjli : (j : Int) < (m : Int) := by omega
              have HJL := hide hjl
              have hbj9 : lb[j]?.getD 0 < 4294967296 := by rw [List.getElem?_eq_getElem (by rw [HM.out]; exact hjl)]; exact hlb _ (List.getElem_mem _)
              have hwtb := wv_take lb j (by rw [HM.out]; exact hjl)
              have hcb : wr.cell? ⟨g', j, none⟩ = some (.int .u32 ((lb[j]?.getD 0 : Nat) : Int)) := by
                rw [← hc' j hjl]; simp [World.cell?, hBj.block g' hgl']
              have hca2 : wr.cell? ⟨g, i, none⟩ = some (.int .u32 (x : Int)) := by
                rw [← hca]; simp [World.cell?, hBj.block g hgl]
              have hQk : Q[i + j]?.getD 0 < 4294967296 := by rw [List.getElem?_eq_getElem (by have := HSM.out; omega)]; exact hQs _ (List.getElem_mem _)
              have hcq := hcell (i + j) (by have := HSM.out; omega)
              have hfq := hPj.frozen (i + j)
              have hst := fun z => wv_set Q (i + j) z (by have := HSM.out; omega)
              obtain ⟨y, hy⟩ : ∃ y, lb[j]?.getD 0 = y := ⟨_, rfl⟩
              rw [hy] at hbj9 hwtb hcb
              obtain ⟨q, hq⟩ : ∃ q, Q[i + j]?.getD 0 = q := ⟨_, rfl⟩
              rw [hq] at hQk hcq
              simp only [hq, Nat.pow_add] at hst
              obtain ⟨xy, hxy⟩ : ∃ xy, x * y = xy := ⟨_, rfl⟩
              have hxyl : xy ≤ 4294967295 * 4294967295 := by rw [← hxy]; exact Nat.mul_le_mul (by omega) (by omega)
              have hxyi : (x : Int) * (y : Int) = (xy : Int) := by rw [← hxy, Int.natCast_mul]
              obtain ⟨t, ht⟩ : ∃ t, c + (xy + q) = t := ⟨_, rfl⟩
              have hti : (c : Int) + ((xy : Int) + (q : Int)) = (t : Int) := by omega
              have htl : t < 18446744073709551616 := by omega
              have hms := mul_step hQv (by rw [← hxy] at ht; exact ht) (hst (t % 4294967296)) hwtb
              obtain ⟨ij, hij⟩ : ∃ ij, i + j = ij := ⟨_, rfl⟩
              have hiji : (i : Int) + (j : Int) = (ij : Int) := by omega
              have hijl : (ij : Int) < (sm : Int) := by have := HSM.out; omega
              rw [hij] at hcq hfq
              have HIJ := hide hij
              clear hij
              have hw1 : IntKind.u64.wrap ((xy : Int) + (q : Int)) = (xy : Int) + (q : Int) := by rw [IntKind.wrap_u64]; omega
              have HMS := hide hms
              have HTT := hide ht
              have HQ := hide hq
              clear hst hwtb hy hq hxy ht hms hQv hcell
              go_wp2_with fail
              go_quiet (fail)
              have hPd : Blk (wr.drewN nq) w.heap.size 97 (wds Q) := hPj
              have hBd : Below w.heap.size w (wr.drewN nq) := bdrewN hBj nq
              generalize wr.drewN nq = wd at *
              clear hPj hBj hcb hca2 hcq hfq
              have hcq : wd.cell? ⟨w.heap.size, ij, none⟩ = some (.int .u32 (q : Int)) := by
                have h1 : Q[ij]?.getD 0 = q := by rw [← HIJ.out]; exact HQ.out
                rw [hPd.cell ij]; unfold wds; rw [List.getElem?_map, List.getElem?_eq_getElem (by have := HSM.out; have := HIJ.out; omega)]
                rw [List.getElem?_eq_getElem (by have := HSM.out; have := HIJ.out; omega)] at h1
                simp only [Option.getD_some] at h1
                rw [← h1]; rfl
              have hfq := hPd.frozen ij
              obtain ⟨m9, hm9⟩ : ∃ m9, t % 4294967296 = m9 := ⟨_, rfl⟩
              obtain ⟨q9, hq9⟩ : ∃ q9, t / 4294967296 = q9 := ⟨_, rfl⟩
              have hm9i : (t : Int) % 4294967296 = (m9 : Int) := by omega
              have hq9i : (t : Int) / 4294967296 = (q9 : Int) := by omega
              have hm9l : m9 < 4294967296 := by omega
              have hq9l : q9 < 4294967296 := by omega
              have hP2 := hPd.set ij (.int .u32 (m9 : Int))
              rw [show (wds Q).set ij (.int .u32 (m9 : Int)) = wds (Q.set ij m9) by unfold wds; rw [List.map_set]] at hP2
              have hB2 : Below w.heap.size w (wd.setCell ⟨w.heap.size, ij, none⟩ (.int .u32 (m9 : Int))) := hBd.setCell (Nat.le_refl _) _
              have hpw : 4294967296 ^ (j + 1) = 4294967296 ^ j * 4294967296 := Nat.pow_succ _ _
              have hv2 : wv (Q.set ij m9) + q9 * (4294967296 ^ i * 4294967296 ^ (j + 1)) = wv (la.take i) * wv lb + x * 4294967296 ^ i * wv (lb.take (j + 1)) := by
                have h1 := HMS.out
                rw [HIJ.out, hm9, hq9] at h1
                rw [hpw]; exact h1
              have HV2 := hide hv2
              clear hv2 hpw hPd hm9 hq9
              go_wp2
              go_roundw
              case rel => exact ⟨q9, j + 1, Q.set ij m9, by have := HJL.out; omega, by go_num, rfl, hq9l, by rw [List.length_set]; exact hQl, fun z hz => by
                rcases List.mem_or_eq_of_mem_set hz with h | h
                · exact hQs z h
                · omega, fun k hk => by
                rw [List.getElem?_set_ne (by have := HIJ.out; have := HJL.out; omega)]; exact hQz k hk, HV2.out, hP2, hB2⟩
              case measure => have := HJL.out; simp [intOf]; omega
            · have hjm : j = m := by omega
              subst hjm
              obtain ⟨im, him⟩ : ∃ im, i + j = im := ⟨_, rfl⟩
              have himi : (i : Int) + (j : Int) = (im : Int) := by omega
              have himl : (im : Int) < (sm : Int) := by have := HSM.out; have := HLT.out; omega
              have himn : im < sm := by omega
              have hcq : wr.cell? ⟨w.heap.size, im, none⟩ = some (.int .u32 0) := by
                rw [hcell im himn, hQz im (by omega)]; rfl
              have hfq := hPj.frozen im
              have hst := wv_set Q im c (by omega)
              rw [hQz im (by omega), Nat.zero_mul, Nat.add_zero] at hst
              have hv2 : wv (Q.set im c) = wv (la.take (i + 1)) * wv lb := by
                rw [hst, HWT.out, ← him, Nat.pow_add, Nat.add_mul]
                rw [htb] at hQv
                rw [hQv]
              have hP2 := hPj.set im (.int .u32 (c : Int))
              rw [show (wds Q).set im (.int .u32 (c : Int)) = wds (Q.set im c) by unfold wds; rw [List.map_set]] at hP2
              have hB2 : Below w.heap.size w (wr.setCell ⟨w.heap.size, im, none⟩ (.int .u32 (c : Int))) := hBj.setCell (Nat.le_refl _) _
              have hcm9 : (c : Int) % 4294967296 = (c : Int) := by omega
              have HV2 := hide hv2
              have HIM := hide him
              clear hv2 hst hPj hQv him hcell
              go_wp2
              go_roundw
              case rel => exact ⟨i + 1, Q.set im c, by have := HLT.out; omega, by go_num, by rw [List.length_set]; exact hQl, fun z hz => by
                rcases List.mem_or_eq_of_mem_set hz with h | h
                · exact hQs z h
                · omega, fun k hk => by
                rw [List.getElem?_set_ne (by have := HIM.out; omega)]; exact hQz k (by omega), HV2.out, hP2, hB2⟩
              case measure => have := HLT.out; simp [intOf]; omega
        · have hin : i = n := by omega
          subst hin
          rw [hta] at hRv
          have hW : WSl wo (.slice (some ⟨w.heap.size, 0, none⟩) sm sm) R := WSl.of_blk hPi hRl.symm (by omega)
          have hcan := Can.trm hRs
          have hlen := trm_len R
          have HV := hide hRv
          have HC := hide hcan
          have HL := hide hlen
          clear hRv hcan hlen
          go_wp2_with fail
          refine (trim_ok _ _ _ hW).mono ?_
          rintro e w2 ⟨⟨r, rfl, hr⟩, rfl⟩
          go_wp2
          go_ret
          exact ⟨⟨_, _, rfl, hr, HC.out, by rw [wv_trm, HV.out], by have := HL.out; omega⟩, hBi⟩
end Go.Proofs.YtojnjfkonaeegaaDoorQ

namespace Go.Proofs.YtojnjfkonaeegaaDoorQ
open Go Go.RowKit

theorem zmul_sign (x y : Int) : x * y = if (decide (x < 0) != decide (y < 0)) = true then -((x.natAbs * y.natAbs : Nat) : Int) else ((x.natAbs * y.natAbs : Nat) : Int) := by
  rw [Int.natCast_mul]
  rcases Int.lt_or_le x 0 with hx | hx <;> rcases Int.lt_or_le y 0 with hy | hy
  · rw [decide_eq_true hx, decide_eq_true hy, Int.ofNat_natAbs_of_nonpos (by omega), Int.ofNat_natAbs_of_nonpos (by omega)]; simp; grind
  · rw [decide_eq_true hx, decide_eq_false (by omega), Int.ofNat_natAbs_of_nonpos (by omega), Int.natAbs_of_nonneg hy]; simp; grind
  · rw [decide_eq_false (by omega), decide_eq_true hy, Int.ofNat_natAbs_of_nonpos (a := y) (by omega), Int.natAbs_of_nonneg hx]; simp; grind
  · rw [decide_eq_false (by omega), decide_eq_false (by omega), Int.natAbs_of_nonneg hx, Int.natAbs_of_nonneg hy]; simp
/-- grownBy behind a world that only grew. -/
theorem gb_after {A B C : World} {b : Nat} (h : Below A.heap.size A B) (g : B.grownBy C (some b)) : A.grownBy C (some b) :=
  ⟨g.os.trans h.os, g.tape.trans h.tape, g.output.trans h.output, Nat.le_trans h.size g.size, fun k hk hne => (g.block k (Nat.lt_of_lt_of_le hk h.size) hne).trans (h.block k hk)⟩
theorem gb_of_below {A B : World} {row : Option Nat} (h : Below A.heap.size A B) : A.grownBy B row := ⟨h.os, h.tape, h.output, h.size, fun k hk _ => h.block k hk⟩

set_option maxRecDepth 100000 in
set_option maxHeartbeats 16000000 in
theorem zmul_ok (bz bx by_ mx my : Nat) (x y : Int) (zx zy : Value) (w : World) (hZ0 : Blk w bz 46 [zx, zy]) (hx : BigZ w bx x mx) (hy : BigZ w by_ y my) (hne : by_ ≠ bz) (hm : mx + my ≤ 10000000) :
    Calls Tryd.prog 25 #[.pointer (some ⟨bz, 0, none⟩), .pointer (some ⟨bx, 0, none⟩), .pointer (some ⟨by_, 0, none⟩)] w fun e w' => e = .returned (.pointer (some ⟨bz, 0, none⟩)) ∧ BigZ w' bz (x * y) (mx + my) ∧ w.grownBy w' (some bz) := by
  obtain ⟨vx, lx, hX0, hWx, hcx, hvx, hlx⟩ := hx
  obtain ⟨vy, ly, hY0, hWy, hcy, hvy, hly⟩ := hy
  obtain ⟨ax, cx, rfl⟩ := hWx.shape
  obtain ⟨ay, cy, rfl⟩ := hWy.shape
  have hsg := zmul_sign x y
  obtain ⟨xn, hxn⟩ : ∃ xn, decide (x < 0) = xn := ⟨_, rfl⟩
  obtain ⟨yn, hyn⟩ : ∃ yn, decide (y < 0) = yn := ⟨_, rfl⟩
  rw [hxn] at hX0 hsg
  rw [hyn] at hY0 hsg
  rw [← hvx, ← hvy] at hsg
  have HM := hide (fun (W : World) (h1 : WSl W (.slice ax lx.length cx) lx) (h2 : WSl W (.slice ay ly.length cy) ly) => mul_w _ _ lx ly W h1 h2 hcx.lt hcy.lt (by omega))
  have HFIN := hide (fun (W1 W2 : World) (r : Value) (ws : List Nat)  (hb : Below w.drew.heap.size w.drew W1) (hz : Blk W1 bz 46 [zx, zy]) (hr : WSl W1 r ws) (hf : Can ws ∧ wv ws = wv lx * wv ly ∧ ws.length ≤ lx.length + ly.length) (hz2 : Blk W2 bz 46 [.bool ((xn != yn) && decide (0 < ws.length)), r]) (hg2 : W1.grownBy W2 (some bz)) =>
    show (BigZ W2 bz (x * y) (mx + my) ∧ w.grownBy W2 (some bz)) from
      ⟨BigZ.given hz hz2 hg2 hr hf.1 (by have := hf.2.2; omega) (by rw [hf.2.1]; exact hsg), gb_after ⟨hb.os, hb.tape, hb.output, hb.size, hb.block⟩ hg2⟩)
  clear hsg hxn hyn hcx hcy hvx hvy hlx hly
  have hX : Blk w.drew bx 46 [.bool xn, .slice ax lx.length cx] := hX0
  have hY : Blk w.drew by_ 46 [.bool yn, .slice ay ly.length cy] := hY0
  have hZ : Blk w.drew bz 46 [zx, zy] := hZ0
  have cx0 : w.drew.cell? ⟨bx, 0, none⟩ = some (.bool xn) := hX.cell 0
  have cx1 : w.drew.cell? ⟨bx, 1, none⟩ = some (.slice ax lx.length cx) := hX.cell 1
  have hBc : Below w.drew.heap.size w.drew w.drew := Below.refl _ _
  have HWX := hide (fun (W : World) (h : Below w.drew.heap.size w.drew W) => WSl.below (hWx.kept (W' := w.drew) (fun _ _ _ _ => rfl)) h)
  have HWY := hide (fun (W : World) (h : Below w.drew.heap.size w.drew W) => WSl.below (hWy.kept (W' := w.drew) (fun _ _ _ _ => rfl)) h)
  clear hX0 hY0 hZ0 hWx hWy
  go_enter Tryd.func25, Tryd.ntmps25
  go_wp2
  have hS : ∀ W, w.drew.grownBy W (some bz) → (w.drew.grownBy W (some bz) ∧ W.cell? ⟨by_, 0, none⟩ = some (.bool yn) ∧ W.cell? ⟨by_, 1, none⟩ = some (.slice ay ly.length cy)) := fun W h =>
    have hYW : Blk W by_ 46 [.bool yn, .slice ay ly.length cy] := hY.grown h (by simpa using hne)
    ⟨h, hYW.cell 0, hYW.cell 1⟩
  refine wp_region_held_drew (S := fun W => w.drew.grownBy W (some bz) ∧ W.cell? ⟨by_, 0, none⟩ = some (.bool yn) ∧ W.cell? ⟨by_, 1, none⟩ = some (.slice ay ly.length cy)) (by kernel_rfl) (hS _ (gb_refl _ _)) (fun hHeld => ?_)
  generalize w.drew = wd at *
  refine wpAnyH_take (i := 0) (oi := ({ dst := some 7, op := Go.Op.move (Go.Operand.tmp 0), type := 41, pos := _, after := _, guard := none } : Oper)) (v := ?_) rfl (by kernel_rfl) (by kernel_rfl) (by kernel_rfl) (fun _ _ _ h => h) (Or.inl ⟨by rfl, ?_⟩) (by assumption) ?_
  rotate_left
  · (intro w hSw; (try dsimp only at hSw); go_simp; try with_reducible rfl)
  simp only [Act.put, List.setIfInBounds_toArray, List.set_cons_zero, List.set_cons_succ]
  refine wpAnyH_take (i := 1) (oi := ({ dst := some 8, op := Go.Op.move (Go.Operand.tmp 1), type := 41, pos := _, after := _, guard := none } : Oper)) (v := ?_) rfl (by kernel_rfl) (by kernel_rfl) (by kernel_rfl) (fun _ _ _ h => h) (Or.inl ⟨by rfl, ?_⟩) (by assumption) ?_
  rotate_left
  · (intro w hSw; (try dsimp only at hSw); go_simp; try with_reducible rfl)
  simp only [Act.put, List.setIfInBounds_toArray, List.set_cons_zero, List.set_cons_succ]
  refine wpAnyH_take (i := 2) (oi := ({ dst := some 9, op := Go.Op.nilCheck (Go.Operand.tmp 8), type := 0, pos := _, after := _, guard := none } : Oper)) (v := ?_) rfl (by kernel_rfl) (by kernel_rfl) (by kernel_rfl) (fun _ _ _ h => h) (Or.inl ⟨by rfl, ?_⟩) (by assumption) ?_
  rotate_left
  · (intro w hSw; (try dsimp only at hSw); go_simp; try with_reducible rfl)
  simp only [Act.put, List.setIfInBounds_toArray, List.set_cons_zero, List.set_cons_succ]
  refine wpAnyH_take (i := 3) (oi := ({ dst := some 10, op := Go.Op.fieldAddr 46 (Go.Operand.tmp 9) 0, type := 0, pos := _, after := _, guard := none } : Oper)) (v := ?_) rfl (by kernel_rfl) (by kernel_rfl) (by kernel_rfl) (fun _ _ _ h => h) (Or.inl ⟨by rfl, ?_⟩) (by assumption) ?_
  rotate_left
  · (intro w hSw; (try dsimp only at hSw); go_simp; try with_reducible rfl)
  simp only [Act.put, List.setIfInBounds_toArray, List.set_cons_zero, List.set_cons_succ]
  refine wpAnyH_take (i := 5) (oi := ({ dst := some 12, op := Go.Op.move (Go.Operand.tmp 2), type := 41, pos := _, after := _, guard := none } : Oper)) (v := ?_) rfl (by kernel_rfl) (by kernel_rfl) (by kernel_rfl) (fun _ _ _ h => h) (Or.inl ⟨by rfl, ?_⟩) (by assumption) ?_
  rotate_left
  · (intro w hSw; (try dsimp only at hSw); go_simp; try with_reducible rfl)
  simp only [Act.put, List.setIfInBounds_toArray, List.set_cons_zero, List.set_cons_succ]
  refine wpAnyH_take (i := 6) (oi := ({ dst := some 13, op := Go.Op.nilCheck (Go.Operand.tmp 12), type := 0, pos := _, after := _, guard := none } : Oper)) (v := ?_) rfl (by kernel_rfl) (by kernel_rfl) (by kernel_rfl) (fun _ _ _ h => h) (Or.inl ⟨by rfl, ?_⟩) (by assumption) ?_
  rotate_left
  · (intro w hSw; (try dsimp only at hSw); go_simp; try with_reducible rfl)
  simp only [Act.put, List.setIfInBounds_toArray, List.set_cons_zero, List.set_cons_succ]
  refine wpAnyH_take (i := 7) (oi := ({ dst := some 14, op := Go.Op.fieldAddr 46 (Go.Operand.tmp 13) 0, type := 0, pos := _, after := _, guard := none } : Oper)) (v := ?_) rfl (by kernel_rfl) (by kernel_rfl) (by kernel_rfl) (fun _ _ _ h => h) (Or.inl ⟨by rfl, ?_⟩) (by assumption) ?_
  rotate_left
  · (intro w hSw; (try dsimp only at hSw); go_simp; try with_reducible rfl)
  simp only [Act.put, List.setIfInBounds_toArray, List.set_cons_zero, List.set_cons_succ]
  refine wpAnyH_take (i := 8) (oi := ({ dst := some 15, op := Go.Op.load 4 (Go.Operand.tmp 14), type := 4, pos := _, after := _, guard := none } : Oper)) (v := ?_) rfl (by kernel_rfl) (by kernel_rfl) (by kernel_rfl) (fun _ _ _ h => h) (Or.inl ⟨by rfl, ?_⟩) (by assumption) ?_
  rotate_left
  · (intro w hSw; (try dsimp only at hSw); go_simp; try with_reducible rfl)
  simp only [Act.put, List.setIfInBounds_toArray, List.set_cons_zero, List.set_cons_succ]
  refine wpAnyH_take (i := 10) (oi := ({ dst := some 17, op := Go.Op.move (Go.Operand.tmp 1), type := 41, pos := _, after := _, guard := none } : Oper)) (v := ?_) rfl (by kernel_rfl) (by kernel_rfl) (by kernel_rfl) (fun _ _ _ h => h) (Or.inl ⟨by rfl, ?_⟩) (by assumption) ?_
  rotate_left
  · (intro w hSw; (try dsimp only at hSw); go_simp; try with_reducible rfl)
  simp only [Act.put, List.setIfInBounds_toArray, List.set_cons_zero, List.set_cons_succ]
  refine wpAnyH_take (i := 11) (oi := ({ dst := some 18, op := Go.Op.nilCheck (Go.Operand.tmp 17), type := 0, pos := _, after := _, guard := none } : Oper)) (v := ?_) rfl (by kernel_rfl) (by kernel_rfl) (by kernel_rfl) (fun _ _ _ h => h) (Or.inl ⟨by rfl, ?_⟩) (by assumption) ?_
  rotate_left
  · (intro w hSw; (try dsimp only at hSw); go_simp; try with_reducible rfl)
  simp only [Act.put, List.setIfInBounds_toArray, List.set_cons_zero, List.set_cons_succ]
  refine wpAnyH_take (i := 12) (oi := ({ dst := some 19, op := Go.Op.fieldAddr 46 (Go.Operand.tmp 18) 1, type := 0, pos := _, after := _, guard := none } : Oper)) (v := ?_) rfl (by kernel_rfl) (by kernel_rfl) (by kernel_rfl) (fun _ _ _ h => h) (Or.inl ⟨by rfl, ?_⟩) (by assumption) ?_
  rotate_left
  · (intro w hSw; (try dsimp only at hSw); go_simp; try with_reducible rfl)
  simp only [Act.put, List.setIfInBounds_toArray, List.set_cons_zero, List.set_cons_succ]
  refine wpAnyH_take (i := 14) (oi := ({ dst := some 21, op := Go.Op.move (Go.Operand.tmp 2), type := 41, pos := _, after := _, guard := none } : Oper)) (v := ?_) rfl (by kernel_rfl) (by kernel_rfl) (by kernel_rfl) (fun _ _ _ h => h) (Or.inl ⟨by rfl, ?_⟩) (by assumption) ?_
  rotate_left
  · (intro w hSw; (try dsimp only at hSw); go_simp; try with_reducible rfl)
  simp only [Act.put, List.setIfInBounds_toArray, List.set_cons_zero, List.set_cons_succ]
  refine wpAnyH_take (i := 15) (oi := ({ dst := some 22, op := Go.Op.nilCheck (Go.Operand.tmp 21), type := 0, pos := _, after := _, guard := none } : Oper)) (v := ?_) rfl (by kernel_rfl) (by kernel_rfl) (by kernel_rfl) (fun _ _ _ h => h) (Or.inl ⟨by rfl, ?_⟩) (by assumption) ?_
  rotate_left
  · (intro w hSw; (try dsimp only at hSw); go_simp; try with_reducible rfl)
  simp only [Act.put, List.setIfInBounds_toArray, List.set_cons_zero, List.set_cons_succ]
  refine wpAnyH_take (i := 16) (oi := ({ dst := some 23, op := Go.Op.fieldAddr 46 (Go.Operand.tmp 22) 1, type := 0, pos := _, after := _, guard := none } : Oper)) (v := ?_) rfl (by kernel_rfl) (by kernel_rfl) (by kernel_rfl) (fun _ _ _ h => h) (Or.inl ⟨by rfl, ?_⟩) (by assumption) ?_
  rotate_left
  · (intro w hSw; (try dsimp only at hSw); go_simp; try with_reducible rfl)
  simp only [Act.put, List.setIfInBounds_toArray, List.set_cons_zero, List.set_cons_succ]
  refine wpAnyH_take (i := 17) (oi := ({ dst := some 24, op := Go.Op.load 44 (Go.Operand.tmp 23), type := 44, pos := _, after := _, guard := none } : Oper)) (v := ?_) rfl (by kernel_rfl) (by kernel_rfl) (by kernel_rfl) (fun _ _ _ h => h) (Or.inl ⟨by rfl, ?_⟩) (by assumption) ?_
  rotate_left
  · (intro w hSw; (try dsimp only at hSw); go_simp; try with_reducible rfl)
  simp only [Act.put, List.setIfInBounds_toArray, List.set_cons_zero, List.set_cons_succ]
  refine wpAnyH_ready (rs := [4, 13]) (by kernel_rfl) (by simp) (AllReadyH.cons (o := ({ dst := some 11, op := Go.Op.load 4 (Go.Operand.tmp 10), type := 4, pos := _, after := _, guard := none } : Oper)) rfl (fun KK hK => ?_) (AllReadyH.cons (o := ({ dst := some 20, op := Go.Op.load 44 (Go.Operand.tmp 19), type := 44, pos := _, after := _, guard := none } : Oper)) rfl (fun KK hK => ?_) AllReadyH.nil))
  · go_simp
    refine hK.out _ _ (hS _ (gb_of_below hBc)) (fun hHeld => ?_)
    clear hK
    try simp only [Act.put, List.setIfInBounds_toArray, List.set_cons_zero, List.set_cons_succ]
    refine wpAnyH_take (i := 9) (oi := ({ dst := some 16, op := Go.Op.binOp Go.BinOp.neq 4 (Go.Operand.tmp 11) (Go.Operand.tmp 15) 4, type := 4, pos := _, after := _, guard := none } : Oper)) (v := ?_) rfl (by kernel_rfl) (by kernel_rfl) (by kernel_rfl) (fun _ _ _ h => h) (Or.inl ⟨by rfl, ?_⟩) (by assumption) ?_
    rotate_left
    · (intro w hSw; (try dsimp only at hSw); go_simp; try with_reducible rfl)
    simp only [Act.put, List.setIfInBounds_toArray, List.set_cons_zero, List.set_cons_succ]
    refine wpAnyH_ready (rs := [13]) (by kernel_rfl) (by simp) (AllReadyH.cons (o := ({ dst := some 20, op := Go.Op.load 44 (Go.Operand.tmp 19), type := 44, pos := _, after := _, guard := none } : Oper)) rfl (fun KK hK => ?_) AllReadyH.nil)
    go_simp
    refine hK.out _ _ (hS _ (gb_of_below hBc)) (fun hHeld => ?_)
    clear hK
    try simp only [Act.put, List.setIfInBounds_toArray, List.set_cons_zero, List.set_cons_succ]
    refine wpAnyH_ready (rs := [18]) (by kernel_rfl) (by simp) (AllReadyH.cons (o := ({ dst := some 25, op := Go.Op.call { callee := Go.Callee.value (Go.Operand.func 41), args := #[Go.Operand.tmp 20, Go.Operand.tmp 24], argTypes := #[44, 44] }, type := 44, pos := _, after := _, guard := none } : Oper)) rfl (fun KK hK => ?_) AllReadyH.nil)
    go_simp
    refine (HM.out _ (HWX.out _ hBc) (HWY.out _ hBc)).mono ?_
    rintro e W1 ⟨⟨r, ws, rfl, hr, hfin⟩, hb1⟩
    replace hX : Blk W1 bx 46 [.bool xn, .slice ax lx.length cx] := hX.of_eq (hb1.block _ hX.lt)
    replace hZ : Blk W1 bz 46 [zx, zy] := hZ.of_eq (hb1.block _ hZ.lt)
    replace cx0 : W1.cell? ⟨bx, 0, none⟩ = some (.bool xn) := hX.cell 0
    replace cx1 : W1.cell? ⟨bx, 1, none⟩ = some (.slice ax lx.length cx) := hX.cell 1
    replace hBc := bcat2 hBc hb1
    try go_wp2_with fail
    refine hK.out _ _ (hS _ (gb_of_below hBc)) (fun hHeld => ?_)
    clear hK
    try simp only [Act.put, List.setIfInBounds_toArray, List.set_cons_zero, List.set_cons_succ]
    refine wpAnyH_ready (rs := [19]) (by kernel_rfl) (by simp) (AllReadyH.cons (o := ({ dst := some 26, op := Go.Op.call { callee := Go.Callee.value (Go.Operand.func 37), args := #[Go.Operand.tmp 7, Go.Operand.tmp 16, Go.Operand.tmp 25], argTypes := #[41, 4, 44] }, type := 41, pos := _, after := _, guard := none } : Oper)) rfl (fun KK hK => ?_) AllReadyH.nil)
    go_simp
    refine (give_ok bz (xn != yn) zx zy r ws _ hZ hr).mono ?_
    rintro e W2 ⟨rfl, hz2, hg2⟩
    try go_wp2_with fail
    refine hK.out _ _ (hS _ (gb_after hBc hg2)) (fun hHeld => ?_)
    clear hK
    try simp only [Act.put, List.setIfInBounds_toArray, List.set_cons_zero, List.set_cons_succ]
    refine wpAnyH_take (i := 20) (oi := ({ dst := some 6, op := Go.Op.assign (Go.Operand.tmp 26), type := 41, pos := _, after := _, guard := none } : Oper)) (v := ?_) rfl (by kernel_rfl) (by kernel_rfl) (by kernel_rfl) (fun _ _ _ h => h) (Or.inl ⟨by rfl, ?_⟩) (by assumption) ?_
    rotate_left
    · (intro w hSw; (try dsimp only at hSw); go_simp; try with_reducible rfl)
    simp only [Act.put, List.setIfInBounds_toArray, List.set_cons_zero, List.set_cons_succ]
    refine wpAnyH_done (by kernel_rfl) ?_ _
    go_wp2
    go_ret
    exact ⟨rfl, HFIN.out _ _ _ _ hBc hZ hr hfin hz2 hg2⟩
  go_simp
  refine hK.out _ _ (hS _ (gb_of_below hBc)) (fun hHeld => ?_)
  clear hK
  try simp only [Act.put, List.setIfInBounds_toArray, List.set_cons_zero, List.set_cons_succ]
  refine wpAnyH_ready (rs := [4, 18]) (by kernel_rfl) (by simp) (AllReadyH.cons (o := ({ dst := some 11, op := Go.Op.load 4 (Go.Operand.tmp 10), type := 4, pos := _, after := _, guard := none } : Oper)) rfl (fun KK hK => ?_) (AllReadyH.cons (o := ({ dst := some 25, op := Go.Op.call { callee := Go.Callee.value (Go.Operand.func 41), args := #[Go.Operand.tmp 20, Go.Operand.tmp 24], argTypes := #[44, 44] }, type := 44, pos := _, after := _, guard := none } : Oper)) rfl (fun KK hK => ?_) AllReadyH.nil))
  · go_simp
    refine hK.out _ _ (hS _ (gb_of_below hBc)) (fun hHeld => ?_)
    clear hK
    try simp only [Act.put, List.setIfInBounds_toArray, List.set_cons_zero, List.set_cons_succ]
    refine wpAnyH_take (i := 9) (oi := ({ dst := some 16, op := Go.Op.binOp Go.BinOp.neq 4 (Go.Operand.tmp 11) (Go.Operand.tmp 15) 4, type := 4, pos := _, after := _, guard := none } : Oper)) (v := ?_) rfl (by kernel_rfl) (by kernel_rfl) (by kernel_rfl) (fun _ _ _ h => h) (Or.inl ⟨by rfl, ?_⟩) (by assumption) ?_
    rotate_left
    · (intro w hSw; (try dsimp only at hSw); go_simp; try with_reducible rfl)
    simp only [Act.put, List.setIfInBounds_toArray, List.set_cons_zero, List.set_cons_succ]
    refine wpAnyH_ready (rs := [18]) (by kernel_rfl) (by simp) (AllReadyH.cons (o := ({ dst := some 25, op := Go.Op.call { callee := Go.Callee.value (Go.Operand.func 41), args := #[Go.Operand.tmp 20, Go.Operand.tmp 24], argTypes := #[44, 44] }, type := 44, pos := _, after := _, guard := none } : Oper)) rfl (fun KK hK => ?_) AllReadyH.nil)
    go_simp
    refine (HM.out _ (HWX.out _ hBc) (HWY.out _ hBc)).mono ?_
    rintro e W1 ⟨⟨r, ws, rfl, hr, hfin⟩, hb1⟩
    replace hX : Blk W1 bx 46 [.bool xn, .slice ax lx.length cx] := hX.of_eq (hb1.block _ hX.lt)
    replace hZ : Blk W1 bz 46 [zx, zy] := hZ.of_eq (hb1.block _ hZ.lt)
    replace cx0 : W1.cell? ⟨bx, 0, none⟩ = some (.bool xn) := hX.cell 0
    replace cx1 : W1.cell? ⟨bx, 1, none⟩ = some (.slice ax lx.length cx) := hX.cell 1
    replace hBc := bcat2 hBc hb1
    try go_wp2_with fail
    refine hK.out _ _ (hS _ (gb_of_below hBc)) (fun hHeld => ?_)
    clear hK
    try simp only [Act.put, List.setIfInBounds_toArray, List.set_cons_zero, List.set_cons_succ]
    refine wpAnyH_ready (rs := [19]) (by kernel_rfl) (by simp) (AllReadyH.cons (o := ({ dst := some 26, op := Go.Op.call { callee := Go.Callee.value (Go.Operand.func 37), args := #[Go.Operand.tmp 7, Go.Operand.tmp 16, Go.Operand.tmp 25], argTypes := #[41, 4, 44] }, type := 41, pos := _, after := _, guard := none } : Oper)) rfl (fun KK hK => ?_) AllReadyH.nil)
    go_simp
    refine (give_ok bz (xn != yn) zx zy r ws _ hZ hr).mono ?_
    rintro e W2 ⟨rfl, hz2, hg2⟩
    try go_wp2_with fail
    refine hK.out _ _ (hS _ (gb_after hBc hg2)) (fun hHeld => ?_)
    clear hK
    try simp only [Act.put, List.setIfInBounds_toArray, List.set_cons_zero, List.set_cons_succ]
    refine wpAnyH_take (i := 20) (oi := ({ dst := some 6, op := Go.Op.assign (Go.Operand.tmp 26), type := 41, pos := _, after := _, guard := none } : Oper)) (v := ?_) rfl (by kernel_rfl) (by kernel_rfl) (by kernel_rfl) (fun _ _ _ h => h) (Or.inl ⟨by rfl, ?_⟩) (by assumption) ?_
    rotate_left
    · (intro w hSw; (try dsimp only at hSw); go_simp; try with_reducible rfl)
    simp only [Act.put, List.setIfInBounds_toArray, List.set_cons_zero, List.set_cons_succ]
    refine wpAnyH_done (by kernel_rfl) ?_ _
    go_wp2
    go_ret
    exact ⟨rfl, HFIN.out _ _ _ _ hBc hZ hr hfin hz2 hg2⟩
  go_simp
  refine (HM.out _ (HWX.out _ hBc) (HWY.out _ hBc)).mono ?_
  rintro e W1 ⟨⟨r, ws, rfl, hr, hfin⟩, hb1⟩
  replace hX : Blk W1 bx 46 [.bool xn, .slice ax lx.length cx] := hX.of_eq (hb1.block _ hX.lt)
  replace hZ : Blk W1 bz 46 [zx, zy] := hZ.of_eq (hb1.block _ hZ.lt)
  replace cx0 : W1.cell? ⟨bx, 0, none⟩ = some (.bool xn) := hX.cell 0
  replace cx1 : W1.cell? ⟨bx, 1, none⟩ = some (.slice ax lx.length cx) := hX.cell 1
  replace hBc := bcat2 hBc hb1
  try go_wp2_with fail
  refine hK.out _ _ (hS _ (gb_of_below hBc)) (fun hHeld => ?_)
  clear hK
  try simp only [Act.put, List.setIfInBounds_toArray, List.set_cons_zero, List.set_cons_succ]
  refine wpAnyH_ready (rs := [4]) (by kernel_rfl) (by simp) (AllReadyH.cons (o := ({ dst := some 11, op := Go.Op.load 4 (Go.Operand.tmp 10), type := 4, pos := _, after := _, guard := none } : Oper)) rfl (fun KK hK => ?_) AllReadyH.nil)
  go_simp
  refine hK.out _ _ (hS _ (gb_of_below hBc)) (fun hHeld => ?_)
  clear hK
  try simp only [Act.put, List.setIfInBounds_toArray, List.set_cons_zero, List.set_cons_succ]
  refine wpAnyH_take (i := 9) (oi := ({ dst := some 16, op := Go.Op.binOp Go.BinOp.neq 4 (Go.Operand.tmp 11) (Go.Operand.tmp 15) 4, type := 4, pos := _, after := _, guard := none } : Oper)) (v := ?_) rfl (by kernel_rfl) (by kernel_rfl) (by kernel_rfl) (fun _ _ _ h => h) (Or.inl ⟨by rfl, ?_⟩) (by assumption) ?_
  rotate_left
  · (intro w hSw; (try dsimp only at hSw); go_simp; try with_reducible rfl)
  simp only [Act.put, List.setIfInBounds_toArray, List.set_cons_zero, List.set_cons_succ]
  refine wpAnyH_ready (rs := [19]) (by kernel_rfl) (by simp) (AllReadyH.cons (o := ({ dst := some 26, op := Go.Op.call { callee := Go.Callee.value (Go.Operand.func 37), args := #[Go.Operand.tmp 7, Go.Operand.tmp 16, Go.Operand.tmp 25], argTypes := #[41, 4, 44] }, type := 41, pos := _, after := _, guard := none } : Oper)) rfl (fun KK hK => ?_) AllReadyH.nil)
  go_simp
  refine (give_ok bz (xn != yn) zx zy r ws _ hZ hr).mono ?_
  rintro e W2 ⟨rfl, hz2, hg2⟩
  try go_wp2_with fail
  refine hK.out _ _ (hS _ (gb_after hBc hg2)) (fun hHeld => ?_)
  clear hK
  try simp only [Act.put, List.setIfInBounds_toArray, List.set_cons_zero, List.set_cons_succ]
  refine wpAnyH_take (i := 20) (oi := ({ dst := some 6, op := Go.Op.assign (Go.Operand.tmp 26), type := 41, pos := _, after := _, guard := none } : Oper)) (v := ?_) rfl (by kernel_rfl) (by kernel_rfl) (by kernel_rfl) (fun _ _ _ h => h) (Or.inl ⟨by rfl, ?_⟩) (by assumption) ?_
  rotate_left
  · (intro w hSw; (try dsimp only at hSw); go_simp; try with_reducible rfl)
  simp only [Act.put, List.setIfInBounds_toArray, List.set_cons_zero, List.set_cons_succ]
  refine wpAnyH_done (by kernel_rfl) ?_ _
  go_wp2
  go_ret
  exact ⟨rfl, HFIN.out _ _ _ _ hBc hZ hr hfin hz2 hg2⟩
end Go.Proofs.YtojnjfkonaeegaaDoorQ

namespace Go.Proofs.YtojnjfkonaeegaaDoorQ
open Go Go.RowKit

theorem wv_rep (k : Nat) : wv (List.replicate k 0) = 0 := by
  induction k with
  | zero => rfl
  | succ k ih => rw [List.replicate_succ, wv, ih]

set_option maxRecDepth 100000 in
set_option maxHeartbeats 8000000 in
theorem add_w (u v : Value) (la lb : List Nat) (w : World) (hu : WSl w u la) (hv : WSl w v lb) (hla : ∀ p, p ∈ la → p < 4294967296) (hlb : ∀ p, p ∈ lb → p < 4294967296) (hl : la.length + lb.length ≤ 10000000) :
    Calls Tryd.prog 54 #[u, v] w fun e w' => (∃ r ws, e = .returned r ∧ WSl w' r ws ∧ Can ws ∧ wv ws = wv la + wv lb ∧ ws.length ≤ max la.length lb.length + 1) ∧ Below w.heap.size w w' := by
  obtain ⟨i0, hi, hz0, hz1, hz2⟩ := info_parts info97
  obtain ⟨a, g, cap, rfl, hcap, hcm, ha, hc, _⟩ := hu.take
  obtain ⟨a', g', cap', rfl, hcap', hcm', ha', hc', _⟩ := hv.take
  obtain ⟨n, hn⟩ : ∃ n, la.length = n := ⟨_, rfl⟩
  obtain ⟨m, hm⟩ : ∃ m, lb.length = m := ⟨_, rfl⟩
  have hgl : 0 < n → g < w.heap.size := fun h => World.block_lt_of_cell? w ⟨g, 0, none⟩ (hc 0 (by omega))
  have hgl' : 0 < m → g' < w.heap.size := fun h => World.block_lt_of_cell? w ⟨g', 0, none⟩ (hc' 0 (by omega))
  rw [hn] at hc hl hcap ha
  rw [hm] at hc' hl hcap' ha'
  have HN := hide hn
  have HM := hide hm
  rw [hn, hm]
  clear hn hm hu hv
  by_cases hnm9 : n < m
  · have hnmi : (n : Int) < (m : Int) := by omega
    have hmx : max n m = m := by omega
    rw [hmx]
    have hle : n ≤ m := by omega
    obtain ⟨sm, hsm⟩ : ∃ sm, m + 1 = sm := ⟨_, rfl⟩
    have hml : sm ≤ maxLen := by unfold maxLen; omega
    have hnm : (m : Int) + 1 = (sm : Int) := by omega
    have HSM := hide hsm
    have hsl : sm ≤ 10000001 := by omega
    have hng : m ≤ sm := by omega
    clear hsm
    go_enter Tryd.func54, Tryd.ntmps54
    go_wp2_with (first
      | (at_make; refine wpList_make_full _ rfl _ _ 44 rfl w.heap.size 97 i0 (.int .u32 0) 1 under55 hi hz0 hz1 _ _ _ _ sm rfl rfl rfl rfl (by rw [hz2]; omega) hml (Nat.le_refl _) ?_))
    intro w1 hown hg
    have hP : Blk w1 w.heap.size 97 (wds (List.replicate sm 0)) := by
      have := Blk.of_owns hown
      rw [made_rep] at this
      unfold wds; rw [List.map_replicate]; exact this
    have hB1 : Below w.heap.size w w1 := (Below.refl _ w).grown hg (Nat.le_refl _) (by simp)
    clear hown hg
    go_wp2
    go_loopw [6, 7] (fun cv iv wr => ∃ (c i : Nat) (R : List Nat), i ≤ m ∧ iv = .int .i64 i ∧ cv = .int .u64 (c : Int) ∧ c ≤ 1 ∧ R.length = sm ∧ (∀ p, p ∈ R → p < 4294967296) ∧ (∀ k, i ≤ k → R[k]?.getD 0 = 0) ∧ wv R + c * 4294967296 ^ i = wv (lb.take i) + wv (la.take i) ∧ Blk wr w.heap.size 97 (wds R) ∧ Below w.heap.size w wr)
      (fun _ iv _ => m - (intOf iv).toNat)
    case atStart => exact ⟨0, 0, List.replicate sm 0, Nat.zero_le _, rfl, rfl, by omega, by simp, by simp, fun k _ => by
      rw [List.getElem?_replicate]; split <;> rfl, by rw [wv_rep]; simp [wv], hP, hB1⟩
    case round =>
      obtain ⟨c, i, R, hi9, rfl, rfl, hcl, hRl, hRs, hRz, hRv, hPi, hBi⟩ := hrel
      clear hP hB1
      have hcell : ∀ k, k < sm → wr.cell? ⟨w.heap.size, k, none⟩ = some (.int .u32 ((R[k]?.getD 0 : Nat) : Int)) := fun k hk => by
        rw [hPi.cell k]; unfold wds; rw [List.getElem?_map, List.getElem?_eq_getElem (by omega)]; rfl
      by_cases hlt : i < m
      · obtain rfl := ha' (by omega)
        have HLT := hide hlt
        have hlti : (i : Int) < (m : Int) := by omega
        have hai9 : lb[i]?.getD 0 < 4294967296 := by rw [List.getElem?_eq_getElem (by rw [HM.out]; exact hlt)]; exact hlb _ (List.getElem_mem _)
        have hwt := wv_take lb i (by rw [HM.out]; exact hlt)
        have hca2 : wr.cell? ⟨g', i, none⟩ = some (.int .u32 ((lb[i]?.getD 0 : Nat) : Int)) := by
          rw [← hc' i hlt]; simp [World.cell?, hBi.block g' (hgl' (by omega))]
        have hcr : wr.cell? ⟨w.heap.size, i, none⟩ = some (.int .u32 0) := by
          rw [hcell i (by omega), hRz i (Nat.le_refl _)]; rfl
        have hfr := hPi.frozen i
        have hst := fun z => wv_set R i z (by omega)
        simp only [hRz i (Nat.le_refl _), Nat.zero_mul, Nat.add_zero] at hst
        have hiss : i < sm := by omega
        obtain ⟨x, hx⟩ : ∃ x, lb[i]?.getD 0 = x := ⟨_, rfl⟩
        rw [hx] at hai9 hwt hca2
        have fin : ∀ (y t : Nat), t = c + x + y → wv (la.take (i + 1)) = wv (la.take i) + y * 4294967296 ^ i → y < 4294967296 → ∀ (V : World), V = wr →
            ∃ m9 q9 : Nat, (t : Int) % 4294967296 = (m9 : Int) ∧ (t : Int) / 4294967296 = (q9 : Int) ∧ q9 ≤ 1 ∧ m9 < 4294967296 ∧ wv (R.set i m9) + q9 * 4294967296 ^ (i + 1) = wv (lb.take (i + 1)) + wv (la.take (i + 1)) ∧ Blk (V.setCell ⟨w.heap.size, i, none⟩ (.int .u32 (m9 : Int))) w.heap.size 97 (wds (R.set i m9)) ∧ Below w.heap.size w (V.setCell ⟨w.heap.size, i, none⟩ (.int .u32 (m9 : Int))) := by
          rintro y t rfl hy hyl V rfl
          refine ⟨(c + x + y) % 4294967296, (c + x + y) / 4294967296, by omega, by omega, by omega, by omega, ?_, ?_, hBi.setCell (Nat.le_refl _) _⟩
          · have h3 := Nat.div_add_mod (c + x + y) 4294967296
            rw [hst, hwt, hy, Nat.pow_succ]
            generalize (c + x + y) / 4294967296 = q at *
            generalize (c + x + y) % 4294967296 = m at *
            generalize 4294967296 ^ i = BI at *
            have e : q * (BI * 4294967296) + m * BI = (c + x + y) * BI := by rw [← h3]; grind
            grind
          · have := hPi.set i (.int .u32 (((c + x + y) % 4294967296 : Nat) : Int))
            rwa [show (wds R).set i (.int .u32 (((c + x + y) % 4294967296 : Nat) : Int)) = wds (R.set i ((c + x + y) % 4294967296)) by unfold wds; rw [List.map_set]] at this
        have HF := hide fin
        have HRZ := hide hRz
        clear fin hst hwt hx hRv hcell hRz
        by_cases hjl : i < n
        · obtain rfl := ha (by omega)
          have hjli : (i : Int) < (n : Int) := by omega
          have hbj9 : la[i]?.getD 0 < 4294967296 := by rw [List.getElem?_eq_getElem (by rw [HN.out]; exact hjl)]; exact hla _ (List.getElem_mem _)
          have hwtb := wv_take la i (by rw [HN.out]; exact hjl)
          have hcb : wr.cell? ⟨g, i, none⟩ = some (.int .u32 ((la[i]?.getD 0 : Nat) : Int)) := by
            rw [← hc i hjl]; simp [World.cell?, hBi.block g (hgl (by omega))]
          obtain ⟨y, hy⟩ : ∃ y, la[i]?.getD 0 = y := ⟨_, rfl⟩
          rw [hy] at hbj9 hwtb hcb
          obtain ⟨t, ht⟩ : ∃ t, t = c + x + y := ⟨_, rfl⟩
          obtain ⟨m9, q9, k1, k2, k3, k4, k5, k6, k7⟩ := HF.out y t ht hwtb hbj9 wr rfl
          have hti : (c : Int) + (x : Int) + (y : Int) = (t : Int) := by omega
          have hw0 : IntKind.u64.wrap ((c : Int) + (x : Int)) = (c : Int) + (x : Int) := by rw [IntKind.wrap_u64]; omega
          have htl : (t : Int) < 18446744073709551616 := by omega
          have K5 := hide k5
          clear hwtb hy ht k5
          go_wp2
          go_roundw
          case rel => exact ⟨q9, i + 1, R.set i m9, by have := HLT.out; omega, by go_num, rfl, k3, by rw [List.length_set]; exact hRl, fun z hz => by
            rcases List.mem_or_eq_of_mem_set hz with h | h
            · exact hRs z h
            · omega, fun k hk => by
            rw [List.getElem?_set_ne (by omega)]; exact HRZ.out k (by omega), K5.out, k6, k7⟩
          case measure => have := HLT.out; simp [intOf]; omega
        · have hjni : ¬ (i : Int) < (n : Int) := by omega
          have hwtb : wv (la.take (i + 1)) = wv (la.take i) + 0 * 4294967296 ^ i := by
            rw [List.take_of_length_le (by have := HN.out; omega), List.take_of_length_le (by have := HN.out; omega)]; simp
          obtain ⟨t, ht⟩ : ∃ t, t = c + x + 0 := ⟨_, rfl⟩
          obtain ⟨m9, q9, k1, k2, k3, k4, k5, k6, k7⟩ := HF.out 0 t ht hwtb (by omega) wr rfl
          have hti : (c : Int) + (x : Int) = (t : Int) := by omega
          have htl : (t : Int) < 18446744073709551616 := by omega
          have K5 := hide k5
          clear hwtb ht k5
          go_wp2
          go_roundw
          case rel => exact ⟨q9, i + 1, R.set i m9, by have := HLT.out; omega, by go_num, rfl, k3, by rw [List.length_set]; exact hRl, fun z hz => by
            rcases List.mem_or_eq_of_mem_set hz with h | h
            · exact hRs z h
            · omega, fun k hk => by
            rw [List.getElem?_set_ne (by omega)]; exact HRZ.out k (by omega), K5.out, k6, k7⟩
          case measure => have := HLT.out; simp [intOf]; omega
      · have hin : i = m := by omega
        subst hin
        have hcq9 : wr.cell? ⟨w.heap.size, i, none⟩ = some (.int .u32 0) := by
          rw [hcell i (by omega), hRz i (Nat.le_refl _)]; rfl
        have hfq := hPi.frozen i
        have hst := wv_set R i c (by omega)
        rw [hRz i (Nat.le_refl _), Nat.zero_mul, Nat.add_zero, hRv, List.take_of_length_le (l := lb) (by rw [HM.out]; exact Nat.le_refl _), List.take_of_length_le (l := la) (by rw [HN.out]; omega)] at hst
        have hP2 := hPi.set i (.int .u32 (c : Int))
        rw [show (wds R).set i (.int .u32 (c : Int)) = wds (R.set i c) by unfold wds; rw [List.map_set]] at hP2
        have hB2 : Below w.heap.size w (wr.setCell ⟨w.heap.size, i, none⟩ (.int .u32 (c : Int))) := hBi.setCell (Nat.le_refl _) _
        have hcm9 : (c : Int) % 4294967296 = (c : Int) := by omega
        have hiss : i < sm := by omega
        have hW : WSl (wr.setCell ⟨w.heap.size, i, none⟩ (.int .u32 (c : Int))) (.slice (some ⟨w.heap.size, 0, none⟩) sm sm) (R.set i c) := WSl.of_blk hP2 (by rw [List.length_set, hRl]) (by rw [List.length_set]; omega)
        have hRs2 : ∀ z, z ∈ R.set i c → z < 4294967296 := fun z hz => by
          rcases List.mem_or_eq_of_mem_set hz with h | h
          · exact hRs z h
          · omega
        have hcan := Can.trm hRs2
        have hlen := trm_len (R.set i c)
        rw [List.length_set, hRl] at hlen
        have HV := hide hst
        have HC := hide hcan
        have HL := hide hlen
        clear hst hcan hlen hRv hPi hP2 hRs2 hcell hRz
        go_wp2_with fail
        refine (trim_ok _ _ _ hW).mono ?_
        rintro e w2 ⟨⟨r, rfl, hr⟩, rfl⟩
        go_wp2
        go_ret
        exact ⟨⟨_, _, rfl, hr, HC.out, by rw [wv_trm, HV.out, Nat.add_comm], by have := HL.out; have := HSM.out; omega⟩, hB2⟩
  · have hnmi : ¬ (n : Int) < (m : Int) := by omega
    have hmx : max n m = n := by omega
    rw [hmx]
    have hle : m ≤ n := by omega
    obtain ⟨sm, hsm⟩ : ∃ sm, n + 1 = sm := ⟨_, rfl⟩
    have hml : sm ≤ maxLen := by unfold maxLen; omega
    have hnm : (n : Int) + 1 = (sm : Int) := by omega
    have HSM := hide hsm
    have hsl : sm ≤ 10000001 := by omega
    have hng : n ≤ sm := by omega
    clear hsm
    go_enter Tryd.func54, Tryd.ntmps54
    go_wp2_with (first
      | (at_make; refine wpList_make_full _ rfl _ _ 44 rfl w.heap.size 97 i0 (.int .u32 0) 1 under55 hi hz0 hz1 _ _ _ _ sm rfl rfl rfl rfl (by rw [hz2]; omega) hml (Nat.le_refl _) ?_))
    intro w1 hown hg
    have hP : Blk w1 w.heap.size 97 (wds (List.replicate sm 0)) := by
      have := Blk.of_owns hown
      rw [made_rep] at this
      unfold wds; rw [List.map_replicate]; exact this
    have hB1 : Below w.heap.size w w1 := (Below.refl _ w).grown hg (Nat.le_refl _) (by simp)
    clear hown hg
    go_wp2
    go_loopw [6, 7] (fun cv iv wr => ∃ (c i : Nat) (R : List Nat), i ≤ n ∧ iv = .int .i64 i ∧ cv = .int .u64 (c : Int) ∧ c ≤ 1 ∧ R.length = sm ∧ (∀ p, p ∈ R → p < 4294967296) ∧ (∀ k, i ≤ k → R[k]?.getD 0 = 0) ∧ wv R + c * 4294967296 ^ i = wv (la.take i) + wv (lb.take i) ∧ Blk wr w.heap.size 97 (wds R) ∧ Below w.heap.size w wr)
      (fun _ iv _ => n - (intOf iv).toNat)
    case atStart => exact ⟨0, 0, List.replicate sm 0, Nat.zero_le _, rfl, rfl, by omega, by simp, by simp, fun k _ => by
      rw [List.getElem?_replicate]; split <;> rfl, by rw [wv_rep]; simp [wv], hP, hB1⟩
    case round =>
      obtain ⟨c, i, R, hi9, rfl, rfl, hcl, hRl, hRs, hRz, hRv, hPi, hBi⟩ := hrel
      clear hP hB1
      have hcell : ∀ k, k < sm → wr.cell? ⟨w.heap.size, k, none⟩ = some (.int .u32 ((R[k]?.getD 0 : Nat) : Int)) := fun k hk => by
        rw [hPi.cell k]; unfold wds; rw [List.getElem?_map, List.getElem?_eq_getElem (by omega)]; rfl
      by_cases hlt : i < n
      · obtain rfl := ha (by omega)
        have HLT := hide hlt
        have hlti : (i : Int) < (n : Int) := by omega
        have hai9 : la[i]?.getD 0 < 4294967296 := by rw [List.getElem?_eq_getElem (by rw [HN.out]; exact hlt)]; exact hla _ (List.getElem_mem _)
        have hwt := wv_take la i (by rw [HN.out]; exact hlt)
        have hca2 : wr.cell? ⟨g, i, none⟩ = some (.int .u32 ((la[i]?.getD 0 : Nat) : Int)) := by
          rw [← hc i hlt]; simp [World.cell?, hBi.block g (hgl (by omega))]
        have hcr : wr.cell? ⟨w.heap.size, i, none⟩ = some (.int .u32 0) := by
          rw [hcell i (by omega), hRz i (Nat.le_refl _)]; rfl
        have hfr := hPi.frozen i
        have hst := fun z => wv_set R i z (by omega)
        simp only [hRz i (Nat.le_refl _), Nat.zero_mul, Nat.add_zero] at hst
        have hiss : i < sm := by omega
        obtain ⟨x, hx⟩ : ∃ x, la[i]?.getD 0 = x := ⟨_, rfl⟩
        rw [hx] at hai9 hwt hca2
        have fin : ∀ (y t : Nat), t = c + x + y → wv (lb.take (i + 1)) = wv (lb.take i) + y * 4294967296 ^ i → y < 4294967296 → ∀ (V : World), V = wr →
            ∃ m9 q9 : Nat, (t : Int) % 4294967296 = (m9 : Int) ∧ (t : Int) / 4294967296 = (q9 : Int) ∧ q9 ≤ 1 ∧ m9 < 4294967296 ∧ wv (R.set i m9) + q9 * 4294967296 ^ (i + 1) = wv (la.take (i + 1)) + wv (lb.take (i + 1)) ∧ Blk (V.setCell ⟨w.heap.size, i, none⟩ (.int .u32 (m9 : Int))) w.heap.size 97 (wds (R.set i m9)) ∧ Below w.heap.size w (V.setCell ⟨w.heap.size, i, none⟩ (.int .u32 (m9 : Int))) := by
          rintro y t rfl hy hyl V rfl
          refine ⟨(c + x + y) % 4294967296, (c + x + y) / 4294967296, by omega, by omega, by omega, by omega, ?_, ?_, hBi.setCell (Nat.le_refl _) _⟩
          · have h3 := Nat.div_add_mod (c + x + y) 4294967296
            rw [hst, hwt, hy, Nat.pow_succ]
            generalize (c + x + y) / 4294967296 = q at *
            generalize (c + x + y) % 4294967296 = m at *
            generalize 4294967296 ^ i = BI at *
            have e : q * (BI * 4294967296) + m * BI = (c + x + y) * BI := by rw [← h3]; grind
            grind
          · have := hPi.set i (.int .u32 (((c + x + y) % 4294967296 : Nat) : Int))
            rwa [show (wds R).set i (.int .u32 (((c + x + y) % 4294967296 : Nat) : Int)) = wds (R.set i ((c + x + y) % 4294967296)) by unfold wds; rw [List.map_set]] at this
        have HF := hide fin
        have HRZ := hide hRz
        clear fin hst hwt hx hRv hcell hRz
        by_cases hjl : i < m
        · obtain rfl := ha' (by omega)
          have hjli : (i : Int) < (m : Int) := by omega
          have hbj9 : lb[i]?.getD 0 < 4294967296 := by rw [List.getElem?_eq_getElem (by rw [HM.out]; exact hjl)]; exact hlb _ (List.getElem_mem _)
          have hwtb := wv_take lb i (by rw [HM.out]; exact hjl)
          have hcb : wr.cell? ⟨g', i, none⟩ = some (.int .u32 ((lb[i]?.getD 0 : Nat) : Int)) := by
            rw [← hc' i hjl]; simp [World.cell?, hBi.block g' (hgl' (by omega))]
          obtain ⟨y, hy⟩ : ∃ y, lb[i]?.getD 0 = y := ⟨_, rfl⟩
          rw [hy] at hbj9 hwtb hcb
          obtain ⟨t, ht⟩ : ∃ t, t = c + x + y := ⟨_, rfl⟩
          obtain ⟨m9, q9, k1, k2, k3, k4, k5, k6, k7⟩ := HF.out y t ht hwtb hbj9 wr rfl
          have hti : (c : Int) + (x : Int) + (y : Int) = (t : Int) := by omega
          have hw0 : IntKind.u64.wrap ((c : Int) + (x : Int)) = (c : Int) + (x : Int) := by rw [IntKind.wrap_u64]; omega
          have htl : (t : Int) < 18446744073709551616 := by omega
          have K5 := hide k5
          clear hwtb hy ht k5
          go_wp2
          go_roundw
          case rel => exact ⟨q9, i + 1, R.set i m9, by have := HLT.out; omega, by go_num, rfl, k3, by rw [List.length_set]; exact hRl, fun z hz => by
            rcases List.mem_or_eq_of_mem_set hz with h | h
            · exact hRs z h
            · omega, fun k hk => by
            rw [List.getElem?_set_ne (by omega)]; exact HRZ.out k (by omega), K5.out, k6, k7⟩
          case measure => have := HLT.out; simp [intOf]; omega
        · have hjni : ¬ (i : Int) < (m : Int) := by omega
          have hwtb : wv (lb.take (i + 1)) = wv (lb.take i) + 0 * 4294967296 ^ i := by
            rw [List.take_of_length_le (by have := HM.out; omega), List.take_of_length_le (by have := HM.out; omega)]; simp
          obtain ⟨t, ht⟩ : ∃ t, t = c + x + 0 := ⟨_, rfl⟩
          obtain ⟨m9, q9, k1, k2, k3, k4, k5, k6, k7⟩ := HF.out 0 t ht hwtb (by omega) wr rfl
          have hti : (c : Int) + (x : Int) = (t : Int) := by omega
          have htl : (t : Int) < 18446744073709551616 := by omega
          have K5 := hide k5
          clear hwtb ht k5
          go_wp2
          go_roundw
          case rel => exact ⟨q9, i + 1, R.set i m9, by have := HLT.out; omega, by go_num, rfl, k3, by rw [List.length_set]; exact hRl, fun z hz => by
            rcases List.mem_or_eq_of_mem_set hz with h | h
            · exact hRs z h
            · omega, fun k hk => by
            rw [List.getElem?_set_ne (by omega)]; exact HRZ.out k (by omega), K5.out, k6, k7⟩
          case measure => have := HLT.out; simp [intOf]; omega
      · have hin : i = n := by omega
        subst hin
        have hcq9 : wr.cell? ⟨w.heap.size, i, none⟩ = some (.int .u32 0) := by
          rw [hcell i (by omega), hRz i (Nat.le_refl _)]; rfl
        have hfq := hPi.frozen i
        have hst := wv_set R i c (by omega)
        rw [hRz i (Nat.le_refl _), Nat.zero_mul, Nat.add_zero, hRv, List.take_of_length_le (l := la) (by rw [HN.out]; exact Nat.le_refl _), List.take_of_length_le (l := lb) (by rw [HM.out]; omega)] at hst
        have hP2 := hPi.set i (.int .u32 (c : Int))
        rw [show (wds R).set i (.int .u32 (c : Int)) = wds (R.set i c) by unfold wds; rw [List.map_set]] at hP2
        have hB2 : Below w.heap.size w (wr.setCell ⟨w.heap.size, i, none⟩ (.int .u32 (c : Int))) := hBi.setCell (Nat.le_refl _) _
        have hcm9 : (c : Int) % 4294967296 = (c : Int) := by omega
        have hiss : i < sm := by omega
        have hW : WSl (wr.setCell ⟨w.heap.size, i, none⟩ (.int .u32 (c : Int))) (.slice (some ⟨w.heap.size, 0, none⟩) sm sm) (R.set i c) := WSl.of_blk hP2 (by rw [List.length_set, hRl]) (by rw [List.length_set]; omega)
        have hRs2 : ∀ z, z ∈ R.set i c → z < 4294967296 := fun z hz => by
          rcases List.mem_or_eq_of_mem_set hz with h | h
          · exact hRs z h
          · omega
        have hcan := Can.trm hRs2
        have hlen := trm_len (R.set i c)
        rw [List.length_set, hRl] at hlen
        have HV := hide hst
        have HC := hide hcan
        have HL := hide hlen
        clear hst hcan hlen hRv hPi hP2 hRs2 hcell hRz
        go_wp2_with fail
        refine (trim_ok _ _ _ hW).mono ?_
        rintro e w2 ⟨⟨r, rfl, hr⟩, rfl⟩
        go_wp2
        go_ret
        exact ⟨⟨_, _, rfl, hr, HC.out, by rw [wv_trm, HV.out], by have := HL.out; have := HSM.out; omega⟩, hB2⟩
end Go.Proofs.YtojnjfkonaeegaaDoorQ

namespace Go.Proofs.YtojnjfkonaeegaaDoorQ
open Go Go.RowKit

/-- How two numbers stand to each other. -/
def cmpN (a b : Nat) : Int := if a < b then -1 else if b < a then 1 else 0
theorem can_len_lt {la lb : List Nat} (ha : Can la) (hb : Can lb) (h : la.length < lb.length) : wv la < wv lb := by
  have h1 := wv_lt la ha.lt
  have hne : lb ≠ [] := fun e => by subst e; simp at h
  have h2 := hb.ge hne
  have h3 : 4294967296 ^ la.length ≤ 4294967296 ^ (lb.length - 1) := Nat.pow_le_pow_right (by omega) (by omega)
  omega
theorem wv_top {la lb : List Nat} (hla : ∀ p, p ∈ la → p < 4294967296) (hl : la.length = lb.length) {j : Nat} (hj : j < la.length) (hd : la.drop (j + 1) = lb.drop (j + 1)) (hlt : la[j]?.getD 0 < lb[j]?.getD 0) : wv la < wv lb := by
  have e1 : la = la.take j ++ la.drop j := (List.take_append_drop j la).symm
  have e2 : lb = lb.take j ++ lb.drop j := (List.take_append_drop j lb).symm
  rw [e1, e2, wv_app, wv_app, wv_drop la hj, wv_drop lb (by omega), hd, List.length_take, List.length_take, hl, Nat.min_eq_left (by omega)]
  have h1 := wv_lt (la.take j) (fun p hp => hla p (List.mem_of_mem_take hp))
  rw [List.length_take, Nat.min_eq_left (by omega)] at h1
  generalize 4294967296 ^ j = B at *
  generalize wv (List.drop (j + 1) lb) = X at *
  have h2 : B * (la[j]?.getD 0 + 1) ≤ B * lb[j]?.getD 0 := Nat.mul_le_mul_left _ hlt
  have e3 : B * (la[j]?.getD 0 + 4294967296 * X) = B * la[j]?.getD 0 + B * (4294967296 * X) := Nat.mul_add _ _ _
  have e4 : B * (lb[j]?.getD 0 + 4294967296 * X) = B * lb[j]?.getD 0 + B * (4294967296 * X) := Nat.mul_add _ _ _
  rw [e3, e4]
  rw [Nat.mul_add, Nat.mul_one] at h2
  omega

set_option maxRecDepth 100000 in
set_option maxHeartbeats 4000000 in
theorem cmp_w (u v : Value) (la lb : List Nat) (w : World) (hu : WSl w u la) (hv : WSl w v lb) (ha9 : Can la) (hb9 : Can lb) (hl : la.length + lb.length ≤ 20000000) :
    Calls Tryd.prog 42 #[u, v] w fun e w' => e = .returned (.int .i64 (cmpN (wv la) (wv lb))) ∧ Below w.heap.size w w' := by
  obtain ⟨a, g, cap, rfl, hcap, hcm, ha, hc, _⟩ := hu.take
  obtain ⟨a', g', cap', rfl, hcap', hcm', ha', hc', _⟩ := hv.take
  rcases Nat.lt_trichotomy la.length lb.length with hll | hll | hll
  · have h := can_len_lt ha9 hb9 hll
    have hr : cmpN (wv la) (wv lb) = -1 := by unfold cmpN; rw [if_pos h]
    rw [hr]
    have h1 : ¬ ((la.length : Int) = (lb.length : Int)) := by omega
    have h2 : (la.length : Int) < (lb.length : Int) := by omega
    go_enter Tryd.func42, Tryd.ntmps42
    go_wp2
    go_ret
    exact ⟨rfl, Below.refl _ _⟩
  · have hlt9 : ∀ j, j < la.length → la.drop (j + 1) = lb.drop (j + 1) → la[j]?.getD 0 < lb[j]?.getD 0 → cmpN (wv la) (wv lb) = -1 := fun j hj hd h => by
      unfold cmpN; rw [if_pos (wv_top ha9.lt hll hj hd h)]
    have hgt9 : ∀ j, j < la.length → la.drop (j + 1) = lb.drop (j + 1) → lb[j]?.getD 0 < la[j]?.getD 0 → cmpN (wv la) (wv lb) = 1 := fun j hj hd h => by
      have := wv_top hb9.lt hll.symm (j := j) (by omega) hd.symm h
      unfold cmpN; rw [if_neg (by omega), if_pos this]
    have heq9 : la = lb → cmpN (wv la) (wv lb) = 0 := fun h => by subst h; unfold cmpN; simp
    obtain ⟨n, hn⟩ : ∃ n, la.length = n := ⟨_, rfl⟩
    have hm : lb.length = n := by omega
    rw [hn] at hc ha hlt9 hgt9
    rw [hm] at hc' ha'
    have hgl : 0 < n → g < w.heap.size := fun h => World.block_lt_of_cell? w ⟨g, 0, none⟩ (hc 0 h)
    have hgl' : 0 < n → g' < w.heap.size := fun h => World.block_lt_of_cell? w ⟨g', 0, none⟩ (hc' 0 h)
    obtain ⟨R, hR⟩ : ∃ R, cmpN (wv la) (wv lb) = R := ⟨_, rfl⟩
    rw [hR] at hlt9 hgt9 heq9 ⊢
    have HLT9 := hide hlt9
    have HGT9 := hide hgt9
    have HEQ9 := hide heq9
    have HN := hide hn
    have HM := hide hm
    have hn20 : n ≤ 20000000 := by omega
    have hdn : la.drop n = lb.drop n := by rw [List.drop_eq_nil_of_le (by omega), List.drop_eq_nil_of_le (by omega)]
    rw [hn, hm]
    clear hn hm hll hR hlt9 hgt9 heq9 hu hv hl
    go_enter Tryd.func42, Tryd.ntmps42
    go_wp2
    go_loopw [5] (fun iv wr => ∃ k : Nat, k ≤ n ∧ iv = .int .i64 ((k : Int) - 1) ∧ la.drop k = lb.drop k ∧ Below w.heap.size w wr) (fun iv _ => (intOf iv + 1).toNat)
    case atStart => exact ⟨n, Nat.le_refl _, rfl, hdn, Below.refl _ _⟩
    case round =>
      obtain ⟨k, hk, rfl, hd, hB⟩ := hrel
      clear hdn
      rcases Nat.eq_zero_or_pos k with rfl | hkp
      · have hR := HEQ9.out (by simpa using hd)
        go_wp2
        go_ret
        exact ⟨by rw [hR]; rfl, hB⟩
      · obtain ⟨j, rfl⟩ : ∃ j, k = j + 1 := ⟨k - 1, by omega⟩
        obtain rfl := ha (by omega)
        obtain rfl := ha' (by omega)
        have hjn : j < n := by omega
        have hji : ((j + 1 : Nat) : Int) - 1 = (j : Int) := by omega
        have hjl : (j : Int) < (n : Int) := by omega
        rw [hji]
        have hcx : ∀ k9, (wr.drewN k9).cell? ⟨g, j, none⟩ = some (.int .u32 ((la[j]?.getD 0 : Nat) : Int)) := fun _ => by
          rw [← hc j hjn]; simp [World.cell?, World.drewN, hB.block g (hgl (by omega))]
        have hcy : ∀ k9, (wr.drewN k9).cell? ⟨g', j, none⟩ = some (.int .u32 ((lb[j]?.getD 0 : Nat) : Int)) := fun _ => by
          rw [← hc' j hjn]; simp [World.cell?, World.drewN, hB.block g' (hgl' (by omega))]
        have HD := hide hd
        have H1 := hide (HLT9.out j hjn hd)
        have H2 := hide (HGT9.out j hjn hd)
        have hde : la[j]?.getD 0 = lb[j]?.getD 0 → la.drop j = lb.drop j := fun h => by
          rw [List.drop_eq_getElem_cons (by rw [HN.out]; exact hjn), List.drop_eq_getElem_cons (l := lb) (by rw [HM.out]; exact hjn), hd]
          congr 1
          simpa [List.getElem?_eq_getElem, HN.out, HM.out, hjn] using h
        have HDE := hide hde
        clear hd hde
        generalize la[j]?.getD 0 = x at *
        generalize lb[j]?.getD 0 = y at *
        have hx0 := hcx 0
        have hy0 := hcy 0
        rw [World.drewN_zero] at hx0 hy0
        rcases Nat.lt_trichotomy x y with hxy | hxy | hxy
        · have hne : ¬ ((x : Int) = (y : Int)) := by omega
          have hlt : (x : Int) < (y : Int) := by omega
          have hR := H1.out hxy
          go_wp2_with fail
          go_quiet (fail)
          have hx1 := hcx nq
          have hy1 := hcy nq
          go_wp2_with fail
          go_quiet (fail)
          go_wp2
          go_ret
          exact ⟨by rw [hR]; rfl, bdrewN (bdrewN hB _) _⟩
        · subst hxy
          have hdd := HDE.out rfl
          have HDD := hide hdd
          clear hdd
          go_wp2_with fail
          go_quiet (fail)
          go_wp2
          go_roundw
          case rel => exact ⟨j, by omega, by go_num, HDD.out, bdrewN hB _⟩
          case measure => simp [intOf]
        · have hne : ¬ ((x : Int) = (y : Int)) := by omega
          have hlt : ¬ (x : Int) < (y : Int) := by omega
          have hR := H2.out hxy
          go_wp2_with fail
          go_quiet (fail)
          have hx1 := hcx nq
          have hy1 := hcy nq
          go_wp2_with fail
          go_quiet (fail)
          go_wp2
          go_ret
          exact ⟨by rw [hR]; rfl, bdrewN (bdrewN hB _) _⟩
  · have h := can_len_lt hb9 ha9 hll
    have hr : cmpN (wv la) (wv lb) = 1 := by unfold cmpN; rw [if_neg (by omega), if_pos h]
    rw [hr]
    have h1 : ¬ ((la.length : Int) = (lb.length : Int)) := by omega
    have h2 : ¬ (la.length : Int) < (lb.length : Int) := by omega
    go_enter Tryd.func42, Tryd.ntmps42
    go_wp2
    go_ret
    exact ⟨rfl, Below.refl _ _⟩
end Go.Proofs.YtojnjfkonaeegaaDoorQ

namespace Go.Proofs.YtojnjfkonaeegaaDoorQ
open Go Go.RowKit

set_option maxRecDepth 100000 in
set_option maxHeartbeats 8000000 in
theorem sub_w (u v : Value) (la lb : List Nat) (w : World) (hu : WSl w u la) (hv : WSl w v lb) (hla : ∀ p, p ∈ la → p < 4294967296) (hlb : ∀ p, p ∈ lb → p < 4294967296) (hl : la.length ≤ 10000000) (hml9 : lb.length ≤ la.length) (hle9 : wv lb ≤ wv la) :
    Calls Tryd.prog 56 #[u, v] w fun e w' => (∃ r ws, e = .returned r ∧ WSl w' r ws ∧ Can ws ∧ wv ws + wv lb = wv la ∧ ws.length ≤ la.length) ∧ Below w.heap.size w w' := by
  obtain ⟨i0, hi, hz0, hz1, hz2⟩ := info_parts info97
  obtain ⟨a, g, cap, rfl, hcap, hcm, ha, hc, _⟩ := hu.take
  obtain ⟨a', g', cap', rfl, hcap', hcm', ha', hc', _⟩ := hv.take
  obtain ⟨n, hn⟩ : ∃ n, la.length = n := ⟨_, rfl⟩
  obtain ⟨m, hm⟩ : ∃ m, lb.length = m := ⟨_, rfl⟩
  have hgl : 0 < n → g < w.heap.size := fun h => World.block_lt_of_cell? w ⟨g, 0, none⟩ (hc 0 (by omega))
  have hgl' : 0 < m → g' < w.heap.size := fun h => World.block_lt_of_cell? w ⟨g', 0, none⟩ (hc' 0 (by omega))
  rw [hn] at hc hl hcap ha hml9
  rw [hm] at hc' hcap' ha' hml9
  have HN := hide hn
  have HM := hide hm
  have HLE := hide hle9
  rw [hn, hm]
  clear hn hm hu hv hle9
  have hml : n ≤ maxLen := by unfold maxLen; omega
  go_enter Tryd.func56, Tryd.ntmps56
  go_wp2_with (first
    | (at_make; refine wpList_make_full _ rfl _ _ 44 rfl w.heap.size 97 i0 (.int .u32 0) 1 under55 hi hz0 hz1 _ _ _ _ n rfl rfl rfl rfl (by rw [hz2]; omega) hml (Nat.le_refl _) ?_))
  intro w1 hown hg
  have hP : Blk w1 w.heap.size 97 (wds (List.replicate n 0)) := by
    have := Blk.of_owns hown
    rw [made_rep] at this
    unfold wds; rw [List.map_replicate]; exact this
  have hB1 : Below w.heap.size w w1 := (Below.refl _ w).grown hg (Nat.le_refl _) (by simp)
  clear hown hg
  go_wp2
  go_loopw [6, 7] (fun cv iv wr => ∃ (c i : Nat) (R : List Nat), i ≤ n ∧ iv = .int .i64 i ∧ cv = .int .u64 (c : Int) ∧ c ≤ 1 ∧ R.length = n ∧ (∀ p, p ∈ R → p < 4294967296) ∧ (∀ k, i ≤ k → R[k]?.getD 0 = 0) ∧ wv R + wv (lb.take i) = wv (la.take i) + c * 4294967296 ^ i ∧ Blk wr w.heap.size 97 (wds R) ∧ Below w.heap.size w wr)
    (fun _ iv _ => n - (intOf iv).toNat)
  case atStart => exact ⟨0, 0, List.replicate n 0, Nat.zero_le _, rfl, rfl, by omega, by simp, by simp, fun k _ => by
    rw [List.getElem?_replicate]; split <;> rfl, by rw [wv_rep]; simp [wv], hP, hB1⟩
  case round =>
    obtain ⟨c, i, R, hi9, rfl, rfl, hcl, hRl, hRs, hRz, hRv, hPi, hBi⟩ := hrel
    clear hP hB1
    have hcell : ∀ k, k < n → wr.cell? ⟨w.heap.size, k, none⟩ = some (.int .u32 ((R[k]?.getD 0 : Nat) : Int)) := fun k hk => by
      rw [hPi.cell k]; unfold wds; rw [List.getElem?_map, List.getElem?_eq_getElem (by omega)]; rfl
    by_cases hlt : i < n
    · obtain rfl := ha (by omega)
      have HLT := hide hlt
      have hlti : (i : Int) < (n : Int) := by omega
      have hai9 : la[i]?.getD 0 < 4294967296 := by rw [List.getElem?_eq_getElem (by rw [HN.out]; exact hlt)]; exact hla _ (List.getElem_mem _)
      have hwt := wv_take la i (by rw [HN.out]; exact hlt)
      have hca2 : wr.cell? ⟨g, i, none⟩ = some (.int .u32 ((la[i]?.getD 0 : Nat) : Int)) := by
        rw [← hc i hlt]; simp [World.cell?, hBi.block g (hgl (by omega))]
      have hcr : wr.cell? ⟨w.heap.size, i, none⟩ = some (.int .u32 0) := by
        rw [hcell i (by omega), hRz i (Nat.le_refl _)]; rfl
      have hfr := hPi.frozen i
      have hst := fun z => wv_set R i z (by omega)
      simp only [hRz i (Nat.le_refl _), Nat.zero_mul, Nat.add_zero] at hst
      obtain ⟨x, hx⟩ : ∃ x, la[i]?.getD 0 = x := ⟨_, rfl⟩
      rw [hx] at hai9 hwt hca2
      have fin : ∀ (y t : Nat), (t : Int) = ((x : Int) - (c : Int) - (y : Int)) % 18446744073709551616 → wv (lb.take (i + 1)) = wv (lb.take i) + y * 4294967296 ^ i → y < 4294967296 → ∀ (V : World), V = wr →
          ∃ m9 q9 : Nat, (t : Int) % 4294967296 = (m9 : Int) ∧ (t : Int) / 9223372036854775808 = (q9 : Int) ∧ q9 ≤ 1 ∧ m9 < 4294967296 ∧ wv (R.set i m9) + wv (lb.take (i + 1)) = wv (la.take (i + 1)) + q9 * 4294967296 ^ (i + 1) ∧ Blk (V.setCell ⟨w.heap.size, i, none⟩ (.int .u32 (m9 : Int))) w.heap.size 97 (wds (R.set i m9)) ∧ Below w.heap.size w (V.setCell ⟨w.heap.size, i, none⟩ (.int .u32 (m9 : Int))) := by
        rintro y t ht hy hyl V rfl
        obtain ⟨m9, q9, e1, e2, e3, e4, e5⟩ : ∃ m9 q9 : Nat, (t : Int) % 4294967296 = (m9 : Int) ∧ (t : Int) / 9223372036854775808 = (q9 : Int) ∧ q9 ≤ 1 ∧ m9 < 4294967296 ∧ c + m9 + y = x + q9 * 4294967296 := by
          by_cases hxc : c + y ≤ x
          · exact ⟨x - c - y, 0, by omega, by omega, by omega, by omega, by omega⟩
          · exact ⟨4294967296 + x - c - y, 1, by omega, by omega, by omega, by omega, by omega⟩
        refine ⟨m9, q9, e1, e2, e3, e4, ?_, ?_, hBi.setCell (Nat.le_refl _) _⟩
        · rw [hst, hwt, hy, Nat.pow_succ]
          generalize 4294967296 ^ i = BI at *
          have e : c * BI + m9 * BI + y * BI = x * BI + q9 * (BI * 4294967296) := by
            have : (c + m9 + y) * BI = (x + q9 * 4294967296) * BI := by rw [e5]
            grind
          omega
        · have := hPi.set i (.int .u32 (m9 : Int))
          rwa [show (wds R).set i (.int .u32 (m9 : Int)) = wds (R.set i m9) by unfold wds; rw [List.map_set]] at this
      have HF := hide fin
      have HRZ := hide hRz
      clear fin hst hwt hx hRv hcell hRz
      obtain ⟨d0, hd0⟩ : ∃ d0 : Nat, (d0 : Int) = ((x : Int) - (c : Int)) % 18446744073709551616 := ⟨(((x : Int) - (c : Int)) % 18446744073709551616).toNat, by omega⟩
      have hw0 : IntKind.u64.wrap ((x : Int) - (c : Int)) = (d0 : Int) := by rw [IntKind.wrap_u64]; omega
      by_cases hjl : i < m
      · obtain rfl := ha' (by omega)
        have hjli : (i : Int) < (m : Int) := by omega
        have hbj9 : lb[i]?.getD 0 < 4294967296 := by rw [List.getElem?_eq_getElem (by rw [HM.out]; exact hjl)]; exact hlb _ (List.getElem_mem _)
        have hwtb := wv_take lb i (by rw [HM.out]; exact hjl)
        have hcb : wr.cell? ⟨g', i, none⟩ = some (.int .u32 ((lb[i]?.getD 0 : Nat) : Int)) := by
          rw [← hc' i hjl]; simp [World.cell?, hBi.block g' (hgl' (by omega))]
        obtain ⟨y, hy⟩ : ∃ y, lb[i]?.getD 0 = y := ⟨_, rfl⟩
        rw [hy] at hbj9 hwtb hcb
        obtain ⟨t, ht⟩ : ∃ t : Nat, (t : Int) = ((x : Int) - (c : Int) - (y : Int)) % 18446744073709551616 := ⟨(((x : Int) - (c : Int) - (y : Int)) % 18446744073709551616).toNat, by omega⟩
        obtain ⟨m9, q9, k1, k2, k3, k4, k5, k6, k7⟩ := HF.out y t ht hwtb hbj9 wr rfl
        have hw1 : IntKind.u64.wrap ((d0 : Int) - (y : Int)) = (t : Int) := by rw [IntKind.wrap_u64]; omega
        have htl : (t : Int) < 18446744073709551616 := by omega
        have K5 := hide k5
        clear hwtb hy ht k5 hd0
        go_wp2
        go_roundw
        case rel => exact ⟨q9, i + 1, R.set i m9, by have := HLT.out; omega, by go_num, rfl, k3, by rw [List.length_set]; exact hRl, fun z hz => by
          rcases List.mem_or_eq_of_mem_set hz with h | h
          · exact hRs z h
          · omega, fun k hk => by
          rw [List.getElem?_set_ne (by omega)]; exact HRZ.out k (by omega), K5.out, k6, k7⟩
        case measure => have := HLT.out; simp [intOf]; omega
      · have hjni : ¬ (i : Int) < (m : Int) := by omega
        have hwtb : wv (lb.take (i + 1)) = wv (lb.take i) + 0 * 4294967296 ^ i := by
          rw [List.take_of_length_le (by have := HM.out; omega), List.take_of_length_le (by have := HM.out; omega)]; simp
        obtain ⟨m9, q9, k1, k2, k3, k4, k5, k6, k7⟩ := HF.out 0 d0 (by simpa using hd0) hwtb (by omega) wr rfl
        have htl : (d0 : Int) < 18446744073709551616 := by omega
        have K5 := hide k5
        clear hwtb k5 hd0
        go_wp2
        go_roundw
        case rel => exact ⟨q9, i + 1, R.set i m9, by have := HLT.out; omega, by go_num, rfl, k3, by rw [List.length_set]; exact hRl, fun z hz => by
          rcases List.mem_or_eq_of_mem_set hz with h | h
          · exact hRs z h
          · omega, fun k hk => by
          rw [List.getElem?_set_ne (by omega)]; exact HRZ.out k (by omega), K5.out, k6, k7⟩
        case measure => have := HLT.out; simp [intOf]; omega
    · have hin : i = n := by omega
      subst hin
      have hst := hRv
      rw [List.take_of_length_le (l := la) (by rw [HN.out]; exact Nat.le_refl _), List.take_of_length_le (l := lb) (by rw [HM.out]; omega)] at hst
      have hlt9 := wv_lt R hRs
      rw [hRl] at hlt9
      have hc0 : c = 0 := by
        rcases Nat.lt_or_ge 0 c with h | h
        · obtain rfl : c = 1 := by omega
          have := HLE.out
          omega
        · omega
      subst hc0
      have hW : WSl wr (.slice (some ⟨w.heap.size, 0, none⟩) i i) R := WSl.of_blk hPi (by rw [hRl]) (by rw [hRl]; omega)
      have hcan := Can.trm hRs
      have hlen := trm_len R
      rw [hRl] at hlen
      have HV := hide hst
      have HC := hide hcan
      have HL := hide hlen
      clear hst hcan hlen hRv hPi hRs hcell hRz hlt9
      go_wp2_with fail
      refine (trim_ok _ _ _ hW).mono ?_
      rintro e w2 ⟨⟨r, rfl, hr⟩, rfl⟩
      go_wp2
      go_ret
      exact ⟨⟨_, _, rfl, hr, HC.out, by rw [wv_trm, HV.out, Nat.zero_mul, Nat.add_zero], HL.out⟩, hBi⟩
end Go.Proofs.YtojnjfkonaeegaaDoorQ

namespace Go.Proofs.YtojnjfkonaeegaaDoorQ
open Go Go.RowKit

/-- A number with a sign. -/
def sg (n : Bool) (k : Nat) : Int := if n = true then -(k : Int) else (k : Int)
theorem can_len_le {la lb : List Nat} (ha : Can la) (hb : Can lb) (h : wv lb ≤ wv la) : lb.length ≤ la.length := by
  rcases Nat.lt_or_ge la.length lb.length with h1 | h1
  · have := can_len_lt ha hb h1; omega
  · exact h1

set_option maxRecDepth 100000 in
set_option maxHeartbeats 4000000 in
theorem sum_ff (u v : Value) (la lb : List Nat) (w : World) (hu : WSl w u la) (hv : WSl w v lb) (ha : Can la) (hb : Can lb) (hl : la.length + lb.length ≤ 10000000) :
    Calls Tryd.prog 38 #[.bool false, u, .bool false, v] w fun e w' => (∃ zn r ws, e = .returned (.tuple #[.bool zn, r]) ∧ WSl w' r ws ∧ Can ws ∧ sg zn (wv ws) = sg false (wv la) + sg false (wv lb) ∧ ws.length ≤ max la.length lb.length + 1) ∧ Below w.heap.size w w' := by
  go_enter Tryd.func38, Tryd.ntmps38
  go_wp2_with fail
  refine (add_w _ _ la lb w hu hv ha.lt hb.lt hl).mono ?_
  rintro e w1 ⟨⟨r, ws, rfl, h1, h2, h3, h4⟩, h5⟩
  go_wp2
  go_ret2
  exact ⟨⟨_, r, ws, rfl, h1, h2, by simp only [sg, h3]; simp, h4⟩, h5⟩
set_option maxRecDepth 100000 in
set_option maxHeartbeats 4000000 in
theorem sum_ft (u v : Value) (la lb : List Nat) (w : World) (hu : WSl w u la) (hv : WSl w v lb) (ha : Can la) (hb : Can lb) (hl : la.length + lb.length ≤ 10000000) :
    Calls Tryd.prog 38 #[.bool false, u, .bool true, v] w fun e w' => (∃ zn r ws, e = .returned (.tuple #[.bool zn, r]) ∧ WSl w' r ws ∧ Can ws ∧ sg zn (wv ws) = sg false (wv la) + sg true (wv lb) ∧ ws.length ≤ max la.length lb.length + 1) ∧ Below w.heap.size w w' := by
  have hcm := cmp_w u v la lb w hu hv ha hb (by omega)
  by_cases hle : wv lb ≤ wv la
  · obtain ⟨k, hk, hk0⟩ : ∃ k : Int, cmpN (wv la) (wv lb) = k ∧ 0 ≤ k := ⟨_, rfl, by unfold cmpN; split <;> (try split) <;> omega⟩
    rw [hk] at hcm
    have hlen := can_len_le ha hb hle
    have HC := hide hcm
    have HK := hide hk
    have HLN := hide hlen
    have HLE := hide hle
    clear hcm hk hlen hle
    go_enter Tryd.func38, Tryd.ntmps38
    go_wp2_with fail
    refine HC.out.mono ?_
    rintro e w1 ⟨rfl, hb1⟩
    replace hu := hu.below hb1
    replace hv := hv.below hb1
    go_wp2_with fail
    refine (sub_w _ _ la lb w1 hu hv ha.lt hb.lt (by omega) HLN.out HLE.out).mono ?_
    rintro e w2 ⟨⟨r, ws, rfl, h1, h2, h3, h4⟩, h5⟩
    go_wp2
    go_ret2
    exact ⟨⟨_, r, ws, rfl, h1, h2, by simp only [sg]; simp; omega, by omega⟩, bcat2 hb1 h5⟩
  · obtain ⟨k, hk, hk0⟩ : ∃ k : Int, cmpN (wv la) (wv lb) = k ∧ ¬ 0 ≤ k := ⟨_, rfl, by unfold cmpN; rw [if_pos (by omega)]; omega⟩
    rw [hk] at hcm
    have hle2 : wv la ≤ wv lb := by omega
    have hlen := can_len_le hb ha hle2
    have HC := hide hcm
    have HK := hide hk
    have HLN := hide hlen
    have HLE := hide hle2
    clear hcm hk hlen hle hle2
    go_enter Tryd.func38, Tryd.ntmps38
    go_wp2_with fail
    refine HC.out.mono ?_
    rintro e w1 ⟨rfl, hb1⟩
    replace hu := hu.below hb1
    replace hv := hv.below hb1
    go_wp2_with fail
    refine (sub_w _ _ lb la w1 hv hu hb.lt ha.lt (by omega) HLN.out HLE.out).mono ?_
    rintro e w2 ⟨⟨r, ws, rfl, h1, h2, h3, h4⟩, h5⟩
    go_wp2
    go_ret2
    exact ⟨⟨_, r, ws, rfl, h1, h2, by simp only [sg]; simp; omega, by omega⟩, bcat2 hb1 h5⟩
set_option maxRecDepth 100000 in
set_option maxHeartbeats 4000000 in
theorem sum_tf (u v : Value) (la lb : List Nat) (w : World) (hu : WSl w u la) (hv : WSl w v lb) (ha : Can la) (hb : Can lb) (hl : la.length + lb.length ≤ 10000000) :
    Calls Tryd.prog 38 #[.bool true, u, .bool false, v] w fun e w' => (∃ zn r ws, e = .returned (.tuple #[.bool zn, r]) ∧ WSl w' r ws ∧ Can ws ∧ sg zn (wv ws) = sg true (wv la) + sg false (wv lb) ∧ ws.length ≤ max la.length lb.length + 1) ∧ Below w.heap.size w w' := by
  have hcm := cmp_w u v la lb w hu hv ha hb (by omega)
  by_cases hle : wv lb ≤ wv la
  · obtain ⟨k, hk, hk0⟩ : ∃ k : Int, cmpN (wv la) (wv lb) = k ∧ 0 ≤ k := ⟨_, rfl, by unfold cmpN; split <;> (try split) <;> omega⟩
    rw [hk] at hcm
    have hlen := can_len_le ha hb hle
    have HC := hide hcm
    have HK := hide hk
    have HLN := hide hlen
    have HLE := hide hle
    clear hcm hk hlen hle
    go_enter Tryd.func38, Tryd.ntmps38
    go_wp2_with fail
    refine HC.out.mono ?_
    rintro e w1 ⟨rfl, hb1⟩
    replace hu := hu.below hb1
    replace hv := hv.below hb1
    go_wp2_with fail
    refine (sub_w _ _ la lb w1 hu hv ha.lt hb.lt (by omega) HLN.out HLE.out).mono ?_
    rintro e w2 ⟨⟨r, ws, rfl, h1, h2, h3, h4⟩, h5⟩
    go_wp2
    go_ret2
    exact ⟨⟨_, r, ws, rfl, h1, h2, by simp only [sg]; simp; omega, by omega⟩, bcat2 hb1 h5⟩
  · obtain ⟨k, hk, hk0⟩ : ∃ k : Int, cmpN (wv la) (wv lb) = k ∧ ¬ 0 ≤ k := ⟨_, rfl, by unfold cmpN; rw [if_pos (by omega)]; omega⟩
    rw [hk] at hcm
    have hle2 : wv la ≤ wv lb := by omega
    have hlen := can_len_le hb ha hle2
    have HC := hide hcm
    have HK := hide hk
    have HLN := hide hlen
    have HLE := hide hle2
    clear hcm hk hlen hle hle2
    go_enter Tryd.func38, Tryd.ntmps38
    go_wp2_with fail
    refine HC.out.mono ?_
    rintro e w1 ⟨rfl, hb1⟩
    replace hu := hu.below hb1
    replace hv := hv.below hb1
    go_wp2_with fail
    refine (sub_w _ _ lb la w1 hv hu hb.lt ha.lt (by omega) HLN.out HLE.out).mono ?_
    rintro e w2 ⟨⟨r, ws, rfl, h1, h2, h3, h4⟩, h5⟩
    go_wp2
    go_ret2
    exact ⟨⟨_, r, ws, rfl, h1, h2, by simp only [sg]; simp; omega, by omega⟩, bcat2 hb1 h5⟩
set_option maxRecDepth 100000 in
set_option maxHeartbeats 4000000 in
theorem sum_tt (u v : Value) (la lb : List Nat) (w : World) (hu : WSl w u la) (hv : WSl w v lb) (ha : Can la) (hb : Can lb) (hl : la.length + lb.length ≤ 10000000) :
    Calls Tryd.prog 38 #[.bool true, u, .bool true, v] w fun e w' => (∃ zn r ws, e = .returned (.tuple #[.bool zn, r]) ∧ WSl w' r ws ∧ Can ws ∧ sg zn (wv ws) = sg true (wv la) + sg true (wv lb) ∧ ws.length ≤ max la.length lb.length + 1) ∧ Below w.heap.size w w' := by
  go_enter Tryd.func38, Tryd.ntmps38
  go_wp2_with fail
  refine (add_w _ _ la lb w hu hv ha.lt hb.lt hl).mono ?_
  rintro e w1 ⟨⟨r, ws, rfl, h1, h2, h3, h4⟩, h5⟩
  go_wp2
  go_ret2
  exact ⟨⟨_, r, ws, rfl, h1, h2, by simp only [sg, h3]; simp; omega, h4⟩, h5⟩
theorem sum_w (xn yn : Bool) (u v : Value) (la lb : List Nat) (w : World) (hu : WSl w u la) (hv : WSl w v lb) (ha : Can la) (hb : Can lb) (hl : la.length + lb.length ≤ 10000000) :
    Calls Tryd.prog 38 #[.bool xn, u, .bool yn, v] w fun e w' => (∃ zn r ws, e = .returned (.tuple #[.bool zn, r]) ∧ WSl w' r ws ∧ Can ws ∧ sg zn (wv ws) = sg xn (wv la) + sg yn (wv lb) ∧ ws.length ≤ max la.length lb.length + 1) ∧ Below w.heap.size w w' := by
  cases xn <;> cases yn
  · exact sum_ff u v la lb w hu hv ha hb hl
  · exact sum_ft u v la lb w hu hv ha hb hl
  · exact sum_tf u v la lb w hu hv ha hb hl
  · exact sum_tt u v la lb w hu hv ha hb hl
theorem sg_nat (x : Int) : sg (decide (x < 0)) x.natAbs = x := by
  unfold sg
  by_cases h : x < 0
  · rw [decide_eq_true h, if_pos rfl]; omega
  · rw [decide_eq_false h, if_neg (by simp)]; omega
theorem sg_not (b : Bool) (k : Nat) : sg (!b) k = - sg b k := by cases b <;> simp [sg]

set_option maxRecDepth 100000 in
set_option maxHeartbeats 16000000 in
theorem zadd_ok (bz bx by_ mx my : Nat) (x y : Int) (zx zy : Value) (w : World) (hZ0 : Blk w bz 46 [zx, zy]) (hx : BigZ w bx x mx) (hy : BigZ w by_ y my) (hne : by_ ≠ bz) (hm : mx + my ≤ 10000000) :
    Calls Tryd.prog 103 #[.pointer (some ⟨bz, 0, none⟩), .pointer (some ⟨bx, 0, none⟩), .pointer (some ⟨by_, 0, none⟩)] w fun e w' => e = .returned (.pointer (some ⟨bz, 0, none⟩)) ∧ BigZ w' bz (x + y) (max mx my + 1) ∧ w.grownBy w' (some bz) := by
  obtain ⟨vx, lx, hX0, hWx, hcx, hvx, hlx⟩ := hx
  obtain ⟨vy, ly, hY0, hWy, hcy, hvy, hly⟩ := hy
  obtain ⟨ax, cx, rfl⟩ := hWx.shape
  obtain ⟨ay, cy, rfl⟩ := hWy.shape
  have hsx := sg_nat x
  have hsy := sg_nat y
  obtain ⟨xn, hxn⟩ : ∃ xn, decide (x < 0) = xn := ⟨_, rfl⟩
  obtain ⟨yn, hyn⟩ : ∃ yn, decide (y < 0) = yn := ⟨_, rfl⟩
  rw [hxn] at hX0 hsx
  rw [hyn] at hY0 hsy
  rw [← hvx] at hsx
  rw [← hvy] at hsy
  have HM := hide (fun (W : World) (h1 : WSl W (.slice ax lx.length cx) lx) (h2 : WSl W (.slice ay ly.length cy) ly) => sum_w xn yn _ _ lx ly W h1 h2 hcx hcy (by omega))
  have HFIN := hide (fun (W1 W2 : World) (r : Value) (ws : List Nat) (zn : Bool) (hb : Below w.drew.heap.size w.drew W1) (hz : Blk W1 bz 46 [zx, zy]) (hr : WSl W1 r ws) (hf : Can ws ∧ sg zn (wv ws) = sg xn (wv lx) + sg yn (wv ly) ∧ ws.length ≤ max lx.length ly.length + 1) (hz2 : Blk W2 bz 46 [.bool (zn && decide (0 < ws.length)), r]) (hg2 : W1.grownBy W2 (some bz)) =>
    show (BigZ W2 bz (x + y) (max mx my + 1) ∧ w.grownBy W2 (some bz)) from
      ⟨BigZ.given hz hz2 hg2 hr hf.1 (by have := hf.2.2; omega) (by have h3 := hf.2.1; rw [hsx, hsy] at h3; rw [← h3]; rfl), gb_after ⟨hb.os, hb.tape, hb.output, hb.size, hb.block⟩ hg2⟩)
  clear hsx hsy hxn hyn hcx hcy hvx hvy hlx hly
  have hX : Blk w.drew bx 46 [.bool xn, .slice ax lx.length cx] := hX0
  have hY : Blk w.drew by_ 46 [.bool yn, .slice ay ly.length cy] := hY0
  have hZ : Blk w.drew bz 46 [zx, zy] := hZ0
  have cx0 : w.drew.cell? ⟨bx, 0, none⟩ = some (.bool xn) := hX.cell 0
  have cx1 : w.drew.cell? ⟨bx, 1, none⟩ = some (.slice ax lx.length cx) := hX.cell 1
  have hBc : Below w.drew.heap.size w.drew w.drew := Below.refl _ _
  have HWX := hide (fun (W : World) (h : Below w.drew.heap.size w.drew W) => WSl.below (hWx.kept (W' := w.drew) (fun _ _ _ _ => rfl)) h)
  have HWY := hide (fun (W : World) (h : Below w.drew.heap.size w.drew W) => WSl.below (hWy.kept (W' := w.drew) (fun _ _ _ _ => rfl)) h)
  clear hX0 hY0 hZ0 hWx hWy
  go_enter Tryd.func103, Tryd.ntmps103
  go_wp2
  have hS : ∀ W, w.drew.grownBy W (some bz) → (w.drew.grownBy W (some bz) ∧ W.cell? ⟨by_, 0, none⟩ = some (.bool yn) ∧ W.cell? ⟨by_, 1, none⟩ = some (.slice ay ly.length cy)) := fun W h =>
    have hYW : Blk W by_ 46 [.bool yn, .slice ay ly.length cy] := hY.grown h (by simpa using hne)
    ⟨h, hYW.cell 0, hYW.cell 1⟩
  refine wp_region_held_drew (S := fun W => w.drew.grownBy W (some bz) ∧ W.cell? ⟨by_, 0, none⟩ = some (.bool yn) ∧ W.cell? ⟨by_, 1, none⟩ = some (.slice ay ly.length cy)) (by kernel_rfl) (hS _ (gb_refl _ _)) (fun hHeld => ?_)
  generalize w.drew = wd at *
  refine wpAnyH_take (i := 0) (oi := ({ dst := some 7, op := Go.Op.move (Go.Operand.tmp 0), type := 41, pos := _, after := _, guard := none } : Oper)) (v := ?_) rfl (by kernel_rfl) (by kernel_rfl) (by kernel_rfl) (fun _ _ _ h => h) (Or.inl ⟨by rfl, ?_⟩) (by assumption) ?_
  rotate_left
  · (intro w hSw; (try dsimp only at hSw); go_simp; try with_reducible rfl)
  simp only [Act.put, List.setIfInBounds_toArray, List.set_cons_zero, List.set_cons_succ]
  refine wpAnyH_take (i := 1) (oi := ({ dst := some 8, op := Go.Op.move (Go.Operand.tmp 1), type := 41, pos := _, after := _, guard := none } : Oper)) (v := ?_) rfl (by kernel_rfl) (by kernel_rfl) (by kernel_rfl) (fun _ _ _ h => h) (Or.inl ⟨by rfl, ?_⟩) (by assumption) ?_
  rotate_left
  · (intro w hSw; (try dsimp only at hSw); go_simp; try with_reducible rfl)
  simp only [Act.put, List.setIfInBounds_toArray, List.set_cons_zero, List.set_cons_succ]
  refine wpAnyH_take (i := 2) (oi := ({ dst := some 9, op := Go.Op.nilCheck (Go.Operand.tmp 8), type := 0, pos := _, after := _, guard := none } : Oper)) (v := ?_) rfl (by kernel_rfl) (by kernel_rfl) (by kernel_rfl) (fun _ _ _ h => h) (Or.inl ⟨by rfl, ?_⟩) (by assumption) ?_
  rotate_left
  · (intro w hSw; (try dsimp only at hSw); go_simp; try with_reducible rfl)
  simp only [Act.put, List.setIfInBounds_toArray, List.set_cons_zero, List.set_cons_succ]
  refine wpAnyH_take (i := 3) (oi := ({ dst := some 10, op := Go.Op.fieldAddr 46 (Go.Operand.tmp 9) 0, type := 0, pos := _, after := _, guard := none } : Oper)) (v := ?_) rfl (by kernel_rfl) (by kernel_rfl) (by kernel_rfl) (fun _ _ _ h => h) (Or.inl ⟨by rfl, ?_⟩) (by assumption) ?_
  rotate_left
  · (intro w hSw; (try dsimp only at hSw); go_simp; try with_reducible rfl)
  simp only [Act.put, List.setIfInBounds_toArray, List.set_cons_zero, List.set_cons_succ]
  refine wpAnyH_take (i := 5) (oi := ({ dst := some 12, op := Go.Op.move (Go.Operand.tmp 1), type := 41, pos := _, after := _, guard := none } : Oper)) (v := ?_) rfl (by kernel_rfl) (by kernel_rfl) (by kernel_rfl) (fun _ _ _ h => h) (Or.inl ⟨by rfl, ?_⟩) (by assumption) ?_
  rotate_left
  · (intro w hSw; (try dsimp only at hSw); go_simp; try with_reducible rfl)
  simp only [Act.put, List.setIfInBounds_toArray, List.set_cons_zero, List.set_cons_succ]
  refine wpAnyH_take (i := 6) (oi := ({ dst := some 13, op := Go.Op.nilCheck (Go.Operand.tmp 12), type := 0, pos := _, after := _, guard := none } : Oper)) (v := ?_) rfl (by kernel_rfl) (by kernel_rfl) (by kernel_rfl) (fun _ _ _ h => h) (Or.inl ⟨by rfl, ?_⟩) (by assumption) ?_
  rotate_left
  · (intro w hSw; (try dsimp only at hSw); go_simp; try with_reducible rfl)
  simp only [Act.put, List.setIfInBounds_toArray, List.set_cons_zero, List.set_cons_succ]
  refine wpAnyH_take (i := 7) (oi := ({ dst := some 14, op := Go.Op.fieldAddr 46 (Go.Operand.tmp 13) 1, type := 0, pos := _, after := _, guard := none } : Oper)) (v := ?_) rfl (by kernel_rfl) (by kernel_rfl) (by kernel_rfl) (fun _ _ _ h => h) (Or.inl ⟨by rfl, ?_⟩) (by assumption) ?_
  rotate_left
  · (intro w hSw; (try dsimp only at hSw); go_simp; try with_reducible rfl)
  simp only [Act.put, List.setIfInBounds_toArray, List.set_cons_zero, List.set_cons_succ]
  refine wpAnyH_take (i := 9) (oi := ({ dst := some 16, op := Go.Op.move (Go.Operand.tmp 2), type := 41, pos := _, after := _, guard := none } : Oper)) (v := ?_) rfl (by kernel_rfl) (by kernel_rfl) (by kernel_rfl) (fun _ _ _ h => h) (Or.inl ⟨by rfl, ?_⟩) (by assumption) ?_
  rotate_left
  · (intro w hSw; (try dsimp only at hSw); go_simp; try with_reducible rfl)
  simp only [Act.put, List.setIfInBounds_toArray, List.set_cons_zero, List.set_cons_succ]
  refine wpAnyH_take (i := 10) (oi := ({ dst := some 17, op := Go.Op.nilCheck (Go.Operand.tmp 16), type := 0, pos := _, after := _, guard := none } : Oper)) (v := ?_) rfl (by kernel_rfl) (by kernel_rfl) (by kernel_rfl) (fun _ _ _ h => h) (Or.inl ⟨by rfl, ?_⟩) (by assumption) ?_
  rotate_left
  · (intro w hSw; (try dsimp only at hSw); go_simp; try with_reducible rfl)
  simp only [Act.put, List.setIfInBounds_toArray, List.set_cons_zero, List.set_cons_succ]
  refine wpAnyH_take (i := 11) (oi := ({ dst := some 18, op := Go.Op.fieldAddr 46 (Go.Operand.tmp 17) 0, type := 0, pos := _, after := _, guard := none } : Oper)) (v := ?_) rfl (by kernel_rfl) (by kernel_rfl) (by kernel_rfl) (fun _ _ _ h => h) (Or.inl ⟨by rfl, ?_⟩) (by assumption) ?_
  rotate_left
  · (intro w hSw; (try dsimp only at hSw); go_simp; try with_reducible rfl)
  simp only [Act.put, List.setIfInBounds_toArray, List.set_cons_zero, List.set_cons_succ]
  refine wpAnyH_take (i := 12) (oi := ({ dst := some 19, op := Go.Op.load 4 (Go.Operand.tmp 18), type := 4, pos := _, after := _, guard := none } : Oper)) (v := ?_) rfl (by kernel_rfl) (by kernel_rfl) (by kernel_rfl) (fun _ _ _ h => h) (Or.inl ⟨by rfl, ?_⟩) (by assumption) ?_
  rotate_left
  · (intro w hSw; (try dsimp only at hSw); go_simp; try with_reducible rfl)
  simp only [Act.put, List.setIfInBounds_toArray, List.set_cons_zero, List.set_cons_succ]
  refine wpAnyH_take (i := 13) (oi := ({ dst := some 20, op := Go.Op.move (Go.Operand.tmp 2), type := 41, pos := _, after := _, guard := none } : Oper)) (v := ?_) rfl (by kernel_rfl) (by kernel_rfl) (by kernel_rfl) (fun _ _ _ h => h) (Or.inl ⟨by rfl, ?_⟩) (by assumption) ?_
  rotate_left
  · (intro w hSw; (try dsimp only at hSw); go_simp; try with_reducible rfl)
  simp only [Act.put, List.setIfInBounds_toArray, List.set_cons_zero, List.set_cons_succ]
  refine wpAnyH_take (i := 14) (oi := ({ dst := some 21, op := Go.Op.nilCheck (Go.Operand.tmp 20), type := 0, pos := _, after := _, guard := none } : Oper)) (v := ?_) rfl (by kernel_rfl) (by kernel_rfl) (by kernel_rfl) (fun _ _ _ h => h) (Or.inl ⟨by rfl, ?_⟩) (by assumption) ?_
  rotate_left
  · (intro w hSw; (try dsimp only at hSw); go_simp; try with_reducible rfl)
  simp only [Act.put, List.setIfInBounds_toArray, List.set_cons_zero, List.set_cons_succ]
  refine wpAnyH_take (i := 15) (oi := ({ dst := some 22, op := Go.Op.fieldAddr 46 (Go.Operand.tmp 21) 1, type := 0, pos := _, after := _, guard := none } : Oper)) (v := ?_) rfl (by kernel_rfl) (by kernel_rfl) (by kernel_rfl) (fun _ _ _ h => h) (Or.inl ⟨by rfl, ?_⟩) (by assumption) ?_
  rotate_left
  · (intro w hSw; (try dsimp only at hSw); go_simp; try with_reducible rfl)
  simp only [Act.put, List.setIfInBounds_toArray, List.set_cons_zero, List.set_cons_succ]
  refine wpAnyH_take (i := 16) (oi := ({ dst := some 23, op := Go.Op.load 44 (Go.Operand.tmp 22), type := 44, pos := _, after := _, guard := none } : Oper)) (v := ?_) rfl (by kernel_rfl) (by kernel_rfl) (by kernel_rfl) (fun _ _ _ h => h) (Or.inl ⟨by rfl, ?_⟩) (by assumption) ?_
  rotate_left
  · (intro w hSw; (try dsimp only at hSw); go_simp; try with_reducible rfl)
  simp only [Act.put, List.setIfInBounds_toArray, List.set_cons_zero, List.set_cons_succ]
  refine wpAnyH_ready (rs := [4, 8]) (by kernel_rfl) (by simp) (AllReadyH.cons (o := ({ dst := some 11, op := Go.Op.load 4 (Go.Operand.tmp 10), type := 4, pos := _, after := _, guard := none } : Oper)) rfl (fun KK hK => ?_) (AllReadyH.cons (o := ({ dst := some 15, op := Go.Op.load 44 (Go.Operand.tmp 14), type := 44, pos := _, after := _, guard := none } : Oper)) rfl (fun KK hK => ?_) AllReadyH.nil))
  · go_simp
    refine hK.out _ _ (hS _ (gb_of_below hBc)) (fun hHeld => ?_)
    clear hK
    try simp only [Act.put, List.setIfInBounds_toArray, List.set_cons_zero, List.set_cons_succ]
    refine wpAnyH_ready (rs := [8]) (by kernel_rfl) (by simp) (AllReadyH.cons (o := ({ dst := some 15, op := Go.Op.load 44 (Go.Operand.tmp 14), type := 44, pos := _, after := _, guard := none } : Oper)) rfl (fun KK hK => ?_) AllReadyH.nil)
    go_simp
    refine hK.out _ _ (hS _ (gb_of_below hBc)) (fun hHeld => ?_)
    clear hK
    try simp only [Act.put, List.setIfInBounds_toArray, List.set_cons_zero, List.set_cons_succ]
    refine wpAnyH_ready (rs := [17]) (by kernel_rfl) (by simp) (AllReadyH.cons (o := ({ dst := some 24, op := Go.Op.call { callee := Go.Callee.value (Go.Operand.func 38), args := #[Go.Operand.tmp 11, Go.Operand.tmp 15, Go.Operand.tmp 19, Go.Operand.tmp 23], argTypes := #[4, 44, 4, 44] }, type := 65, pos := _, after := _, guard := none } : Oper)) rfl (fun KK hK => ?_) AllReadyH.nil)
    go_simp
    refine (HM.out _ (HWX.out _ hBc) (HWY.out _ hBc)).mono ?_
    rintro e W1 ⟨⟨zn, r, ws, rfl, hr, hfin⟩, hb1⟩
    replace hX : Blk W1 bx 46 [.bool xn, .slice ax lx.length cx] := hX.of_eq (hb1.block _ hX.lt)
    replace hZ : Blk W1 bz 46 [zx, zy] := hZ.of_eq (hb1.block _ hZ.lt)
    replace cx0 : W1.cell? ⟨bx, 0, none⟩ = some (.bool xn) := hX.cell 0
    replace cx1 : W1.cell? ⟨bx, 1, none⟩ = some (.slice ax lx.length cx) := hX.cell 1
    replace hBc := bcat2 hBc hb1
    try go_wp2_with fail
    refine hK.out _ _ (hS _ (gb_of_below hBc)) (fun hHeld => ?_)
    clear hK
    try simp only [Act.put, List.setIfInBounds_toArray, List.set_cons_zero, List.set_cons_succ]
    refine wpAnyH_take (i := 18) (oi := ({ dst := some 25, op := Go.Op.extract (Go.Operand.tmp 24) 0, type := 4, pos := _, after := _, guard := none } : Oper)) (v := ?_) rfl (by kernel_rfl) (by kernel_rfl) (by kernel_rfl) (fun _ _ _ h => h) (Or.inl ⟨by rfl, ?_⟩) (by assumption) ?_
    rotate_left
    · (intro w hSw; (try dsimp only at hSw); go_simp; try with_reducible rfl)
    simp only [Act.put, List.setIfInBounds_toArray, List.set_cons_zero, List.set_cons_succ]
    refine wpAnyH_take (i := 19) (oi := ({ dst := some 26, op := Go.Op.extract (Go.Operand.tmp 24) 1, type := 44, pos := _, after := _, guard := none } : Oper)) (v := ?_) rfl (by kernel_rfl) (by kernel_rfl) (by kernel_rfl) (fun _ _ _ h => h) (Or.inl ⟨by rfl, ?_⟩) (by assumption) ?_
    rotate_left
    · (intro w hSw; (try dsimp only at hSw); go_simp; try with_reducible rfl)
    simp only [Act.put, List.setIfInBounds_toArray, List.set_cons_zero, List.set_cons_succ]
    refine wpAnyH_ready (rs := [20]) (by kernel_rfl) (by simp) (AllReadyH.cons (o := ({ dst := some 27, op := Go.Op.call { callee := Go.Callee.value (Go.Operand.func 37), args := #[Go.Operand.tmp 7, Go.Operand.tmp 25, Go.Operand.tmp 26], argTypes := #[41, 4, 44] }, type := 41, pos := _, after := _, guard := none } : Oper)) rfl (fun KK hK => ?_) AllReadyH.nil)
    go_simp
    refine (give_ok bz zn zx zy r ws _ hZ hr).mono ?_
    rintro e W2 ⟨rfl, hz2, hg2⟩
    try go_wp2_with fail
    refine hK.out _ _ (hS _ (gb_after hBc hg2)) (fun hHeld => ?_)
    clear hK
    try simp only [Act.put, List.setIfInBounds_toArray, List.set_cons_zero, List.set_cons_succ]
    refine wpAnyH_take (i := 21) (oi := ({ dst := some 6, op := Go.Op.assign (Go.Operand.tmp 27), type := 41, pos := _, after := _, guard := none } : Oper)) (v := ?_) rfl (by kernel_rfl) (by kernel_rfl) (by kernel_rfl) (fun _ _ _ h => h) (Or.inl ⟨by rfl, ?_⟩) (by assumption) ?_
    rotate_left
    · (intro w hSw; (try dsimp only at hSw); go_simp; try with_reducible rfl)
    simp only [Act.put, List.setIfInBounds_toArray, List.set_cons_zero, List.set_cons_succ]
    refine wpAnyH_done (by kernel_rfl) ?_ _
    go_wp2
    go_ret
    exact ⟨rfl, HFIN.out _ _ _ _ zn hBc hZ hr hfin hz2 hg2⟩
  go_simp
  refine hK.out _ _ (hS _ (gb_of_below hBc)) (fun hHeld => ?_)
  clear hK
  try simp only [Act.put, List.setIfInBounds_toArray, List.set_cons_zero, List.set_cons_succ]
  refine wpAnyH_ready (rs := [4]) (by kernel_rfl) (by simp) (AllReadyH.cons (o := ({ dst := some 11, op := Go.Op.load 4 (Go.Operand.tmp 10), type := 4, pos := _, after := _, guard := none } : Oper)) rfl (fun KK hK => ?_) AllReadyH.nil)
  go_simp
  refine hK.out _ _ (hS _ (gb_of_below hBc)) (fun hHeld => ?_)
  clear hK
  try simp only [Act.put, List.setIfInBounds_toArray, List.set_cons_zero, List.set_cons_succ]
  refine wpAnyH_ready (rs := [17]) (by kernel_rfl) (by simp) (AllReadyH.cons (o := ({ dst := some 24, op := Go.Op.call { callee := Go.Callee.value (Go.Operand.func 38), args := #[Go.Operand.tmp 11, Go.Operand.tmp 15, Go.Operand.tmp 19, Go.Operand.tmp 23], argTypes := #[4, 44, 4, 44] }, type := 65, pos := _, after := _, guard := none } : Oper)) rfl (fun KK hK => ?_) AllReadyH.nil)
  go_simp
  refine (HM.out _ (HWX.out _ hBc) (HWY.out _ hBc)).mono ?_
  rintro e W1 ⟨⟨zn, r, ws, rfl, hr, hfin⟩, hb1⟩
  replace hX : Blk W1 bx 46 [.bool xn, .slice ax lx.length cx] := hX.of_eq (hb1.block _ hX.lt)
  replace hZ : Blk W1 bz 46 [zx, zy] := hZ.of_eq (hb1.block _ hZ.lt)
  replace cx0 : W1.cell? ⟨bx, 0, none⟩ = some (.bool xn) := hX.cell 0
  replace cx1 : W1.cell? ⟨bx, 1, none⟩ = some (.slice ax lx.length cx) := hX.cell 1
  replace hBc := bcat2 hBc hb1
  try go_wp2_with fail
  refine hK.out _ _ (hS _ (gb_of_below hBc)) (fun hHeld => ?_)
  clear hK
  try simp only [Act.put, List.setIfInBounds_toArray, List.set_cons_zero, List.set_cons_succ]
  refine wpAnyH_take (i := 18) (oi := ({ dst := some 25, op := Go.Op.extract (Go.Operand.tmp 24) 0, type := 4, pos := _, after := _, guard := none } : Oper)) (v := ?_) rfl (by kernel_rfl) (by kernel_rfl) (by kernel_rfl) (fun _ _ _ h => h) (Or.inl ⟨by rfl, ?_⟩) (by assumption) ?_
  rotate_left
  · (intro w hSw; (try dsimp only at hSw); go_simp; try with_reducible rfl)
  simp only [Act.put, List.setIfInBounds_toArray, List.set_cons_zero, List.set_cons_succ]
  refine wpAnyH_take (i := 19) (oi := ({ dst := some 26, op := Go.Op.extract (Go.Operand.tmp 24) 1, type := 44, pos := _, after := _, guard := none } : Oper)) (v := ?_) rfl (by kernel_rfl) (by kernel_rfl) (by kernel_rfl) (fun _ _ _ h => h) (Or.inl ⟨by rfl, ?_⟩) (by assumption) ?_
  rotate_left
  · (intro w hSw; (try dsimp only at hSw); go_simp; try with_reducible rfl)
  simp only [Act.put, List.setIfInBounds_toArray, List.set_cons_zero, List.set_cons_succ]
  refine wpAnyH_ready (rs := [20]) (by kernel_rfl) (by simp) (AllReadyH.cons (o := ({ dst := some 27, op := Go.Op.call { callee := Go.Callee.value (Go.Operand.func 37), args := #[Go.Operand.tmp 7, Go.Operand.tmp 25, Go.Operand.tmp 26], argTypes := #[41, 4, 44] }, type := 41, pos := _, after := _, guard := none } : Oper)) rfl (fun KK hK => ?_) AllReadyH.nil)
  go_simp
  refine (give_ok bz zn zx zy r ws _ hZ hr).mono ?_
  rintro e W2 ⟨rfl, hz2, hg2⟩
  try go_wp2_with fail
  refine hK.out _ _ (hS _ (gb_after hBc hg2)) (fun hHeld => ?_)
  clear hK
  try simp only [Act.put, List.setIfInBounds_toArray, List.set_cons_zero, List.set_cons_succ]
  refine wpAnyH_take (i := 21) (oi := ({ dst := some 6, op := Go.Op.assign (Go.Operand.tmp 27), type := 41, pos := _, after := _, guard := none } : Oper)) (v := ?_) rfl (by kernel_rfl) (by kernel_rfl) (by kernel_rfl) (fun _ _ _ h => h) (Or.inl ⟨by rfl, ?_⟩) (by assumption) ?_
  rotate_left
  · (intro w hSw; (try dsimp only at hSw); go_simp; try with_reducible rfl)
  simp only [Act.put, List.setIfInBounds_toArray, List.set_cons_zero, List.set_cons_succ]
  refine wpAnyH_done (by kernel_rfl) ?_ _
  go_wp2
  go_ret
  exact ⟨rfl, HFIN.out _ _ _ _ zn hBc hZ hr hfin hz2 hg2⟩
set_option maxRecDepth 100000 in
set_option maxHeartbeats 16000000 in
theorem zsub_ok (bz bx by_ mx my : Nat) (x y : Int) (zx zy : Value) (w : World) (hZ0 : Blk w bz 46 [zx, zy]) (hx : BigZ w bx x mx) (hy : BigZ w by_ y my) (hne : by_ ≠ bz) (hm : mx + my ≤ 10000000) :
    Calls Tryd.prog 22 #[.pointer (some ⟨bz, 0, none⟩), .pointer (some ⟨bx, 0, none⟩), .pointer (some ⟨by_, 0, none⟩)] w fun e w' => e = .returned (.pointer (some ⟨bz, 0, none⟩)) ∧ BigZ w' bz (x - y) (max mx my + 1) ∧ w.grownBy w' (some bz) := by
  obtain ⟨vx, lx, hX0, hWx, hcx, hvx, hlx⟩ := hx
  obtain ⟨vy, ly, hY0, hWy, hcy, hvy, hly⟩ := hy
  obtain ⟨ax, cx, rfl⟩ := hWx.shape
  obtain ⟨ay, cy, rfl⟩ := hWy.shape
  have hsx := sg_nat x
  have hsy := sg_nat y
  obtain ⟨xn, hxn⟩ : ∃ xn, decide (x < 0) = xn := ⟨_, rfl⟩
  obtain ⟨yn, hyn⟩ : ∃ yn, decide (y < 0) = yn := ⟨_, rfl⟩
  rw [hxn] at hX0 hsx
  rw [hyn] at hY0 hsy
  rw [← hvx] at hsx
  rw [← hvy] at hsy
  have HM := hide (fun (W : World) (h1 : WSl W (.slice ax lx.length cx) lx) (h2 : WSl W (.slice ay ly.length cy) ly) => sum_w xn (!yn) _ _ lx ly W h1 h2 hcx hcy (by omega))
  have HFIN := hide (fun (W1 W2 : World) (r : Value) (ws : List Nat) (zn : Bool) (hb : Below w.drew.heap.size w.drew W1) (hz : Blk W1 bz 46 [zx, zy]) (hr : WSl W1 r ws) (hf : Can ws ∧ sg zn (wv ws) = sg xn (wv lx) + sg (!yn) (wv ly) ∧ ws.length ≤ max lx.length ly.length + 1) (hz2 : Blk W2 bz 46 [.bool (zn && decide (0 < ws.length)), r]) (hg2 : W1.grownBy W2 (some bz)) =>
    show (BigZ W2 bz (x - y) (max mx my + 1) ∧ w.grownBy W2 (some bz)) from
      ⟨BigZ.given hz hz2 hg2 hr hf.1 (by have := hf.2.2; omega) (by have h3 := hf.2.1; rw [sg_not, hsx, hsy] at h3; rw [show x - y = x + -y from by omega, ← h3]; rfl), gb_after ⟨hb.os, hb.tape, hb.output, hb.size, hb.block⟩ hg2⟩)
  clear hsx hsy hxn hyn hcx hcy hvx hvy hlx hly
  have hX : Blk w.drew bx 46 [.bool xn, .slice ax lx.length cx] := hX0
  have hY : Blk w.drew by_ 46 [.bool yn, .slice ay ly.length cy] := hY0
  have hZ : Blk w.drew bz 46 [zx, zy] := hZ0
  have cx0 : w.drew.cell? ⟨bx, 0, none⟩ = some (.bool xn) := hX.cell 0
  have cx1 : w.drew.cell? ⟨bx, 1, none⟩ = some (.slice ax lx.length cx) := hX.cell 1
  have hBc : Below w.drew.heap.size w.drew w.drew := Below.refl _ _
  have HWX := hide (fun (W : World) (h : Below w.drew.heap.size w.drew W) => WSl.below (hWx.kept (W' := w.drew) (fun _ _ _ _ => rfl)) h)
  have HWY := hide (fun (W : World) (h : Below w.drew.heap.size w.drew W) => WSl.below (hWy.kept (W' := w.drew) (fun _ _ _ _ => rfl)) h)
  clear hX0 hY0 hZ0 hWx hWy
  go_enter Tryd.func22, Tryd.ntmps22
  go_wp2
  have hS : ∀ W, w.drew.grownBy W (some bz) → (w.drew.grownBy W (some bz) ∧ W.cell? ⟨by_, 0, none⟩ = some (.bool yn) ∧ W.cell? ⟨by_, 1, none⟩ = some (.slice ay ly.length cy)) := fun W h =>
    have hYW : Blk W by_ 46 [.bool yn, .slice ay ly.length cy] := hY.grown h (by simpa using hne)
    ⟨h, hYW.cell 0, hYW.cell 1⟩
  refine wp_region_held_drew (S := fun W => w.drew.grownBy W (some bz) ∧ W.cell? ⟨by_, 0, none⟩ = some (.bool yn) ∧ W.cell? ⟨by_, 1, none⟩ = some (.slice ay ly.length cy)) (by kernel_rfl) (hS _ (gb_refl _ _)) (fun hHeld => ?_)
  generalize w.drew = wd at *
  refine wpAnyH_take (i := 0) (oi := ({ dst := some 7, op := Go.Op.move (Go.Operand.tmp 0), type := 41, pos := _, after := _, guard := none } : Oper)) (v := ?_) rfl (by kernel_rfl) (by kernel_rfl) (by kernel_rfl) (fun _ _ _ h => h) (Or.inl ⟨by rfl, ?_⟩) (by assumption) ?_
  rotate_left
  · (intro w hSw; (try dsimp only at hSw); go_simp; try with_reducible rfl)
  simp only [Act.put, List.setIfInBounds_toArray, List.set_cons_zero, List.set_cons_succ]
  refine wpAnyH_take (i := 1) (oi := ({ dst := some 8, op := Go.Op.move (Go.Operand.tmp 1), type := 41, pos := _, after := _, guard := none } : Oper)) (v := ?_) rfl (by kernel_rfl) (by kernel_rfl) (by kernel_rfl) (fun _ _ _ h => h) (Or.inl ⟨by rfl, ?_⟩) (by assumption) ?_
  rotate_left
  · (intro w hSw; (try dsimp only at hSw); go_simp; try with_reducible rfl)
  simp only [Act.put, List.setIfInBounds_toArray, List.set_cons_zero, List.set_cons_succ]
  refine wpAnyH_take (i := 2) (oi := ({ dst := some 9, op := Go.Op.nilCheck (Go.Operand.tmp 8), type := 0, pos := _, after := _, guard := none } : Oper)) (v := ?_) rfl (by kernel_rfl) (by kernel_rfl) (by kernel_rfl) (fun _ _ _ h => h) (Or.inl ⟨by rfl, ?_⟩) (by assumption) ?_
  rotate_left
  · (intro w hSw; (try dsimp only at hSw); go_simp; try with_reducible rfl)
  simp only [Act.put, List.setIfInBounds_toArray, List.set_cons_zero, List.set_cons_succ]
  refine wpAnyH_take (i := 3) (oi := ({ dst := some 10, op := Go.Op.fieldAddr 46 (Go.Operand.tmp 9) 0, type := 0, pos := _, after := _, guard := none } : Oper)) (v := ?_) rfl (by kernel_rfl) (by kernel_rfl) (by kernel_rfl) (fun _ _ _ h => h) (Or.inl ⟨by rfl, ?_⟩) (by assumption) ?_
  rotate_left
  · (intro w hSw; (try dsimp only at hSw); go_simp; try with_reducible rfl)
  simp only [Act.put, List.setIfInBounds_toArray, List.set_cons_zero, List.set_cons_succ]
  refine wpAnyH_take (i := 5) (oi := ({ dst := some 12, op := Go.Op.move (Go.Operand.tmp 1), type := 41, pos := _, after := _, guard := none } : Oper)) (v := ?_) rfl (by kernel_rfl) (by kernel_rfl) (by kernel_rfl) (fun _ _ _ h => h) (Or.inl ⟨by rfl, ?_⟩) (by assumption) ?_
  rotate_left
  · (intro w hSw; (try dsimp only at hSw); go_simp; try with_reducible rfl)
  simp only [Act.put, List.setIfInBounds_toArray, List.set_cons_zero, List.set_cons_succ]
  refine wpAnyH_take (i := 6) (oi := ({ dst := some 13, op := Go.Op.nilCheck (Go.Operand.tmp 12), type := 0, pos := _, after := _, guard := none } : Oper)) (v := ?_) rfl (by kernel_rfl) (by kernel_rfl) (by kernel_rfl) (fun _ _ _ h => h) (Or.inl ⟨by rfl, ?_⟩) (by assumption) ?_
  rotate_left
  · (intro w hSw; (try dsimp only at hSw); go_simp; try with_reducible rfl)
  simp only [Act.put, List.setIfInBounds_toArray, List.set_cons_zero, List.set_cons_succ]
  refine wpAnyH_take (i := 7) (oi := ({ dst := some 14, op := Go.Op.fieldAddr 46 (Go.Operand.tmp 13) 1, type := 0, pos := _, after := _, guard := none } : Oper)) (v := ?_) rfl (by kernel_rfl) (by kernel_rfl) (by kernel_rfl) (fun _ _ _ h => h) (Or.inl ⟨by rfl, ?_⟩) (by assumption) ?_
  rotate_left
  · (intro w hSw; (try dsimp only at hSw); go_simp; try with_reducible rfl)
  simp only [Act.put, List.setIfInBounds_toArray, List.set_cons_zero, List.set_cons_succ]
  refine wpAnyH_take (i := 9) (oi := ({ dst := some 16, op := Go.Op.move (Go.Operand.tmp 2), type := 41, pos := _, after := _, guard := none } : Oper)) (v := ?_) rfl (by kernel_rfl) (by kernel_rfl) (by kernel_rfl) (fun _ _ _ h => h) (Or.inl ⟨by rfl, ?_⟩) (by assumption) ?_
  rotate_left
  · (intro w hSw; (try dsimp only at hSw); go_simp; try with_reducible rfl)
  simp only [Act.put, List.setIfInBounds_toArray, List.set_cons_zero, List.set_cons_succ]
  refine wpAnyH_take (i := 10) (oi := ({ dst := some 17, op := Go.Op.nilCheck (Go.Operand.tmp 16), type := 0, pos := _, after := _, guard := none } : Oper)) (v := ?_) rfl (by kernel_rfl) (by kernel_rfl) (by kernel_rfl) (fun _ _ _ h => h) (Or.inl ⟨by rfl, ?_⟩) (by assumption) ?_
  rotate_left
  · (intro w hSw; (try dsimp only at hSw); go_simp; try with_reducible rfl)
  simp only [Act.put, List.setIfInBounds_toArray, List.set_cons_zero, List.set_cons_succ]
  refine wpAnyH_take (i := 11) (oi := ({ dst := some 18, op := Go.Op.fieldAddr 46 (Go.Operand.tmp 17) 0, type := 0, pos := _, after := _, guard := none } : Oper)) (v := ?_) rfl (by kernel_rfl) (by kernel_rfl) (by kernel_rfl) (fun _ _ _ h => h) (Or.inl ⟨by rfl, ?_⟩) (by assumption) ?_
  rotate_left
  · (intro w hSw; (try dsimp only at hSw); go_simp; try with_reducible rfl)
  simp only [Act.put, List.setIfInBounds_toArray, List.set_cons_zero, List.set_cons_succ]
  refine wpAnyH_take (i := 12) (oi := ({ dst := some 19, op := Go.Op.load 4 (Go.Operand.tmp 18), type := 4, pos := _, after := _, guard := none } : Oper)) (v := ?_) rfl (by kernel_rfl) (by kernel_rfl) (by kernel_rfl) (fun _ _ _ h => h) (Or.inl ⟨by rfl, ?_⟩) (by assumption) ?_
  rotate_left
  · (intro w hSw; (try dsimp only at hSw); go_simp; try with_reducible rfl)
  simp only [Act.put, List.setIfInBounds_toArray, List.set_cons_zero, List.set_cons_succ]
  refine wpAnyH_take (i := 13) (oi := ({ dst := some 20, op := Go.Op.unOp Go.UnOp.not 4 (Go.Operand.tmp 19), type := 4, pos := _, after := _, guard := none } : Oper)) (v := ?_) rfl (by kernel_rfl) (by kernel_rfl) (by kernel_rfl) (fun _ _ _ h => h) (Or.inl ⟨by rfl, ?_⟩) (by assumption) ?_
  rotate_left
  · (intro w hSw; (try dsimp only at hSw); go_simp; try with_reducible rfl)
  simp only [Act.put, List.setIfInBounds_toArray, List.set_cons_zero, List.set_cons_succ]
  refine wpAnyH_take (i := 14) (oi := ({ dst := some 21, op := Go.Op.move (Go.Operand.tmp 2), type := 41, pos := _, after := _, guard := none } : Oper)) (v := ?_) rfl (by kernel_rfl) (by kernel_rfl) (by kernel_rfl) (fun _ _ _ h => h) (Or.inl ⟨by rfl, ?_⟩) (by assumption) ?_
  rotate_left
  · (intro w hSw; (try dsimp only at hSw); go_simp; try with_reducible rfl)
  simp only [Act.put, List.setIfInBounds_toArray, List.set_cons_zero, List.set_cons_succ]
  refine wpAnyH_take (i := 15) (oi := ({ dst := some 22, op := Go.Op.nilCheck (Go.Operand.tmp 21), type := 0, pos := _, after := _, guard := none } : Oper)) (v := ?_) rfl (by kernel_rfl) (by kernel_rfl) (by kernel_rfl) (fun _ _ _ h => h) (Or.inl ⟨by rfl, ?_⟩) (by assumption) ?_
  rotate_left
  · (intro w hSw; (try dsimp only at hSw); go_simp; try with_reducible rfl)
  simp only [Act.put, List.setIfInBounds_toArray, List.set_cons_zero, List.set_cons_succ]
  refine wpAnyH_take (i := 16) (oi := ({ dst := some 23, op := Go.Op.fieldAddr 46 (Go.Operand.tmp 22) 1, type := 0, pos := _, after := _, guard := none } : Oper)) (v := ?_) rfl (by kernel_rfl) (by kernel_rfl) (by kernel_rfl) (fun _ _ _ h => h) (Or.inl ⟨by rfl, ?_⟩) (by assumption) ?_
  rotate_left
  · (intro w hSw; (try dsimp only at hSw); go_simp; try with_reducible rfl)
  simp only [Act.put, List.setIfInBounds_toArray, List.set_cons_zero, List.set_cons_succ]
  refine wpAnyH_take (i := 17) (oi := ({ dst := some 24, op := Go.Op.load 44 (Go.Operand.tmp 23), type := 44, pos := _, after := _, guard := none } : Oper)) (v := ?_) rfl (by kernel_rfl) (by kernel_rfl) (by kernel_rfl) (fun _ _ _ h => h) (Or.inl ⟨by rfl, ?_⟩) (by assumption) ?_
  rotate_left
  · (intro w hSw; (try dsimp only at hSw); go_simp; try with_reducible rfl)
  simp only [Act.put, List.setIfInBounds_toArray, List.set_cons_zero, List.set_cons_succ]
  refine wpAnyH_ready (rs := [4, 8]) (by kernel_rfl) (by simp) (AllReadyH.cons (o := ({ dst := some 11, op := Go.Op.load 4 (Go.Operand.tmp 10), type := 4, pos := _, after := _, guard := none } : Oper)) rfl (fun KK hK => ?_) (AllReadyH.cons (o := ({ dst := some 15, op := Go.Op.load 44 (Go.Operand.tmp 14), type := 44, pos := _, after := _, guard := none } : Oper)) rfl (fun KK hK => ?_) AllReadyH.nil))
  · go_simp
    refine hK.out _ _ (hS _ (gb_of_below hBc)) (fun hHeld => ?_)
    clear hK
    try simp only [Act.put, List.setIfInBounds_toArray, List.set_cons_zero, List.set_cons_succ]
    refine wpAnyH_ready (rs := [8]) (by kernel_rfl) (by simp) (AllReadyH.cons (o := ({ dst := some 15, op := Go.Op.load 44 (Go.Operand.tmp 14), type := 44, pos := _, after := _, guard := none } : Oper)) rfl (fun KK hK => ?_) AllReadyH.nil)
    go_simp
    refine hK.out _ _ (hS _ (gb_of_below hBc)) (fun hHeld => ?_)
    clear hK
    try simp only [Act.put, List.setIfInBounds_toArray, List.set_cons_zero, List.set_cons_succ]
    refine wpAnyH_ready (rs := [18]) (by kernel_rfl) (by simp) (AllReadyH.cons (o := ({ dst := some 25, op := Go.Op.call { callee := Go.Callee.value (Go.Operand.func 38), args := #[Go.Operand.tmp 11, Go.Operand.tmp 15, Go.Operand.tmp 20, Go.Operand.tmp 24], argTypes := #[4, 44, 4, 44] }, type := 65, pos := _, after := _, guard := none } : Oper)) rfl (fun KK hK => ?_) AllReadyH.nil)
    go_simp
    refine (HM.out _ (HWX.out _ hBc) (HWY.out _ hBc)).mono ?_
    rintro e W1 ⟨⟨zn, r, ws, rfl, hr, hfin⟩, hb1⟩
    replace hX : Blk W1 bx 46 [.bool xn, .slice ax lx.length cx] := hX.of_eq (hb1.block _ hX.lt)
    replace hZ : Blk W1 bz 46 [zx, zy] := hZ.of_eq (hb1.block _ hZ.lt)
    replace cx0 : W1.cell? ⟨bx, 0, none⟩ = some (.bool xn) := hX.cell 0
    replace cx1 : W1.cell? ⟨bx, 1, none⟩ = some (.slice ax lx.length cx) := hX.cell 1
    replace hBc := bcat2 hBc hb1
    try go_wp2_with fail
    refine hK.out _ _ (hS _ (gb_of_below hBc)) (fun hHeld => ?_)
    clear hK
    try simp only [Act.put, List.setIfInBounds_toArray, List.set_cons_zero, List.set_cons_succ]
    refine wpAnyH_take (i := 19) (oi := ({ dst := some 26, op := Go.Op.extract (Go.Operand.tmp 25) 0, type := 4, pos := _, after := _, guard := none } : Oper)) (v := ?_) rfl (by kernel_rfl) (by kernel_rfl) (by kernel_rfl) (fun _ _ _ h => h) (Or.inl ⟨by rfl, ?_⟩) (by assumption) ?_
    rotate_left
    · (intro w hSw; (try dsimp only at hSw); go_simp; try with_reducible rfl)
    simp only [Act.put, List.setIfInBounds_toArray, List.set_cons_zero, List.set_cons_succ]
    refine wpAnyH_take (i := 20) (oi := ({ dst := some 27, op := Go.Op.extract (Go.Operand.tmp 25) 1, type := 44, pos := _, after := _, guard := none } : Oper)) (v := ?_) rfl (by kernel_rfl) (by kernel_rfl) (by kernel_rfl) (fun _ _ _ h => h) (Or.inl ⟨by rfl, ?_⟩) (by assumption) ?_
    rotate_left
    · (intro w hSw; (try dsimp only at hSw); go_simp; try with_reducible rfl)
    simp only [Act.put, List.setIfInBounds_toArray, List.set_cons_zero, List.set_cons_succ]
    refine wpAnyH_ready (rs := [21]) (by kernel_rfl) (by simp) (AllReadyH.cons (o := ({ dst := some 28, op := Go.Op.call { callee := Go.Callee.value (Go.Operand.func 37), args := #[Go.Operand.tmp 7, Go.Operand.tmp 26, Go.Operand.tmp 27], argTypes := #[41, 4, 44] }, type := 41, pos := _, after := _, guard := none } : Oper)) rfl (fun KK hK => ?_) AllReadyH.nil)
    go_simp
    refine (give_ok bz zn zx zy r ws _ hZ hr).mono ?_
    rintro e W2 ⟨rfl, hz2, hg2⟩
    try go_wp2_with fail
    refine hK.out _ _ (hS _ (gb_after hBc hg2)) (fun hHeld => ?_)
    clear hK
    try simp only [Act.put, List.setIfInBounds_toArray, List.set_cons_zero, List.set_cons_succ]
    refine wpAnyH_take (i := 22) (oi := ({ dst := some 6, op := Go.Op.assign (Go.Operand.tmp 28), type := 41, pos := _, after := _, guard := none } : Oper)) (v := ?_) rfl (by kernel_rfl) (by kernel_rfl) (by kernel_rfl) (fun _ _ _ h => h) (Or.inl ⟨by rfl, ?_⟩) (by assumption) ?_
    rotate_left
    · (intro w hSw; (try dsimp only at hSw); go_simp; try with_reducible rfl)
    simp only [Act.put, List.setIfInBounds_toArray, List.set_cons_zero, List.set_cons_succ]
    refine wpAnyH_done (by kernel_rfl) ?_ _
    go_wp2
    go_ret
    exact ⟨rfl, HFIN.out _ _ _ _ zn hBc hZ hr hfin hz2 hg2⟩
  go_simp
  refine hK.out _ _ (hS _ (gb_of_below hBc)) (fun hHeld => ?_)
  clear hK
  try simp only [Act.put, List.setIfInBounds_toArray, List.set_cons_zero, List.set_cons_succ]
  refine wpAnyH_ready (rs := [4]) (by kernel_rfl) (by simp) (AllReadyH.cons (o := ({ dst := some 11, op := Go.Op.load 4 (Go.Operand.tmp 10), type := 4, pos := _, after := _, guard := none } : Oper)) rfl (fun KK hK => ?_) AllReadyH.nil)
  go_simp
  refine hK.out _ _ (hS _ (gb_of_below hBc)) (fun hHeld => ?_)
  clear hK
  try simp only [Act.put, List.setIfInBounds_toArray, List.set_cons_zero, List.set_cons_succ]
  refine wpAnyH_ready (rs := [18]) (by kernel_rfl) (by simp) (AllReadyH.cons (o := ({ dst := some 25, op := Go.Op.call { callee := Go.Callee.value (Go.Operand.func 38), args := #[Go.Operand.tmp 11, Go.Operand.tmp 15, Go.Operand.tmp 20, Go.Operand.tmp 24], argTypes := #[4, 44, 4, 44] }, type := 65, pos := _, after := _, guard := none } : Oper)) rfl (fun KK hK => ?_) AllReadyH.nil)
  go_simp
  refine (HM.out _ (HWX.out _ hBc) (HWY.out _ hBc)).mono ?_
  rintro e W1 ⟨⟨zn, r, ws, rfl, hr, hfin⟩, hb1⟩
  replace hX : Blk W1 bx 46 [.bool xn, .slice ax lx.length cx] := hX.of_eq (hb1.block _ hX.lt)
  replace hZ : Blk W1 bz 46 [zx, zy] := hZ.of_eq (hb1.block _ hZ.lt)
  replace cx0 : W1.cell? ⟨bx, 0, none⟩ = some (.bool xn) := hX.cell 0
  replace cx1 : W1.cell? ⟨bx, 1, none⟩ = some (.slice ax lx.length cx) := hX.cell 1
  replace hBc := bcat2 hBc hb1
  try go_wp2_with fail
  refine hK.out _ _ (hS _ (gb_of_below hBc)) (fun hHeld => ?_)
  clear hK
  try simp only [Act.put, List.setIfInBounds_toArray, List.set_cons_zero, List.set_cons_succ]
  refine wpAnyH_take (i := 19) (oi := ({ dst := some 26, op := Go.Op.extract (Go.Operand.tmp 25) 0, type := 4, pos := _, after := _, guard := none } : Oper)) (v := ?_) rfl (by kernel_rfl) (by kernel_rfl) (by kernel_rfl) (fun _ _ _ h => h) (Or.inl ⟨by rfl, ?_⟩) (by assumption) ?_
  rotate_left
  · (intro w hSw; (try dsimp only at hSw); go_simp; try with_reducible rfl)
  simp only [Act.put, List.setIfInBounds_toArray, List.set_cons_zero, List.set_cons_succ]
  refine wpAnyH_take (i := 20) (oi := ({ dst := some 27, op := Go.Op.extract (Go.Operand.tmp 25) 1, type := 44, pos := _, after := _, guard := none } : Oper)) (v := ?_) rfl (by kernel_rfl) (by kernel_rfl) (by kernel_rfl) (fun _ _ _ h => h) (Or.inl ⟨by rfl, ?_⟩) (by assumption) ?_
  rotate_left
  · (intro w hSw; (try dsimp only at hSw); go_simp; try with_reducible rfl)
  simp only [Act.put, List.setIfInBounds_toArray, List.set_cons_zero, List.set_cons_succ]
  refine wpAnyH_ready (rs := [21]) (by kernel_rfl) (by simp) (AllReadyH.cons (o := ({ dst := some 28, op := Go.Op.call { callee := Go.Callee.value (Go.Operand.func 37), args := #[Go.Operand.tmp 7, Go.Operand.tmp 26, Go.Operand.tmp 27], argTypes := #[41, 4, 44] }, type := 41, pos := _, after := _, guard := none } : Oper)) rfl (fun KK hK => ?_) AllReadyH.nil)
  go_simp
  refine (give_ok bz zn zx zy r ws _ hZ hr).mono ?_
  rintro e W2 ⟨rfl, hz2, hg2⟩
  try go_wp2_with fail
  refine hK.out _ _ (hS _ (gb_after hBc hg2)) (fun hHeld => ?_)
  clear hK
  try simp only [Act.put, List.setIfInBounds_toArray, List.set_cons_zero, List.set_cons_succ]
  refine wpAnyH_take (i := 22) (oi := ({ dst := some 6, op := Go.Op.assign (Go.Operand.tmp 28), type := 41, pos := _, after := _, guard := none } : Oper)) (v := ?_) rfl (by kernel_rfl) (by kernel_rfl) (by kernel_rfl) (fun _ _ _ h => h) (Or.inl ⟨by rfl, ?_⟩) (by assumption) ?_
  rotate_left
  · (intro w hSw; (try dsimp only at hSw); go_simp; try with_reducible rfl)
  simp only [Act.put, List.setIfInBounds_toArray, List.set_cons_zero, List.set_cons_succ]
  refine wpAnyH_done (by kernel_rfl) ?_ _
  go_wp2
  go_ret
  exact ⟨rfl, HFIN.out _ _ _ _ zn hBc hZ hr hfin hz2 hg2⟩
end Go.Proofs.YtojnjfkonaeegaaDoorQ

namespace Go.Proofs.YtojnjfkonaeegaaDoorQ
open Go Go.RowKit

set_option maxRecDepth 100000 in
set_option maxHeartbeats 8000000 in
theorem zset_ok (bz bx m : Nat) (x : Int) (zx zy : Value) (w : World) (hZ0 : Blk w bz 46 [zx, zy]) (hx : BigZ w bx x m) (hne : bx ≠ bz) (hm : m ≤ 10000000) :
    Calls Tryd.prog 57 #[.pointer (some ⟨bz, 0, none⟩), .pointer (some ⟨bx, 0, none⟩)] w fun e w' => e = .returned (.pointer (some ⟨bz, 0, none⟩)) ∧ BigZ w' bz x m ∧ w.grownBy w' (some bz) := by
  obtain ⟨v, ws, hX0, hW0, hc, hv, hl⟩ := hx
  obtain ⟨av, cv, rfl⟩ := hW0.shape
  have hsx := sg_nat x
  obtain ⟨xn, hxn⟩ : ∃ xn, decide (x < 0) = xn := ⟨_, rfl⟩
  rw [hxn] at hX0 hsx
  rw [← hv] at hsx
  have HSX := hide hsx
  clear hsx hxn hv
  have hX : Blk w.drew bx 46 [.bool xn, .slice av ws.length cv] := hX0
  have hZ : Blk w.drew bz 46 [zx, zy] := hZ0
  have hW : WSl w.drew (.slice av ws.length cv) ws := hW0.kept (fun _ _ _ _ => rfl)
  have hS : ∀ W, w.drew.grownBy W (some bz) → (w.drew.grownBy W (some bz) ∧ W.cell? ⟨bx, 0, none⟩ = some (.bool xn) ∧ W.cell? ⟨bx, 1, none⟩ = some (.slice av ws.length cv)) := fun W h =>
    have hYW : Blk W bx 46 [.bool xn, .slice av ws.length cv] := hX.grown h (by simpa using hne)
    ⟨h, hYW.cell 0, hYW.cell 1⟩
  have HG : Hid (∀ W', w.drew.grownBy W' (some bz) → w.grownBy W' (some bz)) := hide fun W' h => ⟨h.os, h.tape, h.output, h.size, h.block⟩
  clear hX0 hZ0 hW0
  go_enter Tryd.func57, Tryd.ntmps57
  go_wp2
  refine wp_region_held_drew (S := fun W => w.drew.grownBy W (some bz) ∧ W.cell? ⟨bx, 0, none⟩ = some (.bool xn) ∧ W.cell? ⟨bx, 1, none⟩ = some (.slice av ws.length cv)) (by kernel_rfl) (hS _ (gb_refl _ _)) (fun hHeld => ?_)
  generalize w.drew = wd at *
  refine wpAnyH_take (i := 0) (oi := ({ dst := some 5, op := Go.Op.move (Go.Operand.tmp 0), type := 41, pos := _, after := _, guard := none } : Oper)) (v := ?_) rfl (by kernel_rfl) (by kernel_rfl) (by kernel_rfl) (fun _ _ _ h => h) (Or.inl ⟨by rfl, ?_⟩) (by assumption) ?_
  rotate_left
  · (intro w hSw; (try dsimp only at hSw); go_simp; try with_reducible rfl)
  simp only [Act.put, List.setIfInBounds_toArray, List.set_cons_zero, List.set_cons_succ]
  refine wpAnyH_take (i := 1) (oi := ({ dst := some 6, op := Go.Op.move (Go.Operand.tmp 1), type := 41, pos := _, after := _, guard := none } : Oper)) (v := ?_) rfl (by kernel_rfl) (by kernel_rfl) (by kernel_rfl) (fun _ _ _ h => h) (Or.inl ⟨by rfl, ?_⟩) (by assumption) ?_
  rotate_left
  · (intro w hSw; (try dsimp only at hSw); go_simp; try with_reducible rfl)
  simp only [Act.put, List.setIfInBounds_toArray, List.set_cons_zero, List.set_cons_succ]
  refine wpAnyH_take (i := 2) (oi := ({ dst := some 7, op := Go.Op.nilCheck (Go.Operand.tmp 6), type := 0, pos := _, after := _, guard := none } : Oper)) (v := ?_) rfl (by kernel_rfl) (by kernel_rfl) (by kernel_rfl) (fun _ _ _ h => h) (Or.inl ⟨by rfl, ?_⟩) (by assumption) ?_
  rotate_left
  · (intro w hSw; (try dsimp only at hSw); go_simp; try with_reducible rfl)
  simp only [Act.put, List.setIfInBounds_toArray, List.set_cons_zero, List.set_cons_succ]
  refine wpAnyH_take (i := 3) (oi := ({ dst := some 8, op := Go.Op.fieldAddr 46 (Go.Operand.tmp 7) 0, type := 0, pos := _, after := _, guard := none } : Oper)) (v := ?_) rfl (by kernel_rfl) (by kernel_rfl) (by kernel_rfl) (fun _ _ _ h => h) (Or.inl ⟨by rfl, ?_⟩) (by assumption) ?_
  rotate_left
  · (intro w hSw; (try dsimp only at hSw); go_simp; try with_reducible rfl)
  simp only [Act.put, List.setIfInBounds_toArray, List.set_cons_zero, List.set_cons_succ]
  refine wpAnyH_take (i := 4) (oi := ({ dst := some 9, op := Go.Op.load 4 (Go.Operand.tmp 8), type := 4, pos := _, after := _, guard := none } : Oper)) (v := ?_) rfl (by kernel_rfl) (by kernel_rfl) (by kernel_rfl) (fun _ _ _ h => h) (Or.inl ⟨by rfl, ?_⟩) (by assumption) ?_
  rotate_left
  · (intro w hSw; (try dsimp only at hSw); go_simp; try with_reducible rfl)
  simp only [Act.put, List.setIfInBounds_toArray, List.set_cons_zero, List.set_cons_succ]
  refine wpAnyH_take (i := 5) (oi := ({ dst := some 10, op := Go.Op.move (Go.Operand.tmp 1), type := 41, pos := _, after := _, guard := none } : Oper)) (v := ?_) rfl (by kernel_rfl) (by kernel_rfl) (by kernel_rfl) (fun _ _ _ h => h) (Or.inl ⟨by rfl, ?_⟩) (by assumption) ?_
  rotate_left
  · (intro w hSw; (try dsimp only at hSw); go_simp; try with_reducible rfl)
  simp only [Act.put, List.setIfInBounds_toArray, List.set_cons_zero, List.set_cons_succ]
  refine wpAnyH_take (i := 6) (oi := ({ dst := some 11, op := Go.Op.nilCheck (Go.Operand.tmp 10), type := 0, pos := _, after := _, guard := none } : Oper)) (v := ?_) rfl (by kernel_rfl) (by kernel_rfl) (by kernel_rfl) (fun _ _ _ h => h) (Or.inl ⟨by rfl, ?_⟩) (by assumption) ?_
  rotate_left
  · (intro w hSw; (try dsimp only at hSw); go_simp; try with_reducible rfl)
  simp only [Act.put, List.setIfInBounds_toArray, List.set_cons_zero, List.set_cons_succ]
  refine wpAnyH_take (i := 7) (oi := ({ dst := some 12, op := Go.Op.fieldAddr 46 (Go.Operand.tmp 11) 1, type := 0, pos := _, after := _, guard := none } : Oper)) (v := ?_) rfl (by kernel_rfl) (by kernel_rfl) (by kernel_rfl) (fun _ _ _ h => h) (Or.inl ⟨by rfl, ?_⟩) (by assumption) ?_
  rotate_left
  · (intro w hSw; (try dsimp only at hSw); go_simp; try with_reducible rfl)
  simp only [Act.put, List.setIfInBounds_toArray, List.set_cons_zero, List.set_cons_succ]
  refine wpAnyH_take (i := 8) (oi := ({ dst := some 13, op := Go.Op.load 44 (Go.Operand.tmp 12), type := 44, pos := _, after := _, guard := none } : Oper)) (v := ?_) rfl (by kernel_rfl) (by kernel_rfl) (by kernel_rfl) (fun _ _ _ h => h) (Or.inl ⟨by rfl, ?_⟩) (by assumption) ?_
  rotate_left
  · (intro w hSw; (try dsimp only at hSw); go_simp; try with_reducible rfl)
  simp only [Act.put, List.setIfInBounds_toArray, List.set_cons_zero, List.set_cons_succ]
  refine wpAnyH_ready (rs := [9]) (by kernel_rfl) (by simp) (AllReadyH.cons (o := ({ dst := some 14, op := Go.Op.call { callee := Go.Callee.value (Go.Operand.func 60), args := #[Go.Operand.tmp 13], argTypes := #[44] }, type := 44, pos := _, after := _, guard := none } : Oper)) rfl (fun KK hK => ?_) AllReadyH.nil)
  go_simp
  refine (twin_ok _ ws wd hW (by omega)).mono ?_
  rintro e W1 ⟨⟨r, rfl, hr⟩, hb1⟩
  have hZ1 : Blk W1 bz 46 [zx, zy] := hZ.of_eq (hb1.block _ hZ.lt)
  try go_wp2_with fail
  refine hK.out _ _ (hS _ (gb_of_below hb1)) (fun hHeld => ?_)
  clear hK
  try simp only [Act.put, List.setIfInBounds_toArray, List.set_cons_zero, List.set_cons_succ]
  refine wpAnyH_ready (rs := [10]) (by kernel_rfl) (by simp) (AllReadyH.cons (o := ({ dst := some 15, op := Go.Op.call { callee := Go.Callee.value (Go.Operand.func 37), args := #[Go.Operand.tmp 5, Go.Operand.tmp 9, Go.Operand.tmp 14], argTypes := #[41, 4, 44] }, type := 41, pos := _, after := _, guard := none } : Oper)) rfl (fun KK hK => ?_) AllReadyH.nil)
  go_simp
  refine (give_ok bz xn zx zy r ws _ hZ1 hr).mono ?_
  rintro e W2 ⟨rfl, hz2, hg2⟩
  try go_wp2_with fail
  refine hK.out _ _ (hS _ (gb_after hb1 hg2)) (fun hHeld => ?_)
  clear hK
  try simp only [Act.put, List.setIfInBounds_toArray, List.set_cons_zero, List.set_cons_succ]
  refine wpAnyH_take (i := 11) (oi := ({ dst := some 4, op := Go.Op.assign (Go.Operand.tmp 15), type := 41, pos := _, after := _, guard := none } : Oper)) (v := ?_) rfl (by kernel_rfl) (by kernel_rfl) (by kernel_rfl) (fun _ _ _ h => h) (Or.inl ⟨by rfl, ?_⟩) (by assumption) ?_
  rotate_left
  · (intro w hSw; (try dsimp only at hSw); go_simp; try with_reducible rfl)
  simp only [Act.put, List.setIfInBounds_toArray, List.set_cons_zero, List.set_cons_succ]
  refine wpAnyH_done (by kernel_rfl) ?_ _
  go_wp2
  go_ret
  exact ⟨rfl, BigZ.given hZ1 hz2 hg2 hr hc hl HSX.out.symm, HG.out _ (gb_after hb1 hg2)⟩

theorem can_one {ws : List Nat} {d : Nat} (h : Can ws) (hv : wv ws = d) (hd : 0 < d) (hd2 : d < 4294967296) : ws = [d] := by
  rcases ws with _ | ⟨x, _ | ⟨y, r⟩⟩
  · simp [wv] at hv; omega
  · simp [wv] at hv; rw [hv]
  · have h1 := h.ge (by simp)
    have h2 : 4294967296 ^ 1 ≤ 4294967296 ^ ((x :: y :: r).length - 1) := Nat.pow_le_pow_right (by omega) (by simp)
    omega
/-- One word. -/
theorem WSl.one {W : World} {v : Value} {e : Nat} (h : WSl W v [e]) : ∃ g cap, v = .slice (some ⟨g, 0, none⟩) 1 cap ∧ W.cell? ⟨g, 0, none⟩ = some (.int .u32 (e : Int)) ∧ cap ≤ maxLen ∧ 1 ≤ cap := by
  obtain ⟨a, g, cap, h1, h2, h3, h4, h5⟩ := h
  obtain ⟨rfl, _⟩ := h4 (by simp)
  exact ⟨g, cap, h1, by simpa using h5 0 (by simp), h3, by simpa using h2⟩

set_option maxRecDepth 100000 in
set_option maxHeartbeats 2000000 in
theorem length_one (v : Value) (e : Nat) (w : World) (hv : WSl w v [e]) (he : e < 4294967296) :
    Calls Tryd.prog 63 #[v] w fun x w' => (∃ L : Nat, x = .returned (.int .i64 L) ∧ e < 2 ^ L ∧ L ≤ 32 ∧ (L = 0 ∨ 2 ^ (L - 1) ≤ e)) ∧ w' = w := by
  obtain ⟨g, cap, rfl, hc, hm, h1⟩ := hv.one
  unfold maxLen at hm
  clear hv
  go_enter Tryd.func63, Tryd.ntmps63
  go_wp2
  go_loop [3, 4] (fun n t => ∃ k : Nat, k ≤ 32 ∧ (k = 0 ∨ 2 ^ (k - 1) ≤ e) ∧ n = .int .i64 k ∧ t = .int .u32 ((e / 2 ^ k : Nat) : Int)) (fun n _ => 32 - (intOf n).toNat)
  case atStart => exact ⟨0, by omega, .inl rfl, rfl, by simp⟩
  case round =>
    obtain ⟨k, hk, hkl, rfl, rfl⟩ := hrel
    have HK := hide hkl
    clear hkl
    have hp : 0 < 2 ^ k := Nat.pow_pos (by omega)
    have hs : e / 2 ^ k / 2 = e / 2 ^ (k + 1) := by rw [Nat.div_div_eq_div_mul, Nat.pow_succ]
    have hz0 : e / 2 ^ k = 0 ↔ e < 2 ^ k := by rw [Nat.div_eq_zero_iff]; omega
    have h32 : k = 32 → e / 2 ^ k = 0 := fun h => by rw [hz0, h]; omega
    have hle : e / 2 ^ k ≤ e := Nat.div_le_self _ _
    generalize e / 2 ^ k = t at *
    by_cases hz : t = 0
    · subst hz
      have := hz0.1 rfl
      have HR := hide this
      clear hz0 hs h32 hp this
      have hkw : IntKind.i64.wrap (0 + (k : Int)) = (k : Int) := by rw [IntKind.wrap_i64]; omega
      go_wp2
      go_ret
      exact ⟨⟨k, rfl, HR.out, hk, HK.out⟩, rfl⟩
    · have hb : ((t : Int) != 0) = true := by simp; omega
      have hge : 2 ^ k ≤ e := by
        rcases Nat.lt_or_ge e (2 ^ k) with h | h
        · exact absurd (hz0.2 h) hz
        · exact h
      have HGE := hide hge
      clear hge
      have hk32 : k < 32 := by rcases Nat.lt_or_ge k 32 with h | h; exact h; exact absurd (h32 (by omega)) hz
      obtain ⟨u, hu⟩ : ∃ u, t / 2 = u := ⟨_, rfl⟩
      have hte : (t : Int) / 2 = (u : Int) := by omega
      rw [hu] at hs
      have HS := hide hs
      clear hz0 h32 hs hu
      go_wp2
      go_round
      case rel => exact ⟨k + 1, by omega, .inr (by simpa using HGE.out), by go_num, by rw [← HS.out]⟩
      case measure => simp [intOf]; omega

set_option maxRecDepth 100000 in
set_option maxHeartbeats 2000000 in
theorem bit_one (v : Value) (e i : Nat) (w : World) (hv : WSl w v [e]) (he : e < 4294967296) (hi : i < 32) :
    Calls Tryd.prog 64 #[v, .int .i64 i] w fun x w' => x = .returned (.int .u64 ((e / 2 ^ i % 2 : Nat) : Int)) ∧ w' = w := by
  obtain ⟨g, cap, rfl, hc, hm, h1⟩ := hv.one
  unfold maxLen at hm
  clear hv
  have hq : (i : Int) / 32 = 0 := by omega
  have hr : (i : Int) % 32 = (i : Int) := by omega
  have hqt : (i : Int).tdiv 32 = 0 := by rw [Int.tdiv_eq_ediv_of_nonneg (by omega)]; exact hq
  have hrt : (i : Int).tmod 32 = (i : Int) := by rw [Int.tmod_eq_emod_of_nonneg (by omega)]; exact hr
  have hi0 : ¬ (i : Int) < 0 := by omega
  have hi64 : (i : Int) < 64 := by omega
  go_enter Tryd.func64, Tryd.ntmps64
  go_wp2
  go_ret
  refine ⟨?_, rfl⟩
  have hp : 0 < 2 ^ i := Nat.pow_pos (by omega)
  have hle : e / 2 ^ i ≤ e := Nat.div_le_self _ _
  have hcast : (e : Int) / 2 ^ i = ((e / 2 ^ i : Nat) : Int) := by rw [Int.natCast_ediv, Int.natCast_pow]; rfl
  obtain ⟨q, hqe⟩ : ∃ q, e / 2 ^ i = q := ⟨_, rfl⟩
  rw [hqe] at hle hcast
  have hw : IntKind.u64.wrap (q : Int) = (q : Int) := by rw [IntKind.wrap_u64]; omega
  have hand : bits BinOp.and IntKind.u64 (q : Int) 1 = ((q % 2 : Nat) : Int) := by
    have h := bits_and_u64_nat q 1 (by omega) (by omega)
    rw [Nat.and_one_is_mod] at h
    exact h
  show Ending.returned (Value.int IntKind.u64 (bits BinOp.and IntKind.u64 (IntKind.u64.wrap ((e : Int) / 2 ^ i)) 1)) = _
  rw [hcast, hw, hand, ← hqe, Int.natCast_emod]; rfl

end Go.Proofs.YtojnjfkonaeegaaDoorQ

namespace Go.Proofs.YtojnjfkonaeegaaDoorQ
open Go Go.RowKit

set_option maxRecDepth 100000 in
set_option maxHeartbeats 16000000 in
theorem zsq_ok (b m : Nat) (x : Int) (hx0 : 0 ≤ x) (w : World) (hx : BigZ w b x m) (hm : m + m ≤ 10000000) :
    Calls Tryd.prog 25 #[.pointer (some ⟨b, 0, none⟩), .pointer (some ⟨b, 0, none⟩), .pointer (some ⟨b, 0, none⟩)] w fun e w' => e = .returned (.pointer (some ⟨b, 0, none⟩)) ∧ BigZ w' b (x * x) (m + m) ∧ w.grownBy w' (some b) := by
  obtain ⟨vx, lx, hX0, hWx, hcx, hvx, hlx⟩ := hx
  obtain ⟨ax, cx, rfl⟩ := hWx.shape
  have hsg := zmul_sign x x
  have hxn : decide (x < 0) = false := decide_eq_false (by omega)
  rw [hxn] at hX0 hsg
  rw [← hvx] at hsg
  have HM := hide (fun (W : World) (h1 : WSl W (.slice ax lx.length cx) lx) => mul_w _ _ lx lx W h1 h1 hcx.lt hcx.lt (by omega))
  have HFIN := hide (fun (W1 W2 : World) (r : Value) (ws : List Nat) (hb : Below w.drew.heap.size w.drew W1) (hz : Blk W1 b 46 [.bool false, .slice ax lx.length cx]) (hr : WSl W1 r ws) (hf : Can ws ∧ wv ws = wv lx * wv lx ∧ ws.length ≤ lx.length + lx.length) (hz2 : Blk W2 b 46 [.bool ((false != false) && decide (0 < ws.length)), r]) (hg2 : W1.grownBy W2 (some b)) =>
    show (BigZ W2 b (x * x) (m + m) ∧ w.grownBy W2 (some b)) from
      ⟨BigZ.given hz hz2 hg2 hr hf.1 (by have := hf.2.2; omega) (by rw [hf.2.1]; exact hsg), gb_after ⟨hb.os, hb.tape, hb.output, hb.size, hb.block⟩ hg2⟩)
  clear hsg hxn hcx hvx hlx
  have hX : Blk w.drew b 46 [.bool false, .slice ax lx.length cx] := hX0
  have cx0 : w.drew.cell? ⟨b, 0, none⟩ = some (.bool false) := hX.cell 0
  have cx1 : w.drew.cell? ⟨b, 1, none⟩ = some (.slice ax lx.length cx) := hX.cell 1
  have hBc : Below w.drew.heap.size w.drew w.drew := Below.refl _ _
  have HWX := hide (fun (W : World) (h : Below w.drew.heap.size w.drew W) => WSl.below (hWx.kept (W' := w.drew) (fun _ _ _ _ => rfl)) h)
  clear hX0 hWx
  go_enter Tryd.func25, Tryd.ntmps25
  go_wp2
  refine wp_region_held_drew (S := fun W => w.drew.grownBy W (some b) ∧ W.cell? ⟨b, 0, none⟩ = some (.bool false)) (by kernel_rfl) ⟨gb_refl _ _, cx0⟩ (fun hHeld => ?_)
  generalize w.drew = wd at *
  refine wpAnyH_take (i := 0) (oi := ({ dst := some 7, op := Go.Op.move (Go.Operand.tmp 0), type := 41, pos := _, after := _, guard := none } : Oper)) (v := ?_) rfl (by kernel_rfl) (by kernel_rfl) (by kernel_rfl) (fun _ _ _ h => h) (Or.inl ⟨by rfl, ?_⟩) (by assumption) ?_
  rotate_left
  · (intro w hSw; (try dsimp only at hSw); go_simp; try with_reducible rfl)
  simp only [Act.put, List.setIfInBounds_toArray, List.set_cons_zero, List.set_cons_succ]
  refine wpAnyH_take (i := 1) (oi := ({ dst := some 8, op := Go.Op.move (Go.Operand.tmp 1), type := 41, pos := _, after := _, guard := none } : Oper)) (v := ?_) rfl (by kernel_rfl) (by kernel_rfl) (by kernel_rfl) (fun _ _ _ h => h) (Or.inl ⟨by rfl, ?_⟩) (by assumption) ?_
  rotate_left
  · (intro w hSw; (try dsimp only at hSw); go_simp; try with_reducible rfl)
  simp only [Act.put, List.setIfInBounds_toArray, List.set_cons_zero, List.set_cons_succ]
  refine wpAnyH_take (i := 2) (oi := ({ dst := some 9, op := Go.Op.nilCheck (Go.Operand.tmp 8), type := 0, pos := _, after := _, guard := none } : Oper)) (v := ?_) rfl (by kernel_rfl) (by kernel_rfl) (by kernel_rfl) (fun _ _ _ h => h) (Or.inl ⟨by rfl, ?_⟩) (by assumption) ?_
  rotate_left
  · (intro w hSw; (try dsimp only at hSw); go_simp; try with_reducible rfl)
  simp only [Act.put, List.setIfInBounds_toArray, List.set_cons_zero, List.set_cons_succ]
  refine wpAnyH_take (i := 3) (oi := ({ dst := some 10, op := Go.Op.fieldAddr 46 (Go.Operand.tmp 9) 0, type := 0, pos := _, after := _, guard := none } : Oper)) (v := ?_) rfl (by kernel_rfl) (by kernel_rfl) (by kernel_rfl) (fun _ _ _ h => h) (Or.inl ⟨by rfl, ?_⟩) (by assumption) ?_
  rotate_left
  · (intro w hSw; (try dsimp only at hSw); go_simp; try with_reducible rfl)
  simp only [Act.put, List.setIfInBounds_toArray, List.set_cons_zero, List.set_cons_succ]
  refine wpAnyH_take (i := 4) (oi := ({ dst := some 11, op := Go.Op.load 4 (Go.Operand.tmp 10), type := 4, pos := _, after := _, guard := none } : Oper)) (v := ?_) rfl (by kernel_rfl) (by kernel_rfl) (by kernel_rfl) (fun _ _ _ h => h) (Or.inl ⟨by rfl, ?_⟩) (by assumption) ?_
  rotate_left
  · (intro w hSw; (try dsimp only at hSw); go_simp; try with_reducible rfl)
  simp only [Act.put, List.setIfInBounds_toArray, List.set_cons_zero, List.set_cons_succ]
  refine wpAnyH_take (i := 5) (oi := ({ dst := some 12, op := Go.Op.move (Go.Operand.tmp 2), type := 41, pos := _, after := _, guard := none } : Oper)) (v := ?_) rfl (by kernel_rfl) (by kernel_rfl) (by kernel_rfl) (fun _ _ _ h => h) (Or.inl ⟨by rfl, ?_⟩) (by assumption) ?_
  rotate_left
  · (intro w hSw; (try dsimp only at hSw); go_simp; try with_reducible rfl)
  simp only [Act.put, List.setIfInBounds_toArray, List.set_cons_zero, List.set_cons_succ]
  refine wpAnyH_take (i := 6) (oi := ({ dst := some 13, op := Go.Op.nilCheck (Go.Operand.tmp 12), type := 0, pos := _, after := _, guard := none } : Oper)) (v := ?_) rfl (by kernel_rfl) (by kernel_rfl) (by kernel_rfl) (fun _ _ _ h => h) (Or.inl ⟨by rfl, ?_⟩) (by assumption) ?_
  rotate_left
  · (intro w hSw; (try dsimp only at hSw); go_simp; try with_reducible rfl)
  simp only [Act.put, List.setIfInBounds_toArray, List.set_cons_zero, List.set_cons_succ]
  refine wpAnyH_take (i := 7) (oi := ({ dst := some 14, op := Go.Op.fieldAddr 46 (Go.Operand.tmp 13) 0, type := 0, pos := _, after := _, guard := none } : Oper)) (v := ?_) rfl (by kernel_rfl) (by kernel_rfl) (by kernel_rfl) (fun _ _ _ h => h) (Or.inl ⟨by rfl, ?_⟩) (by assumption) ?_
  rotate_left
  · (intro w hSw; (try dsimp only at hSw); go_simp; try with_reducible rfl)
  simp only [Act.put, List.setIfInBounds_toArray, List.set_cons_zero, List.set_cons_succ]
  refine wpAnyH_take (i := 8) (oi := ({ dst := some 15, op := Go.Op.load 4 (Go.Operand.tmp 14), type := 4, pos := _, after := _, guard := none } : Oper)) (v := ?_) rfl (by kernel_rfl) (by kernel_rfl) (by kernel_rfl) (fun _ _ _ h => h) (Or.inl ⟨by rfl, ?_⟩) (by assumption) ?_
  rotate_left
  · (intro w hSw; (try dsimp only at hSw); go_simp; try with_reducible rfl)
  simp only [Act.put, List.setIfInBounds_toArray, List.set_cons_zero, List.set_cons_succ]
  refine wpAnyH_take (i := 9) (oi := ({ dst := some 16, op := Go.Op.binOp Go.BinOp.neq 4 (Go.Operand.tmp 11) (Go.Operand.tmp 15) 4, type := 4, pos := _, after := _, guard := none } : Oper)) (v := ?_) rfl (by kernel_rfl) (by kernel_rfl) (by kernel_rfl) (fun _ _ _ h => h) (Or.inl ⟨by rfl, ?_⟩) (by assumption) ?_
  rotate_left
  · (intro w hSw; (try dsimp only at hSw); go_simp; try with_reducible rfl)
  simp only [Act.put, List.setIfInBounds_toArray, List.set_cons_zero, List.set_cons_succ]
  refine wpAnyH_take (i := 10) (oi := ({ dst := some 17, op := Go.Op.move (Go.Operand.tmp 1), type := 41, pos := _, after := _, guard := none } : Oper)) (v := ?_) rfl (by kernel_rfl) (by kernel_rfl) (by kernel_rfl) (fun _ _ _ h => h) (Or.inl ⟨by rfl, ?_⟩) (by assumption) ?_
  rotate_left
  · (intro w hSw; (try dsimp only at hSw); go_simp; try with_reducible rfl)
  simp only [Act.put, List.setIfInBounds_toArray, List.set_cons_zero, List.set_cons_succ]
  refine wpAnyH_take (i := 11) (oi := ({ dst := some 18, op := Go.Op.nilCheck (Go.Operand.tmp 17), type := 0, pos := _, after := _, guard := none } : Oper)) (v := ?_) rfl (by kernel_rfl) (by kernel_rfl) (by kernel_rfl) (fun _ _ _ h => h) (Or.inl ⟨by rfl, ?_⟩) (by assumption) ?_
  rotate_left
  · (intro w hSw; (try dsimp only at hSw); go_simp; try with_reducible rfl)
  simp only [Act.put, List.setIfInBounds_toArray, List.set_cons_zero, List.set_cons_succ]
  refine wpAnyH_take (i := 12) (oi := ({ dst := some 19, op := Go.Op.fieldAddr 46 (Go.Operand.tmp 18) 1, type := 0, pos := _, after := _, guard := none } : Oper)) (v := ?_) rfl (by kernel_rfl) (by kernel_rfl) (by kernel_rfl) (fun _ _ _ h => h) (Or.inl ⟨by rfl, ?_⟩) (by assumption) ?_
  rotate_left
  · (intro w hSw; (try dsimp only at hSw); go_simp; try with_reducible rfl)
  simp only [Act.put, List.setIfInBounds_toArray, List.set_cons_zero, List.set_cons_succ]
  refine wpAnyH_take (i := 14) (oi := ({ dst := some 21, op := Go.Op.move (Go.Operand.tmp 2), type := 41, pos := _, after := _, guard := none } : Oper)) (v := ?_) rfl (by kernel_rfl) (by kernel_rfl) (by kernel_rfl) (fun _ _ _ h => h) (Or.inl ⟨by rfl, ?_⟩) (by assumption) ?_
  rotate_left
  · (intro w hSw; (try dsimp only at hSw); go_simp; try with_reducible rfl)
  simp only [Act.put, List.setIfInBounds_toArray, List.set_cons_zero, List.set_cons_succ]
  refine wpAnyH_take (i := 15) (oi := ({ dst := some 22, op := Go.Op.nilCheck (Go.Operand.tmp 21), type := 0, pos := _, after := _, guard := none } : Oper)) (v := ?_) rfl (by kernel_rfl) (by kernel_rfl) (by kernel_rfl) (fun _ _ _ h => h) (Or.inl ⟨by rfl, ?_⟩) (by assumption) ?_
  rotate_left
  · (intro w hSw; (try dsimp only at hSw); go_simp; try with_reducible rfl)
  simp only [Act.put, List.setIfInBounds_toArray, List.set_cons_zero, List.set_cons_succ]
  refine wpAnyH_take (i := 16) (oi := ({ dst := some 23, op := Go.Op.fieldAddr 46 (Go.Operand.tmp 22) 1, type := 0, pos := _, after := _, guard := none } : Oper)) (v := ?_) rfl (by kernel_rfl) (by kernel_rfl) (by kernel_rfl) (fun _ _ _ h => h) (Or.inl ⟨by rfl, ?_⟩) (by assumption) ?_
  rotate_left
  · (intro w hSw; (try dsimp only at hSw); go_simp; try with_reducible rfl)
  simp only [Act.put, List.setIfInBounds_toArray, List.set_cons_zero, List.set_cons_succ]
  refine wpAnyH_ready (rs := [13, 17]) (by kernel_rfl) (by simp) (AllReadyH.cons (o := ({ dst := some 20, op := Go.Op.load 44 (Go.Operand.tmp 19), type := 44, pos := _, after := _, guard := none } : Oper)) rfl (fun KK hK => ?_) (AllReadyH.cons (o := ({ dst := some 24, op := Go.Op.load 44 (Go.Operand.tmp 23), type := 44, pos := _, after := _, guard := none } : Oper)) rfl (fun KK hK => ?_) AllReadyH.nil))
  · go_simp
    refine hK.out _ _ ⟨gb_of_below hBc, cx0⟩ (fun hHeld => ?_)
    clear hK
    try simp only [Act.put, List.setIfInBounds_toArray, List.set_cons_zero, List.set_cons_succ]
    refine wpAnyH_ready (rs := [17]) (by kernel_rfl) (by simp) (AllReadyH.cons (o := ({ dst := some 24, op := Go.Op.load 44 (Go.Operand.tmp 23), type := 44, pos := _, after := _, guard := none } : Oper)) rfl (fun KK hK => ?_) AllReadyH.nil)
    go_simp
    refine hK.out _ _ ⟨gb_of_below hBc, cx0⟩ (fun hHeld => ?_)
    clear hK
    try simp only [Act.put, List.setIfInBounds_toArray, List.set_cons_zero, List.set_cons_succ]
    refine wpAnyH_ready (rs := [18]) (by kernel_rfl) (by simp) (AllReadyH.cons (o := ({ dst := some 25, op := Go.Op.call { callee := Go.Callee.value (Go.Operand.func 41), args := #[Go.Operand.tmp 20, Go.Operand.tmp 24], argTypes := #[44, 44] }, type := 44, pos := _, after := _, guard := none } : Oper)) rfl (fun KK hK => ?_) AllReadyH.nil)
    go_simp
    refine (HM.out _ (HWX.out _ hBc)).mono ?_
    rintro e W1 ⟨⟨r, ws, rfl, hr, hfin⟩, hb1⟩
    replace hX : Blk W1 b 46 [.bool false, .slice ax lx.length cx] := hX.of_eq (hb1.block _ hX.lt)
    replace cx0 : W1.cell? ⟨b, 0, none⟩ = some (.bool false) := hX.cell 0
    replace cx1 : W1.cell? ⟨b, 1, none⟩ = some (.slice ax lx.length cx) := hX.cell 1
    replace hBc := bcat2 hBc hb1
    try go_wp2_with fail
    refine hK.out _ _ ⟨gb_of_below hBc, cx0⟩ (fun hHeld => ?_)
    clear hK
    try simp only [Act.put, List.setIfInBounds_toArray, List.set_cons_zero, List.set_cons_succ]
    refine wpAnyH_ready (rs := [19]) (by kernel_rfl) (by simp) (AllReadyH.cons (o := ({ dst := some 26, op := Go.Op.call { callee := Go.Callee.value (Go.Operand.func 37), args := #[Go.Operand.tmp 7, Go.Operand.tmp 16, Go.Operand.tmp 25], argTypes := #[41, 4, 44] }, type := 41, pos := _, after := _, guard := none } : Oper)) rfl (fun KK hK => ?_) AllReadyH.nil)
    go_simp
    refine (give_ok b (false != false) _ _ r ws _ hX hr).mono ?_
    rintro e W2 ⟨rfl, hz2, hg2⟩
    try go_wp2_with fail
    refine hK.out _ _ ⟨gb_after hBc hg2, hz2.cell 0⟩ (fun hHeld => ?_)
    clear hK
    try simp only [Act.put, List.setIfInBounds_toArray, List.set_cons_zero, List.set_cons_succ]
    refine wpAnyH_take (i := 20) (oi := ({ dst := some 6, op := Go.Op.assign (Go.Operand.tmp 26), type := 41, pos := _, after := _, guard := none } : Oper)) (v := ?_) rfl (by kernel_rfl) (by kernel_rfl) (by kernel_rfl) (fun _ _ _ h => h) (Or.inl ⟨by rfl, ?_⟩) (by assumption) ?_
    rotate_left
    · (intro w hSw; (try dsimp only at hSw); go_simp; try with_reducible rfl)
    simp only [Act.put, List.setIfInBounds_toArray, List.set_cons_zero, List.set_cons_succ]
    refine wpAnyH_done (by kernel_rfl) ?_ _
    go_wp2
    go_ret
    exact ⟨rfl, HFIN.out _ _ _ _ hBc hX hr hfin hz2 hg2⟩
  go_simp
  refine hK.out _ _ ⟨gb_of_below hBc, cx0⟩ (fun hHeld => ?_)
  clear hK
  try simp only [Act.put, List.setIfInBounds_toArray, List.set_cons_zero, List.set_cons_succ]
  refine wpAnyH_ready (rs := [13]) (by kernel_rfl) (by simp) (AllReadyH.cons (o := ({ dst := some 20, op := Go.Op.load 44 (Go.Operand.tmp 19), type := 44, pos := _, after := _, guard := none } : Oper)) rfl (fun KK hK => ?_) AllReadyH.nil)
  go_simp
  refine hK.out _ _ ⟨gb_of_below hBc, cx0⟩ (fun hHeld => ?_)
  clear hK
  try simp only [Act.put, List.setIfInBounds_toArray, List.set_cons_zero, List.set_cons_succ]
  refine wpAnyH_ready (rs := [18]) (by kernel_rfl) (by simp) (AllReadyH.cons (o := ({ dst := some 25, op := Go.Op.call { callee := Go.Callee.value (Go.Operand.func 41), args := #[Go.Operand.tmp 20, Go.Operand.tmp 24], argTypes := #[44, 44] }, type := 44, pos := _, after := _, guard := none } : Oper)) rfl (fun KK hK => ?_) AllReadyH.nil)
  go_simp
  refine (HM.out _ (HWX.out _ hBc)).mono ?_
  rintro e W1 ⟨⟨r, ws, rfl, hr, hfin⟩, hb1⟩
  replace hX : Blk W1 b 46 [.bool false, .slice ax lx.length cx] := hX.of_eq (hb1.block _ hX.lt)
  replace cx0 : W1.cell? ⟨b, 0, none⟩ = some (.bool false) := hX.cell 0
  replace cx1 : W1.cell? ⟨b, 1, none⟩ = some (.slice ax lx.length cx) := hX.cell 1
  replace hBc := bcat2 hBc hb1
  try go_wp2_with fail
  refine hK.out _ _ ⟨gb_of_below hBc, cx0⟩ (fun hHeld => ?_)
  clear hK
  try simp only [Act.put, List.setIfInBounds_toArray, List.set_cons_zero, List.set_cons_succ]
  refine wpAnyH_ready (rs := [19]) (by kernel_rfl) (by simp) (AllReadyH.cons (o := ({ dst := some 26, op := Go.Op.call { callee := Go.Callee.value (Go.Operand.func 37), args := #[Go.Operand.tmp 7, Go.Operand.tmp 16, Go.Operand.tmp 25], argTypes := #[41, 4, 44] }, type := 41, pos := _, after := _, guard := none } : Oper)) rfl (fun KK hK => ?_) AllReadyH.nil)
  go_simp
  refine (give_ok b (false != false) _ _ r ws _ hX hr).mono ?_
  rintro e W2 ⟨rfl, hz2, hg2⟩
  try go_wp2_with fail
  refine hK.out _ _ ⟨gb_after hBc hg2, hz2.cell 0⟩ (fun hHeld => ?_)
  clear hK
  try simp only [Act.put, List.setIfInBounds_toArray, List.set_cons_zero, List.set_cons_succ]
  refine wpAnyH_take (i := 20) (oi := ({ dst := some 6, op := Go.Op.assign (Go.Operand.tmp 26), type := 41, pos := _, after := _, guard := none } : Oper)) (v := ?_) rfl (by kernel_rfl) (by kernel_rfl) (by kernel_rfl) (fun _ _ _ h => h) (Or.inl ⟨by rfl, ?_⟩) (by assumption) ?_
  rotate_left
  · (intro w hSw; (try dsimp only at hSw); go_simp; try with_reducible rfl)
  simp only [Act.put, List.setIfInBounds_toArray, List.set_cons_zero, List.set_cons_succ]
  refine wpAnyH_done (by kernel_rfl) ?_ _
  go_wp2
  go_ret
  exact ⟨rfl, HFIN.out _ _ _ _ hBc hX hr hfin hz2 hg2⟩

end Go.Proofs.YtojnjfkonaeegaaDoorQ

namespace Go.Proofs.YtojnjfkonaeegaaDoorQ
open Go Go.RowKit

theorem WSl.other {W W' : World} {v : Value} {ws : List Nat} {c : Nat} {x y : Value} (h : WSl W v ws) (hc : Blk W c 46 [x, y]) (hg : W.grownBy W' (some c)) : WSl W' v ws :=
  h.kept fun g cs fz hh => hg.block g (Array.getElem?_eq_some_iff.1 hh).1 (fun e => by
    obtain rfl : g = c := Option.some.inj e
    rw [show W.heap[g]? = _ from hc] at hh; cases hh)
theorem BigZ.blk {W : World} {b : Nat} {z : Int} {m : Nat} (h : BigZ W b z m) : ∃ x y, Blk W b 46 [x, y] := by
  obtain ⟨v, ws, h1, _⟩ := h
  exact ⟨_, _, h1⟩
theorem pow_bit (k e i : Nat) : k ^ (e / 2 ^ (i + 1)) * k ^ (e / 2 ^ (i + 1)) * k ^ (e / 2 ^ i % 2) = k ^ (e / 2 ^ i) := by
  rw [← Nat.pow_add, ← Nat.pow_add]
  congr 1
  have : e / 2 ^ (i + 1) = e / 2 ^ i / 2 := by rw [Nat.div_div_eq_div_mul, Nat.pow_succ]
  omega

set_option maxRecDepth 100000 in
set_option maxHeartbeats 4000000 in
theorem zexp_ok (bz bx by_ mx my k e : Nat) (zx zy : Value) (w : World) (hZ : Blk w bz 46 [zx, zy]) (hx : BigZ w bx (k : Int) mx) (hy : BigZ w by_ (e : Int) my) (he0 : 0 < e) (he : e ≤ 1000) (hm : mx ≤ 100) :
    Calls Tryd.prog 39 #[.pointer (some ⟨bz, 0, none⟩), .pointer (some ⟨bx, 0, none⟩), .pointer (some ⟨by_, 0, none⟩), .pointer none] w fun x w' => x = .returned (.pointer (some ⟨bz, 0, none⟩)) ∧ (∃ M, M ≤ 200000 ∧ BigZ w' bz ((k ^ e : Nat) : Int) M) ∧ w.grownBy w' (some bz) := by
  obtain ⟨vy, ly, hY, hWy, hcy, hvy, hly⟩ := hy
  obtain rfl := can_one hcy (show wv ly = e by simpa using hvy) he0 (by omega)
  rw [show decide ((e : Int) < 0) = false from decide_eq_false (by omega)] at hY
  obtain ⟨yg, yc, rfl, _, _, _⟩ := hWy.one
  have hylt := hY.lt
  have hxlt := hx.lt
  have hzlt := hZ.lt
  have hB1 : Below w.heap.size w (w.alloc (.cells #[.bool false, .slice none 0 0] 46)) := balloc w _
  have HS1 := hide (zset_ok w.heap.size bx mx k _ _ _ (show Blk (w.alloc (.cells #[.bool false, .slice none 0 0] 46)) w.heap.size 46 [.bool false, .slice none 0 0] from World.alloc_heap_new w _) (hx.below hB1) (by omega) (by omega))
  have HZ := hide hZ
  have HY := hide hY
  have HW := hide hWy
  clear hZ hY hWy hx hcy hvy hly
  go_enter Tryd.func39, Tryd.ntmps39
  go_wp2_with fail
  refine HS1.out.mono ?_
  rintro x w2 ⟨rfl, hb2, hg2⟩
  have hB2 : Below w.heap.size w w2 := hB1.grown hg2 (by simp) (by simp)
  have hy2 := HY.out.of_eq (hB2.block _ hylt)
  have cy0 := hy2.cell 0
  have hyl2 := hy2.lt
  have HN := hide (newInt_ok 1 w2 (by omega) (by omega))
  clear HS1 hg2 hB1 hy2
  go_wp2_with fail
  refine HN.out.mono ?_
  rintro x w3 ⟨⟨rb, rfl, hrb, hr3⟩, hb3⟩
  have hB3 := bcat hB2 hb3 hB2.size
  have hbb3 := hb2.below hb3
  have hy3 := HY.out.of_eq (hB3.block _ hylt)
  have cy1 := hy3.cell 1
  have hyl3 := hy3.lt
  have HT := hide (twin_ok _ [e] w3 (HW.out.below hB3) (by simp))
  have hrw : w.heap.size < rb := by have := hb2.lt; omega
  clear HN hB2 hb2 hb3 hy3 cy0 hyl2
  go_wp2_with fail
  refine HT.out.mono ?_
  rintro x w4 ⟨⟨ev, rfl, hev⟩, hb4⟩
  obtain ⟨eg, ec, rfl, _, _, _⟩ := id hev.one
  have hB4 := bcat hB3 hb4 hB3.size
  have hbb4 := hbb3.below hb4
  have hr4 := hr3.below hb4
  have HL := hide (length_one _ e w4 hev (by omega))
  clear HT hB3 hb4 hbb3 hr3 cy1 hyl3
  go_wp2_with fail
  refine HL.out.mono ?_
  rintro x _ ⟨⟨L, rfl, hL, hL32, hLe⟩, rfl⟩
  have hL10 : L ≤ 10 := by
    rcases hLe with h | h
    · omega
    · rcases Nat.lt_or_ge 10 L with h1 | h1
      · have := Nat.pow_le_pow_right (show 0 < 2 by omega) (show 10 ≤ L - 1 by omega)
        omega
      · exact h1
  have HLL := hide hL
  clear HL hL hLe
  have hLw : IntKind.i64.wrap ((L : Int) - 1) = (L : Int) - 1 := by rw [IntKind.wrap_i64]; omega
  go_wp2
  have HB := hide hB4
  have HR := hide hr4
  have HBB := hide hbb4
  have HE := hide hev
  clear hB4 hr4 hbb4 hev
  go_loopw [14] (fun iv wr => ∃ j M : Nat, j ≤ L ∧ iv = .int .i64 ((j : Int) - 1) ∧ BigZ wr rb ((k ^ (e / 2 ^ j) : Nat) : Int) M ∧ M + mx ≤ (mx + 2) * 2 ^ (L - j) ∧ BigZ wr w.heap.size (k : Int) mx ∧ WSl wr (.slice (some ⟨eg, 0, none⟩) 1 ec) [e] ∧ Below w.heap.size w wr) (fun iv _ => (intOf iv + 1).toNat)
  case atStart => exact ⟨L, 2, by omega, rfl, by rw [Nat.div_eq_of_lt HLL.out]; exact HR.out, by simp; omega, HBB.out, HE.out, HB.out⟩
  case round =>
    obtain ⟨j, M, hj, rfl, hr, hM, hbk, hew, hBw⟩ := hrel
    clear HB HR HBB HE
    have hM2 : (mx + 2) * 2 ^ (L - j) ≤ (mx + 2) * 1024 := Nat.mul_le_mul_left _ (Nat.pow_le_pow_right (n := 2) (by omega) (show L - j ≤ 10 by omega))
    have hM3 : M ≤ 200000 := by omega
    have HM := hide hM
    clear hM hM2
    rcases Nat.eq_zero_or_pos j with rfl | hj0
    · rw [Nat.pow_zero, Nat.div_one] at hr
      have HS := hide (zset_ok bz rb M _ zx zy wr (HZ.out.of_eq (hBw.block _ hzlt)) hr (by omega) (by omega))
      have HBW := hide hBw
      clear hr hbk hew hBw
      go_wp2_with fail
      refine HS.out.mono ?_
      rintro x w9 ⟨rfl, hz9, hg9⟩
      go_wp2
      go_ret
      exact ⟨rfl, ⟨M, hM3, hz9⟩, gb_after HBW.out hg9⟩
    · obtain ⟨i, rfl⟩ : ∃ i, j = i + 1 := ⟨j - 1, by omega⟩
      have hiv : ((i + 1 : Nat) : Int) - 1 = (i : Int) := by omega
      rw [hiv]
      have hi0 : (0 : Int) ≤ (i : Int) := by omega
      have hiw : IntKind.i64.wrap ((i : Int) - 1) = (i : Int) - 1 := by rw [IntKind.wrap_i64]; omega
      have HQ := hide (zsq_ok rb M _ (by omega) wr hr (by omega))
      have HR := hide hr
      have HK := hide hbk
      have HE := hide hew
      have HBW := hide hBw
      clear hr hbk hew hBw
      go_wp2_with fail
      refine HQ.out.mono ?_
      rintro x w5 ⟨rfl, hr5, hg5⟩
      obtain ⟨rx, ry, hrb4⟩ := HR.out.blk
      have hk5 := HK.out.other hrb4 hg5 (by omega)
      have he5 := HE.out.other hrb4 hg5
      have hB5 := HBW.out.grown hg5 HBW.out.size (fun q hq => by have := Option.some.inj hq; omega)
      have HBI := hide (bit_one _ e i w5 he5 (by omega) (by omega))
      have HR5 := hide hr5
      have HK5 := hide hk5
      have HE5 := hide he5
      have HB5 := hide hB5
      clear HQ hg5 hrb4 hr5 hk5 he5 hB5 HR HK HE HBW
      go_wp2_with fail
      refine HBI.out.mono ?_
      rintro x _ ⟨rfl, rfl⟩
      have hpb := pow_bit k e i
      have hMM : 2 ^ (L - i) = 2 ^ (L - (i + 1)) * 2 := by rw [← Nat.pow_succ]; congr 1; omega
      have hML : M + M + mx + mx ≤ (mx + 2) * 2 ^ (L - i) := by rw [hMM, ← Nat.mul_assoc]; have := HM.out; omega
      rcases Nat.mod_two_eq_zero_or_one (e / 2 ^ i) with hb | hb
      · rw [hb] at hpb ⊢
        rw [Nat.pow_zero, Nat.mul_one] at hpb
        have HP := hide hpb
        have HML := hide hML
        clear hpb hb hMM hML HBI HM
        go_wp2
        go_roundw
        case rel => exact ⟨i, M + M, by omega, by go_num, by rw [← HP.out, Int.natCast_mul]; exact HR5.out, by have := HML.out; omega, HK5.out, HE5.out, HB5.out⟩
        case measure => first | (simp [intOf]; done) | (simp [intOf]; omega)
      · rw [hb] at hpb ⊢
        rw [Nat.pow_one] at hpb
        obtain ⟨rx, ry, hrb5⟩ := HR5.out.blk
        have HMU := hide (zmul_ok rb rb w.heap.size (M + M) mx _ _ rx ry _ hrb5 HR5.out HK5.out (by omega) (by omega))
        have HRB := hide hrb5
        have HP := hide hpb
        have HML := hide hML
        clear hpb hb hMM hML HBI HM hrb5
        go_wp2_with fail
        refine HMU.out.mono ?_
        rintro x w6 ⟨rfl, hr6, hg6⟩
        have hk6 := HK5.out.other HRB.out hg6 (by omega)
        have he6 := HE5.out.other HRB.out hg6
        have hB6 := HB5.out.grown hg6 HB5.out.size (fun q hq => by have := Option.some.inj hq; omega)
        have HR6 := hide hr6
        have HK6 := hide hk6
        have HE6 := hide he6
        have HB6 := hide hB6
        clear HMU hr6 hk6 he6 hB6 hg6 HRB HR5 HK5 HE5 HB5
        go_wp2
        go_roundw
        case rel => exact ⟨i, M + M + mx, by omega, by go_num, by rw [← HP.out, Int.natCast_mul, Int.natCast_mul]; exact HR6.out, by have := HML.out; omega, HK6.out, HE6.out, HB6.out⟩
        case measure => first | (simp [intOf]; done) | (simp [intOf]; omega)

end Go.Proofs.YtojnjfkonaeegaaDoorQ

namespace Go.Proofs.YtojnjfkonaeegaaDoorQ
open Go Go.RowKit

theorem bdrew' {B : Nat} {a b : World} (h : Below B a b) : Below B a b.drew := ⟨h.os, h.tape, h.output, h.size, h.block⟩

set_option maxRecDepth 100000 in
set_option maxHeartbeats 4000000 in
theorem zcmp_same (bx by_ mx my : Nat) (z : Int) (w : World) (hx : BigZ w bx z mx) (hy : BigZ w by_ z my) (hz : 0 ≤ z) (hm : mx + my ≤ 20000000) :
    Calls Tryd.prog 26 #[.pointer (some ⟨bx, 0, none⟩), .pointer (some ⟨by_, 0, none⟩)] w fun e w' => e = .returned (.int .i64 0) ∧ Below w.heap.size w w' := by
  obtain ⟨vx, lx, hX0, hWx, hcx, hvx, hlx⟩ := hx
  obtain ⟨vy, ly, hY0, hWy, hcy, hvy, hly⟩ := hy
  obtain ⟨ax, cx, rfl⟩ := hWx.shape
  obtain ⟨ay, cy, rfl⟩ := hWy.shape
  have hzn : decide (z < 0) = false := decide_eq_false (by omega)
  rw [hzn] at hX0 hY0
  have he : cmpN (wv lx) (wv ly) = 0 := by
    rw [hvx, hvy]; unfold cmpN; rw [if_neg (by omega), if_neg (by omega)]
  have HM := hide (fun (W : World) (h1 : WSl W (.slice ax lx.length cx) lx) (h2 : WSl W (.slice ay ly.length cy) ly) => cmp_w _ _ lx ly W h1 h2 hcx hcy (by omega))
  rw [he] at HM
  clear he hcx hcy hvx hvy hlx hly hzn
  have hX : Blk w.drew bx 46 [.bool false, .slice ax lx.length cx] := hX0
  have hY : Blk w.drew by_ 46 [.bool false, .slice ay ly.length cy] := hY0
  have HWX := hide (fun (W : World) (h : Below w.drew.heap.size w.drew W) => WSl.below (hWx.kept (W' := w.drew) (fun _ _ _ _ => rfl)) h)
  have HWY := hide (fun (W : World) (h : Below w.drew.heap.size w.drew W) => WSl.below (hWy.kept (W' := w.drew) (fun _ _ _ _ => rfl)) h)
  have hB0 : Below w.heap.size w w.drew := bdrew' (Below.refl _ w)
  have hge : w.heap.size = w.drew.heap.size := rfl
  clear hX0 hY0 hWx hWy
  go_enter Tryd.func26, Tryd.ntmps26
  go_wp2
  refine wp_region_held_drew (S := fun W => W.cell? ⟨bx, 0, none⟩ = some (.bool false) ∧ W.cell? ⟨by_, 0, none⟩ = some (.bool false)) (by kernel_rfl) ⟨hX.cell 0, hY.cell 0⟩ (fun hHeld => ?_)
  generalize w.drew = wd at *
  refine wpAnyH_take (i := 0) (oi := ({ dst := some 6, op := Go.Op.move (Go.Operand.tmp 0), type := 41, pos := _, after := _, guard := none } : Oper)) (v := ?_) rfl (by kernel_rfl) (by kernel_rfl) (by kernel_rfl) (fun _ _ _ h => h) (Or.inl ⟨by rfl, ?_⟩) (by assumption) ?_
  rotate_left
  · (intro w hSw; (try dsimp only at hSw); go_simp; try with_reducible rfl)
  simp only [Act.put, List.setIfInBounds_toArray, List.set_cons_zero, List.set_cons_succ]
  refine wpAnyH_take (i := 1) (oi := ({ dst := some 7, op := Go.Op.nilCheck (Go.Operand.tmp 6), type := 0, pos := _, after := _, guard := none } : Oper)) (v := ?_) rfl (by kernel_rfl) (by kernel_rfl) (by kernel_rfl) (fun _ _ _ h => h) (Or.inl ⟨by rfl, ?_⟩) (by assumption) ?_
  rotate_left
  · (intro w hSw; (try dsimp only at hSw); go_simp; try with_reducible rfl)
  simp only [Act.put, List.setIfInBounds_toArray, List.set_cons_zero, List.set_cons_succ]
  refine wpAnyH_take (i := 2) (oi := ({ dst := some 8, op := Go.Op.fieldAddr 46 (Go.Operand.tmp 7) 0, type := 0, pos := _, after := _, guard := none } : Oper)) (v := ?_) rfl (by kernel_rfl) (by kernel_rfl) (by kernel_rfl) (fun _ _ _ h => h) (Or.inl ⟨by rfl, ?_⟩) (by assumption) ?_
  rotate_left
  · (intro w hSw; (try dsimp only at hSw); go_simp; try with_reducible rfl)
  simp only [Act.put, List.setIfInBounds_toArray, List.set_cons_zero, List.set_cons_succ]
  refine wpAnyH_take (i := 3) (oi := ({ dst := some 9, op := Go.Op.load 4 (Go.Operand.tmp 8), type := 4, pos := _, after := _, guard := none } : Oper)) (v := ?_) rfl (by kernel_rfl) (by kernel_rfl) (by kernel_rfl) (fun _ _ _ h => h) (Or.inl ⟨by rfl, ?_⟩) (by assumption) ?_
  rotate_left
  · (intro w hSw; (try dsimp only at hSw); go_simp; try with_reducible rfl)
  simp only [Act.put, List.setIfInBounds_toArray, List.set_cons_zero, List.set_cons_succ]
  refine wpAnyH_take (i := 4) (oi := ({ dst := some 10, op := Go.Op.move (Go.Operand.tmp 1), type := 41, pos := _, after := _, guard := none } : Oper)) (v := ?_) rfl (by kernel_rfl) (by kernel_rfl) (by kernel_rfl) (fun _ _ _ h => h) (Or.inl ⟨by rfl, ?_⟩) (by assumption) ?_
  rotate_left
  · (intro w hSw; (try dsimp only at hSw); go_simp; try with_reducible rfl)
  simp only [Act.put, List.setIfInBounds_toArray, List.set_cons_zero, List.set_cons_succ]
  refine wpAnyH_take (i := 5) (oi := ({ dst := some 11, op := Go.Op.nilCheck (Go.Operand.tmp 10), type := 0, pos := _, after := _, guard := none } : Oper)) (v := ?_) rfl (by kernel_rfl) (by kernel_rfl) (by kernel_rfl) (fun _ _ _ h => h) (Or.inl ⟨by rfl, ?_⟩) (by assumption) ?_
  rotate_left
  · (intro w hSw; (try dsimp only at hSw); go_simp; try with_reducible rfl)
  simp only [Act.put, List.setIfInBounds_toArray, List.set_cons_zero, List.set_cons_succ]
  refine wpAnyH_take (i := 6) (oi := ({ dst := some 12, op := Go.Op.fieldAddr 46 (Go.Operand.tmp 11) 0, type := 0, pos := _, after := _, guard := none } : Oper)) (v := ?_) rfl (by kernel_rfl) (by kernel_rfl) (by kernel_rfl) (fun _ _ _ h => h) (Or.inl ⟨by rfl, ?_⟩) (by assumption) ?_
  rotate_left
  · (intro w hSw; (try dsimp only at hSw); go_simp; try with_reducible rfl)
  simp only [Act.put, List.setIfInBounds_toArray, List.set_cons_zero, List.set_cons_succ]
  refine wpAnyH_take (i := 7) (oi := ({ dst := some 13, op := Go.Op.load 4 (Go.Operand.tmp 12), type := 4, pos := _, after := _, guard := none } : Oper)) (v := ?_) rfl (by kernel_rfl) (by kernel_rfl) (by kernel_rfl) (fun _ _ _ h => h) (Or.inl ⟨by rfl, ?_⟩) (by assumption) ?_
  rotate_left
  · (intro w hSw; (try dsimp only at hSw); go_simp; try with_reducible rfl)
  simp only [Act.put, List.setIfInBounds_toArray, List.set_cons_zero, List.set_cons_succ]
  refine wpAnyH_take (i := 8) (oi := ({ dst := some 14, op := Go.Op.binOp Go.BinOp.neq 4 (Go.Operand.tmp 9) (Go.Operand.tmp 13) 4, type := 4, pos := _, after := _, guard := none } : Oper)) (v := ?_) rfl (by kernel_rfl) (by kernel_rfl) (by kernel_rfl) (fun _ _ _ h => h) (Or.inl ⟨by rfl, ?_⟩) (by assumption) ?_
  rotate_left
  · (intro w hSw; (try dsimp only at hSw); go_simp; try with_reducible rfl)
  simp only [Act.put, List.setIfInBounds_toArray, List.set_cons_zero, List.set_cons_succ]
  refine wpAnyH_done (by kernel_rfl) ?_ _
  have cx0 := hX.cell 0
  have hxl := hX.lt
  go_wp2
  have hBd : Below wd.heap.size wd wd.drew := bdrew' (Below.refl _ wd)
  have hXd : Blk wd.drew bx 46 [.bool false, .slice ax lx.length cx] := hX
  have hYd : Blk wd.drew by_ 46 [.bool false, .slice ay ly.length cy] := hY
  refine wp_region_held_drew (S := fun W => W.cell? ⟨bx, 1, none⟩ = some (.slice ax lx.length cx) ∧ W.cell? ⟨by_, 1, none⟩ = some (.slice ay ly.length cy)) (by kernel_rfl) ⟨hXd.cell 1, hYd.cell 1⟩ (fun hHeld => ?_)
  generalize wd.drew = we at *
  refine wpAnyH_take (i := 0) (oi := ({ dst := some 19, op := Go.Op.move (Go.Operand.tmp 0), type := 41, pos := _, after := _, guard := none } : Oper)) (v := ?_) rfl (by kernel_rfl) (by kernel_rfl) (by kernel_rfl) (fun _ _ _ h => h) (Or.inl ⟨by rfl, ?_⟩) (by assumption) ?_
  rotate_left
  · (intro w hSw; (try dsimp only at hSw); go_simp; try with_reducible rfl)
  simp only [Act.put, List.setIfInBounds_toArray, List.set_cons_zero, List.set_cons_succ]
  refine wpAnyH_take (i := 1) (oi := ({ dst := some 20, op := Go.Op.nilCheck (Go.Operand.tmp 19), type := 0, pos := _, after := _, guard := none } : Oper)) (v := ?_) rfl (by kernel_rfl) (by kernel_rfl) (by kernel_rfl) (fun _ _ _ h => h) (Or.inl ⟨by rfl, ?_⟩) (by assumption) ?_
  rotate_left
  · (intro w hSw; (try dsimp only at hSw); go_simp; try with_reducible rfl)
  simp only [Act.put, List.setIfInBounds_toArray, List.set_cons_zero, List.set_cons_succ]
  refine wpAnyH_take (i := 2) (oi := ({ dst := some 21, op := Go.Op.fieldAddr 46 (Go.Operand.tmp 20) 1, type := 0, pos := _, after := _, guard := none } : Oper)) (v := ?_) rfl (by kernel_rfl) (by kernel_rfl) (by kernel_rfl) (fun _ _ _ h => h) (Or.inl ⟨by rfl, ?_⟩) (by assumption) ?_
  rotate_left
  · (intro w hSw; (try dsimp only at hSw); go_simp; try with_reducible rfl)
  simp only [Act.put, List.setIfInBounds_toArray, List.set_cons_zero, List.set_cons_succ]
  refine wpAnyH_take (i := 3) (oi := ({ dst := some 22, op := Go.Op.load 44 (Go.Operand.tmp 21), type := 44, pos := _, after := _, guard := none } : Oper)) (v := ?_) rfl (by kernel_rfl) (by kernel_rfl) (by kernel_rfl) (fun _ _ _ h => h) (Or.inl ⟨by rfl, ?_⟩) (by assumption) ?_
  rotate_left
  · (intro w hSw; (try dsimp only at hSw); go_simp; try with_reducible rfl)
  simp only [Act.put, List.setIfInBounds_toArray, List.set_cons_zero, List.set_cons_succ]
  refine wpAnyH_take (i := 4) (oi := ({ dst := some 23, op := Go.Op.move (Go.Operand.tmp 1), type := 41, pos := _, after := _, guard := none } : Oper)) (v := ?_) rfl (by kernel_rfl) (by kernel_rfl) (by kernel_rfl) (fun _ _ _ h => h) (Or.inl ⟨by rfl, ?_⟩) (by assumption) ?_
  rotate_left
  · (intro w hSw; (try dsimp only at hSw); go_simp; try with_reducible rfl)
  simp only [Act.put, List.setIfInBounds_toArray, List.set_cons_zero, List.set_cons_succ]
  refine wpAnyH_take (i := 5) (oi := ({ dst := some 24, op := Go.Op.nilCheck (Go.Operand.tmp 23), type := 0, pos := _, after := _, guard := none } : Oper)) (v := ?_) rfl (by kernel_rfl) (by kernel_rfl) (by kernel_rfl) (fun _ _ _ h => h) (Or.inl ⟨by rfl, ?_⟩) (by assumption) ?_
  rotate_left
  · (intro w hSw; (try dsimp only at hSw); go_simp; try with_reducible rfl)
  simp only [Act.put, List.setIfInBounds_toArray, List.set_cons_zero, List.set_cons_succ]
  refine wpAnyH_take (i := 6) (oi := ({ dst := some 25, op := Go.Op.fieldAddr 46 (Go.Operand.tmp 24) 1, type := 0, pos := _, after := _, guard := none } : Oper)) (v := ?_) rfl (by kernel_rfl) (by kernel_rfl) (by kernel_rfl) (fun _ _ _ h => h) (Or.inl ⟨by rfl, ?_⟩) (by assumption) ?_
  rotate_left
  · (intro w hSw; (try dsimp only at hSw); go_simp; try with_reducible rfl)
  simp only [Act.put, List.setIfInBounds_toArray, List.set_cons_zero, List.set_cons_succ]
  refine wpAnyH_take (i := 7) (oi := ({ dst := some 26, op := Go.Op.load 44 (Go.Operand.tmp 25), type := 44, pos := _, after := _, guard := none } : Oper)) (v := ?_) rfl (by kernel_rfl) (by kernel_rfl) (by kernel_rfl) (fun _ _ _ h => h) (Or.inl ⟨by rfl, ?_⟩) (by assumption) ?_
  rotate_left
  · (intro w hSw; (try dsimp only at hSw); go_simp; try with_reducible rfl)
  simp only [Act.put, List.setIfInBounds_toArray, List.set_cons_zero, List.set_cons_succ]
  refine wpAnyH_ready (rs := [8]) (by kernel_rfl) (by simp) (AllReadyH.cons (o := ({ dst := some 27, op := Go.Op.call { callee := Go.Callee.value (Go.Operand.func 42), args := #[Go.Operand.tmp 22, Go.Operand.tmp 26], argTypes := #[44, 44] }, type := 3, pos := _, after := _, guard := none } : Oper)) rfl (fun KK hK => ?_) AllReadyH.nil)
  go_simp
  refine (HM.out _ (HWX.out _ hBd) (HWY.out _ hBd)).mono ?_
  rintro e W1 ⟨rfl, hb1⟩
  have hX1 := hXd.of_eq (hb1.block _ hXd.lt)
  have hY1 := hYd.of_eq (hb1.block _ hYd.lt)
  have cz0 := hX1.cell 0
  have hzl := hX1.lt
  try go_wp2_with fail
  refine hK.out _ _ ⟨hX1.cell 1, hY1.cell 1⟩ (fun hHeld => ?_)
  clear hK
  try simp only [Act.put, List.setIfInBounds_toArray, List.set_cons_zero, List.set_cons_succ]
  refine wpAnyH_take (i := 9) (oi := ({ dst := some 5, op := Go.Op.assign (Go.Operand.tmp 27), type := 3, pos := _, after := _, guard := none } : Oper)) (v := ?_) rfl (by kernel_rfl) (by kernel_rfl) (by kernel_rfl) (fun _ _ _ h => h) (Or.inl ⟨by rfl, ?_⟩) (by assumption) ?_
  rotate_left
  · (intro w hSw; (try dsimp only at hSw); go_simp; try with_reducible rfl)
  simp only [Act.put, List.setIfInBounds_toArray, List.set_cons_zero, List.set_cons_succ]
  refine wpAnyH_done (by kernel_rfl) ?_ _
  have hBe := bcat2 hBd hb1
  go_wp2
  go_ret
  exact ⟨rfl, bcat2 hB0 hBe⟩

end Go.Proofs.YtojnjfkonaeegaaDoorQ

namespace Go.Proofs.YtojnjfkonaeegaaDoorQ
open Go Go.RowKit

/-- The byte at a place. -/
def bat (s : ByteArray) (k : Nat) : Nat := (s.toList[k]?.getD 0).toNat
theorem bat_eq (s : ByteArray) (k : Nat) (h : k < s.size) : (s[k]).toNat = bat s k := by
  unfold bat
  rw [ByteArray.toList_eq, List.getElem?_eq_getElem (by simpa using h)]
  rfl
/-- What the first k digits are worth. -/
def dv (s : ByteArray) : Nat → Nat
  | 0 => 0
  | k + 1 => dv s k * 10 + (bat s k - 48)
/-- What digits are worth. -/
def dvl (l : List UInt8) : Nat := l.foldl (fun a b => a * 10 + (b.toNat - 48)) 0
theorem dvl_snoc (l : List UInt8) (b : UInt8) : dvl (l ++ [b]) = dvl l * 10 + (b.toNat - 48) := by simp [dvl]
theorem dv_take (l : List UInt8) : ∀ k, k ≤ l.length → dv ⟨l.toArray⟩ k = dvl (l.take k)
  | 0, _ => by simp [dv, dvl]
  | k + 1, h => by
    have hb : bat ⟨l.toArray⟩ k = (l[k]?.getD 0).toNat := by unfold bat; rw [ByteArray.toList_eq]
    rw [dv, dv_take l k (by omega), List.take_succ_eq_append_getElem (by omega), dvl_snoc, hb, List.getElem?_eq_getElem (by omega)]; rfl
theorem dig_nat (r : Nat) (h : r < 10) : (UInt8.ofNat (48 + r)).toNat = 48 + r := by
  rw [UInt8.toNat_ofNat']; omega
theorem dgv_val (n : Nat) : dvl (Lib.decDigits n) = n := by
  induction n using Nat.strongRecOn with
  | _ n ih =>
    by_cases h : n < 10
    · rw [Lib.decDigits_one h]
      show 0 * 10 + ((UInt8.ofNat (48 + n)).toNat - 48) = n
      rw [dig_nat n h]; omega
    · rw [dec_step h, dvl_snoc, ih (n / 10) (by omega), dig_nat _ (by omega)]; omega
theorem dec_dig (n : Nat) : ∀ b, b ∈ Lib.decDigits n → 48 ≤ b.toNat ∧ b.toNat ≤ 57 := by
  induction n using Nat.strongRecOn with
  | _ n ih =>
    intro b hb
    by_cases h : n < 10
    · rw [Lib.decDigits_one h] at hb
      simp only [List.mem_singleton] at hb
      subst hb
      rw [dig_nat n h]; omega
    · rw [dec_step h] at hb
      rcases List.mem_append.1 hb with hb | hb
      · exact ih (n / 10) (by omega) b hb
      · simp only [List.mem_singleton] at hb
        subst hb
        rw [dig_nat _ (by omega)]; omega
theorem dec_head (n : Nat) (hn : 0 < n) : ((Lib.decDigits n)[0]?.getD 0).toNat ≠ 48 := by
  induction n using Nat.strongRecOn with
  | _ n ih =>
    by_cases h : n < 10
    · rw [Lib.decDigits_one h]
      show (UInt8.ofNat (48 + n)).toNat ≠ 48
      rw [dig_nat n h]; omega
    · rw [dec_step h, List.getElem?_append_left (dec_pos _)]
      exact ih (n / 10) (by omega) (by omega)
/-- A text of digits. -/
structure Dig (s : ByteArray) : Prop where
  pos : 0 < s.size
  len : s.size ≤ 20000
  dig : ∀ k, k < s.size → 48 ≤ bat s k ∧ bat s k ≤ 57
  head : 1 < s.size → bat s 0 ≠ 48
theorem Dig.of_dec {n : Nat} (hl : (Lib.decDigits n).length ≤ 20000) : Dig ⟨(Lib.decDigits n).toArray⟩ ∧ dv ⟨(Lib.decDigits n).toArray⟩ (⟨(Lib.decDigits n).toArray⟩ : ByteArray).size = n := by
  have hb : ∀ k, bat ⟨(Lib.decDigits n).toArray⟩ k = ((Lib.decDigits n)[k]?.getD 0).toNat := fun k => by unfold bat; rw [ByteArray.toList_eq]
  have hs : (⟨(Lib.decDigits n).toArray⟩ : ByteArray).size = (Lib.decDigits n).length := by show (Lib.decDigits n).toArray.size = _; simp
  refine ⟨⟨by rw [hs]; exact dec_pos n, by rw [hs]; exact hl, fun k hk => ?_, fun h1 => by
    rw [hs] at h1
    rw [hb]
    refine dec_head n ?_
    rcases Nat.eq_zero_or_pos n with h | h
    · subst h; rw [Lib.decDigits_one (by omega)] at h1; simp at h1
    · exact h⟩, ?_⟩
  · rw [hs] at hk
    rw [hb, List.getElem?_eq_getElem hk]
    exact dec_dig n _ (List.getElem_mem hk)
  · rw [hs, dv_take _ _ (Nat.le_refl _), List.take_length, dgv_val]

set_option maxRecDepth 100000 in
set_option maxHeartbeats 8000000 in
theorem setString_ok (bz : Nat) (s : ByteArray) (z1 z2 : Value) (w : World) (hZ : Blk w bz 46 [z1, z2]) (hs : Dig s) :
    Calls Tryd.prog 36 #[.pointer (some ⟨bz, 0, none⟩), .string s, .int .i64 10] w fun e w' => e = .returned (.tuple #[.pointer (some ⟨bz, 0, none⟩), .bool true]) ∧ BigZ w' bz (dv s s.size : Nat) 80000 ∧ ∀ B, B ≤ bz → B ≤ w.heap.size → Below B w w' := by
  obtain ⟨hp, hl, hd, _⟩ := hs
  have hzl := hZ.lt
  have HZ := hide hZ
  have HBE := hide (bat_eq s)
  have HD := hide hd
  have h0 := bat_eq s 0 hp
  have hd0 := hd 0 hp
  obtain ⟨b0, hb0⟩ : ∃ b0, bat s 0 = b0 := ⟨_, rfl⟩
  rw [hb0] at h0 hd0
  have h45 : ((b0 : Int) == 45) = false := by simp; omega
  have h43 : ((b0 : Int) == 43) = false := by simp; omega
  have hpi : (0 : Int) < (s.size : Int) := by omega
  have hpn : ¬ (s.size : Int) = 0 := by omega
  have hpb : ((s.size : Int) == 0) = false := by rw [beq_eq_false_iff_ne]; omega
  have hpn2 : ¬ s.size = 0 := by omega
  have hsl : (s.size : Int) ≤ 20000 := by omega
  have HB0 := hide hb0
  clear hZ hd hd0 hb0
  go_enter Tryd.func36, Tryd.ntmps36
  go_wp2
  go_loopw [9, 10] (fun r i wr => ∃ (k : Nat) (ws : List Nat), k ≤ s.size ∧ i = .int .i64 k ∧ WSl wr r ws ∧ Can ws ∧ wv ws = dv s k ∧ ws.length ≤ 4 * k ∧ Below w.heap.size w wr) (fun _ i _ => s.size - (intOf i).toNat)
  case atStart => exact ⟨0, [], Nat.zero_le _, rfl, WSl.nil _, ⟨by simp, by simp⟩, by simp [wv, dv], by simp, Below.refl _ _⟩
  case round =>
    obtain ⟨k, ws, hk, rfl, hw, hc, hv, hwl, hB⟩ := hrel
    by_cases hlt : k < s.size
    · have hbk := HBE.out k hlt
      have hdk := HD.out k hlt
      have hki : (k : Int) < (s.size : Int) := by omega
      obtain ⟨b, hb⟩ : ∃ b, bat s k = b := ⟨_, rfl⟩
      rw [hb] at hbk hdk
      obtain ⟨d, hbd⟩ : ∃ d, b = 48 + d := ⟨b - 48, by omega⟩
      have hd9 : d ≤ 9 := by omega
      have hnext : dv s (k + 1) = dv s k * 10 + d := by rw [dv, hb]; omega
      have hge48 : (48 : Int) ≤ (b : Int) := by omega
      have hle57 : (b : Int) ≤ 57 := by omega
      have hsub : (b : Int) - 48 = (d : Int) := by omega
      have hw8 : IntKind.u8.wrap (d : Int) = (d : Int) := by rw [IntKind.wrap_u8]; omega
      have hwi : IntKind.i64.wrap (d : Int) = (d : Int) := by rw [IntKind.wrap_i64]; omega
      have hwu : IntKind.u64.wrap (d : Int) = (d : Int) := by rw [IntKind.wrap_u64]; omega
      have hd10 : ¬ (10 : Int) ≤ (d : Int) := by omega
      have HN := hide (And.intro hnext (And.intro hv (And.intro hwl (And.intro hc hB))))
      obtain ⟨ra, rc, rfl⟩ := hw.shape
      clear hb hbd hdk hnext hv hwl hc hB
      go_wp2_with fail
      refine (words_ok 10 wr (by omega)).mono ?_
      rintro e w1 ⟨⟨r1, ws1, rfl, h1, hc1, hv1, hl1⟩, hb1⟩
      obtain ⟨a1, c1, rfl⟩ := h1.shape
      have HV1 := hide (And.intro hc1 (And.intro hv1 hl1))
      clear hc1 hv1 hl1
      go_wp2_with fail
      refine (mul_w _ _ ws ws1 w1 (hw.below hb1) h1 HN.out.2.2.2.1.lt HV1.out.1.lt (by have := HN.out.2.2.1; have := HV1.out.2.2; omega)).mono ?_
      rintro e w2 ⟨⟨r2, ws2, rfl, h2, hc2, hv2, hl2⟩, hb2⟩
      obtain ⟨a2, c2, rfl⟩ := h2.shape
      have HV2 := hide (And.intro hc2 (And.intro hv2 hl2))
      clear hc2 hv2 hl2
      go_wp2_with fail
      refine (words_ok d w2 (by omega)).mono ?_
      rintro e w3 ⟨⟨r3, ws3, rfl, h3, hc3, hv3, hl3⟩, hb3⟩
      obtain ⟨a3, c3, rfl⟩ := h3.shape
      have HV3 := hide (And.intro hc3 (And.intro hv3 hl3))
      clear hc3 hv3 hl3
      go_wp2_with fail
      refine (add_w _ _ ws2 ws3 w3 (h2.below hb3) h3 HV2.out.1.lt HV3.out.1.lt (by have := HN.out.2.2.1; have := HV1.out.2.2; have := HV2.out.2.2; have := HV3.out.2.2; omega)).mono ?_
      rintro e w4 ⟨⟨r4, ws4, rfl, h4, hc4, hv4, hl4⟩, hb4⟩
      obtain ⟨hn1, hn2, hn3, hn4, hn5⟩ := HN.out
      have e1 : wv ws4 = dv s (k + 1) := by rw [hv4, HV2.out.2.1, HV3.out.2.1, HV1.out.2.1, hn2, hn1]
      have e2 : ws4.length ≤ 4 * (k + 1) := by have := HV1.out.2.2; have := HV2.out.2.2; have := HV3.out.2.2; omega
      have e3 : Below w.heap.size w w4 := bcat2 hn5 (bcat2 hb1 (bcat2 hb2 (bcat2 hb3 hb4)))
      have HE := hide (And.intro h4 (And.intro hc4 (And.intro e1 (And.intro e2 e3))))
      clear hv4 hl4 hc4 hn1 hn2 hn3 hn4 hn5 e1 e2 e3 hb1 hb2 hb3 hb4
      go_wp2
      go_roundw
      case rel => exact ⟨k + 1, ws4, by omega, by go_num, HE.out⟩
      case measure => simp [intOf]; omega
    · obtain rfl : k = s.size := by omega
      have hni : ¬ (s.size : Int) < (s.size : Int) := by omega
      have hZr : Blk wr bz 46 [z1, z2] ∨ True := .inr trivial
      obtain ⟨ra, rc, rfl⟩ := hw.shape
      have HV := hide (And.intro hc (And.intro hv hwl))
      have hzz : bz < w.heap.size := hzl
      have hZ2 : Blk wr bz 46 [z1, z2] := HZ.out.of_eq (hB.block _ hzz)
      clear hc hv hwl hZr
      go_wp2_with fail
      refine (give_ok bz false z1 z2 _ ws wr hZ2 hw).mono ?_
      rintro e w1 ⟨rfl, h1, hg1⟩
      have hfin := BigZ.given hZ2 h1 hg1 hw HV.out.1 (m := 80000) (by have := HV.out.2.2; omega) (z := ((dv s s.size : Nat) : Int)) (by rw [HV.out.2.1]; simp)
      have HF := hide (And.intro hfin (fun (B : Nat) (c1 : B ≤ bz) (c2 : B ≤ w.heap.size) => (show Below B w w1 from (hB.mono c2).grown hg1 (by have := hB.size; omega) (fun j e => by cases e; exact c1))))
      clear hfin h1
      go_wp2
      go_ret2
      exact ⟨rfl, HF.out⟩

set_option maxRecDepth 100000 in
set_option maxHeartbeats 8000000 in
theorem digits_ok (s : ByteArray) (w : World) (hs : Dig s) :
    Calls Tryd.prog 21 #[.string s] w fun e w' => (∃ b, e = .returned (.tuple #[.pointer (some ⟨b, 0, none⟩), .bool true]) ∧ BigZ w' b (dv s s.size : Nat) 80000) ∧ Below w.heap.size w w' := by
  have HS := hide hs
  obtain ⟨hp, hl, hd, hh⟩ := hs
  have HBE := hide (bat_eq s)
  have HD := hide hd
  have h0 := bat_eq s 0 hp
  obtain ⟨b0, hb0⟩ : ∃ b0, bat s 0 = b0 := ⟨_, rfl⟩
  rw [hb0] at h0 hh
  have HH := hide hh
  have hpi : (0 : Int) < (s.size : Int) := by omega
  have hpn : ¬ (s.size : Int) = 0 := by omega
  have hpb : ((s.size : Int) == 0) = false := by rw [beq_eq_false_iff_ne]; omega
  have hpn2 : ¬ s.size = 0 := by omega
  have hsl : (s.size : Int) ≤ 20000 := by omega
  have hsl2 : ¬ (20000 : Int) < (s.size : Int) := by omega
  have hse : (s.toList == []) = false := by
    rw [beq_eq_false_iff_ne]
    intro e
    have : s.toList.length = s.size := by rw [ByteArray.toList_eq]; simp
    rw [e] at this; simp at this; omega
  have hse2 : s.toList ≠ [] := by simpa using hse
  have HB0 := hide hb0
  clear hd hb0 hh
  go_enter Tryd.func21, Tryd.ntmps21
  by_cases h1 : (1 : Int) < (s.size : Int)
  · have h1d : decide ((1 : Int) < (s.size : Int)) = true := decide_eq_true h1
    have h48 : ((b0 : Int) == 48) = false := by have := HH.out (by omega); simp; omega
    go_wp2
    go_loopw [4] (fun i wr => ∃ k : Nat, k ≤ s.size ∧ i = .int .i64 k ∧ wr = w) (fun i _ => s.size - (intOf i).toNat)
    case atStart => exact ⟨0, Nat.zero_le _, rfl, rfl⟩
    case round =>
      obtain ⟨k, hk, rfl, rfl⟩ := hrel
      by_cases hlt : k < s.size
      · have hbk := HBE.out k hlt
        have hdk := HD.out k hlt
        have hki : (k : Int) < (s.size : Int) := by omega
        obtain ⟨b, hb⟩ : ∃ b, bat s k = b := ⟨_, rfl⟩
        rw [hb] at hbk hdk
        have hge48 : ¬ (b : Int) < 48 := by omega
        have hle57 : ¬ (57 : Int) < (b : Int) := by omega
        have HBB := hide hb
        clear hb hdk
        go_wp2
        go_roundw
        case rel => exact ⟨k + 1, by omega, by go_num, by first | rfl | trivial⟩
        case measure => simp [intOf]; omega
      · obtain rfl : k = s.size := by omega
        have hni : ¬ (s.size : Int) < (s.size : Int) := by omega
        have hb1 : Below wr.heap.size wr (wr.alloc (.cells #[.bool false, .slice none 0 0] 46)) := balloc wr _
        go_wp2_with fail
        refine (setString_ok wr.heap.size s _ _ _ (World.alloc_heap_new wr (.cells #[.bool false, .slice none 0 0] 46)) HS.out).mono ?_
        rintro e w1 ⟨rfl, hz, hB⟩
        have HF := hide (And.intro hz (hb1.trans (hB wr.heap.size (Nat.le_refl _) (by simp))))
        clear hz hB hb1
        go_wp2
        go_ret2
        exact ⟨⟨_, rfl, HF.out.1⟩, HF.out.2⟩
  · have h1d : decide ((1 : Int) < (s.size : Int)) = false := decide_eq_false h1
    go_wp2
    go_loopw [4] (fun i wr => ∃ k : Nat, k ≤ s.size ∧ i = .int .i64 k ∧ wr = w) (fun i _ => s.size - (intOf i).toNat)
    case atStart => exact ⟨0, Nat.zero_le _, rfl, rfl⟩
    case round =>
      obtain ⟨k, hk, rfl, rfl⟩ := hrel
      by_cases hlt : k < s.size
      · have hbk := HBE.out k hlt
        have hdk := HD.out k hlt
        have hki : (k : Int) < (s.size : Int) := by omega
        obtain ⟨b, hb⟩ : ∃ b, bat s k = b := ⟨_, rfl⟩
        rw [hb] at hbk hdk
        have hge48 : ¬ (b : Int) < 48 := by omega
        have hle57 : ¬ (57 : Int) < (b : Int) := by omega
        have HBB := hide hb
        clear hb hdk
        go_wp2
        go_roundw
        case rel => exact ⟨k + 1, by omega, by go_num, by first | rfl | trivial⟩
        case measure => simp [intOf]; omega
      · obtain rfl : k = s.size := by omega
        have hni : ¬ (s.size : Int) < (s.size : Int) := by omega
        have hb1 : Below wr.heap.size wr (wr.alloc (.cells #[.bool false, .slice none 0 0] 46)) := balloc wr _
        go_wp2_with fail
        refine (setString_ok wr.heap.size s _ _ _ (World.alloc_heap_new wr (.cells #[.bool false, .slice none 0 0] 46)) HS.out).mono ?_
        rintro e w1 ⟨rfl, hz, hB⟩
        have HF := hide (And.intro hz (hb1.trans (hB wr.heap.size (Nat.le_refl _) (by simp))))
        clear hz hB hb1
        go_wp2
        go_ret2
        exact ⟨⟨_, rfl, HF.out.1⟩, HF.out.2⟩
end Go.Proofs.YtojnjfkonaeegaaDoorQ
