/- The statements' big numbers (cayleybig): words of 32 bits, how they lie; trim, words. -/
import Derived.Test.YtjchmhngfnlbhaaDoorNat
import Derived.Test.YtjchmhngfnlbhaaDoorOrd
namespace Go.Proofs.YtjchmhngfnlbhaaDoor
open Go Go.RowKit

/-- What a list of words is worth, the least first. -/
def wv : List Nat → Nat
  | [] => 0
  | p :: ps => p + 4294967296 * wv ps
theorem wv_app : ∀ (a b : List Nat), wv (a ++ b) = wv a + 4294967296 ^ a.length * wv b
  | [], b => by simp [wv]
  | p :: a, b => by
    rw [List.cons_append, wv, wv, wv_app a b, List.length_cons, Nat.pow_succ]; grind
theorem wv_zero (l : List Nat) : wv (l ++ [0]) = wv l := by rw [wv_app]; simp [wv]
theorem wv_trm (l : List Nat) : wv (trm l) = wv l := by
  obtain ⟨n, hn⟩ : ∃ n, l.length = n := ⟨_, rfl⟩
  induction n generalizing l with
  | zero =>
    have := List.length_eq_zero_iff.1 hn
    subst this; rfl
  | succ n ih =>
    obtain ⟨m, x, rfl⟩ : ∃ m x, l = m ++ [x] := by
      rcases List.eq_nil_or_concat l with h | ⟨m, x, h⟩
      · subst h; simp at hn
      · exact ⟨m, x, by simpa using h⟩
    by_cases hx : x = 0
    · subst hx
      rw [trm_zero, wv_zero]
      exact ih m (by simpa using hn)
    · rw [trm_keep m hx]
/-- Words without a nought at the end. -/
structure Can (ws : List Nat) : Prop where
  lt : ∀ p, p ∈ ws → p < 4294967296
  last : ws.getLast? ≠ some 0
theorem Can.trm {l : List Nat} (h : ∀ p, p ∈ l → p < 4294967296) : Can (trm l) :=
  ⟨fun p hp => h p (by obtain ⟨_, ⟨t, ht⟩, _⟩ := trm_facts l; rw [ht]; simp [hp]), (trm_facts l).2.2⟩
theorem wv_pos : ∀ {l : List Nat}, l ≠ [] → l.getLast? ≠ some 0 → 0 < wv l
  | [], h, _ => absurd rfl h
  | [a], _, h => by simp at h; simp [wv]; omega
  | a :: b :: l, _, h => by
    have := wv_pos (l := b :: l) (by simp) (by simpa using h)
    rw [wv]; omega
theorem wv_lt : ∀ (l : List Nat), (∀ p, p ∈ l → p < 4294967296) → wv l < 4294967296 ^ l.length
  | [], _ => by simp [wv]
  | p :: l, h => by
    have h1 := wv_lt l (fun q hq => h q (by simp [hq]))
    have h2 := h p (by simp)
    rw [wv, List.length_cons, Nat.pow_succ]
    have : 4294967296 * (wv l + 1) ≤ 4294967296 * 4294967296 ^ l.length := Nat.mul_le_mul_left _ h1
    omega
theorem Can.ge {l : List Nat} (h : Can l) (hl : l ≠ []) : 4294967296 ^ (l.length - 1) ≤ wv l := by
  rcases List.eq_nil_or_concat l with e | ⟨m, x, e⟩
  · exact absurd e hl
  · have e' : l = m ++ [x] := by simpa using e
    subst e'
    have hx : x ≠ 0 := fun e => h.last (by subst e; simp)
    rw [wv_app]
    have : wv [x] = x := by simp [wv]
    rw [this, List.length_append, List.length_singleton, Nat.add_sub_cancel]
    have : 4294967296 ^ m.length * 1 ≤ 4294967296 ^ m.length * x := Nat.mul_le_mul_left _ (by omega)
    omega
/-- One number has one list of words. -/
theorem Can.unique : ∀ {a b : List Nat}, Can a → Can b → wv a = wv b → a = b
  | [], [], _, _, _ => rfl
  | [], b :: lb, _, hb, h => by have := wv_pos (l := b :: lb) (by simp) hb.last; rw [← h] at this; simp [wv] at this
  | a :: la, [], ha, _, h => by have := wv_pos (l := a :: la) (by simp) ha.last; rw [h] at this; simp [wv] at this
  | a :: la, b :: lb, ha, hb, h => by
    rw [wv, wv] at h
    have h1 := ha.lt a (by simp)
    have h2 := hb.lt b (by simp)
    have tl : ∀ {x : Nat} {xs : List Nat}, Can (x :: xs) → Can xs := fun {x xs} hx => ⟨fun p hp => hx.lt p (by simp [hp]), fun e => hx.last (by
      cases xs with
      | nil => simp at e
      | cons y ys => simpa using e)⟩
    have := Can.unique (tl ha) (tl hb) (by omega)
    subst this
    congr 1; omega

/-- Words as cells. -/
def wds (l : List Nat) : List Value := l.map fun (p : Nat) => Value.int .u32 (p : Int)
theorem wds_len (l : List Nat) : (wds l).length = l.length := by simp [wds]
/-- A slice of words that reads as ws. -/
structure WSl (W : World) (v : Value) (ws : List Nat) : Prop where
  ex : ∃ a g cap, v = .slice a ws.length cap ∧ ws.length ≤ cap ∧ cap ≤ maxLen ∧ (0 < ws.length → a = some ⟨g, 0, none⟩ ∧ ∃ c fz, W.heap[g]? = some (.cells c 113 fz)) ∧ ∀ j, j < ws.length → W.cell? ⟨g, j, none⟩ = some (.int .u32 ((ws[j]?.getD 0 : Nat) : Int))
theorem WSl.kept {W W' : World} {v : Value} {ws : List Nat} (h : WSl W v ws) (hk : ∀ (g : Nat) (c : Array Value) (fz : Nat × Nat), W.heap[g]? = some (Obj.cells c 113 fz) → W'.heap[g]? = W.heap[g]?) : WSl W' v ws := by
  obtain ⟨a, g, cap, h1, h2, h3, h4, h5⟩ := h
  rcases Nat.eq_zero_or_pos ws.length with h0 | h0
  · exact ⟨a, g, cap, h1, h2, h3, fun h => by omega, fun j hj => by omega⟩
  · obtain ⟨ha, c, fz, hg⟩ := h4 h0
    have e := hk g c fz hg
    exact ⟨a, g, cap, h1, h2, h3, fun _ => ⟨ha, c, fz, e.trans hg⟩, fun j hj => by rw [← h5 j hj]; simp [World.cell?, e]⟩
theorem WSl.below {W W' : World} {v : Value} {ws : List Nat} (h : WSl W v ws) (hb : Below W.heap.size W W') : WSl W' v ws :=
  h.kept fun g _ _ hg => hb.block g (Array.getElem?_eq_some_iff.1 hg).1
theorem WSl.grown {W W' : World} {v : Value} {ws : List Nat} {row : Option Nat} (h : WSl W v ws) (hg : W.grownBy W' row) (hr : ∀ (g : Nat) (c : Array Value) (fz : Nat × Nat), W.heap[g]? = some (Obj.cells c 113 fz) → some g ≠ row) : WSl W' v ws :=
  h.kept fun g c fz hh => hg.block g (Array.getElem?_eq_some_iff.1 hh).1 (hr g c fz hh)
theorem WSl.nil (W : World) : WSl W (.slice none 0 0) [] := ⟨none, 0, 0, rfl, by simp, by unfold maxLen; omega, by simp, by simp⟩
theorem WSl.of_blk {W : World} {g n : Nat} {ws : List Nat} (h : Blk W g 113 (wds ws)) (hn : n = ws.length) (hl : ws.length ≤ maxLen) : WSl W (.slice (some ⟨g, 0, none⟩) n n) ws :=
  ⟨_, g, n, by rw [hn], by omega, by omega, fun _ => ⟨rfl, _, _, h⟩, fun j hj => by rw [h.cell j]; unfold wds; rw [List.getElem?_map, List.getElem?_eq_getElem hj]; rfl⟩
theorem WSl.take {W : World} {v : Value} {ws : List Nat} (h : WSl W v ws) : ∃ a g cap, v = .slice a ws.length cap ∧ ws.length ≤ cap ∧ cap ≤ maxLen ∧ (0 < ws.length → a = some ⟨g, 0, none⟩) ∧ (∀ j, j < ws.length → W.cell? ⟨g, j, none⟩ = some (.int .u32 ((ws[j]?.getD 0 : Nat) : Int))) ∧
    ∀ k, k ≤ ws.length → WSl W (.slice a k cap) (ws.take k) := by
  obtain ⟨a, g, cap, h1, h2, h3, h4, h5⟩ := h
  refine ⟨a, g, cap, h1, h2, h3, fun h => (h4 h).1, h5, fun k hk => ?_⟩
  have hl : (ws.take k).length = k := by rw [List.length_take]; omega
  refine ⟨a, g, cap, by rw [hl], by omega, h3, fun h => h4 (by omega), fun j hj => ?_⟩
  rw [hl] at hj
  rw [h5 j (by omega), List.getElem?_take, if_pos hj]

set_option maxRecDepth 100000 in
set_option maxHeartbeats 2000000 in
theorem trim_ok (v : Value) (ws : List Nat) (w : World) (hv : WSl w v ws) :
    Calls Tryd.prog 114 #[v] w fun e w' => (∃ r, e = .returned r ∧ WSl w r (trm ws)) ∧ w' = w := by
  obtain ⟨a, g, cap, rfl, hcap, hcm, ha, hc, htk⟩ := hv.take
  have htr := trm_take ws
  have htl := trm_len ws
  clear hv
  have hcm2 := hcm
  unfold maxLen at hcm
  go_enter Tryd.func114, Tryd.ntmps114
  go_wp2
  go_loop [3] (fun v => ∃ n : Nat, n ≤ ws.length ∧ v = .int .i64 n ∧ trm (ws.take n) = trm ws) (fun v => (intOf v).toNat)
  case atStart => exact ⟨ws.length, Nat.le_refl _, rfl, by rw [List.take_length]⟩
  case round =>
    obtain ⟨n, hn, rfl, hT⟩ := hrel
    have HT := hide hT
    have HTR := hide htr
    clear hT htr
    rcases Nat.eq_zero_or_pos n with rfl | hn0
    · have h0 : trm ws = [] := by rw [← HT.out]; rfl
      have hW := htk 0 (Nat.zero_le _)
      go_wp2
      go_ret
      have hW2 : WSl w (.slice a 0 cap) [] := by simpa using hW
      exact ⟨⟨_, rfl, hW2⟩, rfl⟩
    · obtain ⟨k, rfl⟩ : ∃ k, n = k + 1 := ⟨n - 1, by omega⟩
      obtain rfl := ha (by omega)
      have hx := hc k (by omega)
      have hki : ((k + 1 : Nat) : Int) - 1 = (k : Int) := by omega
      have hwk : IntKind.i64.wrap (((k + 1 : Nat) : Int) - 1) = (k : Int) := by rw [IntKind.wrap_i64]; omega
      by_cases hz : ws[k]?.getD 0 = 0
      · rw [hz] at hx
        have hs := trm_step (l := ws) (n := k) (by omega) hz
        have HS := hide hs
        clear hs hz
        go_wp2
        go_round
        case rel => exact ⟨k, by omega, by go_num, by rw [← HS.out]; exact HT.out⟩
        case measure => simp [intOf]
      · have hs : trm ws = ws.take (k + 1) := by rw [← HT.out, trm_stop (by omega) hz]
        have HS := hide hs
        generalize ws[k]?.getD 0 = x at hx hz
        have hb : ((x : Int) == 0) = false := by simp; omega
        have hW := htk (k + 1) hn
        clear hs hz
        go_wp2
        go_ret
        rw [← HS.out] at hW
        exact ⟨⟨_, rfl, hW⟩, rfl⟩
theorem info113 : (Tryd.prog.info? 113).map (fun i => (i.zero, i.size, i.bytes)) = some (some (.int .u32 0), 1, 4) := by kernel_rfl
theorem under55 : Tryd.prog.underlying 55 = some (.slice 113) := by kernel_rfl

set_option maxRecDepth 100000 in
set_option maxHeartbeats 2000000 in
theorem words_ok (x : Nat) (w : World) (hx : x < 18446744073709551616) :
    Calls Tryd.prog 95 #[.int .u64 x] w fun e w' => (∃ r ws, e = .returned r ∧ WSl w' r ws ∧ Can ws ∧ wv ws = x ∧ ws.length ≤ 2) ∧ Below w.heap.size w w' := by
  have hB : Below w.heap.size w (w.alloc (.cells #[.int .u32 ((x % 4294967296 : Nat) : Int), .int .u32 ((x / 4294967296 : Nat) : Int)] 113)) := balloc w _
  have hW : WSl (w.alloc (.cells #[.int .u32 ((x % 4294967296 : Nat) : Int), .int .u32 ((x / 4294967296 : Nat) : Int)] 113)) (.slice (some ⟨w.heap.size, 0, none⟩) 2 2) [x % 4294967296, x / 4294967296] :=
    WSl.of_blk (World.alloc_heap_new w _) rfl (by simp [maxLen])
  have hc : Can (trm [x % 4294967296, x / 4294967296]) := Can.trm (by simp; omega)
  have hv : wv (trm [x % 4294967296, x / 4294967296]) = x := by rw [wv_trm]; simp [wv]; omega
  have hl := trm_len [x % 4294967296, x / 4294967296]
  have h1 : (x : Int) % 4294967296 = ((x % 4294967296 : Nat) : Int) := by omega
  have h2 : (x : Int) / 4294967296 = ((x / 4294967296 : Nat) : Int) := by omega
  rw [← h1, ← h2] at hW hB
  have HW := hide hW
  have HB := hide hB
  clear hW hB h1 h2
  go_enter Tryd.func95, Tryd.ntmps95
  go_wp2_with fail
  refine (trim_ok _ _ _ HW.out).mono ?_
  rintro e w1 ⟨⟨r, rfl, hr⟩, rfl⟩
  go_wp2
  go_ret
  exact ⟨⟨_, _, rfl, hr, hc, hv, by simpa using hl⟩, HB.out⟩
end Go.Proofs.YtjchmhngfnlbhaaDoor
