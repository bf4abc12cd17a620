/- What the law's own copies of lists are, and what the document's Ints tells. -/
import Derived.Test.YtojnjfkonaeegaaDoorBase

namespace Go.Proofs.YtojnjfkonaeegaaDoor
open Go Go.RowKit

theorem list_ext {xs ys : List Int} (hl : xs.length = ys.length) (h : ∀ i, i < xs.length → xs[i]?.getD 0 = ys[i]?.getD 0) : xs = ys := by
  apply List.ext_getElem hl
  intro i h1 h2
  have := h i h1
  rw [List.getElem?_eq_getElem h1, List.getElem?_eq_getElem h2] at this
  simpa using this
theorem ext_getD {xs ys : List Int} (hl : xs.length = ys.length) (h : ∀ j, j < xs.length → xs[j]?.getD 0 = ys[j]?.getD 0) : xs = ys := by
  apply List.ext_getElem hl
  intro i h1 h2
  have := h i h1
  rw [List.getElem?_eq_getElem h1, List.getElem?_eq_getElem h2] at this
  simpa using this

set_option maxRecDepth 100000 in
set_option maxHeartbeats 2000000 in
theorem ints_any (u v : Value) (xs ys : List Int) (w : World) (hu : Sl w u xs) (hv : Sl w v ys) :
    Calls Tryd.prog 18 #[u, v] w fun e w' => e = .returned (.bool (decide (xs = ys))) ∧ Below w.heap.size w w' := by
  obtain ⟨a, cap, pb, po, rfl, hr, hp, hc1, hm1⟩ := hu
  obtain ⟨b, cap', qb, qo, rfl, hs, hq, hc2, hm2⟩ := hv
  unfold maxLen at hm1 hm2
  by_cases hl : xs.length = ys.length
  · go_enter Tryd.func18, Tryd.ntmps18
    have hbe : ((xs.length : Int) != (ys.length : Int)) = false := by simp [hl]
    have HL := hide hl
    have hle1 : xs.length ≤ ys.length := by omega
    have hle2 : ys.length ≤ xs.length := by omega
    clear hl
    go_wp2
    go_loopw [5] (fun i wr => ∃ k j : Nat, k ≤ xs.length ∧ i = .int .i64 k ∧ wr = w.drewN j ∧ ∀ t, t < k → xs[t]?.getD 0 = ys[t]?.getD 0) (fun i _ => xs.length - (intOf i).toNat)
    case atStart => exact ⟨0, 0, Nat.zero_le _, rfl, rfl, fun t ht => by omega⟩
    case round =>
      obtain ⟨k, j, hk, rfl, rfl, hsame⟩ := hrel
      have HS := hide hsame
      clear hsame
      by_cases hlt : k < xs.length
      · have hx := hr.cell k hlt
        have hy := hs.cell k (by omega)
        obtain rfl := hr.at_ (by omega)
        obtain rfl := hs.at_ (by omega)
        generalize hxe : xs[k]?.getD 0 = x at hx
        generalize hye : ys[k]?.getD 0 = y at hy
        have HX := hide hxe
        have HY := hide hye
        have hki : (k : Int) < (xs.length : Int) := by omega
        have hkj : (k : Int) < (ys.length : Int) := by omega
        clear hxe hye
        by_cases hxy : x = y
        · have hb : (x != y) = false := by simp [hxy]
          have HE := hide hxy
          clear hxy
          go_wp2
          go_quiet (fail)
          go_wp2
          go_roundw
          case rel => exact ⟨k + 1, _, by omega, by go_num, rfl, fun t ht => by
            by_cases e : t = k
            · rw [e, HX.out, HY.out]; exact HE.out
            · exact HS.out t (by omega)⟩
          case measure => simp [intOf]; omega
        · have hb : (x != y) = true := by simp [hxy]
          have hd : decide (xs = ys) = false := by
            rw [decide_eq_false_iff_not]
            intro e
            apply hxy
            rw [← HX.out, ← HY.out, e]
          have HD := hide hd
          clear hxy hd
          go_wp2
          go_quiet (fail)
          go_wp2
          go_ret
          exact ⟨by rw [HD.out]; rfl, bdrewN (bdrewN (Below.refl _ w) _) _⟩
      · have hd : decide (xs = ys) = true := by
          rw [decide_eq_true_eq]
          exact ext_getD HL.out (fun t ht => HS.out t (by omega))
        have HD := hide hd
        clear hd
        go_wp2
        go_ret
        exact ⟨by rw [HD.out]; rfl, bdrewN (Below.refl _ w) _⟩
  · have hbe : ((xs.length : Int) != (ys.length : Int)) = true := by simp; omega
    have hd : decide (xs = ys) = false := by
      rw [decide_eq_false_iff_not]
      intro e
      exact hl (by rw [e])
    have HD := hide hd
    clear hd hl
    go_enter Tryd.func18, Tryd.ntmps18
    go_wp2
    go_ret
    exact ⟨by rw [HD.out]; rfl, Below.refl _ w⟩


set_option maxRecDepth 100000 in
set_option maxHeartbeats 2000000 in
theorem own_any (u : Value) (zs : List Int) (w : World) (hu : Sl w u zs) (hb : zs.length * 8 ≤ 140737488355328) :
    Calls Tryd.prog 9 #[u] w fun e w' => ∃ r, e = .returned r ∧ w'.ownsRow w.heap.size 3 1 r zs.length (zs.map (Value.int .i64)) ∧ Below w.heap.size w w' := by
  obtain ⟨i0, hi, hz0, hz1, hz2⟩ := info_parts info3b
  obtain ⟨a, cap, pb, po, rfl, hr, hp, hq3, hq4⟩ := id hu
  rcases Nat.eq_zero_or_pos zs.length with hz | hpos
  · have hz : zs = [] := List.length_eq_zero_iff.1 hz
    subst hz
    cases a with
    | none =>
      go_enter Tryd.func9, Tryd.ntmps9
      go_wp2
      go_ret
      exact ⟨_, rfl, World.ownsRow_nil _ _ _ _, Below.refl _ _⟩
    | some x =>
      go_enter Tryd.func9, Tryd.ntmps9
      go_wp2
      go_ret
      exact ⟨_, rfl, World.ownsRow_nil _ _ _ _, Below.refl _ _⟩
  · obtain rfl := hr.at_ hpos
    go_enter Tryd.func9, Tryd.ntmps9
    go_wp2_with (first
      | (at_builtin; refine wpList_append_grows _ rfl _ _ 22 rfl 3 i0 (.int .i64 0) 1 8 under22b hi hz0 hz1 hz2 rfl (by decide) none 0 0 [] rfl (fun _ => ⟨rfl, rfl⟩) rfl (fun b hb => by cases hb) ⟨pb, po, none⟩ zs.length cap (zs.map (Value.int .i64)) rfl (by simp) ?c1 ?c2 ?c3 ?c4 ?c5 ?_))
    case c1 =>
      intro j v hj
      rw [List.getElem?_map] at hj
      obtain ⟨z, hz, rfl⟩ := Option.map_eq_some_iff.1 hj
      have hjl := (List.getElem?_eq_some_iff.1 hz).1
      have := hr.cell j hjl
      rw [hz] at this
      rw [show (⟨pb, po, none⟩ : Addr).add j = ⟨pb, po + j, none⟩ by unfold Addr.add; split <;> simp_all]
      exact this
    case c2 => intro v hv; obtain ⟨z, _, rfl⟩ := List.mem_map.1 hv; rfl
    case c3 => omega
    case c4 => unfold maxLen; omega
    case c5 => omega
    intro v' w' hown hg
    have hB : Below w.heap.size w w' := (Below.refl _ w).grown hg (Nat.le_refl _) (by simp)
    go_wp2
    go_ret
    exact ⟨_, rfl, hown, hB⟩


theorem own_slice {w : World} {base n : Nat} {v : Value} {xs : List Value} (h : w.ownsRow base 3 1 v n xs) : ∃ a cap, v = .slice a n cap := by
  rcases h.2 with ⟨rfl, rfl⟩ | ⟨g, cap, cur, rfl, _⟩
  · exact ⟨none, 0, rfl⟩
  · exact ⟨_, _, rfl⟩
theorem own_put {W W' : World} {base : Nat} {u : Value} {zs : List Int} (h : W.ownsRow base 3 1 u zs.length (zs.map (Value.int .i64))) (hk : ∀ b, base ≤ b → W'.heap[b]? = W.heap[b]?) (h0 : 0 < W'.heap.size) : Sl W' u zs := by
  refine Sl.of_own (base := base) ⟨h.1, ?_⟩ h0
  rcases h.2 with h2 | ⟨g, cap, cur, hv, hge, hh, rest⟩
  · exact .inl h2
  · exact .inr ⟨g, cap, cur, hv, hge, (hk g hge).trans hh, rest⟩
theorem undrew {a b : World} (h : Below a.drew.heap.size a.drew b) : Below a.heap.size a b := ⟨h.os, h.tape, h.output, h.size, h.block⟩

end Go.Proofs.YtojnjfkonaeegaaDoor
