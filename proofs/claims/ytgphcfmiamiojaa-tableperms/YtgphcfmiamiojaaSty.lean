/- What the document's Stays and Then give: rows of their own. -/
import Derived.Test.YtgphcfmiamiojaaPr3
namespace Go.Proofs.Ytgphcfmiamiojaa
open Go Go.RowKit
open Pm

/-- A row of ints in memory that is nobody else's from base on. -/
def Row (w : World) (base : Nat) (v : Value) (zs : List Int) : Prop := w.ownsRow base 3 1 v zs.length (zs.map (Value.int .i64))
theorem Row.sl {w : World} {base : Nat} {v : Value} {zs : List Int} (h : Row w base v zs) (h0 : 0 < w.heap.size) : Sl w v zs := Sl.of_own h h0
theorem Row.below {w w' : World} {base : Nat} {v : Value} {zs : List Int} (h : Row w base v zs) (hb : Below w.heap.size w w') : Row w' base v zs := by
  refine ⟨h.1, ?_⟩
  rcases h.2 with h0 | ⟨g, cap, cur, hv, hg, hh, r⟩
  · exact .inl h0
  · exact .inr ⟨g, cap, cur, hv, hg, (hb.block g (Array.getElem?_eq_some_iff.1 hh).1).trans hh, r⟩
/-- A row with a point is a block: what the walk asks for where it writes there. -/
theorem Row.at {w : World} {base : Nat} {v : Value} {zs : List Int} (h : Row w base v zs) (hz : 0 < zs.length) :
    ∃ g cap, v = .slice (some ⟨g, 0, none⟩) zs.length cap ∧ base ≤ g ∧ zs.length ≤ cap ∧ cap ≤ maxLen ∧
      ∀ x y, x < zs.length → (∃ old, w.cell? ⟨g, x, none⟩ = some (.int .i64 old)) ∧ w.frozen? ⟨g, x, none⟩ = false ∧ Row (w.setCell ⟨g, x, none⟩ (.int .i64 y)) base v (zs.set x y) := by
  have h' := h
  rcases h.2 with ⟨_, h0⟩ | ⟨g, cap, cur, rfl, hg, hh, h1, h2, h3, h4⟩
  · omega
  · refine ⟨g, cap, rfl, hg, h1, h2, fun x y hx => ⟨⟨zs[x]?.getD 0, ?_⟩, ?_, ?_⟩⟩
    · have k := h'.cells (g := g) rfl x (.int .i64 (zs[x]?.getD 0)) (by simp [hx])
      rw [show (⟨g, 0, none⟩ : Addr).add x = ⟨g, x, none⟩ by unfold Addr.add; split <;> simp_all] at k
      exact k
    · simp [World.frozen?, hh]
    · have hb : Blk w g 3 cur.toList := hh
      have hs : (w.setCell ⟨g, x, none⟩ (.int .i64 y)).heap[g]? = some (.cells (cur.toList.set x (.int .i64 y)).toArray 3 (0, 0)) := hb.set x (.int .i64 y)
      unfold Row
      rw [List.length_set]
      refine ⟨by simp, .inr ⟨g, cap, _, rfl, hg, hs, h1, h2, by simp [h3], ?_⟩⟩
      rw [Nat.mul_one] at h4 ⊢
      show (cur.toList.set x (.int .i64 y)).take zs.length = _
      rw [List.map_set, ← h4, List.take_set]

theorem Row.rowF {w : World} {base : Nat} {v : Value} {zs : List Int} (hown : Row w base v zs) : RowF w v zs := by
  have hown' : w.ownsRow base 3 1 v zs.length (zs.map (Value.int .i64)) := hown
  rcases hown'.2 with ⟨rfl, h0⟩ | ⟨g, c9, cur, rfl, _, hh, h1, h2, _, ht⟩
  · exact ⟨none, 0, 0, 0, by rw [h0], ⟨fun h => by omega, fun j hj => by omega⟩, by omega, by unfold maxLen; omega, fun h => by omega⟩
  · exact ⟨some ⟨g, 0, none⟩, c9, g, 0, rfl, ⟨fun _ => rfl, fun j hj => by
      rw [Nat.zero_add, hown'.cellAt j (by simpa using hj), List.getElem?_map, List.getElem?_eq_getElem hj]; rfl⟩, h1, h2, fun _ => ⟨_, _, hh⟩⟩

set_option maxRecDepth 100000 in
set_option maxHeartbeats 2000000 in
theorem stays_own (n : Nat) (w : World) (hn : n ≤ 1000) :
    Calls Try.prog 24 #[.int .i64 n] w fun e w' => ∃ r, e = .returned r ∧ Row w' w.heap.size r (idL n) ∧ Below w.heap.size w w' := by
  obtain ⟨i0, hi, hz0, hz1, hz2⟩ := info_parts info3b
  go_enter Try.func24, Try.ntmps24
  go_wp2
  go_loopw [3, 4] (fun v i wr => ∃ k : Nat, k ≤ n ∧ i = .int .i64 k ∧ wr.ownsRow w.heap.size 3 1 v (idL k).length ((idL k).map (Value.int .i64)) ∧ Below w.heap.size w wr)
    (fun _ i _ => n - (intOf i).toNat)
  case atStart => exact ⟨0, Nat.zero_le _, rfl, World.ownsRow_nil _ _ _ _, Below.refl _ _⟩
  case round =>
    obtain ⟨k, hk, rfl, hown, hB⟩ := hrel
    obtain ⟨v, rfl⟩ : ∃ v, v = u3 := ⟨_, rfl⟩
    have hBs := hB.size
    by_cases hlt : k < n
    · have hil := idL_len k
      have HIL := hide hil
      clear hil
      go_wp2_with (first
        | (at_builtin; refine wpList_append_own _ rfl _ _ 24 rfl w.heap.size 3 i0 (.int .i64 0) 1 8 under22b hi hz0 hz1 hz2 rfl (by decide) _ _ _ rfl (hown.alloc _) ⟨wr.heap.size, 0, none⟩ 1 1 [.int .i64 (k : Int)] rfl rfl ?c1 ?c2 ?c3 ?c4 ?c5 ?_))
      case c1 => exact cell_one_new _ _ _
      case c2 => simp [Value.oneCell']
      case c3 => unfold maxLen; have := HIL.out; omega
      case c4 => have := HIL.out; omega
      case c5 => simp; omega
      intro v' w2 hown' hgrow _
      obtain ⟨g', cap', rfl⟩ := ownsRow_succ hown'
      have hB2 : Below w.heap.size w w2 := (hB.alloc hBs _).grown hgrow (by simp; omega) (fun j e => owns_ge hown j e)
      have hown5 : w2.ownsRow w.heap.size 3 1 (.slice (some ⟨g', 0, none⟩) ((idL k).length + 1) cap') (idL (k + 1)).length ((idL (k + 1)).map (Value.int .i64)) := by
        rw [idL_succ]; simpa using hown'
      clear hown' hgrow hown
      go_wp2
      go_roundw
      case rel => exact ⟨k + 1, by omega, by go_num, hown5, hB2⟩
      case measure => simp [intOf]; omega
    · have hkk : k = n := by omega
      subst hkk
      go_wp2
      go_ret
      exact ⟨_, rfl, hown, hB⟩

set_option maxRecDepth 100000 in
set_option maxHeartbeats 2000000 in
theorem then_ok (u v : Value) (xs ys : List Int) (w : World) (hu : Sl w u xs) (hv : Sl w v ys) (hx : IsPerm xs) (hl : xs.length = ys.length) (h1000 : xs.length ≤ 1000) :
    Calls Try.prog 14 #[u, v] w fun e w' => ∃ r, e = .returned r ∧ Row w' w.heap.size r (mulL xs ys) ∧ Below w.heap.size w w' := by
  obtain ⟨i0, hi, hz0, hz1, hz2⟩ := info_parts info3b
  obtain ⟨a, cap, pb, po, rfl, hr, hp, hq3, hq4⟩ := hu
  obtain ⟨b, cap', qb, qo, rfl, hs, hq, hq7, hq8⟩ := hv
  have hle1 : xs.length ≤ ys.length := by omega
  have hle2 : ys.length ≤ xs.length := by omega
  have HX := hide hx
  have hml := mulL_len xs ys
  have hmg : ∀ k, k < xs.length → (mulL xs ys)[k]?.getD 0 = ys[nx xs k]?.getD 0 := fun k hk => mulL_get ys hk
  generalize mulL xs ys = M at hml hmg
  have HML := hide hml
  have HMG := hide hmg
  clear hl hx hml hmg
  go_enter Try.func14, Try.ntmps14
  go_wp2
  go_loopw [5, 6] (fun v i wr => ∃ k : Nat, k ≤ xs.length ∧ i = .int .i64 k ∧ Row wr w.heap.size v (M.take k) ∧ Below w.heap.size w wr)
    (fun _ i _ => xs.length - (intOf i).toNat)
  case atStart => exact ⟨0, Nat.zero_le _, rfl, World.ownsRow_nil _ _ _ _, Below.refl _ _⟩
  case round =>
    obtain ⟨k, hk, rfl, hown, hB⟩ := hrel
    obtain ⟨v, rfl⟩ : ∃ v, v = u5 := ⟨_, rfl⟩
    have hBs := hB.size
    by_cases hlt : k < xs.length
    · have hil : (M.take k).length = k := by rw [List.length_take, HML.out]; omega
      have hn := nx_lt HX.out hlt
      have hcx := (hr.below hB hp).cell k hlt
      have hcy := (hs.below hB hq).cell (nx xs k) (by omega)
      rw [hn.2] at hcx
      obtain rfl := hr.at_ (by omega)
      obtain rfl := hs.at_ (by omega)
      have hsn : M.take (k + 1) = M.take k ++ [ys[nx xs k]?.getD 0] := by rw [take_snoc (zs := M) (by rw [HML.out]; omega), HMG.out k hlt]
      have HIL := hide hil
      have HSN := hide hsn
      obtain ⟨hn1, _⟩ := hn
      clear hil hsn
      generalize nx xs k = x at hcx hcy hn1 HSN
      generalize ys[x]?.getD 0 = y at hcy HSN
      have hx1 : (x : Int) < (ys.length : Int) := by omega
      go_wp2_with (first
        | (at_builtin; refine wpList_append_own _ rfl _ _ 24 rfl w.heap.size 3 i0 (.int .i64 0) 1 8 under22b hi hz0 hz1 hz2 rfl (by decide) _ _ _ rfl (World.ownsRow.alloc hown _) ⟨wr.heap.size, 0, none⟩ 1 1 [.int .i64 y] rfl rfl ?c1 ?c2 ?c3 ?c4 ?c5 ?_))
      case c1 => exact cell_one_new _ _ _
      case c2 => simp [Value.oneCell']
      case c3 => unfold maxLen; have := HIL.out; omega
      case c4 => have := HIL.out; omega
      case c5 => simp; omega
      intro v' w2 hown' hgrow _
      obtain ⟨g', cap', rfl⟩ := ownsRow_succ hown'
      have hB2 : Below w.heap.size w w2 := (hB.alloc hBs _).grown hgrow (by simp; omega) (fun j e => owns_ge hown j e)
      have hown5 : Row w2 w.heap.size (.slice (some ⟨g', 0, none⟩) ((M.take k).length + 1) cap') (M.take (k + 1)) := by
        unfold Row
        rw [HSN.out]; simpa using hown'
      clear hown' hgrow hown
      go_wp2
      go_roundw
      case rel => exact ⟨k + 1, by omega, by go_num, (by rw [List.length_take] at hown5; exact hown5), hB2⟩
      case measure => simp [intOf]; omega
    · have hkk : k = xs.length := by omega
      subst hkk
      rw [← HML.out, List.take_length] at hown
      go_wp2
      go_ret
      exact ⟨_, rfl, hown, hB⟩

end Go.Proofs.Ytgphcfmiamiojaa
