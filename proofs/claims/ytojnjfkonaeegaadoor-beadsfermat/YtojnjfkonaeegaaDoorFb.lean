/- A row of the call's own, a slice of slices, a list appended to a row of the call's own, pieces of a list. No condition. -/
import Derived.Test.YtojnjfkonaeegaaDoorFa
import Derived.Laws.AppendOwnNone
namespace Go.Proofs.YtojnjfkonaeegaaDoor
open Go Go.RowKit

/-- A row of the call's own that reads as zs. -/
def Row (w : World) (base : Nat) (v : Value) (zs : List Int) : Prop := w.ownsRow base 3 1 v zs.length (zs.map (Value.int .i64))
theorem nil_row (W : World) (B : Nat) : Row W B (.slice none 0 0) [] := World.ownsRow_nil _ _ _ _
theorem Row.sl {W : World} {B : Nat} {v : Value} {zs : List Int} (h : Row W B v zs) (h0 : 0 < W.heap.size) : Sl W v zs := Sl.of_own h h0
theorem take_snoc' {zs : List Int} {k : Nat} (hk : k < zs.length) : zs.take (k + 1) = zs.take k ++ [zs[k]?.getD 0] := by
  rw [List.take_succ_eq_append_getElem hk]; simp [hk]
theorem own_cut {W : World} {B n g cap : Nat} {e : TypeId} {xs : List Value} (h : W.ownsRow B e 1 (.slice (some ⟨g, 0, none⟩) n cap) n xs) {k : Nat} (hk : k ≤ n) : W.ownsRow B e 1 (.slice (some ⟨g, 0, none⟩) k cap) k (xs.take k) := by
  refine ⟨by rw [List.length_take, h.1]; omega, ?_⟩
  rcases h.2 with ⟨h0, _⟩ | ⟨g', cap', cur, hv, h1, h2, h3, h4, h5, h6⟩
  · cases h0
  · injection hv with e1 _ e2
    injection e1 with e1
    injection e1 with e1
    subst e1 e2
    refine .inr ⟨g, cap, cur, rfl, h1, h2, by omega, h4, h5, ?_⟩
    rw [← h6, List.take_take]
    congr 1
    omega
theorem Sl.pos {w : World} {v : Value} {zs : List Int} (h : Sl w v zs) : 0 < w.heap.size := by
  obtain ⟨_, _, _, _, _, _, hp, _, _⟩ := h
  omega
/-- The result's box. -/
theorem new26 (w : World) : Blk (w.alloc (.cells #[.int .i64 0, .int .i64 0] 25)) w.heap.size 25 [.int .i64 0, .int .i64 0] := World.alloc_heap_new w _

set_option maxRecDepth 100000 in
set_option maxHeartbeats 1000000 in
theorem f_any (c i : Int) (w : World) : Calls Tryd.prog 32 #[.int .i64 c, .int .i64 i] w fun e w' => e = .returned (.agg #[.int .i64 c, .int .i64 i]) ∧ Below w.heap.size w w' := by
  go_enter Tryd.func32, Tryd.ntmps32
  go_wp2
  exact bodyPost_ret (v := .agg #[.int .i64 c, .int .i64 i]) (by simp [results, Tryd.results32, go_sem]) rfl ⟨rfl, (Below.refl _ _).alloc (Nat.le_refl _) _⟩

/-- A slice of slices of ints. -/
def SlW (w : World) (v : Value) (ws : List (List Int)) : Prop := ∃ a cap pb po, v = .slice a ws.length cap ∧ (0 < ws.length → a = some ⟨pb, po, none⟩) ∧ (∀ j, j < ws.length → ∃ u, w.cell? ⟨pb, po + j, none⟩ = some u ∧ Sl w u (ws[j]?.getD [])) ∧ pb < w.heap.size ∧ ws.length ≤ cap ∧ cap ≤ maxLen
theorem SlW.below {w w' : World} {v : Value} {ws : List (List Int)} (h : SlW w v ws) (hb : Below w.heap.size w w') : SlW w' v ws := by
  obtain ⟨a, cap, pb, po, hv, h1, h2, h3, h4, h5⟩ := h
  refine ⟨a, cap, pb, po, hv, h1, fun j hj => ?_, Nat.lt_of_lt_of_le h3 hb.size, h4, h5⟩
  obtain ⟨u, hu, hs⟩ := h2 j hj
  exact ⟨u, below_cell hb hu, hs.below hb⟩
theorem SlW.one {w : World} {u : Value} {zs : List Int} (h : Sl w u zs) : SlW (w.alloc (.cells #[u] 22)) (.slice (some ⟨w.heap.size, 0, none⟩) 1 1) [zs] := by
  refine ⟨_, 1, w.heap.size, 0, rfl, fun _ => rfl, fun j hj => ?_, by simp, by simp, by unfold maxLen; omega⟩
  have : j = 0 := by simp at hj; omega
  subst this
  exact ⟨u, (show Blk (w.alloc (.cells #[u] 22)) w.heap.size 22 [u] from World.alloc_heap_new w _).cell 0, h.below (balloc w _)⟩
theorem SlW.two {w : World} {u v : Value} {zs ys : List Int} (h : Sl w u zs) (k : Sl w v ys) : SlW (w.alloc (.cells #[u, v] 22)) (.slice (some ⟨w.heap.size, 0, none⟩) 2 2) [zs, ys] := by
  refine ⟨_, 2, w.heap.size, 0, rfl, fun _ => rfl, fun j hj => ?_, by simp, by simp, by unfold maxLen; omega⟩
  have : j = 0 ∨ j = 1 := by simp at hj; omega
  rcases this with rfl | rfl
  · exact ⟨u, (show Blk (w.alloc (.cells #[u, v] 22)) w.heap.size 22 [u, v] from World.alloc_heap_new w _).cell 0, h.below (balloc w _)⟩
  · exact ⟨v, (show Blk (w.alloc (.cells #[u, v] 22)) w.heap.size 22 [u, v] from World.alloc_heap_new w _).cell 1, k.below (balloc w _)⟩
theorem SlW.three {w : World} {u v x : Value} {zs ys xs : List Int} (h : Sl w u zs) (k : Sl w v ys) (l : Sl w x xs) : SlW (w.alloc (.cells #[u, v, x] 22)) (.slice (some ⟨w.heap.size, 0, none⟩) 3 3) [zs, ys, xs] := by
  refine ⟨_, 3, w.heap.size, 0, rfl, fun _ => rfl, fun j hj => ?_, by simp, by simp, by unfold maxLen; omega⟩
  have : j = 0 ∨ j = 1 ∨ j = 2 := by simp at hj; omega
  rcases this with rfl | rfl | rfl
  · exact ⟨u, (show Blk (w.alloc (.cells #[u, v, x] 22)) w.heap.size 22 [u, v, x] from World.alloc_heap_new w _).cell 0, h.below (balloc w _)⟩
  · exact ⟨v, (show Blk (w.alloc (.cells #[u, v, x] 22)) w.heap.size 22 [u, v, x] from World.alloc_heap_new w _).cell 1, k.below (balloc w _)⟩
  · exact ⟨x, (show Blk (w.alloc (.cells #[u, v, x] 22)) w.heap.size 22 [u, v, x] from World.alloc_heap_new w _).cell 2, l.below (balloc w _)⟩


theorem run_append_none (w : World) (ty : TypeId) (base : Nat) (i : TypeInfo) (hi : Tryd.prog.info? 3 = some i) (v : Value) (n : Nat) (xs : List Value) (hown : w.ownsRow base 3 1 v n xs) (c : Nat) :
    (Builtin.append_ #[22, 22] ty #[v, .slice none 0 c]).run Tryd.prog w = .ok v w := by
  rcases hown.2 with ⟨rfl, rfl⟩ | ⟨g, cap, cur, rfl, _, _, hnc, _⟩
  · simp [Builtin.append_, run_underlying under22b, sizeOf, typeInfo, hi, Builtin.lenOf, Builtin.firstCells]
  · simp [Builtin.append_, run_underlying under22b, sizeOf, typeInfo, hi, Builtin.lenOf, Builtin.firstCells, hnc, storeCells]

set_option maxRecDepth 100000 in
/-- A list that can be read, appended to a row of the call's own. -/
theorem wpList_append_row {w : World} {ops : Array Oper} {rest : List Oper} {o : Oper} {a : Act} {Q : Exit → Act → World → Prop} (hgd : o.guard = none) (s x : Operand)
    (ho : o.op = .call { callee := .builtin .append, args := #[s, x], argTypes := #[22, 22] })
    (base : Nat) (v u : Value) (xs ys : List Int) (hs : a.eval s = v) (hrow : Row w base v xs) (hx : a.eval x = u) (hu : Sl w u ys) (hb : xs.length + ys.length ≤ 8000000) (hbase : base ≤ w.heap.size)
    (h : ∀ v' w', Row w' base v' (xs ++ ys) → w.grownBy w' v.ownBlock → wpList Tryd.prog ops Q rest (a.put o.dst v') w') : wpList Tryd.prog ops Q (o :: rest) a w := by
  obtain ⟨i0, hi, hz0, hz1, hz2⟩ := info_parts info3b
  obtain ⟨ad, cap, pb, po, rfl, hr, hp, hq3, hq4⟩ := id hu
  cases ad with
  | none =>
    have h0 : ys.length = 0 := by
      rcases Nat.eq_zero_or_pos ys.length with h1 | h1
      · exact h1
      · have := hr.at_ h1; cases this
    have hys : ys = [] := List.length_eq_zero_iff.1 h0
    subst hys
    refine wpList_plain hgd fun K hK => ?_
    have hrun := run_append_none w o.type base i0 hi v xs.length _ hrow cap
    unfold Oper.wp
    simp [execOp, ho, resolve, invoke, builtin, hs, hx, hrun, Result.andThen]
    refine hK _ _ (h v w (by rw [List.append_nil]; exact hrow) (gb_refl _ _))
  | some ad =>
    have hc1 : ∀ j z, (ys.map (Value.int .i64))[j]? = some z → w.cell? (ad.add j) = some z := by
      intro j v hj
      rw [List.getElem?_map] at hj
      obtain ⟨z, hz, rfl⟩ := Option.map_eq_some_iff.1 hj
      have hjl := (List.getElem?_eq_some_iff.1 hz).1
      have := hr.cell j hjl
      rw [hz] at this
      have e := hr.at_ (by omega)
      injection e with e
      subst e
      rw [show (⟨pb, po, none⟩ : Addr).add j = ⟨pb, po + j, none⟩ by unfold Addr.add; split <;> simp_all]
      exact this
    refine wpList_append_own w hgd s x 22 ho base 3 i0 (.int .i64 0) 1 8 under22b hi hz0 hz1 hz2 rfl (by decide) v xs.length (xs.map (Value.int .i64)) hs hrow ad ys.length cap (ys.map (Value.int .i64)) hx (by simp) hc1 (by intro v hv; obtain ⟨z, _, rfl⟩ := List.mem_map.1 hv; rfl) (by unfold maxLen; omega) (by omega) hbase ?_
    intro v' w' h1 h2 _
    refine h v' w' ?_ h2
    unfold Row
    rw [List.length_append, List.map_append]; exact h1

theorem Row.mono {W : World} {B B' : Nat} {v : Value} {zs : List Int} (h : Row W B v zs) (hb : B' ≤ B) : Row W B' v zs := owns_mono h hb
theorem Row.slice {W : World} {B : Nat} {v : Value} {zs : List Int} (h : Row W B v zs) : ∃ a c, v = .slice a zs.length c := own_slice h

theorem Sl.empty {w : World} (a : Option Addr) (cap : Nat) (h0 : 0 < w.heap.size) (hc : cap ≤ maxLen) : Sl w (.slice a 0 cap) [] := ⟨a, cap, 0, 0, rfl, ⟨by simp, by simp⟩, h0, by simp, hc⟩
/-- A piece of a list. -/
theorem Reads.piece {w : World} {a : Option Addr} {pb po : Nat} {zs : List Int} (h : Reads w a pb po zs) {i m : Nat} (hm : i + m ≤ zs.length) {b : Option Addr} (hb : 0 < m → b = some ⟨pb, po + i, none⟩) : Reads w b pb (po + i) ((zs.drop i).take m) := by
  have hl : ((zs.drop i).take m).length = m := by simp; omega
  refine ⟨fun h1 => hb (by omega), fun j hj => ?_⟩
  rw [hl] at hj
  rw [show po + i + j = po + (i + j) by omega, h.cell (i + j) (by omega), List.getElem?_take_of_lt hj, List.getElem?_drop]
theorem Reads.sl {w : World} {a : Option Addr} {pb po cap n : Nat} {zs : List Int} (h : Reads w a pb po zs) (hn : n = zs.length) (hp : pb < w.heap.size) (hc : n ≤ cap) (hm : cap ≤ maxLen) : Sl w (.slice a n cap) zs := by
  subst hn
  exact ⟨a, cap, pb, po, rfl, h, hp, hc, hm⟩
theorem Sl.drewN {w : World} {v : Value} {zs : List Int} (h : Sl w v zs) (j : Nat) : Sl (w.drewN j) v zs := by
  obtain ⟨a, cap, pb, po, hv, hr, hp, h1, h2⟩ := h
  exact ⟨a, cap, pb, po, hv, hr.of_eq rfl, hp, h1, h2⟩

theorem nilq1 (n cap : Nat) (W : World) : Sem.run Tryd.prog (binOp .eql 22 (.slice none n cap) (.slice none 0 0)) W = .ok (.bool true) W := by kernel_rfl
theorem nilq2 (b : Addr) (n cap : Nat) (W : World) : Sem.run Tryd.prog (binOp .eql 22 (.slice (some b) n cap) (.slice none 0 0)) W = .ok (.bool false) W := by kernel_rfl

end Go.Proofs.YtojnjfkonaeegaaDoor
