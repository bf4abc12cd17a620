/- What the document's From makes: a list turned. -/
import Derived.Test.YtojnjfkonaeegaaDoorFac
import Derived.Deep.RegionHeld3
namespace Go.Proofs.YtojnjfkonaeegaaDoor
open Go Go.RowKit

set_option maxRecDepth 100000 in
/-- A list that can be read, appended to a row of the call's own: the operation alone. -/
theorem wp_append_row {w : World} {o : Oper} {a : Act} {K : Act → World → Prop} {Q : Exit → Act → World → Prop} (s x : Operand)
    (ho : o.op = .call { callee := .builtin .append, args := #[s, x], argTypes := #[22, 22] })
    (base : Nat) (v u : Value) (xs ys : List Int) (hs : a.eval s = v) (hrow : Row w base v xs) (hx : a.eval x = u) (hu : Sl w u ys) (hb : xs.length + ys.length ≤ 4000000) (hbase : base ≤ w.heap.size)
    (h : ∀ v' w', Row w' base v' (xs ++ ys) → w.grownBy w' v.ownBlock → K (a.put o.dst v') w') : o.wp Tryd.prog a w K Q := by
  obtain ⟨i0, hi, hz0, hz1, hz2⟩ := info_parts info3b
  obtain ⟨ad, cap, pb, po, rfl, hr, hp, hq3, hq4⟩ := id hu
  cases ad with
  | none =>
    have h0 : ys.length = 0 := by
      rcases Nat.eq_zero_or_pos ys.length with h1 | h1
      · exact h1
      · have := hr.at_ h1; cases this
    have hys : ys = [] := List.length_eq_zero_iff.1 h0
    subst hys
    have hrun := run_append_none w o.type base i0 hi v xs.length _ hrow cap
    unfold Oper.wp
    simp [execOp, ho, resolve, invoke, builtin, hs, hx, hrun, Result.andThen]
    exact h v w (by rw [List.append_nil]; exact hrow) (gb_refl _ _)
  | some ad =>
    have hc1 : ∀ j z, (ys.map (Value.int .i64))[j]? = some z → w.cell? (ad.add j) = some z := by
      intro j v hj
      rw [List.getElem?_map] at hj
      obtain ⟨z, hz, rfl⟩ := Option.map_eq_some_iff.1 hj
      have hjl := (List.getElem?_eq_some_iff.1 hz).1
      have := hr.cell j hjl
      rw [hz] at this
      have e := hr.at_ (by omega)
      injection e with e
      subst e
      rw [show (⟨pb, po, none⟩ : Addr).add j = ⟨pb, po + j, none⟩ by unfold Addr.add; split <;> simp_all]
      exact this
    refine wp_append_own w s x 22 ho base 3 i0 (.int .i64 0) 1 8 under22b hi hz0 hz1 hz2 rfl (by decide) v xs.length (xs.map (Value.int .i64)) hs hrow ad ys.length cap (ys.map (Value.int .i64)) hx (by simp) hc1 (by intro v hv; obtain ⟨z, _, rfl⟩ := List.mem_map.1 hv; rfl) (by unfold maxLen; omega) (by omega) hbase ?_
    intro v' w' h1 h2 _
    refine h v' w' ?_ h2
    unfold Row
    rw [List.length_append, List.map_append]; exact h1

/-- A list turned. -/
def trn (zs : List Int) (i : Nat) : List Int := zs.drop i ++ zs.take i

set_option maxRecDepth 100000 in
set_option maxHeartbeats 4000000 in
theorem from_ok (v : Value) (zs : List Int) (i : Nat) (w : World) (hv : Sl w v zs) (hi : i < zs.length) (hsm : zs.length ≤ 100000) :
    Calls Tryd.prog 14 #[v, .int .i64 i] w fun e w' => ∃ r, e = .returned r ∧ Row w' w.heap.size r (trn zs i) ∧ Below w.heap.size w w' := by
  obtain ⟨a, cap, pb, po, rfl, hr, hp, hc1, hm1⟩ := id hv
  obtain rfl := hr.at_ (by omega)
  have hp1 : Sl w.drew (.slice (some ⟨pb, po + i, none⟩) (zs.length - i) (cap - i)) (zs.drop i) := by
    have := ((hr.of_eq (w' := w.drew) rfl).piece (i := i) (m := zs.length - i) (b := some ⟨pb, po + i, none⟩) (by omega) (fun _ => rfl)).sl (cap := cap - i) (n := zs.length - i) (by simp) hp (by omega) (by omega)
    rwa [List.take_of_length_le (by simp)] at this
  have hp2 : Sl w.drew (.slice (some ⟨pb, po, none⟩) i cap) (zs.take i) := by
    have := ((hr.of_eq (w' := w.drew) rfl).piece (i := 0) (m := i) (b := some ⟨pb, po, none⟩) (by omega) (fun _ => rfl)).sl (cap := cap) (n := i) (by simp; omega) hp (by omega) hm1
    simpa using this
  have hcn : ¬ cap = i := by omega
  have hb1 : (i : Int) ≤ (zs.length : Int) := by omega
  have hb2 : (zs.length : Int) ≤ (cap : Int) := by omega
  have hb5 : (i : Int) ≤ (cap : Int) := by omega
  have hb3 : (zs.length : Int) - (i : Int) = ((zs.length - i : Nat) : Int) := by omega
  have hB0 : Below w.heap.size w w.drew := bdrew (Below.refl _ w)
  go_enter Tryd.func14, Tryd.ntmps14
  go_wp2_with fail
  refine wp_region_held_drew (S := fun W => Below w.drew.heap.size w.drew W) (by kernel_rfl) (Below.refl _ _) (fun hHeld => ?_)
  have hge : w.heap.size = w.drew.heap.size := rfl
  generalize w.drew = wd at *
  refine wpAnyH_take (i := 0) (oi := ({ dst := some 5, op := Go.Op.move (Go.Operand.tmp 0), type := 22, pos := _, after := _, guard := none } : Oper)) (v := ?_) rfl (by kernel_rfl) (by kernel_rfl) (by kernel_rfl) (fun _ _ _ h => h) (Or.inl ⟨by rfl, ?_⟩) (by assumption) ?_
  rotate_left
  · (intro w hSw; (try dsimp only at hSw); go_simp; try with_reducible rfl)
  simp only [Act.put, List.setIfInBounds_toArray, List.set_cons_zero, List.set_cons_succ]
  refine wpAnyH_take (i := 1) (oi := ({ dst := some 6, op := Go.Op.move (Go.Operand.tmp 1), type := 3, pos := _, after := _, guard := none } : Oper)) (v := ?_) rfl (by kernel_rfl) (by kernel_rfl) (by kernel_rfl) (fun _ _ _ h => h) (Or.inl ⟨by rfl, ?_⟩) (by assumption) ?_
  rotate_left
  · (intro w hSw; (try dsimp only at hSw); go_simp; try with_reducible rfl)
  simp only [Act.put, List.setIfInBounds_toArray, List.set_cons_zero, List.set_cons_succ]
  refine wpAnyH_take (i := 2) (oi := ({ dst := some 7, op := Go.Op.slice 22 (Go.Operand.tmp 5) (some (Go.Operand.tmp 6)) none none, type := 22, pos := _, after := _, guard := none } : Oper)) (v := ?_) rfl (by kernel_rfl) (by kernel_rfl) (by kernel_rfl) (fun _ _ _ h => h) (Or.inl ⟨by rfl, ?_⟩) (by assumption) ?_
  rotate_left
  · (intro w hSw; (try dsimp only at hSw); go_simp; try with_reducible rfl)
  simp only [Act.put, List.setIfInBounds_toArray, List.set_cons_zero, List.set_cons_succ]
  refine wpAnyH_take (i := 4) (oi := ({ dst := some 9, op := Go.Op.move (Go.Operand.tmp 0), type := 22, pos := _, after := _, guard := none } : Oper)) (v := ?_) rfl (by kernel_rfl) (by kernel_rfl) (by kernel_rfl) (fun _ _ _ h => h) (Or.inl ⟨by rfl, ?_⟩) (by assumption) ?_
  rotate_left
  · (intro w hSw; (try dsimp only at hSw); go_simp; try with_reducible rfl)
  simp only [Act.put, List.setIfInBounds_toArray, List.set_cons_zero, List.set_cons_succ]
  refine wpAnyH_take (i := 5) (oi := ({ dst := some 10, op := Go.Op.move (Go.Operand.tmp 1), type := 3, pos := _, after := _, guard := none } : Oper)) (v := ?_) rfl (by kernel_rfl) (by kernel_rfl) (by kernel_rfl) (fun _ _ _ h => h) (Or.inl ⟨by rfl, ?_⟩) (by assumption) ?_
  rotate_left
  · (intro w hSw; (try dsimp only at hSw); go_simp; try with_reducible rfl)
  simp only [Act.put, List.setIfInBounds_toArray, List.set_cons_zero, List.set_cons_succ]
  refine wpAnyH_take (i := 6) (oi := ({ dst := some 11, op := Go.Op.slice 22 (Go.Operand.tmp 9) none (some (Go.Operand.tmp 10)) none, type := 22, pos := _, after := _, guard := none } : Oper)) (v := ?_) rfl (by kernel_rfl) (by kernel_rfl) (by kernel_rfl) (fun _ _ _ h => h) (Or.inl ⟨by rfl, ?_⟩) (by assumption) ?_
  rotate_left
  · (intro w hSw; (try dsimp only at hSw); go_simp; try with_reducible rfl)
  simp only [Act.put, List.setIfInBounds_toArray, List.set_cons_zero, List.set_cons_succ]
  refine wpAnyH_ready (rs := [3]) (by kernel_rfl) (by simp) (AllReadyH.cons (o := ({ dst := some 8, op := Go.Op.call { callee := Go.Callee.builtin Go.Builtin.append, args := #[Go.Operand.const (Go.Value.slice none 0 0), Go.Operand.tmp 7], argTypes := #[22, 22] }, type := 22, pos := _, after := _, guard := none } : Oper)) rfl (fun KK hK => ?_) AllReadyH.nil)
  refine wp_append_row _ _ rfl wd.heap.size (.slice none 0 0) _ [] (zs.drop i) rfl (nil_row _ _) rfl hp1 (by simp; omega) (Nat.le_refl _) ?_
  intro v1 w1 hr1 hg1
  rw [List.nil_append] at hr1
  have hb1' : Below wd.heap.size wd w1 := (Below.refl _ wd).grown hg1 (Nat.le_refl _) (by simp [Value.ownBlock])
  have hp21 := hp2.below hb1'
  obtain ⟨o1, o2, rfl⟩ := hr1.slice
  refine hK.out _ _ hb1' (fun hHeld => ?_)
  clear hK
  try simp only [Act.put, List.setIfInBounds_toArray, List.set_cons_zero, List.set_cons_succ]
  refine wpAnyH_ready (rs := [7]) (by kernel_rfl) (by simp) (AllReadyH.cons (o := ({ dst := some 12, op := Go.Op.call { callee := Go.Callee.builtin Go.Builtin.append, args := #[Go.Operand.tmp 8, Go.Operand.tmp 11], argTypes := #[22, 22] }, type := 22, pos := _, after := _, guard := none } : Oper)) rfl (fun KK hK => ?_) AllReadyH.nil)
  refine wp_append_row _ _ rfl wd.heap.size _ _ (zs.drop i) (zs.take i) rfl hr1 rfl hp21 (by simp; omega) hb1'.size ?_
  intro v2 w2 hr2 hg2
  have hb2' : Below wd.heap.size wd w2 := hb1'.grown hg2 hb1'.size (fun t e => owns_ge hr1 t e)
  obtain ⟨q, hq⟩ : ∃ q, zs.drop i ++ zs.take i = q := ⟨_, rfl⟩
  rw [hq] at hr2
  have HQ := hide hq
  clear hq
  obtain ⟨o3, o4, rfl⟩ := hr2.slice
  refine hK.out _ _ hb2' (fun hHeld => ?_)
  clear hK
  try simp only [Act.put, List.setIfInBounds_toArray, List.set_cons_zero, List.set_cons_succ]
  refine wpAnyH_take (i := 8) (oi := ({ dst := some 4, op := Go.Op.assign (Go.Operand.tmp 12), type := 22, pos := _, after := _, guard := none } : Oper)) (v := ?_) rfl (by kernel_rfl) (by kernel_rfl) (by kernel_rfl) (fun _ _ _ h => h) (Or.inl ⟨by rfl, ?_⟩) (by assumption) ?_
  rotate_left
  · (intro w hSw; (try dsimp only at hSw); go_simp; try with_reducible rfl)
  simp only [Act.put, List.setIfInBounds_toArray, List.set_cons_zero, List.set_cons_succ]
  refine wpAnyH_done (by kernel_rfl) ?_ _
  go_wp2
  go_ret
  have ht : trn zs i = q := HQ.out
  rw [ht]
  exact ⟨_, rfl, by rw [hge]; exact hr2, by rw [← hge] at hb2'; exact bcat hB0 (by rw [hge] at hb2'; exact hb2') (by omega)⟩

end Go.Proofs.YtojnjfkonaeegaaDoor
