/- A list appended to a row of the call's own; what the document's Behind and TimesWord make. -/
import Derived.Test.YtakmfhnigpmngaaFf
import Derived.Test.YtakmfhnigpmngaaFm3
import Derived.Laws.AppendOwnNone
namespace Go.Proofs.Ytakmfhnigpmngaa
open Go Go.RowKit

theorem run_append_none (w : World) (ty : TypeId) (base : Nat) (i : TypeInfo) (hi : Try.prog.info? 3 = some i) (v : Value) (n : Nat) (xs : List Value) (hown : w.ownsRow base 3 1 v n xs) (c : Nat) :
    (Builtin.append_ #[22, 22] ty #[v, .slice none 0 c]).run Try.prog w = .ok v w := by
  rcases hown.2 with ⟨rfl, rfl⟩ | ⟨g, cap, cur, rfl, _, _, hnc, _⟩
  · simp [Builtin.append_, run_underlying under22b, sizeOf, typeInfo, hi, Builtin.lenOf, Builtin.firstCells]
  · simp [Builtin.append_, run_underlying under22b, sizeOf, typeInfo, hi, Builtin.lenOf, Builtin.firstCells, hnc, storeCells]

/-- A list that can be read, appended to a row of the call's own. -/
theorem wpList_append_row {w : World} {ops : Array Oper} {rest : List Oper} {o : Oper} {a : Act} {Q : Exit → Act → World → Prop} (hgd : o.guard = none) (s x : Operand)
    (ho : o.op = .call { callee := .builtin .append, args := #[s, x], argTypes := #[22, 22] })
    (base : Nat) (v u : Value) (xs ys : List Int) (hs : a.eval s = v) (hrow : Row w base v xs) (hx : a.eval x = u) (hu : Sl w u ys) (hb : xs.length + ys.length ≤ 8000000) (hbase : base ≤ w.heap.size)
    (h : ∀ v' w', Row w' base v' (xs ++ ys) → w.grownBy w' v.ownBlock → wpList Try.prog ops Q rest (a.put o.dst v') w') : wpList Try.prog ops Q (o :: rest) a w := by
  obtain ⟨i0, hi, hz0, hz1, hz2⟩ := info_parts info3b
  obtain ⟨ad, cap, pb, po, rfl, hr, hp, hq3, hq4⟩ := id hu
  cases ad with
  | none =>
    have h0 : ys.length = 0 := by
      rcases Nat.eq_zero_or_pos ys.length with h1 | h1
      · exact h1
      · have := hr.at_ h1; cases this
    have hys : ys = [] := List.length_eq_zero_iff.1 h0
    subst hys
    refine wpList_plain hgd fun K hK => ?_
    have hrun := run_append_none w o.type base i0 hi v xs.length _ hrow cap
    unfold Oper.wp
    simp [execOp, ho, resolve, invoke, builtin, hs, hx, hrun, Result.andThen]
    refine hK _ _ (h v w (by rw [List.append_nil]; exact hrow) (gb_refl _ _))
  | some ad =>
    have hc1 : ∀ j z, (ys.map (Value.int .i64))[j]? = some z → w.cell? (ad.add j) = some z := by
      intro j v hj
      rw [List.getElem?_map] at hj
      obtain ⟨z, hz, rfl⟩ := Option.map_eq_some_iff.1 hj
      have hjl := (List.getElem?_eq_some_iff.1 hz).1
      have := hr.cell j hjl
      rw [hz] at this
      have e := hr.at_ (by omega)
      injection e with e
      subst e
      rw [show (⟨pb, po, none⟩ : Addr).add j = ⟨pb, po + j, none⟩ by unfold Addr.add; split <;> simp_all]
      exact this
    refine wpList_append_own w hgd s x 22 ho base 3 i0 (.int .i64 0) 1 8 under22b hi hz0 hz1 hz2 rfl (by decide) v xs.length (xs.map (Value.int .i64)) hs hrow ad ys.length cap (ys.map (Value.int .i64)) hx (by simp) hc1 (by intro v hv; obtain ⟨z, _, rfl⟩ := List.mem_map.1 hv; rfl) (by unfold maxLen; omega) (by omega) hbase ?_
    intro v' w' h1 h2 _
    refine h v' w' ?_ h2
    unfold Row
    rw [List.length_append, List.map_append]; exact h1

theorem Row.mono {W : World} {B B' : Nat} {v : Value} {zs : List Int} (h : Row W B v zs) (hb : B' ≤ B) : Row W B' v zs := owns_mono h hb
theorem Row.slice {W : World} {B : Nat} {v : Value} {zs : List Int} (h : Row W B v zs) : ∃ a c, v = .slice a zs.length c := own_slice h
theorem Lt.flat {ws : List (List Int)} (h : ∀ u, u ∈ ws → Lt u) : Lt ws.flatten := fun x hx => by
  obtain ⟨u, hu, hxu⟩ := List.mem_flatten.1 hx
  exact h u hu x hxu

set_option maxRecDepth 100000 in
set_option maxHeartbeats 2000000 in
theorem behind_ok (v : Value) (ws : List (List Int)) (w : World) (hv : SlW w v ws) (hlt : ∀ u, u ∈ ws → Lt u) (hsm : ws.flatten.length ≤ 1000000) :
    Calls Try.prog 21 #[v] w fun e w' => ∃ r, e = .returned r ∧ Row w' w.heap.size r (red ws.flatten) ∧ Below w.heap.size w w' := by
  obtain ⟨a, cap, pb, po, rfl, hat, hcells, hp, hcap, hcm⟩ := hv
  unfold maxLen at hcm
  have HC := hide hcells
  have HLT := hide (Lt.flat hlt)
  have HSM := hide hsm
  clear hcells hlt hsm
  go_enter Try.func21, Try.ntmps21
  go_wp2
  go_loopw [3, 4] (fun o i wr => ∃ k : Nat, k ≤ ws.length ∧ i = .int .i64 k ∧ Row wr w.heap.size o (ws.take k).flatten ∧ Below w.heap.size w wr) (fun _ i _ => ws.length - (intOf i).toNat)
  case atStart => exact ⟨0, Nat.zero_le _, rfl, nil_row _ _, Below.refl _ _⟩
  case round =>
    obtain ⟨k, hk, rfl, hrow, hB⟩ := hrel
    have hBs := hB.size
    by_cases hlt : k < ws.length
    · obtain rfl := hat (by omega)
      obtain ⟨u, hu, hs⟩ := HC.out k hlt
      have hu1 := below_cell hB hu
      have hs1 := hs.below hB
      have HFS := hide (flat_snoc hlt)
      have HL1 := hide (show (ws.take k).flatten.length + (ws[k]?.getD []).length ≤ 1000000 by
        have h1 : ((ws.take (k + 1)).flatten).length ≤ ws.flatten.length := by
          conv => rhs; rw [← List.take_append_drop (k + 1) ws]
          rw [List.flatten_append, List.length_append]; omega
        rw [flat_snoc hlt, List.length_append] at h1
        have := HSM.out
        omega)
      generalize ws[k]?.getD [] = zs at *
      generalize (ws.take k).flatten = F at *
      clear hu hs
      have hkl : (k : Int) < (ws.length : Int) := by omega
      obtain ⟨va, vc, rfl⟩ := hrow.slice
      go_wp2_with (first
        | (at_builtin; refine wpList_append_row rfl _ _ rfl w.heap.size _ _ F zs rfl hrow rfl hs1 (by have := HL1.out; omega) hBs ?_))
      intro v' w2 hrow2 hgrow
      have hB2 : Below w.heap.size w w2 := hB.grown hgrow (by omega) (fun t e => owns_ge hrow t e)
      obtain ⟨a2, c2, rfl⟩ := hrow2.slice
      go_wp2
      go_roundw
      case rel => exact ⟨k + 1, by omega, by go_num, by rw [HFS.out]; exact hrow2, hB2⟩
      case measure => simp [intOf]; omega
    · have hkk : k = ws.length := by omega
      subst hkk
      rw [List.take_length] at hrow
      have h0 : 0 < wr.heap.size := by omega
      have HR := hide (reduced_ok u3 ws.flatten wr (hrow.sl h0) HLT.out (by have := HSM.out; omega))
      go_wp2_with fail
      refine HR.out.mono ?_
      rintro e w2 ⟨r, rfl, hr, hl⟩
      have hB2 := bcat hB hl hBs
      have hr2 := hr.mono hBs
      go_wp2
      go_ret
      exact ⟨_, rfl, hr2, hB2⟩

theorem pw_snoc (u : List Int) (k : Nat) : pw u (k + 1) = pw u k ++ u := by rw [pw_succ, pw_comm]
theorem Lt.pw {u : List Int} (h : Lt u) (k : Nat) : Lt (pw u k) := fun x hx => h x (pw_mem hx)

set_option maxRecDepth 100000 in
set_option maxHeartbeats 2000000 in
theorem timesWord_ok (v : Value) (zs : List Int) (n : Nat) (w : World) (hv : Sl w v zs) (hlt : Lt zs) (hn : n ≤ 1000000) (hsm : n * zs.length ≤ 4000000) :
    Calls Try.prog 33 #[v, .int .i64 n] w fun e w' => ∃ r, e = .returned r ∧ Row w' w.heap.size r (red (pw zs n)) ∧ Below w.heap.size w w' := by
  have h0w := hv.pos
  obtain ⟨a, cap, pb, po, hve, hr, hp, hcap, hcm⟩ := id hv
  subst hve
  have HSM := hide hsm
  have HLT := hide (hlt.pw n)
  have HV := hide hv
  clear hsm hlt hr hv
  go_enter Try.func33, Try.ntmps33
  go_wp2
  go_loopw [5, 6] (fun o i wr => ∃ k : Nat, k ≤ n ∧ i = .int .i64 k ∧ Row wr w.heap.size o (pw zs k) ∧ Below w.heap.size w wr) (fun _ i _ => n - (intOf i).toNat)
  case atStart => exact ⟨0, Nat.zero_le _, rfl, nil_row _ _, Below.refl _ _⟩
  case round =>
    obtain ⟨k, hk, rfl, hrow, hB⟩ := hrel
    have hBs := hB.size
    by_cases hlt : k < n
    · have hs1 := HV.out.below hB
      have HFS := hide (pw_snoc zs k)
      have HL1 := hide (show (pw zs k).length + zs.length ≤ 4000000 by
        rw [pw_len, ← Nat.succ_mul]
        exact Nat.le_trans (Nat.mul_le_mul_right _ hlt) HSM.out)
      generalize pw zs k = F at *
      have hkl : (k : Int) < (n : Int) := by omega
      obtain ⟨va, vc, rfl⟩ := hrow.slice
      go_wp2_with (first
        | (at_builtin; refine wpList_append_row rfl _ _ rfl w.heap.size _ _ F zs rfl hrow rfl hs1 (by have := HL1.out; omega) hBs ?_))
      intro v' w2 hrow2 hgrow
      have hB2 : Below w.heap.size w w2 := hB.grown hgrow (by omega) (fun t e => owns_ge hrow t e)
      obtain ⟨a2, c2, rfl⟩ := hrow2.slice
      go_wp2
      go_roundw
      case rel => exact ⟨k + 1, by omega, by go_num, by rw [HFS.out]; exact hrow2, hB2⟩
      case measure => simp [intOf]; omega
    · have hkk : k = n := by omega
      subst hkk
      have h0 : 0 < wr.heap.size := by omega
      have HR := hide (reduced_ok u5 (pw zs k) wr (hrow.sl h0) HLT.out (by rw [pw_len]; exact HSM.out))
      go_wp2_with fail
      refine HR.out.mono ?_
      rintro e w2 ⟨r, rfl, hr, hl⟩
      have hB2 := bcat hB hl hBs
      have hr2 := hr.mono hBs
      go_wp2
      go_ret
      exact ⟨_, rfl, hr2, hB2⟩

end Go.Proofs.Ytakmfhnigpmngaa
