/- The law FreeConjugates. -/
import Derived.Test.YtakmfhnigpmngaaFx
import Derived.Test.YtakmfhnigpmngaaFt
namespace Go.Proofs.Ytakmfhnigpmngaa
open Go Go.RowKit

/-- A list that can be read, appended to a row of the call's own: the operation alone. -/
theorem wp_append_row {w : World} {o : Oper} {a : Act} {K : Act → World → Prop} {Q : Exit → Act → World → Prop} (s x : Operand)
    (ho : o.op = .call { callee := .builtin .append, args := #[s, x], argTypes := #[22, 22] })
    (base : Nat) (v u : Value) (xs ys : List Int) (hs : a.eval s = v) (hrow : Row w base v xs) (hx : a.eval x = u) (hu : Sl w u ys) (hb : xs.length + ys.length ≤ 4000000) (hbase : base ≤ w.heap.size)
    (h : ∀ v' w', Row w' base v' (xs ++ ys) → w.grownBy w' v.ownBlock → K (a.put o.dst v') w') : o.wp Try.prog a w K Q := by
  obtain ⟨i0, hi, hz0, hz1, hz2⟩ := info_parts info3b
  obtain ⟨ad, cap, pb, po, rfl, hr, hp, hq3, hq4⟩ := id hu
  cases ad with
  | none =>
    have h0 : ys.length = 0 := by
      rcases Nat.eq_zero_or_pos ys.length with h1 | h1
      · exact h1
      · have := hr.at_ h1; cases this
    have hys : ys = [] := List.length_eq_zero_iff.1 h0
    subst hys
    have hrun := run_append_none w o.type base i0 hi v xs.length _ hrow cap
    unfold Oper.wp
    simp [execOp, ho, resolve, invoke, builtin, hs, hx, hrun, Result.andThen]
    exact h v w (by rw [List.append_nil]; exact hrow) (gb_refl _ _)
  | some ad =>
    have hc1 : ∀ j z, (ys.map (Value.int .i64))[j]? = some z → w.cell? (ad.add j) = some z := by
      intro j v hj
      rw [List.getElem?_map] at hj
      obtain ⟨z, hz, rfl⟩ := Option.map_eq_some_iff.1 hj
      have hjl := (List.getElem?_eq_some_iff.1 hz).1
      have := hr.cell j hjl
      rw [hz] at this
      have e := hr.at_ (by omega)
      injection e with e
      subst e
      rw [show (⟨pb, po, none⟩ : Addr).add j = ⟨pb, po + j, none⟩ by unfold Addr.add; split <;> simp_all]
      exact this
    refine wp_append_own w s x 22 ho base 3 i0 (.int .i64 0) 1 8 under22b hi hz0 hz1 hz2 rfl (by decide) v xs.length (xs.map (Value.int .i64)) hs hrow ad ys.length cap (ys.map (Value.int .i64)) hx (by simp) hc1 (by intro v hv; obtain ⟨z, _, rfl⟩ := List.mem_map.1 hv; rfl) (by unfold maxLen; omega) (by omega) hbase ?_
    intro v' w' h1 h2 _
    refine h v' w' ?_ h2
    unfold Row
    rw [List.length_append, List.map_append]; exact h1

/-- What Conj answers conjugates one word to the other. -/
theorem conj_right_word {v w a1 a2 c c2 : List Int} {n : Nat} (h1 : IsCore (red v) c a1) (h2 : IsCore (red w) c2 a2) (hn : n ≤ c.length) (ht : c.drop n ++ c.take n = c2) :
    red (wi (red (a1 ++ (c.take n ++ wi a2))) ++ (v ++ red (a1 ++ (c.take n ++ wi a2)))) = red w := by
  have hv : Eqv v (a1 ++ (c ++ wi a1)) := by rw [← h1.eq]; exact (eqv_red v).symm
  have hw : Eqv (a2 ++ (c2 ++ wi a2)) w := by rw [← h2.eq]; exact eqv_red w
  have hc : c = c.take n ++ c.drop n := (List.take_append_drop n c).symm
  generalize c.take n = p at *
  generalize c.drop n = q at *
  subst hc
  subst ht
  have hx : Eqv (red (a1 ++ (p ++ wi a2))) (a1 ++ (p ++ wi a2)) := eqv_red _
  refine Eqv.trans (hx.wi.app (hv.app hx)) ?_
  rw [wi_append, wi_append, wi_wi]
  have e1 : Eqv (wi a1 ++ (a1 ++ (p ++ (q ++ (wi a1 ++ (a1 ++ (p ++ wi a2))))))) (p ++ (q ++ (wi a1 ++ (a1 ++ (p ++ wi a2))))) := can1 a1 _
  have e2 : Eqv (wi a1 ++ (a1 ++ (p ++ wi a2))) (p ++ wi a2) := can1 a1 _
  have e3 : Eqv (wi a1 ++ (a1 ++ (p ++ (q ++ (wi a1 ++ (a1 ++ (p ++ wi a2))))))) (p ++ (q ++ (p ++ wi a2))) := e1.trans ((e2.left q).left p)
  have e4 : Eqv (wi p ++ (p ++ (q ++ (p ++ wi a2)))) (q ++ (p ++ wi a2)) := can1 p _
  have e5 := ((e3.left (wi p)).trans e4).left a2
  refine Eqv.trans ?_ (Eqv.trans e5 ?_)
  · simpa using Eqv.refl _
  · have := hw
    simpa using this
/-- Is there a turn? As the law's loop finds it. -/
def Fnd (c d : List Int) : Prop := ∃ n, n ≤ c.length ∧ c.drop n ++ c.take n = d
structure TI (c d : List Int) (k : Nat) (ok : Bool) : Prop where
  yes : ok = true → Fnd c d
  no : ok = false → (∀ j, j < k → c.drop j ++ c.take j ≠ d) ∧ ¬ (c = [] ∧ d = [])
theorem TI.start {c d : List Int} {b : Bool} (h : b = decide (c = [] ∧ d = [])) : TI c d 0 b := by
  subst h
  refine ⟨fun h => ?_, fun h => ⟨fun j hj => by omega, of_decide_eq_false h⟩⟩
  obtain ⟨h1, h2⟩ := of_decide_eq_true h
  exact ⟨0, Nat.zero_le _, by rw [h1, h2]; rfl⟩
theorem TI.next {c d : List Int} {k : Nat} (h : TI c d k false) (hk : k < c.length) (b : Bool) (hb : b = decide (c.drop k ++ c.take k = d)) : TI c d (k + 1) b := by
  subst hb
  refine ⟨fun h1 => ⟨k, by omega, of_decide_eq_true h1⟩, fun h1 => ⟨fun j hj => ?_, (h.no rfl).2⟩⟩
  by_cases e : j = k
  · rw [e]; exact of_decide_eq_false h1
  · exact (h.no rfl).1 j (by omega)
theorem TI.done {c d : List Int} {k : Nat} {b : Bool} (h : TI c d k b) (hd : ¬ (k < c.length ∧ c.length = d.length ∧ b = false)) : b = true ↔ Fnd c d := by
  refine ⟨h.yes, fun hf => ?_⟩
  cases b with
  | true => rfl
  | false =>
    exfalso
    obtain ⟨n, hn, he⟩ := hf
    have hl : c.length = d.length := by rw [← he]; simp; omega
    obtain ⟨h1, h2⟩ := h.no rfl
    have hk : c.length ≤ k := by
      false_or_by_contra
      exact hd ⟨by omega, hl, rfl⟩
    rcases Nat.eq_zero_or_pos c.length with h0 | h0
    · exact h2 ⟨List.length_eq_zero_iff.1 h0, List.length_eq_zero_iff.1 (by omega)⟩
    · by_cases e : n = c.length
      · refine h1 0 (by omega) ?_
        rw [e] at he
        simpa using he
      · exact h1 n (by omega) he

set_option maxRecDepth 100000 in
set_option maxHeartbeats 4000000 in
theorem cj_long1 (v : Value) (u : Value) (vs : List Int) (us : List Int) (w : World) (hv : SlA w v vs) (hu : SlA w u us) (hl : 5000 < vs.length) (hb1 : vs.length ≤ 17592186044416) :
    Calls Try.prog 5 #[v, u] w fun e w' => e = .returned (.bool true) ∧ Below w.heap.size w w' := by
  have hl1 : (5000 : Int) < (vs.length : Int) := by omega
  obtain ⟨va, vc, hve⟩ := hv.shape
  obtain ⟨ua, uc, hue⟩ := hu.shape
  subst hve hue
  have HV := hide hv
  have HU := hide hu
  clear hv hu
  go_enter Try.func5, Try.ntmps5
  go_wp2_with fail
  refine (freeBegun_any w).mono ?_
  rintro x w1 ⟨rfl, hB, h01⟩
  have hge := hB.size
  have hsv := HV.out.up hB h01
  have hsu := HU.out.up hB h01
  clear HV HU
  go_wp2
  go_ret
  exact ⟨rfl, hB⟩

set_option maxRecDepth 100000 in
set_option maxHeartbeats 4000000 in
theorem cj_long2 (v : Value) (u : Value) (vs : List Int) (us : List Int) (w : World) (hv : SlA w v vs) (hu : SlA w u us) (h0 : vs.length ≤ 5000) (hl : 5000 < us.length) (hb2 : us.length ≤ 17592186044416) :
    Calls Try.prog 5 #[v, u] w fun e w' => e = .returned (.bool true) ∧ Below w.heap.size w w' := by
  have hl0 : ¬ ((5000 : Int) < (vs.length : Int)) := by omega
  have hl1 : (5000 : Int) < (us.length : Int) := by omega
  obtain ⟨va, vc, hve⟩ := hv.shape
  obtain ⟨ua, uc, hue⟩ := hu.shape
  subst hve hue
  have HV := hide hv
  have HU := hide hu
  clear hv hu
  go_enter Try.func5, Try.ntmps5
  go_wp2_with fail
  refine (freeBegun_any w).mono ?_
  rintro x w1 ⟨rfl, hB, h01⟩
  have hge := hB.size
  have hsv := HV.out.up hB h01
  have hsu := HU.out.up hB h01
  clear HV HU
  go_wp2
  go_ret
  exact ⟨rfl, hB⟩

set_option maxRecDepth 100000 in
set_option maxHeartbeats 4000000 in
theorem cj_bad (v : Value) (u : Value) (vs : List Int) (us : List Int) (w : World) (hv : SlA w v vs) (hu : SlA w u us) (h0 : vs.length ≤ 5000) (hl : us.length ≤ 5000) (h : wsc [vs, us] ≠ 0) :
    Calls Try.prog 5 #[v, u] w fun e w' => e = .returned (.bool true) ∧ Below w.heap.size w w' := by
  have hl0 : ¬ ((5000 : Int) < (vs.length : Int)) := by omega
  have hl1 : ¬ ((5000 : Int) < (us.length : Int)) := by omega
  obtain ⟨va, vc, hve⟩ := hv.shape
  obtain ⟨ua, uc, hue⟩ := hu.shape
  subst hve hue
  have HV := hide hv
  have HU := hide hu
  clear hv hu
  go_enter Try.func5, Try.ntmps5
  go_wp2_with fail
  refine (freeBegun_any w).mono ?_
  rintro x w1 ⟨rfl, hB, h01⟩
  have hge := hB.size
  have hsv := HV.out.up hB h01
  have hsu := HU.out.up hB h01
  clear HV HU
  go_wp2_with fail
  refine (own_row _ vs w1 hsv (by omega)).mono ?_
  rintro x w2 ⟨r, rfl, hr, hb2⟩
  replace hsv := hsv.below hb2
  replace hsu := hsu.below hb2
  replace hB := bcat hB hb2 hge
  replace hge := hB.size
  have h0r : 0 < w2.heap.size := hsv.pos
  have hsr := hr.sl h0r
  obtain ⟨r1, r2, rfl⟩ := hr.slice
  clear hr
  go_wp2_with fail
  refine (own_row _ us _ hsu (by omega)).mono ?_
  rintro x w4 ⟨s, rfl, hs, hb4⟩
  replace hsv := hsv.below hb4
  replace hsu := hsu.below hb4
  replace hsr := hsr.below hb4
  replace hB := bcat hB hb4 hge
  replace hge := hB.size
  have h0s : 0 < w4.heap.size := hsv.pos
  have hss := hs.sl h0s
  obtain ⟨s1, s2, rfl⟩ := hs.slice
  clear hs
  go_wp2_with fail
  refine (conj_bad _ _ vs us _ hsr hss h).mono ?_
  rintro x w6 ⟨rfl, hb6⟩
  replace hsv := hsv.below hb6
  replace hsu := hsu.below hb6
  replace hsr := hsr.below hb6
  replace hss := hss.below hb6
  replace hB := bcat hB hb6 hge
  replace hge := hB.size
  have hcb : (wsc [vs, us] != 0) = true := by simpa using h
  have hcb2 : (wsc [vs, us] == 0) = false := by simpa using h
  have HWF := hide (fun W (h1 : Sl W (.slice va vs.length vc) vs) (h2 : Sl W (.slice ua us.length uc) us) => wsfault_any _ _ vs us W h1 h2)
  generalize wsc [vs, us] = c at *
  generalize wsa [vs, us] = d at *
  have hb7 : Below w6.heap.size w6 (w6.alloc (.cells #[.int .i64 c, .int .i64 d] 26)) := balloc w6 _
  replace hsv := hsv.below hb7
  replace hsu := hsu.below hb7
  replace hsr := hsr.below hb7
  replace hss := hss.below hb7
  replace hB := bcat hB hb7 hge
  replace hge := hB.size
  have bx : Blk (w6.alloc (.cells #[.int .i64 c, .int .i64 d] 26)) w6.heap.size 26 [.int .i64 c, .int .i64 d] := blk0 _ _
  obtain ⟨bx8a, bx8b, bx8c, bx8d⟩ := bx.two
  go_wp2_with fail
  clear bx8a bx8b bx8c bx8d
  refine (HWF.out _ hsv hsu).mono ?_
  rintro x w9 ⟨rfl, hb9⟩
  replace hsv := hsv.below hb9
  replace hsu := hsu.below hb9
  replace hsr := hsr.below hb9
  replace hss := hss.below hb9
  replace bx : Blk (w9) w6.heap.size 26 [.int .i64 c, .int .i64 d] := Blk.of_eq bx (hb9.block _ bx.lt)
  replace hB := bcat hB hb9 hge
  replace hge := hB.size
  have hb10 : Below w9.heap.size w9 (w9.alloc (.cells #[.int .i64 c, .int .i64 d] 26)) := balloc w9 _
  replace hsv := hsv.below hb10
  replace hsu := hsu.below hb10
  replace hsr := hsr.below hb10
  replace hss := hss.below hb10
  replace bx : Blk (w9.alloc (.cells #[.int .i64 c, .int .i64 d] 26)) w6.heap.size 26 [.int .i64 c, .int .i64 d] := Blk.of_eq bx (hb10.block _ bx.lt)
  replace hB := bcat hB hb10 hge
  replace hge := hB.size
  have bq : Blk (w9.alloc (.cells #[.int .i64 c, .int .i64 d] 26)) w9.heap.size 26 [.int .i64 c, .int .i64 d] := blk0 _ _
  obtain ⟨bx11a, bx11b, bx11c, bx11d⟩ := bx.two
  obtain ⟨bq11a, bq11b, bq11c, bq11d⟩ := bq.two
  go_wp2
  clear bx11a bx11b bx11c bx11d bq11a bq11b bq11c bq11d
  go_ret
  exact ⟨rfl, hB⟩

set_option maxRecDepth 100000 in
set_option maxHeartbeats 4000000 in
theorem cj_good (v : Value) (u : Value) (vs : List Int) (us : List Int) (w : World) (hv : SlA w v vs) (hu : SlA w u us) (h0 : vs.length ≤ 5000) (hl : us.length ≤ 5000) (h : wsc [vs, us] = 0) :
    Calls Try.prog 5 #[v, u] w fun e w' => e = .returned (.bool true) ∧ Below w.heap.size w w' := by
  have hl0 : ¬ ((5000 : Int) < (vs.length : Int)) := by omega
  have hl1 : ¬ ((5000 : Int) < (us.length : Int)) := by omega
  have HWV := hide (wsc_all h vs (by simp))
  have HWU := hide (wsc_all h us (by simp))
  have HC1 := hide (wsc_zero (ws := [vs, us]) (by intro y hy; simp at hy; rcases hy with hy | hy <;> rw [hy]; exact HWV.out; exact HWU.out))
  clear h
  obtain ⟨va, vc, hve⟩ := hv.shape
  obtain ⟨ua, uc, hue⟩ := hu.shape
  subst hve hue
  have HV := hide hv
  have HU := hide hu
  clear hv hu
  go_enter Try.func5, Try.ntmps5
  go_wp2_with fail
  refine (freeBegun_any w).mono ?_
  rintro x w1 ⟨rfl, hB, h01⟩
  have hge := hB.size
  have hsv := HV.out.up hB h01
  have hsu := HU.out.up hB h01
  clear HV HU
  go_wp2_with fail
  refine (own_row _ vs w1 hsv (by omega)).mono ?_
  rintro x w2 ⟨r, rfl, hr, hb2⟩
  replace hsv := hsv.below hb2
  replace hsu := hsu.below hb2
  replace hB := bcat hB hb2 hge
  replace hge := hB.size
  have h0r : 0 < w2.heap.size := hsv.pos
  have hsr := hr.sl h0r
  obtain ⟨r1, r2, rfl⟩ := hr.slice
  clear hr
  go_wp2_with fail
  refine (own_row _ us _ hsu (by omega)).mono ?_
  rintro x w4 ⟨s, rfl, hs, hb4⟩
  replace hsv := hsv.below hb4
  replace hsu := hsu.below hb4
  replace hsr := hsr.below hb4
  replace hB := bcat hB hb4 hge
  replace hge := hB.size
  have h0s : 0 < w4.heap.size := hsv.pos
  have hss := hs.sl h0s
  obtain ⟨s1, s2, rfl⟩ := hs.slice
  clear hs
  go_wp2_with fail
  refine (conj_good _ _ vs us _ hsr hss HWV.out HWU.out).mono ?_
  rintro x w6 ⟨⟨r9, c, a, c2, a2, n, rfl, hr9, hcore, hcore2, hn, hln, htn⟩ | ⟨c, a, c2, a2, rfl, hcore, hcore2, hno⟩, hb6⟩
  · replace hsv := hsv.below hb6
    replace hsu := hsu.below hb6
    replace hsr := hsr.below hb6
    replace hss := hss.below hb6
    replace hB := bcat hB hb6 hge
    replace hge := hB.size
    have hrlv := red_len vs
    have hrlu := red_len us
    have hcl := core_len hcore
    have hcl2 := core_len hcore2
    have hbnd : c.length ≤ 2000 ∧ c2.length ≤ 2000 ∧ a.length ≤ 2000 ∧ a2.length ≤ 2000 := by have := HWV.out.len; have := HWU.out.len; omega
    obtain ⟨hbn1, hbn2, hbn3, hbn4⟩ := hbnd
    have HCO := hide hcore
    have HCO2 := hide hcore2
    have HF := hide (show Fnd c c2 from ⟨n, hn, htn⟩)
    have HX := hide (conj_right_word hcore hcore2 hn htn)
    obtain ⟨hlc, hla⟩ := core_lt hcore HWV.out.lt.red
    obtain ⟨hlc2, hla2⟩ := core_lt hcore2 HWU.out.lt.red
    have hXl : Lt (red (a ++ (c.take n ++ wi a2))) := (hla.append ((show Lt (c.take n) from fun x hx => hlc x (List.mem_of_mem_take hx)).append hla2.wi)).red
    have hXn : (red (a ++ (c.take n ++ wi a2))).length ≤ 10000 := by
      have h9 := red_len (a ++ (c.take n ++ wi a2))
      have h8 : (c.take n).length ≤ c.length := (by rw [List.length_take]; omega)
      simp only [List.length_append, wi_length] at h9
      omega
    have HXI := hide (red_idem (a ++ (c.take n ++ wi a2)))
    generalize red (a ++ (c.take n ++ wi a2)) = X at *
    have HXL := hide hXl
    clear hlc hla hlc2 hla2 hn hln htn hXl
    have h0x : 0 < w6.heap.size := hsv.pos
    have hsx := hr9.sl h0x
    obtain ⟨x1, x2, rfl⟩ := hr9.slice
    clear hr9
    have hb7 : Below w6.heap.size w6 (w6.alloc (.cells #[.int .i64 0, .int .i64 0] 26)) := balloc w6 _
    replace hsv := hsv.below hb7
    replace hsu := hsu.below hb7
    replace hsr := hsr.below hb7
    replace hss := hss.below hb7
    replace hsx := hsx.below hb7
    replace hB := bcat hB hb7 hge
    replace hge := hB.size
    have bx : Two (w6.alloc (.cells #[.int .i64 0, .int .i64 0] 26)) w6.heap.size := Two.new w6
    clear hcore hcore2 hcl hcl2 hrlv hrlu
    obtain ⟨_, bx8a, bx8b, bx8c, bx8d, bx8e, bx8f⟩ := id bx
    go_wp2_with fail
    clear bx8a bx8b bx8c bx8d bx8e bx8f
    refine (wsfault_any _ _ vs us _ hsv hsu).mono ?_
    rintro x w9 ⟨rfl, hb9⟩
    replace hsv := hsv.below hb9
    replace hsu := hsu.below hb9
    replace hsr := hsr.below hb9
    replace hss := hss.below hb9
    replace hsx := hsx.below hb9
    replace bx := Two.below bx hb9
    replace hB := bcat hB hb9 hge
    replace hge := hB.size
    rw [HC1.out.1, HC1.out.2]
    have HGB := hide hge
    have HLX := hide bx.blk.lt
    have hb10 : Below w9.heap.size w9 (w9.alloc (.cells #[.int .i64 0, .int .i64 0] 26)) := balloc w9 _
    replace hsv := hsv.below hb10
    replace hsu := hsu.below hb10
    replace hsr := hsr.below hb10
    replace hss := hss.below hb10
    replace hsx := hsx.below hb10
    replace bx := Two.below bx hb10
    replace hB := bcat hB hb10 hge
    replace hge := hB.size
    have bq : Two (w9.alloc (.cells #[.int .i64 0, .int .i64 0] 26)) w9.heap.size := Two.new w9
    obtain ⟨_, bx11a, bx11b, bx11c, bx11d, bx11e, bx11f⟩ := id bx
    obtain ⟨_, bq11a, bq11b, bq11c, bq11d, bq11e, bq11f⟩ := id bq
    go_wp2_with fail
    clear bx11a bx11b bx11c bx11d bx11e bx11f bq11a bq11b bq11c bq11d bq11e bq11f
    refine (cored_ok _ vs _ hsv HWV.out.lt (by omega)).mono ?_
    rintro x w12 ⟨u1, u2, d, b, rfl, hs1, hs2, hcore, hb12⟩
    replace hsv := hsv.below hb12
    replace hsu := hsu.below hb12
    replace hsr := hsr.below hb12
    replace hss := hss.below hb12
    replace hsx := hsx.below hb12
    replace bx := Two.below bx hb12
    replace bq := Two.below bq hb12
    replace hB := bcat hB hb12 hge
    replace hge := hB.size
    obtain ⟨e1, e2⟩ := core_unique HCO.out hcore
    subst e1
    clear e2 hcore hs2
    obtain ⟨u1a, u1c, _, _, hu1e, _⟩ := id hs1
    subst hu1e
    obtain ⟨_, bx13a, bx13b, bx13c, bx13d, bx13e, bx13f⟩ := id bx
    obtain ⟨_, bq13a, bq13b, bq13c, bq13d, bq13e, bq13f⟩ := id bq
    go_wp2_with fail
    clear bx13a bx13b bx13c bx13d bx13e bx13f bq13a bq13b bq13c bq13d bq13e bq13f
    refine (cored_ok _ us _ hsu HWU.out.lt (by omega)).mono ?_
    rintro x w14 ⟨u3, u4, d, b, rfl, hs3, hs4, hcore, hb14⟩
    replace hsv := hsv.below hb14
    replace hsu := hsu.below hb14
    replace hsr := hsr.below hb14
    replace hss := hss.below hb14
    replace hsx := hsx.below hb14
    replace hs1 := hs1.below hb14
    replace bx := Two.below bx hb14
    replace bq := Two.below bq hb14
    replace hB := bcat hB hb14 hge
    replace hge := hB.size
    obtain ⟨e1, e2⟩ := core_unique HCO2.out hcore
    subst e1
    clear e2 hcore hs4
    obtain ⟨u3a, u3c, _, _, hu3e, _⟩ := id hs3
    subst hu3e
    have hcap : c.length ≤ u1c ∧ u1c ≤ maxLen := by
      obtain ⟨a9, cap9, pb, po, hve, hr9, hp9, hcap9, hcm9⟩ := id hs1
      injection hve with e1 _ e2
      subst e1 e2
      exact ⟨hcap9, hcm9⟩
    obtain ⟨hcap1, hcap2⟩ := hcap
    have hcap2' := hcap2
    unfold maxLen at hcap2
    have HSV := hide hsv
    have HSU := hide hsu
    have HS1 := hide hs1
    have HS3 := hide hs3
    have HBB := hide hB
    have HBX := hide bx
    have HBQ := hide bq
    have HSX := hide hsx
    clear hsx
    clear hsv hsu hsr hss hs1 hs3 hB bx bq
    by_cases hc0 : c = []
    · have h2 : c2 = [] := by obtain ⟨m, hm, he⟩ := HF.out; rw [hc0] at he; simpa using he.symm
      subst hc0
      subst h2
      go_wp2_with fail
      go_loopw [12, 13] (fun o i wr => i = .int .i64 0 ∧ o = .bool true ∧ wr = w14) (fun _ _ _ => 0)
      case atStart => exact ⟨rfl, rfl, rfl⟩
      case round =>
        obtain ⟨rfl, rfl, hwr⟩ := hrel
        have hBr : Below w14.heap.size w14 wr := by rw [hwr]; exact Below.refl _ _
        clear hwr
        have hBf := bcat HBB.out hBr HBB.out.size
        have hge := hBf.size
        have hsx := HSX.out.below hBr
        have hsv := HSV.out.below hBr
        have hsu := HSU.out.below hBr
        obtain ⟨_, x0, x1, x2, x3, x4, x5⟩ := Two.below HBX.out hBr
        obtain ⟨_, q0, q1, q2, q3, q4, q5⟩ := Two.below HBQ.out hBr
        have HXS := hide hsx
        obtain ⟨xa, xc, xb, xo, hxe, hxr, hxp, hxcc, hxm⟩ := hsx
        injection hxe with e1 _ e2
        subst e1 e2
        unfold maxLen at hxm
        have HXR := hide hxr
        clear hxr
        go_wp2_with fail
        go_loopw [14] (fun i wq => ∃ j : Nat, j ≤ X.length ∧ i = .int .i64 j ∧ wq = wr) (fun i _ => X.length - (intOf i).toNat)
        case atStart => exact ⟨0, Nat.zero_le _, rfl, rfl⟩
        case round =>
          clear x0 x1 x2 x3 x4 x5 q0 q1 q2 q3 q4 q5
          obtain ⟨j, hj, rfl, hwq⟩ := hrel
          subst hwq
          by_cases hjl : j < X.length
          · have hat := HXR.out.at_ (by omega)
            have hcx := HXR.out.cell j hjl
            obtain ⟨b1, b2, b3⟩ := bad_parts (HXL.out.at hjl)
            obtain ⟨y, hy⟩ : ∃ y, X[j]?.getD 0 = y := ⟨_, rfl⟩
            rw [hy] at hcx b1 b2 b3
            subst hat
            have hjx : (j : Int) < (X.length : Int) := by omega
            clear hy
            go_wp2
            go_roundw
            case rel => exact ⟨j + 1, by omega, by go_num, by trivial⟩
            case measure => simp [intOf]; omega
          · have hjx : ¬ ((j : Int) < (X.length : Int)) := by omega
            have hsx := HXS.out
            go_wp2_with fail
            refine (reduced_ok _ X _ hsx HXL.out (by omega)).mono ?_
            rintro x w72 ⟨ry, rfl, hry, hb72⟩
            replace hsx := hsx.below hb72
            replace hsv := hsv.below hb72
            replace hsu := hsu.below hb72
            replace hBf := bcat hBf hb72 hge
            replace hge := hBf.size
            have h0y : 0 < w72.heap.size := hsx.pos
            have hsy := hry.sl h0y
            obtain ⟨y1, y2, rfl⟩ := hry.slice
            clear hry
            go_wp2_with fail
            refine (ints_true _ _ _ _ _ hsy hsx HXI.out).mono ?_
            rintro x w74 ⟨rfl, hb74⟩
            replace hsx := hsx.below hb74
            replace hsv := hsv.below hb74
            replace hsu := hsu.below hb74
            replace hsy := hsy.below hb74
            replace hBf := bcat hBf hb74 hge
            replace hge := hBf.size
            go_wp2_with fail
            refine (turned_ok _ X _ hsx HXL.out (by omega)).mono ?_
            rintro x w76 ⟨rt, rfl, hrt, hb76⟩
            replace hsx := hsx.below hb76
            replace hsv := hsv.below hb76
            replace hsu := hsu.below hb76
            replace hsy := hsy.below hb76
            replace hBf := bcat hBf hb76 hge
            replace hge := hBf.size
            have h0t : 0 < w76.heap.size := hsx.pos
            have hst := hrt.sl h0t
            obtain ⟨t1, t2, rfl⟩ := hrt.slice
            clear hrt
            go_wp2_with fail
            refine (behind3 _ rfl hst hsv hsx HXL.out.wi HWV.out.lt HXL.out (by have h9 := wi_length X; have := HWV.out.len; omega)).mono ?_
            rintro x w78 ⟨rw, rfl, hrw, hb78⟩
            replace hsx := hsx.below hb78
            replace hsv := hsv.below hb78
            replace hsu := hsu.below hb78
            replace hsy := hsy.below hb78
            replace hst := hst.below hb78
            replace hBf := bcat hBf hb78 hge
            replace hge := hBf.size
            have h0z : 0 < w78.heap.size := hsx.pos
            have hsz := hrw.sl h0z
            obtain ⟨z1, z2, rfl⟩ := hrw.slice
            clear hrw
            go_wp2_with fail
            refine (reduced_ok _ us _ hsu HWU.out.lt (by omega)).mono ?_
            rintro x w80 ⟨rp, rfl, hrp, hb80⟩
            replace hsx := hsx.below hb80
            replace hsv := hsv.below hb80
            replace hsu := hsu.below hb80
            replace hsy := hsy.below hb80
            replace hst := hst.below hb80
            replace hsz := hsz.below hb80
            replace hBf := bcat hBf hb80 hge
            replace hge := hBf.size
            have h0p : 0 < w80.heap.size := hsx.pos
            have hsp := hrp.sl h0p
            obtain ⟨p1, p2, rfl⟩ := hrp.slice
            clear hrp
            go_wp2_with fail
            refine (ints_true _ _ _ _ _ hsz hsp HX.out).mono ?_
            rintro x w82 ⟨rfl, hb82⟩
            replace hsx := hsx.below hb82
            replace hsv := hsv.below hb82
            replace hsu := hsu.below hb82
            replace hsy := hsy.below hb82
            replace hst := hst.below hb82
            replace hsz := hsz.below hb82
            replace hsp := hsp.below hb82
            replace hBf := bcat hBf hb82 hge
            replace hge := hBf.size
            go_wp2
            go_ret
            exact ⟨rfl, hBf⟩
    · have hg0 : (((c.length : Nat) : Int) == 0) = false := by simp; exact hc0
      have HT0 := hide (show TI c c2 0 false from ⟨(fun h => by cases h), fun _ => ⟨(fun j hj => by omega), fun h => hc0 h.1⟩⟩)
      have hcpos : 0 < c.length := List.length_pos_iff.2 hc0
      clear hc0
      go_wp2_with fail
      go_loopw [12, 13] (fun o i wr => ∃ (k : Nat) (ok : Bool), k ≤ c.length ∧ i = .int .i64 k ∧ o = .bool ok ∧ TI c c2 k ok ∧ Below w14.heap.size w14 wr) (fun _ i _ => c.length - (intOf i).toNat)
      case atStart => exact ⟨0, false, Nat.zero_le _, rfl, rfl, HT0.out, Below.refl _ _⟩
      case round =>
        obtain ⟨k, ok, hk, rfl, rfl, hti, hBr⟩ := hrel
        have HTI := hide hti
        have hdone := hti.done
        clear hti
        by_cases hst : k < c.length ∧ c.length = c2.length ∧ ok = false
        · obtain ⟨hkl, hll, rfl⟩ := hst
          clear hdone
          have hki : (k : Int) < (c.length : Int) := by omega
          have hlb : ((c.length : Int) == (c2.length : Int)) = true := by simp [hll]
          have HLL := hide hll
          have hcut : ¬ u1c = k := by omega
          have hk1 : (k : Int) ≤ (u1c : Int) := by omega
          have hk2 : (c.length : Int) ≤ (u1c : Int) := by omega
          obtain ⟨a9, cap9, pb, po, hve, hr9, hp9, hcap9, hcm9⟩ := (HS1.out.below hBr).drewN 1
          injection hve with e1 _ e2
          subst e1 e2
          have hat := hr9.at_ (by omega)
          subst hat
          have hpk1 : Sl wr.drew (.slice (some ⟨pb, po + k, none⟩) (c.length - k) (u1c - k)) (c.drop k) := by
            have h5 := Sl.piece (i := k) (m := c.length - k) (c := u1c - k) (b := some ⟨pb, po + k, none⟩) hr9 hp9 (by omega) (fun _ => rfl) (by omega) (by unfold maxLen; omega)
            rwa [List.take_of_length_le (by rw [List.length_drop]; omega)] at h5
          have hpk2 : Sl wr.drew (.slice (some ⟨pb, po, none⟩) k u1c) (c.take k) := by
            have h5 := Sl.piece (i := 0) (m := k) (c := u1c) (b := some ⟨pb, po, none⟩) hr9 hp9 (by omega) (fun _ => rfl) (by omega) hcap2'
            rwa [List.drop_zero] at h5
          have hs3d := (HS3.out.below hBr).drewN 1
          have hs3d : Sl wr.drew (.slice u3a c2.length u3c) c2 := hs3d
          have hBd := bdrew hBr
          have hged := hBd.size
          obtain ⟨P, hP⟩ : ∃ P, c.drop k = P := ⟨_, rfl⟩
          obtain ⟨T, hT⟩ : ∃ T, c.take k = T := ⟨_, rfl⟩
          obtain ⟨Q, hQ⟩ : ∃ Q, P ++ T = Q := ⟨_, rfl⟩
          have HTN := hide (fun b (hb : b = decide (Q = c2)) => HTI.out.next hkl b (by rw [hP, hT, hQ]; exact hb))
          have hPl : P.length ≤ 2000 := by rw [← hP, List.length_drop]; omega
          have hTl : T.length ≤ 2000 := by rw [← hT, List.length_take]; omega
          rw [hP] at hpk1
          rw [hT] at hpk2
          have HQ := hide hQ
          clear hP hT hQ
          clear hll hr9 hp9 hcap9 hcm9
          go_wp2_with fail
          refine wp_region_held_drew (S := fun W => Below w14.heap.size w14 W) (by kernel_rfl) hBd (fun hHeld => ?_)
          generalize wr.drew = wd at *
          refine wpAnyH_take (i := 0) (oi := ({ dst := some 74, op := Go.Op.move (Go.Operand.tmp 8), type := 22, pos := _, after := _, guard := none } : Oper)) (v := ?_) rfl (by kernel_rfl) (by kernel_rfl) (by kernel_rfl) (fun _ _ _ h => h) (Or.inl ⟨by rfl, ?_⟩) (by assumption) ?_
          rotate_left
          · (intro w hSw; (try dsimp only at hSw); go_simp; try with_reducible rfl)
          simp only [Act.put, List.setIfInBounds_toArray, List.set_cons_zero, List.set_cons_succ]
          refine wpAnyH_take (i := 1) (oi := ({ dst := some 75, op := Go.Op.move (Go.Operand.tmp 13), type := 3, pos := _, after := _, guard := none } : Oper)) (v := ?_) rfl (by kernel_rfl) (by kernel_rfl) (by kernel_rfl) (fun _ _ _ h => h) (Or.inl ⟨by rfl, ?_⟩) (by assumption) ?_
          rotate_left
          · (intro w hSw; (try dsimp only at hSw); go_simp; try with_reducible rfl)
          simp only [Act.put, List.setIfInBounds_toArray, List.set_cons_zero, List.set_cons_succ]
          refine wpAnyH_take (i := 2) (oi := ({ dst := some 76, op := Go.Op.slice 22 (Go.Operand.tmp 74) (some (Go.Operand.tmp 75)) none none, type := 22, pos := _, after := _, guard := none } : Oper)) (v := ?_) rfl (by kernel_rfl) (by kernel_rfl) (by kernel_rfl) (fun _ _ _ h => h) (Or.inl ⟨by rfl, ?_⟩) (by assumption) ?_
          rotate_left
          · (intro w hSw; (try dsimp only at hSw); go_simp; try with_reducible rfl)
          simp only [Act.put, List.setIfInBounds_toArray, List.set_cons_zero, List.set_cons_succ]
          refine wpAnyH_take (i := 4) (oi := ({ dst := some 78, op := Go.Op.move (Go.Operand.tmp 8), type := 22, pos := _, after := _, guard := none } : Oper)) (v := ?_) rfl (by kernel_rfl) (by kernel_rfl) (by kernel_rfl) (fun _ _ _ h => h) (Or.inl ⟨by rfl, ?_⟩) (by assumption) ?_
          rotate_left
          · (intro w hSw; (try dsimp only at hSw); go_simp; try with_reducible rfl)
          simp only [Act.put, List.setIfInBounds_toArray, List.set_cons_zero, List.set_cons_succ]
          refine wpAnyH_take (i := 5) (oi := ({ dst := some 79, op := Go.Op.move (Go.Operand.tmp 13), type := 3, pos := _, after := _, guard := none } : Oper)) (v := ?_) rfl (by kernel_rfl) (by kernel_rfl) (by kernel_rfl) (fun _ _ _ h => h) (Or.inl ⟨by rfl, ?_⟩) (by assumption) ?_
          rotate_left
          · (intro w hSw; (try dsimp only at hSw); go_simp; try with_reducible rfl)
          simp only [Act.put, List.setIfInBounds_toArray, List.set_cons_zero, List.set_cons_succ]
          refine wpAnyH_take (i := 6) (oi := ({ dst := some 80, op := Go.Op.slice 22 (Go.Operand.tmp 78) none (some (Go.Operand.tmp 79)) none, type := 22, pos := _, after := _, guard := none } : Oper)) (v := ?_) rfl (by kernel_rfl) (by kernel_rfl) (by kernel_rfl) (fun _ _ _ h => h) (Or.inl ⟨by rfl, ?_⟩) (by assumption) ?_
          rotate_left
          · (intro w hSw; (try dsimp only at hSw); go_simp; try with_reducible rfl)
          simp only [Act.put, List.setIfInBounds_toArray, List.set_cons_zero, List.set_cons_succ]
          refine wpAnyH_take (i := 8) (oi := ({ dst := some 82, op := Go.Op.move (Go.Operand.tmp 10), type := 22, pos := _, after := _, guard := none } : Oper)) (v := ?_) rfl (by kernel_rfl) (by kernel_rfl) (by kernel_rfl) (fun _ _ _ h => h) (Or.inl ⟨by rfl, ?_⟩) (by assumption) ?_
          rotate_left
          · (intro w hSw; (try dsimp only at hSw); go_simp; try with_reducible rfl)
          simp only [Act.put, List.setIfInBounds_toArray, List.set_cons_zero, List.set_cons_succ]
          refine wpAnyH_ready (rs := [3]) (by kernel_rfl) (by simp) (AllReadyH.cons (o := ({ dst := some 77, op := Go.Op.call { callee := Go.Callee.value (Go.Operand.func 12), args := #[Go.Operand.tmp 76], argTypes := #[22] }, type := 22, pos := _, after := _, guard := none } : Oper)) rfl (fun KK hK => ?_) AllReadyH.nil)
          go_simp
          refine (own_row _ P wd hpk1 (by omega)).mono ?_
          rintro x w8 ⟨ro, rfl, hro, hb8⟩
          have hB8 := bcat hBd hb8 hged
          have hge8 := hB8.size
          have hpk28 := hpk2.below hb8
          have hs38 := hs3d.below hb8
          obtain ⟨o1, o2, rfl⟩ := hro.slice
          try go_wp2_with fail
          refine hK.out _ _ hB8 (fun hHeld => ?_)
          clear hK
          try simp only [Act.put, List.setIfInBounds_toArray, List.set_cons_zero, List.set_cons_succ]
          refine wpAnyH_ready (rs := [7]) (by kernel_rfl) (by simp) (AllReadyH.cons (o := ({ dst := some 81, op := Go.Op.call { callee := Go.Callee.builtin Go.Builtin.append, args := #[Go.Operand.tmp 77, Go.Operand.tmp 80], argTypes := #[22, 22] }, type := 22, pos := _, after := _, guard := none } : Oper)) rfl (fun KK hK => ?_) AllReadyH.nil)
          rw [if_pos (by rfl)]
          refine wp_append_row _ _ rfl wd.heap.size (.slice o1 P.length o2) _ P T rfl hro rfl hpk28 (by omega) hb8.size ?_
          intro v9 w9 hro9 hgrow
          rw [HQ.out] at hro9
          have hb9 : Below wd.heap.size wd w9 := hb8.grown hgrow hb8.size (fun t e => owns_ge hro t e)
          have hB9 := bcat hBd hb9 hged
          have hge9' := hB9.size
          have hs39 := hs3d.below hb9
          have hsr9 := hro9.sl hs39.pos
          obtain ⟨o3, o4, rfl⟩ := hro9.slice
          refine hK.out _ _ hB9 (fun hHeld => ?_)
          clear hK
          try simp only [Act.put, List.setIfInBounds_toArray, List.set_cons_zero, List.set_cons_succ]
          refine wpAnyH_ready (rs := [9]) (by kernel_rfl) (by simp) (AllReadyH.cons (o := ({ dst := some 83, op := Go.Op.call { callee := Go.Callee.value (Go.Operand.func 20), args := #[Go.Operand.tmp 81, Go.Operand.tmp 82], argTypes := #[22, 22] }, type := 4, pos := _, after := _, guard := none } : Oper)) rfl (fun KK hK => ?_) AllReadyH.nil)
          go_simp
          refine (ints_any _ _ _ _ w9 hsr9 hs39).mono ?_
          rintro x wA ⟨rfl, hbA⟩
          have hBA := bcat hB9 hbA hge9'
          try go_wp2_with fail
          refine hK.out _ _ hBA (fun hHeld => ?_)
          clear hK
          try simp only [Act.put, List.setIfInBounds_toArray, List.set_cons_zero, List.set_cons_succ]
          refine wpAnyH_take (i := 10) (oi := ({ dst := some 12, op := Go.Op.assign (Go.Operand.tmp 83), type := 4, pos := _, after := _, guard := none } : Oper)) (v := ?_) rfl (by kernel_rfl) (by kernel_rfl) (by kernel_rfl) (fun _ _ _ h => h) (Or.inl ⟨by rfl, ?_⟩) (by assumption) ?_
          rotate_left
          · (intro w hSw; (try dsimp only at hSw); go_simp; try with_reducible rfl)
          simp only [Act.put, List.setIfInBounds_toArray, List.set_cons_zero, List.set_cons_succ]
          refine wpAnyH_done (by kernel_rfl) ?_ _
          go_wp2
          go_roundw
          case rel => exact ⟨k + 1, _, by omega, by go_num, rfl, HTN.out _ rfl, hBA⟩
          case measure => simp [intOf]; omega
        · have hok : ok = true := (hdone hst).2 HF.out
          subst hok
          have hlb : ((c.length : Int) == (c2.length : Int)) = true := by
            obtain ⟨m, hm, he⟩ := HF.out
            rw [← he]; simp; omega
          rcases Nat.lt_or_ge k c.length with hk8 | hk8
          · have hk9 : (k : Int) < (c.length : Int) := by omega
            have HK8 := hide hk8
            clear hk8
            clear hdone hst
            have hBf := bcat HBB.out hBr HBB.out.size
            have hge := hBf.size
            have hsx := HSX.out.below hBr
            have hsv := HSV.out.below hBr
            have hsu := HSU.out.below hBr
            obtain ⟨_, x0, x1, x2, x3, x4, x5⟩ := Two.below HBX.out hBr
            obtain ⟨_, q0, q1, q2, q3, q4, q5⟩ := Two.below HBQ.out hBr
            have HXS := hide hsx
            obtain ⟨xa, xc, xb, xo, hxe, hxr, hxp, hxcc, hxm⟩ := hsx
            injection hxe with e1 _ e2
            subst e1 e2
            unfold maxLen at hxm
            have HXR := hide hxr
            clear hxr
            go_wp2_with fail
            go_loopw [14] (fun i wq => ∃ j : Nat, j ≤ X.length ∧ i = .int .i64 j ∧ wq = wr) (fun i _ => X.length - (intOf i).toNat)
            case atStart => exact ⟨0, Nat.zero_le _, rfl, rfl⟩
            case round =>
              clear x0 x1 x2 x3 x4 x5 q0 q1 q2 q3 q4 q5
              obtain ⟨j, hj, rfl, hwq⟩ := hrel
              subst hwq
              by_cases hjl : j < X.length
              · have hat := HXR.out.at_ (by omega)
                have hcx := HXR.out.cell j hjl
                obtain ⟨b1, b2, b3⟩ := bad_parts (HXL.out.at hjl)
                obtain ⟨y, hy⟩ : ∃ y, X[j]?.getD 0 = y := ⟨_, rfl⟩
                rw [hy] at hcx b1 b2 b3
                subst hat
                have hjx : (j : Int) < (X.length : Int) := by omega
                clear hy
                go_wp2
                go_roundw
                case rel => exact ⟨j + 1, by omega, by go_num, by trivial⟩
                case measure => simp [intOf]; omega
              · have hjx : ¬ ((j : Int) < (X.length : Int)) := by omega
                have hsx := HXS.out
                go_wp2_with fail
                refine (reduced_ok _ X _ hsx HXL.out (by omega)).mono ?_
                rintro x w72 ⟨ry, rfl, hry, hb72⟩
                replace hsx := hsx.below hb72
                replace hsv := hsv.below hb72
                replace hsu := hsu.below hb72
                replace hBf := bcat hBf hb72 hge
                replace hge := hBf.size
                have h0y : 0 < w72.heap.size := hsx.pos
                have hsy := hry.sl h0y
                obtain ⟨y1, y2, rfl⟩ := hry.slice
                clear hry
                go_wp2_with fail
                refine (ints_true _ _ _ _ _ hsy hsx HXI.out).mono ?_
                rintro x w74 ⟨rfl, hb74⟩
                replace hsx := hsx.below hb74
                replace hsv := hsv.below hb74
                replace hsu := hsu.below hb74
                replace hsy := hsy.below hb74
                replace hBf := bcat hBf hb74 hge
                replace hge := hBf.size
                go_wp2_with fail
                refine (turned_ok _ X _ hsx HXL.out (by omega)).mono ?_
                rintro x w76 ⟨rt, rfl, hrt, hb76⟩
                replace hsx := hsx.below hb76
                replace hsv := hsv.below hb76
                replace hsu := hsu.below hb76
                replace hsy := hsy.below hb76
                replace hBf := bcat hBf hb76 hge
                replace hge := hBf.size
                have h0t : 0 < w76.heap.size := hsx.pos
                have hst := hrt.sl h0t
                obtain ⟨t1, t2, rfl⟩ := hrt.slice
                clear hrt
                go_wp2_with fail
                refine (behind3 _ rfl hst hsv hsx HXL.out.wi HWV.out.lt HXL.out (by have h9 := wi_length X; have := HWV.out.len; omega)).mono ?_
                rintro x w78 ⟨rw, rfl, hrw, hb78⟩
                replace hsx := hsx.below hb78
                replace hsv := hsv.below hb78
                replace hsu := hsu.below hb78
                replace hsy := hsy.below hb78
                replace hst := hst.below hb78
                replace hBf := bcat hBf hb78 hge
                replace hge := hBf.size
                have h0z : 0 < w78.heap.size := hsx.pos
                have hsz := hrw.sl h0z
                obtain ⟨z1, z2, rfl⟩ := hrw.slice
                clear hrw
                go_wp2_with fail
                refine (reduced_ok _ us _ hsu HWU.out.lt (by omega)).mono ?_
                rintro x w80 ⟨rp, rfl, hrp, hb80⟩
                replace hsx := hsx.below hb80
                replace hsv := hsv.below hb80
                replace hsu := hsu.below hb80
                replace hsy := hsy.below hb80
                replace hst := hst.below hb80
                replace hsz := hsz.below hb80
                replace hBf := bcat hBf hb80 hge
                replace hge := hBf.size
                have h0p : 0 < w80.heap.size := hsx.pos
                have hsp := hrp.sl h0p
                obtain ⟨p1, p2, rfl⟩ := hrp.slice
                clear hrp
                go_wp2_with fail
                refine (ints_true _ _ _ _ _ hsz hsp HX.out).mono ?_
                rintro x w82 ⟨rfl, hb82⟩
                replace hsx := hsx.below hb82
                replace hsv := hsv.below hb82
                replace hsu := hsu.below hb82
                replace hsy := hsy.below hb82
                replace hst := hst.below hb82
                replace hsz := hsz.below hb82
                replace hsp := hsp.below hb82
                replace hBf := bcat hBf hb82 hge
                replace hge := hBf.size
                go_wp2
                go_ret
                exact ⟨rfl, hBf⟩
          · have hk9 : ¬ ((k : Int) < (c.length : Int)) := by omega
            clear hdone hst
            have hBf := bcat HBB.out hBr HBB.out.size
            have hge := hBf.size
            have hsx := HSX.out.below hBr
            have hsv := HSV.out.below hBr
            have hsu := HSU.out.below hBr
            obtain ⟨_, x0, x1, x2, x3, x4, x5⟩ := Two.below HBX.out hBr
            obtain ⟨_, q0, q1, q2, q3, q4, q5⟩ := Two.below HBQ.out hBr
            have HXS := hide hsx
            obtain ⟨xa, xc, xb, xo, hxe, hxr, hxp, hxcc, hxm⟩ := hsx
            injection hxe with e1 _ e2
            subst e1 e2
            unfold maxLen at hxm
            have HXR := hide hxr
            clear hxr
            go_wp2_with fail
            go_loopw [14] (fun i wq => ∃ j : Nat, j ≤ X.length ∧ i = .int .i64 j ∧ wq = wr) (fun i _ => X.length - (intOf i).toNat)
            case atStart => exact ⟨0, Nat.zero_le _, rfl, rfl⟩
            case round =>
              clear x0 x1 x2 x3 x4 x5 q0 q1 q2 q3 q4 q5
              obtain ⟨j, hj, rfl, hwq⟩ := hrel
              subst hwq
              by_cases hjl : j < X.length
              · have hat := HXR.out.at_ (by omega)
                have hcx := HXR.out.cell j hjl
                obtain ⟨b1, b2, b3⟩ := bad_parts (HXL.out.at hjl)
                obtain ⟨y, hy⟩ : ∃ y, X[j]?.getD 0 = y := ⟨_, rfl⟩
                rw [hy] at hcx b1 b2 b3
                subst hat
                have hjx : (j : Int) < (X.length : Int) := by omega
                clear hy
                go_wp2
                go_roundw
                case rel => exact ⟨j + 1, by omega, by go_num, by trivial⟩
                case measure => simp [intOf]; omega
              · have hjx : ¬ ((j : Int) < (X.length : Int)) := by omega
                have hsx := HXS.out
                go_wp2_with fail
                refine (reduced_ok _ X _ hsx HXL.out (by omega)).mono ?_
                rintro x w72 ⟨ry, rfl, hry, hb72⟩
                replace hsx := hsx.below hb72
                replace hsv := hsv.below hb72
                replace hsu := hsu.below hb72
                replace hBf := bcat hBf hb72 hge
                replace hge := hBf.size
                have h0y : 0 < w72.heap.size := hsx.pos
                have hsy := hry.sl h0y
                obtain ⟨y1, y2, rfl⟩ := hry.slice
                clear hry
                go_wp2_with fail
                refine (ints_true _ _ _ _ _ hsy hsx HXI.out).mono ?_
                rintro x w74 ⟨rfl, hb74⟩
                replace hsx := hsx.below hb74
                replace hsv := hsv.below hb74
                replace hsu := hsu.below hb74
                replace hsy := hsy.below hb74
                replace hBf := bcat hBf hb74 hge
                replace hge := hBf.size
                go_wp2_with fail
                refine (turned_ok _ X _ hsx HXL.out (by omega)).mono ?_
                rintro x w76 ⟨rt, rfl, hrt, hb76⟩
                replace hsx := hsx.below hb76
                replace hsv := hsv.below hb76
                replace hsu := hsu.below hb76
                replace hsy := hsy.below hb76
                replace hBf := bcat hBf hb76 hge
                replace hge := hBf.size
                have h0t : 0 < w76.heap.size := hsx.pos
                have hst := hrt.sl h0t
                obtain ⟨t1, t2, rfl⟩ := hrt.slice
                clear hrt
                go_wp2_with fail
                refine (behind3 _ rfl hst hsv hsx HXL.out.wi HWV.out.lt HXL.out (by have h9 := wi_length X; have := HWV.out.len; omega)).mono ?_
                rintro x w78 ⟨rw, rfl, hrw, hb78⟩
                replace hsx := hsx.below hb78
                replace hsv := hsv.below hb78
                replace hsu := hsu.below hb78
                replace hsy := hsy.below hb78
                replace hst := hst.below hb78
                replace hBf := bcat hBf hb78 hge
                replace hge := hBf.size
                have h0z : 0 < w78.heap.size := hsx.pos
                have hsz := hrw.sl h0z
                obtain ⟨z1, z2, rfl⟩ := hrw.slice
                clear hrw
                go_wp2_with fail
                refine (reduced_ok _ us _ hsu HWU.out.lt (by omega)).mono ?_
                rintro x w80 ⟨rp, rfl, hrp, hb80⟩
                replace hsx := hsx.below hb80
                replace hsv := hsv.below hb80
                replace hsu := hsu.below hb80
                replace hsy := hsy.below hb80
                replace hst := hst.below hb80
                replace hsz := hsz.below hb80
                replace hBf := bcat hBf hb80 hge
                replace hge := hBf.size
                have h0p : 0 < w80.heap.size := hsx.pos
                have hsp := hrp.sl h0p
                obtain ⟨p1, p2, rfl⟩ := hrp.slice
                clear hrp
                go_wp2_with fail
                refine (ints_true _ _ _ _ _ hsz hsp HX.out).mono ?_
                rintro x w82 ⟨rfl, hb82⟩
                replace hsx := hsx.below hb82
                replace hsv := hsv.below hb82
                replace hsu := hsu.below hb82
                replace hsy := hsy.below hb82
                replace hst := hst.below hb82
                replace hsz := hsz.below hb82
                replace hsp := hsp.below hb82
                replace hBf := bcat hBf hb82 hge
                replace hge := hBf.size
                go_wp2
                go_ret
                exact ⟨rfl, hBf⟩
  · replace hsv := hsv.below hb6
    replace hsu := hsu.below hb6
    replace hsr := hsr.below hb6
    replace hss := hss.below hb6
    replace hB := bcat hB hb6 hge
    replace hge := hB.size
    have hrlv := red_len vs
    have hrlu := red_len us
    have hcl := core_len hcore
    have hcl2 := core_len hcore2
    have hbnd : c.length ≤ 2000 ∧ c2.length ≤ 2000 ∧ a.length ≤ 2000 ∧ a2.length ≤ 2000 := by have := HWV.out.len; have := HWU.out.len; omega
    obtain ⟨hbn1, hbn2, hbn3, hbn4⟩ := hbnd
    have HCO := hide hcore
    have HCO2 := hide hcore2
    have HF := hide (show ¬ Fnd c c2 from fun ⟨n, hn, he⟩ => hno n hn he)
    clear hno
    have hb7 : Below w6.heap.size w6 (w6.alloc (.cells #[.int .i64 6, .int .i64 0] 26)) := balloc w6 _
    replace hsv := hsv.below hb7
    replace hsu := hsu.below hb7
    replace hsr := hsr.below hb7
    replace hss := hss.below hb7
    replace hB := bcat hB hb7 hge
    replace hge := hB.size
    have bx : Blk (w6.alloc (.cells #[.int .i64 6, .int .i64 0] 26)) w6.heap.size 26 [.int .i64 6, .int .i64 0] := blk0 _ _
    clear hcore hcore2 hcl hcl2 hrlv hrlu
    obtain ⟨bx8a, bx8b, bx8c, bx8d⟩ := bx.two
    go_wp2_with fail
    clear bx8a bx8b bx8c bx8d
    refine (wsfault_any _ _ vs us _ hsv hsu).mono ?_
    rintro x w9 ⟨rfl, hb9⟩
    replace hsv := hsv.below hb9
    replace hsu := hsu.below hb9
    replace hsr := hsr.below hb9
    replace hss := hss.below hb9
    replace bx : Blk (w9) w6.heap.size 26 [.int .i64 6, .int .i64 0] := Blk.of_eq bx (hb9.block _ bx.lt)
    replace hB := bcat hB hb9 hge
    replace hge := hB.size
    rw [HC1.out.1, HC1.out.2]
    have HGB := hide hge
    have HLX := hide bx.lt
    have hb10 : Below w9.heap.size w9 (w9.alloc (.cells #[.int .i64 0, .int .i64 0] 26)) := balloc w9 _
    replace hsv := hsv.below hb10
    replace hsu := hsu.below hb10
    replace hsr := hsr.below hb10
    replace hss := hss.below hb10
    replace bx : Blk (w9.alloc (.cells #[.int .i64 0, .int .i64 0] 26)) w6.heap.size 26 [.int .i64 6, .int .i64 0] := Blk.of_eq bx (hb10.block _ bx.lt)
    replace hB := bcat hB hb10 hge
    replace hge := hB.size
    have bq : Two (w9.alloc (.cells #[.int .i64 0, .int .i64 0] 26)) w9.heap.size := Two.new w9
    obtain ⟨bx11a, bx11b, bx11c, bx11d⟩ := bx.two
    obtain ⟨_, bq11a, bq11b, bq11c, bq11d, bq11e, bq11f⟩ := id bq
    go_wp2_with fail
    clear bx11a bx11b bx11c bx11d bq11a bq11b bq11c bq11d bq11e bq11f
    refine (cored_ok _ vs _ hsv HWV.out.lt (by omega)).mono ?_
    rintro x w12 ⟨u1, u2, d, b, rfl, hs1, hs2, hcore, hb12⟩
    replace hsv := hsv.below hb12
    replace hsu := hsu.below hb12
    replace hsr := hsr.below hb12
    replace hss := hss.below hb12
    replace bx : Blk (w12) w6.heap.size 26 [.int .i64 6, .int .i64 0] := Blk.of_eq bx (hb12.block _ bx.lt)
    replace bq := Two.below bq hb12
    replace hB := bcat hB hb12 hge
    replace hge := hB.size
    obtain ⟨e1, e2⟩ := core_unique HCO.out hcore
    subst e1
    clear e2 hcore hs2
    obtain ⟨u1a, u1c, _, _, hu1e, _⟩ := id hs1
    subst hu1e
    obtain ⟨bx13a, bx13b, bx13c, bx13d⟩ := bx.two
    obtain ⟨_, bq13a, bq13b, bq13c, bq13d, bq13e, bq13f⟩ := id bq
    go_wp2_with fail
    clear bx13a bx13b bx13c bx13d bq13a bq13b bq13c bq13d bq13e bq13f
    refine (cored_ok _ us _ hsu HWU.out.lt (by omega)).mono ?_
    rintro x w14 ⟨u3, u4, d, b, rfl, hs3, hs4, hcore, hb14⟩
    replace hsv := hsv.below hb14
    replace hsu := hsu.below hb14
    replace hsr := hsr.below hb14
    replace hss := hss.below hb14
    replace hs1 := hs1.below hb14
    replace bx : Blk (w14) w6.heap.size 26 [.int .i64 6, .int .i64 0] := Blk.of_eq bx (hb14.block _ bx.lt)
    replace bq := Two.below bq hb14
    replace hB := bcat hB hb14 hge
    replace hge := hB.size
    obtain ⟨e1, e2⟩ := core_unique HCO2.out hcore
    subst e1
    clear e2 hcore hs4
    obtain ⟨u3a, u3c, _, _, hu3e, _⟩ := id hs3
    subst hu3e
    have hcap : c.length ≤ u1c ∧ u1c ≤ maxLen := by
      obtain ⟨a9, cap9, pb, po, hve, hr9, hp9, hcap9, hcm9⟩ := id hs1
      injection hve with e1 _ e2
      subst e1 e2
      exact ⟨hcap9, hcm9⟩
    obtain ⟨hcap1, hcap2⟩ := hcap
    have hcap2' := hcap2
    unfold maxLen at hcap2
    have HSV := hide hsv
    have HSU := hide hsu
    have HS1 := hide hs1
    have HS3 := hide hs3
    have HBB := hide hB
    have HBX := hide bx
    have HBQ := hide bq
    clear hsv hsu hsr hss hs1 hs3 hB bx bq
    by_cases hc0 : c = []
    · have h2 : c2 ≠ [] := fun e => HF.out ⟨0, Nat.zero_le _, by rw [hc0, e]; rfl⟩
      subst hc0
      have hg1 : (((c2.length : Nat) : Int) == 0) = false := by simp; exact h2
      have HH2 := hide h2
      clear h2
      go_wp2_with fail
      go_loopw [12, 13] (fun o i wr => i = .int .i64 0 ∧ o = .bool false ∧ wr = w14) (fun _ _ _ => 0)
      case atStart => exact ⟨rfl, rfl, rfl⟩
      case round =>
        obtain ⟨rfl, rfl, hwr⟩ := hrel
        have hBr : Below w14.heap.size w14 wr := by rw [hwr]; exact Below.refl _ _
        clear hwr
        have hBf := bcat HBB.out hBr HBB.out.size
        have hge := hBf.size
        have bx : Blk wr w6.heap.size 26 [.int .i64 6, .int .i64 0] := HBX.out.of_eq (hBr.block _ HBX.out.lt)
        have bq := Two.below HBQ.out hBr
        obtain ⟨bx61a, bx61b, bx61c, bx61d⟩ := bx.two
        obtain ⟨_, bq61a, bq61b, bq61c, bq61d, bq61e, bq61f⟩ := id bq
        go_wp2_with fail
        clear bx61a bx61b bx61c bx61d bq61a bq61b bq61c bq61d bq61e bq61f
        refine (f_ok 6 0 _).mono ?_
        rintro x w62 ⟨rfl, hb62⟩
        replace bx : Blk (w62) w6.heap.size 26 [.int .i64 6, .int .i64 0] := Blk.of_eq bx (hb62.block _ bx.lt)
        replace bq := Two.below bq hb62
        replace hBf := bcat hBf hb62 hge
        replace hge := hBf.size
        have hne : ¬ w6.heap.size = w9.heap.size := Nat.ne_of_lt HLX.out
        have hne2 : ¬ w9.heap.size = w6.heap.size := fun h => hne h.symm
        have hR9 : Blk (w62.setCell ⟨w9.heap.size, 0, none⟩ (.int .i64 6)) w9.heap.size 26 [.int .i64 6, .int .i64 0] := bq.blk.set 0 _
        have hX9 : Blk (w62.setCell ⟨w9.heap.size, 0, none⟩ (.int .i64 6)) w6.heap.size 26 [.int .i64 6, .int .i64 0] := bx.other (p := ⟨w9.heap.size, 0, none⟩) hne _
        obtain ⟨z0, z1, fz0, fz1⟩ := hR9.two
        obtain ⟨x0, x1, _, _⟩ := hX9.two
        have hs9 := hR9.self.2
        have hB9 := hBf.setCell (p := ⟨w9.heap.size, 0, none⟩) (show w.heap.size ≤ w9.heap.size from HGB.out) (.int .i64 6)
        obtain ⟨_, q0, q1, q2, q3, q4, q5⟩ := bq
        go_wp2
        go_ret
        exact ⟨rfl, hB9⟩
    · have hg0 : (((c.length : Nat) : Int) == 0) = false := by simp; exact hc0
      have HT0 := hide (show TI c c2 0 false from ⟨(fun h => by cases h), fun _ => ⟨(fun j hj => by omega), fun h => hc0 h.1⟩⟩)
      have hcpos : 0 < c.length := List.length_pos_iff.2 hc0
      clear hc0
      go_wp2_with fail
      go_loopw [12, 13] (fun o i wr => ∃ (k : Nat) (ok : Bool), k ≤ c.length ∧ i = .int .i64 k ∧ o = .bool ok ∧ TI c c2 k ok ∧ Below w14.heap.size w14 wr) (fun _ i _ => c.length - (intOf i).toNat)
      case atStart => exact ⟨0, false, Nat.zero_le _, rfl, rfl, HT0.out, Below.refl _ _⟩
      case round =>
        obtain ⟨k, ok, hk, rfl, rfl, hti, hBr⟩ := hrel
        have HTI := hide hti
        have hdone := hti.done
        clear hti
        by_cases hst : k < c.length ∧ c.length = c2.length ∧ ok = false
        · obtain ⟨hkl, hll, rfl⟩ := hst
          clear hdone
          have hki : (k : Int) < (c.length : Int) := by omega
          have hlb : ((c.length : Int) == (c2.length : Int)) = true := by simp [hll]
          have HLL := hide hll
          have hcut : ¬ u1c = k := by omega
          have hk1 : (k : Int) ≤ (u1c : Int) := by omega
          have hk2 : (c.length : Int) ≤ (u1c : Int) := by omega
          obtain ⟨a9, cap9, pb, po, hve, hr9, hp9, hcap9, hcm9⟩ := (HS1.out.below hBr).drewN 1
          injection hve with e1 _ e2
          subst e1 e2
          have hat := hr9.at_ (by omega)
          subst hat
          have hpk1 : Sl wr.drew (.slice (some ⟨pb, po + k, none⟩) (c.length - k) (u1c - k)) (c.drop k) := by
            have h5 := Sl.piece (i := k) (m := c.length - k) (c := u1c - k) (b := some ⟨pb, po + k, none⟩) hr9 hp9 (by omega) (fun _ => rfl) (by omega) (by unfold maxLen; omega)
            rwa [List.take_of_length_le (by rw [List.length_drop]; omega)] at h5
          have hpk2 : Sl wr.drew (.slice (some ⟨pb, po, none⟩) k u1c) (c.take k) := by
            have h5 := Sl.piece (i := 0) (m := k) (c := u1c) (b := some ⟨pb, po, none⟩) hr9 hp9 (by omega) (fun _ => rfl) (by omega) hcap2'
            rwa [List.drop_zero] at h5
          have hs3d := (HS3.out.below hBr).drewN 1
          have hs3d : Sl wr.drew (.slice u3a c2.length u3c) c2 := hs3d
          have hBd := bdrew hBr
          have hged := hBd.size
          obtain ⟨P, hP⟩ : ∃ P, c.drop k = P := ⟨_, rfl⟩
          obtain ⟨T, hT⟩ : ∃ T, c.take k = T := ⟨_, rfl⟩
          obtain ⟨Q, hQ⟩ : ∃ Q, P ++ T = Q := ⟨_, rfl⟩
          have HTN := hide (fun b (hb : b = decide (Q = c2)) => HTI.out.next hkl b (by rw [hP, hT, hQ]; exact hb))
          have hPl : P.length ≤ 2000 := by rw [← hP, List.length_drop]; omega
          have hTl : T.length ≤ 2000 := by rw [← hT, List.length_take]; omega
          rw [hP] at hpk1
          rw [hT] at hpk2
          have HQ := hide hQ
          clear hP hT hQ
          clear hll hr9 hp9 hcap9 hcm9
          go_wp2_with fail
          refine wp_region_held_drew (S := fun W => Below w14.heap.size w14 W) (by kernel_rfl) hBd (fun hHeld => ?_)
          generalize wr.drew = wd at *
          refine wpAnyH_take (i := 0) (oi := ({ dst := some 74, op := Go.Op.move (Go.Operand.tmp 8), type := 22, pos := _, after := _, guard := none } : Oper)) (v := ?_) rfl (by kernel_rfl) (by kernel_rfl) (by kernel_rfl) (fun _ _ _ h => h) (Or.inl ⟨by rfl, ?_⟩) (by assumption) ?_
          rotate_left
          · (intro w hSw; (try dsimp only at hSw); go_simp; try with_reducible rfl)
          simp only [Act.put, List.setIfInBounds_toArray, List.set_cons_zero, List.set_cons_succ]
          refine wpAnyH_take (i := 1) (oi := ({ dst := some 75, op := Go.Op.move (Go.Operand.tmp 13), type := 3, pos := _, after := _, guard := none } : Oper)) (v := ?_) rfl (by kernel_rfl) (by kernel_rfl) (by kernel_rfl) (fun _ _ _ h => h) (Or.inl ⟨by rfl, ?_⟩) (by assumption) ?_
          rotate_left
          · (intro w hSw; (try dsimp only at hSw); go_simp; try with_reducible rfl)
          simp only [Act.put, List.setIfInBounds_toArray, List.set_cons_zero, List.set_cons_succ]
          refine wpAnyH_take (i := 2) (oi := ({ dst := some 76, op := Go.Op.slice 22 (Go.Operand.tmp 74) (some (Go.Operand.tmp 75)) none none, type := 22, pos := _, after := _, guard := none } : Oper)) (v := ?_) rfl (by kernel_rfl) (by kernel_rfl) (by kernel_rfl) (fun _ _ _ h => h) (Or.inl ⟨by rfl, ?_⟩) (by assumption) ?_
          rotate_left
          · (intro w hSw; (try dsimp only at hSw); go_simp; try with_reducible rfl)
          simp only [Act.put, List.setIfInBounds_toArray, List.set_cons_zero, List.set_cons_succ]
          refine wpAnyH_take (i := 4) (oi := ({ dst := some 78, op := Go.Op.move (Go.Operand.tmp 8), type := 22, pos := _, after := _, guard := none } : Oper)) (v := ?_) rfl (by kernel_rfl) (by kernel_rfl) (by kernel_rfl) (fun _ _ _ h => h) (Or.inl ⟨by rfl, ?_⟩) (by assumption) ?_
          rotate_left
          · (intro w hSw; (try dsimp only at hSw); go_simp; try with_reducible rfl)
          simp only [Act.put, List.setIfInBounds_toArray, List.set_cons_zero, List.set_cons_succ]
          refine wpAnyH_take (i := 5) (oi := ({ dst := some 79, op := Go.Op.move (Go.Operand.tmp 13), type := 3, pos := _, after := _, guard := none } : Oper)) (v := ?_) rfl (by kernel_rfl) (by kernel_rfl) (by kernel_rfl) (fun _ _ _ h => h) (Or.inl ⟨by rfl, ?_⟩) (by assumption) ?_
          rotate_left
          · (intro w hSw; (try dsimp only at hSw); go_simp; try with_reducible rfl)
          simp only [Act.put, List.setIfInBounds_toArray, List.set_cons_zero, List.set_cons_succ]
          refine wpAnyH_take (i := 6) (oi := ({ dst := some 80, op := Go.Op.slice 22 (Go.Operand.tmp 78) none (some (Go.Operand.tmp 79)) none, type := 22, pos := _, after := _, guard := none } : Oper)) (v := ?_) rfl (by kernel_rfl) (by kernel_rfl) (by kernel_rfl) (fun _ _ _ h => h) (Or.inl ⟨by rfl, ?_⟩) (by assumption) ?_
          rotate_left
          · (intro w hSw; (try dsimp only at hSw); go_simp; try with_reducible rfl)
          simp only [Act.put, List.setIfInBounds_toArray, List.set_cons_zero, List.set_cons_succ]
          refine wpAnyH_take (i := 8) (oi := ({ dst := some 82, op := Go.Op.move (Go.Operand.tmp 10), type := 22, pos := _, after := _, guard := none } : Oper)) (v := ?_) rfl (by kernel_rfl) (by kernel_rfl) (by kernel_rfl) (fun _ _ _ h => h) (Or.inl ⟨by rfl, ?_⟩) (by assumption) ?_
          rotate_left
          · (intro w hSw; (try dsimp only at hSw); go_simp; try with_reducible rfl)
          simp only [Act.put, List.setIfInBounds_toArray, List.set_cons_zero, List.set_cons_succ]
          refine wpAnyH_ready (rs := [3]) (by kernel_rfl) (by simp) (AllReadyH.cons (o := ({ dst := some 77, op := Go.Op.call { callee := Go.Callee.value (Go.Operand.func 12), args := #[Go.Operand.tmp 76], argTypes := #[22] }, type := 22, pos := _, after := _, guard := none } : Oper)) rfl (fun KK hK => ?_) AllReadyH.nil)
          go_simp
          refine (own_row _ P wd hpk1 (by omega)).mono ?_
          rintro x w8 ⟨ro, rfl, hro, hb8⟩
          have hB8 := bcat hBd hb8 hged
          have hge8 := hB8.size
          have hpk28 := hpk2.below hb8
          have hs38 := hs3d.below hb8
          obtain ⟨o1, o2, rfl⟩ := hro.slice
          try go_wp2_with fail
          refine hK.out _ _ hB8 (fun hHeld => ?_)
          clear hK
          try simp only [Act.put, List.setIfInBounds_toArray, List.set_cons_zero, List.set_cons_succ]
          refine wpAnyH_ready (rs := [7]) (by kernel_rfl) (by simp) (AllReadyH.cons (o := ({ dst := some 81, op := Go.Op.call { callee := Go.Callee.builtin Go.Builtin.append, args := #[Go.Operand.tmp 77, Go.Operand.tmp 80], argTypes := #[22, 22] }, type := 22, pos := _, after := _, guard := none } : Oper)) rfl (fun KK hK => ?_) AllReadyH.nil)
          rw [if_pos (by rfl)]
          refine wp_append_row _ _ rfl wd.heap.size (.slice o1 P.length o2) _ P T rfl hro rfl hpk28 (by omega) hb8.size ?_
          intro v9 w9 hro9 hgrow
          rw [HQ.out] at hro9
          have hb9 : Below wd.heap.size wd w9 := hb8.grown hgrow hb8.size (fun t e => owns_ge hro t e)
          have hB9 := bcat hBd hb9 hged
          have hge9' := hB9.size
          have hs39 := hs3d.below hb9
          have hsr9 := hro9.sl hs39.pos
          obtain ⟨o3, o4, rfl⟩ := hro9.slice
          refine hK.out _ _ hB9 (fun hHeld => ?_)
          clear hK
          try simp only [Act.put, List.setIfInBounds_toArray, List.set_cons_zero, List.set_cons_succ]
          refine wpAnyH_ready (rs := [9]) (by kernel_rfl) (by simp) (AllReadyH.cons (o := ({ dst := some 83, op := Go.Op.call { callee := Go.Callee.value (Go.Operand.func 20), args := #[Go.Operand.tmp 81, Go.Operand.tmp 82], argTypes := #[22, 22] }, type := 4, pos := _, after := _, guard := none } : Oper)) rfl (fun KK hK => ?_) AllReadyH.nil)
          go_simp
          refine (ints_any _ _ _ _ w9 hsr9 hs39).mono ?_
          rintro x wA ⟨rfl, hbA⟩
          have hBA := bcat hB9 hbA hge9'
          try go_wp2_with fail
          refine hK.out _ _ hBA (fun hHeld => ?_)
          clear hK
          try simp only [Act.put, List.setIfInBounds_toArray, List.set_cons_zero, List.set_cons_succ]
          refine wpAnyH_take (i := 10) (oi := ({ dst := some 12, op := Go.Op.assign (Go.Operand.tmp 83), type := 4, pos := _, after := _, guard := none } : Oper)) (v := ?_) rfl (by kernel_rfl) (by kernel_rfl) (by kernel_rfl) (fun _ _ _ h => h) (Or.inl ⟨by rfl, ?_⟩) (by assumption) ?_
          rotate_left
          · (intro w hSw; (try dsimp only at hSw); go_simp; try with_reducible rfl)
          simp only [Act.put, List.setIfInBounds_toArray, List.set_cons_zero, List.set_cons_succ]
          refine wpAnyH_done (by kernel_rfl) ?_ _
          go_wp2
          go_roundw
          case rel => exact ⟨k + 1, _, by omega, by go_num, rfl, HTN.out _ rfl, hBA⟩
          case measure => simp [intOf]; omega
        · have hok : ok = false := by cases ok with | false => rfl | true => exact absurd ((hdone hst).1 rfl) HF.out
          subst hok
          rcases Nat.lt_or_ge k c.length with hk8 | hk8
          · have hk9 : (k : Int) < (c.length : Int) := by omega
            have hlb : ((c.length : Int) == (c2.length : Int)) = false := by
              simp only [beq_eq_false_iff_ne]
              intro e
              exact hst ⟨hk8, by omega, rfl⟩
            clear hdone hst
            have hBf := bcat HBB.out hBr HBB.out.size
            have hge := hBf.size
            have bx : Blk wr w6.heap.size 26 [.int .i64 6, .int .i64 0] := HBX.out.of_eq (hBr.block _ HBX.out.lt)
            have bq := Two.below HBQ.out hBr
            obtain ⟨bx61a, bx61b, bx61c, bx61d⟩ := bx.two
            obtain ⟨_, bq61a, bq61b, bq61c, bq61d, bq61e, bq61f⟩ := id bq
            go_wp2_with fail
            clear bx61a bx61b bx61c bx61d bq61a bq61b bq61c bq61d bq61e bq61f
            refine (f_ok 6 0 _).mono ?_
            rintro x w62 ⟨rfl, hb62⟩
            replace bx : Blk (w62) w6.heap.size 26 [.int .i64 6, .int .i64 0] := Blk.of_eq bx (hb62.block _ bx.lt)
            replace bq := Two.below bq hb62
            replace hBf := bcat hBf hb62 hge
            replace hge := hBf.size
            have hne : ¬ w6.heap.size = w9.heap.size := Nat.ne_of_lt HLX.out
            have hne2 : ¬ w9.heap.size = w6.heap.size := fun h => hne h.symm
            have hR9 : Blk (w62.setCell ⟨w9.heap.size, 0, none⟩ (.int .i64 6)) w9.heap.size 26 [.int .i64 6, .int .i64 0] := bq.blk.set 0 _
            have hX9 : Blk (w62.setCell ⟨w9.heap.size, 0, none⟩ (.int .i64 6)) w6.heap.size 26 [.int .i64 6, .int .i64 0] := bx.other (p := ⟨w9.heap.size, 0, none⟩) hne _
            obtain ⟨z0, z1, fz0, fz1⟩ := hR9.two
            obtain ⟨x0, x1, _, _⟩ := hX9.two
            have hs9 := hR9.self.2
            have hB9 := hBf.setCell (p := ⟨w9.heap.size, 0, none⟩) (show w.heap.size ≤ w9.heap.size from HGB.out) (.int .i64 6)
            obtain ⟨_, q0, q1, q2, q3, q4, q5⟩ := bq
            go_wp2
            go_ret
            exact ⟨rfl, hB9⟩
          · have hk9 : ¬ ((k : Int) < (c.length : Int)) := by omega
            clear hdone hst
            have hBf := bcat HBB.out hBr HBB.out.size
            have hge := hBf.size
            have bx : Blk wr w6.heap.size 26 [.int .i64 6, .int .i64 0] := HBX.out.of_eq (hBr.block _ HBX.out.lt)
            have bq := Two.below HBQ.out hBr
            obtain ⟨bx61a, bx61b, bx61c, bx61d⟩ := bx.two
            obtain ⟨_, bq61a, bq61b, bq61c, bq61d, bq61e, bq61f⟩ := id bq
            go_wp2_with fail
            clear bx61a bx61b bx61c bx61d bq61a bq61b bq61c bq61d bq61e bq61f
            refine (f_ok 6 0 _).mono ?_
            rintro x w62 ⟨rfl, hb62⟩
            replace bx : Blk (w62) w6.heap.size 26 [.int .i64 6, .int .i64 0] := Blk.of_eq bx (hb62.block _ bx.lt)
            replace bq := Two.below bq hb62
            replace hBf := bcat hBf hb62 hge
            replace hge := hBf.size
            have hne : ¬ w6.heap.size = w9.heap.size := Nat.ne_of_lt HLX.out
            have hne2 : ¬ w9.heap.size = w6.heap.size := fun h => hne h.symm
            have hR9 : Blk (w62.setCell ⟨w9.heap.size, 0, none⟩ (.int .i64 6)) w9.heap.size 26 [.int .i64 6, .int .i64 0] := bq.blk.set 0 _
            have hX9 : Blk (w62.setCell ⟨w9.heap.size, 0, none⟩ (.int .i64 6)) w6.heap.size 26 [.int .i64 6, .int .i64 0] := bx.other (p := ⟨w9.heap.size, 0, none⟩) hne _
            obtain ⟨z0, z1, fz0, fz1⟩ := hR9.two
            obtain ⟨x0, x1, _, _⟩ := hX9.two
            have hs9 := hR9.self.2
            have hB9 := hBf.setCell (p := ⟨w9.heap.size, 0, none⟩) (show w.heap.size ≤ w9.heap.size from HGB.out) (.int .i64 6)
            obtain ⟨_, q0, q1, q2, q3, q4, q5⟩ := bq
            go_wp2
            go_ret
            exact ⟨rfl, hB9⟩

theorem conjugates_law (v u : Value) (vs us : List Int) (w : World) (hv : SlA w v vs) (hu : SlA w u us) (hb1 : vs.length ≤ 17592186044416) (hb2 : us.length ≤ 17592186044416) :
    Calls Try.prog 5 #[v, u] w fun e w' => e = .returned (.bool true) ∧ Below w.heap.size w w' := by
  by_cases h0 : vs.length ≤ 5000
  · by_cases hl : us.length ≤ 5000
    · by_cases h : wsc [vs, us] = 0
      · exact cj_good v u vs us w hv hu h0 hl h
      · exact cj_bad v u vs us w hv hu h0 hl h
    · exact cj_long2 v u vs us w hv hu h0 (by omega) hb2
  · exact cj_long1 v u vs us w hv hu (by omega) hb1

end Go.Proofs.Ytakmfhnigpmngaa
