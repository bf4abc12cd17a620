/- Package quot: numbers, group, Quotient; quotBegun. Condition: the library's table of places lies as its text lays it. The law ProdSemiParts: its closures, what Semi takes, quotients as homomorphisms. -/
import Derived.Test.YtgdpgbldjpeopaaGreatDoorZ10
import Derived.BigQuiet
import Derived.Deep.AppendLies
import Derived.Deep.DeepCutAuto
import Derived.Deep.RegionLaw
import Derived.Laws.EntriesVeiled
import Derived.Maps.AppendAt
import Derived.Maps.Ext
import Derived.Maps.OwnOps
import Derived.Maps.OwnSet
import Derived.Test.YtgdpgbldjpeopaaGreatDoorZ8
import Derived.Test.YtgdpgbldjpeopaaGreatDoorZ4
namespace Go.Proofs.YtgdpgbldjpeopaaGreatDoor
open Go Go.RowKit Go.Maps

theorem und89 : Tryz.prog.underlying 68 = some (.map 3 3) := by kernel_rfl
set_option maxRecDepth 100000 in
set_option maxHeartbeats 8000000 in
theorem numbers_ok (v : Value) (ls : List (List Int)) (w : World) (hv : SlL w v ls) (hn : ls.length ≤ 60) (hl : ∀ t, t < ls.length → (ls[t]?.getD []).length ≤ 60)
    (hr : ∀ (t : Nat) (a : Int), a ∈ ls[t]?.getD [] → 0 ≤ a ∧ a < 60) (hd : ∀ (s t : Nat) (a : Int), a ∈ ls[s]?.getD [] → a ∈ ls[t]?.getD [] → s = t) :
    Calls Tryz.prog 35 #[v] w fun x w' => ∃ D, x = .returned (.map (some w.heap.size)) ∧ w'.ownsMap Tryz.prog 3 (plainElem Tryz.prog 3) w.heap.size 3600 D ∧ MLs ls ls.length 0 D ∧ Below w.heap.size w w' := by
  obtain ⟨va, vc, vb, vo, rfl, v1, v2, v3, v4, v5⟩ := hv
  have HV := hide v2
  have HV1 := hide v1
  have HL := hide hl
  have HR := hide hr
  have HD := hide hd
  clear v1 v2 v5 hl hr hd
  have hmm := @run_makeMap Tryz.prog
  go_enter Tryz.func35, Tryz.ntmps35
  go_wp2
  clear hmm
  go_loopw [11] (fun i wr => ∃ (j c : Nat) (D : DataW Unit), j ≤ ls.length ∧ i = .int .i64 j ∧ wr.ownsMap Tryz.prog 3 (plainElem Tryz.prog 3) w.heap.size c D ∧ c ≤ j * 60 ∧ MLs ls j 0 D ∧ Below w.heap.size w wr) (fun i _ => ls.length - (intOf i).toNat)
  case atStart => exact ⟨0, 0, .map [], Nat.zero_le _, rfl, World.ownsMap_made _ _ _ _, Nat.le_refl _, ⟨fun t ht => by omega, fun a ha => by simp at ha⟩, balloc w _⟩
  case round =>
    obtain ⟨j, c, D, hj, rfl, hmap, hc, hM, hB⟩ := hrel
    by_cases hlt : j < ls.length
    · have hji : (j : Int) < (ls.length : Int) := by omega
      obtain rfl := HV1.out (by omega)
      obtain ⟨y, cy, hy⟩ := HV.out j hlt
      have hll := HL.out j hlt
      have cy := below_cell hB cy
      have HD' := hide (fun (D' : DataW Unit) (k : Nat) (h : MLs ls j k D') (hm : IsMap D') (hk : k < (ls[j]?.getD []).length) => h.step hm HD.out hk)
      have HE := hide (fun (D' : DataW Unit) (h : MLs ls j (ls[j]?.getD []).length D') => h.done)
      have HRR := hide (fun a (h : a ∈ ls[j]?.getD []) => HR.out j a h)
      obtain ⟨ya, ycap, yb, yo, rfl, hyr, hyb, _, _⟩ := hy
      generalize hlj : ls[j]?.getD [] = lj at *
      have HLJ := hide hlj
      clear hlj
      have HY := hide hyr
      clear hyr
      have hcap : lj.length ≤ 60 := hll
      go_wp2
      go_loopw [18] (fun i wi => ∃ (k c : Nat) (D : DataW Unit), k ≤ lj.length ∧ i = .int .i64 k ∧ wi.ownsMap Tryz.prog 3 (plainElem Tryz.prog 3) w.heap.size c D ∧ c ≤ j * 60 + k ∧ MLs ls j k D ∧ Below w.heap.size w wi) (fun i _ => lj.length - (intOf i).toNat)
      case atStart => exact ⟨0, c, D, Nat.zero_le _, rfl, hmap, by omega, hM, hB⟩
      case round =>
        obtain ⟨k, c2, D2, hk, rfl, hmap2, hc2, hM2, hB2⟩ := hrel
        have hY2 := HY.out.below hB2 hyb
        by_cases hlt2 : k < lj.length
        · have hki : (k : Int) < (lj.length : Int) := by omega
          obtain rfl := hY2.at_ (by omega)
          have hcx := hY2.cell k hlt2
          obtain ⟨hx0, hx1⟩ := HRR.out (lj[k]?.getD 0) (by simp [hlt2])
          have HST := hide (HD'.out D2 k hM2 (map_is hmap2) hlt2)
          generalize lj[k]?.getD 0 = x at *
          have hkw : (Lit.int .i64 x).wf = true := WalkArith.wf_i64 (by omega)
          have hkey := keyOf_int_mk und3' hkw
          go_wp2_with (first
            | (at_mapUpdate; refine wpList_mapUpdate_own _ rfl _ _ _ 68 rfl 3 3 law3 und89 _ w.heap.size _ D2 rfl hmap2 (by unfold maxLen; omega) _ _ _ rfl rfl hkey _ [] (plainElem_int und3' (WalkArith.wf_i64 (by omega))) ?_; intro w2 hmap3 hgrow2))
          have hB3 := hB2.grown hgrow2 hB2.size (fun k hk => by cases hk; exact Nat.le_refl _)
          go_roundw
          case rel => exact ⟨k + 1, c2 + 1, _, by omega, by go_num, hmap3, by omega, HST.out, hB3⟩
          case measure => simp [intOf]; omega
        · have hki : ¬ (k : Int) < (lj.length : Int) := by omega
          have hke : k = lj.length := by omega
          have HEN := hide (HE.out D2 (by rw [← hke]; exact hM2))
          clear hke
          go_wp2
          go_roundw
          case rel => exact ⟨j + 1, c2, D2, by omega, by go_num, hmap2, by omega, HEN.out, hB2⟩
          case measure => simp [intOf]; omega
    · have hji : ¬ (j : Int) < (ls.length : Int) := by omega
      have hje : j = ls.length := by omega
      have HM := hide (show MLs ls ls.length 0 D by rw [← hje]; exact hM)
      clear hje
      go_wp2
      go_ret
      exact ⟨rfl, D, map_le hmap (by omega), HM.out, hB⟩
theorem look_int {D : DataW Unit} {W : World} {mb c : Nat} {x q : Nat} (h : W.ownsMap Tryz.prog 3 (plainElem Tryz.prog 3) mb c D) (hx : x < 60) (hN : D.atKey (.int .i64 (x : Nat)) (.lit (.int .i64 0)) = .lit (.int .i64 (q : Nat))) :
    (Instr.lookup 68 (.map (some mb)) (.int .i64 (x : Nat)) false).run Tryz.prog W = .ok (.int .i64 (q : Nat)) W := by
  have hkw : (Lit.int .i64 (x : Nat)).wf = true := WalkArith.wf_i64 (by omega)
  obtain ⟨c, h1, h2, _⟩ := h.lookup_int law3 und89 und3' (zero3 _) (keyOf_int_mk und3' hkw)
  rw [hN] at h2
  cases h2
  exact h1
set_option maxRecDepth 100000 in
set_option maxHeartbeats 8000000 in
theorem group_ok (n K : Nat) (v lv : Value) (zs : List Int) (ls : List (List Int)) (hs : Nat → Nat) (F : Nat → Nat → Nat) (mb c : Nat) (D : DataW Unit) (w : World) (ht : IsTab n zs) (hv : Sl w v zs) (hL : SlL w lv ls) (hK : ls.length = K) (hK6 : K ≤ 60)
    (hh : ∀ i, i < K → ∃ t, ls[i]?.getD [] = (hs i : Int) :: t ∧ hs i < n) (hmap : w.ownsMap Tryz.prog 3 (plainElem Tryz.prog 3) mb c D)
    (hF : ∀ i j, i < K → j < K → D.atKey (.int .i64 (tm n zs (hs i) (hs j) : Nat)) (.lit (.int .i64 0)) = .lit (.int .i64 (F i j : Nat))) (hF6 : ∀ i j, i < K → j < K → F i j ≤ 60) :
    Calls Tryz.prog 36 #[.agg #[.int .i64 n, v], lv, .map (some mb)] w fun x w' => ∃ r, x = .returned (.agg #[.int .i64 K, r]) ∧ Row w' w.heap.size r (mkT K F) ∧ Below w.heap.size w w' := by
  obtain ⟨i0, hi, hz0, hz1, hz2⟩ := info_parts info3b
  obtain ⟨va, vl, vc, rfl⟩ := hv.isSlice
  obtain ⟨la, lc, lb, lo, rfl, l1, l2, l3, l4, l5⟩ := hL
  obtain ⟨T, hT⟩ : ∃ T, T = mkT K F := ⟨_, rfl⟩
  have HTL := hide (show T.length = K * K by rw [hT]; exact mkT_len K F)
  have HTG := hide (fun a b (ha : a < K) (hb : b < K) => show T[a * K + b]?.getD 0 = (F a b : Int) by
    obtain ⟨e1, e2⟩ := dm' (a := a) hb
    rw [hT, mkT_get (place_lt ha hb), e1, e2])
  rw [← hT]
  clear hT
  rw [hK] at *
  have HL1 := hide l1
  have HL2 := hide l2
  have HH := hide hh
  have HF := hide hF
  have HF6 := hide hF6
  have HMP := hide hmap
  have HV := hide hv
  have hn := ht.le
  clear l1 l2 l5 hh hF hF6 hmap hK hv
  obtain ⟨w0, hw0⟩ : ∃ w0, w0 = ((w.alloc (.cells #[.int .i64 n, .slice va vl vc] 24)).alloc (.cells #[.int .i64 0, .slice none 0 0] 24)).alloc (.cells #[.int .i64 K, .slice none 0 0] 24) := ⟨_, rfl⟩
  have hB0 : Below w.heap.size w w0 := by rw [hw0]; exact ((balloc w _).alloc (by simp) _).alloc (by simp; omega) _
  have hG0 : BoxG w0 w.heap.size n (.slice va vl vc) := by rw [hw0]; exact ((blk0 (w := w) (T := 24) _ _).alloc _).alloc _
  have hR0 : Blk w0 (w.heap.size + 1) 24 [.int .i64 0, .slice none 0 0] := by
    have := (blk0 (w := w.alloc (.cells #[.int .i64 n, .slice va vl vc] 24)) (T := 24) (.int .i64 0) (.slice none 0 0)).alloc (.cells #[.int .i64 K, .slice none 0 0] 24)
    rw [World.size_alloc] at this
    rw [hw0]; exact this
  have hX0 : Blk w0 (w.heap.size + 1 + 1) 24 [.int .i64 K, .slice none 0 0] := by
    have := blk0 (w := (w.alloc (.cells #[.int .i64 n, .slice va vl vc] 24)).alloc (.cells #[.int .i64 0, .slice none 0 0] 24)) (T := 24) (.int .i64 K) (.slice none 0 0)
    rw [World.size_alloc, World.size_alloc] at this
    rw [hw0]; exact this
  go_enter Tryz.func36, Tryz.ntmps36
  go_wp2
  rw [← hw0]
  clear hw0
  go_loopw [17] (fun i wr => ∃ (a : Nat) (r : Value), a ≤ K ∧ i = .int .i64 a ∧ Row wr (w.heap.size + 1 + 1 + 1) r (T.take (a * K)) ∧ BoxG wr w.heap.size n (.slice va vl vc) ∧ Blk wr (w.heap.size + 1) 24 [.int .i64 0, .slice none 0 0] ∧ Blk wr (w.heap.size + 1 + 1) 24 [.int .i64 K, r] ∧ Below w.heap.size w wr) (fun i _ => K - (intOf i).toNat)
  case atStart => exact ⟨0, .slice none 0 0, by omega, rfl, by simpa using nil_row _ _, hG0, hR0, hX0, hB0⟩
  case round =>
    obtain ⟨a, r, ha, rfl, hrow, hG, hR, hX, hB⟩ := hrel
    clear hR0 hX0 hB0 hG0
    by_cases hlta : a < K
    · have hai : (a : Int) < (K : Int) := by omega
      obtain rfl := HL1.out (by omega)
      obtain ⟨ya, cya, hya⟩ := HL2.out a hlta
      obtain ⟨ta, hta, hna⟩ := HH.out a hlta
      have cya := below_cell hB cya
      rw [hta] at hya
      obtain ⟨y1, y2, yb, yo, rfl, hyr, hyb, hyc, hym⟩ := hya
      have hyl : ((hs a : Int) :: ta).length = ta.length + 1 := rfl
      have hcx := hyr.cell 0 (by rw [hyl]; omega)
      rw [show ((hs a : Int) :: ta)[0]?.getD 0 = (hs a : Int) from rfl, Nat.add_zero] at hcx
      obtain rfl := hyr.at_ (by rw [hyl]; omega)
      rw [hyl] at cya hyc
      have hta9 : ta.length + 1 ≤ 9223372036854775807 := by unfold maxLen at hym; omega
      have HCX := hide hcx
      clear hyr hym hta hcx hyl
      go_wp2
      go_loopw [23] (fun i wr => ∃ (b : Nat) (r : Value), b ≤ K ∧ i = .int .i64 b ∧ Row wr (w.heap.size + 1 + 1 + 1) r (T.take (a * K + b)) ∧ BoxG wr w.heap.size n (.slice va vl vc) ∧ Blk wr (w.heap.size + 1) 24 [.int .i64 0, .slice none 0 0] ∧ Blk wr (w.heap.size + 1 + 1) 24 [.int .i64 K, r] ∧ Below w.heap.size w wr) (fun i _ => K - (intOf i).toNat)
      case atStart => exact ⟨0, r, by omega, rfl, hrow, hG, hR, hX, hB⟩
      case round =>
        obtain ⟨b, r', hb, rfl, hrow', hG', hR', hX', hB'⟩ := hrel
        clear hrow hG hR hX hB
        by_cases hltb : b < K
        · have hbi : (b : Int) < (K : Int) := by omega
          obtain ⟨yb9, cyb, hyb9⟩ := HL2.out b hltb
          obtain ⟨tb, htb, hnb⟩ := HH.out b hltb
          have cyb := below_cell hB' cyb
          rw [htb] at hyb9
          obtain ⟨z1, z2, zb, zo, rfl, hzr, hzb, hzc, hzm⟩ := hyb9
          have hzl : ((hs b : Int) :: tb).length = tb.length + 1 := rfl
          have hcz := hzr.cell 0 (by rw [hzl]; omega)
          rw [show ((hs b : Int) :: tb)[0]?.getD 0 = (hs b : Int) from rfl, Nat.add_zero] at hcz
          obtain rfl := hzr.at_ (by rw [hzl]; omega)
          rw [hzl] at cyb hzc
          have htb9 : tb.length + 1 ≤ 9223372036854775807 := by unfold maxLen at hzm; omega
          have HCZ := hide hcz
          clear hcz
          have HVL := hide (HTG.out a b hlta hltb)
          have hpl := place_lt hlta hltb
          have hlen : (T.take (a * K + b)).length = a * K + b := by rw [List.length_take, HTL.out]; omega
          have HSN := hide (show T.take (a * K + (b + 1)) = T.take (a * K + b) ++ [(F a b : Int)] by
            rw [← Nat.add_assoc, take_snoc' (by rw [HTL.out]; exact hpl), HVL.out])
          have hKK : K * K ≤ 3600 := Nat.mul_le_mul hK6 hK6
          have HLL := hide (show (T.take (a * K + b)).length ≤ 3600 by rw [hlen]; omega)
          have hown : wr.ownsRow (w.heap.size + 1 + 1 + 1) 3 1 r' (T.take (a * K + b)).length ((T.take (a * K + b)).map (Value.int .i64)) := hrow'
          have hp : hs a * n + hs b < n * n := place_lt hna hnb
          have hcm : wr.cell? ⟨w.heap.size, 0, none⟩ = some (.int .i64 n) := hG'.two.1
          have hcv : wr.cell? ⟨w.heap.size, 1, none⟩ = some (.slice va vl vc) := hG'.two.2.1
          obtain ⟨xa, xc, xb, xo, hve, hxr, hxb, _, hxm⟩ := HV.out
          injection hve with e1 e2 e3
          subst e1 e2 e3
          have hzn : zs.length = n * n := ht.len
          have hcc := hxr.cell (hs a * n + hs b) (by rw [hzn]; exact hp)
          obtain rfl := hxr.at_ (by rw [hzn]; omega)
          obtain ⟨h9a, h9b⟩ := ht.rng _ hp
          have hce : zs[hs a * n + hs b]?.getD 0 = (tm n zs (hs a) (hs b) : Int) := by unfold tm; omega
          rw [hce] at hcc
          have hq6 := HF6.out a b hlta hltb
          have hd6 : tm n zs (hs a) (hs b) < 60 := by
            have := tm_lt ht hna hnb
            omega
          have HOL := hide (fun (W : World) (h : Below w.heap.size w W) => look_int (W := W) (HMP.out.kept (below_grown h none) (by simp)) hd6 (HF.out a b hlta hltb))
          generalize tm n zs (hs a) (hs b) = d9 at *
          generalize F a b = q9 at *
          have hpi : (hs a : Int) * (n : Int) + (hs b : Int) = ((hs a * n + hs b : Nat) : Int) := by rw [Int.natCast_add, Int.natCast_mul]
          have hpz : ((hs a * n + hs b : Nat) : Int) < (zs.length : Int) := by rw [hzn]; omega
          have hxm9 : zs.length ≤ 9223372036854775807 := by unfold maxLen at hxm; omega
          have hmu : IntKind.i64.wrap ((hs a : Int) * (n : Int)) = (hs a : Int) * (n : Int) := by
            have h1 : hs a * n ≤ 60 * 60 := Nat.mul_le_mul (Nat.le_of_lt (Nat.lt_of_lt_of_le hna hn)) hn
            rw [IntKind.wrap_i64, ← Int.natCast_mul]
            omega
          have hwp : IntKind.i64.wrap ((hs a * n + hs b : Nat) : Int) = ((hs a * n + hs b : Nat) : Int) := by
            have h1 : n * n ≤ 60 * 60 := Nat.mul_le_mul hn hn
            rw [IntKind.wrap_i64]
            omega
          clear hzn hp
          clear hlen hrow' HVL hxr hzr hzm hzl htb hce h9a h9b hxm
          generalize T.take (a * K + b) = xs at *
          generalize hs a * n + hs b = p9 at *
          have HS := hide (fun (W : World) (h : Below w.heap.size w W) (hG : BoxG W w.heap.size n (.slice (some ⟨xb, xo, none⟩) zs.length vc)) => show (Below w.heap.size w W ∧ W.cell? ⟨w.heap.size, 0, none⟩ = some (.int .i64 n) ∧ W.cell? ⟨w.heap.size, 1, none⟩ = some (.slice (some ⟨xb, xo, none⟩) zs.length vc) ∧ W.cell? ⟨yb, yo, none⟩ = some (.int .i64 (hs a : Int)) ∧ W.cell? ⟨zb, zo, none⟩ = some (.int .i64 (hs b : Int)) ∧ W.cell? ⟨xb, xo + p9, none⟩ = some (.int .i64 (d9 : Int)) ∧ Sem.run Tryz.prog (Instr.lookup 68 (.map (some mb)) (.int .i64 (d9 : Int)) false) W = .ok (.int .i64 (q9 : Int)) W) from ⟨h, hG.two.1, hG.two.2.1, below_cell h HCX.out, below_cell h HCZ.out, below_cell h hcc, HOL.out W h⟩)
          clear hcc HOL
          obtain ⟨rx, rcap, rfl⟩ := own_slice hown
          obtain ⟨x0, x1, fx0, fx1⟩ := hX'.two
          have hs2 := hX'.lt
          go_wp2_with fail
          have hS9 : (fun W => Below w.heap.size w W ∧ W.cell? ⟨w.heap.size, 0, none⟩ = some (.int .i64 n) ∧ W.cell? ⟨w.heap.size, 1, none⟩ = some (.slice (some ⟨xb, xo, none⟩) zs.length vc) ∧ W.cell? ⟨yb, yo, none⟩ = some (.int .i64 (hs a : Int)) ∧ W.cell? ⟨zb, zo, none⟩ = some (.int .i64 (hs b : Int)) ∧ W.cell? ⟨xb, xo + p9, none⟩ = some (.int .i64 (d9 : Int)) ∧ Sem.run Tryz.prog (Instr.lookup 68 (.map (some mb)) (.int .i64 (d9 : Int)) false) W = .ok (.int .i64 (q9 : Int)) W) wr.drew := HS.out _ (bdrew hB') hG'
          refine wp_region_held_drew (S := (fun W => Below w.heap.size w W ∧ W.cell? ⟨w.heap.size, 0, none⟩ = some (.int .i64 n) ∧ W.cell? ⟨w.heap.size, 1, none⟩ = some (.slice (some ⟨xb, xo, none⟩) zs.length vc) ∧ W.cell? ⟨yb, yo, none⟩ = some (.int .i64 (hs a : Int)) ∧ W.cell? ⟨zb, zo, none⟩ = some (.int .i64 (hs b : Int)) ∧ W.cell? ⟨xb, xo + p9, none⟩ = some (.int .i64 (d9 : Int)) ∧ Sem.run Tryz.prog (Instr.lookup 68 (.map (some mb)) (.int .i64 (d9 : Int)) false) W = .ok (.int .i64 (q9 : Int)) W)) (by kernel_rfl) hS9 (fun hHeld => ?_)
          refine wpAnyH_take (i := 0) (oi := ({ dst := some 27, op := Go.Op.fieldAddr 24 (Go.Operand.tmp 7) 1, type := 0, pos := _, after := #[], guard := none } : Oper)) (v := ?_) rfl (by kernel_rfl) (by kernel_rfl) (by kernel_rfl) (fun _ _ _ h => h) (Or.inl ⟨by rfl, ?_⟩) (by assumption) ?_
          rotate_left
          · (intro w hSw; (try dsimp only at hSw); go_simp; try with_reducible rfl)
          simp only [Act.put, List.setIfInBounds_toArray, List.set_cons_zero, List.set_cons_succ]
          refine wpAnyH_take (i := 2) (oi := ({ dst := some 29, op := Go.Op.move (Go.Operand.tmp 2), type := 68, pos := _, after := #[], guard := none } : Oper)) (v := ?_) rfl (by kernel_rfl) (by kernel_rfl) (by kernel_rfl) (fun _ _ _ h => h) (Or.inl ⟨by rfl, ?_⟩) (by assumption) ?_
          rotate_left
          · (intro w hSw; (try dsimp only at hSw); go_simp; try with_reducible rfl)
          simp only [Act.put, List.setIfInBounds_toArray, List.set_cons_zero, List.set_cons_succ]
          refine wpAnyH_take (i := 3) (oi := ({ dst := some 30, op := Go.Op.fieldAddr 24 (Go.Operand.tmp 3) 1, type := 0, pos := _, after := #[], guard := none } : Oper)) (v := ?_) rfl (by kernel_rfl) (by kernel_rfl) (by kernel_rfl) (fun _ _ _ h => h) (Or.inl ⟨by rfl, ?_⟩) (by assumption) ?_
          rotate_left
          · (intro w hSw; (try dsimp only at hSw); go_simp; try with_reducible rfl)
          simp only [Act.put, List.setIfInBounds_toArray, List.set_cons_zero, List.set_cons_succ]
          refine wpAnyH_take (i := 4) (oi := ({ dst := some 31, op := Go.Op.load 22 (Go.Operand.tmp 30), type := 22, pos := _, after := #[{ on := 3, ground := Go.Ground.data }], guard := none } : Oper)) (v := ?_) rfl (by kernel_rfl) (by kernel_rfl) (by kernel_rfl) (fun _ _ _ h => h) (Or.inl ⟨by rfl, ?_⟩) (by assumption) ?_
          rotate_left
          · (intro w hSw; (try dsimp only at hSw); go_simp; try with_reducible rfl)
          simp only [Act.put, List.setIfInBounds_toArray, List.set_cons_zero, List.set_cons_succ]
          refine wpAnyH_take (i := 5) (oi := ({ dst := some 32, op := Go.Op.move (Go.Operand.tmp 9), type := 22, pos := _, after := #[], guard := none } : Oper)) (v := ?_) rfl (by kernel_rfl) (by kernel_rfl) (by kernel_rfl) (fun _ _ _ h => h) (Or.inl ⟨by rfl, ?_⟩) (by assumption) ?_
          rotate_left
          · (intro w hSw; (try dsimp only at hSw); go_simp; try with_reducible rfl)
          simp only [Act.put, List.setIfInBounds_toArray, List.set_cons_zero, List.set_cons_succ]
          refine wpAnyH_take (i := 6) (oi := ({ dst := some 33, op := Go.Op.indexAddr 22 (Go.Operand.tmp 32) (Go.Operand.const (Go.Value.int Go.IntKind.i64 0)), type := 0, pos := _, after := #[{ on := 5, ground := Go.Ground.data }], guard := none } : Oper)) (v := ?_) rfl (by kernel_rfl) (by kernel_rfl) (by kernel_rfl) (fun _ _ _ h => h) (Or.inl ⟨by rfl, ?_⟩) (by assumption) ?_
          rotate_left
          · (intro w hSw; (try dsimp only at hSw); go_simp; try with_reducible rfl)
          simp only [Act.put, List.setIfInBounds_toArray, List.set_cons_zero, List.set_cons_succ]
          refine wpAnyH_take (i := 7) (oi := ({ dst := some 34, op := Go.Op.load 3 (Go.Operand.tmp 33), type := 3, pos := _, after := #[{ on := 6, ground := Go.Ground.data }], guard := none } : Oper)) (v := ?_) rfl (by kernel_rfl) (by kernel_rfl) (by kernel_rfl) (fun _ _ _ h => h) (Or.inl ⟨by rfl, ?_⟩) (by assumption) ?_
          rotate_left
          · (intro w hSw; (try dsimp only at hSw); go_simp; try with_reducible rfl)
          simp only [Act.put, List.setIfInBounds_toArray, List.set_cons_zero, List.set_cons_succ]
          refine wpAnyH_take (i := 8) (oi := ({ dst := some 35, op := Go.Op.fieldAddr 24 (Go.Operand.tmp 3) 0, type := 0, pos := _, after := #[], guard := none } : Oper)) (v := ?_) rfl (by kernel_rfl) (by kernel_rfl) (by kernel_rfl) (fun _ _ _ h => h) (Or.inl ⟨by rfl, ?_⟩) (by assumption) ?_
          rotate_left
          · (intro w hSw; (try dsimp only at hSw); go_simp; try with_reducible rfl)
          simp only [Act.put, List.setIfInBounds_toArray, List.set_cons_zero, List.set_cons_succ]
          refine wpAnyH_take (i := 9) (oi := ({ dst := some 36, op := Go.Op.load 3 (Go.Operand.tmp 35), type := 3, pos := _, after := #[{ on := 8, ground := Go.Ground.data }], guard := none } : Oper)) (v := ?_) rfl (by kernel_rfl) (by kernel_rfl) (by kernel_rfl) (fun _ _ _ h => h) (Or.inl ⟨by rfl, ?_⟩) (by assumption) ?_
          rotate_left
          · (intro w hSw; (try dsimp only at hSw); go_simp; try with_reducible rfl)
          simp only [Act.put, List.setIfInBounds_toArray, List.set_cons_zero, List.set_cons_succ]
          refine wpAnyH_take (i := 10) (oi := ({ dst := some 37, op := Go.Op.binOp Go.BinOp.mul 3 (Go.Operand.tmp 34) (Go.Operand.tmp 36) 3, type := 3, pos := _, after := #[{ on := 7, ground := Go.Ground.data }, { on := 9, ground := Go.Ground.data }], guard := none } : Oper)) (v := ?_) rfl (by kernel_rfl) (by kernel_rfl) (by kernel_rfl) (fun _ _ _ h => h) (Or.inl ⟨by rfl, ?_⟩) (by assumption) ?_
          rotate_left
          · (intro w hSw; (try dsimp only at hSw); go_simp; try with_reducible rfl)
          simp only [Act.put, List.setIfInBounds_toArray, List.set_cons_zero, List.set_cons_succ]
          refine wpAnyH_take (i := 11) (oi := ({ dst := some 38, op := Go.Op.move (Go.Operand.tmp 11), type := 22, pos := _, after := #[], guard := none } : Oper)) (v := ?_) rfl (by kernel_rfl) (by kernel_rfl) (by kernel_rfl) (fun _ _ _ h => h) (Or.inl ⟨by rfl, ?_⟩) (by assumption) ?_
          rotate_left
          · (intro w hSw; (try dsimp only at hSw); go_simp; try with_reducible rfl)
          simp only [Act.put, List.setIfInBounds_toArray, List.set_cons_zero, List.set_cons_succ]
          refine wpAnyH_take (i := 12) (oi := ({ dst := some 39, op := Go.Op.indexAddr 22 (Go.Operand.tmp 38) (Go.Operand.const (Go.Value.int Go.IntKind.i64 0)), type := 0, pos := _, after := #[{ on := 11, ground := Go.Ground.data }], guard := none } : Oper)) (v := ?_) rfl (by kernel_rfl) (by kernel_rfl) (by kernel_rfl) (fun _ _ _ h => h) (Or.inl ⟨by rfl, ?_⟩) (by assumption) ?_
          rotate_left
          · (intro w hSw; (try dsimp only at hSw); go_simp; try with_reducible rfl)
          simp only [Act.put, List.setIfInBounds_toArray, List.set_cons_zero, List.set_cons_succ]
          refine wpAnyH_take (i := 13) (oi := ({ dst := some 40, op := Go.Op.load 3 (Go.Operand.tmp 39), type := 3, pos := _, after := #[{ on := 12, ground := Go.Ground.data }], guard := none } : Oper)) (v := ?_) rfl (by kernel_rfl) (by kernel_rfl) (by kernel_rfl) (fun _ _ _ h => h) (Or.inl ⟨by rfl, ?_⟩) (by assumption) ?_
          rotate_left
          · (intro w hSw; (try dsimp only at hSw); go_simp; try with_reducible rfl)
          simp only [Act.put, List.setIfInBounds_toArray, List.set_cons_zero, List.set_cons_succ]
          refine wpAnyH_take (i := 14) (oi := ({ dst := some 41, op := Go.Op.binOp Go.BinOp.add 3 (Go.Operand.tmp 37) (Go.Operand.tmp 40) 3, type := 3, pos := _, after := #[{ on := 10, ground := Go.Ground.data }, { on := 13, ground := Go.Ground.data }], guard := none } : Oper)) (v := ?_) rfl (by kernel_rfl) (by kernel_rfl) (by kernel_rfl) (fun _ _ _ h => h) (Or.inl ⟨by rfl, ?_⟩) (by assumption) ?_
          rotate_left
          · (intro w hSw; (try dsimp only at hSw); go_simp; try with_reducible rfl)
          simp only [Act.put, List.setIfInBounds_toArray, List.set_cons_zero, List.set_cons_succ]
          refine wpAnyH_take (i := 15) (oi := ({ dst := some 42, op := Go.Op.indexAddr 22 (Go.Operand.tmp 31) (Go.Operand.tmp 41), type := 0, pos := _, after := #[{ on := 4, ground := Go.Ground.data }, { on := 14, ground := Go.Ground.data }], guard := none } : Oper)) (v := ?_) rfl (by kernel_rfl) (by kernel_rfl) (by kernel_rfl) (fun _ _ _ h => h) (Or.inl ⟨by rfl, ?_⟩) (by assumption) ?_
          rotate_left
          · (intro w hSw; (try dsimp only at hSw); go_simp; try with_reducible rfl)
          simp only [Act.put, List.setIfInBounds_toArray, List.set_cons_zero, List.set_cons_succ]
          refine wpAnyH_take (i := 16) (oi := ({ dst := some 43, op := Go.Op.load 3 (Go.Operand.tmp 42), type := 3, pos := _, after := #[{ on := 15, ground := Go.Ground.data }], guard := none } : Oper)) (v := ?_) rfl (by kernel_rfl) (by kernel_rfl) (by kernel_rfl) (fun _ _ _ h => h) (Or.inl ⟨by rfl, ?_⟩) (by assumption) ?_
          rotate_left
          · (intro w hSw; (try dsimp only at hSw); go_simp; try with_reducible rfl)
          simp only [Act.put, List.setIfInBounds_toArray, List.set_cons_zero, List.set_cons_succ]
          refine wpAnyH_take (i := 17) (oi := ({ dst := some 44, op := Go.Op.lookup 68 (Go.Operand.tmp 29) (Go.Operand.tmp 43) false, type := 3, pos := _, after := #[{ on := 2, ground := Go.Ground.data }, { on := 16, ground := Go.Ground.data }], guard := none } : Oper)) (v := ?_) rfl (by kernel_rfl) (by kernel_rfl) (by kernel_rfl) (fun _ _ _ h => h) (Or.inl ⟨by rfl, ?_⟩) (by assumption) ?_
          rotate_left
          · (intro w hSw; (try dsimp only at hSw); go_simp; try with_reducible rfl)
          simp only [Act.put, List.setIfInBounds_toArray, List.set_cons_zero, List.set_cons_succ]
          refine wpAnyH_ready (rs := [1, 18]) (by kernel_rfl) (by simp) (AllReadyH.cons (o := ({ dst := some 28, op := Go.Op.load 22 (Go.Operand.tmp 27), type := 22, pos := _, after := #[{ on := 0, ground := Go.Ground.data }], guard := none } : Oper)) rfl (fun KK hK => ?_) (AllReadyH.cons (o := ({ dst := some 45, op := Go.Op.buildSlice 22 1 #[(0, Go.Operand.tmp 44)], type := 22, pos := _, after := #[{ on := 17, ground := Go.Ground.data }], guard := none } : Oper)) rfl (fun KK hK => ?_) AllReadyH.nil))
          · go_simp
            refine hK.out _ _ hHeld (fun hHeld => ?_)
            clear hK
            try simp only [Act.put, List.setIfInBounds_toArray, List.set_cons_zero, List.set_cons_succ]
            refine wpAnyH_ready (rs := [18]) (by kernel_rfl) (by simp) (AllReadyH.cons (o := ({ dst := some 45, op := Go.Op.buildSlice 22 1 #[(0, Go.Operand.tmp 44)], type := 22, pos := _, after := #[{ on := 17, ground := Go.Ground.data }], guard := none } : Oper)) rfl (fun KK hK => ?_) AllReadyH.nil)
            go_simp
            refine hK.out _ _ (HS.out _ ((bdrew hB').alloc (bdrew hB').size _) (Blk.alloc (show Blk wr.drew w.heap.size 24 [.int .i64 n, .slice (some ⟨xb, xo, none⟩) zs.length vc] from hG') _)) (fun hHeld => ?_)
            clear hK
            try simp only [Act.put, List.setIfInBounds_toArray, List.set_cons_zero, List.set_cons_succ]
            refine wpAnyH_ready (rs := [19]) (by kernel_rfl) (by simp) (AllReadyH.cons (o := ({ dst := some 46, op := Go.Op.call { callee := Go.Callee.builtin Go.Builtin.append, args := #[Go.Operand.tmp 28, Go.Operand.tmp 45], argTypes := #[22, 22] }, type := 22, pos := _, after := #[{ on := 1, ground := Go.Ground.data }, { on := 18, ground := Go.Ground.data }], guard := none } : Oper)) rfl (fun KK hK => ?_) AllReadyH.nil)
            refine step_append_lies _ rfl _ _ 22 rfl (w.heap.size + 1 + 1 + 1) 3 i0 (.int .i64 0) 1 8 under22b hi hz0 hz1 hz2 rfl (by decide) _ _ _ rfl (World.ownsRow.alloc hown _) ⟨wr.heap.size, 0, none⟩ 1 1 [.int .i64 q9] rfl rfl (cell_one_new _ _ _) (by simp [Value.oneCell']) (by decide) (by unfold maxLen; have := HLL.out; omega) (by have := HLL.out; omega) (by simp; omega) _ rfl ?_
            intro g9 cap9 w9 hown9 hgrow hloc _
            have hk9 : ∀ k, k < w.heap.size + 1 + 1 + 1 → w9.heap[k]? = wr.heap[k]? := fun k hk => (hgrow.block k (by simp; omega) (fun e9 => by have := owns_ge hown k e9.symm; omega)).trans (Below.heap_alloc _ _ k (show k < wr.heap.size by omega))
            have hX9 : Blk w9 (w.heap.size + 1 + 1) 24 [.int .i64 K, .slice rx xs.length rcap] := hX'.of_eq (hk9 _ (by omega))
            have hcw := hX9.two.2.1
            have hfw := hX9.two.2.2.2
            have hG9 : BoxG w9 w.heap.size n (.slice (some ⟨xb, xo, none⟩) zs.length vc) := hG'.of_eq (hk9 _ (by omega))
            have hB9 : Below w.heap.size w w9 := ((bdrew hB').alloc (bdrew hB').size _).grown hgrow (by have := hB'.size; simp; omega) (fun t e9 => by have := owns_ge hown t e9; omega)
            have hG3 := hG9.other (p := ⟨w.heap.size + 1 + 1, 1, none⟩) (by simp; omega) (.slice (some ⟨g9, 0, none⟩) (xs.length + 1) cap9)
            have hB3 := hB9.setCell (p := ⟨w.heap.size + 1 + 1, 1, none⟩) (by simp; omega) (.slice (some ⟨g9, 0, none⟩) (xs.length + 1) cap9)
            refine hK.out _ _ (HS.out _ hB9 hG9) (fun hHeld => ?_)
            clear hK
            try simp only [Act.put, List.setIfInBounds_toArray, List.set_cons_zero, List.set_cons_succ]
            refine wpAnyH_take (i := 20) (oi := ({ dst := some 47, op := Go.Op.fieldAddr 24 (Go.Operand.tmp 7) 1, type := 0, pos := _, after := #[{ on := 0, ground := Go.Ground.phase }, { on := 1, ground := Go.Ground.phase }, { on := 2, ground := Go.Ground.phase }, { on := 3, ground := Go.Ground.phase }, { on := 4, ground := Go.Ground.phase }, { on := 5, ground := Go.Ground.phase }, { on := 6, ground := Go.Ground.phase }, { on := 7, ground := Go.Ground.phase }, { on := 8, ground := Go.Ground.phase }, { on := 9, ground := Go.Ground.phase }, { on := 10, ground := Go.Ground.phase }, { on := 11, ground := Go.Ground.phase }, { on := 12, ground := Go.Ground.phase }, { on := 13, ground := Go.Ground.phase }, { on := 14, ground := Go.Ground.phase }, { on := 15, ground := Go.Ground.phase }, { on := 16, ground := Go.Ground.phase }, { on := 17, ground := Go.Ground.phase }, { on := 18, ground := Go.Ground.phase }, { on := 19, ground := Go.Ground.phase }], guard := none } : Oper)) (v := ?_) rfl (by kernel_rfl) (by kernel_rfl) (by kernel_rfl) (fun _ _ _ h => h) (Or.inl ⟨by rfl, ?_⟩) (by assumption) ?_
            rotate_left
            · (intro w hSw; (try dsimp only at hSw); go_simp; try with_reducible rfl)
            simp only [Act.put, List.setIfInBounds_toArray, List.set_cons_zero, List.set_cons_succ]
            refine wpAnyH_ready (rs := [21]) (by kernel_rfl) (by simp) (AllReadyH.cons (o := ({ dst := none, op := Go.Op.store 22 (Go.Operand.tmp 47) (Go.Operand.tmp 46), type := 0, pos := _, after := #[{ on := 20, ground := Go.Ground.data }, { on := 19, ground := Go.Ground.data }, { on := 19, ground := Go.Ground.chain }, { on := 0, ground := Go.Ground.phase }, { on := 1, ground := Go.Ground.phase }, { on := 2, ground := Go.Ground.phase }, { on := 3, ground := Go.Ground.phase }, { on := 4, ground := Go.Ground.phase }, { on := 5, ground := Go.Ground.phase }, { on := 6, ground := Go.Ground.phase }, { on := 7, ground := Go.Ground.phase }, { on := 8, ground := Go.Ground.phase }, { on := 9, ground := Go.Ground.phase }, { on := 10, ground := Go.Ground.phase }, { on := 11, ground := Go.Ground.phase }, { on := 12, ground := Go.Ground.phase }, { on := 13, ground := Go.Ground.phase }, { on := 14, ground := Go.Ground.phase }, { on := 15, ground := Go.Ground.phase }, { on := 16, ground := Go.Ground.phase }, { on := 17, ground := Go.Ground.phase }, { on := 18, ground := Go.Ground.phase }, { on := 19, ground := Go.Ground.phase }], guard := none } : Oper)) rfl (fun KK hK => ?_) AllReadyH.nil)
            go_simp
            refine hK.out _ _ (HS.out _ hB3 hG3) (fun hHeld => ?_)
            clear hK
            try simp only [Act.put, List.setIfInBounds_toArray, List.set_cons_zero, List.set_cons_succ]
            refine wpAnyH_done (by kernel_rfl) ?_ _
            have hX3 := hX9.set 1 (.slice (some ⟨g9, 0, none⟩) (xs.length + 1) cap9)
            have hR9 : Blk w9 (w.heap.size + 1) 24 [.int .i64 0, .slice none 0 0] := hR'.of_eq (hk9 _ (by omega))
            have hR3 := hR9.other (p := ⟨w.heap.size + 1 + 1, 1, none⟩) (by simp) (.slice (some ⟨g9, 0, none⟩) (xs.length + 1) cap9)
            have hrow9 : Row w9 (w.heap.size + 1 + 1 + 1) (.slice (some ⟨g9, 0, none⟩) (xs.length + 1) cap9) (T.take (a * K + (b + 1))) := by
              unfold Row
              rw [HSN.out]
              simpa using hown9
            have hrow3 := row_keep (W' := w9.setCell ⟨w.heap.size + 1 + 1, 1, none⟩ (.slice (some ⟨g9, 0, none⟩) (xs.length + 1) cap9)) hrow9 (fun g h1 _ => Below.heap_setCell _ _ _ g (by simp; omega))
            clear hown9 hgrow hown hrow9 hk9 hloc
            go_wp2
            go_roundw
            case rel => exact ⟨b + 1, _, by omega, by go_num, hrow3, hG3, hR3, hX3, hB3⟩
            case measure => simp [intOf]; omega
          · go_simp
            refine hK.out _ _ (HS.out _ ((bdrew hB').alloc (bdrew hB').size _) (Blk.alloc (show Blk wr.drew w.heap.size 24 [.int .i64 n, .slice (some ⟨xb, xo, none⟩) zs.length vc] from hG') _)) (fun hHeld => ?_)
            clear hK
            try simp only [Act.put, List.setIfInBounds_toArray, List.set_cons_zero, List.set_cons_succ]
            refine wpAnyH_ready (rs := [1]) (by kernel_rfl) (by simp) (AllReadyH.cons (o := ({ dst := some 28, op := Go.Op.load 22 (Go.Operand.tmp 27), type := 22, pos := _, after := #[{ on := 0, ground := Go.Ground.data }], guard := none } : Oper)) rfl (fun KK hK => ?_) AllReadyH.nil)
            have x1a := (Blk.alloc (show Blk wr.drew (w.heap.size + 1 + 1) 24 [.int .i64 K, .slice rx xs.length rcap] from hX') (.cells #[.int .i64 q9] 3)).two.2.1
            go_simp
            refine hK.out _ _ hHeld (fun hHeld => ?_)
            clear hK
            try simp only [Act.put, List.setIfInBounds_toArray, List.set_cons_zero, List.set_cons_succ]
            refine wpAnyH_ready (rs := [19]) (by kernel_rfl) (by simp) (AllReadyH.cons (o := ({ dst := some 46, op := Go.Op.call { callee := Go.Callee.builtin Go.Builtin.append, args := #[Go.Operand.tmp 28, Go.Operand.tmp 45], argTypes := #[22, 22] }, type := 22, pos := _, after := #[{ on := 1, ground := Go.Ground.data }, { on := 18, ground := Go.Ground.data }], guard := none } : Oper)) rfl (fun KK hK => ?_) AllReadyH.nil)
            refine step_append_lies _ rfl _ _ 22 rfl (w.heap.size + 1 + 1 + 1) 3 i0 (.int .i64 0) 1 8 under22b hi hz0 hz1 hz2 rfl (by decide) _ _ _ rfl (World.ownsRow.alloc hown _) ⟨wr.heap.size, 0, none⟩ 1 1 [.int .i64 q9] rfl rfl (cell_one_new _ _ _) (by simp [Value.oneCell']) (by decide) (by unfold maxLen; have := HLL.out; omega) (by have := HLL.out; omega) (by simp; omega) _ rfl ?_
            intro g9 cap9 w9 hown9 hgrow hloc _
            have hk9 : ∀ k, k < w.heap.size + 1 + 1 + 1 → w9.heap[k]? = wr.heap[k]? := fun k hk => (hgrow.block k (by simp; omega) (fun e9 => by have := owns_ge hown k e9.symm; omega)).trans (Below.heap_alloc _ _ k (show k < wr.heap.size by omega))
            have hX9 : Blk w9 (w.heap.size + 1 + 1) 24 [.int .i64 K, .slice rx xs.length rcap] := hX'.of_eq (hk9 _ (by omega))
            have hcw := hX9.two.2.1
            have hfw := hX9.two.2.2.2
            have hG9 : BoxG w9 w.heap.size n (.slice (some ⟨xb, xo, none⟩) zs.length vc) := hG'.of_eq (hk9 _ (by omega))
            have hB9 : Below w.heap.size w w9 := ((bdrew hB').alloc (bdrew hB').size _).grown hgrow (by have := hB'.size; simp; omega) (fun t e9 => by have := owns_ge hown t e9; omega)
            have hG3 := hG9.other (p := ⟨w.heap.size + 1 + 1, 1, none⟩) (by simp; omega) (.slice (some ⟨g9, 0, none⟩) (xs.length + 1) cap9)
            have hB3 := hB9.setCell (p := ⟨w.heap.size + 1 + 1, 1, none⟩) (by simp; omega) (.slice (some ⟨g9, 0, none⟩) (xs.length + 1) cap9)
            refine hK.out _ _ (HS.out _ hB9 hG9) (fun hHeld => ?_)
            clear hK
            try simp only [Act.put, List.setIfInBounds_toArray, List.set_cons_zero, List.set_cons_succ]
            refine wpAnyH_take (i := 20) (oi := ({ dst := some 47, op := Go.Op.fieldAddr 24 (Go.Operand.tmp 7) 1, type := 0, pos := _, after := #[{ on := 0, ground := Go.Ground.phase }, { on := 1, ground := Go.Ground.phase }, { on := 2, ground := Go.Ground.phase }, { on := 3, ground := Go.Ground.phase }, { on := 4, ground := Go.Ground.phase }, { on := 5, ground := Go.Ground.phase }, { on := 6, ground := Go.Ground.phase }, { on := 7, ground := Go.Ground.phase }, { on := 8, ground := Go.Ground.phase }, { on := 9, ground := Go.Ground.phase }, { on := 10, ground := Go.Ground.phase }, { on := 11, ground := Go.Ground.phase }, { on := 12, ground := Go.Ground.phase }, { on := 13, ground := Go.Ground.phase }, { on := 14, ground := Go.Ground.phase }, { on := 15, ground := Go.Ground.phase }, { on := 16, ground := Go.Ground.phase }, { on := 17, ground := Go.Ground.phase }, { on := 18, ground := Go.Ground.phase }, { on := 19, ground := Go.Ground.phase }], guard := none } : Oper)) (v := ?_) rfl (by kernel_rfl) (by kernel_rfl) (by kernel_rfl) (fun _ _ _ h => h) (Or.inl ⟨by rfl, ?_⟩) (by assumption) ?_
            rotate_left
            · (intro w hSw; (try dsimp only at hSw); go_simp; try with_reducible rfl)
            simp only [Act.put, List.setIfInBounds_toArray, List.set_cons_zero, List.set_cons_succ]
            refine wpAnyH_ready (rs := [21]) (by kernel_rfl) (by simp) (AllReadyH.cons (o := ({ dst := none, op := Go.Op.store 22 (Go.Operand.tmp 47) (Go.Operand.tmp 46), type := 0, pos := _, after := #[{ on := 20, ground := Go.Ground.data }, { on := 19, ground := Go.Ground.data }, { on := 19, ground := Go.Ground.chain }, { on := 0, ground := Go.Ground.phase }, { on := 1, ground := Go.Ground.phase }, { on := 2, ground := Go.Ground.phase }, { on := 3, ground := Go.Ground.phase }, { on := 4, ground := Go.Ground.phase }, { on := 5, ground := Go.Ground.phase }, { on := 6, ground := Go.Ground.phase }, { on := 7, ground := Go.Ground.phase }, { on := 8, ground := Go.Ground.phase }, { on := 9, ground := Go.Ground.phase }, { on := 10, ground := Go.Ground.phase }, { on := 11, ground := Go.Ground.phase }, { on := 12, ground := Go.Ground.phase }, { on := 13, ground := Go.Ground.phase }, { on := 14, ground := Go.Ground.phase }, { on := 15, ground := Go.Ground.phase }, { on := 16, ground := Go.Ground.phase }, { on := 17, ground := Go.Ground.phase }, { on := 18, ground := Go.Ground.phase }, { on := 19, ground := Go.Ground.phase }], guard := none } : Oper)) rfl (fun KK hK => ?_) AllReadyH.nil)
            go_simp
            refine hK.out _ _ (HS.out _ hB3 hG3) (fun hHeld => ?_)
            clear hK
            try simp only [Act.put, List.setIfInBounds_toArray, List.set_cons_zero, List.set_cons_succ]
            refine wpAnyH_done (by kernel_rfl) ?_ _
            have hX3 := hX9.set 1 (.slice (some ⟨g9, 0, none⟩) (xs.length + 1) cap9)
            have hR9 : Blk w9 (w.heap.size + 1) 24 [.int .i64 0, .slice none 0 0] := hR'.of_eq (hk9 _ (by omega))
            have hR3 := hR9.other (p := ⟨w.heap.size + 1 + 1, 1, none⟩) (by simp) (.slice (some ⟨g9, 0, none⟩) (xs.length + 1) cap9)
            have hrow9 : Row w9 (w.heap.size + 1 + 1 + 1) (.slice (some ⟨g9, 0, none⟩) (xs.length + 1) cap9) (T.take (a * K + (b + 1))) := by
              unfold Row
              rw [HSN.out]
              simpa using hown9
            have hrow3 := row_keep (W' := w9.setCell ⟨w.heap.size + 1 + 1, 1, none⟩ (.slice (some ⟨g9, 0, none⟩) (xs.length + 1) cap9)) hrow9 (fun g h1 _ => Below.heap_setCell _ _ _ g (by simp; omega))
            clear hown9 hgrow hown hrow9 hk9 hloc
            go_wp2
            go_roundw
            case rel => exact ⟨b + 1, _, by omega, by go_num, hrow3, hG3, hR3, hX3, hB3⟩
            case measure => simp [intOf]; omega
        · have hbi : ¬ (b : Int) < (K : Int) := by omega
          have hbe : b = K := by omega
          have hrow' : Row wr (w.heap.size + 1 + 1 + 1) r' (T.take ((a + 1) * K)) := by rw [show (a + 1) * K = a * K + b by rw [Nat.succ_mul, hbe]]; exact hrow'
          clear hbe
          go_wp2
          go_roundw
          case rel => exact ⟨a + 1, r', by omega, by go_num, hrow', hG', hR', hX', hB'⟩
          case measure => simp [intOf]; omega
    · have hai : ¬ (a : Int) < (K : Int) := by omega
      have hae : a = K := by omega
      have hrow : Row wr (w.heap.size + 1 + 1 + 1) r T := by
        have : T.take (a * K) = T := List.take_of_length_le (by rw [HTL.out, hae]; exact Nat.le_refl _)
        rw [← this]; exact hrow
      clear hae
      obtain ⟨rx, rcap, rfl⟩ := own_slice hrow
      obtain ⟨x0, x1, _, _⟩ := hX.two
      obtain ⟨y0, y1, fy0, fy1⟩ := hR.two
      have hR6 := (hR.set 0 (.int .i64 K)).set 1 (.slice rx T.length rcap)
      have hB6 := (hB.setCell (p := ⟨w.heap.size + 1, 0, none⟩) (by simp) (.int .i64 K)).setCell (p := ⟨w.heap.size + 1, 1, none⟩) (by simp) (.slice rx T.length rcap)
      have hrow6 := row_keep (W' := (wr.setCell ⟨w.heap.size + 1, 0, none⟩ (.int .i64 K)).setCell ⟨w.heap.size + 1, 1, none⟩ (.slice rx T.length rcap)) hrow (fun g h1 _ => (Below.heap_setCell _ _ _ g (by simp; omega)).trans (Below.heap_setCell _ _ _ g (by simp; omega)))
      go_wp2
      obtain ⟨z0, z1, _, _⟩ := hR6.two
      exact bodyPost_ret (v := .agg #[.int .i64 K, .slice rx T.length rcap]) (by simp [results, Tryz.results36, go_sem, z0, z1]) rfl ⟨_, rfl, owns_mono hrow6 (by omega), hB6⟩
set_option maxRecDepth 100000 in
set_option maxHeartbeats 4000000 in
theorem quo_bad (N : Int) (v u : Value) (zs l : List Int) (w : World) (hv : Sl w v zs) (hu : Sl w u l) (hT : Tab w) (hc : (ufault N zs l).1 ≠ 0) :
    Calls Tryz.prog 14 #[.agg #[.int .i64 N, v], u] w fun x w' => x = .returned (.tuple #[.agg #[.int .i64 0, .slice none 0 0], .slice none 0 0, .agg #[.int .i64 (ufault N zs l).1, .int .i64 (ufault N zs l).2]]) ∧ Below w.heap.size w w' := by
  obtain ⟨w0, BG⟩ := BegQ.new w N v
  have HN := hide (nrm_bad N v u zs l w0 (hv.below BG.bel) (hu.below BG.bel) (hT.below BG.bel) hc)
  obtain ⟨c0, c1, _, _⟩ := BG.box.two
  obtain ⟨c, i, hci⟩ : ∃ c i, ufault N zs l = (c, i) := ⟨_, _, rfl⟩
  rw [hci] at HN hc ⊢
  simp only at HN hc ⊢
  clear hci
  have hcb : (c != 0) = true := by simpa using hc
  rw [BG.eq] at c0 c1
  go_enter Tryz.func14, Tryz.ntmps14
  go_wp2_with fail
  rw [← BG.eq]
  clear c0 c1
  refine HN.out.mono ?_
  rintro x w1 ⟨rfl, hb1⟩
  have hb2 := bcat2 hb1 (balloc w1 (.cells #[.int .i64 c, .int .i64 i] 28))
  have hF2 := blk0 (w := w1) (T := 28) (.int .i64 c) (.int .i64 i)
  have hBw := bcat BG.bel hb2 BG.bel.size
  have hG2 := blk_below BG.grp hb2
  have hR2 := blk_below BG.res hb2
  obtain ⟨t0, t1, _, _⟩ := hF2.two
  obtain ⟨y0, y1, fy0, fy1⟩ := hR2.two
  obtain ⟨g0, g1, fg0, fg1⟩ := hG2.two
  obtain ⟨s0, s1⟩ := hG2.self
  obtain ⟨hR6, hB6⟩ := put2 hR2 hBw (by omega) c i
  have hG6 := (hG2.other (p := ⟨w.heap.size + 1 + 1, 0, none⟩) (by simp) (.int .i64 c)).other (p := ⟨w.heap.size + 1 + 1, 1, none⟩) (by simp) (.int .i64 i)
  obtain ⟨g2, g3, fg2, fg3⟩ := hG6.two
  obtain ⟨s2, s3⟩ := hG6.self
  go_wp2_with fail
  go_region
  all_goals (
    go_wp2
    obtain ⟨z0, z1, _, _⟩ := hR6.two
    exact bodyPost_ret (v := .tuple #[.agg #[.int .i64 0, .slice none 0 0], .slice none 0 0, .agg #[.int .i64 c, .int .i64 i]]) (by simp [results, Tryz.results14, go_sem, z0, z1, g2, g3]) rfl ⟨rfl, bdrew hB6⟩)
set_option maxRecDepth 100000 in
set_option maxHeartbeats 4000000 in
theorem quo_odd (n e : Nat) (v u : Value) (zs l : List Int) (w : World) (hv : Sl w v zs) (hg : IsGrp n zs e) (hu : Sl w u l) (hT : Tab w) (hl : lfault n l = (0, 0)) (hsb : subT n zs e (pset l) = true) (hN : nrmq n zs e (pset l) = false) :
    Calls Tryz.prog 14 #[.agg #[.int .i64 n, v], u] w fun x w' => x = .returned (.tuple #[.agg #[.int .i64 0, .slice none 0 0], .slice none 0 0, .agg #[.int .i64 4, .int .i64 0]]) ∧ Below w.heap.size w w' := by
  obtain ⟨w0, BG⟩ := BegQ.new w n v
  have HN := hide (nrm_good n e v u zs l w0 (hv.below BG.bel) hg (hu.below BG.bel) (hT.below BG.bel) hl hsb)
  rw [hN] at HN
  obtain ⟨c0, c1, _, _⟩ := BG.box.two
  rw [BG.eq] at c0 c1
  go_enter Tryz.func14, Tryz.ntmps14
  go_wp2_with fail
  rw [← BG.eq]
  clear c0 c1
  refine HN.out.mono ?_
  rintro x w1 ⟨rfl, hb1⟩
  have hb2 := bcat2 hb1 (balloc w1 (.cells #[.int .i64 0, .int .i64 0] 28))
  have hF2 := blk0 (w := w1) (T := 28) (.int .i64 0) (.int .i64 0)
  have hBw := bcat BG.bel hb2 BG.bel.size
  have hG2 := blk_below BG.grp hb2
  have hR2 := blk_below BG.res hb2
  obtain ⟨t0, t1, _, _⟩ := hF2.two
  obtain ⟨y0, y1, fy0, fy1⟩ := hR2.two
  obtain ⟨g0, g1, fg0, fg1⟩ := hG2.two
  obtain ⟨s0, s1⟩ := hG2.self
  obtain ⟨hR6, hB6⟩ := put2 hR2 hBw (by omega) 4 0
  have hG6 := (hG2.other (p := ⟨w.heap.size + 1 + 1, 0, none⟩) (by simp) (.int .i64 4)).other (p := ⟨w.heap.size + 1 + 1, 1, none⟩) (by simp) (.int .i64 0)
  obtain ⟨g2, g3, fg2, fg3⟩ := hG6.two
  go_wp2
  obtain ⟨z0, z1, _, _⟩ := hR6.two
  exact bodyPost_ret (v := .tuple #[.agg #[.int .i64 0, .slice none 0 0], .slice none 0 0, .agg #[.int .i64 4, .int .i64 0]]) (by simp [results, Tryz.results14, go_sem, z0, z1, g2, g3]) rfl ⟨rfl, hB6⟩
set_option maxRecDepth 100000 in
set_option maxHeartbeats 8000000 in
theorem quo_good (n e : Nat) (v u : Value) (zs l : List Int) (w : World) (hv : Sl w v zs) (hg : IsGrp n zs e) (hu : Sl w u l) (hT : Tab w) (hl : lfault n l = (0, 0)) (hsb : subT n zs e (pset l) = true) (hN : nrmq n zs e (pset l) = true) :
    Calls Tryz.prog 14 #[.agg #[.int .i64 n, v], u] w fun x w' => ∃ r1 r2 r3 s1 s2 s3, x = .returned (.tuple #[.agg #[.int .i64 (fsts n (rgtq n zs (lst n (pset l))) n).length, .slice r1 r2 r3], .slice s1 s2 s3, .agg #[.int .i64 0, .int .i64 0]]) ∧ Sl w' (.slice r1 r2 r3) (mkT (fsts n (rgtq n zs (lst n (pset l))) n).length (quoF n zs (rgtq n zs (lst n (pset l))))) ∧ Sl w' (.slice s1 s2 s3) (ontoL n (rgtq n zs (lst n (pset l)))) ∧ Below w.heap.size w w' := by
  obtain ⟨i0, hi, hz0, hz1, hz2⟩ := info_parts info3b
  have hn := hg.tab.le
  have PP := rgt_parts hg hsb
  obtain ⟨w0, BG⟩ := BegQ.new w n v
  have HN := hide (nrm_good n e v u zs l w0 (hv.below BG.bel) hg (hu.below BG.bel) (hT.below BG.bel) hl hsb)
  rw [hN] at HN
  have HRG := hide (fun W (h : Below w.heap.size w W) => lists_sl (Nat.lt_of_lt_of_le hT.lt h.size) (rgt_good n e v u zs l W (hv.below h) hg (hu.below h) (hT.below h) hl hsb))
  obtain ⟨f, hf⟩ : ∃ f, f = rgtq n zs (lst n (pset l)) := ⟨_, rfl⟩
  rw [← hf] at HRG PP ⊢
  clear hf
  obtain ⟨K, hK⟩ : ∃ K, K = (fsts n f n).length := ⟨_, rfl⟩
  have hK6 : K ≤ 60 := by rw [hK]; exact Nat.le_trans (fsts_len n f n) hn
  have HCL := hide (show (csl n f n).length = K by rw [csl_len, hK])
  have HNUM := hide (fun W v9 (h : SlL W v9 (csl n f n)) => numbers_ok v9 (csl n f n) W h (by rw [HCL.out]; exact hK6) (fun t _ => Nat.le_trans (csl_len_le t) hn) (fun t a ha => by
    obtain ⟨b, hb, rfl, _⟩ := (csl_at PP t a).1 ha
    omega) (fun s t a h1 h2 => by
    obtain ⟨b, hb, rfl, h3⟩ := (csl_at PP s a).1 h1
    obtain ⟨b', hb', he, h4⟩ := (csl_at PP t _).1 h2
    have : b = b' := by omega
    subst this
    omega))
  have HNL := hide (fun a (ha : a < n) => (prts_num_lt PP ha).1)
  rw [← hK] at HNL
  have HAT := hide (fun (D : DataW Unit) (h : MLs (csl n f n) (csl n f n).length 0 D) a (ha : a < n) => h.old (num n f a) (by rw [csl_len]; exact (prts_num_lt PP ha).1) a ((csl_at PP _ _).2 ⟨a, ha, rfl, rfl⟩))
  have HGR := hide (fun W lv mb c (D : DataW Unit) (h : Below w.heap.size w W) (hL : SlL W lv (csl n f n)) (hm : W.ownsMap Tryz.prog 3 (plainElem Tryz.prog 3) mb c D) (hM : MLs (csl n f n) (csl n f n).length 0 D) =>
    group_ok n K v lv zs (csl n f n) (fun i => (fsts n f n)[i]?.getD 0) (quoF n zs f) mb c D W hg.tab (hv.below h) hL HCL.out hK6 (fun i hi => by
      rw [hK] at hi
      obtain ⟨s, hs⟩ := csl_head PP hi
      exact ⟨s, hs, by rw [List.getElem?_eq_getElem hi]; exact fst_lt hi⟩) hm (fun i j hi hj => by
      rw [hK] at hi hj
      have h1 := fst_lt hi
      have h2 := fst_lt hj
      unfold quoF
      simp only [List.getElem?_eq_getElem hi, List.getElem?_eq_getElem hj, Option.getD_some]
      exact HAT.out D hM _ (tm_lt hg.tab h1 h2)) (fun i j hi hj => by
      rw [hK] at hi hj
      unfold quoF
      simp only [List.getElem?_eq_getElem hi, List.getElem?_eq_getElem hj, Option.getD_some]
      have := HNL.out _ (tm_lt hg.tab (fst_lt hi) (fst_lt hj))
      omega))
  rw [← hK]
  have HK := hide hK
  clear hK PP hN
  obtain ⟨c0, c1, _, _⟩ := BG.box.two
  rw [BG.eq] at c0 c1
  go_enter Tryz.func14, Tryz.ntmps14
  go_wp2_with fail
  rw [← BG.eq]
  clear c0 c1
  refine HN.out.mono ?_
  rintro x w1 ⟨rfl, hb1⟩
  have hb2 := bcat2 hb1 (balloc w1 (.cells #[.int .i64 0, .int .i64 0] 28))
  have hF2 := blk0 (w := w1) (T := 28) (.int .i64 0) (.int .i64 0)
  have hBw := bcat BG.bel hb2 BG.bel.size
  have hX2 := blk_below BG.box hb2
  have hG2 := blk_below BG.grp hb2
  have hR2 := blk_below BG.res hb2
  obtain ⟨t0, t1, _, _⟩ := hF2.two
  obtain ⟨c0, c1, _, _⟩ := hX2.two
  go_wp2_with fail
  generalize w1.alloc (.cells #[.int .i64 0, .int .i64 0] 28) = w2 at *
  clear t0 t1 c0 c1 hb1 hb2
  refine (HRG.out _ hBw).mono ?_
  rintro x w3 ⟨r1, r2, r3, rfl, hr, hb3⟩
  have hF3 := blk_below hF2 hb3
  have hX3 := blk_below hX2 hb3
  have hG3 := blk_below hG2 hb3
  have hR3 := blk_below hR2 hb3
  have hBw3 := bcat2 hBw hb3
  obtain ⟨t0, t1, ft0, ft1⟩ := hF3.two
  obtain ⟨s0, s1⟩ := hF3.self
  go_wp2_with fail
  clear t0 t1 ft0 ft1 s0 s1
  refine (HNUM.out _ _ hr).mono ?_
  rintro x w4 ⟨D, rfl, hmap, hML, hb4⟩
  have hX4 := blk_below hX3 hb4
  have hG4 := blk_below hG3 hb4
  have hR4 := blk_below hR3 hb4
  have hr4 := hr.below hb4
  have hBw4 := bcat2 hBw3 hb4
  obtain ⟨k0, k1, _, _⟩ := hX4.two
  clear hX2 hX3 hG2 hG3 hR2 hR3 hF2 hF3 hr hBw hBw3 HNUM HRG HN
  go_wp2_with (first
    | (at_make; refine wpList_make_full _ rfl _ _ 22 rfl w4.heap.size 3 i0 (.int .i64 0) 1 under22b hi hz0 hz1 _ _ _ _ n rfl rfl rfl rfl (by rw [hz2]; omega) (by unfold maxLen; omega) (by simp) ?_))
  intro w5 hown hgr
  have hM5 : Blk w5 w4.heap.size 3 ((ontoU n f 0).map (Value.int .i64)) := by
    have := Blk.of_owns hown
    rw [made_rep] at this
    rw [ontoU_zero, List.map_replicate]; exact this
  have hb5 : Below w4.heap.size w4 w5 := (Below.refl _ w4).grown hgr (Nat.le_refl _) (by simp)
  clear hown hgr k0 k1
  have hw34 := hb4.size
  have HMP := hide hmap
  clear hmap
  go_wp2
  go_loopw [46] (fun i wr => ∃ a : Nat, a ≤ n ∧ i = .int .i64 a ∧ Blk wr w4.heap.size 3 ((ontoU n f a).map (Value.int .i64)) ∧ Below w4.heap.size w4 wr) (fun i _ => n - (intOf i).toNat)
  case atStart => exact ⟨0, Nat.zero_le _, rfl, hM5, hb5⟩
  case round =>
    obtain ⟨a, ha, rfl, hMa, hBa⟩ := hrel
    clear hM5 hb5
    by_cases hlt : a < n
    · have hai : (a : Int) < (n : Int) := by omega
      have hlk := look_int (HMP.out.kept (below_grown hBa none) (by simp)) (show a < 60 by omega) (HAT.out D hML a hlt)
      have hMc := hMa.int (y := a) (by rw [ontoU_len]; exact hlt)
      have hMf := hMa.frozen a
      have hM6 := hMa.setInt a (num n f a : Int)
      rw [← ontoU_set] at hM6
      have hB6 := hBa.setCell (p := ⟨w4.heap.size, a, none⟩) (Nat.le_refl _) (.int .i64 (num n f a : Int))
      go_wp2
      go_roundw
      case rel => exact ⟨a + 1, by omega, by go_num, hM6, hB6⟩
      case measure => simp [intOf]; omega
    · have hai : ¬ (a : Int) < (n : Int) := by omega
      have han : a = n := by omega
      rw [han, ontoU_all] at hMa
      clear han
      have hXr := blk_below hX4 hBa
      have hGr := blk_below hG4 hBa
      have hRr := blk_below hR4 hBa
      have hBr := bcat2 hBw4 hBa
      obtain ⟨k0, k1, _, _⟩ := hXr.two
      go_wp2_with fail
      clear k0 k1
      refine (HGR.out wr _ _ _ D hBr (hr4.below hBa) (HMP.out.kept (below_grown hBa none) (by simp)) hML).mono ?_
      rintro x w6 ⟨r, rfl, hrow, hb6⟩
      obtain ⟨T, hTe⟩ : ∃ T, T = mkT K (quoF n zs f) := ⟨_, rfl⟩
      rw [← hTe] at hrow
      have HTE := hide hTe
      clear hTe
      obtain ⟨rx, rcap, rfl⟩ := own_slice hrow
      have hMl := hMa.lt
      have hRl := hRr.lt
      have hGl := hGr.lt
      have hG6 := blk_below hGr hb6
      have hR6 := blk_below hRr hb6
      have hM6 := blk_below hMa hb6
      have hB6 := bcat2 hBr hb6
      obtain ⟨g0, g1, fg0, fg1⟩ := hG6.two
      have hG7 := (hG6.set 0 (.int .i64 K)).set 1 (.slice rx T.length rcap)
      have hR7 := (hR6.other (p := ⟨w.heap.size + 1, 0, none⟩) (by simp) (.int .i64 K)).other (p := ⟨w.heap.size + 1, 1, none⟩) (by simp) (.slice rx T.length rcap)
      have hMne : w4.heap.size ≠ w.heap.size + 1 := by have := hG4.lt; omega
      have hM7 := (hM6.other (p := ⟨w.heap.size + 1, 0, none⟩) (by simpa using hMne) (.int .i64 K)).other (p := ⟨w.heap.size + 1, 1, none⟩) (by simpa using hMne) (.slice rx T.length rcap)
      have hB7 := (hB6.setCell (p := ⟨w.heap.size + 1, 0, none⟩) (by simp) (.int .i64 K)).setCell (p := ⟨w.heap.size + 1, 1, none⟩) (by simp) (.slice rx T.length rcap)
      have hrow7 := row_keep (W' := (w6.setCell ⟨w.heap.size + 1, 0, none⟩ (.int .i64 K)).setCell ⟨w.heap.size + 1, 1, none⟩ (.slice rx T.length rcap)) hrow (fun g h1 _ => (Below.heap_setCell _ _ _ g (by simp; omega)).trans (Below.heap_setCell _ _ _ g (by simp; omega)))
      obtain ⟨y0, y1, fy0, fy1⟩ := hR7.two
      obtain ⟨s0, s1⟩ := hR7.self
      obtain ⟨v0, v1, fv0, fv1⟩ := hR6.two
      obtain ⟨z0, z1, _, _⟩ := hG7.two
      have hse := Sl.of_blk hM7 (ontoL_len n f).symm (by rw [ontoL_len]; omega)
      go_wp2
      exact bodyPost_ret (v := .tuple #[.agg #[.int .i64 K, .slice rx T.length rcap], .slice (some ⟨w4.heap.size, 0, none⟩) n n, .agg #[.int .i64 0, .int .i64 0]]) (by simp [results, Tryz.results14, go_sem, z0, z1, y0, y1]) rfl ⟨_, _, _, _, _, _, rfl, by rw [← HTE.out]; exact row_sl hrow7 (by rw [size_set, size_set]; have := hb6.size; omega), hse, hB7⟩
theorem rcj_lt {n e x a : Nat} {zs : List Int} (g : IsGrp n zs e) (hx : x < n) (ha : a < n) : Fin.cj (tm n zs) (iv n zs e) x a < n := List.mem_range.1 (Fin.cj_mem (grp_fg g) (grp_iv g) (List.mem_range.2 hx) (List.mem_range.2 ha))
def isn (n : Nat) (zs : List Int) (e : Nat) (xs : List Nat) : Bool := (List.range n).all fun a => xs.all fun x => decide (Fin.cj (tm n zs) (iv n zs e) x a ∈ xs)
theorem isn_iff {n e : Nat} {zs : List Int} {xs : List Nat} : isn n zs e xs = true ↔ ∀ a, a < n → ∀ x, x ∈ xs → Fin.cj (tm n zs) (iv n zs e) x a ∈ xs := by
  unfold isn
  simp only [List.all_eq_true, List.mem_range, decide_eq_true_eq]
theorem isn_eq {n e : Nat} {zs : List Int} {q : Nat → Bool} (g : IsGrp n zs e) : isn n zs e (lst n q) = nrmq n zs e q := by
  rw [Bool.eq_iff_iff, isn_iff, nrm_iff g]
  unfold Fin.Nm
  simp only [mem_lst, List.mem_range]
  exact ⟨fun h x a hx ha hq => (h a ha x ⟨hx, hq⟩).2, fun h a ha x hx => ⟨rcj_lt g hx.1 ha, h x a hx.1 ha hx.2⟩⟩
/-- What is wrong with a normal subgroup. -/
def qfault (N : Int) (zs l : List Int) : Int × Int := if (ufault N zs l).1 ≠ 0 then ufault N zs l else if nrmq N.toNat zs (one N.toNat zs).toNat (pset l) then (0, 0) else (4, 0)
theorem qfault_bad {N : Int} {zs l : List Int} (h : (ufault N zs l).1 ≠ 0) : qfault N zs l = ufault N zs l := by unfold qfault; rw [if_pos h]
theorem qfault_u {n e : Nat} {zs l : List Int} (g : IsGrp n zs e) (h : ufault n zs l = (0, 0)) : qfault n zs l = if nrmq n zs e (pset l) then (0, 0) else (4, 0) := by
  unfold qfault
  rw [h, if_neg (by simp), Int.toNat_natCast, g.one, Int.toNat_natCast]
theorem quot_sl {f : Nat} {args : Array Value} {w : World} {c i : Int} (h0 : 0 < w.heap.size) (h : Calls Tryz.prog f args w fun x w' => x = .returned (.tuple #[.agg #[.int .i64 0, .slice none 0 0], .slice none 0 0, .agg #[.int .i64 c, .int .i64 i]]) ∧ Below w.heap.size w w') :
    Calls Tryz.prog f args w fun x W' => ∃ r1 r2 r3 s1 s2 s3, x = .returned (.tuple #[.agg #[.int .i64 0, .slice r1 r2 r3], .slice s1 s2 s3, .agg #[.int .i64 c, .int .i64 i]]) ∧ Sl W' (.slice r1 r2 r3) [] ∧ Sl W' (.slice s1 s2 s3) [] ∧ Below w.heap.size w W' := by
  refine h.mono ?_
  rintro x w' ⟨rfl, hb⟩
  have := Nat.lt_of_lt_of_le h0 hb.size
  exact ⟨none, 0, 0, none, 0, 0, rfl, Sl.nil this, Sl.nil this, hb⟩
end Go.Proofs.YtgdpgbldjpeopaaGreatDoor

namespace Go.Proofs.YtgdpgbldjpeopaaGreatDoor
open Go Go.RowKit

theorem nmod {x : Int} {y m : Nat} (h : x = (y : Int)) : x.tmod (m : Int) = ((y % m : Nat) : Int) := by
  rw [h, Int.tmod_eq_emod_of_nonneg (by omega), Int.natCast_emod]
theorem ndiv {x y : Nat} : (x : Int).tdiv (y : Int) = ((x / y : Nat) : Int) := by rw [Int.tdiv_eq_ediv_of_nonneg (by omega), Int.natCast_ediv]

set_option maxRecDepth 100000 in
theorem pc1_ok (hb db m d a : Nat) (y : Value) (w : World) (hm : 1 ≤ m) (hm6 : m ≤ 60) (hg : BoxG w hb m y) (hd : Boxed w db 3 (.int .i64 d)) :
    Calls Tryz.prog 9 #[.int .i64 a, .pointer (some ⟨hb, 0, none⟩), .pointer (some ⟨db, 0, none⟩)] w fun x w' => x = .returned (.bool (decide (a % m = d))) ∧ Below w.heap.size w w' := by
  obtain ⟨c0, c1, _, _⟩ := hg.two
  have c2 := hd.cell
  have y1 := nmod (x := (a : Int)) (y := a) (m := m) rfl
  have hm0 : ¬ ((m : Int) = 0) := by omega
  have hm1 : ¬ m = 0 := by omega
  have hm2 : ((m : Int) == 0) = false := by simp; omega
  have h5 := Nat.mod_lt a (show m > 0 by omega)
  generalize a % m = r at *
  have hw : IntKind.i64.wrap (r : Int) = (r : Int) := by rw [IntKind.wrap_i64]; omega
  go_enter Tryz.func9, Tryz.ntmps9
  go_wp2_with fail
  go_quiet (fail)
  go_wp2
  go_ret
  exact ⟨retB (by rw [Bool.eq_iff_iff]; simp <;> omega), bdrewN (Below.refl _ _) nq⟩
set_option maxRecDepth 100000 in
theorem pc2_ok (hb eb m e a : Nat) (y : Value) (w : World) (hm : 1 ≤ m) (hm6 : m ≤ 60) (hg : BoxG w hb m y) (hd : Boxed w eb 3 (.int .i64 e)) (ha : a ≤ 3600) :
    Calls Tryz.prog 10 #[.int .i64 a, .pointer (some ⟨hb, 0, none⟩), .pointer (some ⟨eb, 0, none⟩)] w fun x w' => x = .returned (.bool (decide (a / m = e))) ∧ Below w.heap.size w w' := by
  obtain ⟨c0, c1, _, _⟩ := hg.two
  have c2 := hd.cell
  have y1 := ndiv (x := a) (y := m)
  have hm0 : ¬ ((m : Int) = 0) := by omega
  have hm1 : ¬ m = 0 := by omega
  have hm2 : ((m : Int) == 0) = false := by simp; omega
  have h5 : a / m ≤ a := Nat.div_le_self _ _
  generalize a / m = r at *
  have hw : IntKind.i64.wrap (r : Int) = (r : Int) := by rw [IntKind.wrap_i64]; omega
  go_enter Tryz.func10, Tryz.ntmps10
  go_wp2_with fail
  go_quiet (fail)
  go_wp2
  go_ret
  exact ⟨retB (by rw [Bool.eq_iff_iff]; simp <;> omega), bdrewN (Below.refl _ _) nq⟩
theorem cal9 (a : Int) (x y : Value) (W : World) : Sem.run Tryz.prog (callFunc 9 (#[.int .i64 a] ++ #[x, y])) W = .ok (.enter 9 (#[.int .i64 a] ++ #[x, y])) W := by kernel_rfl
theorem cal10 (a : Int) (x y : Value) (W : World) : Sem.run Tryz.prog (callFunc 10 (#[.int .i64 a] ++ #[x, y])) W = .ok (.enter 10 (#[.int .i64 a] ++ #[x, y])) W := by kernel_rfl

theorem those_sl2 {n k : Nat} {v : Value} {caps : Array Value} {p : Nat → Bool} {w : World} (h0 : 0 < w.heap.size) (h : Calls Tryz.prog 8 #[.agg #[.int .i64 n, v], .func (.func k) #[] caps] w fun x w' => ∃ r, x = .returned r ∧ Row w' w.heap.size r (li (lst n p)) ∧ Below w.heap.size w w') :
    Calls Tryz.prog 8 #[.agg #[.int .i64 n, v], .func (.func k) #[] caps] w fun x w' => ∃ a1 a2 a3, x = .returned (.slice a1 a2 a3) ∧ Sl w' (.slice a1 a2 a3) (li (lst n p)) ∧ Below w.heap.size w w' := by
  refine h.mono ?_
  rintro x w' ⟨r, rfl, hr, hb⟩
  have hs := row_sl hr (Nat.lt_of_lt_of_le h0 hb.size)
  obtain ⟨a1, a2, a3, rfl⟩ := sl_slice hs
  exact ⟨a1, a2, a3, rfl, hs, hb⟩
theorem dir_at (N : Int) (zs ls ms : List Int) (D : Bool) (hD1 : (dfault N zs ls ms).1 ≠ 0 → D = false) (hD2 : (dfault N zs ls ms).1 = 0 → ∃ n e : Nat, N = n ∧ IsGrp n zs e ∧ (D = true ↔ TogP n zs e (pset ls) (pset ms))) (u a b : Value) (W : World) (hu : Sl W u zs) (ha : Sl W a ls) (hb : Sl W b ms) (hT : Tab W) :
    Calls Tryz.prog 13 #[.agg #[.int .i64 N, u], a, b] W fun x W' => x = .returned (.tuple #[.bool D, .agg #[.int .i64 (dfault N zs ls ms).1, .int .i64 (dfault N zs ls ms).2]]) ∧ Below W.heap.size W W' := by
  obtain ⟨D', h1, h2, hc⟩ := dir_any N u a b zs ls ms W hu ha hb hT
  have : D' = D := by
    by_cases h : (dfault N zs ls ms).1 = 0
    · obtain ⟨n, e, rfl, hg, hi⟩ := hD2 h
      obtain ⟨n', e', hn', hg', _, _, _, _, _, hi'⟩ := h2 h
      obtain rfl : n = n' := by omega
      obtain rfl := grp_same hg hg'
      rw [Bool.eq_iff_iff]
      exact hi'.trans hi.symm
    · rw [hD1 h, h1 h]
  rw [this] at hc
  exact hc
section
variable {n m e d : Nat} {zs ys : List Int} {q B : Nat → Bool}
/-- The same of tests that are the same at all things. -/
theorem tog_congr {q r q' r' : Nat → Bool} (T : TogP n zs e q r) (hq : ∀ a, a < n → q' a = q a) (hr : ∀ a, a < n → r' a = r a) : TogP n zs e q' r' :=
  ⟨fun a ha h1 h2 => T.meet a ha (by rw [← hq a ha]; exact h1) (by rw [← hr a ha]; exact h2),
    fun a ha => Fin.Gen.mono (fun x hx h => by show (q' x || r' x) = true; rw [hq x (List.mem_range.1 hx), hr x (List.mem_range.1 hx)]; exact h) (T.all a ha),
    fun a b ha hb h1 h2 => T.com a b ha hb (by rw [← hq a ha]; exact h1) (by rw [← hr b hb]; exact h2)⟩
theorem iv_one (g : IsGrp n zs e) : iv n zs e e = e := by
  obtain ⟨h1, h2, _, _⟩ := iv_spec g g.elt
  rw [g.left _ h1] at h2
  exact h2
theorem nrmq_iff {n e : Nat} {zs : List Int} {q : Nat → Bool} : nrmq n zs e q = true ↔ ∀ a, a < n → bs (cjq n zs e q a) n = bs q n := by
  unfold nrmq
  rw [decide_eq_true_eq]
  constructor
  · intro h a ha
    have := bs_inj h a ha
    unfold norq at this
    exact of_decide_eq_true this
  · intro h
    exact bs_ext fun a ha => by unfold norq; exact decide_eq_true (h a ha)
theorem nrmq_pset {n e : Nat} {zs : List Int} {q : Nat → Bool} : nrmq n zs e (pset (li (lst n q))) = nrmq n zs e q := by
  have h1 : lst n (pset (li (lst n q))) = lst n q := lst_pset n q
  have h2 : bs (pset (li (lst n q))) n = bs q n := bs_ext fun a ha => pset_lst ha
  unfold nrmq norq cjq
  rw [h1, h2]
theorem nrmq_nm (g : IsGrp n zs e) : nrmq n zs e B = true ↔ ∀ x a, x < n → a < n → B x = true → B (Fin.cj (tm n zs) (iv n zs e) x a) = true := by
  constructor
  · intro h x a hx ha h1
    have h2 := bs_inj (nrmq_iff.1 h a ha) _ (List.mem_range.1 (Fin.cj_mem (grp_fg g) (grp_iv g) (List.mem_range.2 hx) (List.mem_range.2 ha)))
    rw [← h2]
    exact cjq_iff.2 ⟨x, List.mem_range.2 hx, h1, rfl⟩
  · intro h
    refine nrmq_iff.2 fun a ha => ?_
    have F := grp_fg g
    have V := grp_iv g
    have ha' := List.mem_range.2 ha
    have hi := (V a ha').1
    refine bs_ext fun y hy => ?_
    rw [Bool.eq_iff_iff, cjq_iff]
    constructor
    · rintro ⟨x, hx, h1, rfl⟩
      exact h x a (List.mem_range.1 hx) ha h1
    · intro h1
      exact ⟨_, Fin.cj_mem F V (List.mem_range.2 hy) hi, h y _ hy (List.mem_range.1 hi) h1, (Fin.cj_back F V (List.mem_range.2 hy) ha').2⟩
/-- A quotient is an image. -/
theorem quo_onto (g : IsGrp n zs e) (hs : subT n zs e q = true) (hN : nrmq n zs e q = true) :
    IsOnto n zs (fsts n (rgtq n zs (lst n q)) n).length (mkT (fsts n (rgtq n zs (lst n q)) n).length (quoF n zs (rgtq n zs (lst n q)))) (num n (rgtq n zs (lst n q))) := by
  have P := rgt_parts g hs
  refine ⟨⟨fun a ha => (prts_num_lt P ha).1, fun a b ha hb => ?_⟩, fun i hi => ⟨_, fst_lt hi, prts_num_at P hi⟩⟩
  rw [tm_mk (prts_num_lt P ha).1 (prts_num_lt P hb).1]
  exact (quo_hom g hs hN ha hb).symm
/-- Its kernel is the subgroup. -/
theorem quo_ker (g : IsGrp n zs e) (hs : subT n zs e q = true) {a : Nat} (ha : a < n) : num n (rgtq n zs (lst n q)) a = num n (rgtq n zs (lst n q)) e ↔ q a = true := by
  have P := rgt_parts g hs
  rw [eq_comm, prts_num_eq P g.elt ha, rgt_iff g g.elt ha, decide_eq_true_eq, mem_lst, iv_one g, g.right a ha]
  exact ⟨fun h => h.2, fun h => ⟨ha, h⟩⟩
end
set_option maxRecDepth 100000 in
set_option maxHeartbeats 2000000 in
theorem stays_ok (n : Nat) (w : World) (hn : n ≤ 60) :
    Calls Tryz.prog 16 #[.int .i64 n] w fun x w' => ∃ r, x = .returned r ∧ Row w' w.heap.size r (li (List.range n)) ∧ Below w.heap.size w w' := by
  obtain ⟨i0, hi, hz0, hz1, hz2⟩ := info_parts info3b
  go_enter Tryz.func16, Tryz.ntmps16
  go_wp2
  go_loopw [3, 4] (fun r i wr => ∃ k : Nat, k ≤ n ∧ i = .int .i64 k ∧ Row wr w.heap.size r (li (List.range k)) ∧ Below w.heap.size w wr) (fun _ i _ => n - (intOf i).toNat)
  case atStart => exact ⟨0, Nat.zero_le _, rfl, nil_row _ _, Below.refl _ _⟩
  case round =>
    obtain ⟨k, hk, rfl, hrow, hB⟩ := hrel
    obtain ⟨r, rfl⟩ : ∃ r, r = u3 := ⟨_, rfl⟩
    have hBs := hB.size
    by_cases hlt : k < n
    · have HLL := hide (show (li (List.range k)).length ≤ 60 by simp [li]; omega)
      have HE := hide (range_snoc k)
      have hown : wr.ownsRow w.heap.size 3 1 r (li (List.range k)).length ((li (List.range k)).map (Value.int .i64)) := hrow
      clear hrow
      generalize li (List.range k) = xs at *
      go_wp2_with (first
        | (at_builtin; refine wpList_append_own _ rfl _ _ 22 rfl w.heap.size 3 i0 (.int .i64 0) 1 8 under22b hi hz0 hz1 hz2 rfl (by decide) _ _ _ rfl (World.ownsRow.alloc hown _) ⟨wr.heap.size, 0, none⟩ 1 1 [.int .i64 k] rfl rfl ?c1 ?c2 ?c3 ?c4 ?c5 ?_))
      case c1 => exact cell_one_new _ _ _
      case c2 => simp [Value.oneCell']
      case c3 => unfold maxLen; have := HLL.out; omega
      case c4 => have := HLL.out; omega
      case c5 => simp; omega
      intro v' w2 hown' hgrow _
      obtain ⟨g', cap', rfl⟩ := ownsRow_succ hown'
      have hB2 : Below w.heap.size w w2 := (hB.alloc hBs _).grown hgrow (by simp; omega) (fun t e => owns_ge hown t e)
      have hrow2 : Row w2 w.heap.size (.slice (some ⟨g', 0, none⟩) (xs.length + 1) cap') (li (List.range (k + 1))) := by
        unfold Row
        rw [HE.out]
        simpa using hown'
      clear hown' hgrow hown
      go_wp2
      go_roundw
      case rel => exact ⟨k + 1, by omega, by go_num, hrow2, hB2⟩
      case measure => simp [intOf]; omega
    · have hkk : k = n := by omega
      subst hkk
      go_wp2
      go_ret
      exact ⟨_, rfl, hrow, hB⟩
/-- What Semi takes. -/
theorem semc_zero {N M : Int} {zs ys : List Int} {ls : List (List Int)} (h : (semc N zs M ys ls).1 = 0) : ∃ n e m d : Nat, N = n ∧ M = m ∧ IsGrp n zs e ∧ IsGrp m ys d ∧ ls.length = m ∧ n * m ≤ 60 ∧ IsAct n zs m ys (actf ls) ∧ (∀ t, t < m → ls[t]?.getD [] = li ((List.range n).map (actf ls t))) ∧ semc N zs M ys ls = (0, 0) := by
  unfold semc at h
  by_cases ht : (twofault N zs M ys).1 = 0
  · rw [if_neg (by simpa using ht)] at h
    obtain ⟨n, e, rfl, g1, hg0⟩ : ∃ n e : Nat, N = n ∧ IsGrp n zs e ∧ gfault N zs = (0, 0) := by
      by_cases h1 : (gfault N zs).1 = 0
      · exact gfault_grp h1
      · unfold twofault at ht; rw [if_pos h1] at ht; exact absurd ht h1
    obtain ⟨m, d, rfl, g2, hh0⟩ : ∃ m d : Nat, M = m ∧ IsGrp m ys d ∧ gfault M ys = (0, 0) := by
      unfold twofault at ht
      rw [hg0, if_neg (by simp)] at ht
      exact gfault_grp ht
    by_cases hl : (ls.length : Int) = m
    · rw [if_neg (by simpa using hl)] at h
      simp only [Int.toNat_natCast] at h
      have hlm : ls.length = m := by omega
      rcases least_val (k := ls.length) (p := fun i => decide (cent n zs (ls[i]?.getD []) ≠ 0)) with ⟨j, hj, hb1, hb2, hb3⟩ | ⟨hb1, hb3⟩
      · rw [if_pos (by rw [hb3]; omega), hb3] at h
        have hne : cent n zs (ls[j]?.getD []) ≠ 0 := of_decide_eq_true hb1
        exact absurd (by simpa using h) hne
      · rw [if_neg (by rw [hb3]; simp)] at h
        have h0 : ∀ t, t < m → cent n zs (ls[t]?.getD []) = 0 := fun t ht => Classical.byContradiction fun h9 => by
          have := hb1 t (by omega)
          rw [decide_eq_true h9] at this
          cases this
        rcases least_val (k := ls.length) (p := fun a => pstr m ys n (actf ls) a) with ⟨j, hj, hp1, hp2, hp3⟩ | ⟨hp1, hp3⟩
        · rw [if_pos (by rw [hp3]; omega)] at h
          simp at h
        · rw [if_neg (by rw [hp3]; simp)] at h
          by_cases h6 : (n : Int) * (m : Int) > 60
          · rw [if_pos h6] at h; simp at h
          · refine ⟨n, e, m, d, rfl, rfl, g1, g2, hlm, ?_, act_is g1 h0 (fun t ht => hp1 t (by omega)), fun t ht => (cent_row g1 (h0 t ht)).2.1, ?_⟩
            · have : ((n * m : Nat) : Int) ≤ 60 := by rw [Int.natCast_mul]; omega
              omega
            · unfold semc
              rw [if_neg (by simpa using ht), if_neg (by simpa using hl)]
              simp only [Int.toNat_natCast]
              rw [if_neg (by rw [hb3]; simp), if_neg (by rw [hp3]; simp), if_neg h6]
    · rw [if_pos (by simpa using hl)] at h
      simp at h
  · rw [if_pos (by simpa using ht)] at h
    exact absurd h ht
/-- Nothing is moved just where all lists stay. -/
theorem still_iff {n m : Nat} {ls : List (List Int)} (hr : ∀ t, t < m → ls[t]?.getD [] = li ((List.range n).map (actf ls t))) : ((List.range m).all fun t => decide (ls[t]?.getD [] = li (List.range n))) = true ↔ ∀ b x, b < m → x < n → actf ls b x = x := by
  simp only [List.all_eq_true, List.mem_range, decide_eq_true_eq]
  constructor
  · intro h b x hb hx
    have h1 := h b hb
    unfold actf
    rw [h1]
    simp [li, hx]
  · intro h t ht
    rw [hr t ht]
    congr 1
    apply List.ext_getElem
    · simp
    · intro i h1 h2
      simp only [List.getElem_map, List.getElem_range]
      exact h t i ht (by simpa using h2)
end Go.Proofs.YtgdpgbldjpeopaaGreatDoor
