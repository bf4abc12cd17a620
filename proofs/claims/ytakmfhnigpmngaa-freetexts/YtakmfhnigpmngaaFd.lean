/- What product makes of words: the word, reduced, in a row of its own. -/
import Derived.Test.YtakmfhnigpmngaaFc
namespace Go.Proofs.Ytakmfhnigpmngaa
open Go Go.RowKit

theorem red_snoc (u : List Int) (x : Int) : red (u ++ [x]) = (psh (red u).reverse x).reverse := by
  unfold red
  rw [stk_append, stk_one, List.reverse_reverse]
theorem red_snoc_nil {u : List Int} {x : Int} (h : red u = []) : red (u ++ [x]) = [x] := by
  rw [red_snoc, h]; rfl
theorem last_split {xs : List Int} {m : Nat} (hm : xs.length = m + 1) : xs = xs.take m ++ [xs[m]?.getD 0] := by
  have := take_snoc' (zs := xs) (k := m) (by omega)
  rw [← this, List.take_of_length_le (by omega)]
theorem red_snoc_eq {u : List Int} {x : Int} {m : Nat} (hm : (red u).length = m + 1) (h : (red u)[m]?.getD 0 = -x) : red (u ++ [x]) = (red u).take m := by
  rw [red_snoc]
  have e := last_split hm
  rw [h] at e
  generalize red u = xs at *
  generalize xs.take m = t at *
  rw [e, List.reverse_append, List.reverse_singleton, List.singleton_append, psh_eq _ rfl, List.reverse_reverse]
theorem red_snoc_ne {u : List Int} {x : Int} {m : Nat} (hm : (red u).length = m + 1) (h : ¬ (red u)[m]?.getD 0 = -x) : red (u ++ [x]) = red u ++ [x] := by
  rw [red_snoc]
  have e := last_split hm
  generalize hy : (red u)[m]?.getD 0 = y at *
  generalize red u = xs at *
  generalize xs.take m = t at *
  rw [e, List.reverse_append, List.reverse_singleton, List.singleton_append, psh_ne _ h]
  simp
theorem flat_snoc {ws : List (List Int)} {k : Nat} (hk : k < ws.length) : (ws.take (k + 1)).flatten = (ws.take k).flatten ++ ws[k]?.getD [] := by
  rw [List.take_succ_eq_append_getElem hk, List.flatten_append, List.getElem?_eq_getElem hk]
  simp only [List.flatten_cons, List.flatten_nil, List.append_nil, Option.getD_some]
theorem lt_neg {x : Int} (h : bad x = false) : -26 ≤ x ∧ x ≤ 26 := by
  obtain ⟨_, h1, h2⟩ := bad_parts h
  omega

set_option maxRecDepth 100000 in
set_option maxHeartbeats 4000000 in
theorem product_ok (v : Value) (ws : List (List Int)) (w : World) (hv : SlW w v ws) (hlt : ∀ u, u ∈ ws → Lt u) (hsm : ws.flatten.length ≤ 1000000) :
    Calls Try.prog 37 #[v] w fun e w' => ∃ r, e = .returned r ∧ Row w' w.heap.size r (red ws.flatten) ∧ Below w.heap.size w w' := by
  obtain ⟨i0, hi, hz0, hz1, hz2⟩ := info_parts info3b
  obtain ⟨a, cap, pb, po, rfl, hat, hcells, hp, hcap, hcm⟩ := hv
  unfold maxLen at hcm
  have HC := hide hcells
  have HLT := hide hlt
  have HSM := hide hsm
  clear hcells hlt hsm
  go_enter Try.func37, Try.ntmps37
  go_wp2
  go_loopw [3, 11] (fun o i wr => ∃ k : Nat, k ≤ ws.length ∧ i = .int .i64 k ∧ Row wr w.heap.size o (red (ws.take k).flatten) ∧ Below w.heap.size w wr) (fun _ i _ => ws.length - (intOf i).toNat)
  case atStart => exact ⟨0, Nat.zero_le _, rfl, nil_row _ _, Below.refl _ _⟩
  case round =>
    obtain ⟨k, hk, rfl, hrow, hB⟩ := hrel
    by_cases hlt : k < ws.length
    · obtain rfl := hat (by omega)
      obtain ⟨u, hu, hs⟩ := HC.out k hlt
      have hu1 := below_cell hB hu
      have HFS := hide (flat_snoc hlt)
      have HL1 := hide (show (ws.take k).flatten.length + (ws[k]?.getD []).length ≤ 1000000 by
        have h1 : ((ws.take (k + 1)).flatten).length ≤ ws.flatten.length := by
          conv => rhs; rw [← List.take_append_drop (k + 1) ws]
          rw [List.flatten_append, List.length_append]; omega
        rw [flat_snoc hlt, List.length_append] at h1
        have := HSM.out
        omega)
      have HLC := hide (show Lt (ws[k]?.getD []) by
        rw [List.getElem?_eq_getElem hlt]; exact HLT.out _ (List.getElem_mem hlt))
      generalize ws[k]?.getD [] = zs at *
      generalize (ws.take k).flatten = F at *
      obtain ⟨za, zcap, zb, zo, rfl, hzr, hzp, hzc, hzm⟩ := hs
      unfold maxLen at hzm
      clear hu
      have hkl : (k : Int) < (ws.length : Int) := by omega
      go_wp2
      go_loopw [3, 17] (fun o i wi => ∃ j : Nat, j ≤ zs.length ∧ i = .int .i64 j ∧ Row wi w.heap.size o (red (F ++ zs.take j)) ∧ Below w.heap.size w wi) (fun _ i _ => zs.length - (intOf i).toNat)
      case atStart => exact ⟨0, Nat.zero_le _, rfl, by simpa using hrow, hB⟩
      case round =>
        clear hrow hB hu1
        obtain ⟨j, hj, rfl, hrow, hB⟩ := hrel
        have hBs := hB.size
        by_cases hjl : j < zs.length
        · obtain rfl := hzr.at_ (by omega)
          have hx := (hzr.below hB hzp).cell j hjl
          have HSN := hide (show red (F ++ zs.take (j + 1)) = red ((F ++ zs.take j) ++ [zs[j]?.getD 0]) by rw [take_snoc' hjl, List.append_assoc])
          have HLX := hide (show (red (F ++ zs.take j)).length ≤ 1000000 by
            have h1 := red_len (F ++ zs.take j)
            rw [List.length_append, List.length_take] at h1
            have := HL1.out
            omega)
          obtain ⟨hx1, hx2⟩ := lt_neg (HLC.out.at hjl)
          obtain ⟨x, hxe⟩ : ∃ x, zs[j]?.getD 0 = x := ⟨_, rfl⟩
          rw [hxe] at hx HSN hx1 hx2
          clear hxe
          have hjz : (j : Int) < (zs.length : Int) := by omega
          have hG := fun (W : World) (hW : Below w.heap.size w W) (o : Value) (hr : Row W w.heap.size o (red (F ++ zs.take (j + 1)))) => (⟨j + 1, by omega, by go_num, hr, hW⟩ : ∃ j' : Nat, j' ≤ zs.length ∧ Value.int .i64 ((j : Int) + 1) = .int .i64 j' ∧ Row W w.heap.size o (red (F ++ zs.take j')) ∧ Below w.heap.size w W)
          have HG := hide hG
          clear hG
          rw [HSN.out] at HG
          generalize hU : F ++ zs.take j = U at *
          clear hU
          by_cases hxs : (red U).length = 0
          · have hnil : red U = [] := List.length_eq_zero_iff.1 hxs
            have HN := hide (red_snoc_nil (x := x) hnil)
            have hown : wr.ownsRow w.heap.size 3 1 u3 0 [] := by
              have := hrow
              unfold Row at this
              rw [hnil] at this; exact this
            obtain ⟨va, vc, rfl⟩ := own_slice hown
            clear hrow hnil hxs
            go_wp2_with (first
              | (at_builtin; refine wpList_append_own _ rfl _ _ 22 rfl w.heap.size 3 i0 (.int .i64 0) 1 8 under22b hi hz0 hz1 hz2 rfl (by decide) _ _ _ rfl (World.ownsRow.alloc hown _) ⟨wr.heap.size, 0, none⟩ 1 1 [.int .i64 x] rfl rfl ?c1 ?c2 ?c3 ?c4 ?c5 ?_))
            case c1 => exact cell_one_new _ _ _
            case c2 => simp [Value.oneCell']
            case c3 => unfold maxLen; omega
            case c4 => omega
            case c5 => simp; omega
            intro v' w2 hown' hgrow _
            obtain ⟨g', cap', rfl⟩ := ownsRow_succ hown'
            have hB2 : Below w.heap.size w w2 := (hB.alloc hBs _).grown hgrow (by simp; omega) (fun t e => owns_ge hown t e)
            have hrow2 : Row w2 w.heap.size (.slice (some ⟨g', 0, none⟩) (0 + 1) cap') (red (U ++ [x])) := by
              unfold Row
              rw [HN.out]
              simpa using hown'
            clear hown' hgrow hown
            have HGG := hide (HG.out w2 hB2 _ hrow2)
            clear hrow2 hB2
            go_wp2
            go_roundw
            case rel => exact HGG.out
            case measure => simp [intOf]; omega
          · obtain ⟨m, hm⟩ : ∃ m, (red U).length = m + 1 := ⟨(red U).length - 1, by omega⟩
            have hown : wr.ownsRow w.heap.size 3 1 u3 (m + 1) ((red U).map (Value.int .i64)) := by
              have := hrow
              unfold Row at this
              rw [hm] at this; exact this
            obtain ⟨g, gc, rfl⟩ := ownsRow_succ hown
            have hcell : wr.cell? ⟨g, m, none⟩ = some (.int .i64 ((red U)[m]?.getD 0)) := by
              have h3 := hown.cells (g := g) rfl m (.int .i64 ((red U)[m]?.getD 0)) (by simp [show m < (red U).length by omega])
              rw [show (⟨g, 0, none⟩ : Addr).add m = ⟨g, m, none⟩ by unfold Addr.add; split <;> simp_all] at h3
              exact h3
            have hgc : m + 1 ≤ gc ∧ gc ≤ maxLen := by
              rcases hown.2 with ⟨h0, _⟩ | ⟨g', cap', cur, hv, _, _, h3, h4, _⟩
              · cases h0
              · injection hv with _ _ e2
                subst e2
                exact ⟨h3, h4⟩
            obtain ⟨hgc1, hgc2⟩ := hgc
            unfold maxLen at hgc2
            have HM := hide hm
            have HXS := hide hxs
            have hm1 : m ≤ 1000000 := by have := HLX.out; omega
            clear hrow hm hxs
            by_cases hy : (red U)[m]?.getD 0 = -x
            · have HE := hide (red_snoc_eq HM.out hy)
              have hcut := own_cut hown (k := m) (by omega)
              have hrow2 : Row wr w.heap.size (.slice (some ⟨g, 0, none⟩) m gc) (red (U ++ [x])) := by
                unfold Row
                rw [HE.out, List.length_take, HM.out, Nat.min_eq_left (by omega), List.map_take]; exact hcut
              rw [hy] at hcell
              have HGG := hide (HG.out wr hB _ hrow2)
              clear hrow2 hcut hy hown
              go_wp2
              go_roundw
              case rel => exact HGG.out
              case measure => simp [intOf]; omega
            · have HE := hide (red_snoc_ne HM.out hy)
              have hyb : ((red U)[m]?.getD 0 == -x) = false := by simpa using hy
              generalize hyy : (red U)[m]?.getD 0 = y at *
              clear hyy hy
              go_wp2_with (first
                | (at_builtin; refine wpList_append_own _ rfl _ _ 22 rfl w.heap.size 3 i0 (.int .i64 0) 1 8 under22b hi hz0 hz1 hz2 rfl (by decide) _ _ _ rfl (World.ownsRow.alloc hown _) ⟨wr.heap.size, 0, none⟩ 1 1 [.int .i64 x] rfl rfl ?c1 ?c2 ?c3 ?c4 ?c5 ?_))
              case c1 => exact cell_one_new _ _ _
              case c2 => simp [Value.oneCell']
              case c3 => unfold maxLen; omega
              case c4 => omega
              case c5 => simp; omega
              intro v' w2 hown' hgrow _
              obtain ⟨g', cap', rfl⟩ := ownsRow_succ hown'
              have hB2 : Below w.heap.size w w2 := (hB.alloc hBs _).grown hgrow (by simp; omega) (fun t e => owns_ge hown t e)
              have hrow2 : Row w2 w.heap.size (.slice (some ⟨g', 0, none⟩) (m + 1 + 1) cap') (red (U ++ [x])) := by
                unfold Row
                rw [HE.out, List.length_append, HM.out]
                simpa using hown'
              clear hown' hgrow hown
              have HGG := hide (HG.out w2 hB2 _ hrow2)
              clear hrow2 hB2
              go_wp2
              go_roundw
              case rel => exact HGG.out
              case measure => simp [intOf]; omega
        · have hjj : j = zs.length := by omega
          subst hjj
          rw [List.take_length] at hrow
          go_wp2
          go_roundw
          case rel => exact ⟨k + 1, by omega, by go_num, by rw [HFS.out]; exact hrow, hB⟩
          case measure => simp [intOf]; omega
    · have hkk : k = ws.length := by omega
      subst hkk
      rw [List.take_length] at hrow
      go_wp2
      go_ret
      exact ⟨_, rfl, hrow, hB⟩

end Go.Proofs.Ytakmfhnigpmngaa
