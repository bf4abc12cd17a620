/- What package sub's greatest answers. -/
import Derived.Test.YtelglfegpfhbpaaDoorSg3
import Derived.Test.YtelglfegpfhbpaaDoorSg8
namespace Go.Proofs.YtelglfegpfhbpaaDoor
open Go Go.RowKit

/-- The sets that are not all, and those of them that are in no other one. -/
def prop (xs : List Nat) (A : Nat) : List Nat := xs.filter fun s => !decide (s = A)
def grt (ys : List Nat) (k : Nat) : List Nat := (ys.take k).filter fun s => !ys.any (lessB s)
theorem grt_yes {ys : List Nat} {k : Nat} (hk : k < ys.length) (h : ys.any (lessB ys[k]) = false) : grt ys (k + 1) = grt ys k ++ [ys[k]] := by
  unfold grt
  rw [List.take_succ_eq_append_getElem hk, List.filter_append, List.filter_cons, if_pos (by rw [h]; rfl), List.filter_nil]
theorem grt_no {ys : List Nat} {k : Nat} (hk : k < ys.length) (h : ys.any (lessB ys[k]) = true) : grt ys (k + 1) = grt ys k := by
  unfold grt
  rw [List.take_succ_eq_append_getElem hk, List.filter_append, List.filter_cons, if_neg (by rw [h]; simp), List.filter_nil, List.append_nil]
theorem grt_len (ys : List Nat) (k : Nat) : (grt ys k).length ≤ ys.length := Nat.le_trans (List.length_filter_le _ _) (by rw [List.length_take]; omega)
theorem uv_snoc (xs : List Nat) (s : Nat) : uv (xs ++ [s]) = uv xs ++ [.int .u64 (s : Int)] := by simp [uv]
set_option maxRecDepth 100000 in
set_option maxHeartbeats 4000000 in
theorem greatest_ok (n e : Nat) (v u : Value) (zs : List Int) (w : World) (hG : GA w n v e u zs) (hT : Tab w) (hn24 : n ≤ 24) :
    Calls Tryd.prog 82 #[.agg #[.int .i64 n, v, .int .i64 e, u]] w fun x w' => ∃ (r : Value) (P : List (Nat → Bool)), x = .returned r ∧ SlU w' r (grt (prop (bits n P) (bs (fun _ => true) n)) (prop (bits n P) (bs (fun _ => true) n)).length) ∧ (∃ k, P.length ≤ k ∧ SInv n zs e P k 0) ∧ Below w.heap.size w w' := by
  obtain ⟨i0, hi, hz0, hz1, hz2⟩ := info_parts info82
  have hn := hG.le
  have hB0 : Below w.heap.size w (w.alloc (.cells #[.int .i64 n, v, .int .i64 e, u] 76)) := balloc w _
  have hX0 : Box4 (w.alloc (.cells #[.int .i64 n, v, .int .i64 e, u] 76)) w.heap.size n e v u := ⟨blk4 _ _ _ _⟩
  obtain ⟨w0, hw0⟩ : ∃ w0, w0 = w.alloc (.cells #[.int .i64 n, v, .int .i64 e, u] 76) := ⟨_, rfl⟩
  rw [← hw0] at hB0 hX0
  have HAL := hide (all_ok n v u e w0 hn)
  obtain ⟨c0, c1, c2, c3⟩ := hX0.cells
  rw [hw0] at c0 c1 c2 c3
  go_enter Tryd.func82, Tryd.ntmps82
  go_wp2_with fail
  rw [← hw0]
  clear hw0 c0 c1 c2 c3
  refine HAL.out.mono ?_
  rintro x w1 ⟨rfl, hb1⟩
  generalize hA : bs (fun _ => true) n = A at *
  have HA0 := hide hA
  clear hA
  have hb2 := bcat2 hb1 (balloc w1 (.cells #[.int .u64 (A : Nat)] 82))
  have hAb := Boxed.new w1 82 (.int .u64 (A : Nat))
  have hX2 := hX0.below hb2
  have hB2 := bcat2 hB0 hb2
  obtain ⟨c0, c1, c2, c3⟩ := hX2.cells
  go_wp2_with fail
  clear c0 c1 c2 c3
  generalize w1.alloc (.cells #[.int .u64 (A : Nat)] 82) = w2 at *
  refine (subgroups_ok n e v u zs w2 (hG.below hB2) (hT.below hB2) hn24).mono ?_
  rintro x w3 ⟨r, P, rfl, hrow, hI, hb3⟩
  have HI := hide hI
  have hPl : P.length ≤ 16777216 := by
    obtain ⟨k, _, h⟩ := hI
    exact h.len hn24
  clear hI
  have hAb3 := Boxed.below hAb hb3
  have hB3 := bcat2 hB2 hb3
  have hrow3 : w3.ownsRow w2.heap.size 82 1 r (bits n P).length (uv (bits n P)) := by rw [bits_len]; exact hrow
  have hlt2 : w1.heap.size < w2.heap.size := hAb.lt
  obtain ⟨ra, rcap, rfl⟩ := own_val hrow
  have HDE := hide (delete_ok 123 w2.heap.size #[.pointer (some ⟨w1.heap.size, 0, none⟩)] (.slice ra P.length rcap) (bits n P) (fun s => decide (s = A)) w3 (by omega) hb3.size hrow3 (fun s W => ent123 s _ W) (fun W s hW => gr1_ok w1.heap.size s A W ((hW.block _ hlt2).trans hAb3)))
  clear hrow hrow3
  go_wp2_with fail
  refine HDE.out.mono ?_
  rintro x w4 ⟨r4, rfl, hS4, hb4⟩
  have hB4 : Below w.heap.size w w4 := hB3.trans (hb4.mono (by have := hB2.size; omega))
  have hyp : ∀ y, y ∈ prop (bits n P) A → ∃ p, y = bs p n := fun y hy => by
    unfold prop bits at hy
    obtain ⟨p, _, rfl⟩ := List.mem_map.1 (List.mem_filter.1 hy).1
    exact ⟨p, rfl⟩
  have hyl : (prop (bits n P) A).length ≤ 16777216 := Nat.le_trans (List.length_filter_le _ _) (by rw [bits_len]; exact hPl)
  have hS4 : SlU w4 r4 (prop (bits n P) A) := hS4
  have HYP := hide hyp
  clear HDE hb4 hyp hAb3 hAb
  generalize hys : prop (bits n P) A = ys at *
  have HYS0 := hide hys
  clear hys
  obtain ⟨ya, ycap, yb, yo, rfl, y1, y2, y3, y4, y5⟩ := id hS4
  have HY1 := hide y1
  have HY2 := hide y2
  have HS4 := hide hS4
  have h04 : 0 < w4.heap.size := by omega
  clear y1 y2 y5 hS4
  go_wp2
  go_loopw [5, 16] (fun r i wr => ∃ k : Nat, k ≤ ys.length ∧ i = .int .i64 k ∧ wr.ownsRow w4.heap.size 82 1 r (grt ys k).length (uv (grt ys k)) ∧ Below w4.heap.size w4 wr) (fun _ i _ => ys.length - (intOf i).toNat)
  case atStart => exact ⟨0, Nat.zero_le _, rfl, World.ownsRow_nil _ _ _ _, Below.refl _ _⟩
  case round =>
    obtain ⟨k, hk, rfl, hrow, hB⟩ := hrel
    obtain ⟨ra9, rcap9, rfl⟩ := own_val hrow
    have hgl := grt_len ys k
    by_cases hlt : k < ys.length
    · have hki : (k : Int) < (ys.length : Int) := by omega
      obtain rfl := HY1.out (by omega)
      have cy := below_cell hB (HY2.out k hlt)
      rw [List.getElem?_eq_getElem hlt, Option.getD_some] at cy
      have hmem := List.getElem_mem hlt
      have HYS := hide (fun h => grt_yes (ys := ys) hlt h)
      have HNO := hide (fun h => grt_no (ys := ys) hlt h)
      generalize ys[k] = s at *
      obtain ⟨p, rfl⟩ := HYP.out s hmem
      have hbA := balloc wr (.cells #[.int .u64 (bs p n : Nat)] 82)
      have hsb := Boxed.new wr 82 (.int .u64 (bs p n : Nat))
      have csA := hsb.cell
      have HCO := hide (contains_ok 125 #[.pointer (some ⟨wr.heap.size, 0, none⟩)] _ ys (lessB (bs p n)) (wr.alloc (.cells #[.int .u64 (bs p n : Nat)] 82)) (HS4.out.below (bcat2 hB hbA)) (fun s W => ent125 s _ W) (fun W s hW hs => by
        obtain ⟨q, rfl⟩ := HYP.out s hs
        exact gr2_ok n wr.heap.size p q W hn (Boxed.below hsb hW)))
      have hrowA := World.ownsRow.alloc hrow (.cells #[.int .u64 (bs p n : Nat)] 82)
      have hBA := bcat2 hB hbA
      clear hrow hB
      generalize hX9 : bs p n = X9 at *
      generalize hwA : wr.alloc (.cells #[.int .u64 (X9 : Nat)] 82) = wA at *
      rw [← hwA] at csA
      have HWA := hide hwA
      clear hwA hX9
      cases hany : ys.any (lessB X9) with
      | true =>
        rw [hany] at HCO
        have HE := hide (HNO.out hany)
        go_wp2_with fail
        rw [HWA.out]
        refine HCO.out.mono ?_
        rintro x w5 ⟨rfl, hb5⟩
        have hrow5 := own_keep2 hrowA (fun g _ h2 => hb5.block g h2)
        have hB5 := bcat2 hBA hb5
        go_wp2
        go_roundw
        case rel => exact ⟨k + 1, by omega, by go_num, by rw [HE.out]; exact hrow5, hB5⟩
        case measure => simp [intOf]; omega
      | false =>
        rw [hany] at HCO
        have HE := hide (HYS.out hany)
        go_wp2_with fail
        rw [HWA.out]
        refine HCO.out.mono ?_
        rintro x w5 ⟨rfl, hb5⟩
        have hrow5 := own_keep2 hrowA (fun g _ h2 => hb5.block g h2)
        have hB5 := bcat2 hBA hb5
        have cs5 := below_cell hb5 (by rw [← HWA.out]; exact csA)
        have hz5 := hB5.size
        go_wp2_with (first
          | (at_builtin; refine wpList_append_own _ rfl _ _ 79 rfl w4.heap.size 82 i0 (.int .u64 0) 1 8 und79 hi hz0 hz1 hz2 rfl (by decide) _ _ _ rfl (World.ownsRow.alloc hrow5 _) ⟨w5.heap.size, 0, none⟩ 1 1 [.int .u64 X9] rfl rfl ?c1 ?c2 ?c3 ?c4 ?c5 ?_))
        case c1 => exact cell_one_new _ _ _
        case c2 => simp [Value.oneCell']
        case c3 => unfold maxLen; omega
        case c4 => omega
        case c5 => simp; omega
        intro v9 w6 hown' hgrow _
        obtain ⟨g', cap', rfl⟩ := ownsRow_succ hown'
        have hB6 : Below w4.heap.size w4 w6 := (hB5.alloc hB5.size _).grown hgrow (by simp; omega) (fun t e => by have := owns_ge hrow5 t e; omega)
        have hrow6 : w6.ownsRow w4.heap.size 82 1 (.slice (some ⟨g', 0, none⟩) ((grt ys k).length + 1) cap') (grt ys (k + 1)).length (uv (grt ys (k + 1))) := by
          rw [HE.out, uv_snoc]
          simpa using hown'
        clear hown' hgrow
        go_wp2
        go_roundw
        case rel => exact ⟨k + 1, by omega, by go_num, hrow6, hB6⟩
        case measure => simp [intOf]; omega
    · have hki : ¬ (k : Int) < (ys.length : Int) := by omega
      have HKK := hide (show k = ys.length by omega)
      have hs9 := SlU.of_own rfl hrow (Nat.lt_of_lt_of_le h04 hB.size)
      have hB9 := bcat2 hB4 hB
      clear hrow
      go_wp2
      go_ret
      exact ⟨_, rfl, P, by rw [HA0.out, HYS0.out, ← HKK.out]; exact hs9, HI.out, hB9⟩
end Go.Proofs.YtelglfegpfhbpaaDoor
