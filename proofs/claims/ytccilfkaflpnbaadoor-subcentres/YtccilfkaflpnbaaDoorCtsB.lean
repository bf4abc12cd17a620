/- The last closure of the law SubCentres: what the commutators make. -/
import Derived.Test.YtccilfkaflpnbaaDoorCtsA
import Derived.Deep.AppendLies
namespace Go.Proofs.YtccilfkaflpnbaaDoor
open Go Go.RowKit

def cms (n : Nat) (zs : List Int) (e : Nat) (xs ys : List Nat) : List Nat := xs.flatMap fun a => ys.map fun b => Fin.cm (tm n zs) (iv n zs e) a b
theorem cms_snoc (n : Nat) (zs : List Int) (e : Nat) (xs ys : List Nat) {k : Nat} (hk : k < xs.length) : cms n zs e (xs.take (k + 1)) ys = cms n zs e (xs.take k) ys ++ ys.map fun b => Fin.cm (tm n zs) (iv n zs e) xs[k] b := by
  unfold cms
  rw [List.take_add_one, List.getElem?_eq_getElem hk, List.flatMap_append]; simp only [Option.toList, List.flatMap_cons, List.flatMap_nil, List.append_nil]
theorem cms_len (n : Nat) (zs : List Int) (e : Nat) (ys : List Nat) : ∀ xs, (cms n zs e xs ys).length = xs.length * ys.length
  | [] => by simp [cms]
  | x :: xs => by
    have := cms_len n zs e ys xs
    simp only [cms, List.flatMap_cons, List.length_append, List.length_map, List.length_cons, Nat.succ_mul] at this ⊢
    omega
theorem mem_cms {n : Nat} {zs : List Int} {e : Nat} {xs ys : List Nat} {y : Nat} : y ∈ cms n zs e xs ys ↔ ∃ a b, a ∈ xs ∧ b ∈ ys ∧ Fin.cm (tm n zs) (iv n zs e) a b = y := by
  simp only [cms, List.mem_flatMap, List.mem_map]
  exact ⟨fun ⟨a, h, x, h1, h2⟩ => ⟨a, x, h, h1, h2⟩, fun ⟨a, x, h, h1, h2⟩ => ⟨a, h, x, h1, h2⟩⟩
theorem cms_eq {n e : Nat} {zs : List Int} {xs ys : List Nat} : (fun a => decide (a ∈ cms n zs e xs ys)) = cmq n zs e xs ys := by
  funext y
  rw [Bool.eq_iff_iff, decide_eq_true_eq, mem_cms]
  unfold cmq
  simp only [List.any_eq_true, decide_eq_true_eq]
  exact ⟨fun ⟨a, b, h1, h2, h3⟩ => ⟨a, h1, b, h2, h3⟩, fun ⟨a, h1, b, h2, h3⟩ => ⟨a, b, h1, h2, h3⟩⟩
set_option maxRecDepth 100000 in
set_option maxHeartbeats 8000000 in
theorem cl39_ok (n e gb lb kb : Nat) (v lv kv : Value) (zs : List Int) (xs ys : List Nat) (p : Nat → Bool) (w : World) (g : IsGrp n zs e) (hv : Sl w v zs) (hX : BoxG w gb n v) (hL : Boxed w lb 22 lv) (hsL : Sl w lv (li xs)) (hK : Boxed w kb 22 kv) (hsK : Sl w kv (li ys)) (hm : ∀ x, x ∈ xs → x < n) (hm2 : ∀ x, x ∈ ys → x < n) (hxl : xs.length ≤ 60) (hyl : ys.length ≤ 60) (hp : ∀ a, a < n → (p a = true ↔ Mkd n zs e (fun a => decide (a ∈ cms n zs e xs ys)) a)) :
    Calls Tryd.prog 39 #[.pointer (some ⟨lb, 0, none⟩), .pointer (some ⟨kb, 0, none⟩), .pointer (some ⟨gb, 0, none⟩)] w fun x w' => ∃ r, x = .returned r ∧ Sl w' r (li (lst n p)) ∧ Below w.heap.size w w' := by
  obtain ⟨i0, hi, hz0, hz1, hz2⟩ := info_parts info3b
  have hn := g.tab.le
  have h00 : 0 < w.heap.size := Nat.lt_of_le_of_lt (Nat.zero_le _) hX.lt
  obtain ⟨la, cap, pb, po, rfl, hr, hpb, hq3, hq4⟩ := id hsL
  obtain ⟨ka, kcap, qb, qo, rfl, hr2, hqb, hq5, hq6⟩ := id hsK
  simp only [li_len] at *
  have HR := hide hr
  have HR2 := hide hr2
  have HLL2 := hide (li_len ys)
  have HM2 := hide hm2
  have HLL := hide (li_len xs)
  have HM9 := hide hm
  have HP := hide hp
  clear hr hq3 hq4 hm hp hr2 hq5 hq6 hm2
  go_enter Tryd.func39, Tryd.ntmps39
  go_wp2
  go_loopw [4, 5] (fun r i wr => ∃ k : Nat, k ≤ xs.length ∧ i = .int .i64 k ∧ Row wr w.heap.size r (li (cms n zs e (xs.take k) ys)) ∧ Below w.heap.size w wr) (fun _ i _ => xs.length - (intOf i).toNat)
  case atStart => exact ⟨0, Nat.zero_le _, rfl, nil_row _ _, Below.refl _ _⟩
  case round =>
    obtain ⟨k, hk, rfl, hrow, hB⟩ := hrel
    obtain ⟨r, rfl⟩ : ∃ r, r = u4 := ⟨_, rfl⟩
    obtain ⟨g0, g1, _, _⟩ := (blk_below hX hB).two
    have c2 := (Boxed.below hL hB).cell
    by_cases hlt : k < xs.length
    · have hki : (k : Int) < (xs.length : Int) := by omega
      obtain rfl := HR.out.at_ (by rw [HLL.out]; omega)
      obtain ⟨x, hxe⟩ : ∃ x, xs[k] = x := ⟨_, rfl⟩
      have hxn : x < n := by rw [← hxe]; exact HM9.out _ (List.getElem_mem hlt)
      have hcx := HR.out.cell k (by rw [HLL.out]; exact hlt)
      rw [li_get hlt, hxe] at hcx
      have HXE := hide hxe
      clear hxe
      go_wp2
      clear g0 g1 c2
      go_loopw [4, 6] (fun r i wr => ∃ j : Nat, j ≤ ys.length ∧ i = .int .i64 j ∧ Row wr w.heap.size r (li (cms n zs e (xs.take k) ys ++ (ys.take j).map fun b => Fin.cm (tm n zs) (iv n zs e) x b)) ∧ Below w.heap.size w wr) (fun _ i _ => ys.length - (intOf i).toNat)
      case atStart => exact ⟨0, Nat.zero_le _, rfl, by simpa using hrow, hB⟩
      case round =>
        clear hrow hB
        obtain ⟨j, hj, rfl, hrow, hB⟩ := hrel
        obtain ⟨r, rfl⟩ : ∃ r, r = u4 := ⟨_, rfl⟩
        have hBs := hB.size
        have d2 := (Boxed.below hK hB).cell
        by_cases hltj : j < ys.length
        · have hcj := HR2.out.cell j (by rw [HLL2.out]; exact hltj)
          rw [li_get hltj] at hcj
          obtain rfl := HR2.out.at_ (by rw [HLL2.out]; omega)
          obtain ⟨y, hye⟩ : ∃ y, ys[j] = y := ⟨_, rfl⟩
          have hyn : y < n := by rw [← hye]; exact HM2.out _ (List.getElem_mem hltj)
          have HE := hide (show li (cms n zs e (xs.take k) ys ++ (ys.take (j + 1)).map fun b => Fin.cm (tm n zs) (iv n zs e) x b) = li (cms n zs e (xs.take k) ys ++ (ys.take j).map fun b => Fin.cm (tm n zs) (iv n zs e) x b) ++ [(Fin.cm (tm n zs) (iv n zs e) x y : Int)] by
            rw [take_map_snoc hltj, ← List.append_assoc, li_app, hye]; rfl)
          rw [hye] at hcj
          clear hye
          have hji : (j : Int) < (ys.length : Int) := by omega
          have HMM := hide (fun W (h : Below w.heap.size w W) => rcm_ok n e x y v zs W g (hv.below h) hxn hyn)
          have HL9 := hide (show (li (cms n zs e (xs.take k) ys ++ (ys.take j).map fun b => Fin.cm (tm n zs) (iv n zs e) x b)).length ≤ 3720 by
            rw [li_len, List.length_append, cms_len, List.length_map, List.length_take, List.length_take]
            have := Nat.mul_le_mul (show min k xs.length ≤ 60 by omega) hyl
            omega)
          generalize Fin.cm (tm n zs) (iv n zs e) x y = c at *
          generalize li (cms n zs e (xs.take k) ys ++ (ys.take j).map fun b => Fin.cm (tm n zs) (iv n zs e) x b) = ls at *
          obtain ⟨g0, g1, _, _⟩ := hX.two
          have c2 := hL.cell
          have c3 := hK.cell
          have hS : ∀ W, Below w.heap.size w W → (Below w.heap.size w W ∧ W.cell? ⟨gb, 0, none⟩ = some (.int .i64 n) ∧ W.cell? ⟨gb, 1, none⟩ = some v ∧ W.cell? ⟨lb, 0, none⟩ = some (.slice (some ⟨pb, po, none⟩) xs.length cap) ∧ W.cell? ⟨kb, 0, none⟩ = some (.slice (some ⟨qb, qo, none⟩) ys.length kcap) ∧ W.cell? ⟨pb, po + k, none⟩ = some (.int .i64 x) ∧ W.cell? ⟨qb, qo + j, none⟩ = some (.int .i64 y)) := fun W h => ⟨h, below_cell h g0, below_cell h g1, below_cell h c2, below_cell h c3, below_cell h hcx, below_cell h hcj⟩
          have hS0 := hS _ (bdrew hB)
          go_wp2_with fail
          clear g0 g1 c2 c3 hcj d2
          go_region_held3 (fun W => Below w.heap.size w W ∧ W.cell? ⟨gb, 0, none⟩ = some (.int .i64 n) ∧ W.cell? ⟨gb, 1, none⟩ = some v ∧ W.cell? ⟨lb, 0, none⟩ = some (.slice (some ⟨pb, po, none⟩) xs.length cap) ∧ W.cell? ⟨kb, 0, none⟩ = some (.slice (some ⟨qb, qo, none⟩) ys.length kcap) ∧ W.cell? ⟨pb, po + k, none⟩ = some (.int .i64 x) ∧ W.cell? ⟨qb, qo + j, none⟩ = some (.int .i64 y))
            (first | exact hS0 | assumption | exact hS _ (bcat2 (And.left ‹_›) hl1) | exact hS _ hBa | exact hS _ hB2)
            (first
              | (go_at_call 40; refine (HMM.out _ (And.left ‹_›)).mono ?_; rintro e1 U1 ⟨rfl, hl1⟩; have hown : U1.ownsRow w.heap.size 3 1 r ls.length (ls.map (Value.int .i64)) := row_below hrow (undrew hl1); have hB1 := bcat2 (And.left ‹_›) hl1; have hBa := hB1.alloc hB1.size (.cells #[.int .i64 c] 3); have hsz9 := hB1.size)
              | (refine step_append_lies _ rfl _ _ 22 rfl w.heap.size 3 i0 (.int .i64 0) 1 8 under22b hi hz0 hz1 hz2 rfl (by decide) _ _ _ rfl (World.ownsRow.alloc hown _) ⟨U1.heap.size, 0, none⟩ 1 1 [.int .i64 c] rfl rfl (cell_one_new _ _ _) (by simp [Value.oneCell']) (by decide) (by unfold maxLen; have := HL9.out; omega) (by have := HL9.out; omega) (by simp; omega) _ rfl ?_; intro g' cap' w2 hown' hgrow _ _; have hB2 : Below w.heap.size w w2 := hBa.grown hgrow (by simp; omega) (fun t e => owns_ge hown t e)))
          all_goals (
            have hrow2 : Row w2 w.heap.size (.slice (some ⟨g', 0, none⟩) (ls.length + 1) cap') (li (cms n zs e (xs.take k) ys ++ (ys.take (j + 1)).map fun b => Fin.cm (tm n zs) (iv n zs e) x b)) := by
              unfold Row
              rw [HE.out]
              simpa using hown'
            go_wp2
            go_roundw
            case rel => exact ⟨j + 1, by omega, by go_num, hrow2, hB2⟩
            case measure => simp [intOf]; omega)
        · have hjj : j = ys.length := by omega
          subst hjj
          have hrow9 : Row wr w.heap.size r (li (cms n zs e (xs.take (k + 1)) ys)) := by rw [cms_snoc n zs e xs ys hlt, HXE.out]; simpa using hrow
          go_wp2
          go_roundw
          case rel => exact ⟨k + 1, by omega, by go_num, hrow9, hB⟩
          case measure => simp [intOf]; omega
    · have hkk : k = xs.length := by omega
      subst hkk
      rw [List.take_length] at hrow
      have hrs := row_sl hrow (Nat.lt_of_lt_of_le h00 hB.size)
      have HSP := hide (span_ok n e v r zs (cms n zs e xs ys) p wr (hv.below hB) g hrs (fun y hy => by
        obtain ⟨a, b, h1, h2, rfl⟩ := mem_cms.1 hy
        exact List.mem_range.1 (Fin.cm_mem (grp_fg g) (grp_iv g) (List.mem_range.2 (HM9.out a h1)) (List.mem_range.2 (HM2.out b h2)))) (by
        rw [cms_len]
        have := Nat.mul_le_mul hxl hyl
        omega) HP.out)
      go_wp2_with fail
      refine HSP.out.mono ?_
      rintro x w1 ⟨r9, rfl, hr9, hb1⟩
      have hs9 := row_sl hr9 (Nat.lt_of_lt_of_le (Nat.lt_of_lt_of_le h00 hB.size) hb1.size)
      go_wp2
      go_ret
      exact ⟨_, rfl, hs9, bcat hB hb1 hB.size⟩
end Go.Proofs.YtccilfkaflpnbaaDoor
