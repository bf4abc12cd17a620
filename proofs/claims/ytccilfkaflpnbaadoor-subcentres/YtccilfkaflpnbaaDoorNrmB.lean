/- The third closure of the law SubNormal: what the conjugates make. -/
import Derived.Test.YtccilfkaflpnbaaDoorNrmA
import Derived.Deep.AppendLies
namespace Go.Proofs.YtccilfkaflpnbaaDoor
open Go Go.RowKit

def cjs (n : Nat) (zs : List Int) (e : Nat) (xs : List Nat) (k : Nat) : List Nat := (List.range k).flatMap fun a => xs.map fun x => Fin.cj (tm n zs) (iv n zs e) x a
theorem cjs_succ (n : Nat) (zs : List Int) (e : Nat) (xs : List Nat) (k : Nat) : cjs n zs e xs (k + 1) = cjs n zs e xs k ++ xs.map fun x => Fin.cj (tm n zs) (iv n zs e) x k := by
  simp [cjs, List.range_succ]
theorem cjs_len (n : Nat) (zs : List Int) (e : Nat) (xs : List Nat) : ∀ k, (cjs n zs e xs k).length = k * xs.length
  | 0 => by simp [cjs]
  | k + 1 => by rw [cjs_succ, List.length_append, cjs_len n zs e xs k, List.length_map, Nat.succ_mul]
theorem mem_cjs {n : Nat} {zs : List Int} {e : Nat} {xs : List Nat} {k y : Nat} : y ∈ cjs n zs e xs k ↔ ∃ a x, a < k ∧ x ∈ xs ∧ Fin.cj (tm n zs) (iv n zs e) x a = y := by
  simp only [cjs, List.mem_flatMap, List.mem_range, List.mem_map]
  exact ⟨fun ⟨a, h, x, h1, h2⟩ => ⟨a, x, h, h1, h2⟩, fun ⟨a, x, h, h1, h2⟩ => ⟨a, h, x, h1, h2⟩⟩
theorem li_app (xs ys : List Nat) : li (xs ++ ys) = li xs ++ li ys := by simp [li]
theorem take_map_snoc {xs : List Nat} {f : Nat → Nat} {k : Nat} (hk : k < xs.length) : (xs.take (k + 1)).map f = (xs.take k).map f ++ [f xs[k]] := by
  rw [List.take_add_one, List.map_append, List.getElem?_eq_getElem hk]; rfl
set_option maxRecDepth 100000 in
set_option maxHeartbeats 8000000 in
theorem cl54_ok (n e gb lb : Nat) (v lv : Value) (zs : List Int) (xs : List Nat) (p : Nat → Bool) (w : World) (g : IsGrp n zs e) (hv : Sl w v zs) (hX : BoxG w gb n v) (hL : Boxed w lb 22 lv) (hsL : Sl w lv (li xs)) (hm : ∀ x, x ∈ xs → x < n) (hxl : xs.length ≤ 60) (hp : ∀ a, a < n → (p a = true ↔ Mkd n zs e (fun a => decide (a ∈ cjs n zs e xs n)) a)) :
    Calls Tryd.prog 54 #[.pointer (some ⟨gb, 0, none⟩), .pointer (some ⟨lb, 0, none⟩)] w fun x w' => ∃ r, x = .returned r ∧ Sl w' r (li (lst n p)) ∧ Below w.heap.size w w' := by
  obtain ⟨i0, hi, hz0, hz1, hz2⟩ := info_parts info3b
  have hn := g.tab.le
  have h00 : 0 < w.heap.size := Nat.lt_of_le_of_lt (Nat.zero_le _) hX.lt
  obtain ⟨la, cap, pb, po, rfl, hr, hpb, hq3, hq4⟩ := id hsL
  rw [li_len] at *
  have HR := hide hr
  have HLL := hide (li_len xs)
  have HM9 := hide hm
  have HP := hide hp
  clear hr hq3 hq4 hm hp
  go_enter Tryd.func54, Tryd.ntmps54
  go_wp2
  go_loopw [3, 4] (fun r i wr => ∃ k : Nat, k ≤ n ∧ i = .int .i64 k ∧ Row wr w.heap.size r (li (cjs n zs e xs k)) ∧ Below w.heap.size w wr) (fun _ i _ => n - (intOf i).toNat)
  case atStart => exact ⟨0, Nat.zero_le _, rfl, nil_row _ _, Below.refl _ _⟩
  case round =>
    obtain ⟨k, hk, rfl, hrow, hB⟩ := hrel
    obtain ⟨r, rfl⟩ : ∃ r, r = u3 := ⟨_, rfl⟩
    obtain ⟨g0, g1, _, _⟩ := (blk_below hX hB).two
    have c2 := (Boxed.below hL hB).cell
    by_cases hlt : k < n
    · have hki : (k : Int) < (n : Int) := by omega
      go_wp2
      clear g0 g1 c2
      go_loopw [3, 5] (fun r i wr => ∃ j : Nat, j ≤ xs.length ∧ i = .int .i64 j ∧ Row wr w.heap.size r (li (cjs n zs e xs k ++ (xs.take j).map fun x => Fin.cj (tm n zs) (iv n zs e) x k)) ∧ Below w.heap.size w wr) (fun _ i _ => xs.length - (intOf i).toNat)
      case atStart => exact ⟨0, Nat.zero_le _, rfl, by simpa using hrow, hB⟩
      case round =>
        clear hrow hB
        obtain ⟨j, hj, rfl, hrow, hB⟩ := hrel
        obtain ⟨r, rfl⟩ : ∃ r, r = u3 := ⟨_, rfl⟩
        have hBs := hB.size
        by_cases hltj : j < xs.length
        · have hcj := HR.out.cell j (by rw [HLL.out]; exact hltj)
          rw [li_get hltj] at hcj
          obtain rfl := HR.out.at_ (by rw [HLL.out]; omega)
          obtain ⟨y, hye⟩ : ∃ y, xs[j] = y := ⟨_, rfl⟩
          have hyn : y < n := by rw [← hye]; exact HM9.out _ (List.getElem_mem hltj)
          have HE := hide (show li (cjs n zs e xs k ++ (xs.take (j + 1)).map fun x => Fin.cj (tm n zs) (iv n zs e) x k) = li (cjs n zs e xs k ++ (xs.take j).map fun x => Fin.cj (tm n zs) (iv n zs e) x k) ++ [(Fin.cj (tm n zs) (iv n zs e) y k : Int)] by
            rw [take_map_snoc hltj, ← List.append_assoc, li_app, hye]; rfl)
          rw [hye] at hcj
          clear hye
          have hji : (j : Int) < (xs.length : Int) := by omega
          have HMM := hide (fun W (h : Below w.heap.size w W) => rcj_ok n e y k v zs W g (hv.below h) hyn hlt)
          have HL9 := hide (show (li (cjs n zs e xs k ++ (xs.take j).map fun x => Fin.cj (tm n zs) (iv n zs e) x k)).length ≤ 3720 by
            rw [li_len, List.length_append, cjs_len, List.length_map, List.length_take]
            have := Nat.mul_le_mul (show k ≤ 60 by omega) hxl
            omega)
          generalize Fin.cj (tm n zs) (iv n zs e) y k = c at *
          generalize li (cjs n zs e xs k ++ (xs.take j).map fun x => Fin.cj (tm n zs) (iv n zs e) x k) = ls at *
          obtain ⟨g0, g1, _, _⟩ := hX.two
          have c2 := hL.cell
          have hS : ∀ W, Below w.heap.size w W → (Below w.heap.size w W ∧ W.cell? ⟨gb, 0, none⟩ = some (.int .i64 n) ∧ W.cell? ⟨gb, 1, none⟩ = some v ∧ W.cell? ⟨lb, 0, none⟩ = some (.slice (some ⟨pb, po, none⟩) xs.length cap) ∧ W.cell? ⟨pb, po + j, none⟩ = some (.int .i64 y)) := fun W h => ⟨h, below_cell h g0, below_cell h g1, below_cell h c2, below_cell h hcj⟩
          have hS0 := hS _ (bdrew hB)
          have c2 := below_cell hB c2
          go_wp2_with fail
          clear g0 g1 c2 hcj
          go_region_held3 (fun W => Below w.heap.size w W ∧ W.cell? ⟨gb, 0, none⟩ = some (.int .i64 n) ∧ W.cell? ⟨gb, 1, none⟩ = some v ∧ W.cell? ⟨lb, 0, none⟩ = some (.slice (some ⟨pb, po, none⟩) xs.length cap) ∧ W.cell? ⟨pb, po + j, none⟩ = some (.int .i64 y))
            (first | exact hS0 | assumption | exact hS _ (bcat2 (And.left ‹_›) hl1) | exact hS _ hBa | exact hS _ hB2)
            (first
              | (go_at_call 53; refine (HMM.out _ (And.left ‹_›)).mono ?_; rintro e1 U1 ⟨rfl, hl1⟩; have hown : U1.ownsRow w.heap.size 3 1 r ls.length (ls.map (Value.int .i64)) := row_below hrow (undrew hl1); have hB1 := bcat2 (And.left ‹_›) hl1; have hBa := hB1.alloc hB1.size (.cells #[.int .i64 c] 3); have hsz9 := hB1.size)
              | (refine step_append_lies _ rfl _ _ 22 rfl w.heap.size 3 i0 (.int .i64 0) 1 8 under22b hi hz0 hz1 hz2 rfl (by decide) _ _ _ rfl (World.ownsRow.alloc hown _) ⟨U1.heap.size, 0, none⟩ 1 1 [.int .i64 c] rfl rfl (cell_one_new _ _ _) (by simp [Value.oneCell']) (by decide) (by unfold maxLen; have := HL9.out; omega) (by have := HL9.out; omega) (by simp; omega) _ rfl ?_; intro g' cap' w2 hown' hgrow _ _; have hB2 : Below w.heap.size w w2 := hBa.grown hgrow (by simp; omega) (fun t e => owns_ge hown t e)))
          all_goals (
            have hrow2 : Row w2 w.heap.size (.slice (some ⟨g', 0, none⟩) (ls.length + 1) cap') (li (cjs n zs e xs k ++ (xs.take (j + 1)).map fun x => Fin.cj (tm n zs) (iv n zs e) x k)) := by
              unfold Row
              rw [HE.out]
              simpa using hown'
            go_wp2
            go_roundw
            case rel => exact ⟨j + 1, by omega, by go_num, hrow2, hB2⟩
            case measure => simp [intOf]; omega)
        · have hjj : j = xs.length := by omega
          subst hjj
          have hrow9 : Row wr w.heap.size r (li (cjs n zs e xs (k + 1))) := by rw [cjs_succ]; simpa using hrow
          have c2 := (Boxed.below hL hB).cell
          go_wp2
          go_roundw
          case rel => exact ⟨k + 1, by omega, by go_num, hrow9, hB⟩
          case measure => simp [intOf]; omega
    · have hkk : k = n := by omega
      subst hkk
      have hrs := row_sl hrow (Nat.lt_of_lt_of_le h00 hB.size)
      have HSP := hide (span_ok k e v r zs (cjs k zs e xs k) p wr (hv.below hB) g hrs (fun y hy => by
        obtain ⟨a, x, h1, h2, rfl⟩ := mem_cjs.1 hy
        exact rcj_lt g (HM9.out x h2) h1) (by
        rw [cjs_len]
        have := Nat.mul_le_mul hn hxl
        omega) HP.out)
      go_wp2_with fail
      refine HSP.out.mono ?_
      rintro x w1 ⟨r9, rfl, hr9, hb1⟩
      have hs9 := row_sl hr9 (Nat.lt_of_lt_of_le (Nat.lt_of_lt_of_le h00 hB.size) hb1.size)
      go_wp2
      go_ret
      exact ⟨_, rfl, hs9, bcat hB hb1 hB.size⟩
end Go.Proofs.YtccilfkaflpnbaaDoor
