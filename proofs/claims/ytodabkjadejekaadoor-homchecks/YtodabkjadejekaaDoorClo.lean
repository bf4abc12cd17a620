/- What the document's Closed answers, and the law's listAs. -/
import Derived.Test.YtodabkjadejekaaDoorSpn
namespace Go.Proofs.YtodabkjadejekaaDoor
open Go Go.RowKit

theorem has_sl (v : Value) (xs : List Nat) (a : Nat) (w : World) (hv : Sl w v (li xs)) :
    Calls Tryd.prog 26 #[v, .int .i64 a] w fun e w' => e = .returned (.bool (decide (a ∈ xs))) ∧ Below w.heap.size w w' := by
  refine (rhas_ok v (li xs) a w hv).mono ?_
  rintro e w' ⟨rfl, rfl⟩
  refine ⟨?_, Below.refl _ _⟩
  have : decide ((a : Int) ∈ li xs) = decide (a ∈ xs) := by rw [Bool.eq_iff_iff, decide_eq_true_eq, decide_eq_true_eq, mem_li]
  rw [this]
set_option maxRecDepth 100000 in
set_option maxHeartbeats 8000000 in
theorem closed_ok (n e : Nat) (v u : Value) (zs : List Int) (xs : List Nat) (w : World) (hv : Sl w v zs) (hg : IsGrp n zs e) (hu : Sl w u (li xs)) (hx : ∀ x, x ∈ xs → x < n) (hxl : xs.length ≤ 100000) :
    Calls Tryd.prog 79 #[.agg #[.int .i64 n, v], u] w fun x w' => x = .returned (.bool (subT n zs e fun a => decide (a ∈ xs))) ∧ Below w.heap.size w w' := by
  have hsub := subT_iff (n := n) (zs := zs) (e := e) (q := fun a => decide (a ∈ xs))
  have hB0 : Below w.heap.size w (w.alloc (.cells #[.int .i64 n, v] 24)) := balloc w _
  have hX0 : BoxG (w.alloc (.cells #[.int .i64 n, v] 24)) w.heap.size n v := blk0 _ _
  obtain ⟨w0, hw0⟩ : ∃ w0, w0 = w.alloc (.cells #[.int .i64 n, v] 24) := ⟨_, rfl⟩
  rw [← hw0] at hB0 hX0
  obtain ⟨c0, c1, _, _⟩ := hX0.two
  rw [hw0] at c0 c1
  obtain ⟨ua, ucap, pb, po, rfl, hur, hup, huq, hum⟩ := id hu
  have HUR := hide hur
  have HX := hide hx
  have HE := hide (E_ok n v zs w0 hg.tab (hv.below hB0))
  rw [hg.one] at HE
  have HHS := hide (fun a W (h : Below w.heap.size w W) => has_sl _ xs a W (hu.below h))
  have HSUB := hide hsub
  have hFg := grp_fg hg
  clear hur hx hum hsub
  rw [li_len] at *
  have HUL := hide (li_len xs)
  go_enter Tryd.func79, Tryd.ntmps79
  go_wp2_with fail
  rw [← hw0]
  clear hw0 c0 c1
  refine HE.out.mono ?_
  rintro x9 w1 ⟨rfl, hb1⟩
  have hB1 := bcat2 hB0 hb1
  go_wp2_with fail
  refine (HHS.out e w1 hB1).mono ?_
  by_cases hee : e ∈ xs
  · rw [decide_eq_true hee]
    rintro x9 w2 ⟨rfl, hb2⟩
    have hB2 := bcat2 hB1 hb2
    have hX2 := blk_below hX0 (bcat2 hb1 hb2)
    go_wp2
    go_loopw [5] (fun i wr => ∃ k : Nat, k ≤ xs.length ∧ i = .int .i64 k ∧ (∀ t, (ht : t < xs.length) → t < k → ∀ y, y ∈ xs → tm n zs xs[t] y ∈ xs) ∧ Below w2.heap.size w2 wr) (fun i _ => xs.length - (intOf i).toNat)
    case atStart => exact ⟨0, Nat.zero_le _, rfl, fun t _ ht => by omega, Below.refl _ _⟩
    case round =>
      obtain ⟨k, hk, rfl, hno, hB⟩ := hrel
      have HNO := hide hno
      clear hno
      have hBw := bcat2 hB2 hB
      by_cases hlt : k < xs.length
      · have hck := (HUR.out.below hBw hup).cell k (by rw [HUL.out]; exact hlt)
        rw [li_get hlt] at hck
        obtain rfl := HUR.out.at_ (by rw [HUL.out]; omega)
        obtain ⟨x, hxe⟩ : ∃ x, xs[k] = x := ⟨_, rfl⟩
        have hxm : x ∈ xs := by rw [← hxe]; exact List.getElem_mem hlt
        have hxn : x < n := HX.out _ hxm
        rw [hxe] at hck
        have HXE := hide hxe
        clear hxe
        have hki : (k : Int) < (xs.length : Int) := by omega
        obtain ⟨g0, g1, _, _⟩ := (blk_below hX2 hB).two
        obtain ⟨hin, hi1, _, _⟩ := iv_spec hg hxn
        have hvr := hv.below hBw
        have HI := hide (fun W (h : Below wr.heap.size wr W) => Iiv_ok n x e v zs W hg (hvr.below h) hxn)
        have HH := hide (fun W (h : Below wr.heap.size wr W) => HHS.out (iv n zs e x) W (bcat2 hBw h))
        have hS : ∀ W, Below wr.heap.size wr W → (Below wr.heap.size wr W ∧ W.cell? ⟨w.heap.size, 0, none⟩ = some (.int .i64 n) ∧ W.cell? ⟨w.heap.size, 1, none⟩ = some v ∧ W.cell? ⟨pb, po + k, none⟩ = some (.int .i64 x)) := fun W h => ⟨h, below_cell h g0, below_cell h g1, below_cell h hck⟩
        have hS0 := hS _ (bdrew (Below.refl _ wr))
        by_cases hiin : iv n zs e x ∈ xs
        · rw [decide_eq_true hiin] at HH
          clear hi1 hin
          generalize iv n zs e x = i at *
          go_wp2_with fail
          go_region_held3 (fun W => Below wr.heap.size wr W ∧ W.cell? ⟨w.heap.size, 0, none⟩ = some (.int .i64 n) ∧ W.cell? ⟨w.heap.size, 1, none⟩ = some v ∧ W.cell? ⟨pb, po + k, none⟩ = some (.int .i64 x))
            (first | exact hS0 | assumption | exact hS _ (bcat2 (And.left ‹_›) hl1))
            (first
              | (go_at_call 77; refine (HI.out _ (And.left ‹_›)).mono ?_; rintro e1 U1 ⟨rfl, hl1⟩)
              | (go_at_call 26; refine (HH.out _ (And.left ‹_›)).mono ?_; rintro e2 U2 ⟨rfl, hl1⟩))
          have hB9 := And.left ‹Below wr.heap.size wr U2 ∧ _›
          clear hS hS0 HH HI hl1
          have hB3 := bcat2 hB hB9
          have hX3 := blk_below hX2 hB3
          have hck3 := below_cell hB9 hck
          go_wp2
          clear g0 g1 hck
          go_loopw [6] (fun i wr' => ∃ j : Nat, j ≤ xs.length ∧ i = .int .i64 j ∧ (∀ t, (ht : t < xs.length) → t < j → tm n zs x xs[t] ∈ xs) ∧ Below U2.heap.size U2 wr') (fun i _ => xs.length - (intOf i).toNat)
          case atStart => exact ⟨0, Nat.zero_le _, rfl, fun t _ ht => by omega, Below.refl _ _⟩
          case round =>
            obtain ⟨j, hj, rfl, hnj, hBj⟩ := hrel
            have HNJ := hide hnj
            clear hnj
            have hBw := bcat2 hB2 (bcat2 hB3 hBj)
            have hck := below_cell hBj hck3
            by_cases hltj : j < xs.length
            · have hcj := (HUR.out.below hBw hup).cell j (by rw [HUL.out]; exact hltj)
              rw [li_get hltj] at hcj
              obtain ⟨y, hye⟩ : ∃ y, xs[j] = y := ⟨_, rfl⟩
              have hym : y ∈ xs := by rw [← hye]; exact List.getElem_mem hltj
              have hyn : y < n := HX.out _ hym
              rw [hye] at hcj
              have HYE := hide hye
              clear hye
              have hji : (j : Int) < (xs.length : Int) := by omega
              obtain ⟨g0, g1, _, _⟩ := (blk_below hX3 hBj).two
              have hvr := hv.below hBw
              have HMM := hide (fun W (h : Below wr.heap.size wr W) => M_ok n v zs x y W hg.tab (hvr.below h) hxn hyn)
              have HH := hide (fun W (h : Below wr.heap.size wr W) => HHS.out (tm n zs x y) W (bcat2 hBw h))
              have hS : ∀ W, Below wr.heap.size wr W → (Below wr.heap.size wr W ∧ W.cell? ⟨w.heap.size, 0, none⟩ = some (.int .i64 n) ∧ W.cell? ⟨w.heap.size, 1, none⟩ = some v ∧ W.cell? ⟨pb, po + k, none⟩ = some (.int .i64 x) ∧ W.cell? ⟨pb, po + j, none⟩ = some (.int .i64 y)) := fun W h => ⟨h, below_cell h g0, below_cell h g1, below_cell h hck, below_cell h hcj⟩
              have hS0 := hS _ (bdrew (Below.refl _ wr))
              by_cases htin : tm n zs x y ∈ xs
              · rw [decide_eq_true htin] at HH
                have HTQ := hide htin
                obtain ⟨t, ht⟩ : ∃ t, tm n zs x y = t := ⟨_, rfl⟩
                rw [ht] at HMM HH
                clear ht htin
                go_wp2_with fail
                go_region_held3 (fun W => Below wr.heap.size wr W ∧ W.cell? ⟨w.heap.size, 0, none⟩ = some (.int .i64 n) ∧ W.cell? ⟨w.heap.size, 1, none⟩ = some v ∧ W.cell? ⟨pb, po + k, none⟩ = some (.int .i64 x) ∧ W.cell? ⟨pb, po + j, none⟩ = some (.int .i64 y))
                  (first | exact hS0 | assumption | exact hS _ (bcat2 (And.left ‹_›) hl1))
                  (first
                    | (go_at_call 45; refine (HMM.out _ (And.left ‹_›)).mono ?_; rintro e1 U1 ⟨rfl, hl1⟩)
                    | (go_at_call 26; refine (HH.out _ (And.left ‹_›)).mono ?_; rintro e2 U2 ⟨rfl, hl1⟩))
                have hB9 := And.left ‹Below wr.heap.size wr U2 ∧ _›
                clear hS hS0 HH HMM hl1
                go_wp2
                go_roundw
                case rel => exact ⟨j + 1, by omega, by go_num, fun t9 h1 h2 => by
                  by_cases e9 : t9 = j
                  · subst e9; rw [HYE.out]; exact HTQ.out
                  · exact HNJ.out t9 h1 (by omega), bcat2 hBj hB9⟩
                case measure => simp [intOf]; omega
              · rw [decide_eq_false htin] at HH
                have HD := hide (show (subT n zs e fun a => decide (a ∈ xs)) = false by
                  rw [← Bool.not_eq_true]
                  intro h
                  exact htin (by simpa using (HSUB.out.1 h).mul x y (List.mem_range.2 hxn) (List.mem_range.2 hyn) (by simpa using hxm) (by simpa using hym)))
                clear htin
                generalize tm n zs x y = t at *
                go_wp2_with fail
                go_region_held3 (fun W => Below wr.heap.size wr W ∧ W.cell? ⟨w.heap.size, 0, none⟩ = some (.int .i64 n) ∧ W.cell? ⟨w.heap.size, 1, none⟩ = some v ∧ W.cell? ⟨pb, po + k, none⟩ = some (.int .i64 x) ∧ W.cell? ⟨pb, po + j, none⟩ = some (.int .i64 y))
                  (first | exact hS0 | assumption | exact hS _ (bcat2 (And.left ‹_›) hl1))
                  (first
                    | (go_at_call 45; refine (HMM.out _ (And.left ‹_›)).mono ?_; rintro e1 U1 ⟨rfl, hl1⟩)
                    | (go_at_call 26; refine (HH.out _ (And.left ‹_›)).mono ?_; rintro e2 U2 ⟨rfl, hl1⟩))
                have hB9 := And.left ‹Below wr.heap.size wr U2 ∧ _›
                go_wp2
                go_ret
                exact ⟨by rw [HD.out]; rfl, bcat2 hBw hB9⟩
            · go_wp2
              go_roundw
              case rel => exact ⟨k + 1, by omega, by go_num, fun t h1 h2 y hy => by
                by_cases e9 : t = k
                · subst e9
                  obtain ⟨t9, h9, rfl⟩ := List.mem_iff_getElem.1 hy
                  rw [HXE.out]; exact HNJ.out t9 h9 (by omega)
                · exact HNO.out t h1 (by omega) y hy, bcat2 hB3 hBj⟩
              case measure => simp [intOf]; omega
        · rw [decide_eq_false hiin] at HH
          have HD := hide (show (subT n zs e fun a => decide (a ∈ xs)) = false by
            rw [← Bool.not_eq_true]
            intro h
            exact hiin (by simpa using (HSUB.out.1 h).inv hFg (List.mem_range.2 hxn) (List.mem_range.2 hin) hi1 (by simpa using hxm)))
          clear hiin hi1 hin
          generalize iv n zs e x = i at *
          go_wp2_with fail
          go_region_held3 (fun W => Below wr.heap.size wr W ∧ W.cell? ⟨w.heap.size, 0, none⟩ = some (.int .i64 n) ∧ W.cell? ⟨w.heap.size, 1, none⟩ = some v ∧ W.cell? ⟨pb, po + k, none⟩ = some (.int .i64 x))
            (first | exact hS0 | assumption | exact hS _ (bcat2 (And.left ‹_›) hl1))
            (first
              | (go_at_call 77; refine (HI.out _ (And.left ‹_›)).mono ?_; rintro e1 U1 ⟨rfl, hl1⟩)
              | (go_at_call 26; refine (HH.out _ (And.left ‹_›)).mono ?_; rintro e2 U2 ⟨rfl, hl1⟩))
          have hB9 := And.left ‹Below wr.heap.size wr U2 ∧ _›
          go_wp2
          go_ret
          exact ⟨by rw [HD.out]; rfl, bcat2 hBw hB9⟩
      · have HD := hide (show (subT n zs e fun a => decide (a ∈ xs)) = true by
          rw [HSUB.out]
          refine ⟨by simpa using hee, fun a b _ _ h1 h2 => ?_⟩
          have h1 : a ∈ xs := by simpa using h1
          have h2 : b ∈ xs := by simpa using h2
          obtain ⟨t, ht, rfl⟩ := List.mem_iff_getElem.1 h1
          simpa using HNO.out t ht (by omega) b h2)
        go_wp2
        go_ret
        exact ⟨by rw [HD.out]; rfl, hBw⟩
  · rw [decide_eq_false hee]
    rintro x9 w2 ⟨rfl, hb2⟩
    have HD := hide (show (subT n zs e fun a => decide (a ∈ xs)) = false by
      rw [← Bool.not_eq_true]
      intro h
      exact hee (by simpa using (HSUB.out.1 h).one))
    go_wp2
    go_ret
    exact ⟨by rw [HD.out]; rfl, bcat2 hB1 hb2⟩
end Go.Proofs.YtodabkjadejekaaDoor
