/- What the document's Closed answers. The document's SetFault and SubFault. Package prod: completes and direct. Condition: the library's table of places lies as its text lays it. Package prod: Direct; its walk, what it calls as premises. Condition: the library's table of places lies as its text lays it. Direct products of two subgroups as mathematics, and what Direct answers at everything. Condition: the library's table of places lies as its text lays it. -/
import Derived.Test.YtanbpjfdfnmjpaaDoorZ8
import Derived.Test.YtanbpjfdfnmjpaaDoorZ3
import Derived.Test.YtanbpjfdfnmjpaaDoorZ4
namespace Go.Proofs.YtanbpjfdfnmjpaaDoor
open Go Go.RowKit

set_option maxRecDepth 100000 in
set_option maxHeartbeats 8000000 in
theorem closed_ok (n e : Nat) (v u : Value) (zs : List Int) (xs : List Nat) (w : World) (hv : Sl w v zs) (hg : IsGrp n zs e) (hu : Sl w u (li xs)) (hx : ∀ x, x ∈ xs → x < n) (hxl : xs.length ≤ 100000) :
    Calls Tryd.prog 23 #[.agg #[.int .i64 n, v], u] w fun x w' => x = .returned (.bool (subT n zs e fun a => decide (a ∈ xs))) ∧ Below w.heap.size w w' := by
  have hsub := subT_iff (n := n) (zs := zs) (e := e) (q := fun a => decide (a ∈ xs))
  have hB0 : Below w.heap.size w (w.alloc (.cells #[.int .i64 n, v] 24)) := balloc w _
  have hX0 : BoxG (w.alloc (.cells #[.int .i64 n, v] 24)) w.heap.size n v := blk0 _ _
  obtain ⟨w0, hw0⟩ : ∃ w0, w0 = w.alloc (.cells #[.int .i64 n, v] 24) := ⟨_, rfl⟩
  rw [← hw0] at hB0 hX0
  obtain ⟨c0, c1, _, _⟩ := hX0.two
  rw [hw0] at c0 c1
  obtain ⟨ua, ucap, pb, po, rfl, hur, hup, huq, hum⟩ := id hu
  have HUR := hide hur
  have HX := hide hx
  have HE := hide (E_ok n v zs w0 hg.tab (hv.below hB0))
  rw [hg.one] at HE
  have HHS := hide (fun a W (h : Below w.heap.size w W) => has_sl _ xs a W (hu.below h))
  have HSUB := hide hsub
  have hFg := grp_fg hg
  clear hur hx hum hsub
  rw [li_len] at *
  have HUL := hide (li_len xs)
  go_enter Tryd.func23, Tryd.ntmps23
  go_wp2_with fail
  rw [← hw0]
  clear hw0 c0 c1
  refine HE.out.mono ?_
  rintro x9 w1 ⟨rfl, hb1⟩
  have hB1 := bcat2 hB0 hb1
  go_wp2_with fail
  refine (HHS.out e w1 hB1).mono ?_
  by_cases hee : e ∈ xs
  · rw [decide_eq_true hee]
    rintro x9 w2 ⟨rfl, hb2⟩
    have hB2 := bcat2 hB1 hb2
    have hX2 := blk_below hX0 (bcat2 hb1 hb2)
    go_wp2
    go_loopw [5] (fun i wr => ∃ k : Nat, k ≤ xs.length ∧ i = .int .i64 k ∧ (∀ t, (ht : t < xs.length) → t < k → ∀ y, y ∈ xs → tm n zs xs[t] y ∈ xs) ∧ Below w2.heap.size w2 wr) (fun i _ => xs.length - (intOf i).toNat)
    case atStart => exact ⟨0, Nat.zero_le _, rfl, fun t _ ht => by omega, Below.refl _ _⟩
    case round =>
      obtain ⟨k, hk, rfl, hno, hB⟩ := hrel
      have HNO := hide hno
      clear hno
      have hBw := bcat2 hB2 hB
      by_cases hlt : k < xs.length
      · have hck := (HUR.out.below hBw hup).cell k (by rw [HUL.out]; exact hlt)
        rw [li_get hlt] at hck
        obtain rfl := HUR.out.at_ (by rw [HUL.out]; omega)
        obtain ⟨x, hxe⟩ : ∃ x, xs[k] = x := ⟨_, rfl⟩
        have hxm : x ∈ xs := by rw [← hxe]; exact List.getElem_mem hlt
        have hxn : x < n := HX.out _ hxm
        rw [hxe] at hck
        have HXE := hide hxe
        clear hxe
        have hki : (k : Int) < (xs.length : Int) := by omega
        obtain ⟨g0, g1, _, _⟩ := (blk_below hX2 hB).two
        obtain ⟨hin, hi1, _, _⟩ := iv_spec hg hxn
        have hvr := hv.below hBw
        have HI := hide (fun W (h : Below wr.heap.size wr W) => Iiv_ok n x e v zs W hg (hvr.below h) hxn)
        have HH := hide (fun W (h : Below wr.heap.size wr W) => HHS.out (iv n zs e x) W (bcat2 hBw h))
        have hS : ∀ W, Below wr.heap.size wr W → (Below wr.heap.size wr W ∧ W.cell? ⟨w.heap.size, 0, none⟩ = some (.int .i64 n) ∧ W.cell? ⟨w.heap.size, 1, none⟩ = some v ∧ W.cell? ⟨pb, po + k, none⟩ = some (.int .i64 x)) := fun W h => ⟨h, below_cell h g0, below_cell h g1, below_cell h hck⟩
        have hS0 := hS _ (bdrew (Below.refl _ wr))
        by_cases hiin : iv n zs e x ∈ xs
        · rw [decide_eq_true hiin] at HH
          clear hi1 hin
          generalize iv n zs e x = i at *
          go_wp2_with fail
          go_region_held3 (fun W => Below wr.heap.size wr W ∧ W.cell? ⟨w.heap.size, 0, none⟩ = some (.int .i64 n) ∧ W.cell? ⟨w.heap.size, 1, none⟩ = some v ∧ W.cell? ⟨pb, po + k, none⟩ = some (.int .i64 x))
            (first | exact hS0 | assumption | exact hS _ (bcat2 (And.left ‹_›) hl1))
            (first
              | (go_at_call 36; refine (HI.out _ (And.left ‹_›)).mono ?_; rintro e1 U1 ⟨rfl, hl1⟩)
              | (go_at_call 35; refine (HH.out _ (And.left ‹_›)).mono ?_; rintro e2 U2 ⟨rfl, hl1⟩))
          have hB9 := And.left ‹Below wr.heap.size wr U2 ∧ _›
          clear hS hS0 HH HI hl1
          have hB3 := bcat2 hB hB9
          have hX3 := blk_below hX2 hB3
          have hck3 := below_cell hB9 hck
          go_wp2
          clear g0 g1 hck
          go_loopw [6] (fun i wr' => ∃ j : Nat, j ≤ xs.length ∧ i = .int .i64 j ∧ (∀ t, (ht : t < xs.length) → t < j → tm n zs x xs[t] ∈ xs) ∧ Below U2.heap.size U2 wr') (fun i _ => xs.length - (intOf i).toNat)
          case atStart => exact ⟨0, Nat.zero_le _, rfl, fun t _ ht => by omega, Below.refl _ _⟩
          case round =>
            obtain ⟨j, hj, rfl, hnj, hBj⟩ := hrel
            have HNJ := hide hnj
            clear hnj
            have hBw := bcat2 hB2 (bcat2 hB3 hBj)
            have hck := below_cell hBj hck3
            by_cases hltj : j < xs.length
            · have hcj := (HUR.out.below hBw hup).cell j (by rw [HUL.out]; exact hltj)
              rw [li_get hltj] at hcj
              obtain ⟨y, hye⟩ : ∃ y, xs[j] = y := ⟨_, rfl⟩
              have hym : y ∈ xs := by rw [← hye]; exact List.getElem_mem hltj
              have hyn : y < n := HX.out _ hym
              rw [hye] at hcj
              have HYE := hide hye
              clear hye
              have hji : (j : Int) < (xs.length : Int) := by omega
              obtain ⟨g0, g1, _, _⟩ := (blk_below hX3 hBj).two
              have hvr := hv.below hBw
              have HMM := hide (fun W (h : Below wr.heap.size wr W) => M_ok n v zs x y W hg.tab (hvr.below h) hxn hyn)
              have HH := hide (fun W (h : Below wr.heap.size wr W) => HHS.out (tm n zs x y) W (bcat2 hBw h))
              have hS : ∀ W, Below wr.heap.size wr W → (Below wr.heap.size wr W ∧ W.cell? ⟨w.heap.size, 0, none⟩ = some (.int .i64 n) ∧ W.cell? ⟨w.heap.size, 1, none⟩ = some v ∧ W.cell? ⟨pb, po + k, none⟩ = some (.int .i64 x) ∧ W.cell? ⟨pb, po + j, none⟩ = some (.int .i64 y)) := fun W h => ⟨h, below_cell h g0, below_cell h g1, below_cell h hck, below_cell h hcj⟩
              have hS0 := hS _ (bdrew (Below.refl _ wr))
              by_cases htin : tm n zs x y ∈ xs
              · rw [decide_eq_true htin] at HH
                have HTQ := hide htin
                obtain ⟨t, ht⟩ : ∃ t, tm n zs x y = t := ⟨_, rfl⟩
                rw [ht] at HMM HH
                clear ht htin
                go_wp2_with fail
                go_region_held3 (fun W => Below wr.heap.size wr W ∧ W.cell? ⟨w.heap.size, 0, none⟩ = some (.int .i64 n) ∧ W.cell? ⟨w.heap.size, 1, none⟩ = some v ∧ W.cell? ⟨pb, po + k, none⟩ = some (.int .i64 x) ∧ W.cell? ⟨pb, po + j, none⟩ = some (.int .i64 y))
                  (first | exact hS0 | assumption | exact hS _ (bcat2 (And.left ‹_›) hl1))
                  (first
                    | (go_at_call 15; refine (HMM.out _ (And.left ‹_›)).mono ?_; rintro e1 U1 ⟨rfl, hl1⟩)
                    | (go_at_call 35; refine (HH.out _ (And.left ‹_›)).mono ?_; rintro e2 U2 ⟨rfl, hl1⟩))
                have hB9 := And.left ‹Below wr.heap.size wr U2 ∧ _›
                clear hS hS0 HH HMM hl1
                go_wp2
                go_roundw
                case rel => exact ⟨j + 1, by omega, by go_num, fun t9 h1 h2 => by
                  by_cases e9 : t9 = j
                  · subst e9; rw [HYE.out]; exact HTQ.out
                  · exact HNJ.out t9 h1 (by omega), bcat2 hBj hB9⟩
                case measure => simp [intOf]; omega
              · rw [decide_eq_false htin] at HH
                have HD := hide (show (subT n zs e fun a => decide (a ∈ xs)) = false by
                  rw [← Bool.not_eq_true]
                  intro h
                  exact htin (by simpa using (HSUB.out.1 h).mul x y (List.mem_range.2 hxn) (List.mem_range.2 hyn) (by simpa using hxm) (by simpa using hym)))
                clear htin
                generalize tm n zs x y = t at *
                go_wp2_with fail
                go_region_held3 (fun W => Below wr.heap.size wr W ∧ W.cell? ⟨w.heap.size, 0, none⟩ = some (.int .i64 n) ∧ W.cell? ⟨w.heap.size, 1, none⟩ = some v ∧ W.cell? ⟨pb, po + k, none⟩ = some (.int .i64 x) ∧ W.cell? ⟨pb, po + j, none⟩ = some (.int .i64 y))
                  (first | exact hS0 | assumption | exact hS _ (bcat2 (And.left ‹_›) hl1))
                  (first
                    | (go_at_call 15; refine (HMM.out _ (And.left ‹_›)).mono ?_; rintro e1 U1 ⟨rfl, hl1⟩)
                    | (go_at_call 35; refine (HH.out _ (And.left ‹_›)).mono ?_; rintro e2 U2 ⟨rfl, hl1⟩))
                have hB9 := And.left ‹Below wr.heap.size wr U2 ∧ _›
                go_wp2
                go_ret
                exact ⟨by rw [HD.out]; rfl, bcat2 hBw hB9⟩
            · go_wp2
              go_roundw
              case rel => exact ⟨k + 1, by omega, by go_num, fun t h1 h2 y hy => by
                by_cases e9 : t = k
                · subst e9
                  obtain ⟨t9, h9, rfl⟩ := List.mem_iff_getElem.1 hy
                  rw [HXE.out]; exact HNJ.out t9 h9 (by omega)
                · exact HNO.out t h1 (by omega) y hy, bcat2 hB3 hBj⟩
              case measure => simp [intOf]; omega
        · rw [decide_eq_false hiin] at HH
          have HD := hide (show (subT n zs e fun a => decide (a ∈ xs)) = false by
            rw [← Bool.not_eq_true]
            intro h
            exact hiin (by simpa using (HSUB.out.1 h).inv hFg (List.mem_range.2 hxn) (List.mem_range.2 hin) hi1 (by simpa using hxm)))
          clear hiin hi1 hin
          generalize iv n zs e x = i at *
          go_wp2_with fail
          go_region_held3 (fun W => Below wr.heap.size wr W ∧ W.cell? ⟨w.heap.size, 0, none⟩ = some (.int .i64 n) ∧ W.cell? ⟨w.heap.size, 1, none⟩ = some v ∧ W.cell? ⟨pb, po + k, none⟩ = some (.int .i64 x))
            (first | exact hS0 | assumption | exact hS _ (bcat2 (And.left ‹_›) hl1))
            (first
              | (go_at_call 36; refine (HI.out _ (And.left ‹_›)).mono ?_; rintro e1 U1 ⟨rfl, hl1⟩)
              | (go_at_call 35; refine (HH.out _ (And.left ‹_›)).mono ?_; rintro e2 U2 ⟨rfl, hl1⟩))
          have hB9 := And.left ‹Below wr.heap.size wr U2 ∧ _›
          go_wp2
          go_ret
          exact ⟨by rw [HD.out]; rfl, bcat2 hBw hB9⟩
      · have HD := hide (show (subT n zs e fun a => decide (a ∈ xs)) = true by
          rw [HSUB.out]
          refine ⟨by simpa using hee, fun a b _ _ h1 h2 => ?_⟩
          have h1 : a ∈ xs := by simpa using h1
          have h2 : b ∈ xs := by simpa using h2
          obtain ⟨t, ht, rfl⟩ := List.mem_iff_getElem.1 h1
          simpa using HNO.out t ht (by omega) b h2)
        go_wp2
        go_ret
        exact ⟨by rw [HD.out]; rfl, hBw⟩
  · rw [decide_eq_false hee]
    rintro x9 w2 ⟨rfl, hb2⟩
    have HD := hide (show (subT n zs e fun a => decide (a ∈ xs)) = false by
      rw [← Bool.not_eq_true]
      intro h
      exact hee (by simpa using (HSUB.out.1 h).one))
    go_wp2
    go_ret
    exact ⟨by rw [HD.out]; rfl, bcat2 hB1 hb2⟩
end Go.Proofs.YtanbpjfdfnmjpaaDoor

namespace Go.Proofs.YtanbpjfdfnmjpaaDoor
open Go Go.RowKit

set_option maxRecDepth 100000 in
set_option maxHeartbeats 4000000 in
theorem rset_any (N : Int) (v u : Value) (zs ls : List Int) (w : World) (hv : Sl w v zs) (hu : Sl w u ls) :
    Calls Tryd.prog 42 #[.agg #[.int .i64 N, v], u] w fun x w' => x = .returned (.agg #[.int .i64 (sfault N zs ls).1, .int .i64 (sfault N zs ls).2]) ∧ Below w.heap.size w w' := by
  obtain ⟨w0, BG⟩ := Beg.new w N v
  obtain ⟨c0, c1, _, _⟩ := BG.box.two
  have HGF := hide (groupFault_any N v zs w0 (hv.below BG.bel))
  by_cases hc : (gfault N zs).1 = 0
  · obtain ⟨n, e, rfl, hg, hg0⟩ := gfault_grp hc
    rw [sfault_l hg]
    rw [hg0] at HGF
    have HLF := hide (fun W (h : Sl W u ls) => rlist_any n v u ls W hg.tab.le h)
    obtain ⟨c, i, hci⟩ : ∃ c i, lfault n ls = (c, i) := ⟨_, _, rfl⟩
    rw [hci] at HLF ⊢
    simp only at HLF HGF ⊢
    clear hci
    rw [BG.eq] at c0 c1
    go_enter Tryd.func42, Tryd.ntmps42
    go_wp2_with fail
    rw [← BG.eq]
    clear c0 c1
    refine HGF.out.mono ?_
    rintro x w1 ⟨rfl, hb1⟩
    have hb2 := bcat2 hb1 (balloc w1 (.cells #[.int .i64 0, .int .i64 0] 28))
    have hF2 := blk0 (w := w1) (T := 28) (.int .i64 0) (.int .i64 0)
    have hX2 := blk_below BG.box hb2
    obtain ⟨c0, c1, _, _⟩ := hX2.two
    obtain ⟨t0, t1, _, _⟩ := hF2.two
    have hBw := bcat BG.bel hb2 BG.bel.size
    have hs1 : w.heap.size + 1 < w1.heap.size := (blk_below BG.res hb1).lt
    have HS1 := hide hs1
    clear hs1
    go_wp2_with fail
    generalize w1.alloc (.cells #[.int .i64 0, .int .i64 0] 28) = w2 at *
    clear c0 c1 t0 t1
    refine (HLF.out w2 (hu.below hBw)).mono ?_
    rintro x w3 ⟨rfl, hb3⟩
    have hF3 := blk_below hF2 hb3
    have hB3 := bcat hBw hb3 hBw.size
    obtain ⟨t0, t1, tf0, tf1⟩ := hF3.two
    have hR3 := blk_below BG.res (bcat2 hb2 hb3)
    obtain ⟨hF4, hB4⟩ := put2 hF3 hB3 (by have := HS1.out; omega) c i
    have hR4 := (hR3.other (p := ⟨w1.heap.size, 0, none⟩) (by have := HS1.out; simp; omega) (.int .i64 c)).other (p := ⟨w1.heap.size, 1, none⟩) (by have := HS1.out; simp; omega) (.int .i64 i)
    obtain ⟨f0, f1, _, _⟩ := hF4.two
    obtain ⟨y0, y1, fy0, fy1⟩ := hR4.two
    go_wp2_with fail
    generalize (w3.setCell ⟨w1.heap.size, 0, none⟩ (.int .i64 c)).setCell ⟨w1.heap.size, 1, none⟩ (.int .i64 i) = w4 at *
    obtain ⟨hR6, hB6⟩ := put2 hR4 hB4 (by omega) c i
    go_wp2
    generalize (w4.setCell ⟨w.heap.size + 1, 0, none⟩ (.int .i64 c)).setCell ⟨w.heap.size + 1, 1, none⟩ (.int .i64 i) = W at hR6 hB6 ⊢
    obtain ⟨z0, z1, _, _⟩ := hR6.two
    exact bodyPost_ret (v := .agg #[.int .i64 c, .int .i64 i]) (by simp [results, Tryd.results42, go_sem, z0, z1]) rfl ⟨rfl, hB6⟩
  · rw [sfault_g hc]
    obtain ⟨c, i, hci⟩ : ∃ c i, gfault N zs = (c, i) := ⟨_, _, rfl⟩
    rw [hci] at HGF hc ⊢
    simp only at HGF hc ⊢
    clear hci
    rw [BG.eq] at c0 c1
    go_enter Tryd.func42, Tryd.ntmps42
    go_wp2_with fail
    rw [← BG.eq]
    clear c0 c1
    refine HGF.out.mono ?_
    rintro x w1 ⟨rfl, hb1⟩
    have hb2 := bcat2 hb1 (balloc w1 (.cells #[.int .i64 c, .int .i64 i] 28))
    have hF2 := blk0 (w := w1) (T := 28) (.int .i64 c) (.int .i64 i)
    obtain ⟨t0, t1, _, _⟩ := hF2.two
    have hBw := bcat BG.bel hb2 BG.bel.size
    have hR2 := blk_below BG.res hb2
    obtain ⟨y0, y1, fy0, fy1⟩ := hR2.two
    obtain ⟨hR6, hB6⟩ := put2 hR2 hBw (by omega) c i
    go_wp2
    generalize ((w1.alloc (.cells #[.int .i64 c, .int .i64 i] 28)).setCell ⟨w.heap.size + 1, 0, none⟩ (.int .i64 c)).setCell ⟨w.heap.size + 1, 1, none⟩ (.int .i64 i) = W at hR6 hB6 ⊢
    obtain ⟨z0, z1, _, _⟩ := hR6.two
    exact bodyPost_ret (v := .agg #[.int .i64 c, .int .i64 i]) (by simp [results, Tryd.results42, go_sem, z0, z1]) rfl ⟨rfl, hB6⟩
theorem closed_set (n e : Nat) (v u : Value) (zs l : List Int) (w : World) (hv : Sl w v zs) (hg : IsGrp n zs e) (hu : Sl w u l) (hl : lfault n l = (0, 0)) :
    Calls Tryd.prog 23 #[.agg #[.int .i64 n, v], u] w fun x w' => x = .returned (.bool (subT n zs e (pset l))) ∧ Below w.heap.size w w' := by
  have hli := set_lst (show (lfault n l).1 = 0 by rw [hl])
  have h := closed_ok n e v u zs (lst n (pset l)) w hv hg (by rw [← hli]; exact hu) (fun x hx => (mem_lst.1 hx).1) (Nat.le_trans (lst_len _ _) (by have := hg.tab.le; omega))
  rwa [← pset_self hl] at h

set_option maxRecDepth 100000 in
set_option maxHeartbeats 4000000 in
theorem rsub_any (N : Int) (v u : Value) (zs l : List Int) (w : World) (hv : Sl w v zs) (hu : Sl w u l) :
    Calls Tryd.prog 21 #[.agg #[.int .i64 N, v], u] w fun x w' => x = .returned (.agg #[.int .i64 (ufault N zs l).1, .int .i64 (ufault N zs l).2]) ∧ Below w.heap.size w w' := by
  obtain ⟨w0, BG⟩ := Beg.new w N v
  obtain ⟨c0, c1, _, _⟩ := BG.box.two
  have HSF := hide (rset_any N v u zs l w0 (hv.below BG.bel) (hu.below BG.bel))
  by_cases hc : (sfault N zs l).1 = 0
  · obtain ⟨n, e, rfl, hg, hl, h0⟩ := sfault_zero hc
    rw [ufault_u hg hl]
    rw [h0] at HSF
    have HCL := hide (fun W (h : Below w.heap.size w W) => closed_set n e v u zs l W (hv.below h) hg (hu.below h) hl)
    simp only at HSF
    clear h0 hc hl
    obtain ⟨b, hb⟩ : ∃ b, subT n zs e (pset l) = b := ⟨_, rfl⟩
    rw [hb] at HCL ⊢
    clear hb
    rw [BG.eq] at c0 c1
    go_enter Tryd.func21, Tryd.ntmps21
    go_wp2_with fail
    rw [← BG.eq]
    clear c0 c1
    refine HSF.out.mono ?_
    rintro x w1 ⟨rfl, hb1⟩
    have hb2 := bcat2 hb1 (balloc w1 (.cells #[.int .i64 0, .int .i64 0] 28))
    have hF2 := blk0 (w := w1) (T := 28) (.int .i64 0) (.int .i64 0)
    have hX2 := blk_below BG.box hb2
    have HS1 := hide (blk_below BG.res hb1).lt
    obtain ⟨c0, c1, _, _⟩ := hX2.two
    obtain ⟨t0, t1, _, _⟩ := hF2.two
    have hBw := bcat BG.bel hb2 BG.bel.size
    go_wp2_with fail
    generalize w1.alloc (.cells #[.int .i64 0, .int .i64 0] 28) = w2 at *
    clear c0 c1 t0 t1
    refine (HCL.out w2 hBw).mono ?_
    rintro x w3 ⟨rfl, hb3⟩
    have hF3 := blk_below hF2 hb3
    have hB3 := bcat hBw hb3 hBw.size
    have hR3 := blk_below BG.res (bcat2 hb2 hb3)
    cases b with
    | true =>
      obtain ⟨t0, t1, _, _⟩ := hF3.two
      obtain ⟨_, y0, y1, fy0, fy1, s0, s1⟩ := Two.mk' hR3
      go_wp2
      exact bodyPost_ret (v := .agg #[.int .i64 0, .int .i64 0]) (by simp [results, Tryd.results21, go_sem, y0, y1]) rfl ⟨rfl, hB3⟩
    | false =>
      go_wp2_with fail
      refine (f_any 7 0 w3).mono ?_
      rintro x w4 ⟨rfl, hb4⟩
      have hF4 := blk_below hF3 hb4
      have hB4 := bcat hB3 hb4 hB3.size
      have hR4 := blk_below hR3 hb4
      obtain ⟨t0, t1, tf0, tf1⟩ := hF4.two
      obtain ⟨hF5, hB5⟩ := put2 hF4 hB4 (by have := HS1.out; omega) 7 0
      have hR5 := (hR4.other (p := ⟨w1.heap.size, 0, none⟩) (by have := HS1.out; simp; omega) (.int .i64 7)).other (p := ⟨w1.heap.size, 1, none⟩) (by have := HS1.out; simp; omega) (.int .i64 0)
      obtain ⟨f0, f1, _, _⟩ := hF5.two
      obtain ⟨y0, y1, fy0, fy1⟩ := hR5.two
      go_wp2_with fail
      generalize (w4.setCell ⟨w1.heap.size, 0, none⟩ (.int .i64 7)).setCell ⟨w1.heap.size, 1, none⟩ (.int .i64 0) = w5 at *
      obtain ⟨hR6, hB6⟩ := put2 hR5 hB5 (by omega) 7 0
      go_wp2
      generalize (w5.setCell ⟨w.heap.size + 1, 0, none⟩ (.int .i64 7)).setCell ⟨w.heap.size + 1, 1, none⟩ (.int .i64 0) = W at hR6 hB6 ⊢
      obtain ⟨z0, z1, _, _⟩ := hR6.two
      exact bodyPost_ret (v := .agg #[.int .i64 7, .int .i64 0]) (by simp [results, Tryd.results21, go_sem, z0, z1]) rfl ⟨rfl, hB6⟩
  · rw [ufault_s hc]
    obtain ⟨c, i, hci⟩ : ∃ c i, sfault N zs l = (c, i) := ⟨_, _, rfl⟩
    rw [hci] at HSF hc ⊢
    simp only at HSF hc ⊢
    clear hci
    have hcb : (c == 0) = false := by simpa using hc
    rw [BG.eq] at c0 c1
    go_enter Tryd.func21, Tryd.ntmps21
    go_wp2_with fail
    rw [← BG.eq]
    clear c0 c1
    refine HSF.out.mono ?_
    rintro x w1 ⟨rfl, hb1⟩
    have hb2 := bcat2 hb1 (balloc w1 (.cells #[.int .i64 c, .int .i64 i] 28))
    have hF2 := blk0 (w := w1) (T := 28) (.int .i64 c) (.int .i64 i)
    obtain ⟨t0, t1, _, _⟩ := hF2.two
    have hBw := bcat BG.bel hb2 BG.bel.size
    have hR2 := blk_below BG.res hb2
    obtain ⟨y0, y1, fy0, fy1⟩ := hR2.two
    obtain ⟨hR6, hB6⟩ := put2 hR2 hBw (by omega) c i
    go_wp2
    generalize ((w1.alloc (.cells #[.int .i64 c, .int .i64 i] 28)).setCell ⟨w.heap.size + 1, 0, none⟩ (.int .i64 c)).setCell ⟨w.heap.size + 1, 1, none⟩ (.int .i64 i) = W at hR6 hB6 ⊢
    obtain ⟨z0, z1, _, _⟩ := hR6.two
    exact bodyPost_ret (v := .agg #[.int .i64 c, .int .i64 i]) (by simp [results, Tryd.results21, go_sem, z0, z1]) rfl ⟨rfl, hB6⟩
set_option maxRecDepth 100000 in
set_option maxHeartbeats 2000000 in
theorem both_ok (v1 v2 : Value) (zs ys : List Int) (w : World) (h1 : Sl w v1 zs) (h2 : Sl w v2 ys) (hsm : zs.length ≤ 60) :
    Calls Tryd.prog 43 #[v1, v2] w fun x w' => ∃ r, x = .returned r ∧ Row w' w.heap.size r (zs.filter fun a => decide (a ∈ ys)) ∧ Below w.heap.size w w' := by
  obtain ⟨i0, hi, hz0, hz1, hz2⟩ := info_parts info3b
  obtain ⟨x, cap, pb, po, rfl, hr, hp, hq3, hq4⟩ := h1
  have HR := hide hr
  have HH := hide (fun a W (h : Below w.heap.size w W) => rhas_ok v2 ys a W (h2.below h))
  clear hr
  go_enter Tryd.func43, Tryd.ntmps43
  go_wp2
  go_loopw [5, 6] (fun r i wr => ∃ k : Nat, k ≤ zs.length ∧ i = .int .i64 k ∧ Row wr w.heap.size r ((zs.take k).filter fun a => decide (a ∈ ys)) ∧ Below w.heap.size w wr) (fun _ i _ => zs.length - (intOf i).toNat)
  case atStart => exact ⟨0, Nat.zero_le _, rfl, nil_row _ _, Below.refl _ _⟩
  case round =>
    obtain ⟨k, hk, rfl, hrow, hB⟩ := hrel
    obtain ⟨r, rfl⟩ : ∃ r, r = u5 := ⟨_, rfl⟩
    have hBs := hB.size
    by_cases hlt : k < zs.length
    · obtain rfl := HR.out.at_ (by omega)
      have hc := (HR.out.below hB hp).cell k hlt
      have hsn := take_snoc' hlt
      obtain ⟨c, hce⟩ : ∃ c, zs[k]?.getD 0 = c := ⟨_, rfl⟩
      rw [hce] at hc hsn
      clear hce
      have HSN := hide hsn
      clear hsn
      have HC := hide (HH.out c wr hB)
      by_cases hca : c ∈ ys
      · rw [decide_eq_true hca] at HC
        have HE := hide (show (zs.take (k + 1)).filter (fun a => decide (a ∈ ys)) = (zs.take k).filter (fun a => decide (a ∈ ys)) ++ [c] by rw [HSN.out, List.filter_append]; simp [hca])
        have HLL := hide (show ((zs.take k).filter fun a => decide (a ∈ ys)).length ≤ 60 by
          refine Nat.le_trans (List.length_filter_le _ _) ?_
          rw [List.length_take]; omega)
        have hown : wr.ownsRow w.heap.size 3 1 r ((zs.take k).filter fun a => decide (a ∈ ys)).length (((zs.take k).filter fun a => decide (a ∈ ys)).map (Value.int .i64)) := hrow
        clear hrow
        generalize (zs.take k).filter (fun a => decide (a ∈ ys)) = xs at *
        go_wp2_with fail
        refine HC.out.mono ?_
        rintro e1 w1 ⟨rfl, rfl⟩
        go_wp2_with (first
          | (at_builtin; refine wpList_append_own _ rfl _ _ 22 rfl w.heap.size 3 i0 (.int .i64 0) 1 8 under22b hi hz0 hz1 hz2 rfl (by decide) _ _ _ rfl (World.ownsRow.alloc hown _) ⟨w1.heap.size, 0, none⟩ 1 1 [.int .i64 c] rfl rfl ?c1 ?c2 ?c3 ?c4 ?c5 ?_))
        case c1 => exact cell_one_new _ _ _
        case c2 => simp [Value.oneCell']
        case c3 => unfold maxLen; have := HLL.out; omega
        case c4 => have := HLL.out; omega
        case c5 => simp; omega
        intro v' w2 hown' hgrow _
        obtain ⟨g', cap', rfl⟩ := ownsRow_succ hown'
        have hB2 : Below w.heap.size w w2 := (hB.alloc hBs _).grown hgrow (by simp; omega) (fun t e => owns_ge hown t e)
        have hrow2 : Row w2 w.heap.size (.slice (some ⟨g', 0, none⟩) (xs.length + 1) cap') ((zs.take (k + 1)).filter fun a => decide (a ∈ ys)) := by
          unfold Row
          rw [HE.out]
          simpa using hown'
        clear hown' hgrow hown
        go_wp2
        go_roundw
        case rel => exact ⟨k + 1, by omega, by go_num, hrow2, hB2⟩
        case measure => simp [intOf]; omega
      · rw [decide_eq_false hca] at HC
        have HE := hide (show (zs.take (k + 1)).filter (fun a => decide (a ∈ ys)) = (zs.take k).filter (fun a => decide (a ∈ ys)) by rw [HSN.out, List.filter_append]; simp [hca])
        go_wp2_with fail
        refine HC.out.mono ?_
        rintro e1 w1 ⟨rfl, rfl⟩
        go_wp2
        go_roundw
        case rel => exact ⟨k + 1, by omega, by go_num, by rw [HE.out]; exact hrow, hB⟩
        case measure => simp [intOf]; omega
    · have hkk : k = zs.length := by omega
      subst hkk
      rw [List.take_length] at hrow
      go_wp2
      go_ret
      exact ⟨_, rfl, hrow, hB⟩
end Go.Proofs.YtanbpjfdfnmjpaaDoor

namespace Go.Proofs.YtanbpjfdfnmjpaaDoor
open Go Go.RowKit

theorem blk1 (w : World) (x : Value) : Blk (w.alloc (.cells #[x] 3)) w.heap.size 3 [x] := World.alloc_heap_new w _
/-- Have two sets the one alone, and do they make all? -/
def cmpB (n e : Nat) (q r p : Nat → Bool) : Bool := decide (bs (fun a => q a && r a) n = bs (fun a => decide (a = e)) n) && decide (bs p n = bs (fun _ => true) n)
set_option maxRecDepth 100000 in
set_option maxHeartbeats 4000000 in
theorem completes_ok (n : Nat) (v1 : Option Addr) (v2 v3 : Nat) (u1 : Option Addr) (u2 u3 : Nat) (zs : List Int) (e : Nat) (q r p : Nat → Bool) (w : World) (hG : GA w n (.slice v1 v2 v3) e (.slice u1 u2 u3) zs) (hT : Tab w) (hp : ∀ a, a < n → (p a = true ↔ Mkd n zs e (fun a => q a || r a) a)) :
    Calls Tryd.prog 61 #[.agg #[.int .i64 n, .slice v1 v2 v3, .int .i64 e, .slice u1 u2 u3], .int .u64 (bs q n), .int .u64 (bs r n), .int .u64 (bs (fun _ => true) n)] w fun x w' => x = .returned (.bool (cmpB n e q r p)) ∧ Below w.heap.size w w' := by
  have hn := hG.le
  have he := hG.grp.elt
  have hand := and_bs q r hn
  have hor := or_bs q r hn
  obtain ⟨w0, hw0⟩ : ∃ w0, w0 = w.alloc (.cells #[.int .i64 n, .slice v1 v2 v3, .int .i64 e, .slice u1 u2 u3] 61) := ⟨_, rfl⟩
  have hB0 : Below w.heap.size w w0 := by rw [hw0]; exact balloc w _
  have hX0 : Box4 w0 w.heap.size n e (.slice v1 v2 v3) (.slice u1 u2 u3) := by rw [hw0]; exact Box4.new w n e _ _
  obtain ⟨c0, c1, c2, c3⟩ := hX0.cells
  have HMD := hide (fun W (h : Below w.heap.size w W) => made_ok n (.slice v1 v2 v3) (.slice u1 u2 u3) zs e (fun a => q a || r a) p W (hG.below h) (hT.below h) hp)
  obtain ⟨w1, hw1⟩ : ∃ w1, w1 = w0.alloc (.cells #[.int .i64 e] 3) := ⟨_, rfl⟩
  have hb1 : Below w0.heap.size w0 w1 := by rw [hw1]; exact balloc w0 _
  have hcq : w1.cell? ⟨w0.heap.size, 0, none⟩ = some (.int .i64 e) := by rw [hw1]; exact (blk1 w0 (.int .i64 e)).cell 0
  have HOF := hide (of_one n w0.heap.size e w1 hn he hcq)
  have hX1 := hX0.below hb1
  have hB1 := bcat2 hB0 hb1
  obtain ⟨d0, d1, d2, d3⟩ := hX1.cells
  obtain ⟨R, hR⟩ : ∃ R, cmpB n e q r p = R := ⟨_, rfl⟩
  have HR := hide (show (decide (bs (fun a => q a && r a) n = bs (fun a => decide (a = e)) n) && decide (bs p n = bs (fun _ => true) n)) = R from hR)
  rw [hR]
  clear hR hp hG
  generalize hs1 : bs (fun a => q a && r a) n = s1 at *
  generalize hs2 : bs (fun a => q a || r a) n = s2 at *
  generalize hs3 : bs (fun a => decide (a = e)) n = s3 at *
  generalize hs4 : bs p n = s4 at *
  generalize hs5 : bs (fun _ => true) n = s5 at *
  clear hs1 hs2 hs3 hs4 hs5
  rw [hw0] at c0 c1 c2 c3
  go_enter Tryd.func61, Tryd.ntmps61
  go_wp2_with fail
  rw [← hw0]
  have hsz0 : w.heap.size + 1 = w0.heap.size := by rw [hw0]; simp
  rw [hsz0, ← hw1]
  clear c0 c1 c2 c3 hw0 hw1
  refine HOF.out.mono ?_
  rintro x w2 ⟨rfl, hw2⟩
  subst hw2
  have HSZ := hide hsz0
  clear hsz0
  by_cases h1 : s1 = s3
  · have h1b : (((s1 : Nat) : Int) == ((s3 : Nat) : Int)) = true := by simp [h1]
    have HM1 := hide (HMD.out _ hB1)
    rw [h1] at HR
    go_wp2_with fail
    refine HM1.out.mono ?_
    rintro x w3 ⟨rfl, hb3⟩
    by_cases h2 : s4 = s5
    · have h2b : (((s4 : Nat) : Int) == ((s5 : Nat) : Int)) = true := by simp [h2]
      have HR2 := hide (show R = true by have := HR.out; simp [h2] at this; exact this)
      go_wp2
      go_ret
      exact ⟨by simp [HR2.out], bcat2 hB1 hb3⟩
    · have h2b : (((s4 : Nat) : Int) == ((s5 : Nat) : Int)) = false := by
        have : ¬ ((s4 : Nat) : Int) = ((s5 : Nat) : Int) := by omega
        simpa using this
      have HR2 := hide (show R = false by have := HR.out; simp [h2] at this; exact this)
      clear h2
      go_wp2
      go_ret
      exact ⟨by simp [HR2.out], bcat2 hB1 hb3⟩
  · have h1b : (((s1 : Nat) : Int) == ((s3 : Nat) : Int)) = false := by
      have : ¬ ((s1 : Nat) : Int) = ((s3 : Nat) : Int) := by omega
      simpa using this
    have HR2 := hide (show R = false by have := HR.out; simp [h1] at this; exact this)
    clear h1
    go_wp2
    go_ret
    exact ⟨by simp [HR2.out], hB1⟩
/-- Is it the direct product? -/
def dirB (n e : Nat) (q r p c : Nat → Bool) : Bool := cmpB n e q r p && decide (bs c n = bs (fun a => decide (a = e)) n)
set_option maxRecDepth 100000 in
set_option maxHeartbeats 8000000 in
theorem direct_ok (n : Nat) (v1 : Option Addr) (v2 v3 : Nat) (u1 : Option Addr) (u2 u3 : Nat) (zs : List Int) (e : Nat) (q r p c : Nat → Bool) (w : World) (hG : GA w n (.slice v1 v2 v3) e (.slice u1 u2 u3) zs) (hT : Tab w) (hp : ∀ a, a < n → (p a = true ↔ Mkd n zs e (fun a => q a || r a) a)) (hc : ∀ a, a < n → (c a = true ↔ Mkd n zs e (cmq n zs e (lst n q) (lst n r)) a)) :
    Calls Tryd.prog 39 #[.agg #[.int .i64 n, .slice v1 v2 v3, .int .i64 e, .slice u1 u2 u3], .int .u64 (bs q n), .int .u64 (bs r n), .int .u64 (bs (fun _ => true) n)] w fun x w' => x = .returned (.bool (dirB n e q r p c)) ∧ Below w.heap.size w w' := by
  have hn := hG.le
  have he := hG.grp.elt
  obtain ⟨w0, hw0⟩ : ∃ w0, w0 = w.alloc (.cells #[.int .i64 n, .slice v1 v2 v3, .int .i64 e, .slice u1 u2 u3] 61) := ⟨_, rfl⟩
  have hB0 : Below w.heap.size w w0 := by rw [hw0]; exact balloc w _
  have hX0 : Box4 w0 w.heap.size n e (.slice v1 v2 v3) (.slice u1 u2 u3) := by rw [hw0]; exact Box4.new w n e _ _
  have HCM := hide (fun W (h : Below w0.heap.size w0 W) => completes_ok n v1 v2 v3 u1 u2 u3 zs e q r p W (hG.below (bcat2 hB0 h)) (hT.below (bcat2 hB0 h)) hp)
  have HCS := hide (fun W (h : Below w0.heap.size w0 W) => cmms_ok n (.slice v1 v2 v3) (.slice u1 u2 u3) zs e q r c W (hG.below (bcat2 hB0 h)) (hT.below (bcat2 hB0 h)) hc)
  have hS : ∀ W, Below w0.heap.size w0 W → (Below w0.heap.size w0 W ∧ W.cell? ⟨w.heap.size, 0, none⟩ = some (.int .i64 n) ∧ W.cell? ⟨w.heap.size, 1, none⟩ = some (.slice v1 v2 v3) ∧ W.cell? ⟨w.heap.size, 2, none⟩ = some (.int .i64 e) ∧ W.cell? ⟨w.heap.size, 3, none⟩ = some (.slice u1 u2 u3)) := fun W h => ⟨h, (hX0.below h).cells.1, (hX0.below h).cells.2.1, (hX0.below h).cells.2.2.1, (hX0.below h).cells.2.2.2⟩
  have hBc : Below w0.heap.size w0 w0.drew := bdrew (Below.refl _ _)
  have hS0 := hS _ hBc
  obtain ⟨R, hR⟩ : ∃ R, dirB n e q r p c = R := ⟨_, rfl⟩
  have HR := hide (show (cmpB n e q r p && decide (bs c n = bs (fun a => decide (a = e)) n)) = R from hR)
  rw [hR]
  clear hR hp hc hG
  cases hB1 : cmpB n e q r p with
  | true =>
    rw [hB1] at HCM HR
    clear hB1
    obtain ⟨B2, hBe⟩ : ∃ B2, B2 = decide (bs c n = bs (fun a => decide (a = e)) n) := ⟨_, rfl⟩
    have HRES := hide (show R = B2 by rw [hBe]; have := HR.out; simpa using this.symm)
    have hB2 : (((bs c n : Nat) : Int) == ((bs (fun a => decide (a = e)) n : Nat) : Int)) = B2 := by
      rw [hBe]
      by_cases h : bs c n = bs (fun a => decide (a = e)) n
      · rw [decide_eq_true h]; simp [h]
      · rw [decide_eq_false h]
        have : ¬ ((bs c n : Nat) : Int) = ((bs (fun a => decide (a = e)) n : Nat) : Int) := by omega
        simpa using this
    clear HR hBe
    go_enter Tryd.func39, Tryd.ntmps39
    go_wp2_with fail
    rw [← hw0]
    clear hw0
    refine wp_region_held_drew (S := fun W => Below w0.heap.size w0 W ∧ W.cell? ⟨w.heap.size, 0, none⟩ = some (.int .i64 n) ∧ W.cell? ⟨w.heap.size, 1, none⟩ = some (.slice v1 v2 v3) ∧ W.cell? ⟨w.heap.size, 2, none⟩ = some (.int .i64 e) ∧ W.cell? ⟨w.heap.size, 3, none⟩ = some (.slice u1 u2 u3)) (by kernel_rfl) hS0 (fun hHeld => ?_)
    refine wpAnyH_take (i := 0) (oi := ({ dst := some 9, op := Go.Op.load 61 (Go.Operand.tmp 4), type := 61, pos := _, after := #[], guard := none } : Oper)) (v := ?_) rfl (by kernel_rfl) (by kernel_rfl) (by kernel_rfl) (fun _ _ _ h => h) (Or.inl ⟨by rfl, ?_⟩) (by assumption) ?_
    rotate_left
    · (intro w hSw; (try dsimp only at hSw); go_simp; try with_reducible rfl)
    simp only [Act.put, List.setIfInBounds_toArray, List.set_cons_zero, List.set_cons_succ]
    refine wpAnyH_take (i := 1) (oi := ({ dst := some 10, op := Go.Op.move (Go.Operand.tmp 1), type := 66, pos := _, after := #[], guard := none } : Oper)) (v := ?_) rfl (by kernel_rfl) (by kernel_rfl) (by kernel_rfl) (fun _ _ _ h => h) (Or.inl ⟨by rfl, ?_⟩) (by assumption) ?_
    rotate_left
    · (intro w hSw; (try dsimp only at hSw); go_simp; try with_reducible rfl)
    simp only [Act.put, List.setIfInBounds_toArray, List.set_cons_zero, List.set_cons_succ]
    refine wpAnyH_take (i := 2) (oi := ({ dst := some 11, op := Go.Op.move (Go.Operand.tmp 2), type := 66, pos := _, after := #[], guard := none } : Oper)) (v := ?_) rfl (by kernel_rfl) (by kernel_rfl) (by kernel_rfl) (fun _ _ _ h => h) (Or.inl ⟨by rfl, ?_⟩) (by assumption) ?_
    rotate_left
    · (intro w hSw; (try dsimp only at hSw); go_simp; try with_reducible rfl)
    simp only [Act.put, List.setIfInBounds_toArray, List.set_cons_zero, List.set_cons_succ]
    refine wpAnyH_take (i := 3) (oi := ({ dst := some 12, op := Go.Op.move (Go.Operand.tmp 3), type := 66, pos := _, after := #[], guard := none } : Oper)) (v := ?_) rfl (by kernel_rfl) (by kernel_rfl) (by kernel_rfl) (fun _ _ _ h => h) (Or.inl ⟨by rfl, ?_⟩) (by assumption) ?_
    rotate_left
    · (intro w hSw; (try dsimp only at hSw); go_simp; try with_reducible rfl)
    simp only [Act.put, List.setIfInBounds_toArray, List.set_cons_zero, List.set_cons_succ]
    refine wpAnyH_ready (rs := [4]) (by kernel_rfl) (by simp) (AllReadyH.cons (o := ({ dst := some 13, op := Go.Op.call { callee := Go.Callee.value (Go.Operand.func 61), args := #[Go.Operand.tmp 9, Go.Operand.tmp 10, Go.Operand.tmp 11, Go.Operand.tmp 12], argTypes := #[61, 66, 66, 66] }, type := 4, pos := _, after := #[{ on := 0, ground := Go.Ground.data }, { on := 1, ground := Go.Ground.data }, { on := 2, ground := Go.Ground.data }, { on := 3, ground := Go.Ground.data }], guard := none } : Oper)) rfl (fun KK hK => ?_) AllReadyH.nil)
    go_simp
    refine (HCM.out _ hBc).mono ?_
    rintro e1 U1 ⟨rfl, hl1⟩
    have hBc := bcat2 hBc hl1
    try go_wp2_with fail
    refine hK.out _ _ (hS _ hBc) (fun hHeld => ?_)
    clear hK
    try simp only [Act.put, List.setIfInBounds_toArray, List.set_cons_zero, List.set_cons_succ]
    refine wpAnyH_take (i := 5) (oi := ({ dst := some 14, op := Go.Op.move (Go.Operand.tmp 13), type := 4, pos := _, after := #[{ on := 4, ground := Go.Ground.data }, { on := 4, ground := Go.Ground.chain }], guard := none } : Oper)) (v := ?_) rfl (by kernel_rfl) (by kernel_rfl) (by kernel_rfl) (fun _ _ _ h => h) (Or.inl ⟨by rfl, ?_⟩) (by assumption) ?_
    rotate_left
    · (intro w hSw; (try dsimp only at hSw); go_simp; try with_reducible rfl)
    simp only [Act.put, List.setIfInBounds_toArray, List.set_cons_zero, List.set_cons_succ]
    refine wpAnyH_take (i := 6) (oi := ({ dst := some 15, op := Go.Op.load 61 (Go.Operand.tmp 4), type := 61, pos := _, after := #[{ on := 5, ground := Go.Ground.guard }], guard := some (5, true) } : Oper)) (v := ?_) rfl (by kernel_rfl) (by kernel_rfl) (by kernel_rfl) (fun _ _ _ h => h) (Or.inl ⟨by rfl, ?_⟩) (by assumption) ?_
    rotate_left
    · (intro w hSw; (try dsimp only at hSw); go_simp; try with_reducible rfl)
    simp only [Act.put, List.setIfInBounds_toArray, List.set_cons_zero, List.set_cons_succ]
    refine wpAnyH_take (i := 7) (oi := ({ dst := some 16, op := Go.Op.move (Go.Operand.tmp 1), type := 66, pos := _, after := #[{ on := 5, ground := Go.Ground.guard }], guard := some (5, true) } : Oper)) (v := ?_) rfl (by kernel_rfl) (by kernel_rfl) (by kernel_rfl) (fun _ _ _ h => h) (Or.inl ⟨by rfl, ?_⟩) (by assumption) ?_
    rotate_left
    · (intro w hSw; (try dsimp only at hSw); go_simp; try with_reducible rfl)
    simp only [Act.put, List.setIfInBounds_toArray, List.set_cons_zero, List.set_cons_succ]
    refine wpAnyH_take (i := 8) (oi := ({ dst := some 17, op := Go.Op.move (Go.Operand.tmp 2), type := 66, pos := _, after := #[{ on := 5, ground := Go.Ground.guard }], guard := some (5, true) } : Oper)) (v := ?_) rfl (by kernel_rfl) (by kernel_rfl) (by kernel_rfl) (fun _ _ _ h => h) (Or.inl ⟨by rfl, ?_⟩) (by assumption) ?_
    rotate_left
    · (intro w hSw; (try dsimp only at hSw); go_simp; try with_reducible rfl)
    simp only [Act.put, List.setIfInBounds_toArray, List.set_cons_zero, List.set_cons_succ]
    refine wpAnyH_take (i := 10) (oi := ({ dst := some 19, op := Go.Op.fieldAddr 61 (Go.Operand.tmp 4) 1, type := 0, pos := _, after := #[{ on := 5, ground := Go.Ground.guard }], guard := some (5, true) } : Oper)) (v := ?_) rfl (by kernel_rfl) (by kernel_rfl) (by kernel_rfl) (fun _ _ _ h => h) (Or.inl ⟨by rfl, ?_⟩) (by assumption) ?_
    rotate_left
    · (intro w hSw; (try dsimp only at hSw); go_simp; try with_reducible rfl)
    simp only [Act.put, List.setIfInBounds_toArray, List.set_cons_zero, List.set_cons_succ]
    refine wpAnyH_take (i := 11) (oi := ({ dst := some 20, op := Go.Op.load 3 (Go.Operand.tmp 19), type := 3, pos := _, after := #[{ on := 10, ground := Go.Ground.data }, { on := 5, ground := Go.Ground.guard }], guard := some (5, true) } : Oper)) (v := ?_) rfl (by kernel_rfl) (by kernel_rfl) (by kernel_rfl) (fun _ _ _ h => h) (Or.inl ⟨by rfl, ?_⟩) (by assumption) ?_
    rotate_left
    · (intro w hSw; (try dsimp only at hSw); go_simp; try with_reducible rfl)
    simp only [Act.put, List.setIfInBounds_toArray, List.set_cons_zero, List.set_cons_succ]
    refine wpAnyH_ready (rs := [9, 12]) (by kernel_rfl) (by simp) (AllReadyH.cons (o := ({ dst := some 18, op := Go.Op.call { callee := Go.Callee.value (Go.Operand.func 62), args := #[Go.Operand.tmp 15, Go.Operand.tmp 16, Go.Operand.tmp 17], argTypes := #[61, 66, 66] }, type := 66, pos := _, after := #[{ on := 6, ground := Go.Ground.data }, { on := 7, ground := Go.Ground.data }, { on := 8, ground := Go.Ground.data }, { on := 5, ground := Go.Ground.chain }, { on := 5, ground := Go.Ground.guard }], guard := some (5, true) } : Oper)) rfl (fun KK hK => ?_) (AllReadyH.cons (o := ({ dst := some 21, op := Go.Op.buildSlice 22 1 #[(0, Go.Operand.tmp 20)], type := 22, pos := _, after := #[{ on := 11, ground := Go.Ground.data }, { on := 5, ground := Go.Ground.guard }], guard := some (5, true) } : Oper)) rfl (fun KK hK => ?_) AllReadyH.nil))
    · go_simp
      refine (HCS.out _ hBc).mono ?_
      rintro e2 U2 ⟨rfl, hl2⟩
      have hBc := bcat2 hBc hl2
      try go_wp2_with fail
      refine hK.out _ _ (hS _ hBc) (fun hHeld => ?_)
      clear hK
      try simp only [Act.put, List.setIfInBounds_toArray, List.set_cons_zero, List.set_cons_succ]
      refine wpAnyH_ready (rs := [12]) (by kernel_rfl) (by simp) (AllReadyH.cons (o := ({ dst := some 21, op := Go.Op.buildSlice 22 1 #[(0, Go.Operand.tmp 20)], type := 22, pos := _, after := #[{ on := 11, ground := Go.Ground.data }, { on := 5, ground := Go.Ground.guard }], guard := some (5, true) } : Oper)) rfl (fun KK hK => ?_) AllReadyH.nil)
      go_simp
      have hcq : (U2.alloc (.cells #[.int .i64 e] 3)).cell? ⟨U2.heap.size, 0, none⟩ = some (.int .i64 e) := (blk1 U2 (.int .i64 e)).cell 0
      have hBc := bcat2 hBc (balloc U2 (.cells #[.int .i64 e] 3))
      refine hK.out _ _ (hS _ hBc) (fun hHeld => ?_)
      clear hK
      try simp only [Act.put, List.setIfInBounds_toArray, List.set_cons_zero, List.set_cons_succ]
      generalize U2.alloc (.cells #[.int .i64 e] 3) = WA at *
      generalize U2.heap.size = ab at *
      refine wpAnyH_ready (rs := [13]) (by kernel_rfl) (by simp) (AllReadyH.cons (o := ({ dst := some 22, op := Go.Op.call { callee := Go.Callee.value (Go.Operand.func 40), args := #[Go.Operand.tmp 21], argTypes := #[22] }, type := 66, pos := _, after := #[{ on := 12, ground := Go.Ground.data }, { on := 9, ground := Go.Ground.chain }, { on := 5, ground := Go.Ground.guard }], guard := some (5, true) } : Oper)) rfl (fun KK hK => ?_) AllReadyH.nil)
      go_simp
      refine (of_one n ab e _ hn he hcq).mono ?_
      rintro e3 U3 ⟨rfl, hw3⟩
      subst hw3
      try go_wp2_with fail
      refine hK.out _ _ (hS _ hBc) (fun hHeld => ?_)
      clear hK
      try simp only [Act.put, List.setIfInBounds_toArray, List.set_cons_zero, List.set_cons_succ]
      refine wpAnyH_take (i := 14) (oi := ({ dst := some 23, op := Go.Op.binOp Go.BinOp.eql 66 (Go.Operand.tmp 18) (Go.Operand.tmp 22) 66, type := 4, pos := _, after := #[{ on := 9, ground := Go.Ground.data }, { on := 13, ground := Go.Ground.data }, { on := 5, ground := Go.Ground.guard }], guard := some (5, true) } : Oper)) (v := .bool B2) rfl (by kernel_rfl) (by kernel_rfl) (by kernel_rfl) (fun _ _ _ h => h) (Or.inl ⟨by rfl, ?_⟩) (by assumption) ?_
      · (intro w hSw; (try dsimp only at hSw); go_simp; try (first | with_reducible rfl | (simp [hB2]; done) | exact hB2v _ | (simp; done) | omega | (simp; omega)))
      simp only [Act.put, List.setIfInBounds_toArray, List.set_cons_zero, List.set_cons_succ]
      refine wpAnyH_take (i := 15) (oi := ({ dst := some 24, op := Go.Op.pick (Go.Operand.tmp 14) (Go.Operand.tmp 23) (Go.Operand.const (Go.Value.bool false)), type := 4, pos := _, after := #[{ on := 5, ground := Go.Ground.data }, { on := 14, ground := Go.Ground.data }], guard := none } : Oper)) (v := .bool B2) rfl (by kernel_rfl) (by kernel_rfl) (by kernel_rfl) (fun _ _ _ h => h) (Or.inl ⟨by rfl, ?_⟩) (by assumption) ?_
      · (intro w hSw; (try dsimp only at hSw); go_simp; try (first | with_reducible rfl | (simp; done) | omega | (simp; omega)))
      simp only [Act.put, List.setIfInBounds_toArray, List.set_cons_zero, List.set_cons_succ]
      refine wpAnyH_take (i := 16) (oi := ({ dst := some 8, op := Go.Op.assign (Go.Operand.tmp 24), type := 4, pos := _, after := #[{ on := 15, ground := Go.Ground.data }, { on := 13, ground := Go.Ground.chain }, { on := 0, ground := Go.Ground.phase }, { on := 1, ground := Go.Ground.phase }, { on := 2, ground := Go.Ground.phase }, { on := 3, ground := Go.Ground.phase }, { on := 4, ground := Go.Ground.phase }, { on := 5, ground := Go.Ground.phase }, { on := 6, ground := Go.Ground.phase }, { on := 7, ground := Go.Ground.phase }, { on := 8, ground := Go.Ground.phase }, { on := 9, ground := Go.Ground.phase }, { on := 10, ground := Go.Ground.phase }, { on := 11, ground := Go.Ground.phase }, { on := 12, ground := Go.Ground.phase }, { on := 13, ground := Go.Ground.phase }, { on := 14, ground := Go.Ground.phase }, { on := 15, ground := Go.Ground.phase }], guard := none } : Oper)) (v := ?_) rfl (by kernel_rfl) (by kernel_rfl) (by kernel_rfl) (fun _ _ _ h => h) (Or.inl ⟨by rfl, ?_⟩) (by assumption) ?_
      rotate_left
      · (intro w hSw; (try dsimp only at hSw); go_simp; try with_reducible rfl)
      simp only [Act.put, List.setIfInBounds_toArray, List.set_cons_zero, List.set_cons_succ]
      refine wpAnyH_done (by kernel_rfl) ?_ _
      have hBz := bcat2 hB0 hBc
      go_wp2
      go_ret
      exact ⟨by simp [HRES.out], hBz⟩
    · go_simp
      have hcq : (U1.alloc (.cells #[.int .i64 e] 3)).cell? ⟨U1.heap.size, 0, none⟩ = some (.int .i64 e) := (blk1 U1 (.int .i64 e)).cell 0
      have hBc := bcat2 hBc (balloc U1 (.cells #[.int .i64 e] 3))
      refine hK.out _ _ (hS _ hBc) (fun hHeld => ?_)
      clear hK
      try simp only [Act.put, List.setIfInBounds_toArray, List.set_cons_zero, List.set_cons_succ]
      generalize U1.alloc (.cells #[.int .i64 e] 3) = WA at *
      generalize U1.heap.size = ab at *
      refine wpAnyH_ready (rs := [9]) (by kernel_rfl) (by simp) (AllReadyH.cons (o := ({ dst := some 18, op := Go.Op.call { callee := Go.Callee.value (Go.Operand.func 62), args := #[Go.Operand.tmp 15, Go.Operand.tmp 16, Go.Operand.tmp 17], argTypes := #[61, 66, 66] }, type := 66, pos := _, after := #[{ on := 6, ground := Go.Ground.data }, { on := 7, ground := Go.Ground.data }, { on := 8, ground := Go.Ground.data }, { on := 5, ground := Go.Ground.chain }, { on := 5, ground := Go.Ground.guard }], guard := some (5, true) } : Oper)) rfl (fun KK hK => ?_) AllReadyH.nil)
      go_simp
      refine (HCS.out _ hBc).mono ?_
      rintro e2 U2 ⟨rfl, hl2⟩
      have hBc := bcat2 hBc hl2
      have hcq := below_cell hl2 hcq
      try go_wp2_with fail
      refine hK.out _ _ (hS _ hBc) (fun hHeld => ?_)
      clear hK
      try simp only [Act.put, List.setIfInBounds_toArray, List.set_cons_zero, List.set_cons_succ]
      refine wpAnyH_ready (rs := [13]) (by kernel_rfl) (by simp) (AllReadyH.cons (o := ({ dst := some 22, op := Go.Op.call { callee := Go.Callee.value (Go.Operand.func 40), args := #[Go.Operand.tmp 21], argTypes := #[22] }, type := 66, pos := _, after := #[{ on := 12, ground := Go.Ground.data }, { on := 9, ground := Go.Ground.chain }, { on := 5, ground := Go.Ground.guard }], guard := some (5, true) } : Oper)) rfl (fun KK hK => ?_) AllReadyH.nil)
      go_simp
      refine (of_one n ab e _ hn he hcq).mono ?_
      rintro e3 U3 ⟨rfl, hw3⟩
      subst hw3
      try go_wp2_with fail
      refine hK.out _ _ (hS _ hBc) (fun hHeld => ?_)
      clear hK
      try simp only [Act.put, List.setIfInBounds_toArray, List.set_cons_zero, List.set_cons_succ]
      refine wpAnyH_take (i := 14) (oi := ({ dst := some 23, op := Go.Op.binOp Go.BinOp.eql 66 (Go.Operand.tmp 18) (Go.Operand.tmp 22) 66, type := 4, pos := _, after := #[{ on := 9, ground := Go.Ground.data }, { on := 13, ground := Go.Ground.data }, { on := 5, ground := Go.Ground.guard }], guard := some (5, true) } : Oper)) (v := .bool B2) rfl (by kernel_rfl) (by kernel_rfl) (by kernel_rfl) (fun _ _ _ h => h) (Or.inl ⟨by rfl, ?_⟩) (by assumption) ?_
      · (intro w hSw; (try dsimp only at hSw); go_simp; try (first | with_reducible rfl | (simp [hB2]; done) | exact hB2v _ | (simp; done) | omega | (simp; omega)))
      simp only [Act.put, List.setIfInBounds_toArray, List.set_cons_zero, List.set_cons_succ]
      refine wpAnyH_take (i := 15) (oi := ({ dst := some 24, op := Go.Op.pick (Go.Operand.tmp 14) (Go.Operand.tmp 23) (Go.Operand.const (Go.Value.bool false)), type := 4, pos := _, after := #[{ on := 5, ground := Go.Ground.data }, { on := 14, ground := Go.Ground.data }], guard := none } : Oper)) (v := .bool B2) rfl (by kernel_rfl) (by kernel_rfl) (by kernel_rfl) (fun _ _ _ h => h) (Or.inl ⟨by rfl, ?_⟩) (by assumption) ?_
      · (intro w hSw; (try dsimp only at hSw); go_simp; try (first | with_reducible rfl | (simp; done) | omega | (simp; omega)))
      simp only [Act.put, List.setIfInBounds_toArray, List.set_cons_zero, List.set_cons_succ]
      refine wpAnyH_take (i := 16) (oi := ({ dst := some 8, op := Go.Op.assign (Go.Operand.tmp 24), type := 4, pos := _, after := #[{ on := 15, ground := Go.Ground.data }, { on := 13, ground := Go.Ground.chain }, { on := 0, ground := Go.Ground.phase }, { on := 1, ground := Go.Ground.phase }, { on := 2, ground := Go.Ground.phase }, { on := 3, ground := Go.Ground.phase }, { on := 4, ground := Go.Ground.phase }, { on := 5, ground := Go.Ground.phase }, { on := 6, ground := Go.Ground.phase }, { on := 7, ground := Go.Ground.phase }, { on := 8, ground := Go.Ground.phase }, { on := 9, ground := Go.Ground.phase }, { on := 10, ground := Go.Ground.phase }, { on := 11, ground := Go.Ground.phase }, { on := 12, ground := Go.Ground.phase }, { on := 13, ground := Go.Ground.phase }, { on := 14, ground := Go.Ground.phase }, { on := 15, ground := Go.Ground.phase }], guard := none } : Oper)) (v := ?_) rfl (by kernel_rfl) (by kernel_rfl) (by kernel_rfl) (fun _ _ _ h => h) (Or.inl ⟨by rfl, ?_⟩) (by assumption) ?_
      rotate_left
      · (intro w hSw; (try dsimp only at hSw); go_simp; try with_reducible rfl)
      simp only [Act.put, List.setIfInBounds_toArray, List.set_cons_zero, List.set_cons_succ]
      refine wpAnyH_done (by kernel_rfl) ?_ _
      have hBz := bcat2 hB0 hBc
      go_wp2
      go_ret
      exact ⟨by simp [HRES.out], hBz⟩
  | false =>
    rw [hB1] at HCM HR
    clear hB1
    have HRES := hide (show R = false by have := HR.out; simpa using this)
    clear HR HCS
    go_enter Tryd.func39, Tryd.ntmps39
    go_wp2_with fail
    rw [← hw0]
    clear hw0
    refine wp_region_held_drew (S := fun W => Below w0.heap.size w0 W ∧ W.cell? ⟨w.heap.size, 0, none⟩ = some (.int .i64 n) ∧ W.cell? ⟨w.heap.size, 1, none⟩ = some (.slice v1 v2 v3) ∧ W.cell? ⟨w.heap.size, 2, none⟩ = some (.int .i64 e) ∧ W.cell? ⟨w.heap.size, 3, none⟩ = some (.slice u1 u2 u3)) (by kernel_rfl) hS0 (fun hHeld => ?_)
    refine wpAnyH_take (i := 0) (oi := ({ dst := some 9, op := Go.Op.load 61 (Go.Operand.tmp 4), type := 61, pos := _, after := #[], guard := none } : Oper)) (v := ?_) rfl (by kernel_rfl) (by kernel_rfl) (by kernel_rfl) (fun _ _ _ h => h) (Or.inl ⟨by rfl, ?_⟩) (by assumption) ?_
    rotate_left
    · (intro w hSw; (try dsimp only at hSw); go_simp; try with_reducible rfl)
    simp only [Act.put, List.setIfInBounds_toArray, List.set_cons_zero, List.set_cons_succ]
    refine wpAnyH_take (i := 1) (oi := ({ dst := some 10, op := Go.Op.move (Go.Operand.tmp 1), type := 66, pos := _, after := #[], guard := none } : Oper)) (v := ?_) rfl (by kernel_rfl) (by kernel_rfl) (by kernel_rfl) (fun _ _ _ h => h) (Or.inl ⟨by rfl, ?_⟩) (by assumption) ?_
    rotate_left
    · (intro w hSw; (try dsimp only at hSw); go_simp; try with_reducible rfl)
    simp only [Act.put, List.setIfInBounds_toArray, List.set_cons_zero, List.set_cons_succ]
    refine wpAnyH_take (i := 2) (oi := ({ dst := some 11, op := Go.Op.move (Go.Operand.tmp 2), type := 66, pos := _, after := #[], guard := none } : Oper)) (v := ?_) rfl (by kernel_rfl) (by kernel_rfl) (by kernel_rfl) (fun _ _ _ h => h) (Or.inl ⟨by rfl, ?_⟩) (by assumption) ?_
    rotate_left
    · (intro w hSw; (try dsimp only at hSw); go_simp; try with_reducible rfl)
    simp only [Act.put, List.setIfInBounds_toArray, List.set_cons_zero, List.set_cons_succ]
    refine wpAnyH_take (i := 3) (oi := ({ dst := some 12, op := Go.Op.move (Go.Operand.tmp 3), type := 66, pos := _, after := #[], guard := none } : Oper)) (v := ?_) rfl (by kernel_rfl) (by kernel_rfl) (by kernel_rfl) (fun _ _ _ h => h) (Or.inl ⟨by rfl, ?_⟩) (by assumption) ?_
    rotate_left
    · (intro w hSw; (try dsimp only at hSw); go_simp; try with_reducible rfl)
    simp only [Act.put, List.setIfInBounds_toArray, List.set_cons_zero, List.set_cons_succ]
    refine wpAnyH_ready (rs := [4]) (by kernel_rfl) (by simp) (AllReadyH.cons (o := ({ dst := some 13, op := Go.Op.call { callee := Go.Callee.value (Go.Operand.func 61), args := #[Go.Operand.tmp 9, Go.Operand.tmp 10, Go.Operand.tmp 11, Go.Operand.tmp 12], argTypes := #[61, 66, 66, 66] }, type := 4, pos := _, after := #[{ on := 0, ground := Go.Ground.data }, { on := 1, ground := Go.Ground.data }, { on := 2, ground := Go.Ground.data }, { on := 3, ground := Go.Ground.data }], guard := none } : Oper)) rfl (fun KK hK => ?_) AllReadyH.nil)
    go_simp
    refine (HCM.out _ hBc).mono ?_
    rintro e1 U1 ⟨rfl, hl1⟩
    have hBc := bcat2 hBc hl1
    try go_wp2_with fail
    refine hK.out _ _ (hS _ hBc) (fun hHeld => ?_)
    clear hK
    try simp only [Act.put, List.setIfInBounds_toArray, List.set_cons_zero, List.set_cons_succ]
    refine wpAnyH_take (i := 5) (oi := ({ dst := some 14, op := Go.Op.move (Go.Operand.tmp 13), type := 4, pos := _, after := #[{ on := 4, ground := Go.Ground.data }, { on := 4, ground := Go.Ground.chain }], guard := none } : Oper)) (v := ?_) rfl (by kernel_rfl) (by kernel_rfl) (by kernel_rfl) (fun _ _ _ h => h) (Or.inl ⟨by rfl, ?_⟩) (by assumption) ?_
    rotate_left
    · (intro w hSw; (try dsimp only at hSw); go_simp; try with_reducible rfl)
    simp only [Act.put, List.setIfInBounds_toArray, List.set_cons_zero, List.set_cons_succ]
    refine wpAnyH_take (i := 6) (oi := ({ dst := some 15, op := Go.Op.load 61 (Go.Operand.tmp 4), type := 61, pos := _, after := #[{ on := 5, ground := Go.Ground.guard }], guard := some (5, true) } : Oper)) (v := undef) rfl (by kernel_rfl) (by kernel_rfl) (by kernel_rfl) (fun _ _ _ h => h) (Or.inr ⟨by rfl, rfl⟩) (by assumption) ?_
    simp only [Act.put, List.setIfInBounds_toArray, List.set_cons_zero, List.set_cons_succ]
    refine wpAnyH_take (i := 7) (oi := ({ dst := some 16, op := Go.Op.move (Go.Operand.tmp 1), type := 66, pos := _, after := #[{ on := 5, ground := Go.Ground.guard }], guard := some (5, true) } : Oper)) (v := undef) rfl (by kernel_rfl) (by kernel_rfl) (by kernel_rfl) (fun _ _ _ h => h) (Or.inr ⟨by rfl, rfl⟩) (by assumption) ?_
    simp only [Act.put, List.setIfInBounds_toArray, List.set_cons_zero, List.set_cons_succ]
    refine wpAnyH_take (i := 8) (oi := ({ dst := some 17, op := Go.Op.move (Go.Operand.tmp 2), type := 66, pos := _, after := #[{ on := 5, ground := Go.Ground.guard }], guard := some (5, true) } : Oper)) (v := undef) rfl (by kernel_rfl) (by kernel_rfl) (by kernel_rfl) (fun _ _ _ h => h) (Or.inr ⟨by rfl, rfl⟩) (by assumption) ?_
    simp only [Act.put, List.setIfInBounds_toArray, List.set_cons_zero, List.set_cons_succ]
    refine wpAnyH_take (i := 9) (oi := ({ dst := some 18, op := Go.Op.call { callee := Go.Callee.value (Go.Operand.func 62), args := #[Go.Operand.tmp 15, Go.Operand.tmp 16, Go.Operand.tmp 17], argTypes := #[61, 66, 66] }, type := 66, pos := _, after := #[{ on := 6, ground := Go.Ground.data }, { on := 7, ground := Go.Ground.data }, { on := 8, ground := Go.Ground.data }, { on := 5, ground := Go.Ground.chain }, { on := 5, ground := Go.Ground.guard }], guard := some (5, true) } : Oper)) (v := undef) rfl (by kernel_rfl) (by kernel_rfl) (by kernel_rfl) (fun _ _ _ h => h) (Or.inr ⟨by rfl, rfl⟩) (by assumption) ?_
    simp only [Act.put, List.setIfInBounds_toArray, List.set_cons_zero, List.set_cons_succ]
    refine wpAnyH_take (i := 10) (oi := ({ dst := some 19, op := Go.Op.fieldAddr 61 (Go.Operand.tmp 4) 1, type := 0, pos := _, after := #[{ on := 5, ground := Go.Ground.guard }], guard := some (5, true) } : Oper)) (v := undef) rfl (by kernel_rfl) (by kernel_rfl) (by kernel_rfl) (fun _ _ _ h => h) (Or.inr ⟨by rfl, rfl⟩) (by assumption) ?_
    simp only [Act.put, List.setIfInBounds_toArray, List.set_cons_zero, List.set_cons_succ]
    refine wpAnyH_take (i := 11) (oi := ({ dst := some 20, op := Go.Op.load 3 (Go.Operand.tmp 19), type := 3, pos := _, after := #[{ on := 10, ground := Go.Ground.data }, { on := 5, ground := Go.Ground.guard }], guard := some (5, true) } : Oper)) (v := undef) rfl (by kernel_rfl) (by kernel_rfl) (by kernel_rfl) (fun _ _ _ h => h) (Or.inr ⟨by rfl, rfl⟩) (by assumption) ?_
    simp only [Act.put, List.setIfInBounds_toArray, List.set_cons_zero, List.set_cons_succ]
    refine wpAnyH_take (i := 12) (oi := ({ dst := some 21, op := Go.Op.buildSlice 22 1 #[(0, Go.Operand.tmp 20)], type := 22, pos := _, after := #[{ on := 11, ground := Go.Ground.data }, { on := 5, ground := Go.Ground.guard }], guard := some (5, true) } : Oper)) (v := undef) rfl (by kernel_rfl) (by kernel_rfl) (by kernel_rfl) (fun _ _ _ h => h) (Or.inr ⟨by rfl, rfl⟩) (by assumption) ?_
    simp only [Act.put, List.setIfInBounds_toArray, List.set_cons_zero, List.set_cons_succ]
    refine wpAnyH_take (i := 13) (oi := ({ dst := some 22, op := Go.Op.call { callee := Go.Callee.value (Go.Operand.func 40), args := #[Go.Operand.tmp 21], argTypes := #[22] }, type := 66, pos := _, after := #[{ on := 12, ground := Go.Ground.data }, { on := 9, ground := Go.Ground.chain }, { on := 5, ground := Go.Ground.guard }], guard := some (5, true) } : Oper)) (v := undef) rfl (by kernel_rfl) (by kernel_rfl) (by kernel_rfl) (fun _ _ _ h => h) (Or.inr ⟨by rfl, rfl⟩) (by assumption) ?_
    simp only [Act.put, List.setIfInBounds_toArray, List.set_cons_zero, List.set_cons_succ]
    refine wpAnyH_take (i := 14) (oi := ({ dst := some 23, op := Go.Op.binOp Go.BinOp.eql 66 (Go.Operand.tmp 18) (Go.Operand.tmp 22) 66, type := 4, pos := _, after := #[{ on := 9, ground := Go.Ground.data }, { on := 13, ground := Go.Ground.data }, { on := 5, ground := Go.Ground.guard }], guard := some (5, true) } : Oper)) (v := undef) rfl (by kernel_rfl) (by kernel_rfl) (by kernel_rfl) (fun _ _ _ h => h) (Or.inr ⟨by rfl, rfl⟩) (by assumption) ?_
    simp only [Act.put, List.setIfInBounds_toArray, List.set_cons_zero, List.set_cons_succ]
    refine wpAnyH_take (i := 15) (oi := ({ dst := some 24, op := Go.Op.pick (Go.Operand.tmp 14) (Go.Operand.tmp 23) (Go.Operand.const (Go.Value.bool false)), type := 4, pos := _, after := #[{ on := 5, ground := Go.Ground.data }, { on := 14, ground := Go.Ground.data }], guard := none } : Oper)) (v := ?_) rfl (by kernel_rfl) (by kernel_rfl) (by kernel_rfl) (fun _ _ _ h => h) (Or.inl ⟨by rfl, ?_⟩) (by assumption) ?_
    rotate_left
    · (intro w hSw; (try dsimp only at hSw); go_simp; try with_reducible rfl)
    simp only [Act.put, List.setIfInBounds_toArray, List.set_cons_zero, List.set_cons_succ]
    refine wpAnyH_take (i := 16) (oi := ({ dst := some 8, op := Go.Op.assign (Go.Operand.tmp 24), type := 4, pos := _, after := #[{ on := 15, ground := Go.Ground.data }, { on := 13, ground := Go.Ground.chain }, { on := 0, ground := Go.Ground.phase }, { on := 1, ground := Go.Ground.phase }, { on := 2, ground := Go.Ground.phase }, { on := 3, ground := Go.Ground.phase }, { on := 4, ground := Go.Ground.phase }, { on := 5, ground := Go.Ground.phase }, { on := 6, ground := Go.Ground.phase }, { on := 7, ground := Go.Ground.phase }, { on := 8, ground := Go.Ground.phase }, { on := 9, ground := Go.Ground.phase }, { on := 10, ground := Go.Ground.phase }, { on := 11, ground := Go.Ground.phase }, { on := 12, ground := Go.Ground.phase }, { on := 13, ground := Go.Ground.phase }, { on := 14, ground := Go.Ground.phase }, { on := 15, ground := Go.Ground.phase }], guard := none } : Oper)) (v := ?_) rfl (by kernel_rfl) (by kernel_rfl) (by kernel_rfl) (fun _ _ _ h => h) (Or.inl ⟨by rfl, ?_⟩) (by assumption) ?_
    rotate_left
    · (intro w hSw; (try dsimp only at hSw); go_simp; try with_reducible rfl)
    simp only [Act.put, List.setIfInBounds_toArray, List.set_cons_zero, List.set_cons_succ]
    refine wpAnyH_done (by kernel_rfl) ?_ _
    have hBz := bcat2 hB0 hBc
    go_wp2
    go_ret
    exact ⟨by simp [HRES.out], hBz⟩
end Go.Proofs.YtanbpjfdfnmjpaaDoor

namespace Go.Proofs.YtanbpjfdfnmjpaaDoor
open Go Go.RowKit

/-- What Direct answers. -/
def DirR (c1 i1 c2 i2 : Int) (D b : Bool) (c i : Int) : Prop := (c1 ≠ 0 ∧ b = false ∧ c = c1 ∧ i = i1) ∨ (c1 = 0 ∧ c2 ≠ 0 ∧ b = false ∧ c = c2 ∧ i = i2) ∨ (c1 = 0 ∧ c2 = 0 ∧ b = D ∧ c = 0 ∧ i = 0)
theorem dir1 {c1 i1 c2 i2 : Int} {D : Bool} (h : c1 ≠ 0) : DirR c1 i1 c2 i2 D false c1 i1 := .inl ⟨h, rfl, rfl, rfl⟩
theorem dir2 {c1 i1 c2 i2 : Int} {D : Bool} (h0 : c1 = 0) (h : c2 ≠ 0) : DirR c1 i1 c2 i2 D false c2 i2 := .inr (.inl ⟨h0, h, rfl, rfl, rfl⟩)
theorem dir3 {c1 i1 c2 i2 : Int} {D : Bool} (h0 : c1 = 0) (h : c2 = 0) : DirR c1 i1 c2 i2 D D 0 0 := .inr (.inr ⟨h0, h, rfl, rfl, rfl⟩)
set_option maxRecDepth 100000 in
set_option maxHeartbeats 8000000 in
theorem dir_walk (N e : Int) (v1 : Option Addr) (v2 v3 : Nat) (l1 : Option Addr) (l2 l3 : Nat) (m1 : Option Addr) (m2 m3 : Nat) (b1 b2 D : Bool) (c1 i1 c2 i2 s1 s2 s3 : Int) (w : World)
    (HN1 : Hid (∀ W, Below w.heap.size w W → Calls Tryd.prog 37 #[.agg #[.int .i64 N, .slice v1 v2 v3], .slice l1 l2 l3] W fun x W' => x = .returned (.tuple #[.bool b1, .agg #[.int .i64 c1, .int .i64 i1]]) ∧ Below W.heap.size W W'))
    (HN2 : Hid (∀ W, Below w.heap.size w W → Calls Tryd.prog 37 #[.agg #[.int .i64 N, .slice v1 v2 v3], .slice m1 m2 m3] W fun x W' => x = .returned (.tuple #[.bool b2, .agg #[.int .i64 c2, .int .i64 i2]]) ∧ Below W.heap.size W W'))
    (GP : World → Value → Prop) (HGP : Hid (∀ W W' u, GP W u → Below W.heap.size W W' → GP W' u))
    (HOP : Hid (c1 = 0 → c2 = 0 → ∀ W, Below w.heap.size w W → Calls Tryd.prog 38 #[.agg #[.int .i64 N, .slice v1 v2 v3]] W fun x W' => ∃ u1 u2 u3, x = .returned (.tuple #[.agg #[.int .i64 N, .slice v1 v2 v3, .int .i64 e, .slice u1 u2 u3], .agg #[.int .i64 0, .int .i64 0]]) ∧ GP W' (.slice u1 u2 u3) ∧ Below W.heap.size W W'))
    (HO1 : Hid (c1 = 0 → c2 = 0 → ∀ W, Below w.heap.size w W → Calls Tryd.prog 40 #[.slice l1 l2 l3] W fun x W' => x = .returned (.int .u64 s1) ∧ Below W.heap.size W W'))
    (HO2 : Hid (c1 = 0 → c2 = 0 → ∀ W, Below w.heap.size w W → Calls Tryd.prog 40 #[.slice m1 m2 m3] W fun x W' => x = .returned (.int .u64 s2) ∧ Below W.heap.size W W'))
    (HAL : Hid (c1 = 0 → c2 = 0 → ∀ W u, Below w.heap.size w W → Calls Tryd.prog 41 #[.agg #[.int .i64 N, .slice v1 v2 v3, .int .i64 e, u]] W fun x W' => x = .returned (.int .u64 s3) ∧ Below W.heap.size W W'))
    (HDI : Hid (c1 = 0 → c2 = 0 → ∀ W u, Below w.heap.size w W → GP W u → Calls Tryd.prog 39 #[.agg #[.int .i64 N, .slice v1 v2 v3, .int .i64 e, u], .int .u64 s1, .int .u64 s2, .int .u64 s3] W fun x W' => x = .returned (.bool D) ∧ Below W.heap.size W W')) :
    Calls Tryd.prog 19 #[.agg #[.int .i64 N, .slice v1 v2 v3], .slice l1 l2 l3, .slice m1 m2 m3] w fun x w' => ∃ b c i, x = .returned (.tuple #[.bool b, .agg #[.int .i64 c, .int .i64 i]]) ∧ DirR c1 i1 c2 i2 D b c i ∧ Below w.heap.size w w' := by
  have HD1 := hide (fun h => dir1 (c1 := c1) (i1 := i1) (c2 := c2) (i2 := i2) (D := D) h)
  have HD2 := hide (fun h0 h => dir2 (c1 := c1) (i1 := i1) (c2 := c2) (i2 := i2) (D := D) h0 h)
  have HD3 := hide (fun h0 h => dir3 (c1 := c1) (i1 := i1) (c2 := c2) (i2 := i2) (D := D) h0 h)
  obtain ⟨w0, BG⟩ := Beg.new w N (.slice v1 v2 v3)
  go_enter Tryd.func19, Tryd.ntmps19
  go_wp2_with fail
  rw [← BG.eq]
  have hsz0 : w.heap.size + 1 + 1 = w0.heap.size := by rw [BG.eq]; simp
  rw [hsz0]
  have HSZ := hide hsz0
  clear hsz0
  obtain ⟨wa, hwa⟩ : ∃ wa, wa = w0.alloc (.cells #[.slice l1 l2 l3, .slice m1 m2 m3] 22) := ⟨_, rfl⟩
  have hba : Below w0.heap.size w0 wa := by rw [hwa]; exact balloc w0 _
  have hQa : Blk wa w0.heap.size 22 [.slice l1 l2 l3, .slice m1 m2 m3] := by rw [hwa]; exact World.alloc_heap_new w0 _
  rw [← hwa]
  clear hwa
  have hBa := bcat2 BG.bel hba
  have hXa := blk_below BG.box hba
  have hRa := blk_below BG.res hba
  clear BG hba
  generalize w0.heap.size = qb at *
  go_loopw [18] (fun iv wr => (iv = .int .i64 0 ∨ (iv = .int .i64 1 ∧ c1 = 0) ∨ (iv = .int .i64 2 ∧ c1 = 0 ∧ c2 = 0)) ∧ Below wa.heap.size wa wr) (fun iv _ => 2 - (intOf iv).toNat)
  case atStart => exact ⟨.inl rfl, Below.refl _ _⟩
  case round =>
    obtain ⟨hcase, hb⟩ := hrel
    have hBr := bcat2 hBa hb
    have hXr := blk_below hXa hb
    have hRr := blk_below hRa hb
    have hQr := blk_below hQa hb
    have q0 := hQr.cell 0
    have q1 := hQr.cell 1
    simp at q0 q1
    clear hQr
    rcases hcase with rfl | ⟨rfl, hc1⟩ | ⟨rfl, hc1, hc2⟩
    · obtain ⟨x0, x1, _, _⟩ := hXr.two
      go_wp2_with fail
      clear q0 q1 x0 x1
      refine (HN1.out _ hBr).mono ?_
      rintro x w2 ⟨rfl, hb2⟩
      have hbx := bcat2 hb2 (balloc w2 (.cells #[.int .i64 c1, .int .i64 i1] 28))
      have hF2 := blk0 (w := w2) (T := 28) (.int .i64 c1) (.int .i64 i1)
      have hb02 := bcat2 hb hbx
      have hBw2 := bcat2 hBr hbx
      have hR2 := blk_below hRr hbx
      obtain ⟨t0, t1, _, _⟩ := hF2.two
      by_cases hz : c1 = 0
      · have HZ := hide hz
        rw [hz] at t0 hb02 ⊢
        clear hz
        go_wp2
        go_roundw
        case rel => exact ⟨.inr (.inl ⟨rfl, HZ.out⟩), hb02⟩
        case measure => simp [intOf]
      · have hzb : (c1 != 0) = true := by simpa using hz
        have HZ := hide hz
        clear hz
        obtain ⟨y0, y1, fy0, fy1⟩ := hR2.two
        obtain ⟨hR6, hB6⟩ := put2 hR2 hBw2 (by omega) c1 i1
        obtain ⟨z0, z1, _, _⟩ := hR6.two
        go_wp2_with fail
        go_region
        all_goals (
          go_wp2
          exact bodyPost_ret (v := .tuple #[.bool false, .agg #[.int .i64 c1, .int .i64 i1]]) (by simp [results, Tryd.results19, go_sem, z0, z1]) rfl ⟨_, _, _, rfl, HD1.out HZ.out, bdrew hB6⟩)
    · have HC1 := hide hc1
      clear hc1
      obtain ⟨x0, x1, _, _⟩ := hXr.two
      go_wp2_with fail
      clear q0 q1 x0 x1
      refine (HN2.out _ hBr).mono ?_
      rintro x w2 ⟨rfl, hb2⟩
      have hbx := bcat2 hb2 (balloc w2 (.cells #[.int .i64 c2, .int .i64 i2] 28))
      have hF2 := blk0 (w := w2) (T := 28) (.int .i64 c2) (.int .i64 i2)
      have hb02 := bcat2 hb hbx
      have hBw2 := bcat2 hBr hbx
      have hR2 := blk_below hRr hbx
      obtain ⟨t0, t1, _, _⟩ := hF2.two
      by_cases hz : c2 = 0
      · have HZ := hide hz
        rw [hz] at t0 hb02 ⊢
        clear hz
        go_wp2
        go_roundw
        case rel => exact ⟨.inr (.inr ⟨rfl, HC1.out, HZ.out⟩), hb02⟩
        case measure => simp [intOf]
      · have hzb : (c2 != 0) = true := by simpa using hz
        have HZ := hide hz
        clear hz
        obtain ⟨y0, y1, fy0, fy1⟩ := hR2.two
        obtain ⟨hR6, hB6⟩ := put2 hR2 hBw2 (by omega) c2 i2
        obtain ⟨z0, z1, _, _⟩ := hR6.two
        go_wp2_with fail
        go_region
        all_goals (
          go_wp2
          exact bodyPost_ret (v := .tuple #[.bool false, .agg #[.int .i64 c2, .int .i64 i2]]) (by simp [results, Tryd.results19, go_sem, z0, z1]) rfl ⟨_, _, _, rfl, HD2.out HC1.out HZ.out, bdrew hB6⟩)
    · have HC1 := hide hc1
      have HC2 := hide hc2
      have HOP := hide (HOP.out hc1 hc2)
      have HO1 := hide (HO1.out hc1 hc2)
      have HO2 := hide (HO2.out hc1 hc2)
      have HAL := hide (HAL.out hc1 hc2)
      have HDI := hide (HDI.out hc1 hc2)
      clear hc1 hc2 q0 q1
      obtain ⟨x0, x1, _, _⟩ := hXr.two
      go_wp2_with fail
      clear x0 x1
      refine (HOP.out _ hBr).mono ?_
      rintro x w2 ⟨u1, u2, u3, rfl, hG2, hb2⟩
      obtain ⟨w3, hw3⟩ : ∃ w3, w3 = (w2.alloc (.cells #[.int .i64 N, .slice v1 v2 v3, .int .i64 e, .slice u1 u2 u3] 61)).alloc (.cells #[.int .i64 0, .int .i64 0] 28) := ⟨_, rfl⟩
      have hb3 : Below w2.heap.size w2 w3 := by rw [hw3]; exact (balloc w2 _).alloc (by simp) _
      have hF3 : Blk w3 (w2.heap.size + 1) 28 [.int .i64 0, .int .i64 0] := by
        rw [hw3]
        have := blk0 (w := w2.alloc (.cells #[.int .i64 N, .slice v1 v2 v3, .int .i64 e, .slice u1 u2 u3] 61)) (T := 28) (.int .i64 0) (.int .i64 0)
        rwa [World.size_alloc] at this
      have hH3 : Blk w3 w2.heap.size 61 [.int .i64 N, .slice v1 v2 v3, .int .i64 e, .slice u1 u2 u3] := by rw [hw3]; exact (blk4 _ _ _ _).alloc _
      have hG3 := HGP.out _ _ _ hG2 hb3
      have hB3 := bcat2 hBr (bcat2 hb2 hb3)
      have hR3 := blk_below hRr (bcat2 hb2 hb3)
      have HG3 := hide hG3
      clear hG2 hG3
      obtain ⟨f0, f1, _, _⟩ := hF3.two
      rw [hw3] at f0 f1
      go_wp2_with fail
      rw [← hw3]
      clear f0 f1 hw3
      generalize w2.heap.size = hb9 at *
      have hS : ∀ W, Below w3.heap.size w3 W → (Below w3.heap.size w3 W ∧ W.cell? ⟨hb9, 0, none⟩ = some (.int .i64 N) ∧ W.cell? ⟨hb9, 1, none⟩ = some (.slice v1 v2 v3) ∧ W.cell? ⟨hb9, 2, none⟩ = some (.int .i64 e) ∧ W.cell? ⟨hb9, 3, none⟩ = some (.slice u1 u2 u3) ∧ W.cell? ⟨w.heap.size + 1, 0, none⟩ = some (.int .i64 0) ∧ W.cell? ⟨w.heap.size + 1, 1, none⟩ = some (.int .i64 0)) := fun W h => ⟨h, (blk_below hH3 h).cell 0, (blk_below hH3 h).cell 1, (blk_below hH3 h).cell 2, (blk_below hH3 h).cell 3, (blk_below hR3 h).two.1, (blk_below hR3 h).two.2.1⟩
      have hS0 := hS _ (bdrew (Below.refl _ w3))
      go_region_held3 (fun W => Below w3.heap.size w3 W ∧ W.cell? ⟨hb9, 0, none⟩ = some (.int .i64 N) ∧ W.cell? ⟨hb9, 1, none⟩ = some (.slice v1 v2 v3) ∧ W.cell? ⟨hb9, 2, none⟩ = some (.int .i64 e) ∧ W.cell? ⟨hb9, 3, none⟩ = some (.slice u1 u2 u3) ∧ W.cell? ⟨w.heap.size + 1, 0, none⟩ = some (.int .i64 0) ∧ W.cell? ⟨w.heap.size + 1, 1, none⟩ = some (.int .i64 0))
        (first | exact hS0 | assumption | exact hS _ (bcat2 (And.left ‹_›) hl4) | exact hS _ (bcat2 (And.left ‹_›) hl3) | exact hS _ (bcat2 (And.left ‹_›) hl2) | exact hS _ (bcat2 (And.left ‹_›) hl1))
        (first
          | (go_at_call_of 40 (Value.slice l1 l2 l3); refine (HO1.out _ (bcat2 hB3 (And.left ‹_›))).mono ?_; rintro e1 U1 ⟨rfl, hl1⟩)
          | (go_at_call_of 40 (Value.slice m1 m2 m3); refine (HO2.out _ (bcat2 hB3 (And.left ‹_›))).mono ?_; rintro e2 U2 ⟨rfl, hl2⟩)
          | (go_at_call 41; refine (HAL.out _ _ (bcat2 hB3 (And.left ‹_›))).mono ?_; rintro e3 U3 ⟨rfl, hl3⟩)
          | (go_at_call 39; refine (HDI.out _ _ (bcat2 hB3 (And.left ‹_›)) (HGP.out _ _ _ HG3.out (And.left ‹_›))).mono ?_; rintro e4 U4 ⟨rfl, hl4⟩; have hU4 := bcat2 (And.left ‹_›) hl4; have hR4 := blk_below hR3 hU4; have hB4 := bcat2 hB3 hU4; obtain ⟨y0, y1, fy0, fy1⟩ := hR4.two; obtain ⟨s8, s9⟩ := hR4.self))
      all_goals (
        go_wp2
        exact bodyPost_ret (v := .tuple #[.bool D, .agg #[.int .i64 0, .int .i64 0]]) (by simp [results, Tryd.results19, go_sem, y0, y1]) rfl ⟨_, _, _, rfl, HD3.out HC1.out HC2.out, hB4⟩)
end Go.Proofs.YtanbpjfdfnmjpaaDoor

namespace Go.Proofs.YtanbpjfdfnmjpaaDoor
open Go Go.RowKit

/-- Two sets have the one alone, make all, and commute. -/
structure TogP (n : Nat) (zs : List Int) (e : Nat) (q r : Nat → Bool) : Prop where
  meet : ∀ a, a < n → q a = true → r a = true → a = e
  all : ∀ a, a < n → Mkd n zs e (fun a => q a || r a) a
  com : ∀ a b, a < n → b < n → q a = true → r b = true → tm n zs a b = tm n zs b a
theorem cmq_iff {n e : Nat} {zs : List Int} {xs ys : List Nat} {y : Nat} : cmq n zs e xs ys y = true ↔ ∃ a, a ∈ xs ∧ ∃ b, b ∈ ys ∧ Fin.cm (tm n zs) (iv n zs e) a b = y := by
  unfold cmq
  simp
theorem dirB_iff {n e : Nat} {zs : List Int} {q r p c : Nat → Bool} (g : IsGrp n zs e) (hq : q e = true) (hr : r e = true) (hp : ∀ a, a < n → (p a = true ↔ Mkd n zs e (fun a => q a || r a) a)) (hc : ∀ a, a < n → (c a = true ↔ Mkd n zs e (cmq n zs e (lst n q) (lst n r)) a)) : dirB n e q r p c = true ↔ TogP n zs e q r := by
  unfold dirB cmpB
  rw [Bool.and_eq_true, Bool.and_eq_true, decide_eq_true_eq, decide_eq_true_eq, decide_eq_true_eq]
  constructor
  · rintro ⟨⟨h1, h2⟩, h3⟩
    refine ⟨fun a ha hqa hra => ?_, fun a ha => (hp a ha).1 (bs_inj h2 a ha), fun a b ha hb hqa hrb => ?_⟩
    · have := bs_inj h1 a ha
      rw [hqa, hra] at this
      exact of_decide_eq_true this.symm
    · have ha' := List.mem_range.2 ha
      have hb' := List.mem_range.2 hb
      have hcm := Fin.cm_mem (grp_fg g) (grp_iv g) ha' hb'
      have hlt := List.mem_range.1 hcm
      have hM : Mkd n zs e (cmq n zs e (lst n q) (lst n r)) (Fin.cm (tm n zs) (iv n zs e) a b) := Fin.Gen.base hcm (cmq_iff.2 ⟨a, mem_lst.2 ⟨ha, hqa⟩, b, mem_lst.2 ⟨hb, hrb⟩, rfl⟩)
      have := bs_inj h3 _ hlt
      rw [(hc _ hlt).2 hM] at this
      exact (Fin.cm_one (grp_fg g) (grp_iv g) ha' hb').1 (of_decide_eq_true this.symm)
  · intro T
    refine ⟨⟨bs_ext fun a ha => ?_, bs_ext fun a ha => (hp a ha).2 (T.all a ha)⟩, bs_ext fun a ha => ?_⟩
    · rw [Bool.eq_iff_iff, Bool.and_eq_true, decide_eq_true_eq]
      exact ⟨fun h => T.meet a ha h.1 h.2, fun h => by rw [h]; exact ⟨hq, hr⟩⟩
    · rw [Bool.eq_iff_iff, decide_eq_true_eq, hc a ha]
      constructor
      · intro h
        refine Fin.Gen.least (P := fun x => x = e) ⟨rfl, fun x y _ _ h1 h2 => by rw [h1, h2]; exact g.left e g.elt⟩ (fun x _ hx => ?_) h
        obtain ⟨y, hy, z, hz, rfl⟩ := cmq_iff.1 hx
        obtain ⟨hy1, hy2⟩ := mem_lst.1 hy
        obtain ⟨hz1, hz2⟩ := mem_lst.1 hz
        exact (Fin.cm_one (grp_fg g) (grp_iv g) (List.mem_range.2 hy1) (List.mem_range.2 hz1)).2 (T.com y z hy1 hz1 hy2 hz2)
      · intro h
        rw [h]
        exact (Fin.Gen.sg _).one
/-- What the document asks of them. -/
theorem tog_iff {n e : Nat} {zs : List Int} {q r p : Nat → Bool} (g : IsGrp n zs e) (hq : q e = true) (hr : r e = true) (hp : ∀ a, a < n → (p a = true ↔ Mkd n zs e (fun a => decide (a ∈ lst n q ++ lst n r)) a)) :
    ((lst n fun a => q a && r a).length = 1 ∧ (lst n p).length = n ∧ ∀ a b, a ∈ lst n q → b ∈ lst n r → tm n zs a b = tm n zs b a) ↔ TogP n zs e q r := by
  have hM : ∀ a, Mkd n zs e (fun a => q a || r a) a ↔ Mkd n zs e (fun a => decide (a ∈ lst n q ++ lst n r)) a := by
    intro a
    constructor
    · refine Fin.Gen.mono fun x hx h => ?_
      have hx' := List.mem_range.1 hx
      rw [decide_eq_true_eq, List.mem_append, mem_lst, mem_lst]
      rcases (Bool.or_eq_true _ _).mp h with h | h
      · exact .inl ⟨hx', h⟩
      · exact .inr ⟨hx', h⟩
    · refine Fin.Gen.mono fun x hx h => ?_
      rw [decide_eq_true_eq, List.mem_append, mem_lst, mem_lst] at h
      rcases h with h | h
      · simp [h.2]
      · simp [h.2]
  have he : e ∈ lst n fun a => q a && r a := mem_lst.2 ⟨g.elt, by simp [hq, hr]⟩
  constructor
  · rintro ⟨h1, h2, h3⟩
    refine ⟨fun a ha hqa hra => ?_, fun a ha => (hM a).2 ((hp a ha).1 (lst_full'.1 h2 a ha)), fun a b ha hb hqa hrb => h3 a b (mem_lst.2 ⟨ha, hqa⟩) (mem_lst.2 ⟨hb, hrb⟩)⟩
    obtain ⟨x, hx⟩ := List.length_eq_one_iff.1 h1
    have h4 : a ∈ lst n fun a => q a && r a := mem_lst.2 ⟨ha, by simp [hqa, hra]⟩
    rw [hx, List.mem_singleton] at he h4
    rw [he, h4]
  · intro T
    refine ⟨?_, lst_full'.2 fun a ha => (hp a ha).2 ((hM a).1 (T.all a ha)), fun a b ha hb => T.com a b (mem_lst.1 ha).1 (mem_lst.1 hb).1 (mem_lst.1 ha).2 (mem_lst.1 hb).2⟩
    have : (lst n fun a => q a && r a) = lst n fun a => decide (a = e) := lst_congr fun a ha => by
      rw [Bool.eq_iff_iff, Bool.and_eq_true, decide_eq_true_eq]
      exact ⟨fun h => T.meet a ha h.1 h.2, fun h => by rw [h]; exact ⟨hq, hr⟩⟩
    rw [this, one_lsx n e g.elt]
    rfl
theorem subT_one {n e : Nat} {zs : List Int} {q : Nat → Bool} (h : subT n zs e q = true) : q e = true := (subT_iff.1 h).one
theorem sl_slice {w : World} {v : Value} {zs : List Int} (h : Sl w v zs) : ∃ a l c, v = .slice a l c := by
  obtain ⟨a, cap, pb, po, rfl, _⟩ := h
  exact ⟨a, _, cap, rfl⟩
theorem bs_pset {n : Nat} {ls : List Int} : bs (fun a => decide (a ∈ lst n (pset ls))) n = bs (pset ls) n := bs_ext fun a ha => by
  rw [Bool.eq_iff_iff, decide_eq_true_eq, mem_lst]
  exact ⟨fun h => h.2, fun h => ⟨ha, h⟩⟩
theorem of_set (n : Nat) (v : Value) (ls : List Int) (w : World) (hn : n ≤ 60) (hv : Sl w v ls) (h : lfault n ls = (0, 0)) :
    Calls Tryd.prog 40 #[v] w fun e w' => e = .returned (.int .u64 (bs (pset ls) n)) ∧ Below w.heap.size w w' := by
  have hl := set_lst (show (lfault n ls).1 = 0 by rw [h])
  have := of_ok n v (lst n (pset ls)) w hn (Nat.le_trans (lst_len _ _) hn) (by rw [← hl]; exact hv) (fun x hx => (mem_lst.1 hx).1)
  rw [bs_pset] at this
  refine this.mono ?_
  rintro x w' ⟨rfl, rfl⟩
  exact ⟨rfl, Below.refl _ _⟩
/-- What is wrong with two subgroups. -/
def dfault (N : Int) (zs ls ms : List Int) : Int × Int := if (ufault N zs ls).1 ≠ 0 then ufault N zs ls else ufault N zs ms
theorem grp_same {n e d : Nat} {zs : List Int} (g : IsGrp n zs e) (h : IsGrp n zs d) : e = d := by
  have := g.one
  rw [h.one] at this
  omega
theorem nrm_any (N : Int) (v u : Value) (zs l : List Int) (w : World) (hv : Sl w v zs) (hu : Sl w u l) (hT : Tab w) :
    ∃ b, ∀ W, Below w.heap.size w W → Calls Tryd.prog 37 #[.agg #[.int .i64 N, v], u] W fun x W' => x = .returned (.tuple #[.bool b, .agg #[.int .i64 (ufault N zs l).1, .int .i64 (ufault N zs l).2]]) ∧ Below W.heap.size W W' := by
  by_cases h : (ufault N zs l).1 = 0
  · obtain ⟨n, e, rfl, hg, h1, h2, h3⟩ := ufault_zero h
    refine ⟨nrmq n zs e (pset l), fun W hW => ?_⟩
    rw [h3]
    exact nrm_good n e v u zs l W (hv.below hW) hg (hu.below hW) (hT.below hW) h1 h2
  · exact ⟨false, fun W hW => nrm_bad N v u zs l W (hv.below hW) (hu.below hW) (hT.below hW) h⟩
theorem dir_any (N : Int) (v l m : Value) (zs ls ms : List Int) (w : World) (hv : Sl w v zs) (hl : Sl w l ls) (hm : Sl w m ms) (hT : Tab w) :
    ∃ D, ((dfault N zs ls ms).1 ≠ 0 → D = false) ∧ ((dfault N zs ls ms).1 = 0 → ∃ n e : Nat, N = n ∧ IsGrp n zs e ∧ lfault n ls = (0, 0) ∧ lfault n ms = (0, 0) ∧ subT n zs e (pset ls) = true ∧ subT n zs e (pset ms) = true ∧ dfault N zs ls ms = (0, 0) ∧ (D = true ↔ TogP n zs e (pset ls) (pset ms))) ∧
      Calls Tryd.prog 19 #[.agg #[.int .i64 N, v], l, m] w fun x w' => x = .returned (.tuple #[.bool D, .agg #[.int .i64 (dfault N zs ls ms).1, .int .i64 (dfault N zs ls ms).2]]) ∧ Below w.heap.size w w' := by
  obtain ⟨b1, HN1⟩ := nrm_any N v l zs ls w hv hl hT
  obtain ⟨b2, HN2⟩ := nrm_any N v m zs ms w hv hm hT
  obtain ⟨v1, v2, v3, rfl⟩ := sl_slice hv
  obtain ⟨l1, l2, l3, rfl⟩ := sl_slice hl
  obtain ⟨m1, m2, m3, rfl⟩ := sl_slice hm
  by_cases h1 : (ufault N zs ls).1 = 0
  · by_cases h2 : (ufault N zs ms).1 = 0
    · obtain ⟨n, e, rfl, hg, f1, s1, z1⟩ := ufault_zero h1
      obtain ⟨n', d, hn', hg', f2, s2, z2⟩ := ufault_zero h2
      obtain rfl : n = n' := by omega
      obtain rfl := grp_same hg hg'
      have hn := hg.tab.le
      obtain ⟨p, hp⟩ := mkd_test n zs e (fun a => pset ls a || pset ms a)
      obtain ⟨c, hc⟩ := mkd_test n zs e (cmq n zs e (lst n (pset ls)) (lst n (pset ms)))
      have hz : dfault n zs ls ms = (0, 0) := by unfold dfault; rw [z1, if_neg (by simp), z2]
      have W1 := dir_walk n e v1 v2 v3 l1 l2 l3 m1 m2 m3 b1 b2 (dirB n e (pset ls) (pset ms) p c) (ufault n zs ls).1 (ufault n zs ls).2 (ufault n zs ms).1 (ufault n zs ms).2 (bs (pset ls) n) (bs (pset ms) n) (bs (fun _ => true) n) w (hide HN1) (hide HN2)
        (fun W u => GA W n (.slice v1 v2 v3) e u zs) (hide fun W W' u h hb => h.below hb)
        (hide fun _ _ W hW => (opened_good n e (.slice v1 v2 v3) zs W (hv.below hW) hg).mono (by
          rintro x W' ⟨u, rfl, hu, hb⟩
          obtain ⟨u1, u2, u3, rfl⟩ := sl_slice hu.sl
          exact ⟨u1, u2, u3, rfl, ⟨hg, (hv.below hW).below hb, hu.sl⟩, hb⟩))
        (hide fun _ _ W hW => of_set n (.slice l1 l2 l3) ls W hn (hl.below hW) f1)
        (hide fun _ _ W hW => of_set n (.slice m1 m2 m3) ms W hn (hm.below hW) f2)
        (hide fun _ _ W u hW => all_ok n (.slice v1 v2 v3) u e W hn)
        (hide fun _ _ W u hW hG => by
          obtain ⟨u1, u2, u3, rfl⟩ := sl_slice hG.inv
          exact direct_ok n v1 v2 v3 u1 u2 u3 zs e (pset ls) (pset ms) p c W hG (hT.below hW) hp hc)
      refine ⟨dirB n e (pset ls) (pset ms) p c, fun h => absurd (by rw [hz]) h, fun _ => ⟨n, e, rfl, hg, f1, f2, s1, s2, hz, dirB_iff hg (subT_one s1) (subT_one s2) hp hc⟩, W1.mono ?_⟩
      rintro x w' ⟨b, c', i, rfl, hR, hb⟩
      rcases hR with ⟨h, _⟩ | ⟨_, h, _⟩ | ⟨_, _, rfl, rfl, rfl⟩
      · exact absurd h1 h
      · exact absurd h2 h
      · rw [hz]; exact ⟨rfl, hb⟩
    · have hz : dfault N zs ls ms = ufault N zs ms := by unfold dfault; rw [if_neg (by simpa using h1)]
      have W1 := dir_walk N 0 v1 v2 v3 l1 l2 l3 m1 m2 m3 b1 b2 false (ufault N zs ls).1 (ufault N zs ls).2 (ufault N zs ms).1 (ufault N zs ms).2 0 0 0 w (hide HN1) (hide HN2) (fun _ _ => True) (hide fun _ _ _ h _ => h)
        (hide fun _ h => absurd h h2) (hide fun _ h => absurd h h2) (hide fun _ h => absurd h h2) (hide fun _ h => absurd h h2) (hide fun _ h => absurd h h2)
      refine ⟨false, fun _ => rfl, fun h => absurd (by rw [← hz]; exact h) h2, W1.mono ?_⟩
      rintro x w' ⟨b, c', i, rfl, hR, hb⟩
      rcases hR with ⟨h, _⟩ | ⟨_, _, rfl, rfl, rfl⟩ | ⟨_, h, _⟩
      · exact absurd h1 h
      · rw [hz]; exact ⟨rfl, hb⟩
      · exact absurd h h2
  · have hz : dfault N zs ls ms = ufault N zs ls := by unfold dfault; rw [if_pos h1]
    have W1 := dir_walk N 0 v1 v2 v3 l1 l2 l3 m1 m2 m3 b1 b2 false (ufault N zs ls).1 (ufault N zs ls).2 (ufault N zs ms).1 (ufault N zs ms).2 0 0 0 w (hide HN1) (hide HN2) (fun _ _ => True) (hide fun _ _ _ h _ => h)
      (hide fun h => absurd h h1) (hide fun h => absurd h h1) (hide fun h => absurd h h1) (hide fun h => absurd h h1) (hide fun h => absurd h h1)
    refine ⟨false, fun _ => rfl, fun h => absurd (by rw [← hz]; exact h) h1, W1.mono ?_⟩
    rintro x w' ⟨b, c', i, rfl, hR, hb⟩
    rcases hR with ⟨_, rfl, rfl, rfl⟩ | ⟨h, _⟩ | ⟨h, _⟩
    · rw [hz]; exact ⟨rfl, hb⟩
    · exact absurd h h1
    · exact absurd h h1
end Go.Proofs.YtanbpjfdfnmjpaaDoor
