/- The least subgroup that has a set and is, conjugated by each thing of another, the same; package sub's Closure. Condition: the library's table of places lies as its text lays it. Package quot's numbers and group: lists that are parts of a group, numbered. Package sub's Is, package coset's Right. Condition: the library's table of places lies as its text lays it. Package quot's Quotient. Condition: the library's table of places lies as its text lays it. -/
import Derived.Test.YtobnfbnholbfoaaDoorZ6
import Derived.Test.YtobnfbnholbfoaaDoorZ5
import Derived.BigQuiet
import Derived.Deep.AppendLies
import Derived.Deep.DeepCutAuto
import Derived.Deep.RegionLaw
import Derived.Laws.EntriesVeiled
import Derived.Maps.AppendAt
import Derived.Maps.Ext
import Derived.Maps.OwnOps
import Derived.Maps.OwnSet
namespace Go.Proofs.YtobnfbnholbfoaaDoor
open Go Go.RowKit

/-- The things of a set, conjugated by the things of a list. -/
def clx (n : Nat) (zs : List Int) (e : Nat) (q : Nat → Bool) (xs : List Nat) (y : Nat) : Bool := xs.any fun a => cjq n zs e q a y
set_option maxRecDepth 100000 in
set_option maxHeartbeats 4000000 in
theorem kclo_ok (n : Nat) (v u : Value) (zs : List Int) (e : Nat) (q r c : Nat → Bool) (w : World) (hG : GA w n v e u zs) (hT : Tab w) (hc : ∀ a, a < n → (c a = true ↔ Mkd n zs e (clx n zs e q (lst n r)) a)) :
    Calls Tryd.prog 54 #[.agg #[.int .i64 n, v, .int .i64 e, u], .int .u64 (bs q n), .int .u64 (bs r n)] w fun x w' => x = .returned (.int .u64 (bs c n)) ∧ Below w.heap.size w w' := by
  have hg := hG.grp
  have hn := hG.le
  have hB0 : Below w.heap.size w (w.alloc (.cells #[.int .i64 n, v, .int .i64 e, u] 63)) := balloc w _
  have hX0 : Blk (w.alloc (.cells #[.int .i64 n, v, .int .i64 e, u] 63)) w.heap.size 63 [.int .i64 n, v, .int .i64 e, u] := blk4 _ _ _ _
  have HLQ := hide (fun W (h : Below w.heap.size w W) => list_ok n r W hn (hT.below h))
  have HMA := hide (fun W (h : Below w.heap.size w W) => made_ok n v u zs e _ c W (hG.below h) (hT.below h) hc)
  have HM0 := hide (fun x (h : x ∈ lst n r) => (mem_lst.1 h).1)
  have hl0 := Nat.le_trans (lst_len n r) hn
  have HL0 := hide (li_len (lst n r))
  clear hc
  generalize lst n r = xs at *
  generalize bs r n = R at *
  go_enter Tryd.func54, Tryd.ntmps54
  go_wp2_with fail
  generalize w.alloc (.cells #[.int .i64 n, v, .int .i64 e, u] 63) = w0 at *
  refine (HLQ.out _ hB0).mono ?_
  rintro x w1 ⟨rv, rfl, hrv, hb1⟩
  obtain ⟨a0, cap0, pb0, po0, rfl, hr0, hp0, hq0, hm0, _⟩ := hrv
  have hB1 := bcat2 hB0 hb1
  have hX1 := blk_below hX0 hb1
  rw [HL0.out] at hq0 ⊢
  have HR0 := hide hr0
  clear hr0 hX0 hB0 HLQ hm0
  go_wp2_with fail
  go_loopw [7, 13] (fun s i wr => ∃ k : Nat, k ≤ xs.length ∧ i = .int .i64 k ∧ s = .int .u64 (bs (clx n zs e q (xs.take k)) n) ∧ Below w1.heap.size w1 wr) (fun _ i _ => xs.length - (intOf i).toNat)
  case atStart => exact ⟨0, Nat.zero_le _, rfl, by rw [List.take_zero, show bs (clx n zs e q []) n = 0 from bs_none n]; rfl, Below.refl _ _⟩
  case round =>
    obtain ⟨k, hk, rfl, rfl, hB⟩ := hrel
    by_cases hlt : k < xs.length
    · have hck := (HR0.out.below hB hp0).cell k (by rw [HL0.out]; exact hlt)
      rw [li_get hlt] at hck
      obtain rfl := HR0.out.at_ (by rw [HL0.out]; omega)
      obtain ⟨x, hxe⟩ : ∃ x, xs[k] = x := ⟨_, rfl⟩
      have hxn : x < n := by rw [← hxe]; exact HM0.out _ (List.getElem_mem hlt)
      have hsn : xs.take (k + 1) = xs.take k ++ [x] := by rw [List.take_succ_eq_append_getElem hlt, hxe]
      rw [hxe] at hck
      have hor : bits BinOp.or IntKind.u64 (bs (clx n zs e q (xs.take k)) n : Int) (bs (cjq n zs e q x) n : Int) = (bs (clx n zs e q (xs.take (k + 1))) n : Int) := by
        rw [or_bs _ _ hn, hsn]
        congr 2
        funext y
        simp [clx]
      have HCJ := hide (fun W (h : Below wr.heap.size wr W) => conjd_ok n v u zs e x q W (hG.below (bcat2 (bcat2 hB1 hB) h)) (hT.below (bcat2 (bcat2 hB1 hB) h)) hxn)
      obtain ⟨_, g0, g1, g2, g3, _⟩ := Four.mk' (blk_below hX1 hB)
      clear hxe hsn
      generalize bs (cjq n zs e q x) n = C9 at *
      go_wp2_with fail
      clear hck g0 g1 g2 g3
      refine (HCJ.out _ (Below.refl _ _)).mono ?_
      rintro x9 w3 ⟨rfl, hb3⟩
      go_wp2
      go_roundw
      case rel => exact ⟨k + 1, by omega, by go_num, rfl, bcat2 hB hb3⟩
      case measure => simp [intOf]; omega
    · have hkn : k = xs.length := by omega
      subst hkn
      rw [List.take_length]
      obtain ⟨_, g0, g1, g2, g3, _⟩ := Four.mk' (blk_below hX1 hB)
      go_wp2_with fail
      refine (HMA.out _ (bcat2 hB1 hB)).mono ?_
      rintro x9 w8 ⟨rfl, hb8⟩
      go_wp2
      go_ret
      exact ⟨rfl, bcat2 (bcat2 hB1 hB) hb8⟩
theorem clx_all {n e : Nat} {zs : List Int} {q : Nat → Bool} : clx n zs e q (lst n fun _ => true) = cloq n zs e q n := by
  funext y
  unfold clx cloq lst
  rw [List.filter_eq_self.2 (fun _ _ => rfl)]
set_option maxRecDepth 100000 in
set_option maxHeartbeats 4000000 in
theorem clo_good (n e : Nat) (v u0 : Value) (zs l0 : List Int) (p : Nat → Bool) (w : World) (hv : Sl w v zs) (hg : IsGrp n zs e) (hu : Sl w u0 l0) (hT : Tab w) (hc : lfault n l0 = (0, 0)) (hp : ∀ a, a < n → (p a = true ↔ Mkd n zs e (cloq n zs e (pset l0) n) a)) :
    Calls Tryd.prog 33 #[.agg #[.int .i64 n, v], u0] w fun x w' => ∃ r, x = .returned (.tuple #[r, .agg #[.int .i64 0, .int .i64 0]]) ∧ SlF w.heap.size w' r (li (lst n (p))) ∧ Below w.heap.size w w' := by
  obtain ⟨va, vl, vc, rfl⟩ := hv.isSlice
  have HPP := hide hp
  clear hp
  obtain ⟨w0, BG⟩ := Beg.new w n (.slice va vl vc)
  have hv0 := hv.below BG.bel
  obtain ⟨c0, c1, _, _⟩ := BG.box.two
  have HCK := hide (oset_good n e (.slice va vl vc) u0 zs l0 w0 hv0 hg (hu.below BG.bel) hc)
  have HZ0 := hide (show w.heap.size + 2 ≤ w0.heap.size by rw [BG.eq]; simp)
  rw [BG.eq] at c0 c1
  go_enter Tryd.func33, Tryd.ntmps33
  go_wp2_with fail
  rw [← BG.eq]
  refine HCK.out.mono ?_
  rintro x w1 ⟨iv9, rfl, hSI, hb1⟩
  obtain ⟨ia, il, ic, rfl⟩ := hSI.sl.isSlice
  clear c0 c1 HCK
  obtain ⟨w2, hw2⟩ : ∃ w2, w2 = (w1.alloc (.cells #[.int .i64 n, (.slice va vl vc), .int .i64 e, (.slice ia il ic)] 63)).alloc (.cells #[.int .i64 0, .int .i64 0] 27) := ⟨_, rfl⟩
  have hb2 : Below w1.heap.size w1 w2 := by rw [hw2]; exact (balloc w1 _).alloc (by simp) _
  have hB1 : Below w0.heap.size w0 w2 := bcat2 hb1 hb2
  have hF1 : Blk w2 (w1.heap.size + 1) 27 [.int .i64 0, .int .i64 0] := by
    rw [hw2]
    have := blk0 (w := w1.alloc (.cells #[.int .i64 n, (.slice va vl vc), .int .i64 e, (.slice ia il ic)] 63)) (T := 27) (.int .i64 0) (.int .i64 0)
    rwa [World.size_alloc] at this
  have hH2 : Blk w2 w1.heap.size 63 [.int .i64 n, (.slice va vl vc), .int .i64 e, (.slice ia il ic)] := by
    rw [hw2]; exact (blk4 _ _ _ _).alloc _
  have hBw2 := bcat BG.bel hB1 BG.bel.size
  have hR2 := blk_below BG.res hB1
  have hT2 := hT.below hBw2
  have hGA2 : GA w2 n (.slice va vl vc) e (.slice ia il ic) zs := ⟨hg, hv.below hBw2, (hSI.below hb2).sl⟩
  obtain ⟨t0, t1, _, _⟩ := hF1.two
  obtain ⟨_, h0, h1, h2, h3, _⟩ := Four.mk' hH2
  have hx2 := blk_below BG.box hB1
  have HZ1 := hide (Nat.le_trans HZ0.out hb1.size)
  have HZ2 := hide hb2.size
  rw [hw2] at t0 t1 h0 h1 h2 h3
  go_wp2_with fail
  rw [← hw2]
  rw [← hw2] at t0 t1 h0 h1 h2 h3
  clear hw2
  have hS : ∀ W, Below w2.heap.size w2 W → (Below w2.heap.size w2 W ∧ W.cell? ⟨w1.heap.size, 0, none⟩ = some (.int .i64 n) ∧ W.cell? ⟨w1.heap.size, 1, none⟩ = some (.slice va vl vc) ∧ W.cell? ⟨w1.heap.size, 2, none⟩ = some (.int .i64 e) ∧ W.cell? ⟨w1.heap.size, 3, none⟩ = some (.slice ia il ic) ∧ W.cell? ⟨w.heap.size + 1, 0, none⟩ = some (.int .i64 0) ∧ W.cell? ⟨w.heap.size + 1, 1, none⟩ = some (.int .i64 0) ∧ W.frozen? ⟨w.heap.size + 1, 0, none⟩ = false ∧ W.frozen? ⟨w.heap.size + 1, 1, none⟩ = false ∧ W.setCell ⟨w.heap.size + 1, 0, none⟩ (.int .i64 0) = W ∧ W.setCell ⟨w.heap.size + 1, 1, none⟩ (.int .i64 0) = W) := fun W h => by
    obtain ⟨_, y0, y1, fy0, fy1, s0, s1⟩ := Two.mk' (blk_below hR2 h)
    exact ⟨h, below_cell h h0, below_cell h h1, below_cell h h2, below_cell h h3, y0, y1, fy0, fy1, s0, s1⟩
  have hS0 := hS _ (bdrew (Below.refl _ w2))
  have HA := hide (fun W => all_ok n (.slice va vl vc) (.slice ia il ic) e W hg.tab.le)
  have HC := hide (fun W (h : Below w2.heap.size w2 W) => kclo_ok n (.slice va vl vc) (.slice ia il ic) zs e (pset l0) (fun _ => true) p W (hGA2.below h) (hT2.below h) (by rw [clx_all]; exact HPP.out))
  have HL := hide (fun W (h : Below w2.heap.size w2 W) => list_at n w.heap.size p W hg.tab.le (hT2.below h) (Nat.le_trans hBw2.size h.size))
  clear h0 h1 h2 h3 t0 t1
  generalize bs p n = C at *
  generalize bs (fun _ => true) n = A at *
  generalize bs (pset l0) n = P0 at *
  go_region_held3 (fun W => Below w2.heap.size w2 W ∧ W.cell? ⟨w1.heap.size, 0, none⟩ = some (.int .i64 n) ∧ W.cell? ⟨w1.heap.size, 1, none⟩ = some (.slice va vl vc) ∧ W.cell? ⟨w1.heap.size, 2, none⟩ = some (.int .i64 e) ∧ W.cell? ⟨w1.heap.size, 3, none⟩ = some (.slice ia il ic) ∧ W.cell? ⟨w.heap.size + 1, 0, none⟩ = some (.int .i64 0) ∧ W.cell? ⟨w.heap.size + 1, 1, none⟩ = some (.int .i64 0) ∧ W.frozen? ⟨w.heap.size + 1, 0, none⟩ = false ∧ W.frozen? ⟨w.heap.size + 1, 1, none⟩ = false ∧ W.setCell ⟨w.heap.size + 1, 0, none⟩ (.int .i64 0) = W ∧ W.setCell ⟨w.heap.size + 1, 1, none⟩ (.int .i64 0) = W)
    (first | exact hS0 | assumption | exact hS _ (bcat2 (And.left ‹_›) hl1))
    (first
      | (go_at_call 53; refine (HA.out _).mono ?_; rintro e1 W1 ⟨rfl, hl1⟩)
      | (go_at_call 54; refine (HC.out _ (And.left ‹_›)).mono ?_; rintro e2 W2 ⟨rfl, hl1⟩)
      | (go_at_call 47; refine (HL.out _ (And.left ‹_›)).mono ?_; rintro e3 W3 ⟨r, rfl, hrr, hl1⟩))
  all_goals (
    obtain ⟨hB9, _, _, _, _, y0, y1, _⟩ := ‹Below w2.heap.size w2 W3 ∧ _›
    have hBz := bcat hBw2 hB9 hBw2.size
    clear hS hS0
    go_wp2
    exact bodyPost_ret (v := .tuple #[r, .agg #[.int .i64 0, .int .i64 0]]) (by simp [results, Tryd.results33, go_sem, y0, y1]) rfl ⟨_, rfl, hrr, hBz⟩)
end Go.Proofs.YtobnfbnholbfoaaDoor

namespace Go.Proofs.YtobnfbnholbfoaaDoor
open Go Go.RowKit Go.Maps

theorem und89 : Tryd.prog.underlying 89 = some (.map 3 3) := by kernel_rfl
set_option maxRecDepth 100000 in
set_option maxHeartbeats 8000000 in
theorem numbers_ok (v : Value) (ls : List (List Int)) (w : World) (hv : SlL w v ls) (hn : ls.length ≤ 60) (hl : ∀ t, t < ls.length → (ls[t]?.getD []).length ≤ 60)
    (hr : ∀ (t : Nat) (a : Int), a ∈ ls[t]?.getD [] → 0 ≤ a ∧ a < 60) (hd : ∀ (s t : Nat) (a : Int), a ∈ ls[s]?.getD [] → a ∈ ls[t]?.getD [] → s = t) :
    Calls Tryd.prog 57 #[v] w fun x w' => ∃ D, x = .returned (.map (some w.heap.size)) ∧ w'.ownsMap Tryd.prog 3 (plainElem Tryd.prog 3) w.heap.size 3600 D ∧ MLs ls ls.length 0 D ∧ Below w.heap.size w w' := by
  obtain ⟨va, vc, vb, vo, rfl, v1, v2, v3, v4, v5⟩ := hv
  have HV := hide v2
  have HV1 := hide v1
  have HL := hide hl
  have HR := hide hr
  have HD := hide hd
  clear v1 v2 v5 hl hr hd
  have hmm := @run_makeMap Tryd.prog
  go_enter Tryd.func57, Tryd.ntmps57
  go_wp2
  clear hmm
  go_loopw [11] (fun i wr => ∃ (j c : Nat) (D : DataW Unit), j ≤ ls.length ∧ i = .int .i64 j ∧ wr.ownsMap Tryd.prog 3 (plainElem Tryd.prog 3) w.heap.size c D ∧ c ≤ j * 60 ∧ MLs ls j 0 D ∧ Below w.heap.size w wr) (fun i _ => ls.length - (intOf i).toNat)
  case atStart => exact ⟨0, 0, .map [], Nat.zero_le _, rfl, World.ownsMap_made _ _ _ _, Nat.le_refl _, ⟨fun t ht => by omega, fun a ha => by simp at ha⟩, balloc w _⟩
  case round =>
    obtain ⟨j, c, D, hj, rfl, hmap, hc, hM, hB⟩ := hrel
    by_cases hlt : j < ls.length
    · have hji : (j : Int) < (ls.length : Int) := by omega
      obtain rfl := HV1.out (by omega)
      obtain ⟨y, cy, hy⟩ := HV.out j hlt
      have hll := HL.out j hlt
      have cy := below_cell hB cy
      have HD' := hide (fun (D' : DataW Unit) (k : Nat) (h : MLs ls j k D') (hm : IsMap D') (hk : k < (ls[j]?.getD []).length) => h.step hm HD.out hk)
      have HE := hide (fun (D' : DataW Unit) (h : MLs ls j (ls[j]?.getD []).length D') => h.done)
      have HRR := hide (fun a (h : a ∈ ls[j]?.getD []) => HR.out j a h)
      obtain ⟨ya, ycap, yb, yo, rfl, hyr, hyb, _, _⟩ := hy
      generalize hlj : ls[j]?.getD [] = lj at *
      have HLJ := hide hlj
      clear hlj
      have HY := hide hyr
      clear hyr
      have hcap : lj.length ≤ 60 := hll
      go_wp2
      go_loopw [18] (fun i wi => ∃ (k c : Nat) (D : DataW Unit), k ≤ lj.length ∧ i = .int .i64 k ∧ wi.ownsMap Tryd.prog 3 (plainElem Tryd.prog 3) w.heap.size c D ∧ c ≤ j * 60 + k ∧ MLs ls j k D ∧ Below w.heap.size w wi) (fun i _ => lj.length - (intOf i).toNat)
      case atStart => exact ⟨0, c, D, Nat.zero_le _, rfl, hmap, by omega, hM, hB⟩
      case round =>
        obtain ⟨k, c2, D2, hk, rfl, hmap2, hc2, hM2, hB2⟩ := hrel
        have hY2 := HY.out.below hB2 hyb
        by_cases hlt2 : k < lj.length
        · have hki : (k : Int) < (lj.length : Int) := by omega
          obtain rfl := hY2.at_ (by omega)
          have hcx := hY2.cell k hlt2
          obtain ⟨hx0, hx1⟩ := HRR.out (lj[k]?.getD 0) (by simp [hlt2])
          have HST := hide (HD'.out D2 k hM2 (map_is hmap2) hlt2)
          generalize lj[k]?.getD 0 = x at *
          have hkw : (Lit.int .i64 x).wf = true := WalkArith.wf_i64 (by omega)
          have hkey := keyOf_int_mk und3' hkw
          go_wp2_with (first
            | (at_mapUpdate; refine wpList_mapUpdate_own _ rfl _ _ _ 89 rfl 3 3 law3 und89 _ w.heap.size _ D2 rfl hmap2 (by unfold maxLen; omega) _ _ _ rfl rfl hkey _ [] (plainElem_int und3' (WalkArith.wf_i64 (by omega))) ?_; intro w2 hmap3 hgrow2))
          have hB3 := hB2.grown hgrow2 hB2.size (fun k hk => by cases hk; exact Nat.le_refl _)
          go_roundw
          case rel => exact ⟨k + 1, c2 + 1, _, by omega, by go_num, hmap3, by omega, HST.out, hB3⟩
          case measure => simp [intOf]; omega
        · have hki : ¬ (k : Int) < (lj.length : Int) := by omega
          have hke : k = lj.length := by omega
          have HEN := hide (HE.out D2 (by rw [← hke]; exact hM2))
          clear hke
          go_wp2
          go_roundw
          case rel => exact ⟨j + 1, c2, D2, by omega, by go_num, hmap2, by omega, HEN.out, hB2⟩
          case measure => simp [intOf]; omega
    · have hji : ¬ (j : Int) < (ls.length : Int) := by omega
      have hje : j = ls.length := by omega
      have HM := hide (show MLs ls ls.length 0 D by rw [← hje]; exact hM)
      clear hje
      go_wp2
      go_ret
      exact ⟨rfl, D, map_le hmap (by omega), HM.out, hB⟩
theorem look_int {D : DataW Unit} {W : World} {mb c : Nat} {x q : Nat} (h : W.ownsMap Tryd.prog 3 (plainElem Tryd.prog 3) mb c D) (hx : x < 60) (hN : D.atKey (.int .i64 (x : Nat)) (.lit (.int .i64 0)) = .lit (.int .i64 (q : Nat))) :
    (Instr.lookup 89 (.map (some mb)) (.int .i64 (x : Nat)) false).run Tryd.prog W = .ok (.int .i64 (q : Nat)) W := by
  have hkw : (Lit.int .i64 (x : Nat)).wf = true := WalkArith.wf_i64 (by omega)
  obtain ⟨c, h1, h2, _⟩ := h.lookup_int law3 und89 und3' (zero3 _) (keyOf_int_mk und3' hkw)
  rw [hN] at h2
  cases h2
  exact h1
set_option maxRecDepth 100000 in
set_option maxHeartbeats 8000000 in
theorem group_ok (n K : Nat) (v lv : Value) (zs : List Int) (ls : List (List Int)) (hs : Nat → Nat) (F : Nat → Nat → Nat) (mb c : Nat) (D : DataW Unit) (w : World) (ht : IsTab n zs) (hv : Sl w v zs) (hL : SlL w lv ls) (hK : ls.length = K) (hK6 : K ≤ 60)
    (hh : ∀ i, i < K → ∃ t, ls[i]?.getD [] = (hs i : Int) :: t ∧ hs i < n) (hmap : w.ownsMap Tryd.prog 3 (plainElem Tryd.prog 3) mb c D)
    (hF : ∀ i j, i < K → j < K → D.atKey (.int .i64 (tm n zs (hs i) (hs j) : Nat)) (.lit (.int .i64 0)) = .lit (.int .i64 (F i j : Nat))) (hF6 : ∀ i j, i < K → j < K → F i j ≤ 60) :
    Calls Tryd.prog 58 #[.agg #[.int .i64 n, v], lv, .map (some mb)] w fun x w' => ∃ r, x = .returned (.agg #[.int .i64 K, r]) ∧ Row w' w.heap.size r (mkT K F) ∧ Below w.heap.size w w' := by
  obtain ⟨i0, hi, hz0, hz1, hz2⟩ := info_parts info3b
  obtain ⟨va, vl, vc, rfl⟩ := hv.isSlice
  obtain ⟨la, lc, lb, lo, rfl, l1, l2, l3, l4, l5⟩ := hL
  obtain ⟨T, hT⟩ : ∃ T, T = mkT K F := ⟨_, rfl⟩
  have HTL := hide (show T.length = K * K by rw [hT]; exact mkT_len K F)
  have HTG := hide (fun a b (ha : a < K) (hb : b < K) => show T[a * K + b]?.getD 0 = (F a b : Int) by
    obtain ⟨e1, e2⟩ := dm' (a := a) hb
    rw [hT, mkT_get (place_lt ha hb), e1, e2])
  rw [← hT]
  clear hT
  rw [hK] at *
  have HL1 := hide l1
  have HL2 := hide l2
  have HH := hide hh
  have HF := hide hF
  have HF6 := hide hF6
  have HMP := hide hmap
  have HV := hide hv
  have hn := ht.le
  clear l1 l2 l5 hh hF hF6 hmap hK hv
  obtain ⟨w0, hw0⟩ : ∃ w0, w0 = ((w.alloc (.cells #[.int .i64 n, .slice va vl vc] 24)).alloc (.cells #[.int .i64 0, .slice none 0 0] 24)).alloc (.cells #[.int .i64 K, .slice none 0 0] 24) := ⟨_, rfl⟩
  have hB0 : Below w.heap.size w w0 := by rw [hw0]; exact ((balloc w _).alloc (by simp) _).alloc (by simp; omega) _
  have hG0 : BoxG w0 w.heap.size n (.slice va vl vc) := by rw [hw0]; exact ((blk0 (w := w) (T := 24) _ _).alloc _).alloc _
  have hR0 : Blk w0 (w.heap.size + 1) 24 [.int .i64 0, .slice none 0 0] := by
    have := (blk0 (w := w.alloc (.cells #[.int .i64 n, .slice va vl vc] 24)) (T := 24) (.int .i64 0) (.slice none 0 0)).alloc (.cells #[.int .i64 K, .slice none 0 0] 24)
    rw [World.size_alloc] at this
    rw [hw0]; exact this
  have hX0 : Blk w0 (w.heap.size + 1 + 1) 24 [.int .i64 K, .slice none 0 0] := by
    have := blk0 (w := (w.alloc (.cells #[.int .i64 n, .slice va vl vc] 24)).alloc (.cells #[.int .i64 0, .slice none 0 0] 24)) (T := 24) (.int .i64 K) (.slice none 0 0)
    rw [World.size_alloc, World.size_alloc] at this
    rw [hw0]; exact this
  go_enter Tryd.func58, Tryd.ntmps58
  go_wp2
  rw [← hw0]
  clear hw0
  go_loopw [17] (fun i wr => ∃ (a : Nat) (r : Value), a ≤ K ∧ i = .int .i64 a ∧ Row wr (w.heap.size + 1 + 1 + 1) r (T.take (a * K)) ∧ BoxG wr w.heap.size n (.slice va vl vc) ∧ Blk wr (w.heap.size + 1) 24 [.int .i64 0, .slice none 0 0] ∧ Blk wr (w.heap.size + 1 + 1) 24 [.int .i64 K, r] ∧ Below w.heap.size w wr) (fun i _ => K - (intOf i).toNat)
  case atStart => exact ⟨0, .slice none 0 0, by omega, rfl, by simpa using nil_row _ _, hG0, hR0, hX0, hB0⟩
  case round =>
    obtain ⟨a, r, ha, rfl, hrow, hG, hR, hX, hB⟩ := hrel
    clear hR0 hX0 hB0 hG0
    by_cases hlta : a < K
    · have hai : (a : Int) < (K : Int) := by omega
      obtain rfl := HL1.out (by omega)
      obtain ⟨ya, cya, hya⟩ := HL2.out a hlta
      obtain ⟨ta, hta, hna⟩ := HH.out a hlta
      have cya := below_cell hB cya
      rw [hta] at hya
      obtain ⟨y1, y2, yb, yo, rfl, hyr, hyb, hyc, hym⟩ := hya
      have hyl : ((hs a : Int) :: ta).length = ta.length + 1 := rfl
      have hcx := hyr.cell 0 (by rw [hyl]; omega)
      rw [show ((hs a : Int) :: ta)[0]?.getD 0 = (hs a : Int) from rfl, Nat.add_zero] at hcx
      obtain rfl := hyr.at_ (by rw [hyl]; omega)
      rw [hyl] at cya hyc
      have hta9 : ta.length + 1 ≤ 9223372036854775807 := by unfold maxLen at hym; omega
      have HCX := hide hcx
      clear hyr hym hta hcx hyl
      go_wp2
      go_loopw [23] (fun i wr => ∃ (b : Nat) (r : Value), b ≤ K ∧ i = .int .i64 b ∧ Row wr (w.heap.size + 1 + 1 + 1) r (T.take (a * K + b)) ∧ BoxG wr w.heap.size n (.slice va vl vc) ∧ Blk wr (w.heap.size + 1) 24 [.int .i64 0, .slice none 0 0] ∧ Blk wr (w.heap.size + 1 + 1) 24 [.int .i64 K, r] ∧ Below w.heap.size w wr) (fun i _ => K - (intOf i).toNat)
      case atStart => exact ⟨0, r, by omega, rfl, hrow, hG, hR, hX, hB⟩
      case round =>
        obtain ⟨b, r', hb, rfl, hrow', hG', hR', hX', hB'⟩ := hrel
        clear hrow hG hR hX hB
        by_cases hltb : b < K
        · have hbi : (b : Int) < (K : Int) := by omega
          obtain ⟨yb9, cyb, hyb9⟩ := HL2.out b hltb
          obtain ⟨tb, htb, hnb⟩ := HH.out b hltb
          have cyb := below_cell hB' cyb
          rw [htb] at hyb9
          obtain ⟨z1, z2, zb, zo, rfl, hzr, hzb, hzc, hzm⟩ := hyb9
          have hzl : ((hs b : Int) :: tb).length = tb.length + 1 := rfl
          have hcz := hzr.cell 0 (by rw [hzl]; omega)
          rw [show ((hs b : Int) :: tb)[0]?.getD 0 = (hs b : Int) from rfl, Nat.add_zero] at hcz
          obtain rfl := hzr.at_ (by rw [hzl]; omega)
          rw [hzl] at cyb hzc
          have htb9 : tb.length + 1 ≤ 9223372036854775807 := by unfold maxLen at hzm; omega
          have HCZ := hide hcz
          clear hcz
          have HVL := hide (HTG.out a b hlta hltb)
          have hpl := place_lt hlta hltb
          have hlen : (T.take (a * K + b)).length = a * K + b := by rw [List.length_take, HTL.out]; omega
          have HSN := hide (show T.take (a * K + (b + 1)) = T.take (a * K + b) ++ [(F a b : Int)] by
            rw [← Nat.add_assoc, take_snoc' (by rw [HTL.out]; exact hpl), HVL.out])
          have hKK : K * K ≤ 3600 := Nat.mul_le_mul hK6 hK6
          have HLL := hide (show (T.take (a * K + b)).length ≤ 3600 by rw [hlen]; omega)
          have hown : wr.ownsRow (w.heap.size + 1 + 1 + 1) 3 1 r' (T.take (a * K + b)).length ((T.take (a * K + b)).map (Value.int .i64)) := hrow'
          have hp : hs a * n + hs b < n * n := place_lt hna hnb
          have hcm : wr.cell? ⟨w.heap.size, 0, none⟩ = some (.int .i64 n) := hG'.two.1
          have hcv : wr.cell? ⟨w.heap.size, 1, none⟩ = some (.slice va vl vc) := hG'.two.2.1
          obtain ⟨xa, xc, xb, xo, hve, hxr, hxb, _, hxm⟩ := HV.out
          injection hve with e1 e2 e3
          subst e1 e2 e3
          have hzn : zs.length = n * n := ht.len
          have hcc := hxr.cell (hs a * n + hs b) (by rw [hzn]; exact hp)
          obtain rfl := hxr.at_ (by rw [hzn]; omega)
          obtain ⟨h9a, h9b⟩ := ht.rng _ hp
          have hce : zs[hs a * n + hs b]?.getD 0 = (tm n zs (hs a) (hs b) : Int) := by unfold tm; omega
          rw [hce] at hcc
          have hq6 := HF6.out a b hlta hltb
          have hd6 : tm n zs (hs a) (hs b) < 60 := by
            have := tm_lt ht hna hnb
            omega
          have HOL := hide (fun (W : World) (h : Below w.heap.size w W) => look_int (W := W) (HMP.out.kept (below_grown h none) (by simp)) hd6 (HF.out a b hlta hltb))
          generalize tm n zs (hs a) (hs b) = d9 at *
          generalize F a b = q9 at *
          have hpi : (hs a : Int) * (n : Int) + (hs b : Int) = ((hs a * n + hs b : Nat) : Int) := by rw [Int.natCast_add, Int.natCast_mul]
          have hpz : ((hs a * n + hs b : Nat) : Int) < (zs.length : Int) := by rw [hzn]; omega
          have hxm9 : zs.length ≤ 9223372036854775807 := by unfold maxLen at hxm; omega
          have hmu : IntKind.i64.wrap ((hs a : Int) * (n : Int)) = (hs a : Int) * (n : Int) := by
            have h1 : hs a * n ≤ 60 * 60 := Nat.mul_le_mul (Nat.le_of_lt (Nat.lt_of_lt_of_le hna hn)) hn
            rw [IntKind.wrap_i64, ← Int.natCast_mul]
            omega
          have hwp : IntKind.i64.wrap ((hs a * n + hs b : Nat) : Int) = ((hs a * n + hs b : Nat) : Int) := by
            have h1 : n * n ≤ 60 * 60 := Nat.mul_le_mul hn hn
            rw [IntKind.wrap_i64]
            omega
          clear hzn hp
          clear hlen hrow' HVL hxr hzr hzm hzl htb hce h9a h9b hxm
          generalize T.take (a * K + b) = xs at *
          generalize hs a * n + hs b = p9 at *
          have HS := hide (fun (W : World) (h : Below w.heap.size w W) (hG : BoxG W w.heap.size n (.slice (some ⟨xb, xo, none⟩) zs.length vc)) => show (Below w.heap.size w W ∧ W.cell? ⟨w.heap.size, 0, none⟩ = some (.int .i64 n) ∧ W.cell? ⟨w.heap.size, 1, none⟩ = some (.slice (some ⟨xb, xo, none⟩) zs.length vc) ∧ W.cell? ⟨yb, yo, none⟩ = some (.int .i64 (hs a : Int)) ∧ W.cell? ⟨zb, zo, none⟩ = some (.int .i64 (hs b : Int)) ∧ W.cell? ⟨xb, xo + p9, none⟩ = some (.int .i64 (d9 : Int)) ∧ Sem.run Tryd.prog (Instr.lookup 89 (.map (some mb)) (.int .i64 (d9 : Int)) false) W = .ok (.int .i64 (q9 : Int)) W) from ⟨h, hG.two.1, hG.two.2.1, below_cell h HCX.out, below_cell h HCZ.out, below_cell h hcc, HOL.out W h⟩)
          clear hcc HOL
          obtain ⟨rx, rcap, rfl⟩ := own_slice hown
          obtain ⟨x0, x1, fx0, fx1⟩ := hX'.two
          have hs2 := hX'.lt
          go_wp2_with fail
          have hS9 : (fun W => Below w.heap.size w W ∧ W.cell? ⟨w.heap.size, 0, none⟩ = some (.int .i64 n) ∧ W.cell? ⟨w.heap.size, 1, none⟩ = some (.slice (some ⟨xb, xo, none⟩) zs.length vc) ∧ W.cell? ⟨yb, yo, none⟩ = some (.int .i64 (hs a : Int)) ∧ W.cell? ⟨zb, zo, none⟩ = some (.int .i64 (hs b : Int)) ∧ W.cell? ⟨xb, xo + p9, none⟩ = some (.int .i64 (d9 : Int)) ∧ Sem.run Tryd.prog (Instr.lookup 89 (.map (some mb)) (.int .i64 (d9 : Int)) false) W = .ok (.int .i64 (q9 : Int)) W) wr.drew := HS.out _ (bdrew hB') hG'
          refine wp_region_held_drew (S := (fun W => Below w.heap.size w W ∧ W.cell? ⟨w.heap.size, 0, none⟩ = some (.int .i64 n) ∧ W.cell? ⟨w.heap.size, 1, none⟩ = some (.slice (some ⟨xb, xo, none⟩) zs.length vc) ∧ W.cell? ⟨yb, yo, none⟩ = some (.int .i64 (hs a : Int)) ∧ W.cell? ⟨zb, zo, none⟩ = some (.int .i64 (hs b : Int)) ∧ W.cell? ⟨xb, xo + p9, none⟩ = some (.int .i64 (d9 : Int)) ∧ Sem.run Tryd.prog (Instr.lookup 89 (.map (some mb)) (.int .i64 (d9 : Int)) false) W = .ok (.int .i64 (q9 : Int)) W)) (by kernel_rfl) hS9 (fun hHeld => ?_)
          refine wpAnyH_take (i := 0) (oi := ({ dst := some 27, op := Go.Op.fieldAddr 24 (Go.Operand.tmp 7) 1, type := 0, pos := _, after := #[], guard := none } : Oper)) (v := ?_) rfl (by kernel_rfl) (by kernel_rfl) (by kernel_rfl) (fun _ _ _ h => h) (Or.inl ⟨by rfl, ?_⟩) (by assumption) ?_
          rotate_left
          · (intro w hSw; (try dsimp only at hSw); go_simp; try with_reducible rfl)
          simp only [Act.put, List.setIfInBounds_toArray, List.set_cons_zero, List.set_cons_succ]
          refine wpAnyH_take (i := 2) (oi := ({ dst := some 29, op := Go.Op.move (Go.Operand.tmp 2), type := 89, pos := _, after := #[], guard := none } : Oper)) (v := ?_) rfl (by kernel_rfl) (by kernel_rfl) (by kernel_rfl) (fun _ _ _ h => h) (Or.inl ⟨by rfl, ?_⟩) (by assumption) ?_
          rotate_left
          · (intro w hSw; (try dsimp only at hSw); go_simp; try with_reducible rfl)
          simp only [Act.put, List.setIfInBounds_toArray, List.set_cons_zero, List.set_cons_succ]
          refine wpAnyH_take (i := 3) (oi := ({ dst := some 30, op := Go.Op.fieldAddr 24 (Go.Operand.tmp 3) 1, type := 0, pos := _, after := #[], guard := none } : Oper)) (v := ?_) rfl (by kernel_rfl) (by kernel_rfl) (by kernel_rfl) (fun _ _ _ h => h) (Or.inl ⟨by rfl, ?_⟩) (by assumption) ?_
          rotate_left
          · (intro w hSw; (try dsimp only at hSw); go_simp; try with_reducible rfl)
          simp only [Act.put, List.setIfInBounds_toArray, List.set_cons_zero, List.set_cons_succ]
          refine wpAnyH_take (i := 4) (oi := ({ dst := some 31, op := Go.Op.load 22 (Go.Operand.tmp 30), type := 22, pos := _, after := #[{ on := 3, ground := Go.Ground.data }], guard := none } : Oper)) (v := ?_) rfl (by kernel_rfl) (by kernel_rfl) (by kernel_rfl) (fun _ _ _ h => h) (Or.inl ⟨by rfl, ?_⟩) (by assumption) ?_
          rotate_left
          · (intro w hSw; (try dsimp only at hSw); go_simp; try with_reducible rfl)
          simp only [Act.put, List.setIfInBounds_toArray, List.set_cons_zero, List.set_cons_succ]
          refine wpAnyH_take (i := 5) (oi := ({ dst := some 32, op := Go.Op.move (Go.Operand.tmp 9), type := 22, pos := _, after := #[], guard := none } : Oper)) (v := ?_) rfl (by kernel_rfl) (by kernel_rfl) (by kernel_rfl) (fun _ _ _ h => h) (Or.inl ⟨by rfl, ?_⟩) (by assumption) ?_
          rotate_left
          · (intro w hSw; (try dsimp only at hSw); go_simp; try with_reducible rfl)
          simp only [Act.put, List.setIfInBounds_toArray, List.set_cons_zero, List.set_cons_succ]
          refine wpAnyH_take (i := 6) (oi := ({ dst := some 33, op := Go.Op.indexAddr 22 (Go.Operand.tmp 32) (Go.Operand.const (Go.Value.int Go.IntKind.i64 0)), type := 0, pos := _, after := #[{ on := 5, ground := Go.Ground.data }], guard := none } : Oper)) (v := ?_) rfl (by kernel_rfl) (by kernel_rfl) (by kernel_rfl) (fun _ _ _ h => h) (Or.inl ⟨by rfl, ?_⟩) (by assumption) ?_
          rotate_left
          · (intro w hSw; (try dsimp only at hSw); go_simp; try with_reducible rfl)
          simp only [Act.put, List.setIfInBounds_toArray, List.set_cons_zero, List.set_cons_succ]
          refine wpAnyH_take (i := 7) (oi := ({ dst := some 34, op := Go.Op.load 3 (Go.Operand.tmp 33), type := 3, pos := _, after := #[{ on := 6, ground := Go.Ground.data }], guard := none } : Oper)) (v := ?_) rfl (by kernel_rfl) (by kernel_rfl) (by kernel_rfl) (fun _ _ _ h => h) (Or.inl ⟨by rfl, ?_⟩) (by assumption) ?_
          rotate_left
          · (intro w hSw; (try dsimp only at hSw); go_simp; try with_reducible rfl)
          simp only [Act.put, List.setIfInBounds_toArray, List.set_cons_zero, List.set_cons_succ]
          refine wpAnyH_take (i := 8) (oi := ({ dst := some 35, op := Go.Op.fieldAddr 24 (Go.Operand.tmp 3) 0, type := 0, pos := _, after := #[], guard := none } : Oper)) (v := ?_) rfl (by kernel_rfl) (by kernel_rfl) (by kernel_rfl) (fun _ _ _ h => h) (Or.inl ⟨by rfl, ?_⟩) (by assumption) ?_
          rotate_left
          · (intro w hSw; (try dsimp only at hSw); go_simp; try with_reducible rfl)
          simp only [Act.put, List.setIfInBounds_toArray, List.set_cons_zero, List.set_cons_succ]
          refine wpAnyH_take (i := 9) (oi := ({ dst := some 36, op := Go.Op.load 3 (Go.Operand.tmp 35), type := 3, pos := _, after := #[{ on := 8, ground := Go.Ground.data }], guard := none } : Oper)) (v := ?_) rfl (by kernel_rfl) (by kernel_rfl) (by kernel_rfl) (fun _ _ _ h => h) (Or.inl ⟨by rfl, ?_⟩) (by assumption) ?_
          rotate_left
          · (intro w hSw; (try dsimp only at hSw); go_simp; try with_reducible rfl)
          simp only [Act.put, List.setIfInBounds_toArray, List.set_cons_zero, List.set_cons_succ]
          refine wpAnyH_take (i := 10) (oi := ({ dst := some 37, op := Go.Op.binOp Go.BinOp.mul 3 (Go.Operand.tmp 34) (Go.Operand.tmp 36) 3, type := 3, pos := _, after := #[{ on := 7, ground := Go.Ground.data }, { on := 9, ground := Go.Ground.data }], guard := none } : Oper)) (v := ?_) rfl (by kernel_rfl) (by kernel_rfl) (by kernel_rfl) (fun _ _ _ h => h) (Or.inl ⟨by rfl, ?_⟩) (by assumption) ?_
          rotate_left
          · (intro w hSw; (try dsimp only at hSw); go_simp; try with_reducible rfl)
          simp only [Act.put, List.setIfInBounds_toArray, List.set_cons_zero, List.set_cons_succ]
          refine wpAnyH_take (i := 11) (oi := ({ dst := some 38, op := Go.Op.move (Go.Operand.tmp 11), type := 22, pos := _, after := #[], guard := none } : Oper)) (v := ?_) rfl (by kernel_rfl) (by kernel_rfl) (by kernel_rfl) (fun _ _ _ h => h) (Or.inl ⟨by rfl, ?_⟩) (by assumption) ?_
          rotate_left
          · (intro w hSw; (try dsimp only at hSw); go_simp; try with_reducible rfl)
          simp only [Act.put, List.setIfInBounds_toArray, List.set_cons_zero, List.set_cons_succ]
          refine wpAnyH_take (i := 12) (oi := ({ dst := some 39, op := Go.Op.indexAddr 22 (Go.Operand.tmp 38) (Go.Operand.const (Go.Value.int Go.IntKind.i64 0)), type := 0, pos := _, after := #[{ on := 11, ground := Go.Ground.data }], guard := none } : Oper)) (v := ?_) rfl (by kernel_rfl) (by kernel_rfl) (by kernel_rfl) (fun _ _ _ h => h) (Or.inl ⟨by rfl, ?_⟩) (by assumption) ?_
          rotate_left
          · (intro w hSw; (try dsimp only at hSw); go_simp; try with_reducible rfl)
          simp only [Act.put, List.setIfInBounds_toArray, List.set_cons_zero, List.set_cons_succ]
          refine wpAnyH_take (i := 13) (oi := ({ dst := some 40, op := Go.Op.load 3 (Go.Operand.tmp 39), type := 3, pos := _, after := #[{ on := 12, ground := Go.Ground.data }], guard := none } : Oper)) (v := ?_) rfl (by kernel_rfl) (by kernel_rfl) (by kernel_rfl) (fun _ _ _ h => h) (Or.inl ⟨by rfl, ?_⟩) (by assumption) ?_
          rotate_left
          · (intro w hSw; (try dsimp only at hSw); go_simp; try with_reducible rfl)
          simp only [Act.put, List.setIfInBounds_toArray, List.set_cons_zero, List.set_cons_succ]
          refine wpAnyH_take (i := 14) (oi := ({ dst := some 41, op := Go.Op.binOp Go.BinOp.add 3 (Go.Operand.tmp 37) (Go.Operand.tmp 40) 3, type := 3, pos := _, after := #[{ on := 10, ground := Go.Ground.data }, { on := 13, ground := Go.Ground.data }], guard := none } : Oper)) (v := ?_) rfl (by kernel_rfl) (by kernel_rfl) (by kernel_rfl) (fun _ _ _ h => h) (Or.inl ⟨by rfl, ?_⟩) (by assumption) ?_
          rotate_left
          · (intro w hSw; (try dsimp only at hSw); go_simp; try with_reducible rfl)
          simp only [Act.put, List.setIfInBounds_toArray, List.set_cons_zero, List.set_cons_succ]
          refine wpAnyH_take (i := 15) (oi := ({ dst := some 42, op := Go.Op.indexAddr 22 (Go.Operand.tmp 31) (Go.Operand.tmp 41), type := 0, pos := _, after := #[{ on := 4, ground := Go.Ground.data }, { on := 14, ground := Go.Ground.data }], guard := none } : Oper)) (v := ?_) rfl (by kernel_rfl) (by kernel_rfl) (by kernel_rfl) (fun _ _ _ h => h) (Or.inl ⟨by rfl, ?_⟩) (by assumption) ?_
          rotate_left
          · (intro w hSw; (try dsimp only at hSw); go_simp; try with_reducible rfl)
          simp only [Act.put, List.setIfInBounds_toArray, List.set_cons_zero, List.set_cons_succ]
          refine wpAnyH_take (i := 16) (oi := ({ dst := some 43, op := Go.Op.load 3 (Go.Operand.tmp 42), type := 3, pos := _, after := #[{ on := 15, ground := Go.Ground.data }], guard := none } : Oper)) (v := ?_) rfl (by kernel_rfl) (by kernel_rfl) (by kernel_rfl) (fun _ _ _ h => h) (Or.inl ⟨by rfl, ?_⟩) (by assumption) ?_
          rotate_left
          · (intro w hSw; (try dsimp only at hSw); go_simp; try with_reducible rfl)
          simp only [Act.put, List.setIfInBounds_toArray, List.set_cons_zero, List.set_cons_succ]
          refine wpAnyH_take (i := 17) (oi := ({ dst := some 44, op := Go.Op.lookup 89 (Go.Operand.tmp 29) (Go.Operand.tmp 43) false, type := 3, pos := _, after := #[{ on := 2, ground := Go.Ground.data }, { on := 16, ground := Go.Ground.data }], guard := none } : Oper)) (v := ?_) rfl (by kernel_rfl) (by kernel_rfl) (by kernel_rfl) (fun _ _ _ h => h) (Or.inl ⟨by rfl, ?_⟩) (by assumption) ?_
          rotate_left
          · (intro w hSw; (try dsimp only at hSw); go_simp; try with_reducible rfl)
          simp only [Act.put, List.setIfInBounds_toArray, List.set_cons_zero, List.set_cons_succ]
          refine wpAnyH_ready (rs := [1, 18]) (by kernel_rfl) (by simp) (AllReadyH.cons (o := ({ dst := some 28, op := Go.Op.load 22 (Go.Operand.tmp 27), type := 22, pos := _, after := #[{ on := 0, ground := Go.Ground.data }], guard := none } : Oper)) rfl (fun KK hK => ?_) (AllReadyH.cons (o := ({ dst := some 45, op := Go.Op.buildSlice 22 1 #[(0, Go.Operand.tmp 44)], type := 22, pos := _, after := #[{ on := 17, ground := Go.Ground.data }], guard := none } : Oper)) rfl (fun KK hK => ?_) AllReadyH.nil))
          · go_simp
            refine hK.out _ _ hHeld (fun hHeld => ?_)
            clear hK
            try simp only [Act.put, List.setIfInBounds_toArray, List.set_cons_zero, List.set_cons_succ]
            refine wpAnyH_ready (rs := [18]) (by kernel_rfl) (by simp) (AllReadyH.cons (o := ({ dst := some 45, op := Go.Op.buildSlice 22 1 #[(0, Go.Operand.tmp 44)], type := 22, pos := _, after := #[{ on := 17, ground := Go.Ground.data }], guard := none } : Oper)) rfl (fun KK hK => ?_) AllReadyH.nil)
            go_simp
            refine hK.out _ _ (HS.out _ ((bdrew hB').alloc (bdrew hB').size _) (Blk.alloc (show Blk wr.drew w.heap.size 24 [.int .i64 n, .slice (some ⟨xb, xo, none⟩) zs.length vc] from hG') _)) (fun hHeld => ?_)
            clear hK
            try simp only [Act.put, List.setIfInBounds_toArray, List.set_cons_zero, List.set_cons_succ]
            refine wpAnyH_ready (rs := [19]) (by kernel_rfl) (by simp) (AllReadyH.cons (o := ({ dst := some 46, op := Go.Op.call { callee := Go.Callee.builtin Go.Builtin.append, args := #[Go.Operand.tmp 28, Go.Operand.tmp 45], argTypes := #[22, 22] }, type := 22, pos := _, after := #[{ on := 1, ground := Go.Ground.data }, { on := 18, ground := Go.Ground.data }], guard := none } : Oper)) rfl (fun KK hK => ?_) AllReadyH.nil)
            refine step_append_lies _ rfl _ _ 22 rfl (w.heap.size + 1 + 1 + 1) 3 i0 (.int .i64 0) 1 8 under22b hi hz0 hz1 hz2 rfl (by decide) _ _ _ rfl (World.ownsRow.alloc hown _) ⟨wr.heap.size, 0, none⟩ 1 1 [.int .i64 q9] rfl rfl (cell_one_new _ _ _) (by simp [Value.oneCell']) (by decide) (by unfold maxLen; have := HLL.out; omega) (by have := HLL.out; omega) (by simp; omega) _ rfl ?_
            intro g9 cap9 w9 hown9 hgrow hloc _
            have hk9 : ∀ k, k < w.heap.size + 1 + 1 + 1 → w9.heap[k]? = wr.heap[k]? := fun k hk => (hgrow.block k (by simp; omega) (fun e9 => by have := owns_ge hown k e9.symm; omega)).trans (Below.heap_alloc _ _ k (show k < wr.heap.size by omega))
            have hX9 : Blk w9 (w.heap.size + 1 + 1) 24 [.int .i64 K, .slice rx xs.length rcap] := hX'.of_eq (hk9 _ (by omega))
            have hcw := hX9.two.2.1
            have hfw := hX9.two.2.2.2
            have hG9 : BoxG w9 w.heap.size n (.slice (some ⟨xb, xo, none⟩) zs.length vc) := hG'.of_eq (hk9 _ (by omega))
            have hB9 : Below w.heap.size w w9 := ((bdrew hB').alloc (bdrew hB').size _).grown hgrow (by have := hB'.size; simp; omega) (fun t e9 => by have := owns_ge hown t e9; omega)
            have hG3 := hG9.other (p := ⟨w.heap.size + 1 + 1, 1, none⟩) (by simp; omega) (.slice (some ⟨g9, 0, none⟩) (xs.length + 1) cap9)
            have hB3 := hB9.setCell (p := ⟨w.heap.size + 1 + 1, 1, none⟩) (by simp; omega) (.slice (some ⟨g9, 0, none⟩) (xs.length + 1) cap9)
            refine hK.out _ _ (HS.out _ hB9 hG9) (fun hHeld => ?_)
            clear hK
            try simp only [Act.put, List.setIfInBounds_toArray, List.set_cons_zero, List.set_cons_succ]
            refine wpAnyH_take (i := 20) (oi := ({ dst := some 47, op := Go.Op.fieldAddr 24 (Go.Operand.tmp 7) 1, type := 0, pos := _, after := #[{ on := 0, ground := Go.Ground.phase }, { on := 1, ground := Go.Ground.phase }, { on := 2, ground := Go.Ground.phase }, { on := 3, ground := Go.Ground.phase }, { on := 4, ground := Go.Ground.phase }, { on := 5, ground := Go.Ground.phase }, { on := 6, ground := Go.Ground.phase }, { on := 7, ground := Go.Ground.phase }, { on := 8, ground := Go.Ground.phase }, { on := 9, ground := Go.Ground.phase }, { on := 10, ground := Go.Ground.phase }, { on := 11, ground := Go.Ground.phase }, { on := 12, ground := Go.Ground.phase }, { on := 13, ground := Go.Ground.phase }, { on := 14, ground := Go.Ground.phase }, { on := 15, ground := Go.Ground.phase }, { on := 16, ground := Go.Ground.phase }, { on := 17, ground := Go.Ground.phase }, { on := 18, ground := Go.Ground.phase }, { on := 19, ground := Go.Ground.phase }], guard := none } : Oper)) (v := ?_) rfl (by kernel_rfl) (by kernel_rfl) (by kernel_rfl) (fun _ _ _ h => h) (Or.inl ⟨by rfl, ?_⟩) (by assumption) ?_
            rotate_left
            · (intro w hSw; (try dsimp only at hSw); go_simp; try with_reducible rfl)
            simp only [Act.put, List.setIfInBounds_toArray, List.set_cons_zero, List.set_cons_succ]
            refine wpAnyH_ready (rs := [21]) (by kernel_rfl) (by simp) (AllReadyH.cons (o := ({ dst := none, op := Go.Op.store 22 (Go.Operand.tmp 47) (Go.Operand.tmp 46), type := 0, pos := _, after := #[{ on := 20, ground := Go.Ground.data }, { on := 19, ground := Go.Ground.data }, { on := 19, ground := Go.Ground.chain }, { on := 0, ground := Go.Ground.phase }, { on := 1, ground := Go.Ground.phase }, { on := 2, ground := Go.Ground.phase }, { on := 3, ground := Go.Ground.phase }, { on := 4, ground := Go.Ground.phase }, { on := 5, ground := Go.Ground.phase }, { on := 6, ground := Go.Ground.phase }, { on := 7, ground := Go.Ground.phase }, { on := 8, ground := Go.Ground.phase }, { on := 9, ground := Go.Ground.phase }, { on := 10, ground := Go.Ground.phase }, { on := 11, ground := Go.Ground.phase }, { on := 12, ground := Go.Ground.phase }, { on := 13, ground := Go.Ground.phase }, { on := 14, ground := Go.Ground.phase }, { on := 15, ground := Go.Ground.phase }, { on := 16, ground := Go.Ground.phase }, { on := 17, ground := Go.Ground.phase }, { on := 18, ground := Go.Ground.phase }, { on := 19, ground := Go.Ground.phase }], guard := none } : Oper)) rfl (fun KK hK => ?_) AllReadyH.nil)
            go_simp
            refine hK.out _ _ (HS.out _ hB3 hG3) (fun hHeld => ?_)
            clear hK
            try simp only [Act.put, List.setIfInBounds_toArray, List.set_cons_zero, List.set_cons_succ]
            refine wpAnyH_done (by kernel_rfl) ?_ _
            have hX3 := hX9.set 1 (.slice (some ⟨g9, 0, none⟩) (xs.length + 1) cap9)
            have hR9 : Blk w9 (w.heap.size + 1) 24 [.int .i64 0, .slice none 0 0] := hR'.of_eq (hk9 _ (by omega))
            have hR3 := hR9.other (p := ⟨w.heap.size + 1 + 1, 1, none⟩) (by simp) (.slice (some ⟨g9, 0, none⟩) (xs.length + 1) cap9)
            have hrow9 : Row w9 (w.heap.size + 1 + 1 + 1) (.slice (some ⟨g9, 0, none⟩) (xs.length + 1) cap9) (T.take (a * K + (b + 1))) := by
              unfold Row
              rw [HSN.out]
              simpa using hown9
            have hrow3 := row_keep (W' := w9.setCell ⟨w.heap.size + 1 + 1, 1, none⟩ (.slice (some ⟨g9, 0, none⟩) (xs.length + 1) cap9)) hrow9 (fun g h1 _ => Below.heap_setCell _ _ _ g (by simp; omega))
            clear hown9 hgrow hown hrow9 hk9 hloc
            go_wp2
            go_roundw
            case rel => exact ⟨b + 1, _, by omega, by go_num, hrow3, hG3, hR3, hX3, hB3⟩
            case measure => simp [intOf]; omega
          · go_simp
            refine hK.out _ _ (HS.out _ ((bdrew hB').alloc (bdrew hB').size _) (Blk.alloc (show Blk wr.drew w.heap.size 24 [.int .i64 n, .slice (some ⟨xb, xo, none⟩) zs.length vc] from hG') _)) (fun hHeld => ?_)
            clear hK
            try simp only [Act.put, List.setIfInBounds_toArray, List.set_cons_zero, List.set_cons_succ]
            refine wpAnyH_ready (rs := [1]) (by kernel_rfl) (by simp) (AllReadyH.cons (o := ({ dst := some 28, op := Go.Op.load 22 (Go.Operand.tmp 27), type := 22, pos := _, after := #[{ on := 0, ground := Go.Ground.data }], guard := none } : Oper)) rfl (fun KK hK => ?_) AllReadyH.nil)
            have x1a := (Blk.alloc (show Blk wr.drew (w.heap.size + 1 + 1) 24 [.int .i64 K, .slice rx xs.length rcap] from hX') (.cells #[.int .i64 q9] 3)).two.2.1
            go_simp
            refine hK.out _ _ hHeld (fun hHeld => ?_)
            clear hK
            try simp only [Act.put, List.setIfInBounds_toArray, List.set_cons_zero, List.set_cons_succ]
            refine wpAnyH_ready (rs := [19]) (by kernel_rfl) (by simp) (AllReadyH.cons (o := ({ dst := some 46, op := Go.Op.call { callee := Go.Callee.builtin Go.Builtin.append, args := #[Go.Operand.tmp 28, Go.Operand.tmp 45], argTypes := #[22, 22] }, type := 22, pos := _, after := #[{ on := 1, ground := Go.Ground.data }, { on := 18, ground := Go.Ground.data }], guard := none } : Oper)) rfl (fun KK hK => ?_) AllReadyH.nil)
            refine step_append_lies _ rfl _ _ 22 rfl (w.heap.size + 1 + 1 + 1) 3 i0 (.int .i64 0) 1 8 under22b hi hz0 hz1 hz2 rfl (by decide) _ _ _ rfl (World.ownsRow.alloc hown _) ⟨wr.heap.size, 0, none⟩ 1 1 [.int .i64 q9] rfl rfl (cell_one_new _ _ _) (by simp [Value.oneCell']) (by decide) (by unfold maxLen; have := HLL.out; omega) (by have := HLL.out; omega) (by simp; omega) _ rfl ?_
            intro g9 cap9 w9 hown9 hgrow hloc _
            have hk9 : ∀ k, k < w.heap.size + 1 + 1 + 1 → w9.heap[k]? = wr.heap[k]? := fun k hk => (hgrow.block k (by simp; omega) (fun e9 => by have := owns_ge hown k e9.symm; omega)).trans (Below.heap_alloc _ _ k (show k < wr.heap.size by omega))
            have hX9 : Blk w9 (w.heap.size + 1 + 1) 24 [.int .i64 K, .slice rx xs.length rcap] := hX'.of_eq (hk9 _ (by omega))
            have hcw := hX9.two.2.1
            have hfw := hX9.two.2.2.2
            have hG9 : BoxG w9 w.heap.size n (.slice (some ⟨xb, xo, none⟩) zs.length vc) := hG'.of_eq (hk9 _ (by omega))
            have hB9 : Below w.heap.size w w9 := ((bdrew hB').alloc (bdrew hB').size _).grown hgrow (by have := hB'.size; simp; omega) (fun t e9 => by have := owns_ge hown t e9; omega)
            have hG3 := hG9.other (p := ⟨w.heap.size + 1 + 1, 1, none⟩) (by simp; omega) (.slice (some ⟨g9, 0, none⟩) (xs.length + 1) cap9)
            have hB3 := hB9.setCell (p := ⟨w.heap.size + 1 + 1, 1, none⟩) (by simp; omega) (.slice (some ⟨g9, 0, none⟩) (xs.length + 1) cap9)
            refine hK.out _ _ (HS.out _ hB9 hG9) (fun hHeld => ?_)
            clear hK
            try simp only [Act.put, List.setIfInBounds_toArray, List.set_cons_zero, List.set_cons_succ]
            refine wpAnyH_take (i := 20) (oi := ({ dst := some 47, op := Go.Op.fieldAddr 24 (Go.Operand.tmp 7) 1, type := 0, pos := _, after := #[{ on := 0, ground := Go.Ground.phase }, { on := 1, ground := Go.Ground.phase }, { on := 2, ground := Go.Ground.phase }, { on := 3, ground := Go.Ground.phase }, { on := 4, ground := Go.Ground.phase }, { on := 5, ground := Go.Ground.phase }, { on := 6, ground := Go.Ground.phase }, { on := 7, ground := Go.Ground.phase }, { on := 8, ground := Go.Ground.phase }, { on := 9, ground := Go.Ground.phase }, { on := 10, ground := Go.Ground.phase }, { on := 11, ground := Go.Ground.phase }, { on := 12, ground := Go.Ground.phase }, { on := 13, ground := Go.Ground.phase }, { on := 14, ground := Go.Ground.phase }, { on := 15, ground := Go.Ground.phase }, { on := 16, ground := Go.Ground.phase }, { on := 17, ground := Go.Ground.phase }, { on := 18, ground := Go.Ground.phase }, { on := 19, ground := Go.Ground.phase }], guard := none } : Oper)) (v := ?_) rfl (by kernel_rfl) (by kernel_rfl) (by kernel_rfl) (fun _ _ _ h => h) (Or.inl ⟨by rfl, ?_⟩) (by assumption) ?_
            rotate_left
            · (intro w hSw; (try dsimp only at hSw); go_simp; try with_reducible rfl)
            simp only [Act.put, List.setIfInBounds_toArray, List.set_cons_zero, List.set_cons_succ]
            refine wpAnyH_ready (rs := [21]) (by kernel_rfl) (by simp) (AllReadyH.cons (o := ({ dst := none, op := Go.Op.store 22 (Go.Operand.tmp 47) (Go.Operand.tmp 46), type := 0, pos := _, after := #[{ on := 20, ground := Go.Ground.data }, { on := 19, ground := Go.Ground.data }, { on := 19, ground := Go.Ground.chain }, { on := 0, ground := Go.Ground.phase }, { on := 1, ground := Go.Ground.phase }, { on := 2, ground := Go.Ground.phase }, { on := 3, ground := Go.Ground.phase }, { on := 4, ground := Go.Ground.phase }, { on := 5, ground := Go.Ground.phase }, { on := 6, ground := Go.Ground.phase }, { on := 7, ground := Go.Ground.phase }, { on := 8, ground := Go.Ground.phase }, { on := 9, ground := Go.Ground.phase }, { on := 10, ground := Go.Ground.phase }, { on := 11, ground := Go.Ground.phase }, { on := 12, ground := Go.Ground.phase }, { on := 13, ground := Go.Ground.phase }, { on := 14, ground := Go.Ground.phase }, { on := 15, ground := Go.Ground.phase }, { on := 16, ground := Go.Ground.phase }, { on := 17, ground := Go.Ground.phase }, { on := 18, ground := Go.Ground.phase }, { on := 19, ground := Go.Ground.phase }], guard := none } : Oper)) rfl (fun KK hK => ?_) AllReadyH.nil)
            go_simp
            refine hK.out _ _ (HS.out _ hB3 hG3) (fun hHeld => ?_)
            clear hK
            try simp only [Act.put, List.setIfInBounds_toArray, List.set_cons_zero, List.set_cons_succ]
            refine wpAnyH_done (by kernel_rfl) ?_ _
            have hX3 := hX9.set 1 (.slice (some ⟨g9, 0, none⟩) (xs.length + 1) cap9)
            have hR9 : Blk w9 (w.heap.size + 1) 24 [.int .i64 0, .slice none 0 0] := hR'.of_eq (hk9 _ (by omega))
            have hR3 := hR9.other (p := ⟨w.heap.size + 1 + 1, 1, none⟩) (by simp) (.slice (some ⟨g9, 0, none⟩) (xs.length + 1) cap9)
            have hrow9 : Row w9 (w.heap.size + 1 + 1 + 1) (.slice (some ⟨g9, 0, none⟩) (xs.length + 1) cap9) (T.take (a * K + (b + 1))) := by
              unfold Row
              rw [HSN.out]
              simpa using hown9
            have hrow3 := row_keep (W' := w9.setCell ⟨w.heap.size + 1 + 1, 1, none⟩ (.slice (some ⟨g9, 0, none⟩) (xs.length + 1) cap9)) hrow9 (fun g h1 _ => Below.heap_setCell _ _ _ g (by simp; omega))
            clear hown9 hgrow hown hrow9 hk9 hloc
            go_wp2
            go_roundw
            case rel => exact ⟨b + 1, _, by omega, by go_num, hrow3, hG3, hR3, hX3, hB3⟩
            case measure => simp [intOf]; omega
        · have hbi : ¬ (b : Int) < (K : Int) := by omega
          have hbe : b = K := by omega
          have hrow' : Row wr (w.heap.size + 1 + 1 + 1) r' (T.take ((a + 1) * K)) := by rw [show (a + 1) * K = a * K + b by rw [Nat.succ_mul, hbe]]; exact hrow'
          clear hbe
          go_wp2
          go_roundw
          case rel => exact ⟨a + 1, r', by omega, by go_num, hrow', hG', hR', hX', hB'⟩
          case measure => simp [intOf]; omega
    · have hai : ¬ (a : Int) < (K : Int) := by omega
      have hae : a = K := by omega
      have hrow : Row wr (w.heap.size + 1 + 1 + 1) r T := by
        have : T.take (a * K) = T := List.take_of_length_le (by rw [HTL.out, hae]; exact Nat.le_refl _)
        rw [← this]; exact hrow
      clear hae
      obtain ⟨rx, rcap, rfl⟩ := own_slice hrow
      obtain ⟨x0, x1, _, _⟩ := hX.two
      obtain ⟨y0, y1, fy0, fy1⟩ := hR.two
      have hR6 := (hR.set 0 (.int .i64 K)).set 1 (.slice rx T.length rcap)
      have hB6 := (hB.setCell (p := ⟨w.heap.size + 1, 0, none⟩) (by simp) (.int .i64 K)).setCell (p := ⟨w.heap.size + 1, 1, none⟩) (by simp) (.slice rx T.length rcap)
      have hrow6 := row_keep (W' := (wr.setCell ⟨w.heap.size + 1, 0, none⟩ (.int .i64 K)).setCell ⟨w.heap.size + 1, 1, none⟩ (.slice rx T.length rcap)) hrow (fun g h1 _ => (Below.heap_setCell _ _ _ g (by simp; omega)).trans (Below.heap_setCell _ _ _ g (by simp; omega)))
      go_wp2
      obtain ⟨z0, z1, _, _⟩ := hR6.two
      exact bodyPost_ret (v := .agg #[.int .i64 K, .slice rx T.length rcap]) (by simp [results, Tryd.results58, go_sem, z0, z1]) rfl ⟨_, rfl, owns_mono hrow6 (by omega), hB6⟩
end Go.Proofs.YtobnfbnholbfoaaDoor

namespace Go.Proofs.YtobnfbnholbfoaaDoor
open Go Go.RowKit Go.Maps

set_option maxRecDepth 100000 in
set_option maxHeartbeats 4000000 in
theorem is_bad (N : Int) (v u0 : Value) (zs l0 : List Int) (w : World) (hv : Sl w v zs) (hu : Sl w u0 l0) (hc : (sfault N zs l0).1 ≠ 0) :
    Calls Tryd.prog 87 #[.agg #[.int .i64 N, v], u0] w fun x w' => x = .returned (.tuple #[.bool false, .agg #[.int .i64 (sfault N zs l0).1, .int .i64 (sfault N zs l0).2]]) ∧ Below w.heap.size w w' := by
  obtain ⟨w0, BG⟩ := Beg.new w N v
  have hv0 := hv.below BG.bel
  obtain ⟨c0, c1, _, _⟩ := BG.box.two
  have hck := oset_bad N v u0 zs l0 w0 hv0 (hu.below BG.bel) hc
  obtain ⟨c, i, hci⟩ : ∃ c i, sfault N zs l0 = (c, i) := ⟨_, _, rfl⟩
  rw [hci] at hck hc ⊢
  simp only at hc hck
  have HCK := hide hck
  clear hck hci
  have hcb : (c != 0) = true := by simpa using hc
  rw [BG.eq] at c0 c1
  go_enter Tryd.func87, Tryd.ntmps87
  go_wp2_with fail
  rw [← BG.eq]
  refine HCK.out.mono ?_
  rintro x w1 ⟨rfl, hb1⟩
  clear c0 c1
  obtain ⟨w2, hw2⟩ : ∃ w2, w2 = (w1.alloc (.cells #[.int .i64 0, .slice none 0 0, .int .i64 0, .slice none 0 0] 63)).alloc (.cells #[.int .i64 c, .int .i64 i] 27) := ⟨_, rfl⟩
  have hB1 : Below w0.heap.size w0 w2 := by rw [hw2]; exact bcat2 hb1 ((balloc w1 _).alloc (by simp) _)
  have hF1 : Blk w2 (w1.heap.size + 1) 27 [.int .i64 c, .int .i64 i] := by
    rw [hw2]
    have := blk0 (w := w1.alloc (.cells #[.int .i64 0, .slice none 0 0, .int .i64 0, .slice none 0 0] 63)) (T := 27) (.int .i64 c) (.int .i64 i)
    rwa [World.size_alloc] at this
  have hR1 := blk_below BG.res hB1
  have hBw := bcat BG.bel hB1 BG.bel.size
  obtain ⟨y0, y1, fy0, fy1⟩ := hR1.two
  obtain ⟨t0, t1, _, _⟩ := hF1.two
  rw [hw2] at t0 t1
  go_wp2_with fail
  rw [← hw2]
  rw [← hw2] at t0 t1
  clear hw2
  go_region
  all_goals (
    go_wp2
    obtain ⟨hR6, hB6⟩ := put2 hR1 hBw (by omega) c i
    have hB7 := bdrew hB6
    have hR7 : Blk ((w2.setCell ⟨w.heap.size + 1, 0, none⟩ (.int .i64 c)).setCell ⟨w.heap.size + 1, 1, none⟩ (.int .i64 i)).drew (w.heap.size + 1) 27 [.int .i64 c, .int .i64 i] := hR6
    generalize ((w2.setCell ⟨w.heap.size + 1, 0, none⟩ (.int .i64 c)).setCell ⟨w.heap.size + 1, 1, none⟩ (.int .i64 i)).drew = W at hR7 hB7 ⊢
    obtain ⟨z0, z1, _, _⟩ := hR7.two
    exact bodyPost_ret (v := .tuple #[.bool false, .agg #[.int .i64 c, .int .i64 i]]) (by simp [results, Tryd.results87, go_sem, z0, z1]) rfl ⟨rfl, hB7⟩)
set_option maxRecDepth 100000 in
set_option maxHeartbeats 4000000 in
theorem is_good (n e : Nat) (v u0 : Value) (zs l0 : List Int) (w : World) (hv : Sl w v zs) (hg : IsGrp n zs e) (hu : Sl w u0 l0) (hT : Tab w) (hc : lfault n l0 = (0, 0)) :
    Calls Tryd.prog 87 #[.agg #[.int .i64 n, v], u0] w fun x w' => x = .returned (.tuple #[.bool (subT n zs e (pset l0)), .agg #[.int .i64 0, .int .i64 0]]) ∧ Below w.heap.size w w' := by
  obtain ⟨va, vl, vc, rfl⟩ := hv.isSlice
  obtain ⟨p, hp⟩ := mkd_test n zs e (pset l0)
  have heq := subT_made hp hg.elt (fun a b ha hb => tm_lt hg.tab ha hb)
  obtain ⟨w0, BG⟩ := Beg.new w n (.slice va vl vc)
  have hv0 := hv.below BG.bel
  obtain ⟨c0, c1, _, _⟩ := BG.box.two
  have HCK := hide (oset_good n e (.slice va vl vc) u0 zs l0 w0 hv0 hg (hu.below BG.bel) hc)
  have HZ0 := hide (show w.heap.size + 2 ≤ w0.heap.size by rw [BG.eq]; simp)
  rw [BG.eq] at c0 c1
  go_enter Tryd.func87, Tryd.ntmps87
  go_wp2_with fail
  rw [← BG.eq]
  refine HCK.out.mono ?_
  rintro x w1 ⟨iv9, rfl, hSI, hb1⟩
  obtain ⟨ia, il, ic, rfl⟩ := hSI.sl.isSlice
  clear c0 c1 HCK
  obtain ⟨w2, hw2⟩ : ∃ w2, w2 = (w1.alloc (.cells #[.int .i64 n, (.slice va vl vc), .int .i64 e, (.slice ia il ic)] 63)).alloc (.cells #[.int .i64 0, .int .i64 0] 27) := ⟨_, rfl⟩
  have hb2 : Below w1.heap.size w1 w2 := by rw [hw2]; exact (balloc w1 _).alloc (by simp) _
  have hB1 : Below w0.heap.size w0 w2 := bcat2 hb1 hb2
  have hF1 : Blk w2 (w1.heap.size + 1) 27 [.int .i64 0, .int .i64 0] := by
    rw [hw2]
    have := blk0 (w := w1.alloc (.cells #[.int .i64 n, (.slice va vl vc), .int .i64 e, (.slice ia il ic)] 63)) (T := 27) (.int .i64 0) (.int .i64 0)
    rwa [World.size_alloc] at this
  have hH2 : Blk w2 w1.heap.size 63 [.int .i64 n, (.slice va vl vc), .int .i64 e, (.slice ia il ic)] := by
    rw [hw2]; exact (blk4 _ _ _ _).alloc _
  have hBw2 := bcat BG.bel hB1 BG.bel.size
  have hR2 := blk_below BG.res hB1
  have hT2 := hT.below hBw2
  have hGA2 : GA w2 n (.slice va vl vc) e (.slice ia il ic) zs := ⟨hg, hv.below hBw2, (hSI.below hb2).sl⟩
  obtain ⟨t0, t1, _, _⟩ := hF1.two
  obtain ⟨_, h0, h1, h2, h3, _⟩ := Four.mk' hH2
  have hx2 := blk_below BG.box hB1
  have HZ1 := hide (Nat.le_trans HZ0.out hb1.size)
  have HZ2 := hide hb2.size
  rw [hw2] at t0 t1 h0 h1 h2 h3
  go_wp2_with fail
  rw [← hw2]
  clear hw2 t0 t1 h0 h1 h2 h3
  refine (made_ok n _ _ zs e (pset l0) p w2 hGA2 hT2 hp).mono ?_
  rintro x w3 ⟨rfl, hb3⟩
  have hB5 := bcat hBw2 hb3 hBw2.size
  obtain ⟨_, y0, y1, fy0, fy1, s0, s1⟩ := Two.mk' (blk_below hR2 hb3)
  have HE := hide heq
  clear heq
  by_cases hb : bs p n = bs (pset l0) n
  · rw [hb] at HE ⊢
    go_wp2
    exact bodyPost_ret (v := .tuple #[.bool true, .agg #[.int .i64 0, .int .i64 0]]) (by simp [results, Tryd.results87, go_sem, y0, y1]) rfl ⟨by rw [HE.out]; simp, hB5⟩
  · have hbi : ¬ ((bs p n : Nat) : Int) = ((bs (pset l0) n : Nat) : Int) := by omega
    rw [decide_eq_false hb] at HE
    go_wp2
    exact bodyPost_ret (v := .tuple #[.bool false, .agg #[.int .i64 0, .int .i64 0]]) (by simp [results, Tryd.results87, go_sem, y0, y1, hbi]) rfl ⟨by rw [HE.out], hB5⟩
set_option maxRecDepth 100000 in
set_option maxHeartbeats 1000000 in
theorem cprd_ok (n : Nat) (v : Value) (zs : List Int) (a b : Nat) (w : World) (ht : IsTab n zs) (hv : Sl w v zs) (ha : a < n) (hb : b < n) :
    Calls Tryd.prog 88 #[.agg #[.int .i64 n, v], .int .i64 a, .int .i64 b] w fun e w' => e = .returned (.int .i64 (tm n zs a b)) ∧ Below w.heap.size w w' := by
  have hlt := place_lt ha hb
  have hle := ht.le
  have hlen := ht.len
  have hn2 : n * n ≤ 60 * 60 := Nat.mul_le_mul hle hle
  have hg := tm_get ht ha hb
  have han : a * n ≤ 60 * 60 := Nat.mul_le_mul (by omega) (by omega)
  have hB0 : Below w.heap.size w (w.alloc (.cells #[.int .i64 n, v] 24)) := balloc w _
  have N0 : Blk (w.alloc (.cells #[.int .i64 n, v] 24)) w.heap.size 24 [.int .i64 n, v] := blk0 _ _
  obtain ⟨x, cap, pb, po, rfl, hr, hp, hq3, hq4⟩ := hv.below hB0
  obtain rfl := hr.at_ (by omega)
  have hc := hr.cell (a * n + b) (by omega)
  rw [hg] at hc
  obtain ⟨c0, c1, _, _⟩ := N0.two
  have hi : ((a * n + b : Nat) : Int) < (zs.length : Int) := by omega
  have hm : ((a : Int) * (n : Int)) = ((a * n : Nat) : Int) := by rw [Int.natCast_mul]
  have HLEN := hide hlen
  have HB0 := hide hB0
  generalize hk : a * n = k at *
  generalize tm n zs a b = r at *
  clear hlen hB0 hg hn2 hk
  go_enter Tryd.func88, Tryd.ntmps88
  go_wp2
  go_ret
  exact ⟨rfl, HB0.out⟩
set_option maxRecDepth 100000 in
set_option maxHeartbeats 4000000 in
theorem rgt_ok (n : Nat) (v lv : Value) (zs : List Int) (xs : List Nat) (a : Nat) (w : World) (ht : IsTab n zs) (hv : Sl w v zs) (hs : Sl w lv (li xs)) (hx : ∀ x, x ∈ xs → x < n) (ha : a < n) :
    Calls Tryd.prog 79 #[.agg #[.int .i64 n, v], lv, .int .i64 a] w fun e w' => e = .returned (.int .u64 (bs (rgtq n zs xs a) n)) ∧ Below w.heap.size w w' := by
  have hn := ht.le
  have hB0 : Below w.heap.size w (w.alloc (.cells #[.int .i64 n, v] 24)) := balloc w _
  have hX0 : BoxG (w.alloc (.cells #[.int .i64 n, v] 24)) w.heap.size n v := blk0 _ _
  have hv0 := hv.below hB0
  obtain ⟨ra, rc, pb, po, rfl, hr, hp, hq3, hq4⟩ := hs.below hB0
  have hml : xs.length ≤ 9223372036854775807 := by rw [li_len] at hq3; unfold maxLen at hq4; omega
  rw [li_len] at hq3 ⊢
  have HM := hide hx
  have HR := hide hr
  have HLL := hide (li_len xs)
  clear hr hq4 hx hs
  go_enter Tryd.func79, Tryd.ntmps79
  go_wp2
  generalize w.alloc (.cells #[.int .i64 n, v] 24) = w1 at *
  go_loopw [7, 12] (fun s i wr => ∃ k : Nat, k ≤ xs.length ∧ i = .int .i64 k ∧ s = .int .u64 (bs (rgtq n zs (xs.take k) a) n) ∧ Below w1.heap.size w1 wr) (fun _ i _ => xs.length - (intOf i).toNat)
  case atStart => exact ⟨0, Nat.zero_le _, rfl, by rw [List.take_zero, show bs (rgtq n zs [] a) n = 0 from bs_none n]; rfl, Below.refl _ _⟩
  case round =>
    obtain ⟨k, hk, rfl, rfl, hB⟩ := hrel
    by_cases hlt : k < xs.length
    · have hck := (HR.out.below hB hp).cell k (by rw [HLL.out]; exact hlt)
      rw [li_get hlt] at hck
      obtain rfl := HR.out.at_ (by rw [HLL.out]; omega)
      obtain ⟨x, hxe⟩ : ∃ x, xs[k] = x := ⟨_, rfl⟩
      have hxn : x < n := by rw [← hxe]; exact HM.out _ (List.getElem_mem hlt)
      have hsn : xs.take (k + 1) = xs.take k ++ [x] := by rw [List.take_succ_eq_append_getElem hlt, hxe]
      rw [hxe] at hck
      have hki : (k : Int) < (xs.length : Int) := by omega
      have hct : tm n zs x a < n := tm_lt ht hxn ha
      have hor := bs_put (n := n) (t := tm n zs x a) (p := rgtq n zs (xs.take k) a) (q := rgtq n zs (xs.take (k + 1)) a) hn (fun z => by
        unfold rgtq
        rw [hsn, List.any_append]
        simp only [List.any_cons, List.any_nil, Bool.or_false]
        congr 1
        rw [Bool.eq_iff_iff, decide_eq_true_eq, decide_eq_true_eq]
        exact eq_comm)
      have HCM := hide (cprd_ok n v zs x a wr ht (hv0.below hB) hxn ha)
      have HOF := hide (fun W b (h : W.cell? ⟨b, 0, none⟩ = some (.int .i64 (tm n zs x a))) => of_one n b (tm n zs x a) W hn hct h)
      obtain ⟨g0, g1, _, _⟩ := (blk_below hX0 hB).two
      generalize tm n zs x a = t at *
      generalize bs (fun z => decide (z = t)) n = T9 at *
      clear hsn hxe
      go_wp2_with fail
      refine HCM.out.mono ?_
      rintro x9 w7 ⟨rfl, hb7⟩
      have hB8 := bcat2 hB (bcat2 hb7 (balloc w7 (.cells #[.int .i64 t] 3)))
      clear g0 g1
      go_wp2_with fail
      refine (HOF.out _ _ (cell1 _ _ _)).mono ?_
      rintro x9 w8 ⟨rfl, rfl⟩
      go_wp2
      go_roundw
      case rel => exact ⟨k + 1, by omega, by go_num, rfl, hB8⟩
      case measure => simp [intOf]; omega
    · have hkn : k = xs.length := by omega
      subst hkn
      rw [List.take_length]
      go_wp2
      go_ret
      exact ⟨rfl, bcat2 hB0 hB⟩
theorem call109 (a : Int) (x y : Value) (W : World) : Sem.run Tryd.prog (callFunc 78 (#[.int .i64 a] ++ #[x, y])) W = .ok (.enter 78 (#[.int .i64 a] ++ #[x, y])) W := by kernel_rfl
set_option maxRecDepth 100000 in
set_option maxHeartbeats 4000000 in
theorem rgt1_ok (n : Nat) (v lv : Value) (zs : List Int) (xs : List Nat) (a gb lb : Nat) (w : World) (ht : IsTab n zs) (hv : Sl w v zs) (hs : Sl w lv (li xs)) (hx : ∀ x, x ∈ xs → x < n) (ha : a < n) (hX : BoxG w gb n v) (hL : Boxed w lb 22 lv) :
    Calls Tryd.prog 78 (#[.int .i64 a] ++ #[.pointer (some ⟨gb, 0, none⟩), .pointer (some ⟨lb, 0, none⟩)]) w fun e w' => e = .returned (.int .u64 (bs (rgtq n zs xs a) n)) ∧ Below w.heap.size w w' := by
  show Calls Tryd.prog 78 #[.int .i64 a, .pointer (some ⟨gb, 0, none⟩), .pointer (some ⟨lb, 0, none⟩)] w _
  obtain ⟨c0, c1, _, _⟩ := hX.two
  have c2 := hL.cell
  go_enter Tryd.func78, Tryd.ntmps78
  go_wp2_with fail
  refine (rgt_ok n v lv zs xs a w ht hv hs hx ha).mono ?_
  rintro x w1 ⟨rfl, hb1⟩
  go_wp2
  go_ret
  exact ⟨rfl, hb1⟩
theorem und95 : Tryd.prog.underlying 102 = some (.map 76 3) := by kernel_rfl
set_option maxRecDepth 100000 in
set_option maxHeartbeats 8000000 in
theorem parts_ok (n k : Nat) (caps : Array Value) (f : Nat → Nat → Bool) (w : World) (hn : n ≤ 60) (hT : Tab w)
    (hcall : ∀ a W, Sem.run Tryd.prog (callFunc k (#[.int .i64 a] ++ caps)) W = .ok (.enter k (#[.int .i64 a] ++ caps)) W)
    (hp : ∀ (W : World) (a : Nat), Below w.heap.size w W → a < n → Calls Tryd.prog k (#[.int .i64 a] ++ caps) W fun e w' => e = .returned (.int .u64 (bs (f a) n)) ∧ Below W.heap.size W w') :
    Calls Tryd.prog 77 #[.int .i64 n, .func (.func k) #[] caps] w fun x w' => ∃ r vs D, x = .returned (.tuple #[r, .map (some w.heap.size)]) ∧ w'.ownsRow (w.heap.size + 1) 22 1 r vs.length vs ∧ Lsts w' (w.heap.size + 1) r vs (csl n f n) ∧ w'.ownsMap Tryd.prog 76 (plainElem Tryd.prog 3) w.heap.size n D ∧ MInv n f n D ∧ Below w.heap.size w w' := by
  obtain ⟨i0, hi, hz0, hz1, hz2⟩ := info_parts info22b
  have hmm := @run_makeMap Tryd.prog
  have HP := hide hp
  clear hp
  go_enter Tryd.func77, Tryd.ntmps77
  go_wp2
  clear hmm
  go_loopw [6, 14] (fun r i wr => ∃ (j : Nat) (vs : List Value) (D : DataW Unit), j ≤ n ∧ i = .int .i64 j ∧ wr.ownsRow (w.heap.size + 1) 22 1 r vs.length vs ∧ Lsts wr (w.heap.size + 1) r vs (csl n f j) ∧ wr.ownsMap Tryd.prog 76 (plainElem Tryd.prog 3) w.heap.size j D ∧ MInv n f j D ∧ Below w.heap.size w wr) (fun _ i _ => n - (intOf i).toNat)
  case atStart => exact ⟨0, [], .map [], Nat.zero_le _, rfl, World.ownsRow_nil _ _ _ _, ⟨rfl, fun t x l h => by simp at h⟩, World.ownsMap_made _ _ _ _, fun s => ⟨fun h => by simp [Maps.has] at h, fun ⟨a, h, _⟩ => by omega⟩, balloc w _⟩
  case round =>
    obtain ⟨j, vs, D, hj, rfl, hrow, hls, hmap, hM, hB⟩ := hrel
    obtain ⟨ra, rcap, rfl⟩ := own_slice' hrow
    by_cases hlt : j < n
    · have hji : (j : Int) < (n : Int) := by omega
      go_wp2_with fail
      refine (HP.out wr j hB hlt).mono ?_
      rintro e1 w1 ⟨rfl, hb1⟩
      have hB1 := bcat2 hB hb1
      have hmap1 := hmap.kept (below_grown hb1 none) (by simp)
      have hrow1 := hrow.kept (below_grown hb1 none) (by cases ra <;> simp [Value.ownBlock])
      have hls1 : Lsts w1 (w.heap.size + 1) (.slice ra vs.length rcap) vs (csl n f j) := hls.keep hb1.size (fun g _ h2 _ => hb1.block g h2) (.inl rfl)
      have hkw : (Lit.int .u64 (bs (f j) n : Nat)).wf = true := WalkArith.wf_u64 (by have := bs_64 (p := f j) hn; omega)
      have hkey := keyOf_int_mk und77 hkw
      have hvl : vs.length ≤ j := by rw [hls.1]; unfold csl; rw [List.length_map]; exact fsts_len n f j
      have hs1 : w.heap.size < w1.heap.size := Nat.lt_of_lt_of_le hmap.lt hb1.size
      clear hrow hls hmap hB hb1
      cases hh : Maps.has D (.int .u64 (bs (f j) n : Nat)) with
      | false =>
        have HST := hide (show csl n f (j + 1) = csl n f j ++ [li (lst n (f j))] by
          unfold csl
          rw [fsts_succ, if_pos ((minv_new hM).1 hh), List.map_append]; rfl)
        have HMV := hide (fun d => minv_step (d := d) hM (map_is hmap1))
        go_wp2_with (first
          | (at_lookup; refine wpList_lookup_own_ok_int _ rfl _ _ 102 rfl 76 3 .i64 law77 und95 und3' (zero3 _) w.heap.size _ D rfl hmap1 _ _ rfl hkey ?_; intro c hat hwc; rw [hh])
          | (at_mapUpdate; refine wpList_mapUpdate_own _ rfl _ _ _ 102 rfl 76 3 law77 und95 _ w.heap.size _ D rfl hmap1 (by unfold maxLen; omega) _ _ _ rfl rfl hkey _ [] (plainElem_int und3' (WalkArith.wf_i64 (by omega))) ?_; intro w2 hmap2 hgrow2))
        have hB2 := hB1.grown hgrow2 hB1.size (fun k hk => by cases hk; exact Nat.le_refl _)
        have hrow2 := hrow1.kept hgrow2 (by
          by_cases h9 : (Value.slice ra vs.length rcap).ownBlock = some w.heap.size
          · have := owns_ge hrow1 _ h9; omega
          · exact .inr h9)
        have hls2 : Lsts w2 (w.heap.size + 1) (.slice ra vs.length rcap) vs (csl n f j) := hls1.keep hgrow2.size (fun g h1 h2 _ => hgrow2.block g h2 (by simp; omega)) (.inl rfl)
        have hs2 : w.heap.size < w2.heap.size := Nat.lt_of_lt_of_le hs1 hgrow2.size
        clear hrow1 hls1 hmap1 hB1 hgrow2
        refine (list_ok n (f j) w2 hn (hT.below hB2)).mono ?_
        rintro e3 w3 ⟨r9, rfl, hr9, hb3⟩
        have hB3 := bcat2 hB2 hb3
        have hrow3 := hrow2.kept (below_grown hb3 none) (by cases ra <;> simp [Value.ownBlock])
        have hls3 : Lsts w3 (w.heap.size + 1) (.slice ra vs.length rcap) vs (csl n f j) := hls2.keep hb3.size (fun g _ h2 _ => hb3.block g h2) (.inl rfl)
        have hmap3 := hmap2.kept (below_grown hb3 none) (by simp)
        have hown2 : ∀ g, (Value.slice ra vs.length rcap).ownBlock = some g → g < w2.heap.size := fun g hg => by
          rcases hrow2.2 with ⟨h1, _⟩ | ⟨g', cap, cur, h1, _, hh9, _⟩
          · rw [h1] at hg; simp [Value.ownBlock] at hg
          · rw [h1] at hg
            simp [Value.ownBlock] at hg
            subst hg
            exact (Array.getElem?_eq_some_iff.1 hh9).1
        obtain ⟨qa, qcap, qb, qo, rfl, hq, hq1, hq2, hq3, hq4⟩ := hr9
        have hs3 := hb3.size
        have HQ := hide hq
        clear hrow2 hls2 hmap2 hB2 hb3 hq
        generalize li (lst n (f j)) = lj at *
        go_wp2_with (first
          | (at_builtin; refine wpList_append_own_at _ rfl _ _ 25 rfl (w.heap.size + 1) 22 i0 (.slice none 0 0) 1 24 under25b hi hz0 hz1 hz2 rfl (by decide) _ _ _ rfl (World.ownsRow.alloc hrow3 _) ⟨w3.heap.size, 0, none⟩ 1 1 [.slice qa lj.length qcap] rfl rfl ?c1 ?c2 ?c3 ?c4 ?c5 ?_))
        case c1 => exact cell_one_new _ _ _
        case c2 => simp [Value.oneCell']
        case c3 => unfold maxLen; omega
        case c4 => omega
        case c5 => simp; omega
        intro v' w4 hown' hgrow hnil hloc
        obtain ⟨ra', rcap', rfl⟩ := own_slice' hown'
        have hB4 : Below w.heap.size w w4 := (hB3.alloc hB3.size _).grown hgrow (by simp; omega) (fun t e => by have := owns_ge hrow3 t e; omega)
        have hmap4 := (hmap3.kept (World.grownBy_alloc w3 _ none) (by simp)).kept hgrow (fun e => by have := owns_ge hrow3 _ e.symm; omega)
        have hbl : ∀ g, g < w3.heap.size → (Value.slice ra vs.length rcap).ownBlock ≠ some g → w4.heap[g]? = w3.heap[g]? := fun g h1 h2 => (hgrow.block g (by simp; omega) (fun e => h2 e.symm)).trans (Below.block (balloc w3 _) g h1)
        have hs4 : w3.heap.size < w4.heap.size := by have := hgrow.size; simp at this; omega
        have hlo : (Value.slice ra' (vs.length + 1) rcap').ownBlock = (Value.slice ra vs.length rcap).ownBlock ∨ ∀ g, (Value.slice ra' (vs.length + 1) rcap').ownBlock = some g → w3.heap.size ≤ g := by
          rcases hloc with h | h
          · exact .inl h
          · right; intro g hg; rw [h] at hg; simp at hg; omega
        have hls4 := (hls3.keep (r' := .slice ra' (vs.length + 1) rcap') (by omega) (fun g _ h2 h3 => hbl g h2 h3) hlo).snoc (x := .slice qa lj.length qcap) (l := lj) ⟨qa, qcap, qb, qo, rfl, HQ.out.of_eq (hbl qb hq1 (fun e => by have := hown2 _ e; omega)), by omega, hq2, hq3, by omega, fun g hg e => by
          subst e
          rcases hlo with h | h
          · have := hown2 _ (h ▸ hg); omega
          · have := h _ hg; omega⟩
        have hrow4 : w4.ownsRow (w.heap.size + 1) 22 1 (.slice ra' (vs.length + 1) rcap') (vs ++ [Value.slice qa lj.length qcap]).length (vs ++ [Value.slice qa lj.length qcap]) := by simpa using hown'
        clear hown' hgrow hloc hlo hbl hrow3 hls3 hmap3 hB3
        go_wp2
        go_roundw
        case rel => exact ⟨j + 1, _, _, by omega, by go_num, hrow4, by rw [HST.out]; exact hls4, hmap4, HMV.out _, hB4⟩
        case measure => simp [intOf]; omega
      | true =>
        have HST := hide (show csl n f (j + 1) = csl n f j by
          unfold csl
          rw [fsts_succ, if_neg (by rw [← minv_new hM, hh]; simp)])
        have HMV := hide (minv_same hM hh)
        go_wp2_with (first
          | (at_lookup; refine wpList_lookup_own_ok_int _ rfl _ _ 102 rfl 76 3 .i64 law77 und95 und3' (zero3 _) w.heap.size _ D rfl hmap1 _ _ rfl hkey ?_; intro c hat hwc; rw [hh]))
        go_roundw
        case rel => exact ⟨j + 1, vs, D, by omega, by go_num, hrow1, by rw [HST.out]; exact hls1, map_more hmap1, HMV.out, hB1⟩
        case measure => simp [intOf]; omega
    · have hjn : j = n := by omega
      subst hjn
      go_wp2
      exact bodyPost_ret (v := .tuple #[.slice ra vs.length rcap, .map (some w.heap.size)]) (by simp [results, Tryd.results77, go_sem]) rfl ⟨_, vs, D, rfl, hrow, hls, hmap, hM, hB⟩
theorem is_any (N : Int) (v u : Value) (zs l : List Int) (w : World) (hv : Sl w v zs) (hu : Sl w u l) (hT : Tab w) : ∃ b c i, Calls Tryd.prog 87 #[.agg #[.int .i64 N, v], u] w (fun x w' => x = .returned (.tuple #[.bool b, .agg #[.int .i64 c, .int .i64 i]]) ∧ Below w.heap.size w w') ∧ ((c ≠ 0 ∧ ufault N zs l = (c, i)) ∨ (c = 0 ∧ i = 0 ∧ b = false ∧ ufault N zs l = (7, 0)) ∨ (c = 0 ∧ i = 0 ∧ b = true ∧ ufault N zs l = (0, 0))) := by
  by_cases hs : (sfault N zs l).1 = 0
  · obtain ⟨n, e, rfl, hg, hl, _⟩ := sfault_zero hs
    have h := is_good n e v u zs l w hv hg hu hT hl
    have hf := ufault_u hg hl
    cases hb : subT n zs e (pset l)
    · rw [hb] at h hf; exact ⟨false, 0, 0, h, .inr (.inl ⟨rfl, rfl, rfl, hf⟩)⟩
    · rw [hb] at h hf; exact ⟨true, 0, 0, h, .inr (.inr ⟨rfl, rfl, rfl, hf⟩)⟩
  · exact ⟨false, _, _, is_bad N v u zs l w hv hu hs, .inl ⟨hs, ufault_s hs⟩⟩
set_option maxRecDepth 100000 in
set_option maxHeartbeats 8000000 in
theorem wrong_ok (N : Int) (v : Value) (zs : List Int) (b cap : Nat) (ls : List (List Int)) (w : World) (hv : Sl w v zs) (hT : Tab w) (hlen : ls.length ≤ 2)
    (hc : ∀ t, t < ls.length → ∃ x, w.cell? ⟨b, t, none⟩ = some x ∧ Sl w x (ls[t]?.getD [])) :
    Calls Tryd.prog 76 #[.agg #[.int .i64 N, v], .slice (some ⟨b, 0, none⟩) ls.length cap] w fun x w' => x = .returned (.agg #[.int .i64 (wfault N zs ls).1, .int .i64 (wfault N zs ls).2]) ∧ Below w.heap.size w w' := by
  obtain ⟨w0, BG⟩ := Beg.new w N v
  have HC := hide hc
  clear hc
  go_enter Tryd.func76, Tryd.ntmps76
  go_wp2
  rw [← BG.eq]
  go_loopw [11] (fun i wr => ∃ k : Nat, k ≤ ls.length ∧ i = .int .i64 k ∧ (∀ t, t < k → (ufault N zs (ls[t]?.getD [])).1 = 0) ∧ Below w0.heap.size w0 wr) (fun i _ => ls.length - (intOf i).toNat)
  case atStart => exact ⟨0, Nat.zero_le _, rfl, fun t ht => by omega, Below.refl _ _⟩
  case round =>
    obtain ⟨k, hk, rfl, hno, hB⟩ := hrel
    have HNO := hide hno
    clear hno
    have hBw := bcat BG.bel hB BG.bel.size
    have hX := blk_below BG.box hB
    have hR := blk_below BG.res hB
    have HS1 := hide hR.lt
    by_cases hlt : k < ls.length
    · obtain ⟨x, hcx, hsx⟩ := HC.out k hlt
      obtain ⟨x1, x2, x3, rfl⟩ := hsx.isSlice
      obtain ⟨bq, c, i, HI, hor⟩ := is_any N v (.slice x1 x2 x3) zs (ls[k]?.getD []) wr (hv.below hBw) (hsx.below hBw) (hT.below hBw)
      have HI := hide HI
      have hcx := below_cell hBw hcx
      have hki : (k : Int) < (ls.length : Int) := by omega
      obtain ⟨c0, c1, _, _⟩ := hX.two
      go_wp2_with fail
      refine HI.out.mono ?_
      rintro e1 w1 ⟨rfl, hb1⟩
      clear c0 c1 hcx hsx
      have hb2 := bcat2 hb1 (balloc w1 (.cells #[.int .i64 c, .int .i64 i] 27))
      have hF2 := blk0 (w := w1) (T := 27) (.int .i64 c) (.int .i64 i)
      have hB2 := bcat2 hB hb2
      have hBw2 := bcat BG.bel hB2 BG.bel.size
      have hR2 := blk_below hR hb2
      obtain ⟨f0, f1, _, _⟩ := hF2.two
      obtain ⟨y0, y1, fy0, fy1⟩ := hR2.two
      rcases hor with ⟨hc0, hu⟩ | ⟨rfl, rfl, rfl, hu⟩ | ⟨rfl, rfl, rfl, hu⟩
      · have HD := hide (show wfault N zs ls = (c, i) by rw [← hu]; exact wfault_at HNO.out hlt (by rw [hu]; exact hc0))
        have hcb : (c != 0) = true := by simpa using hc0
        obtain ⟨hR6, hB6⟩ := put2 hR2 hBw2 (by omega) c i
        go_wp2
        generalize ((w1.alloc (.cells #[.int .i64 c, .int .i64 i] 27)).setCell ⟨w.heap.size + 1, 0, none⟩ (.int .i64 c)).setCell ⟨w.heap.size + 1, 1, none⟩ (.int .i64 i) = W at hR6 hB6 ⊢
        obtain ⟨z0, z1, _, _⟩ := hR6.two
        rw [HD.out]
        exact bodyPost_ret (v := .agg #[.int .i64 c, .int .i64 i]) (by simp [results, Tryd.results76, go_sem, z0, z1]) rfl ⟨rfl, hB6⟩
      · have HD := hide (show wfault N zs ls = (7, 0) by rw [← hu]; exact wfault_at HNO.out hlt (by rw [hu]; decide))
        obtain ⟨hR6, hB6⟩ := put2 hR2 hBw2 (by omega) 7 0
        go_wp2
        generalize ((w1.alloc (.cells #[.int .i64 0, .int .i64 0] 27)).setCell ⟨w.heap.size + 1, 0, none⟩ (.int .i64 7)).setCell ⟨w.heap.size + 1, 1, none⟩ (.int .i64 0) = W at hR6 hB6 ⊢
        obtain ⟨z0, z1, _, _⟩ := hR6.two
        rw [HD.out]
        exact bodyPost_ret (v := .agg #[.int .i64 7, .int .i64 0]) (by simp [results, Tryd.results76, go_sem, z0, z1]) rfl ⟨rfl, hB6⟩
      · go_wp2
        go_roundw
        case rel => exact ⟨k + 1, by omega, by go_num, fun t ht => by
          by_cases e9 : t = k
          · subst e9; rw [hu]
          · exact HNO.out t (by omega), hB2⟩
        case measure => simp [intOf]; omega
    · have HD := hide (show wfault N zs ls = (0, 0) from wfault_ok fun t ht => HNO.out t (by omega))
      obtain ⟨y0, y1, fy0, fy1⟩ := hR.two
      obtain ⟨hR6, hB6⟩ := put2 hR hBw (by omega) 0 0
      go_wp2
      generalize (wr.setCell ⟨w.heap.size + 1, 0, none⟩ (.int .i64 0)).setCell ⟨w.heap.size + 1, 1, none⟩ (.int .i64 0) = W at hR6 hB6 ⊢
      obtain ⟨z0, z1, _, _⟩ := hR6.two
      rw [HD.out]
      exact bodyPost_ret (v := .agg #[.int .i64 0, .int .i64 0]) (by simp [results, Tryd.results76, go_sem, z0, z1]) rfl ⟨rfl, hB6⟩
set_option maxRecDepth 100000 in
set_option maxHeartbeats 1000000 in
theorem rgt_bad (N : Int) (v u : Value) (zs l : List Int) (w : World) (hv : Sl w v zs) (hu : Sl w u l) (hT : Tab w) (hc : (ufault N zs l).1 ≠ 0) :
    Calls Tryd.prog 56 #[.agg #[.int .i64 N, v], u] w fun x w' => x = .returned (.tuple #[.slice none 0 0, .agg #[.int .i64 (ufault N zs l).1, .int .i64 (ufault N zs l).2]]) ∧ Below w.heap.size w w' := by
  obtain ⟨u1, u2, u3, rfl⟩ := hu.isSlice
  obtain ⟨w0, BG⟩ := Beg3.new w N v (.slice u1 u2 u3)
  have hu0 := (hu.below BG.bel).alloc (.cells #[.slice u1 u2 u3] 22)
  have hv0 := (hv.below BG.bel).alloc (.cells #[.slice u1 u2 u3] 22)
  have hT0 := (hT.below BG.bel).below (balloc w0 (.cells #[.slice u1 u2 u3] 22))
  have HW := hide (wrong_ok N v zs w0.heap.size 1 [l] (w0.alloc (.cells #[.slice u1 u2 u3] 22)) hv0 hT0 (by simp) (fun t ht => by
    have : t = 0 := by simp at ht; omega
    subst this
    exact ⟨_, cell1 _ _ _, hu0⟩))
  have hs0 : w0.heap.size = w.heap.size + 1 + 1 + 1 := by rw [BG.eq]; simp
  rw [hs0, show [l].length = 1 from rfl, wfault_one] at HW
  obtain ⟨c0, c1, _, _⟩ := BG.box.two
  have c2 := BG.lis.cell
  rw [BG.eq] at c0 c1 c2
  obtain ⟨c, i, hci⟩ : ∃ c i, ufault N zs l = (c, i) := ⟨_, _, rfl⟩
  rw [hci] at HW hc ⊢
  simp only at HW hc ⊢
  clear hci
  have hcb : (c != 0) = true := by simpa using hc
  go_enter Tryd.func56, Tryd.ntmps56
  go_wp2_with fail
  rw [← BG.eq]
  clear c0 c1 c2
  refine HW.out.mono ?_
  rintro x w1 ⟨rfl, hb1⟩
  have hb1 := bcat2 (balloc w0 (.cells #[.slice u1 u2 u3] 22)) hb1
  have hb2 := bcat2 hb1 (balloc w1 (.cells #[.int .i64 c, .int .i64 i] 27))
  have hF2 := blk0 (w := w1) (T := 27) (.int .i64 c) (.int .i64 i)
  have hBw := bcat BG.bel hb2 BG.bel.size
  have hR2 := blk_below BG.res hb2
  obtain ⟨t0, t1, _, _⟩ := hF2.two
  obtain ⟨y0, y1, fy0, fy1⟩ := hR2.two
  obtain ⟨hR6, hB6⟩ := put2 hR2 hBw (by omega) c i
  go_wp2_with fail
  go_region
  all_goals (
    go_wp2
    obtain ⟨z0, z1, _, _⟩ := hR6.two
    exact bodyPost_ret (v := .tuple #[.slice none 0 0, .agg #[.int .i64 c, .int .i64 i]]) (by simp [results, Tryd.results56, go_sem, z0, z1]) rfl ⟨rfl, bdrew hB6⟩)
set_option maxRecDepth 100000 in
set_option maxHeartbeats 1000000 in
theorem rgt_good (n e : Nat) (v u : Value) (zs l : List Int) (w : World) (hv : Sl w v zs) (hg : IsGrp n zs e) (hu : Sl w u l) (hT : Tab w) (hl : lfault n l = (0, 0)) (hsb : subT n zs e (pset l) = true) :
    Calls Tryd.prog 56 #[.agg #[.int .i64 n, v], u] w fun x w' => ∃ r vs, x = .returned (.tuple #[r, .agg #[.int .i64 0, .int .i64 0]]) ∧ w'.ownsRow w.heap.size 22 1 r vs.length vs ∧ Lsts w' w.heap.size r vs (csl n (rgtq n zs (lst n (pset l))) n) ∧ Below w.heap.size w w' := by
  obtain ⟨u1, u2, u3, rfl⟩ := hu.isSlice
  obtain ⟨w0, BG⟩ := Beg3.new w n v (.slice u1 u2 u3)
  have hu0 := (hu.below BG.bel).alloc (.cells #[.slice u1 u2 u3] 22)
  have hv0 := (hv.below BG.bel).alloc (.cells #[.slice u1 u2 u3] 22)
  have hT0 := (hT.below BG.bel).below (balloc w0 (.cells #[.slice u1 u2 u3] 22))
  have HW := hide (wrong_ok n v zs w0.heap.size 1 [l] (w0.alloc (.cells #[.slice u1 u2 u3] 22)) hv0 hT0 (by simp) (fun t ht => by
    have : t = 0 := by simp at ht; omega
    subst this
    exact ⟨_, cell1 _ _ _, hu0⟩))
  have hs0 : w0.heap.size = w.heap.size + 1 + 1 + 1 := by rw [BG.eq]; simp
  rw [hs0, show [l].length = 1 from rfl, wfault_one] at HW
  obtain ⟨c0, c1, _, _⟩ := BG.box.two
  have c2 := BG.lis.cell
  rw [BG.eq] at c0 c1 c2
  rw [show ufault n zs l = (0, 0) by rw [ufault_u hg hl, if_pos hsb]] at HW
  simp only at HW
  have hli := set_lst (show (lfault n l).1 = 0 by rw [hl])
  have hu9 : Sl w (.slice u1 u2 u3) (li (lst n (pset l))) := by rw [← hli]; exact hu
  have hxm : ∀ x, x ∈ lst n (pset l) → x < n := fun x hx => (mem_lst.1 hx).1
  go_enter Tryd.func56, Tryd.ntmps56
  go_wp2_with fail
  rw [← BG.eq]
  clear c0 c1 c2
  refine HW.out.mono ?_
  rintro x w1 ⟨rfl, hb1⟩
  have hb1 := bcat2 (balloc w0 (.cells #[.slice u1 u2 u3] 22)) hb1
  have hb2 := bcat2 hb1 (balloc w1 (.cells #[.int .i64 0, .int .i64 0] 27))
  have hF2 := blk0 (w := w1) (T := 27) (.int .i64 0) (.int .i64 0)
  have hBw := bcat BG.bel hb2 BG.bel.size
  have hX2 := blk_below BG.box hb2
  have hL2 := Boxed.below BG.lis hb2
  have hR2 := blk_below BG.res hb2
  obtain ⟨t0, t1, _, _⟩ := hF2.two
  obtain ⟨c0, c1, _, _⟩ := hX2.two
  go_wp2_with fail
  generalize w1.alloc (.cells #[.int .i64 0, .int .i64 0] 27) = w2 at *
  clear t0 t1 c0 c1
  refine (parts_ok n 78 #[.pointer (some ⟨w.heap.size, 0, none⟩), .pointer (some ⟨w.heap.size + 1, 0, none⟩)] (rgtq n zs (lst n (pset l))) w2 hg.tab.le (hT.below hBw) (fun a W => call109 a _ _ W) (fun W a hW ha => rgt1_ok n v (.slice u1 u2 u3) zs (lst n (pset l)) a w.heap.size (w.heap.size + 1) W hg.tab ((hv.below hBw).below hW) ((hu9.below hBw).below hW) hxm ha (blk_below hX2 hW) (Boxed.below hL2 hW))).mono ?_
  rintro x w3 ⟨r, vs, D, rfl, hrow, hls, _, _, hb3⟩
  obtain ⟨ra, rcap, rfl⟩ := own_slice' hrow
  have hlt2 := hR2.lt
  have hB3 := bcat2 hBw hb3
  have hR3 := blk_below hR2 hb3
  obtain ⟨y0, y1, fy0, fy1⟩ := hR3.two
  obtain ⟨hR6, hB6⟩ := put2 hR3 hB3 (by omega) 0 0
  have hk6 : ∀ g, w2.heap.size + 1 ≤ g → g < w3.heap.size → ((w3.setCell ⟨w.heap.size + 1 + 1, 0, none⟩ (.int .i64 0)).setCell ⟨w.heap.size + 1 + 1, 1, none⟩ (.int .i64 0)).heap[g]? = w3.heap[g]? := fun g h1 _ => (Below.heap_setCell _ _ _ g (by simp; omega)).trans (Below.heap_setCell _ _ _ g (by simp; omega))
  have hrow6 := own_keep' hrow hk6
  have hls6 := hls.keep (by rw [size_set, size_set]; exact Nat.le_refl _) (fun g h1 h2 _ => hk6 g h1 h2) (.inl rfl)
  have hsz : w.heap.size ≤ w2.heap.size + 1 := by have := hBw.size; omega
  have hrow7 := owns_mono hrow6 hsz
  have hls7 := hls6.mono hsz
  clear hrow hls hrow6 hls6 hk6
  go_wp2
  generalize (w3.setCell ⟨w.heap.size + 1 + 1, 0, none⟩ (.int .i64 0)).setCell ⟨w.heap.size + 1 + 1, 1, none⟩ (.int .i64 0) = W at hR6 hB6 hrow7 hls7 ⊢
  obtain ⟨z0, z1, _, _⟩ := hR6.two
  exact bodyPost_ret (v := .tuple #[.slice ra vs.length rcap, .agg #[.int .i64 0, .int .i64 0]]) (by simp [results, Tryd.results56, go_sem, z0, z1]) rfl ⟨_, vs, rfl, hrow7, hls7, hB6⟩
set_option maxRecDepth 100000 in
set_option maxHeartbeats 8000000 in
theorem parts2_ok (n k : Nat) (caps : Array Value) (f : Nat → Nat → Bool) (w : World) (hn : n ≤ 60) (hT : Tab w)
    (hcall : ∀ a W, Sem.run Tryd.prog (callFunc k (#[.int .i64 a] ++ caps)) W = .ok (.enter k (#[.int .i64 a] ++ caps)) W)
    (hp : ∀ (W : World) (a : Nat), Below w.heap.size w W → a < n → Calls Tryd.prog k (#[.int .i64 a] ++ caps) W fun e w' => e = .returned (.int .u64 (bs (f a) n)) ∧ Below W.heap.size W w') :
    Calls Tryd.prog 77 #[.int .i64 n, .func (.func k) #[] caps] w fun x w' => ∃ r vs D, x = .returned (.tuple #[r, .map (some w.heap.size)]) ∧ w'.ownsRow (w.heap.size + 1) 22 1 r vs.length vs ∧ Lsts w' (w.heap.size + 1) r vs (csl n f n) ∧ w'.ownsMap Tryd.prog 76 (plainElem Tryd.prog 3) w.heap.size n D ∧ MInv n f n D ∧ MNum n f n D ∧ Below w.heap.size w w' := by
  obtain ⟨i0, hi, hz0, hz1, hz2⟩ := info_parts info22b
  have hmm := @run_makeMap Tryd.prog
  have HP := hide hp
  clear hp
  go_enter Tryd.func77, Tryd.ntmps77
  go_wp2
  clear hmm
  go_loopw [6, 14] (fun r i wr => ∃ (j : Nat) (vs : List Value) (D : DataW Unit), j ≤ n ∧ i = .int .i64 j ∧ wr.ownsRow (w.heap.size + 1) 22 1 r vs.length vs ∧ Lsts wr (w.heap.size + 1) r vs (csl n f j) ∧ wr.ownsMap Tryd.prog 76 (plainElem Tryd.prog 3) w.heap.size j D ∧ MInv n f j D ∧ MNum n f j D ∧ Below w.heap.size w wr) (fun _ i _ => n - (intOf i).toNat)
  case atStart => exact ⟨0, [], .map [], Nat.zero_le _, rfl, World.ownsRow_nil _ _ _ _, ⟨rfl, fun t x l h => by simp at h⟩, World.ownsMap_made _ _ _ _, fun s => ⟨fun h => by simp [Maps.has] at h, fun ⟨a, h, _⟩ => by omega⟩, fun a h => by omega, balloc w _⟩
  case round =>
    obtain ⟨j, vs, D, hj, rfl, hrow, hls, hmap, hM, hMN, hB⟩ := hrel
    obtain ⟨ra, rcap, rfl⟩ := own_slice' hrow
    by_cases hlt : j < n
    · have hji : (j : Int) < (n : Int) := by omega
      go_wp2_with fail
      refine (HP.out wr j hB hlt).mono ?_
      rintro e1 w1 ⟨rfl, hb1⟩
      have hB1 := bcat2 hB hb1
      have hmap1 := hmap.kept (below_grown hb1 none) (by simp)
      have hrow1 := hrow.kept (below_grown hb1 none) (by cases ra <;> simp [Value.ownBlock])
      have hls1 : Lsts w1 (w.heap.size + 1) (.slice ra vs.length rcap) vs (csl n f j) := hls.keep hb1.size (fun g _ h2 _ => hb1.block g h2) (.inl rfl)
      have hkw : (Lit.int .u64 (bs (f j) n : Nat)).wf = true := WalkArith.wf_u64 (by have := bs_64 (p := f j) hn; omega)
      have hkey := keyOf_int_mk und77 hkw
      have hvl : vs.length ≤ j := by rw [hls.1]; unfold csl; rw [List.length_map]; exact fsts_len n f j
      have hs1 : w.heap.size < w1.heap.size := Nat.lt_of_lt_of_le hmap.lt hb1.size
      clear hrow hls hmap hB hb1
      cases hh : Maps.has D (.int .u64 (bs (f j) n : Nat)) with
      | false =>
        have HST := hide (show csl n f (j + 1) = csl n f j ++ [li (lst n (f j))] by
          unfold csl
          rw [fsts_succ, if_pos ((minv_new hM).1 hh), List.map_append]; rfl)
        have HMV := hide (fun d => minv_step (d := d) hM (map_is hmap1))
        have HNV := hide (mnum_step hMN (map_is hmap1) hlt ((minv_new hM).1 hh))
        have HVL2 := hide (show vs.length = (fsts n f j).length by rw [hls1.1, csl_len])
        go_wp2_with (first
          | (at_lookup; refine wpList_lookup_own_ok_int _ rfl _ _ 102 rfl 76 3 .i64 law77 und95 und3' (zero3 _) w.heap.size _ D rfl hmap1 _ _ rfl hkey ?_; intro c hat hwc; rw [hh])
          | (at_mapUpdate; refine wpList_mapUpdate_own _ rfl _ _ _ 102 rfl 76 3 law77 und95 _ w.heap.size _ D rfl hmap1 (by unfold maxLen; omega) _ _ _ rfl rfl hkey _ [] (plainElem_int und3' (WalkArith.wf_i64 (by omega))) ?_; intro w2 hmap2 hgrow2))
        have hB2 := hB1.grown hgrow2 hB1.size (fun k hk => by cases hk; exact Nat.le_refl _)
        have hrow2 := hrow1.kept hgrow2 (by
          by_cases h9 : (Value.slice ra vs.length rcap).ownBlock = some w.heap.size
          · have := owns_ge hrow1 _ h9; omega
          · exact .inr h9)
        have hls2 : Lsts w2 (w.heap.size + 1) (.slice ra vs.length rcap) vs (csl n f j) := hls1.keep hgrow2.size (fun g h1 h2 _ => hgrow2.block g h2 (by simp; omega)) (.inl rfl)
        have hs2 : w.heap.size < w2.heap.size := Nat.lt_of_lt_of_le hs1 hgrow2.size
        clear hrow1 hls1 hmap1 hB1 hgrow2
        refine (list_ok n (f j) w2 hn (hT.below hB2)).mono ?_
        rintro e3 w3 ⟨r9, rfl, hr9, hb3⟩
        have hB3 := bcat2 hB2 hb3
        have hrow3 := hrow2.kept (below_grown hb3 none) (by cases ra <;> simp [Value.ownBlock])
        have hls3 : Lsts w3 (w.heap.size + 1) (.slice ra vs.length rcap) vs (csl n f j) := hls2.keep hb3.size (fun g _ h2 _ => hb3.block g h2) (.inl rfl)
        have hmap3 := hmap2.kept (below_grown hb3 none) (by simp)
        have hown2 : ∀ g, (Value.slice ra vs.length rcap).ownBlock = some g → g < w2.heap.size := fun g hg => by
          rcases hrow2.2 with ⟨h1, _⟩ | ⟨g', cap, cur, h1, _, hh9, _⟩
          · rw [h1] at hg; simp [Value.ownBlock] at hg
          · rw [h1] at hg
            simp [Value.ownBlock] at hg
            subst hg
            exact (Array.getElem?_eq_some_iff.1 hh9).1
        obtain ⟨qa, qcap, qb, qo, rfl, hq, hq1, hq2, hq3, hq4⟩ := hr9
        have hs3 := hb3.size
        have HQ := hide hq
        clear hrow2 hls2 hmap2 hB2 hb3 hq
        generalize li (lst n (f j)) = lj at *
        go_wp2_with (first
          | (at_builtin; refine wpList_append_own_at _ rfl _ _ 25 rfl (w.heap.size + 1) 22 i0 (.slice none 0 0) 1 24 under25b hi hz0 hz1 hz2 rfl (by decide) _ _ _ rfl (World.ownsRow.alloc hrow3 _) ⟨w3.heap.size, 0, none⟩ 1 1 [.slice qa lj.length qcap] rfl rfl ?c1 ?c2 ?c3 ?c4 ?c5 ?_))
        case c1 => exact cell_one_new _ _ _
        case c2 => simp [Value.oneCell']
        case c3 => unfold maxLen; omega
        case c4 => omega
        case c5 => simp; omega
        intro v' w4 hown' hgrow hnil hloc
        obtain ⟨ra', rcap', rfl⟩ := own_slice' hown'
        have hB4 : Below w.heap.size w w4 := (hB3.alloc hB3.size _).grown hgrow (by simp; omega) (fun t e => by have := owns_ge hrow3 t e; omega)
        have hmap4 := (hmap3.kept (World.grownBy_alloc w3 _ none) (by simp)).kept hgrow (fun e => by have := owns_ge hrow3 _ e.symm; omega)
        have hbl : ∀ g, g < w3.heap.size → (Value.slice ra vs.length rcap).ownBlock ≠ some g → w4.heap[g]? = w3.heap[g]? := fun g h1 h2 => (hgrow.block g (by simp; omega) (fun e => h2 e.symm)).trans (Below.block (balloc w3 _) g h1)
        have hs4 : w3.heap.size < w4.heap.size := by have := hgrow.size; simp at this; omega
        have hlo : (Value.slice ra' (vs.length + 1) rcap').ownBlock = (Value.slice ra vs.length rcap).ownBlock ∨ ∀ g, (Value.slice ra' (vs.length + 1) rcap').ownBlock = some g → w3.heap.size ≤ g := by
          rcases hloc with h | h
          · exact .inl h
          · right; intro g hg; rw [h] at hg; simp at hg; omega
        have hls4 := (hls3.keep (r' := .slice ra' (vs.length + 1) rcap') (by omega) (fun g _ h2 h3 => hbl g h2 h3) hlo).snoc (x := .slice qa lj.length qcap) (l := lj) ⟨qa, qcap, qb, qo, rfl, HQ.out.of_eq (hbl qb hq1 (fun e => by have := hown2 _ e; omega)), by omega, hq2, hq3, by omega, fun g hg e => by
          subst e
          rcases hlo with h | h
          · have := hown2 _ (h ▸ hg); omega
          · have := h _ hg; omega⟩
        have hrow4 : w4.ownsRow (w.heap.size + 1) 22 1 (.slice ra' (vs.length + 1) rcap') (vs ++ [Value.slice qa lj.length qcap]).length (vs ++ [Value.slice qa lj.length qcap]) := by simpa using hown'
        clear hown' hgrow hloc hlo hbl hrow3 hls3 hmap3 hB3
        go_wp2
        go_roundw
        case rel => exact ⟨j + 1, _, _, by omega, by go_num, hrow4, by rw [HST.out]; exact hls4, hmap4, HMV.out _, by have := HNV.out; rw [← HVL2.out] at this; exact this, hB4⟩
        case measure => simp [intOf]; omega
      | true =>
        have HST := hide (show csl n f (j + 1) = csl n f j by
          unfold csl
          rw [fsts_succ, if_neg (by rw [← minv_new hM, hh]; simp)])
        have HMV := hide (minv_same hM hh)
        have HNV := hide (mnum_same hMN ((hM _).1 hh))
        go_wp2_with (first
          | (at_lookup; refine wpList_lookup_own_ok_int _ rfl _ _ 102 rfl 76 3 .i64 law77 und95 und3' (zero3 _) w.heap.size _ D rfl hmap1 _ _ rfl hkey ?_; intro c hat hwc; rw [hh]))
        go_roundw
        case rel => exact ⟨j + 1, vs, D, by omega, by go_num, hrow1, by rw [HST.out]; exact hls1, map_more hmap1, HMV.out, HNV.out, hB1⟩
        case measure => simp [intOf]; omega
    · have hjn : j = n := by omega
      subst hjn
      go_wp2
      exact bodyPost_ret (v := .tuple #[.slice ra vs.length rcap, .map (some w.heap.size)]) (by simp [results, Tryd.results77, go_sem]) rfl ⟨_, vs, D, rfl, hrow, hls, hmap, hM, hMN, hB⟩
end Go.Proofs.YtobnfbnholbfoaaDoor

namespace Go.Proofs.YtobnfbnholbfoaaDoor
open Go Go.RowKit Go.Maps

set_option maxRecDepth 100000 in
set_option maxHeartbeats 4000000 in
theorem quo_bad (N : Int) (v u : Value) (zs l : List Int) (w : World) (hv : Sl w v zs) (hu : Sl w u l) (hT : Tab w) (hc : (ufault N zs l).1 ≠ 0) :
    Calls Tryd.prog 34 #[.agg #[.int .i64 N, v], u] w fun x w' => x = .returned (.tuple #[.agg #[.int .i64 0, .slice none 0 0], .slice none 0 0, .agg #[.int .i64 (ufault N zs l).1, .int .i64 (ufault N zs l).2]]) ∧ Below w.heap.size w w' := by
  obtain ⟨w0, BG⟩ := BegQ.new w N v
  have HN := hide (nrm_bad N v u zs l w0 (hv.below BG.bel) (hu.below BG.bel) (hT.below BG.bel) hc)
  obtain ⟨c0, c1, _, _⟩ := BG.box.two
  obtain ⟨c, i, hci⟩ : ∃ c i, ufault N zs l = (c, i) := ⟨_, _, rfl⟩
  rw [hci] at HN hc ⊢
  simp only at HN hc ⊢
  clear hci
  have hcb : (c != 0) = true := by simpa using hc
  rw [BG.eq] at c0 c1
  go_enter Tryd.func34, Tryd.ntmps34
  go_wp2_with fail
  rw [← BG.eq]
  clear c0 c1
  refine HN.out.mono ?_
  rintro x w1 ⟨rfl, hb1⟩
  have hb2 := bcat2 hb1 (balloc w1 (.cells #[.int .i64 c, .int .i64 i] 27))
  have hF2 := blk0 (w := w1) (T := 27) (.int .i64 c) (.int .i64 i)
  have hBw := bcat BG.bel hb2 BG.bel.size
  have hG2 := blk_below BG.grp hb2
  have hR2 := blk_below BG.res hb2
  obtain ⟨t0, t1, _, _⟩ := hF2.two
  obtain ⟨y0, y1, fy0, fy1⟩ := hR2.two
  obtain ⟨g0, g1, fg0, fg1⟩ := hG2.two
  obtain ⟨s0, s1⟩ := hG2.self
  obtain ⟨hR6, hB6⟩ := put2 hR2 hBw (by omega) c i
  have hG6 := (hG2.other (p := ⟨w.heap.size + 1 + 1, 0, none⟩) (by simp) (.int .i64 c)).other (p := ⟨w.heap.size + 1 + 1, 1, none⟩) (by simp) (.int .i64 i)
  obtain ⟨g2, g3, fg2, fg3⟩ := hG6.two
  obtain ⟨s2, s3⟩ := hG6.self
  go_wp2_with fail
  go_region
  all_goals (
    go_wp2
    obtain ⟨z0, z1, _, _⟩ := hR6.two
    exact bodyPost_ret (v := .tuple #[.agg #[.int .i64 0, .slice none 0 0], .slice none 0 0, .agg #[.int .i64 c, .int .i64 i]]) (by simp [results, Tryd.results34, go_sem, z0, z1, g2, g3]) rfl ⟨rfl, bdrew hB6⟩)
set_option maxRecDepth 100000 in
set_option maxHeartbeats 4000000 in
theorem quo_odd (n e : Nat) (v u : Value) (zs l : List Int) (w : World) (hv : Sl w v zs) (hg : IsGrp n zs e) (hu : Sl w u l) (hT : Tab w) (hl : lfault n l = (0, 0)) (hsb : subT n zs e (pset l) = true) (hN : nrmq n zs e (pset l) = false) :
    Calls Tryd.prog 34 #[.agg #[.int .i64 n, v], u] w fun x w' => x = .returned (.tuple #[.agg #[.int .i64 0, .slice none 0 0], .slice none 0 0, .agg #[.int .i64 4, .int .i64 0]]) ∧ Below w.heap.size w w' := by
  obtain ⟨w0, BG⟩ := BegQ.new w n v
  have HN := hide (nrm_good n e v u zs l w0 (hv.below BG.bel) hg (hu.below BG.bel) (hT.below BG.bel) hl hsb)
  rw [hN] at HN
  obtain ⟨c0, c1, _, _⟩ := BG.box.two
  rw [BG.eq] at c0 c1
  go_enter Tryd.func34, Tryd.ntmps34
  go_wp2_with fail
  rw [← BG.eq]
  clear c0 c1
  refine HN.out.mono ?_
  rintro x w1 ⟨rfl, hb1⟩
  have hb2 := bcat2 hb1 (balloc w1 (.cells #[.int .i64 0, .int .i64 0] 27))
  have hF2 := blk0 (w := w1) (T := 27) (.int .i64 0) (.int .i64 0)
  have hBw := bcat BG.bel hb2 BG.bel.size
  have hG2 := blk_below BG.grp hb2
  have hR2 := blk_below BG.res hb2
  obtain ⟨t0, t1, _, _⟩ := hF2.two
  obtain ⟨y0, y1, fy0, fy1⟩ := hR2.two
  obtain ⟨g0, g1, fg0, fg1⟩ := hG2.two
  obtain ⟨s0, s1⟩ := hG2.self
  obtain ⟨hR6, hB6⟩ := put2 hR2 hBw (by omega) 4 0
  have hG6 := (hG2.other (p := ⟨w.heap.size + 1 + 1, 0, none⟩) (by simp) (.int .i64 4)).other (p := ⟨w.heap.size + 1 + 1, 1, none⟩) (by simp) (.int .i64 0)
  obtain ⟨g2, g3, fg2, fg3⟩ := hG6.two
  go_wp2
  obtain ⟨z0, z1, _, _⟩ := hR6.two
  exact bodyPost_ret (v := .tuple #[.agg #[.int .i64 0, .slice none 0 0], .slice none 0 0, .agg #[.int .i64 4, .int .i64 0]]) (by simp [results, Tryd.results34, go_sem, z0, z1, g2, g3]) rfl ⟨rfl, hB6⟩
set_option maxRecDepth 100000 in
set_option maxHeartbeats 8000000 in
theorem quo_good (n e : Nat) (v u : Value) (zs l : List Int) (w : World) (hv : Sl w v zs) (hg : IsGrp n zs e) (hu : Sl w u l) (hT : Tab w) (hl : lfault n l = (0, 0)) (hsb : subT n zs e (pset l) = true) (hN : nrmq n zs e (pset l) = true) :
    Calls Tryd.prog 34 #[.agg #[.int .i64 n, v], u] w fun x w' => ∃ r1 r2 r3 s1 s2 s3, x = .returned (.tuple #[.agg #[.int .i64 (fsts n (rgtq n zs (lst n (pset l))) n).length, .slice r1 r2 r3], .slice s1 s2 s3, .agg #[.int .i64 0, .int .i64 0]]) ∧ Sl w' (.slice r1 r2 r3) (mkT (fsts n (rgtq n zs (lst n (pset l))) n).length (quoF n zs (rgtq n zs (lst n (pset l))))) ∧ Sl w' (.slice s1 s2 s3) (ontoL n (rgtq n zs (lst n (pset l)))) ∧ Below w.heap.size w w' := by
  obtain ⟨i0, hi, hz0, hz1, hz2⟩ := info_parts info3b
  have hn := hg.tab.le
  have PP := rgt_parts hg hsb
  obtain ⟨w0, BG⟩ := BegQ.new w n v
  have HN := hide (nrm_good n e v u zs l w0 (hv.below BG.bel) hg (hu.below BG.bel) (hT.below BG.bel) hl hsb)
  rw [hN] at HN
  have HRG := hide (fun W (h : Below w.heap.size w W) => lists_sl (Nat.lt_of_lt_of_le hT.lt h.size) (rgt_good n e v u zs l W (hv.below h) hg (hu.below h) (hT.below h) hl hsb))
  obtain ⟨f, hf⟩ : ∃ f, f = rgtq n zs (lst n (pset l)) := ⟨_, rfl⟩
  rw [← hf] at HRG PP ⊢
  clear hf
  obtain ⟨K, hK⟩ : ∃ K, K = (fsts n f n).length := ⟨_, rfl⟩
  have hK6 : K ≤ 60 := by rw [hK]; exact Nat.le_trans (fsts_len n f n) hn
  have HCL := hide (show (csl n f n).length = K by rw [csl_len, hK])
  have HNUM := hide (fun W v9 (h : SlL W v9 (csl n f n)) => numbers_ok v9 (csl n f n) W h (by rw [HCL.out]; exact hK6) (fun t _ => Nat.le_trans (csl_len_le t) hn) (fun t a ha => by
    obtain ⟨b, hb, rfl, _⟩ := (csl_at PP t a).1 ha
    omega) (fun s t a h1 h2 => by
    obtain ⟨b, hb, rfl, h3⟩ := (csl_at PP s a).1 h1
    obtain ⟨b', hb', he, h4⟩ := (csl_at PP t _).1 h2
    have : b = b' := by omega
    subst this
    omega))
  have HNL := hide (fun a (ha : a < n) => (prts_num_lt PP ha).1)
  rw [← hK] at HNL
  have HAT := hide (fun (D : DataW Unit) (h : MLs (csl n f n) (csl n f n).length 0 D) a (ha : a < n) => h.old (num n f a) (by rw [csl_len]; exact (prts_num_lt PP ha).1) a ((csl_at PP _ _).2 ⟨a, ha, rfl, rfl⟩))
  have HGR := hide (fun W lv mb c (D : DataW Unit) (h : Below w.heap.size w W) (hL : SlL W lv (csl n f n)) (hm : W.ownsMap Tryd.prog 3 (plainElem Tryd.prog 3) mb c D) (hM : MLs (csl n f n) (csl n f n).length 0 D) =>
    group_ok n K v lv zs (csl n f n) (fun i => (fsts n f n)[i]?.getD 0) (quoF n zs f) mb c D W hg.tab (hv.below h) hL HCL.out hK6 (fun i hi => by
      rw [hK] at hi
      obtain ⟨s, hs⟩ := csl_head PP hi
      exact ⟨s, hs, by rw [List.getElem?_eq_getElem hi]; exact fst_lt hi⟩) hm (fun i j hi hj => by
      rw [hK] at hi hj
      have h1 := fst_lt hi
      have h2 := fst_lt hj
      unfold quoF
      simp only [List.getElem?_eq_getElem hi, List.getElem?_eq_getElem hj, Option.getD_some]
      exact HAT.out D hM _ (tm_lt hg.tab h1 h2)) (fun i j hi hj => by
      rw [hK] at hi hj
      unfold quoF
      simp only [List.getElem?_eq_getElem hi, List.getElem?_eq_getElem hj, Option.getD_some]
      have := HNL.out _ (tm_lt hg.tab (fst_lt hi) (fst_lt hj))
      omega))
  rw [← hK]
  have HK := hide hK
  clear hK PP hN
  obtain ⟨c0, c1, _, _⟩ := BG.box.two
  rw [BG.eq] at c0 c1
  go_enter Tryd.func34, Tryd.ntmps34
  go_wp2_with fail
  rw [← BG.eq]
  clear c0 c1
  refine HN.out.mono ?_
  rintro x w1 ⟨rfl, hb1⟩
  have hb2 := bcat2 hb1 (balloc w1 (.cells #[.int .i64 0, .int .i64 0] 27))
  have hF2 := blk0 (w := w1) (T := 27) (.int .i64 0) (.int .i64 0)
  have hBw := bcat BG.bel hb2 BG.bel.size
  have hX2 := blk_below BG.box hb2
  have hG2 := blk_below BG.grp hb2
  have hR2 := blk_below BG.res hb2
  obtain ⟨t0, t1, _, _⟩ := hF2.two
  obtain ⟨c0, c1, _, _⟩ := hX2.two
  go_wp2_with fail
  generalize w1.alloc (.cells #[.int .i64 0, .int .i64 0] 27) = w2 at *
  clear t0 t1 c0 c1 hb1 hb2
  refine (HRG.out _ hBw).mono ?_
  rintro x w3 ⟨r1, r2, r3, rfl, hr, hb3⟩
  have hF3 := blk_below hF2 hb3
  have hX3 := blk_below hX2 hb3
  have hG3 := blk_below hG2 hb3
  have hR3 := blk_below hR2 hb3
  have hBw3 := bcat2 hBw hb3
  obtain ⟨t0, t1, ft0, ft1⟩ := hF3.two
  obtain ⟨s0, s1⟩ := hF3.self
  go_wp2_with fail
  clear t0 t1 ft0 ft1 s0 s1
  refine (HNUM.out _ _ hr).mono ?_
  rintro x w4 ⟨D, rfl, hmap, hML, hb4⟩
  have hX4 := blk_below hX3 hb4
  have hG4 := blk_below hG3 hb4
  have hR4 := blk_below hR3 hb4
  have hr4 := hr.below hb4
  have hBw4 := bcat2 hBw3 hb4
  obtain ⟨k0, k1, _, _⟩ := hX4.two
  clear hX2 hX3 hG2 hG3 hR2 hR3 hF2 hF3 hr hBw hBw3 HNUM HRG HN
  go_wp2_with (first
    | (at_make; refine wpList_make_full _ rfl _ _ 22 rfl w4.heap.size 3 i0 (.int .i64 0) 1 under22b hi hz0 hz1 _ _ _ _ n rfl rfl rfl rfl (by rw [hz2]; omega) (by unfold maxLen; omega) (by simp) ?_))
  intro w5 hown hgr
  have hM5 : Blk w5 w4.heap.size 3 ((ontoU n f 0).map (Value.int .i64)) := by
    have := Blk.of_owns hown
    rw [made_rep] at this
    rw [ontoU_zero, List.map_replicate]; exact this
  have hb5 : Below w4.heap.size w4 w5 := (Below.refl _ w4).grown hgr (Nat.le_refl _) (by simp)
  clear hown hgr k0 k1
  have hw34 := hb4.size
  have HMP := hide hmap
  clear hmap
  go_wp2
  go_loopw [46] (fun i wr => ∃ a : Nat, a ≤ n ∧ i = .int .i64 a ∧ Blk wr w4.heap.size 3 ((ontoU n f a).map (Value.int .i64)) ∧ Below w4.heap.size w4 wr) (fun i _ => n - (intOf i).toNat)
  case atStart => exact ⟨0, Nat.zero_le _, rfl, hM5, hb5⟩
  case round =>
    obtain ⟨a, ha, rfl, hMa, hBa⟩ := hrel
    clear hM5 hb5
    by_cases hlt : a < n
    · have hai : (a : Int) < (n : Int) := by omega
      have hlk := look_int (HMP.out.kept (below_grown hBa none) (by simp)) (show a < 60 by omega) (HAT.out D hML a hlt)
      have hMc := hMa.int (y := a) (by rw [ontoU_len]; exact hlt)
      have hMf := hMa.frozen a
      have hM6 := hMa.setInt a (num n f a : Int)
      rw [← ontoU_set] at hM6
      have hB6 := hBa.setCell (p := ⟨w4.heap.size, a, none⟩) (Nat.le_refl _) (.int .i64 (num n f a : Int))
      go_wp2
      go_roundw
      case rel => exact ⟨a + 1, by omega, by go_num, hM6, hB6⟩
      case measure => simp [intOf]; omega
    · have hai : ¬ (a : Int) < (n : Int) := by omega
      have han : a = n := by omega
      rw [han, ontoU_all] at hMa
      clear han
      have hXr := blk_below hX4 hBa
      have hGr := blk_below hG4 hBa
      have hRr := blk_below hR4 hBa
      have hBr := bcat2 hBw4 hBa
      obtain ⟨k0, k1, _, _⟩ := hXr.two
      go_wp2_with fail
      clear k0 k1
      refine (HGR.out wr _ _ _ D hBr (hr4.below hBa) (HMP.out.kept (below_grown hBa none) (by simp)) hML).mono ?_
      rintro x w6 ⟨r, rfl, hrow, hb6⟩
      obtain ⟨T, hTe⟩ : ∃ T, T = mkT K (quoF n zs f) := ⟨_, rfl⟩
      rw [← hTe] at hrow
      have HTE := hide hTe
      clear hTe
      obtain ⟨rx, rcap, rfl⟩ := own_slice hrow
      have hMl := hMa.lt
      have hRl := hRr.lt
      have hGl := hGr.lt
      have hG6 := blk_below hGr hb6
      have hR6 := blk_below hRr hb6
      have hM6 := blk_below hMa hb6
      have hB6 := bcat2 hBr hb6
      obtain ⟨g0, g1, fg0, fg1⟩ := hG6.two
      have hG7 := (hG6.set 0 (.int .i64 K)).set 1 (.slice rx T.length rcap)
      have hR7 := (hR6.other (p := ⟨w.heap.size + 1, 0, none⟩) (by simp) (.int .i64 K)).other (p := ⟨w.heap.size + 1, 1, none⟩) (by simp) (.slice rx T.length rcap)
      have hMne : w4.heap.size ≠ w.heap.size + 1 := by have := hG4.lt; omega
      have hM7 := (hM6.other (p := ⟨w.heap.size + 1, 0, none⟩) (by simpa using hMne) (.int .i64 K)).other (p := ⟨w.heap.size + 1, 1, none⟩) (by simpa using hMne) (.slice rx T.length rcap)
      have hB7 := (hB6.setCell (p := ⟨w.heap.size + 1, 0, none⟩) (by simp) (.int .i64 K)).setCell (p := ⟨w.heap.size + 1, 1, none⟩) (by simp) (.slice rx T.length rcap)
      have hrow7 := row_keep (W' := (w6.setCell ⟨w.heap.size + 1, 0, none⟩ (.int .i64 K)).setCell ⟨w.heap.size + 1, 1, none⟩ (.slice rx T.length rcap)) hrow (fun g h1 _ => (Below.heap_setCell _ _ _ g (by simp; omega)).trans (Below.heap_setCell _ _ _ g (by simp; omega)))
      obtain ⟨y0, y1, fy0, fy1⟩ := hR7.two
      obtain ⟨s0, s1⟩ := hR7.self
      obtain ⟨v0, v1, fv0, fv1⟩ := hR6.two
      obtain ⟨z0, z1, _, _⟩ := hG7.two
      have hse := Sl.of_blk hM7 (ontoL_len n f).symm (by rw [ontoL_len]; omega)
      go_wp2
      exact bodyPost_ret (v := .tuple #[.agg #[.int .i64 K, .slice rx T.length rcap], .slice (some ⟨w4.heap.size, 0, none⟩) n n, .agg #[.int .i64 0, .int .i64 0]]) (by simp [results, Tryd.results34, go_sem, z0, z1, y0, y1]) rfl ⟨_, _, _, _, _, _, rfl, by rw [← HTE.out]; exact row_sl hrow7 (by rw [size_set, size_set]; have := hb6.size; omega), hse, hB7⟩
theorem quot_sl {f : Nat} {args : Array Value} {w : World} {c i : Int} (h0 : 0 < w.heap.size) (h : Calls Tryd.prog f args w fun x w' => x = .returned (.tuple #[.agg #[.int .i64 0, .slice none 0 0], .slice none 0 0, .agg #[.int .i64 c, .int .i64 i]]) ∧ Below w.heap.size w w') :
    Calls Tryd.prog f args w fun x W' => ∃ r1 r2 r3 s1 s2 s3, x = .returned (.tuple #[.agg #[.int .i64 0, .slice r1 r2 r3], .slice s1 s2 s3, .agg #[.int .i64 c, .int .i64 i]]) ∧ Sl W' (.slice r1 r2 r3) [] ∧ Sl W' (.slice s1 s2 s3) [] ∧ Below w.heap.size w W' := by
  refine h.mono ?_
  rintro x w' ⟨rfl, hb⟩
  have := Nat.lt_of_lt_of_le h0 hb.size
  exact ⟨none, 0, 0, none, 0, 0, rfl, Sl.nil this, Sl.nil this, hb⟩
end Go.Proofs.YtobnfbnholbfoaaDoor
