/- What package sub's Normal, Core and Closure answer where nothing is wrong. Condition: the library's table of places lies as its text lays it. -/
import Derived.Test.YtodabkjadejekaaDoorNrm
namespace Go.Proofs.YtodabkjadejekaaDoor
open Go Go.RowKit

/-- What a set has, by whatever it is conjugated. -/
def corq (n : Nat) (zs : List Int) (e : Nat) (q : Nat → Bool) (k y : Nat) : Bool := q y && (List.range k).all fun a => cjq n zs e q a y
/-- All conjugates of a set. -/
def cloq (n : Nat) (zs : List Int) (e : Nat) (q : Nat → Bool) (k y : Nat) : Bool := (List.range k).any fun a => cjq n zs e q a y
def nrmq (n : Nat) (zs : List Int) (e : Nat) (q : Nat → Bool) : Bool := decide (bs (norq n zs e q) n = bs (fun _ => true) n)

set_option maxRecDepth 100000 in
set_option maxHeartbeats 4000000 in
theorem nrm_good (n e : Nat) (v u0 : Value) (zs l0 : List Int) (w : World) (hv : Sl w v zs) (hg : IsGrp n zs e) (hu : Sl w u0 l0) (hT : Tab w) (hc : lfault n l0 = (0, 0)) (hs : subT n zs e (pset l0) = true) :
    Calls Tryd.prog 27 #[.agg #[.int .i64 n, v], u0] w fun x w' => x = .returned (.tuple #[.bool (nrmq n zs e (pset l0)), .agg #[.int .i64 0, .int .i64 0]]) ∧ Below w.heap.size w w' := by
  obtain ⟨va, vl, vc, rfl⟩ := hv.isSlice
  obtain ⟨w0, BG⟩ := Beg.new w n (.slice va vl vc)
  have hv0 := hv.below BG.bel
  obtain ⟨c0, c1, _, _⟩ := BG.box.two
  have HCK := hide (osub_good n e (.slice va vl vc) u0 zs l0 w0 hv0 hg (hu.below BG.bel) (hT.below BG.bel) hc hs)
  have HZ0 := hide (show w.heap.size + 2 ≤ w0.heap.size by rw [BG.eq]; simp)
  rw [BG.eq] at c0 c1
  go_enter Tryd.func27, Tryd.ntmps27
  go_wp2_with fail
  rw [← BG.eq]
  refine HCK.out.mono ?_
  rintro x w1 ⟨iv9, rfl, hSI, hb1⟩
  obtain ⟨ia, il, ic, rfl⟩ := hSI.sl.isSlice
  clear c0 c1 HCK
  obtain ⟨w2, hw2⟩ : ∃ w2, w2 = (w1.alloc (.cells #[.int .i64 n, (.slice va vl vc), .int .i64 e, (.slice ia il ic)] 65)).alloc (.cells #[.int .i64 0, .int .i64 0] 28) := ⟨_, rfl⟩
  have hb2 : Below w1.heap.size w1 w2 := by rw [hw2]; exact (balloc w1 _).alloc (by simp) _
  have hB1 : Below w0.heap.size w0 w2 := bcat2 hb1 hb2
  have hF1 : Blk w2 (w1.heap.size + 1) 28 [.int .i64 0, .int .i64 0] := by
    rw [hw2]
    have := blk0 (w := w1.alloc (.cells #[.int .i64 n, (.slice va vl vc), .int .i64 e, (.slice ia il ic)] 65)) (T := 28) (.int .i64 0) (.int .i64 0)
    rwa [World.size_alloc] at this
  have hH2 : Blk w2 w1.heap.size 65 [.int .i64 n, (.slice va vl vc), .int .i64 e, (.slice ia il ic)] := by
    rw [hw2]; exact (blk4 _ _ _ _).alloc _
  have hBw2 := bcat BG.bel hB1 BG.bel.size
  have hR2 := blk_below BG.res hB1
  have hT2 := hT.below hBw2
  have hGA2 : GA w2 n (.slice va vl vc) e (.slice ia il ic) zs := ⟨hg, hv.below hBw2, (hSI.below hb2).sl⟩
  obtain ⟨t0, t1, _, _⟩ := hF1.two
  obtain ⟨_, h0, h1, h2, h3, _⟩ := Four.mk' hH2
  have hx2 := blk_below BG.box hB1
  have HZ1 := hide (Nat.le_trans HZ0.out hb1.size)
  have HZ2 := hide hb2.size
  rw [hw2] at t0 t1 h0 h1 h2 h3
  go_wp2_with fail
  rw [← hw2]
  rw [← hw2] at t0 t1 h0 h1 h2 h3
  clear hw2
  have hS : ∀ W, Below w2.heap.size w2 W → (Below w2.heap.size w2 W ∧ W.cell? ⟨w1.heap.size, 0, none⟩ = some (.int .i64 n) ∧ W.cell? ⟨w1.heap.size, 1, none⟩ = some (.slice va vl vc) ∧ W.cell? ⟨w1.heap.size, 2, none⟩ = some (.int .i64 e) ∧ W.cell? ⟨w1.heap.size, 3, none⟩ = some (.slice ia il ic) ∧ W.cell? ⟨w.heap.size + 1, 0, none⟩ = some (.int .i64 0) ∧ W.cell? ⟨w.heap.size + 1, 1, none⟩ = some (.int .i64 0) ∧ W.frozen? ⟨w.heap.size + 1, 0, none⟩ = false ∧ W.frozen? ⟨w.heap.size + 1, 1, none⟩ = false ∧ W.setCell ⟨w.heap.size + 1, 0, none⟩ (.int .i64 0) = W ∧ W.setCell ⟨w.heap.size + 1, 1, none⟩ (.int .i64 0) = W) := fun W h => by
    obtain ⟨_, y0, y1, fy0, fy1, s0, s1⟩ := Two.mk' (blk_below hR2 h)
    exact ⟨h, below_cell h h0, below_cell h h1, below_cell h h2, below_cell h h3, y0, y1, fy0, fy1, s0, s1⟩
  have hS0 := hS _ (bdrew (Below.refl _ w2))
  have HA := hide (fun W => all_ok n (.slice va vl vc) (.slice ia il ic) e W hg.tab.le)
  have HC := hide (fun W (h : Below w2.heap.size w2 W) => norm_ok n (.slice va vl vc) (.slice ia il ic) zs e (pset l0) W (hGA2.below h) (hT2.below h))
  clear h0 h1 h2 h3 t0 t1
  have HN : Hid (nrmq n zs e (pset l0) = decide (bs (norq n zs e (pset l0)) n = bs (fun _ => true) n)) := rfl
  by_cases heq : bs (norq n zs e (pset l0)) n = bs (fun _ => true) n
  · rw [heq] at HC HN
    rw [decide_eq_true rfl] at HN
    generalize bs (norq n zs e (pset l0)) n = P at *
    generalize bs (fun _ => true) n = A at *
    
    go_region_held3 (fun W => Below w2.heap.size w2 W ∧ W.cell? ⟨w1.heap.size, 0, none⟩ = some (.int .i64 n) ∧ W.cell? ⟨w1.heap.size, 1, none⟩ = some (.slice va vl vc) ∧ W.cell? ⟨w1.heap.size, 2, none⟩ = some (.int .i64 e) ∧ W.cell? ⟨w1.heap.size, 3, none⟩ = some (.slice ia il ic) ∧ W.cell? ⟨w.heap.size + 1, 0, none⟩ = some (.int .i64 0) ∧ W.cell? ⟨w.heap.size + 1, 1, none⟩ = some (.int .i64 0) ∧ W.frozen? ⟨w.heap.size + 1, 0, none⟩ = false ∧ W.frozen? ⟨w.heap.size + 1, 1, none⟩ = false ∧ W.setCell ⟨w.heap.size + 1, 0, none⟩ (.int .i64 0) = W ∧ W.setCell ⟨w.heap.size + 1, 1, none⟩ (.int .i64 0) = W)
      (first | exact hS0 | assumption | exact hS _ (bcat2 (And.left ‹_›) hl1))
      (first
        | (go_at_call 63; refine (HC.out _ (And.left ‹_›)).mono ?_; rintro e1 W1 ⟨rfl, hl1⟩)
        | (go_at_call 64; refine (HA.out _).mono ?_; rintro e2 W2 ⟨rfl, hl1⟩))
    all_goals (
      obtain ⟨hB9, _, _, _, _, y0, y1, _⟩ := ‹Below w2.heap.size w2 W2 ∧ _›
      have hBz := bcat hBw2 hB9 hBw2.size
      clear hS hS0
      go_wp2
      exact bodyPost_ret (v := .tuple #[.bool true, .agg #[.int .i64 0, .int .i64 0]]) (by simp [results, Tryd.results27, go_sem, y0, y1]) rfl ⟨by rw [HN.out], hBz⟩)
  · skip
    rw [decide_eq_false heq] at HN
    generalize bs (norq n zs e (pset l0)) n = P at *
    generalize bs (fun _ => true) n = A at *
    have hpi : ¬ ((P : Int) = (A : Int)) := by omega
    go_region_held3 (fun W => Below w2.heap.size w2 W ∧ W.cell? ⟨w1.heap.size, 0, none⟩ = some (.int .i64 n) ∧ W.cell? ⟨w1.heap.size, 1, none⟩ = some (.slice va vl vc) ∧ W.cell? ⟨w1.heap.size, 2, none⟩ = some (.int .i64 e) ∧ W.cell? ⟨w1.heap.size, 3, none⟩ = some (.slice ia il ic) ∧ W.cell? ⟨w.heap.size + 1, 0, none⟩ = some (.int .i64 0) ∧ W.cell? ⟨w.heap.size + 1, 1, none⟩ = some (.int .i64 0) ∧ W.frozen? ⟨w.heap.size + 1, 0, none⟩ = false ∧ W.frozen? ⟨w.heap.size + 1, 1, none⟩ = false ∧ W.setCell ⟨w.heap.size + 1, 0, none⟩ (.int .i64 0) = W ∧ W.setCell ⟨w.heap.size + 1, 1, none⟩ (.int .i64 0) = W)
      (first | exact hS0 | assumption | exact hS _ (bcat2 (And.left ‹_›) hl1))
      (first
        | (go_at_call 63; refine (HC.out _ (And.left ‹_›)).mono ?_; rintro e1 W1 ⟨rfl, hl1⟩)
        | (go_at_call 64; refine (HA.out _).mono ?_; rintro e2 W2 ⟨rfl, hl1⟩))
    all_goals (
      obtain ⟨hB9, _, _, _, _, y0, y1, _⟩ := ‹Below w2.heap.size w2 W2 ∧ _›
      have hBz := bcat hBw2 hB9 hBw2.size
      clear hS hS0
      go_wp2
      exact bodyPost_ret (v := .tuple #[.bool false, .agg #[.int .i64 0, .int .i64 0]]) (by simp [results, Tryd.results27, go_sem, y0, y1, hpi]) rfl ⟨by rw [HN.out], hBz⟩)

set_option maxRecDepth 100000 in
set_option maxHeartbeats 4000000 in
theorem clo_good (n e : Nat) (v u0 : Value) (zs l0 : List Int) (p : Nat → Bool) (w : World) (hv : Sl w v zs) (hg : IsGrp n zs e) (hu : Sl w u0 l0) (hT : Tab w) (hc : lfault n l0 = (0, 0)) (hp : ∀ a, a < n → (p a = true ↔ Mkd n zs e (cloq n zs e (pset l0) n) a)) :
    Calls Tryd.prog 81 #[.agg #[.int .i64 n, v], u0] w fun x w' => ∃ r, x = .returned (.tuple #[r, .agg #[.int .i64 0, .int .i64 0]]) ∧ SlF w.heap.size w' r (li (lst n (p))) ∧ Below w.heap.size w w' := by
  obtain ⟨va, vl, vc, rfl⟩ := hv.isSlice
  have HPP := hide hp
  clear hp
  obtain ⟨w0, BG⟩ := Beg.new w n (.slice va vl vc)
  have hv0 := hv.below BG.bel
  obtain ⟨c0, c1, _, _⟩ := BG.box.two
  have HCK := hide (oset_good n e (.slice va vl vc) u0 zs l0 w0 hv0 hg (hu.below BG.bel) hc)
  have HZ0 := hide (show w.heap.size + 2 ≤ w0.heap.size by rw [BG.eq]; simp)
  rw [BG.eq] at c0 c1
  go_enter Tryd.func81, Tryd.ntmps81
  go_wp2_with fail
  rw [← BG.eq]
  refine HCK.out.mono ?_
  rintro x w1 ⟨iv9, rfl, hSI, hb1⟩
  obtain ⟨ia, il, ic, rfl⟩ := hSI.sl.isSlice
  clear c0 c1 HCK
  obtain ⟨w2, hw2⟩ : ∃ w2, w2 = (w1.alloc (.cells #[.int .i64 n, (.slice va vl vc), .int .i64 e, (.slice ia il ic)] 65)).alloc (.cells #[.int .i64 0, .int .i64 0] 28) := ⟨_, rfl⟩
  have hb2 : Below w1.heap.size w1 w2 := by rw [hw2]; exact (balloc w1 _).alloc (by simp) _
  have hB1 : Below w0.heap.size w0 w2 := bcat2 hb1 hb2
  have hF1 : Blk w2 (w1.heap.size + 1) 28 [.int .i64 0, .int .i64 0] := by
    rw [hw2]
    have := blk0 (w := w1.alloc (.cells #[.int .i64 n, (.slice va vl vc), .int .i64 e, (.slice ia il ic)] 65)) (T := 28) (.int .i64 0) (.int .i64 0)
    rwa [World.size_alloc] at this
  have hH2 : Blk w2 w1.heap.size 65 [.int .i64 n, (.slice va vl vc), .int .i64 e, (.slice ia il ic)] := by
    rw [hw2]; exact (blk4 _ _ _ _).alloc _
  have hBw2 := bcat BG.bel hB1 BG.bel.size
  have hR2 := blk_below BG.res hB1
  have hT2 := hT.below hBw2
  have hGA2 : GA w2 n (.slice va vl vc) e (.slice ia il ic) zs := ⟨hg, hv.below hBw2, (hSI.below hb2).sl⟩
  obtain ⟨t0, t1, _, _⟩ := hF1.two
  obtain ⟨_, h0, h1, h2, h3, _⟩ := Four.mk' hH2
  have hx2 := blk_below BG.box hB1
  have HZ1 := hide (Nat.le_trans HZ0.out hb1.size)
  have HZ2 := hide hb2.size
  rw [hw2] at t0 t1 h0 h1 h2 h3
  have hn := hg.tab.le
  go_wp2
  rw [← hw2]
  clear hw2 t0 t1 h0 h1 h2 h3
  go_loopw [9, 25] (fun s i wr => ∃ k : Nat, k ≤ n ∧ i = .int .i64 k ∧ s = .int .u64 (bs (cloq n zs e (pset l0) k) n) ∧ Below w2.heap.size w2 wr) (fun _ i _ => n - (intOf i).toNat)
  case atStart => exact ⟨0, Nat.zero_le _, rfl, by rw [show bs (cloq n zs e (pset l0) 0) n = 0 from bs_none n]; rfl, Below.refl _ _⟩
  case round =>
    obtain ⟨k, hk, rfl, rfl, hB⟩ := hrel
    obtain ⟨_, g0, g1, g2, g3, _⟩ := Four.mk' (blk_below hH2 hB)
    by_cases hlt : k < n
    · have hop : bits BinOp.or IntKind.u64 (bs (cloq n zs e (pset l0) k) n : Int) (bs (cjq n zs e (pset l0) k) n : Int) = (bs (cloq n zs e (pset l0) (k + 1)) n : Int) := by
        rw [or_bs _ _ hn]
        congr 2
        funext y
        simp [cloq, List.range_succ]
      have HCJ := hide (conjd_ok n (.slice va vl vc) (.slice ia il ic) zs e k (pset l0) wr (hGA2.below hB) (hT2.below hB) hlt)
      generalize bs (cjq n zs e (pset l0) k) n = C at *
      go_wp2_with fail
      refine HCJ.out.mono ?_
      rintro x w7 ⟨rfl, hb7⟩
      have hB7 := bcat2 hB hb7
      clear g0 g1 g2 g3
      go_wp2
      go_roundw
      case rel => exact ⟨k + 1, by omega, by go_num, rfl, hB7⟩
      case measure => simp [intOf]; omega
    · have hkn : k = n := by omega
      subst hkn
      go_wp2_with fail
      refine (made_ok k _ _ zs e (cloq k zs e (pset l0) k) p wr (hGA2.below hB) (hT2.below hB) HPP.out).mono ?_
      rintro x w7 ⟨rfl, hb7⟩
      have hB7 := bcat2 hB hb7
      go_wp2_with fail
      refine (list_ok k p w7 hn (hT2.below hB7)).mono ?_
      rintro x w8 ⟨r, rfl, hr, hb8⟩
      have hb9 := bcat2 hB7 hb8
      have hB9 := bcat hBw2 hb9 hBw2.size
      obtain ⟨_, y0, y1, fy0, fy1, s0, s1⟩ := Two.mk' (blk_below hR2 hb9)
      have hr9 := hr.mono (show w.heap.size ≤ w7.heap.size from Nat.le_trans hBw2.size hB7.size)
      clear g0 g1 g2 g3
      go_wp2
      exact bodyPost_ret (v := .tuple #[r, .agg #[.int .i64 0, .int .i64 0]]) (by simp [results, Tryd.results81, go_sem, y0, y1]) rfl ⟨_, rfl, hr9, hB9⟩

end Go.Proofs.YtodabkjadejekaaDoor
