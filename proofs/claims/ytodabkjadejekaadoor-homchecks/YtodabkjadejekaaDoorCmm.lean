/- What package sub's commutator and Comm answer. Condition: the library's table of places lies as its text lays it. -/
import Derived.Test.YtodabkjadejekaaDoorCen
namespace Go.Proofs.YtodabkjadejekaaDoor
open Go Go.RowKit

set_option maxRecDepth 100000 in
set_option maxHeartbeats 2000000 in
theorem cmt_ok (n : Nat) (v u : Value) (zs : List Int) (e a b : Nat) (w : World) (hG : GA w n v e u zs) (ha : a < n) (hb : b < n) :
    Calls Tryd.prog 110 #[.agg #[.int .i64 n, v, .int .i64 e, u], .int .i64 a, .int .i64 b] w fun y w' => y = .returned (.int .i64 (Fin.cm (tm n zs) (iv n zs e) a b)) ∧ Below w.heap.size w w' := by
  obtain ⟨hi, hi1, hi2, _⟩ := iv_spec hG.grp ha
  obtain ⟨hj, _, _, _⟩ := iv_spec hG.grp hb
  have hct : Fin.cj (tm n zs) (iv n zs e) a b < n := List.mem_range.1 (Fin.cj_mem (grp_fg hG.grp) (grp_iv hG.grp) (List.mem_range.2 ha) (List.mem_range.2 hb))
  have heq : Fin.cm (tm n zs) (iv n zs e) a b = tm n zs (iv n zs e a) (Fin.cj (tm n zs) (iv n zs e) a b) := by
    unfold Fin.cm Fin.cj
    rw [hG.grp.ass _ _ _ hi hj (tm_lt hG.grp.tab ha hb)]
  rw [heq]
  have hB0 : Below w.heap.size w (w.alloc (.cells #[.int .i64 n, v, .int .i64 e, u] 65)) := balloc w _
  have N0 := Box4.new w n e v u
  have hG0 := hG.below hB0
  obtain ⟨w0, hw0⟩ : ∃ w0, w0 = w.alloc (.cells #[.int .i64 n, v, .int .i64 e, u] 65) := ⟨_, rfl⟩
  rw [← hw0] at hB0 N0 hG0
  have HP1 := hide (fun W (h : Below w0.heap.size w0 W) => conj_ok n v u zs e a b W (hG0.below h) ha hb)
  have HP2 := hide (fun W (h : Below w0.heap.size w0 W) => prd_ok n v u zs e (iv n zs e a) (Fin.cj (tm n zs) (iv n zs e) a b) W hG.grp.tab (hG0.mul.below h) hi hct)
  obtain ⟨y, cap, pb, po, rfl, hr, hp, hq3, hq4⟩ := hG0.inv
  rw [ivs_len] at hq3
  have hiv := hr.cell a (by rw [ivs_len]; exact ha)
  rw [ivs_at ha] at hiv
  obtain rfl := hr.at_ (by rw [ivs_len]; omega)
  rw [ivs_len] at *
  clear hr hG hG0 hi1 hi2 heq
  generalize tm n zs (iv n zs e a) (Fin.cj (tm n zs) (iv n zs e) a b) = r at *
  generalize Fin.cj (tm n zs) (iv n zs e) a b = t at *
  generalize iv n zs e a = i at *
  have hai : (a : Int) < (n : Int) := by omega
  have hS : ∀ W, Below w0.heap.size w0 W → (Below w0.heap.size w0 W ∧ W.cell? ⟨w.heap.size, 0, none⟩ = some (.int .i64 n) ∧ W.cell? ⟨w.heap.size, 1, none⟩ = some v ∧ W.cell? ⟨w.heap.size, 2, none⟩ = some (.int .i64 e) ∧ W.cell? ⟨w.heap.size, 3, none⟩ = some (.slice (some ⟨pb, po, none⟩) n cap) ∧ W.cell? ⟨pb, po + a, none⟩ = some (.int .i64 i)) := fun W h => by
    obtain ⟨c0, c1, c2, c3⟩ := (N0.below h).cells
    exact ⟨h, c0, c1, c2, c3, below_cell h hiv⟩
  have hS0 := hS _ (bdrew (Below.refl _ w0))
  clear hiv N0
  go_enter Tryd.func110, Tryd.ntmps110
  go_wp2_with fail
  rw [← hw0]
  clear hw0
  go_region_held3 (fun W => Below w0.heap.size w0 W ∧ W.cell? ⟨w.heap.size, 0, none⟩ = some (.int .i64 n) ∧ W.cell? ⟨w.heap.size, 1, none⟩ = some v ∧ W.cell? ⟨w.heap.size, 2, none⟩ = some (.int .i64 e) ∧ W.cell? ⟨w.heap.size, 3, none⟩ = some (.slice (some ⟨pb, po, none⟩) n cap) ∧ W.cell? ⟨pb, po + a, none⟩ = some (.int .i64 i))
    (first | exact hS0 | assumption | exact hS _ (bcat2 (And.left ‹_›) hl1))
    (first
      | (go_at_call 94; refine (HP1.out _ (And.left ‹_›)).mono ?_; rintro e1 W1 ⟨rfl, hl1⟩)
      | (go_at_call 105; refine (HP2.out _ (And.left ‹_›)).mono ?_; rintro e2 W2 ⟨rfl, hl1⟩))
  all_goals (
    have hB9 := And.left ‹Below w0.heap.size w0 W2 ∧ _›
    go_wp2
    go_ret
    exact ⟨rfl, bcat hB0 hB9 hB0.size⟩)

/-- The commutators of things of two lists. -/
def cmq (n : Nat) (zs : List Int) (e : Nat) (xs ys : List Nat) (y : Nat) : Bool := xs.any fun a => ys.any fun b => decide (Fin.cm (tm n zs) (iv n zs e) a b = y)
theorem bs_put {n t : Nat} {p q : Nat → Bool} (hn : n ≤ 60) (h : ∀ y, q y = (p y || decide (y = t))) : bits BinOp.or IntKind.u64 (bs p n : Int) (bs (fun y => decide (y = t)) n : Int) = (bs q n : Int) := by
  rw [or_bs p _ hn]
  congr 2
  funext y
  rw [h y]

set_option maxRecDepth 100000 in
set_option maxHeartbeats 4000000 in
theorem comm_bad (N : Int) (v u0 u1 : Value) (zs l0 : List Int) (w : World) (hv : Sl w v zs) (hu : Sl w u0 l0) (hc : (sfault N zs l0).1 ≠ 0) :
    Calls Tryd.prog 82 #[.agg #[.int .i64 N, v], u0, u1] w fun x w' => x = .returned (.tuple #[.slice none 0 0, .agg #[.int .i64 (sfault N zs l0).1, .int .i64 (sfault N zs l0).2]]) ∧ Below w.heap.size w w' := by
  obtain ⟨w0, BG⟩ := Beg.new w N v
  have hv0 := hv.below BG.bel
  obtain ⟨c0, c1, _, _⟩ := BG.box.two
  have hck := oset_bad N v u0 zs l0 w0 hv0 (hu.below BG.bel) hc
  obtain ⟨c, i, hci⟩ : ∃ c i, sfault N zs l0 = (c, i) := ⟨_, _, rfl⟩
  rw [hci] at hck hc ⊢
  simp only at hc hck
  have HCK := hide hck
  clear hck hci
  have hcb : (c != 0) = true := by simpa using hc
  rw [BG.eq] at c0 c1
  go_enter Tryd.func82, Tryd.ntmps82
  go_wp2_with fail
  rw [← BG.eq]
  refine HCK.out.mono ?_
  rintro x w1 ⟨rfl, hb1⟩
  clear c0 c1
  obtain ⟨w2, hw2⟩ : ∃ w2, w2 = (w1.alloc (.cells #[.int .i64 0, .slice none 0 0, .int .i64 0, .slice none 0 0] 65)).alloc (.cells #[.int .i64 c, .int .i64 i] 28) := ⟨_, rfl⟩
  have hB1 : Below w0.heap.size w0 w2 := by rw [hw2]; exact bcat2 hb1 ((balloc w1 _).alloc (by simp) _)
  have hF1 : Blk w2 (w1.heap.size + 1) 28 [.int .i64 c, .int .i64 i] := by
    rw [hw2]
    have := blk0 (w := w1.alloc (.cells #[.int .i64 0, .slice none 0 0, .int .i64 0, .slice none 0 0] 65)) (T := 28) (.int .i64 c) (.int .i64 i)
    rwa [World.size_alloc] at this
  have hR1 := blk_below BG.res hB1
  have hBw := bcat BG.bel hB1 BG.bel.size
  obtain ⟨y0, y1, fy0, fy1⟩ := hR1.two
  obtain ⟨t0, t1, _, _⟩ := hF1.two
  rw [hw2] at t0 t1
  go_wp2_with fail
  rw [← hw2]
  rw [← hw2] at t0 t1
  clear hw2
  go_region
  all_goals (
    go_wp2
    obtain ⟨hR6, hB6⟩ := put2 hR1 hBw (by omega) c i
    have hB7 := bdrew hB6
    have hR7 : Blk ((w2.setCell ⟨w.heap.size + 1, 0, none⟩ (.int .i64 c)).setCell ⟨w.heap.size + 1, 1, none⟩ (.int .i64 i)).drew (w.heap.size + 1) 28 [.int .i64 c, .int .i64 i] := hR6
    generalize ((w2.setCell ⟨w.heap.size + 1, 0, none⟩ (.int .i64 c)).setCell ⟨w.heap.size + 1, 1, none⟩ (.int .i64 i)).drew = W at hR7 hB7 ⊢
    obtain ⟨z0, z1, _, _⟩ := hR7.two
    exact bodyPost_ret (v := .tuple #[.slice none 0 0, .agg #[.int .i64 c, .int .i64 i]]) (by simp [results, Tryd.results82, go_sem, z0, z1]) rfl ⟨rfl, hB7⟩)

set_option maxRecDepth 100000 in
set_option maxHeartbeats 4000000 in
theorem commx_good (n e : Nat) (v u0 u1 : Value) (zs l0 l1 : List Int) (w : World) (hv : Sl w v zs) (hg : IsGrp n zs e) (hu : Sl w u0 l0) (hT : Tab w) (hc : lfault n l0 = (0, 0)) (hu1 : Sl w u1 l1) (hc1 : (lfault n l1).1 ≠ 0) :
    Calls Tryd.prog 82 #[.agg #[.int .i64 n, v], u0, u1] w fun x w' => x = .returned (.tuple #[.slice none 0 0, .agg #[.int .i64 (lfault n l1).1, .int .i64 (lfault n l1).2]]) ∧ Below w.heap.size w w' := by
  obtain ⟨va, vl, vc, rfl⟩ := hv.isSlice
  obtain ⟨w0, BG⟩ := Beg.new w n (.slice va vl vc)
  have hv0 := hv.below BG.bel
  obtain ⟨c0, c1, _, _⟩ := BG.box.two
  have HCK := hide (oset_good n e (.slice va vl vc) u0 zs l0 w0 hv0 hg (hu.below BG.bel) hc)
  have HZ0 := hide (show w.heap.size + 2 ≤ w0.heap.size by rw [BG.eq]; simp)
  rw [BG.eq] at c0 c1
  go_enter Tryd.func82, Tryd.ntmps82
  go_wp2_with fail
  rw [← BG.eq]
  refine HCK.out.mono ?_
  rintro x w1 ⟨iv9, rfl, hSI, hb1⟩
  obtain ⟨ia, il, ic, rfl⟩ := hSI.sl.isSlice
  clear c0 c1 HCK
  obtain ⟨w2, hw2⟩ : ∃ w2, w2 = (w1.alloc (.cells #[.int .i64 n, (.slice va vl vc), .int .i64 e, (.slice ia il ic)] 65)).alloc (.cells #[.int .i64 0, .int .i64 0] 28) := ⟨_, rfl⟩
  have hb2 : Below w1.heap.size w1 w2 := by rw [hw2]; exact (balloc w1 _).alloc (by simp) _
  have hB1 : Below w0.heap.size w0 w2 := bcat2 hb1 hb2
  have hF1 : Blk w2 (w1.heap.size + 1) 28 [.int .i64 0, .int .i64 0] := by
    rw [hw2]
    have := blk0 (w := w1.alloc (.cells #[.int .i64 n, (.slice va vl vc), .int .i64 e, (.slice ia il ic)] 65)) (T := 28) (.int .i64 0) (.int .i64 0)
    rwa [World.size_alloc] at this
  have hH2 : Blk w2 w1.heap.size 65 [.int .i64 n, (.slice va vl vc), .int .i64 e, (.slice ia il ic)] := by
    rw [hw2]; exact (blk4 _ _ _ _).alloc _
  have hBw2 := bcat BG.bel hB1 BG.bel.size
  have hR2 := blk_below BG.res hB1
  have hT2 := hT.below hBw2
  have hGA2 : GA w2 n (.slice va vl vc) e (.slice ia il ic) zs := ⟨hg, hv.below hBw2, (hSI.below hb2).sl⟩
  obtain ⟨t0, t1, _, _⟩ := hF1.two
  obtain ⟨_, h0, h1, h2, h3, _⟩ := Four.mk' hH2
  have hx2 := blk_below BG.box hB1
  have HZ1 := hide (Nat.le_trans HZ0.out hb1.size)
  have HZ2 := hide hb2.size
  rw [hw2] at t0 t1 h0 h1 h2 h3
  obtain ⟨k0, k1, _, _⟩ := hx2.two
  rw [hw2] at k0 k1
  go_wp2_with fail
  rw [← hw2]
  clear hw2 t0 t1 h0 h1 h2 h3 k0 k1
  refine (setOf_any n u1 l1 w2 hg.tab.le (hu1.below hBw2)).mono ?_
  rw [show okN (lfault n l1).1 (bs (pset l1) n) = 0 from if_neg hc1]
  obtain ⟨c, i, hci⟩ : ∃ c i, lfault n l1 = (c, i) := ⟨_, _, rfl⟩
  rw [hci] at hc1
  simp only at hc1
  have HCI := hide hci
  simp only [hci]
  clear hci
  have hcb : (c != 0) = true := by simpa using hc1
  rintro x w3 ⟨rfl, hb3⟩
  have hF4 := blk0 (w := w3) (T := 28) (.int .i64 c) (.int .i64 i)
  have hb4 := bcat2 hb3 (balloc w3 (.cells #[.int .i64 c, .int .i64 i] 28))
  have hR4 := blk_below hR2 hb4
  have hBw := bcat hBw2 hb4 hBw2.size
  obtain ⟨t0, t1, _, _⟩ := hF4.two
  obtain ⟨y0, y1, fy0, fy1⟩ := hR4.two
  go_wp2_with fail
  generalize w3.alloc (.cells #[.int .i64 c, .int .i64 i] 28) = w4 at *
  go_region
  all_goals (
    go_wp2
    obtain ⟨hR6, hB6⟩ := put2 hR4 hBw (by omega) c i
    have hB7 := bdrew hB6
    have hR7 : Blk ((w4.setCell ⟨w.heap.size + 1, 0, none⟩ (.int .i64 c)).setCell ⟨w.heap.size + 1, 1, none⟩ (.int .i64 i)).drew (w.heap.size + 1) 28 [.int .i64 c, .int .i64 i] := hR6
    generalize ((w4.setCell ⟨w.heap.size + 1, 0, none⟩ (.int .i64 c)).setCell ⟨w.heap.size + 1, 1, none⟩ (.int .i64 i)).drew = W at hR7 hB7 ⊢
    obtain ⟨z0, z1, _, _⟩ := hR7.two
    exact bodyPost_ret (v := .tuple #[.slice none 0 0, .agg #[.int .i64 c, .int .i64 i]]) (by simp [results, Tryd.results82, go_sem, z0, z1]) rfl ⟨by rw [HCI.out], hB7⟩)

set_option maxRecDepth 100000 in
set_option maxHeartbeats 4000000 in
theorem comm_good (n e : Nat) (v u0 u1 : Value) (zs l0 l1 : List Int) (p : Nat → Bool) (w : World) (hv : Sl w v zs) (hg : IsGrp n zs e) (hu : Sl w u0 l0) (hT : Tab w) (hc : lfault n l0 = (0, 0)) (hu1 : Sl w u1 l1) (hc1 : lfault n l1 = (0, 0)) (hp : ∀ a, a < n → (p a = true ↔ Mkd n zs e (cmq n zs e (lst n (pset l0)) (lst n (pset l1))) a)) :
    Calls Tryd.prog 82 #[.agg #[.int .i64 n, v], u0, u1] w fun x w' => ∃ r, x = .returned (.tuple #[r, .agg #[.int .i64 0, .int .i64 0]]) ∧ SlF w.heap.size w' r (li (lst n p)) ∧ Below w.heap.size w w' := by
  obtain ⟨va, vl, vc, rfl⟩ := hv.isSlice
  have L0 := hide (set_lst (show (lfault n l0).1 = 0 by rw [hc]))
  have L1 := hide (set_lst (show (lfault n l1).1 = 0 by rw [hc1]))
  obtain ⟨w0, BG⟩ := Beg.new w n (.slice va vl vc)
  have hv0 := hv.below BG.bel
  obtain ⟨c0, c1, _, _⟩ := BG.box.two
  have HCK := hide (oset_good n e (.slice va vl vc) u0 zs l0 w0 hv0 hg (hu.below BG.bel) hc)
  have HZ0 := hide (show w.heap.size + 2 ≤ w0.heap.size by rw [BG.eq]; simp)
  rw [BG.eq] at c0 c1
  go_enter Tryd.func82, Tryd.ntmps82
  go_wp2_with fail
  rw [← BG.eq]
  refine HCK.out.mono ?_
  rintro x w1 ⟨iv9, rfl, hSI, hb1⟩
  obtain ⟨ia, il, ic, rfl⟩ := hSI.sl.isSlice
  clear c0 c1 HCK
  obtain ⟨w2, hw2⟩ : ∃ w2, w2 = (w1.alloc (.cells #[.int .i64 n, (.slice va vl vc), .int .i64 e, (.slice ia il ic)] 65)).alloc (.cells #[.int .i64 0, .int .i64 0] 28) := ⟨_, rfl⟩
  have hb2 : Below w1.heap.size w1 w2 := by rw [hw2]; exact (balloc w1 _).alloc (by simp) _
  have hB1 : Below w0.heap.size w0 w2 := bcat2 hb1 hb2
  have hF1 : Blk w2 (w1.heap.size + 1) 28 [.int .i64 0, .int .i64 0] := by
    rw [hw2]
    have := blk0 (w := w1.alloc (.cells #[.int .i64 n, (.slice va vl vc), .int .i64 e, (.slice ia il ic)] 65)) (T := 28) (.int .i64 0) (.int .i64 0)
    rwa [World.size_alloc] at this
  have hH2 : Blk w2 w1.heap.size 65 [.int .i64 n, (.slice va vl vc), .int .i64 e, (.slice ia il ic)] := by
    rw [hw2]; exact (blk4 _ _ _ _).alloc _
  have hBw2 := bcat BG.bel hB1 BG.bel.size
  have hR2 := blk_below BG.res hB1
  have hT2 := hT.below hBw2
  have hGA2 : GA w2 n (.slice va vl vc) e (.slice ia il ic) zs := ⟨hg, hv.below hBw2, (hSI.below hb2).sl⟩
  obtain ⟨t0, t1, _, _⟩ := hF1.two
  obtain ⟨_, h0, h1, h2, h3, _⟩ := Four.mk' hH2
  have hx2 := blk_below BG.box hB1
  have HZ1 := hide (Nat.le_trans HZ0.out hb1.size)
  have HZ2 := hide hb2.size
  rw [hw2] at t0 t1 h0 h1 h2 h3
  obtain ⟨k0, k1, _, _⟩ := hx2.two
  rw [hw2] at k0 k1
  go_wp2_with fail
  rw [← hw2]
  clear hw2 t0 t1 h0 h1 h2 h3 k0 k1
  refine (setOf_any n u1 l1 w2 hg.tab.le (hu1.below hBw2)).mono ?_
  rw [hc1]
  simp only
  rw [show okN 0 (bs (pset l1) n) = bs (pset l1) n from rfl]
  rintro x w3 ⟨rfl, hb3⟩
  have hF4 := blk0 (w := w3) (T := 28) (.int .i64 0) (.int .i64 0)
  have hb4 := bcat2 hb3 (balloc w3 (.cells #[.int .i64 0, .int .i64 0] 28))
  obtain ⟨t0, t1, _, _⟩ := hF4.two
  have hn := hg.tab.le
  rw [L0.out] at hu
  rw [L1.out] at hu1
  obtain ⟨a0, cap0, pb0, po0, rfl, hr0, hp0, hq0, hm0⟩ := hu
  obtain ⟨a1, cap1, pb1, po1, rfl, hr1, hp1, hq1, hm1⟩ := hu1
  simp only [li_len] at *
  have HR0 := hide hr0
  have HR1 := hide hr1
  have HL0 := hide (li_len (lst n (pset l0)))
  have HL1 := hide (li_len (lst n (pset l1)))
  have hl0 := Nat.le_trans (lst_len n (pset l0)) hn
  have hl1 := Nat.le_trans (lst_len n (pset l1)) hn
  have HM0 := hide (fun x (h : x ∈ lst n (pset l0)) => (mem_lst.1 h).1)
  have HM1 := hide (fun x (h : x ∈ lst n (pset l1)) => (mem_lst.1 h).1)
  have HPP := hide hp
  clear hr0 hr1 hm0 hm1 hq0 hq1 L0 L1 hp hc hc1
  generalize lst n (pset l0) = xs at *
  generalize lst n (pset l1) = ys at *
  go_wp2
  clear t0 t1
  go_loopw [13, 42] (fun s i wr => ∃ k : Nat, k ≤ xs.length ∧ i = .int .i64 k ∧ s = .int .u64 (bs (cmq n zs e (xs.take k) ys) n) ∧ Below w2.heap.size w2 wr) (fun _ i _ => xs.length - (intOf i).toNat)
  case atStart => exact ⟨0, Nat.zero_le _, rfl, by rw [List.take_zero, show bs (cmq n zs e [] ys) n = 0 from bs_none n]; rfl, hb4⟩
  case round =>
    obtain ⟨k, hk, rfl, rfl, hB⟩ := hrel
    by_cases hlt : k < xs.length
    · have hck := (HR0.out.below (bcat hBw2 hB hBw2.size) hp0).cell k (by rw [HL0.out]; exact hlt)
      rw [li_get hlt] at hck
      obtain rfl := HR0.out.at_ (by rw [HL0.out]; omega)
      obtain ⟨x, hxe⟩ : ∃ x, xs[k] = x := ⟨_, rfl⟩
      have hxn : x < n := by rw [← hxe]; exact HM0.out _ (List.getElem_mem hlt)
      have hsn : xs.take (k + 1) = xs.take k ++ [x] := by rw [List.take_succ_eq_append_getElem hlt, hxe]
      rw [hxe] at hck
      have HSN := hide hsn
      clear hxe hsn
      go_wp2
      clear hck
      go_loopw [13, 48] (fun s i wr => ∃ j : Nat, j ≤ ys.length ∧ i = .int .i64 j ∧ s = .int .u64 (bs (fun y => cmq n zs e (xs.take k) ys y || (ys.take j).any fun b => decide (Fin.cm (tm n zs) (iv n zs e) x b = y)) n) ∧ Below w2.heap.size w2 wr) (fun _ i _ => ys.length - (intOf i).toNat)
      case atStart => exact ⟨0, Nat.zero_le _, rfl, by simp, hB⟩
      case round =>
        obtain ⟨j, hj, rfl, rfl, hB'⟩ := hrel
        clear hB
        by_cases hltj : j < ys.length
        · have hcj := (HR1.out.below (bcat hBw2 hB' hBw2.size) hp1).cell j (by rw [HL1.out]; exact hltj)
          rw [li_get hltj] at hcj
          obtain rfl := HR1.out.at_ (by rw [HL1.out]; omega)
          obtain ⟨y, hye⟩ : ∃ y, ys[j] = y := ⟨_, rfl⟩
          have hyn : y < n := by rw [← hye]; exact HM1.out _ (List.getElem_mem hltj)
          have hsn : ys.take (j + 1) = ys.take j ++ [y] := by rw [List.take_succ_eq_append_getElem hltj, hye]
          rw [hye] at hcj
          have hGr := hGA2.below hB'
          have hct : Fin.cm (tm n zs) (iv n zs e) x y < n := List.mem_range.1 (Fin.cm_mem (grp_fg hg) (grp_iv hg) (List.mem_range.2 hxn) (List.mem_range.2 hyn))
          have hor := bs_put (n := n) (t := Fin.cm (tm n zs) (iv n zs e) x y) (p := fun z => cmq n zs e (xs.take k) ys z || (ys.take j).any fun b => decide (Fin.cm (tm n zs) (iv n zs e) x b = z)) (q := fun z => cmq n zs e (xs.take k) ys z || (ys.take (j + 1)).any fun b => decide (Fin.cm (tm n zs) (iv n zs e) x b = z)) hn (fun z => by
            rw [hsn, List.any_append]
            simp only [List.any_cons, List.any_nil, Bool.or_false, Bool.or_assoc]
            congr 2
            rw [Bool.eq_iff_iff, decide_eq_true_eq, decide_eq_true_eq]
            exact eq_comm)
          have HCM := hide (cmt_ok n _ _ zs e x y wr hGr hxn hyn)
          have HOF := hide (fun W b (h : W.cell? ⟨b, 0, none⟩ = some (.int .i64 (Fin.cm (tm n zs) (iv n zs e) x y))) => of_one n b (Fin.cm (tm n zs) (iv n zs e) x y) W hn hct h)
          obtain ⟨_, g0, g1, g2, g3, _⟩ := Four.mk' (blk_below hH2 hB')
          generalize Fin.cm (tm n zs) (iv n zs e) x y = t at *
          generalize bs (fun z => decide (z = t)) n = T9 at *
          clear hsn hye
          go_wp2_with fail
          refine HCM.out.mono ?_
          rintro x9 w7 ⟨rfl, hb7⟩
          have hB8 := bcat hB' (bcat2 hb7 (balloc w7 (.cells #[.int .i64 t] 3))) hB'.size
          clear g0 g1 g2 g3
          go_wp2_with fail
          refine (HOF.out _ _ (cell1 _ _ _)).mono ?_
          rintro x9 w8 ⟨rfl, rfl⟩
          go_wp2
          go_roundw
          case rel => exact ⟨j + 1, by omega, by go_num, rfl, hB8⟩
          case measure => simp [intOf]; omega
        · have hjn : j = ys.length := by omega
          subst hjn
          have HE := hide (show bs (fun y => cmq n zs e (xs.take k) ys y || (ys.take ys.length).any fun b => decide (Fin.cm (tm n zs) (iv n zs e) x b = y)) n = bs (cmq n zs e (xs.take (k + 1)) ys) n from bs_ext fun y _ => by
            rw [List.take_length, HSN.out]
            simp [cmq])
          rw [HE.out]
          go_wp2
          go_roundw
          case rel => exact ⟨k + 1, by omega, by go_num, rfl, hB'⟩
          case measure => simp [intOf]; omega
    · have hkn : k = xs.length := by omega
      subst hkn
      rw [List.take_length]
      obtain ⟨_, g0, g1, g2, g3, _⟩ := Four.mk' (blk_below hH2 hB)
      go_wp2_with fail
      refine (made_ok n _ _ zs e (cmq n zs e xs ys) p wr (hGA2.below hB) (hT2.below hB) HPP.out).mono ?_
      rintro x9 w7 ⟨rfl, hb7⟩
      clear g0 g1 g2 g3
      go_wp2_with fail
      refine (list_ok n p w7 hn ((hT2.below hB).below hb7)).mono ?_
      rintro x9 w8 ⟨r, rfl, hr, hb8⟩
      have hb9 := bcat2 hB (bcat2 hb7 hb8)
      have hB9 := bcat hBw2 hb9 hBw2.size
      obtain ⟨_, y0, y1, fy0, fy1, s0, s1⟩ := Two.mk' (blk_below hR2 hb9)
      have hr9 := hr.mono (show w.heap.size ≤ w7.heap.size from Nat.le_trans hBw2.size (Nat.le_trans hB.size hb7.size))
      go_wp2
      exact bodyPost_ret (v := .tuple #[r, .agg #[.int .i64 0, .int .i64 0]]) (by simp [results, Tryd.results82, go_sem, y0, y1]) rfl ⟨_, rfl, hr9, hB9⟩

end Go.Proofs.YtodabkjadejekaaDoor
