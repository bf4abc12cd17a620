/- What package sub's Made and Is answer, and its openedSubgroup: at every table and every list. Condition: the library's table of places lies as its text lays it. -/
import Derived.Test.YtodabkjadejekaaDoorOps
namespace Go.Proofs.YtodabkjadejekaaDoor
open Go Go.RowKit

set_option maxRecDepth 100000 in
set_option maxHeartbeats 4000000 in
theorem mde_bad (N : Int) (v u0 : Value) (zs l0 : List Int) (w : World) (hv : Sl w v zs) (hu : Sl w u0 l0) (hc : (sfault N zs l0).1 ≠ 0) :
    Calls Tryd.prog 31 #[.agg #[.int .i64 N, v], u0] w fun x w' => x = .returned (.tuple #[.slice none 0 0, .agg #[.int .i64 (sfault N zs l0).1, .int .i64 (sfault N zs l0).2]]) ∧ Below w.heap.size w w' := by
  obtain ⟨w0, BG⟩ := Beg.new w N v
  have hv0 := hv.below BG.bel
  obtain ⟨c0, c1, _, _⟩ := BG.box.two
  have hck := oset_bad N v u0 zs l0 w0 hv0 (hu.below BG.bel) hc
  obtain ⟨c, i, hci⟩ : ∃ c i, sfault N zs l0 = (c, i) := ⟨_, _, rfl⟩
  rw [hci] at hck hc ⊢
  simp only at hc hck
  have HCK := hide hck
  clear hck hci
  have hcb : (c != 0) = true := by simpa using hc
  rw [BG.eq] at c0 c1
  go_enter Tryd.func31, Tryd.ntmps31
  go_wp2_with fail
  rw [← BG.eq]
  refine HCK.out.mono ?_
  rintro x w1 ⟨rfl, hb1⟩
  clear c0 c1
  obtain ⟨w2, hw2⟩ : ∃ w2, w2 = (w1.alloc (.cells #[.int .i64 0, .slice none 0 0, .int .i64 0, .slice none 0 0] 65)).alloc (.cells #[.int .i64 c, .int .i64 i] 28) := ⟨_, rfl⟩
  have hB1 : Below w0.heap.size w0 w2 := by rw [hw2]; exact bcat2 hb1 ((balloc w1 _).alloc (by simp) _)
  have hF1 : Blk w2 (w1.heap.size + 1) 28 [.int .i64 c, .int .i64 i] := by
    rw [hw2]
    have := blk0 (w := w1.alloc (.cells #[.int .i64 0, .slice none 0 0, .int .i64 0, .slice none 0 0] 65)) (T := 28) (.int .i64 c) (.int .i64 i)
    rwa [World.size_alloc] at this
  have hR1 := blk_below BG.res hB1
  have hBw := bcat BG.bel hB1 BG.bel.size
  obtain ⟨y0, y1, fy0, fy1⟩ := hR1.two
  obtain ⟨t0, t1, _, _⟩ := hF1.two
  rw [hw2] at t0 t1
  go_wp2_with fail
  rw [← hw2]
  rw [← hw2] at t0 t1
  clear hw2
  go_region
  all_goals (
    go_wp2
    obtain ⟨hR6, hB6⟩ := put2 hR1 hBw (by omega) c i
    have hB7 := bdrew hB6
    have hR7 : Blk ((w2.setCell ⟨w.heap.size + 1, 0, none⟩ (.int .i64 c)).setCell ⟨w.heap.size + 1, 1, none⟩ (.int .i64 i)).drew (w.heap.size + 1) 28 [.int .i64 c, .int .i64 i] := hR6
    generalize ((w2.setCell ⟨w.heap.size + 1, 0, none⟩ (.int .i64 c)).setCell ⟨w.heap.size + 1, 1, none⟩ (.int .i64 i)).drew = W at hR7 hB7 ⊢
    obtain ⟨z0, z1, _, _⟩ := hR7.two
    exact bodyPost_ret (v := .tuple #[.slice none 0 0, .agg #[.int .i64 c, .int .i64 i]]) (by simp [results, Tryd.results31, go_sem, z0, z1]) rfl ⟨rfl, hB7⟩)

set_option maxRecDepth 100000 in
set_option maxHeartbeats 4000000 in
theorem mde_good (n e : Nat) (v u0 : Value) (zs l0 : List Int) (p : Nat → Bool) (w : World) (hv : Sl w v zs) (hg : IsGrp n zs e) (hu : Sl w u0 l0) (hT : Tab w) (hc : lfault n l0 = (0, 0)) (hp : ∀ a, a < n → (p a = true ↔ Mkd n zs e (pset l0) a)) :
    Calls Tryd.prog 31 #[.agg #[.int .i64 n, v], u0] w fun x w' => ∃ r, x = .returned (.tuple #[r, .agg #[.int .i64 0, .int .i64 0]]) ∧ SlF w.heap.size w' r (li (lst n p)) ∧ Below w.heap.size w w' := by
  obtain ⟨va, vl, vc, rfl⟩ := hv.isSlice
  obtain ⟨w0, BG⟩ := Beg.new w n (.slice va vl vc)
  have hv0 := hv.below BG.bel
  obtain ⟨c0, c1, _, _⟩ := BG.box.two
  have HCK := hide (oset_good n e (.slice va vl vc) u0 zs l0 w0 hv0 hg (hu.below BG.bel) hc)
  have HZ0 := hide (show w.heap.size + 2 ≤ w0.heap.size by rw [BG.eq]; simp)
  rw [BG.eq] at c0 c1
  go_enter Tryd.func31, Tryd.ntmps31
  go_wp2_with fail
  rw [← BG.eq]
  refine HCK.out.mono ?_
  rintro x w1 ⟨iv9, rfl, hSI, hb1⟩
  obtain ⟨ia, il, ic, rfl⟩ := hSI.sl.isSlice
  clear c0 c1 HCK
  obtain ⟨w2, hw2⟩ : ∃ w2, w2 = (w1.alloc (.cells #[.int .i64 n, (.slice va vl vc), .int .i64 e, (.slice ia il ic)] 65)).alloc (.cells #[.int .i64 0, .int .i64 0] 28) := ⟨_, rfl⟩
  have hb2 : Below w1.heap.size w1 w2 := by rw [hw2]; exact (balloc w1 _).alloc (by simp) _
  have hB1 : Below w0.heap.size w0 w2 := bcat2 hb1 hb2
  have hF1 : Blk w2 (w1.heap.size + 1) 28 [.int .i64 0, .int .i64 0] := by
    rw [hw2]
    have := blk0 (w := w1.alloc (.cells #[.int .i64 n, (.slice va vl vc), .int .i64 e, (.slice ia il ic)] 65)) (T := 28) (.int .i64 0) (.int .i64 0)
    rwa [World.size_alloc] at this
  have hH2 : Blk w2 w1.heap.size 65 [.int .i64 n, (.slice va vl vc), .int .i64 e, (.slice ia il ic)] := by
    rw [hw2]; exact (blk4 _ _ _ _).alloc _
  have hBw2 := bcat BG.bel hB1 BG.bel.size
  have hR2 := blk_below BG.res hB1
  have hT2 := hT.below hBw2
  have hGA2 : GA w2 n (.slice va vl vc) e (.slice ia il ic) zs := ⟨hg, hv.below hBw2, (hSI.below hb2).sl⟩
  obtain ⟨t0, t1, _, _⟩ := hF1.two
  obtain ⟨_, h0, h1, h2, h3, _⟩ := Four.mk' hH2
  have hx2 := blk_below BG.box hB1
  have HZ1 := hide (Nat.le_trans HZ0.out hb1.size)
  have HZ2 := hide hb2.size
  rw [hw2] at t0 t1 h0 h1 h2 h3
  go_wp2_with fail
  rw [← hw2]
  clear hw2 t0 t1 h0 h1 h2 h3
  refine (made_ok n _ _ zs e (pset l0) p w2 hGA2 hT2 hp).mono ?_
  rintro x w3 ⟨rfl, hb3⟩
  go_wp2_with fail
  refine (list_ok n p w3 hg.tab.le (hT2.below hb3)).mono ?_
  rintro x w4 ⟨r, rfl, hr, hb4⟩
  have hb5 := bcat2 hb3 hb4
  have hB5 := bcat hBw2 hb5 hBw2.size
  obtain ⟨_, y0, y1, fy0, fy1, s0, s1⟩ := Two.mk' (blk_below hR2 hb5)
  have hr9 := hr.mono (show w.heap.size ≤ w3.heap.size from Nat.le_trans hBw2.size hb3.size)
  go_wp2
  exact bodyPost_ret (v := .tuple #[r, .agg #[.int .i64 0, .int .i64 0]]) (by simp [results, Tryd.results31, go_sem, y0, y1]) rfl ⟨_, rfl, hr9, hB5⟩

/-- Is a set a subgroup? -/
def subT (n : Nat) (zs : List Int) (e : Nat) (q : Nat → Bool) : Bool := q e && (List.range n).all fun a => (List.range n).all fun b => !(q a && q b) || q (tm n zs a b)
theorem subT_iff {n : Nat} {zs : List Int} {e : Nat} {q : Nat → Bool} : subT n zs e q = true ↔ Fin.Sg (List.range n) (tm n zs) e (fun a => q a = true) := by
  unfold subT
  simp only [Bool.and_eq_true, List.all_eq_true]
  constructor
  · rintro ⟨h1, h2⟩
    refine ⟨h1, fun a b ha hb hqa hqb => ?_⟩
    have := h2 a ha b hb
    simpa [hqa, hqb] using this
  · rintro ⟨h1, h2⟩
    refine ⟨h1, fun a ha b hb => ?_⟩
    have := h2 a b ha hb
    cases hqa : q a <;> cases hqb : q b <;> simp_all
/-- A set is a subgroup just where it is all that it makes. -/
theorem subT_made {n : Nat} {zs : List Int} {e : Nat} {q p : Nat → Bool} (hp : ∀ a, a < n → (p a = true ↔ Mkd n zs e q a)) (he : e < n) (hm : ∀ a b, a < n → b < n → tm n zs a b < n) : subT n zs e q = decide (bs p n = bs q n) := by
  rw [Bool.eq_iff_iff, subT_iff, decide_eq_true_eq]
  constructor
  · intro S
    refine bs_ext fun a ha => ?_
    rw [Bool.eq_iff_iff, hp a ha]
    exact ⟨fun h => gen_self S h, fun h => Fin.Gen.base (List.mem_range.2 ha) h⟩
  · intro h
    have h1 := bs_inj h
    have S := Fin.Gen.sg (l := List.range n) (m := tm n zs) (e := e) (fun x => q x = true)
    refine ⟨?_, fun a b ha hb hqa hqb => ?_⟩
    · rw [← h1 e he, hp e he]; exact S.one
    · have ha := List.mem_range.1 ha
      have hb := List.mem_range.1 hb
      rw [← h1 _ (hm a b ha hb), hp _ (hm a b ha hb)]
      exact S.mul a b (List.mem_range.2 ha) (List.mem_range.2 hb) ((hp a ha).1 (by rw [h1 a ha]; exact hqa)) ((hp b hb).1 (by rw [h1 b hb]; exact hqb))
theorem mkd_test (n : Nat) (zs : List Int) (e : Nat) (q : Nat → Bool) : ∃ p : Nat → Bool, ∀ a, a < n → (p a = true ↔ Mkd n zs e q a) := by
  obtain ⟨p, hp⟩ := Fin.test_of (Mkd n zs e q)
  exact ⟨p, fun a _ => hp a⟩
/-- What is wrong with a table, then with a list as its set, then with that as a subgroup. -/
def ufault (N : Int) (zs ls : List Int) : Int × Int := if (sfault N zs ls).1 ≠ 0 then sfault N zs ls else if subT N.toNat zs (one N.toNat zs).toNat (pset ls) then (0, 0) else (7, 0)
theorem ufault_s {N : Int} {zs ls : List Int} (h : (sfault N zs ls).1 ≠ 0) : ufault N zs ls = sfault N zs ls := if_pos h
theorem ufault_u {n e : Nat} {zs ls : List Int} (g : IsGrp n zs e) (h : lfault n ls = (0, 0)) : ufault n zs ls = if subT n zs e (pset ls) then (0, 0) else (7, 0) := by
  unfold ufault
  rw [sfault_l g, h, if_neg (by simp), Int.toNat_natCast, g.one, Int.toNat_natCast]
theorem ufault_cases (N : Int) (zs ls : List Int) (h : (ufault N zs ls).1 ≠ 0) : ((sfault N zs ls).1 ≠ 0 ∧ ufault N zs ls = sfault N zs ls) ∨ ∃ n e : Nat, N = n ∧ IsGrp n zs e ∧ lfault n ls = (0, 0) ∧ subT n zs e (pset ls) = false ∧ ufault N zs ls = (7, 0) := by
  by_cases hs : (sfault N zs ls).1 = 0
  · obtain ⟨n, e, rfl, hg, hl, _⟩ := sfault_zero hs
    rw [ufault_u hg hl] at h ⊢
    cases hb : subT n zs e (pset ls)
    · exact .inr ⟨n, e, rfl, hg, hl, hb, rfl⟩
    · rw [hb] at h; simp at h
  · exact .inl ⟨hs, ufault_s hs⟩
theorem ufault_zero {N : Int} {zs ls : List Int} (h : (ufault N zs ls).1 = 0) : ∃ n e : Nat, N = n ∧ IsGrp n zs e ∧ lfault n ls = (0, 0) ∧ subT n zs e (pset ls) = true ∧ ufault N zs ls = (0, 0) := by
  by_cases hs : (sfault N zs ls).1 = 0
  · obtain ⟨n, e, rfl, hg, hl, _⟩ := sfault_zero hs
    rw [ufault_u hg hl] at h ⊢
    cases hb : subT n zs e (pset ls)
    · rw [hb] at h; simp at h
    · exact ⟨n, e, rfl, hg, hl, hb, rfl⟩
  · rw [ufault_s hs] at h
    exact absurd h hs

set_option maxRecDepth 100000 in
set_option maxHeartbeats 4000000 in
theorem is_bad (N : Int) (v u0 : Value) (zs l0 : List Int) (w : World) (hv : Sl w v zs) (hu : Sl w u0 l0) (hc : (sfault N zs l0).1 ≠ 0) :
    Calls Tryd.prog 28 #[.agg #[.int .i64 N, v], u0] w fun x w' => x = .returned (.tuple #[.bool false, .agg #[.int .i64 (sfault N zs l0).1, .int .i64 (sfault N zs l0).2]]) ∧ Below w.heap.size w w' := by
  obtain ⟨w0, BG⟩ := Beg.new w N v
  have hv0 := hv.below BG.bel
  obtain ⟨c0, c1, _, _⟩ := BG.box.two
  have hck := oset_bad N v u0 zs l0 w0 hv0 (hu.below BG.bel) hc
  obtain ⟨c, i, hci⟩ : ∃ c i, sfault N zs l0 = (c, i) := ⟨_, _, rfl⟩
  rw [hci] at hck hc ⊢
  simp only at hc hck
  have HCK := hide hck
  clear hck hci
  have hcb : (c != 0) = true := by simpa using hc
  rw [BG.eq] at c0 c1
  go_enter Tryd.func28, Tryd.ntmps28
  go_wp2_with fail
  rw [← BG.eq]
  refine HCK.out.mono ?_
  rintro x w1 ⟨rfl, hb1⟩
  clear c0 c1
  obtain ⟨w2, hw2⟩ : ∃ w2, w2 = (w1.alloc (.cells #[.int .i64 0, .slice none 0 0, .int .i64 0, .slice none 0 0] 65)).alloc (.cells #[.int .i64 c, .int .i64 i] 28) := ⟨_, rfl⟩
  have hB1 : Below w0.heap.size w0 w2 := by rw [hw2]; exact bcat2 hb1 ((balloc w1 _).alloc (by simp) _)
  have hF1 : Blk w2 (w1.heap.size + 1) 28 [.int .i64 c, .int .i64 i] := by
    rw [hw2]
    have := blk0 (w := w1.alloc (.cells #[.int .i64 0, .slice none 0 0, .int .i64 0, .slice none 0 0] 65)) (T := 28) (.int .i64 c) (.int .i64 i)
    rwa [World.size_alloc] at this
  have hR1 := blk_below BG.res hB1
  have hBw := bcat BG.bel hB1 BG.bel.size
  obtain ⟨y0, y1, fy0, fy1⟩ := hR1.two
  obtain ⟨t0, t1, _, _⟩ := hF1.two
  rw [hw2] at t0 t1
  go_wp2_with fail
  rw [← hw2]
  rw [← hw2] at t0 t1
  clear hw2
  go_region
  all_goals (
    go_wp2
    obtain ⟨hR6, hB6⟩ := put2 hR1 hBw (by omega) c i
    have hB7 := bdrew hB6
    have hR7 : Blk ((w2.setCell ⟨w.heap.size + 1, 0, none⟩ (.int .i64 c)).setCell ⟨w.heap.size + 1, 1, none⟩ (.int .i64 i)).drew (w.heap.size + 1) 28 [.int .i64 c, .int .i64 i] := hR6
    generalize ((w2.setCell ⟨w.heap.size + 1, 0, none⟩ (.int .i64 c)).setCell ⟨w.heap.size + 1, 1, none⟩ (.int .i64 i)).drew = W at hR7 hB7 ⊢
    obtain ⟨z0, z1, _, _⟩ := hR7.two
    exact bodyPost_ret (v := .tuple #[.bool false, .agg #[.int .i64 c, .int .i64 i]]) (by simp [results, Tryd.results28, go_sem, z0, z1]) rfl ⟨rfl, hB7⟩)

set_option maxRecDepth 100000 in
set_option maxHeartbeats 4000000 in
theorem is_good (n e : Nat) (v u0 : Value) (zs l0 : List Int) (w : World) (hv : Sl w v zs) (hg : IsGrp n zs e) (hu : Sl w u0 l0) (hT : Tab w) (hc : lfault n l0 = (0, 0)) :
    Calls Tryd.prog 28 #[.agg #[.int .i64 n, v], u0] w fun x w' => x = .returned (.tuple #[.bool (subT n zs e (pset l0)), .agg #[.int .i64 0, .int .i64 0]]) ∧ Below w.heap.size w w' := by
  obtain ⟨va, vl, vc, rfl⟩ := hv.isSlice
  obtain ⟨p, hp⟩ := mkd_test n zs e (pset l0)
  have heq := subT_made hp hg.elt (fun a b ha hb => tm_lt hg.tab ha hb)
  obtain ⟨w0, BG⟩ := Beg.new w n (.slice va vl vc)
  have hv0 := hv.below BG.bel
  obtain ⟨c0, c1, _, _⟩ := BG.box.two
  have HCK := hide (oset_good n e (.slice va vl vc) u0 zs l0 w0 hv0 hg (hu.below BG.bel) hc)
  have HZ0 := hide (show w.heap.size + 2 ≤ w0.heap.size by rw [BG.eq]; simp)
  rw [BG.eq] at c0 c1
  go_enter Tryd.func28, Tryd.ntmps28
  go_wp2_with fail
  rw [← BG.eq]
  refine HCK.out.mono ?_
  rintro x w1 ⟨iv9, rfl, hSI, hb1⟩
  obtain ⟨ia, il, ic, rfl⟩ := hSI.sl.isSlice
  clear c0 c1 HCK
  obtain ⟨w2, hw2⟩ : ∃ w2, w2 = (w1.alloc (.cells #[.int .i64 n, (.slice va vl vc), .int .i64 e, (.slice ia il ic)] 65)).alloc (.cells #[.int .i64 0, .int .i64 0] 28) := ⟨_, rfl⟩
  have hb2 : Below w1.heap.size w1 w2 := by rw [hw2]; exact (balloc w1 _).alloc (by simp) _
  have hB1 : Below w0.heap.size w0 w2 := bcat2 hb1 hb2
  have hF1 : Blk w2 (w1.heap.size + 1) 28 [.int .i64 0, .int .i64 0] := by
    rw [hw2]
    have := blk0 (w := w1.alloc (.cells #[.int .i64 n, (.slice va vl vc), .int .i64 e, (.slice ia il ic)] 65)) (T := 28) (.int .i64 0) (.int .i64 0)
    rwa [World.size_alloc] at this
  have hH2 : Blk w2 w1.heap.size 65 [.int .i64 n, (.slice va vl vc), .int .i64 e, (.slice ia il ic)] := by
    rw [hw2]; exact (blk4 _ _ _ _).alloc _
  have hBw2 := bcat BG.bel hB1 BG.bel.size
  have hR2 := blk_below BG.res hB1
  have hT2 := hT.below hBw2
  have hGA2 : GA w2 n (.slice va vl vc) e (.slice ia il ic) zs := ⟨hg, hv.below hBw2, (hSI.below hb2).sl⟩
  obtain ⟨t0, t1, _, _⟩ := hF1.two
  obtain ⟨_, h0, h1, h2, h3, _⟩ := Four.mk' hH2
  have hx2 := blk_below BG.box hB1
  have HZ1 := hide (Nat.le_trans HZ0.out hb1.size)
  have HZ2 := hide hb2.size
  rw [hw2] at t0 t1 h0 h1 h2 h3
  go_wp2_with fail
  rw [← hw2]
  clear hw2 t0 t1 h0 h1 h2 h3
  refine (made_ok n _ _ zs e (pset l0) p w2 hGA2 hT2 hp).mono ?_
  rintro x w3 ⟨rfl, hb3⟩
  have hB5 := bcat hBw2 hb3 hBw2.size
  obtain ⟨_, y0, y1, fy0, fy1, s0, s1⟩ := Two.mk' (blk_below hR2 hb3)
  have HE := hide heq
  clear heq
  by_cases hb : bs p n = bs (pset l0) n
  · rw [hb] at HE ⊢
    go_wp2
    exact bodyPost_ret (v := .tuple #[.bool true, .agg #[.int .i64 0, .int .i64 0]]) (by simp [results, Tryd.results28, go_sem, y0, y1]) rfl ⟨by rw [HE.out]; simp, hB5⟩
  · have hbi : ¬ ((bs p n : Nat) : Int) = ((bs (pset l0) n : Nat) : Int) := by omega
    rw [decide_eq_false hb] at HE
    go_wp2
    exact bodyPost_ret (v := .tuple #[.bool false, .agg #[.int .i64 0, .int .i64 0]]) (by simp [results, Tryd.results28, go_sem, y0, y1, hbi]) rfl ⟨by rw [HE.out], hB5⟩

end Go.Proofs.YtodabkjadejekaaDoor
