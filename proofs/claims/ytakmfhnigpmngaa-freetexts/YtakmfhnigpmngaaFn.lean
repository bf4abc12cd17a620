/- What Root answers. -/
import Derived.Test.YtakmfhnigpmngaaFl
namespace Go.Proofs.Ytakmfhnigpmngaa
open Go Go.RowKit

theorem core_nil {r a : List Int} (h : IsCore r [] a) (hr : Rd r) : r = [] := by
  rcases Nat.eq_zero_or_pos a.length with h0 | h0
  · have : a = [] := List.length_eq_zero_iff.1 h0
    rw [h.eq, this]; rfl
  · exfalso
    obtain ⟨b, l, rfl⟩ := last_of (y := a) (by intro e; rw [e] at h0; simp at h0)
    have e := h.eq
    rw [wi_append] at e
    rw [e] at hr
    exact hr b.length l (-l) (by simp) (by simp [wi]) (by omega)
theorem core_pos {r c a : List Int} (h : IsCore r c a) (hr : Rd r) (h0 : r ≠ []) : 0 < c.length := by
  rcases Nat.eq_zero_or_pos c.length with h1 | h1
  · have : c = [] := List.length_eq_zero_iff.1 h1
    subst this
    exact absurd (core_nil h hr) h0
  · exact h1
theorem core_len {r c a : List Int} (h : IsCore r c a) : r.length = 2 * a.length + c.length := by
  have := congrArg List.length h.eq
  simp [wi_length] at this
  omega
theorem core_lt {r c a : List Int} (h : IsCore r c a) (hl : Lt r) : Lt c ∧ Lt a :=
  ⟨fun x hx => hl x (by rw [h.eq]; simp [hx]), fun x hx => hl x (by rw [h.eq]; simp [hx])⟩
theorem root_of {r c a : List Int} (h : IsCore r c a) {n : Nat} (hn : PerOf c n) (h0 : 0 < c.length) : RootOf r (red (a ++ (c.take n ++ wi a))) (c.length / n) := by
  obtain ⟨h1, h2, h3⟩ := prim_of hn h0
  exact ⟨a, c.take n, by rw [← h2]; exact h, h1, h3, rfl⟩

set_option maxRecDepth 100000 in
set_option maxHeartbeats 4000000 in
theorem root_bad (v : Value) (zs : List Int) (w : World) (hv : Sl w v zs) (hc : wsc [zs] ≠ 0) :
    Calls Try.prog 32 #[v] w fun e w' => e = .returned (.tuple #[.slice none 0 0, .int .i64 0, .agg #[.int .i64 (wsc [zs]), .int .i64 (wsa [zs])]]) ∧ Below w.heap.size w w' := by
  obtain ⟨va, vc, _, _, hve, _⟩ := id hv
  subst hve
  obtain ⟨w0, hw0⟩ : ∃ w0, w0 = (w.alloc (.cells #[.int .i64 0, .int .i64 0] 26)).alloc (.cells #[.slice va zs.length vc] 22) := ⟨_, rfl⟩
  have HSL := SlW.one (hv.below (balloc w (.cells #[.int .i64 0, .int .i64 0] 26)))
  rw [World.size_alloc] at HSL
  have HCK := hide (checks_any (.slice (some ⟨w.heap.size + 1, 0, none⟩) 1 1) [zs] _ HSL)
  clear HSL
  rw [← hw0] at HCK
  have hB0 : Below w.heap.size w w0 := by rw [hw0]; exact (balloc w (.cells #[.int .i64 0, .int .i64 0] 26)).alloc (balloc w (.cells #[.int .i64 0, .int .i64 0] 26)).size _
  have hR0 : Blk w0 w.heap.size 26 [.int .i64 0, .int .i64 0] := by rw [hw0]; exact (new26 w).alloc _
  have hs0 := hB0.size
  have hcb : (wsc [zs] != 0) = true := by simpa using hc
  generalize wsc [zs] = c at *
  generalize wsa [zs] = d at *
  clear hv hc
  go_enter Try.func32, Try.ntmps32
  go_wp2_with fail
  rw [← hw0]
  refine HCK.out.mono ?_
  rintro x w1 ⟨rfl, hb1⟩
  obtain ⟨w2, hw2⟩ : ∃ w2, w2 = w1.alloc (.cells #[.int .i64 c, .int .i64 d] 26) := ⟨_, rfl⟩
  have hB1 : Below w0.heap.size w0 w2 := by rw [hw2]; exact bcat2 hb1 (balloc w1 _)
  have hF1 : Blk w2 w1.heap.size 26 [.int .i64 c, .int .i64 d] := by rw [hw2]; exact blk0 _ _
  have hR1 : Blk w2 w.heap.size 26 [.int .i64 0, .int .i64 0] := hR0.of_eq (hB1.block _ hR0.lt)
  have hBw := bcat hB0 hB1 hs0
  obtain ⟨y0, y1, fy0, fy1⟩ := hR1.two
  obtain ⟨t0, t1, _, _⟩ := hF1.two
  have hlt1 : w.heap.size < w1.heap.size := Nat.lt_of_lt_of_le hR0.lt hb1.size
  have hnn : ¬ w1.heap.size = w.heap.size := by omega
  rw [hw2] at t0 t1
  go_wp2_with fail
  rw [← hw2]
  rw [← hw2] at t0 t1
  clear hw2
  go_region
  all_goals (
    go_wp2
    have hR7 : Blk ((w2.setCell ⟨w.heap.size, 0, none⟩ (.int .i64 c)).setCell ⟨w.heap.size, 1, none⟩ (.int .i64 d)).drew w.heap.size 26 [.int .i64 c, .int .i64 d] := (hR1.set 0 _).set 1 _
    have hB7 := bdrew ((hBw.setCell (p := ⟨w.heap.size, 0, none⟩) (Nat.le_refl _) (.int .i64 c)).setCell (p := ⟨w.heap.size, 1, none⟩) (Nat.le_refl _) (.int .i64 d))
    generalize ((w2.setCell ⟨w.heap.size, 0, none⟩ (.int .i64 c)).setCell ⟨w.heap.size, 1, none⟩ (.int .i64 d)).drew = W at hR7 hB7 ⊢
    obtain ⟨z0, z1, _, _⟩ := hR7.two
    exact bodyPost_ret (v := .tuple #[.slice none 0 0, .int .i64 0, .agg #[.int .i64 c, .int .i64 d]]) (by simp [results, Try.results32, go_sem, z0, z1]) rfl ⟨rfl, hB7⟩)

set_option maxRecDepth 100000 in
set_option maxHeartbeats 4000000 in
theorem root_one_good (v : Value) (zs : List Int) (w : World) (hv : Sl w v zs) (hw : Wd zs) (hz : red zs = []) :
    Calls Try.prog 32 #[v] w fun e w' => e = .returned (.tuple #[.slice none 0 0, .int .i64 0, .agg #[.int .i64 6, .int .i64 0]]) ∧ Below w.heap.size w w' := by
  have HZ := hide hz
  clear hz
  obtain ⟨hc, hd⟩ := wsc_zero (ws := [zs]) (by intro x hx; simp at hx; rw [hx]; exact hw)
  have hlz := hw.lt
  have hnz := hw.len
  obtain ⟨va, vc, _, _, hve, _⟩ := id hv
  subst hve
  obtain ⟨w0, hw0⟩ : ∃ w0, w0 = (w.alloc (.cells #[.int .i64 0, .int .i64 0] 26)).alloc (.cells #[.slice va zs.length vc] 22) := ⟨_, rfl⟩
  have HSL := SlW.one (hv.below (balloc w (.cells #[.int .i64 0, .int .i64 0] 26)))
  rw [World.size_alloc] at HSL
  have HCK := hide (checks_any (.slice (some ⟨w.heap.size + 1, 0, none⟩) 1 1) [zs] _ HSL)
  clear HSL
  rw [← hw0, hc, hd] at HCK
  have hB0 : Below w.heap.size w w0 := by rw [hw0]; exact (balloc w (.cells #[.int .i64 0, .int .i64 0] 26)).alloc (balloc w (.cells #[.int .i64 0, .int .i64 0] 26)).size _
  have hR0 : Blk w0 w.heap.size 26 [.int .i64 0, .int .i64 0] := by rw [hw0]; exact (new26 w).alloc _
  have hs0 := hB0.size
  clear hc hd
  go_enter Try.func32, Try.ntmps32
  go_wp2_with fail
  rw [← hw0]
  refine HCK.out.mono ?_
  rintro x w1 ⟨rfl, hb1⟩
  clear hw0 HCK
  have hB1 : Below w0.heap.size w0 (w1.alloc (.cells #[.int .i64 0, .int .i64 0] 26)) := bcat2 hb1 (balloc w1 _)
  have hR1 : Blk (w1.alloc (.cells #[.int .i64 0, .int .i64 0] 26)) w.heap.size 26 [.int .i64 0, .int .i64 0] := hR0.of_eq (hB1.block _ hR0.lt)
  have hBw := bcat hB0 hB1 hs0
  have hlt1 : w.heap.size < w1.heap.size := Nat.lt_of_lt_of_le hR0.lt hb1.size
  have hnn : ¬ w1.heap.size = w.heap.size := by omega
  obtain ⟨W2, hW2⟩ : ∃ W2, W2 = w1.alloc (.cells #[.int .i64 0, .int .i64 0] 26) := ⟨_, rfl⟩
  have hW2s : W2.heap.size = w1.heap.size + 1 := by rw [hW2, World.size_alloc]
  rw [← hW2] at hB1 hR1 hBw
  have hge := hBw.size
  have hv2 := hv.below hBw
  have hBW2 := hBw
  have hgeW2 := hge
  have hRW2 := hR1
  have hrl := Nat.le_trans (red_len zs) hnz
  go_wp2_with fail
  rw [← hW2]
  refine (prod1 _ hW2s hv2 hlz (by omega)).mono ?_
  rintro x w3 ⟨r, rfl, hr, hbw3⟩
  have hBw3 := bcat hBW2 hbw3 hgeW2
  have hRw3 : Blk w3 w.heap.size 26 [.int .i64 0, .int .i64 0] := hRW2.of_eq (hbw3.block _ hRW2.lt)
  have hgew3 := hBw3.size
  have hr3 := hr.sl (show 0 < w3.heap.size by omega)
  obtain ⟨ra, rc, rfl⟩ := hr.slice
  go_wp2_with fail
  refine (coreOf_ok _ _ w3 hr3 hlz.red (by omega)).mono ?_
  rintro x w4 ⟨u1, u2, c, a, rfl, hs1, hs2, hcore, hbw4⟩
  have hBw4 := bcat hBw3 hbw4 hgew3
  have hRw4 : Blk w4 w.heap.size 26 [.int .i64 0, .int .i64 0] := hRw3.of_eq (hbw4.block _ hRw3.lt)
  have hgew4 := hBw4.size
  have hcl := core_len hcore
  rw [HZ.out] at hcl
  have hc0 : c = [] := List.length_eq_zero_iff.1 (by simp at hcl; omega)
  subst hc0
  obtain ⟨ca, cc, cpb, cpo, hce, _, _, _, _⟩ := hs1
  subst hce
  clear hcore hs2 hcl hr3 hr hv2 hv hrl
  obtain ⟨_, y0, y1, fy0, fy1, s0, s1⟩ := Two.mk' hRw4
  have hR9 : Blk ((w4.setCell ⟨w.heap.size, 0, none⟩ (.int .i64 6))) w.heap.size 26 [.int .i64 6, .int .i64 0] := hRw4.set 0 _
  obtain ⟨_, z1, _, fz1⟩ := hR9.two
  have hs9 := hR9.self.2
  have hB9 := hBw4.setCell (p := ⟨w.heap.size, 0, none⟩) (Nat.le_refl _) (.int .i64 6)
  obtain ⟨z0, _, _, _⟩ := hR9.two
  go_wp2
  exact bodyPost_ret (v := .tuple #[.slice none 0 0, .int .i64 0, .agg #[.int .i64 6, .int .i64 0]]) (by simp [results, Try.results32, go_sem, z0, z1]) rfl ⟨rfl, hB9⟩

set_option maxRecDepth 100000 in
set_option maxHeartbeats 4000000 in
theorem root_good_good (v : Value) (zs : List Int) (w : World) (hv : Sl w v zs) (hw : Wd zs) (hz : red zs ≠ []) :
    Calls Try.prog 32 #[v] w fun e w' => (∃ r b k, e = .returned (.tuple #[r, .int .i64 ((k : Nat) : Int), .agg #[.int .i64 0, .int .i64 0]]) ∧ Row w' w.heap.size r b ∧ RootOf (red zs) b k ∧ k ≤ 2000) ∧ Below w.heap.size w w' := by
  have HZ := hide hz
  clear hz
  obtain ⟨hc, hd⟩ := wsc_zero (ws := [zs]) (by intro x hx; simp at hx; rw [hx]; exact hw)
  have hlz := hw.lt
  have hnz := hw.len
  obtain ⟨va, vc, _, _, hve, _⟩ := id hv
  subst hve
  obtain ⟨w0, hw0⟩ : ∃ w0, w0 = (w.alloc (.cells #[.int .i64 0, .int .i64 0] 26)).alloc (.cells #[.slice va zs.length vc] 22) := ⟨_, rfl⟩
  have HSL := SlW.one (hv.below (balloc w (.cells #[.int .i64 0, .int .i64 0] 26)))
  rw [World.size_alloc] at HSL
  have HCK := hide (checks_any (.slice (some ⟨w.heap.size + 1, 0, none⟩) 1 1) [zs] _ HSL)
  clear HSL
  rw [← hw0, hc, hd] at HCK
  have hB0 : Below w.heap.size w w0 := by rw [hw0]; exact (balloc w (.cells #[.int .i64 0, .int .i64 0] 26)).alloc (balloc w (.cells #[.int .i64 0, .int .i64 0] 26)).size _
  have hR0 : Blk w0 w.heap.size 26 [.int .i64 0, .int .i64 0] := by rw [hw0]; exact (new26 w).alloc _
  have hs0 := hB0.size
  clear hc hd
  go_enter Try.func32, Try.ntmps32
  go_wp2_with fail
  rw [← hw0]
  refine HCK.out.mono ?_
  rintro x w1 ⟨rfl, hb1⟩
  clear hw0 HCK
  have hB1 : Below w0.heap.size w0 (w1.alloc (.cells #[.int .i64 0, .int .i64 0] 26)) := bcat2 hb1 (balloc w1 _)
  have hR1 : Blk (w1.alloc (.cells #[.int .i64 0, .int .i64 0] 26)) w.heap.size 26 [.int .i64 0, .int .i64 0] := hR0.of_eq (hB1.block _ hR0.lt)
  have hBw := bcat hB0 hB1 hs0
  have hlt1 : w.heap.size < w1.heap.size := Nat.lt_of_lt_of_le hR0.lt hb1.size
  have hnn : ¬ w1.heap.size = w.heap.size := by omega
  obtain ⟨W2, hW2⟩ : ∃ W2, W2 = w1.alloc (.cells #[.int .i64 0, .int .i64 0] 26) := ⟨_, rfl⟩
  have hW2s : W2.heap.size = w1.heap.size + 1 := by rw [hW2, World.size_alloc]
  rw [← hW2] at hB1 hR1 hBw
  have hge := hBw.size
  have hv2 := hv.below hBw
  have hBW2 := hBw
  have hgeW2 := hge
  have hRW2 := hR1
  have hrl := Nat.le_trans (red_len zs) hnz
  go_wp2_with fail
  rw [← hW2]
  refine (prod1 _ hW2s hv2 hlz (by omega)).mono ?_
  rintro x w3 ⟨r, rfl, hr, hbw3⟩
  have hBw3 := bcat hBW2 hbw3 hgeW2
  have hRw3 : Blk w3 w.heap.size 26 [.int .i64 0, .int .i64 0] := hRW2.of_eq (hbw3.block _ hRW2.lt)
  have hgew3 := hBw3.size
  have hr3 := hr.sl (show 0 < w3.heap.size by omega)
  obtain ⟨ra, rc, rfl⟩ := hr.slice
  go_wp2_with fail
  refine (coreOf_ok _ _ w3 hr3 hlz.red (by omega)).mono ?_
  rintro x w4 ⟨u1, u2, c, a, rfl, hs1, hs2, hcore, hbw4⟩
  have hBw4 := bcat hBw3 hbw4 hgew3
  have hRw4 : Blk w4 w.heap.size 26 [.int .i64 0, .int .i64 0] := hRw3.of_eq (hbw4.block _ hRw3.lt)
  have hgew4 := hBw4.size
  have hcl := core_len hcore
  have hrd := red_rd zs
  have hcp := core_pos hcore hrd HZ.out
  obtain ⟨hlc, hla⟩ := core_lt hcore hlz.red
  have HRT := hide (fun n hn => root_of hcore (n := n) hn hcp)
  clear hcore HZ hrd hr3 hr

  obtain ⟨ca, cc, cpb, cpo, hce, hcr, hcpb, hcc, hcm⟩ := id hs1
  subst hce
  have hca := hcr.at_ hcp
  subst hca
  have hnc : ¬ ((c.length : Int) = 0) := by omega
  have hncb : ((c.length : Int) == 0) = false := by simpa using hnc
  have hpz : 0 < c.length := hcp
  have HCL := hide hcl
  have hcl2 : c.length ≤ 2000 := by omega
  clear hcr hcpb hcl
  go_wp2_with fail
  refine (period_ok _ c w4 hs1 hcp (by omega)).mono ?_
  rintro x w5 ⟨n, rfl, hper, hnl, hbw5⟩
  have hBw5 := bcat hBw4 hbw5 hgew4
  have hRw5 : Blk w5 w.heap.size 26 [.int .i64 0, .int .i64 0] := hRw4.of_eq (hbw5.block _ hRw4.lt)
  have hgew5 := hBw5.size
  obtain ⟨u2a, u2c, _, _, hu2e, _⟩ := id hs2
  subst hu2e
  have hn0 := hper.pos
  have HRO := hide (HRT.out n hper)
  clear HRT hper
  obtain ⟨_, _, cpb', cpo', hce, hcr, hcpb, _, _⟩ := hs1.below hbw5
  have hBd := bdrew hBw5
  have hged := hBd.size
  have hRd : Blk w5.drew w.heap.size 26 [.int .i64 0, .int .i64 0] := hRw5
  have hs2d : Sl w5.drew (.slice u2a a.length u2c) a := (hs2.below hbw5).drewN 1
  have hcpd : Sl w5.drew (.slice (some ⟨cpb, cpo, none⟩) n cc) (c.take n) := by
    have h1 := hs1.below hbw5
    obtain ⟨a9, cap9, pb, po, hve, hr9, hp9, hcap9, hcm9⟩ := h1
    injection hve with e1 _ e2
    subst e1 e2
    have h2 := hr9.at_ hcp
    injection h2 with h2
    injection h2 with h3 h4
    subst h3 h4
    have h5 := Sl.piece (i := 0) (m := n) (c := cc) (b := some ⟨cpb, cpo, none⟩) (hr9.of_eq (w' := w5.drew) rfl) hp9 (by omega) (fun _ => rfl) (by omega) hcm
    rwa [List.drop_zero] at h5
  have hlcp : Lt (c.take n) := fun x hx => hlc x (List.mem_of_mem_take hx)
  have hcl := HCL.out
  have hdv : c.length / n ≤ c.length := Nat.div_le_self _ _
  have hdiv : (c.length : Int).tdiv (n : Int) = ((c.length / n : Nat) : Int) := by
    rw [Int.tdiv_eq_ediv_of_nonneg (by omega), Int.natCast_ediv]
  have HDV := hide (show c.length / n ≤ 2000 by omega)
  obtain ⟨qk, hqk⟩ : ∃ qk, c.length / n = qk := ⟨_, rfl⟩
  rw [hqk] at hdiv HRO HDV
  have hqk2 : qk ≤ 2000 := by rw [← hqk]; omega
  have hwq : IntKind.i64.wrap (qk : Int) = (qk : Int) := by rw [IntKind.wrap_i64]; omega
  have hnz1 : ¬ (n : Int) = 0 := by omega
  have hnz2 : ¬ n = 0 := by omega
  have hnm1 : ¬ (n : Int) = -1 := by omega
  have hncc : (n : Int) ≤ (cc : Int) := by omega
  have hal : a.length ≤ 2000 := by omega
  clear hdv hqk hs1 hs2 hce hcr hcl hrl
  unfold maxLen at hcm
  have hS0 : Below w.heap.size w w5.drew := hBd
  go_wp2_with fail
  refine wp_region_held_drew (S := fun W => Below w.heap.size w W) (by kernel_rfl) hS0 (fun hHeld => ?_)
  generalize w5.drew = wd at *
  refine wpAnyH_take (i := 0) (oi := ({ dst := some 29, op := Go.Op.move (Go.Operand.tmp 7), type := 22, pos := _, after := _, guard := none } : Oper)) (v := ?_) rfl (by kernel_rfl) (by kernel_rfl) (by kernel_rfl) (fun _ _ _ h => h) (Or.inl ⟨by rfl, ?_⟩) (by assumption) ?_
  rotate_left
  · (intro w hSw; (try dsimp only at hSw); go_simp; try with_reducible rfl)
  simp only [Act.put, List.setIfInBounds_toArray, List.set_cons_zero, List.set_cons_succ]
  refine wpAnyH_take (i := 1) (oi := ({ dst := some 30, op := Go.Op.move (Go.Operand.tmp 6), type := 22, pos := _, after := _, guard := none } : Oper)) (v := ?_) rfl (by kernel_rfl) (by kernel_rfl) (by kernel_rfl) (fun _ _ _ h => h) (Or.inl ⟨by rfl, ?_⟩) (by assumption) ?_
  rotate_left
  · (intro w hSw; (try dsimp only at hSw); go_simp; try with_reducible rfl)
  simp only [Act.put, List.setIfInBounds_toArray, List.set_cons_zero, List.set_cons_succ]
  refine wpAnyH_take (i := 2) (oi := ({ dst := some 31, op := Go.Op.move (Go.Operand.tmp 8), type := 3, pos := _, after := _, guard := none } : Oper)) (v := ?_) rfl (by kernel_rfl) (by kernel_rfl) (by kernel_rfl) (fun _ _ _ h => h) (Or.inl ⟨by rfl, ?_⟩) (by assumption) ?_
  rotate_left
  · (intro w hSw; (try dsimp only at hSw); go_simp; try with_reducible rfl)
  simp only [Act.put, List.setIfInBounds_toArray, List.set_cons_zero, List.set_cons_succ]
  refine wpAnyH_take (i := 3) (oi := ({ dst := some 32, op := Go.Op.slice 22 (Go.Operand.tmp 30) none (some (Go.Operand.tmp 31)) none, type := 22, pos := _, after := _, guard := none } : Oper)) (v := ?_) rfl (by kernel_rfl) (by kernel_rfl) (by kernel_rfl) (fun _ _ _ h => h) (Or.inl ⟨by rfl, ?_⟩) (by assumption) ?_
  rotate_left
  · (intro w hSw; (try dsimp only at hSw); go_simp; try with_reducible rfl)
  simp only [Act.put, List.setIfInBounds_toArray, List.set_cons_zero, List.set_cons_succ]
  refine wpAnyH_take (i := 4) (oi := ({ dst := some 33, op := Go.Op.move (Go.Operand.tmp 7), type := 22, pos := _, after := _, guard := none } : Oper)) (v := ?_) rfl (by kernel_rfl) (by kernel_rfl) (by kernel_rfl) (fun _ _ _ h => h) (Or.inl ⟨by rfl, ?_⟩) (by assumption) ?_
  rotate_left
  · (intro w hSw; (try dsimp only at hSw); go_simp; try with_reducible rfl)
  simp only [Act.put, List.setIfInBounds_toArray, List.set_cons_zero, List.set_cons_succ]
  refine wpAnyH_take (i := 8) (oi := ({ dst := some 37, op := Go.Op.move (Go.Operand.tmp 6), type := 22, pos := _, after := _, guard := none } : Oper)) (v := ?_) rfl (by kernel_rfl) (by kernel_rfl) (by kernel_rfl) (fun _ _ _ h => h) (Or.inl ⟨by rfl, ?_⟩) (by assumption) ?_
  rotate_left
  · (intro w hSw; (try dsimp only at hSw); go_simp; try with_reducible rfl)
  simp only [Act.put, List.setIfInBounds_toArray, List.set_cons_zero, List.set_cons_succ]
  refine wpAnyH_take (i := 9) (oi := ({ dst := some 38, op := Go.Op.call { callee := Go.Callee.builtin Go.Builtin.len, args := #[Go.Operand.tmp 37], argTypes := #[22] }, type := 3, pos := _, after := _, guard := none } : Oper)) (v := ?_) rfl (by kernel_rfl) (by kernel_rfl) (by kernel_rfl) (fun _ _ _ h => h) (Or.inl ⟨by rfl, ?_⟩) (by assumption) ?_
  rotate_left
  · (intro w hSw; (try dsimp only at hSw); go_simp; try with_reducible rfl)
  simp only [Act.put, List.setIfInBounds_toArray, List.set_cons_zero, List.set_cons_succ]
  refine wpAnyH_take (i := 10) (oi := ({ dst := some 39, op := Go.Op.move (Go.Operand.tmp 8), type := 3, pos := _, after := _, guard := none } : Oper)) (v := ?_) rfl (by kernel_rfl) (by kernel_rfl) (by kernel_rfl) (fun _ _ _ h => h) (Or.inl ⟨by rfl, ?_⟩) (by assumption) ?_
  rotate_left
  · (intro w hSw; (try dsimp only at hSw); go_simp; try with_reducible rfl)
  simp only [Act.put, List.setIfInBounds_toArray, List.set_cons_zero, List.set_cons_succ]
  refine wpAnyH_take (i := 11) (oi := ({ dst := some 40, op := Go.Op.binOp Go.BinOp.quo 3 (Go.Operand.tmp 38) (Go.Operand.tmp 39) 3, type := 3, pos := _, after := _, guard := none } : Oper)) (v := ?_) rfl (by kernel_rfl) (by kernel_rfl) (by kernel_rfl) (fun _ _ _ h => h) (Or.inl ⟨by rfl, ?_⟩) (by assumption) ?_
  rotate_left
  · (intro w hSw; (try dsimp only at hSw); go_simp; try with_reducible rfl)
  simp only [Act.put, List.setIfInBounds_toArray, List.set_cons_zero, List.set_cons_succ]
  refine wpAnyH_take (i := 12) (oi := ({ dst := some 41, op := Go.Op.build 26 #[], type := 26, pos := _, after := _, guard := none } : Oper)) (v := ?_) rfl (by kernel_rfl) (by kernel_rfl) (by kernel_rfl) (fun _ _ _ h => h) (Or.inl ⟨by rfl, ?_⟩) (by assumption) ?_
  rotate_left
  · (intro w hSw; (try dsimp only at hSw); go_simp; try with_reducible rfl)
  simp only [Act.put, List.setIfInBounds_toArray, List.set_cons_zero, List.set_cons_succ]
  refine wpAnyH_ready (rs := [5]) (by kernel_rfl) (by simp) (AllReadyH.cons (o := ({ dst := some 34, op := Go.Op.call { callee := Go.Callee.value (Go.Operand.func 38), args := #[Go.Operand.tmp 33], argTypes := #[22] }, type := 22, pos := _, after := _, guard := none } : Oper)) rfl (fun KK hK => ?_) AllReadyH.nil)
  go_simp
  refine (inverse_ok _ a wd hs2d hla (by omega)).mono ?_
  rintro x w6 ⟨iv, rfl, hiv, hb6⟩
  have hB6 := bcat hBd hb6 hged
  have hR6 : Blk w6 w.heap.size 26 [.int .i64 0, .int .i64 0] := hRd.of_eq (hb6.block _ hRd.lt)
  have hge6 := hB6.size
  have hiv6 := hiv.sl (show 0 < w6.heap.size by omega)
  obtain ⟨ia, ic, rfl⟩ := hiv.slice
  have hcp6 := hcpd.below hb6
  have ha6 := hs2d.below hb6
  try go_wp2_with fail
  refine hK.out _ _ hB6 (fun hHeld => ?_)
  clear hK
  try simp only [Act.put, List.setIfInBounds_toArray, List.set_cons_zero, List.set_cons_succ]
  refine wpAnyH_ready (rs := [6]) (by kernel_rfl) (by simp) (AllReadyH.cons (o := ({ dst := some 35, op := Go.Op.buildSlice 54 3 #[(0, Go.Operand.tmp 29), (1, Go.Operand.tmp 32), (2, Go.Operand.tmp 34)], type := 54, pos := _, after := _, guard := none } : Oper)) rfl (fun KK hK => ?_) AllReadyH.nil)
  go_simp
  refine hK.out _ _ (hB6.alloc hge6 _) (fun hHeld => ?_)
  clear hK
  try simp only [Act.put, List.setIfInBounds_toArray, List.set_cons_zero, List.set_cons_succ]
  refine wpAnyH_ready (rs := [7]) (by kernel_rfl) (by simp) (AllReadyH.cons (o := ({ dst := some 36, op := Go.Op.call { callee := Go.Callee.value (Go.Operand.func 37), args := #[Go.Operand.tmp 35], argTypes := #[54] }, type := 22, pos := _, after := _, guard := none } : Oper)) rfl (fun KK hK => ?_) AllReadyH.nil)
  go_simp
  refine (prod3 _ rfl ha6 hcp6 hiv6 hla hlcp hla.wi (by have h9 := wi_length a; have h8 : (c.take n).length ≤ c.length := (by rw [List.length_take]; omega); omega)).mono ?_
  rintro x w7 ⟨rr, rfl, hrr, hb7⟩
  have hB7 := bcat hB6 hb7 hge6
  have hR7 : Blk w7 w.heap.size 26 [.int .i64 0, .int .i64 0] := hR6.of_eq (hb7.block _ hR6.lt)
  obtain ⟨_, y0, y1, fy0, fy1, s0, s1⟩ := Two.mk' hR7
  have hrr7 := hrr.mono hge6
  try go_wp2_with fail
  refine hK.out _ _ hB7 (fun hHeld => ?_)
  clear hK
  try simp only [Act.put, List.setIfInBounds_toArray, List.set_cons_zero, List.set_cons_succ]
  refine wpAnyH_take (i := 13) (oi := ({ dst := some 2, op := Go.Op.assign (Go.Operand.tmp 36), type := 22, pos := _, after := _, guard := none } : Oper)) (v := ?_) rfl (by kernel_rfl) (by kernel_rfl) (by kernel_rfl) (fun _ _ _ h => h) (Or.inl ⟨by rfl, ?_⟩) (by assumption) ?_
  rotate_left
  · (intro w hSw; (try dsimp only at hSw); go_simp; try with_reducible rfl)
  simp only [Act.put, List.setIfInBounds_toArray, List.set_cons_zero, List.set_cons_succ]
  refine wpAnyH_take (i := 14) (oi := ({ dst := some 3, op := Go.Op.assign (Go.Operand.tmp 40), type := 3, pos := _, after := _, guard := none } : Oper)) (v := ?_) rfl (by kernel_rfl) (by kernel_rfl) (by kernel_rfl) (fun _ _ _ h => h) (Or.inl ⟨by rfl, ?_⟩) (by assumption) ?_
  rotate_left
  · (intro w hSw; (try dsimp only at hSw); go_simp; try with_reducible rfl)
  simp only [Act.put, List.setIfInBounds_toArray, List.set_cons_zero, List.set_cons_succ]
  refine wpAnyH_ready (rs := [15]) (by kernel_rfl) (by simp) (AllReadyH.cons (o := ({ dst := none, op := Go.Op.store 26 (Go.Operand.tmp 4) (Go.Operand.tmp 41), type := 0, pos := _, after := _, guard := none } : Oper)) rfl (fun KK hK => ?_) AllReadyH.nil)
  go_simp
  refine hK.out _ _ hB7 (fun hHeld => ?_)
  clear hK
  try simp only [Act.put, List.setIfInBounds_toArray, List.set_cons_zero, List.set_cons_succ]
  refine wpAnyH_done (by kernel_rfl) ?_ _
  go_wp2
  exact bodyPost_ret (v := .tuple #[rr, .int .i64 (qk : Int), .agg #[.int .i64 0, .int .i64 0]]) (by simp [results, Try.results32, go_sem, y0, y1]) rfl ⟨⟨rr, _, _, rfl, hrr7, HRO.out, HDV.out⟩, hB7⟩

end Go.Proofs.Ytakmfhnigpmngaa
