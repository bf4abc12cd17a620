/- What Conj answers. -/
import Derived.Test.YtakmfhnigpmngaaFn
namespace Go.Proofs.Ytakmfhnigpmngaa
open Go Go.RowKit

set_option maxRecDepth 100000 in
set_option maxHeartbeats 4000000 in
theorem conj_bad (v u : Value) (zs ys : List Int) (w : World) (hv : Sl w v zs) (hu : Sl w u ys) (hc : wsc [zs, ys] ≠ 0) :
    Calls Try.prog 30 #[v, u] w fun e w' => e = .returned (.tuple #[.slice none 0 0, .agg #[.int .i64 (wsc [zs, ys]), .int .i64 (wsa [zs, ys])]]) ∧ Below w.heap.size w w' := by
  obtain ⟨va, vc, _, _, hve, _⟩ := id hv
  obtain ⟨ua, uc, _, _, hue, _⟩ := id hu
  subst hve hue
  obtain ⟨w0, hw0⟩ : ∃ w0, w0 = (w.alloc (.cells #[.int .i64 0, .int .i64 0] 26)).alloc (.cells #[.slice va zs.length vc, .slice ua ys.length uc] 22) := ⟨_, rfl⟩
  have HSL := SlW.two (hv.below (balloc w (.cells #[.int .i64 0, .int .i64 0] 26))) (hu.below (balloc w (.cells #[.int .i64 0, .int .i64 0] 26)))
  rw [World.size_alloc] at HSL
  have HCK := hide (checks_any (.slice (some ⟨w.heap.size + 1, 0, none⟩) 2 2) [zs, ys] _ HSL)
  clear HSL
  rw [← hw0] at HCK
  have hB0 : Below w.heap.size w w0 := by rw [hw0]; exact (balloc w (.cells #[.int .i64 0, .int .i64 0] 26)).alloc (balloc w (.cells #[.int .i64 0, .int .i64 0] 26)).size _
  have hR0 : Blk w0 w.heap.size 26 [.int .i64 0, .int .i64 0] := by rw [hw0]; exact (new26 w).alloc _
  have hs0 := hB0.size
  have hcb : (wsc [zs, ys] != 0) = true := by simpa using hc
  generalize wsc [zs, ys] = c at *
  generalize wsa [zs, ys] = d at *
  clear hv hu hc
  go_enter Try.func30, Try.ntmps30
  go_wp2_with fail
  rw [← hw0]
  refine HCK.out.mono ?_
  rintro x w1 ⟨rfl, hb1⟩
  obtain ⟨w2, hw2⟩ : ∃ w2, w2 = w1.alloc (.cells #[.int .i64 c, .int .i64 d] 26) := ⟨_, rfl⟩
  have hB1 : Below w0.heap.size w0 w2 := by rw [hw2]; exact bcat2 hb1 (balloc w1 _)
  have hF1 : Blk w2 w1.heap.size 26 [.int .i64 c, .int .i64 d] := by rw [hw2]; exact blk0 _ _
  have hR1 : Blk w2 w.heap.size 26 [.int .i64 0, .int .i64 0] := hR0.of_eq (hB1.block _ hR0.lt)
  have hBw := bcat hB0 hB1 hs0
  obtain ⟨y0, y1, fy0, fy1⟩ := hR1.two
  obtain ⟨t0, t1, _, _⟩ := hF1.two
  have hlt1 : w.heap.size < w1.heap.size := Nat.lt_of_lt_of_le hR0.lt hb1.size
  have hnn : ¬ w1.heap.size = w.heap.size := by omega
  rw [hw2] at t0 t1
  go_wp2_with fail
  rw [← hw2]
  rw [← hw2] at t0 t1
  clear hw2
  go_region
  all_goals (
    go_wp2
    have hR7 : Blk ((w2.setCell ⟨w.heap.size, 0, none⟩ (.int .i64 c)).setCell ⟨w.heap.size, 1, none⟩ (.int .i64 d)).drew w.heap.size 26 [.int .i64 c, .int .i64 d] := (hR1.set 0 _).set 1 _
    have hB7 := bdrew ((hBw.setCell (p := ⟨w.heap.size, 0, none⟩) (Nat.le_refl _) (.int .i64 c)).setCell (p := ⟨w.heap.size, 1, none⟩) (Nat.le_refl _) (.int .i64 d))
    generalize ((w2.setCell ⟨w.heap.size, 0, none⟩ (.int .i64 c)).setCell ⟨w.heap.size, 1, none⟩ (.int .i64 d)).drew = W at hR7 hB7 ⊢
    obtain ⟨z0, z1, _, _⟩ := hR7.two
    exact bodyPost_ret (v := .tuple #[.slice none 0 0, .agg #[.int .i64 c, .int .i64 d]]) (by simp [results, Try.results30, go_sem, z0, z1]) rfl ⟨rfl, hB7⟩)

set_option maxRecDepth 100000 in
set_option maxHeartbeats 4000000 in
theorem conj_good (v u : Value) (zs ys : List Int) (w : World) (hv : Sl w v zs) (hu : Sl w u ys) (hw : Wd zs) (hy : Wd ys) :
    Calls Try.prog 30 #[v, u] w fun e w' => ((∃ r c1 a1 c2 a2 n, e = .returned (.tuple #[r, .agg #[.int .i64 0, .int .i64 0]]) ∧ Row w' w.heap.size r (red (a1 ++ (c1.take n ++ wi a2))) ∧ IsCore (red zs) c1 a1 ∧ IsCore (red ys) c2 a2 ∧ n ≤ c1.length ∧ c1.length = c2.length ∧ c1.drop n ++ c1.take n = c2) ∨ (∃ c1 a1 c2 a2, e = .returned (.tuple #[.slice none 0 0, .agg #[.int .i64 6, .int .i64 0]]) ∧ IsCore (red zs) c1 a1 ∧ IsCore (red ys) c2 a2 ∧ ∀ n, n ≤ c1.length → c1.drop n ++ c1.take n ≠ c2)) ∧ Below w.heap.size w w' := by
  obtain ⟨hc, hd⟩ := wsc_zero (ws := [zs, ys]) (by intro x hx; simp at hx; rcases hx with hx | hx <;> rw [hx] <;> assumption)
  have hlz := hw.lt
  have hnz := hw.len
  have hly := hy.lt
  have hny := hy.len
  obtain ⟨va, vc, _, _, hve, _⟩ := id hv
  obtain ⟨ua, uc, _, _, hue, _⟩ := id hu
  subst hve hue
  obtain ⟨w0, hw0⟩ : ∃ w0, w0 = (w.alloc (.cells #[.int .i64 0, .int .i64 0] 26)).alloc (.cells #[.slice va zs.length vc, .slice ua ys.length uc] 22) := ⟨_, rfl⟩
  have HSL := SlW.two (hv.below (balloc w (.cells #[.int .i64 0, .int .i64 0] 26))) (hu.below (balloc w (.cells #[.int .i64 0, .int .i64 0] 26)))
  rw [World.size_alloc] at HSL
  have HCK := hide (checks_any (.slice (some ⟨w.heap.size + 1, 0, none⟩) 2 2) [zs, ys] _ HSL)
  clear HSL
  rw [← hw0, hc, hd] at HCK
  have hB0 : Below w.heap.size w w0 := by rw [hw0]; exact (balloc w (.cells #[.int .i64 0, .int .i64 0] 26)).alloc (balloc w (.cells #[.int .i64 0, .int .i64 0] 26)).size _
  have hR0 : Blk w0 w.heap.size 26 [.int .i64 0, .int .i64 0] := by rw [hw0]; exact (new26 w).alloc _
  have hs0 := hB0.size
  clear hc hd
  go_enter Try.func30, Try.ntmps30
  go_wp2_with fail
  rw [← hw0]
  refine HCK.out.mono ?_
  rintro x w1 ⟨rfl, hb1⟩
  clear hw0 HCK
  have hB1 : Below w0.heap.size w0 (w1.alloc (.cells #[.int .i64 0, .int .i64 0] 26)) := bcat2 hb1 (balloc w1 _)
  have hR1 : Blk (w1.alloc (.cells #[.int .i64 0, .int .i64 0] 26)) w.heap.size 26 [.int .i64 0, .int .i64 0] := hR0.of_eq (hB1.block _ hR0.lt)
  have hBw := bcat hB0 hB1 hs0
  have hlt1 : w.heap.size < w1.heap.size := Nat.lt_of_lt_of_le hR0.lt hb1.size
  have hnn : ¬ w1.heap.size = w.heap.size := by omega
  obtain ⟨W2, hW2⟩ : ∃ W2, W2 = w1.alloc (.cells #[.int .i64 0, .int .i64 0] 26) := ⟨_, rfl⟩
  have hW2s : W2.heap.size = w1.heap.size + 1 := by rw [hW2, World.size_alloc]
  rw [← hW2] at hB1 hR1 hBw
  have hge := hBw.size
  have hv2 := hv.below hBw
  have hu2 := hu.below hBw
  have hBW2 := hBw
  have hgeW2 := hge
  have hRW2 := hR1
  have hrl := Nat.le_trans (red_len zs) hnz
  have hrl2 := Nat.le_trans (red_len ys) hny
  go_wp2_with fail
  rw [← hW2]
  refine (prod1 _ hW2s hv2 hlz (by omega)).mono ?_
  rintro x w3 ⟨r, rfl, hr, hbw3⟩
  have hBw3 := bcat hBW2 hbw3 hgeW2
  have hRw3 : Blk w3 w.heap.size 26 [.int .i64 0, .int .i64 0] := hRW2.of_eq (hbw3.block _ hRW2.lt)
  have hgew3 := hBw3.size
  have hr3 := hr.sl (show 0 < w3.heap.size by omega)
  obtain ⟨ra, rc, rfl⟩ := hr.slice
  go_wp2_with fail
  refine (coreOf_ok _ _ w3 hr3 hlz.red (by omega)).mono ?_
  rintro x w4 ⟨u1, u2, c, a, rfl, hs1, hs2, hcore, hbw4⟩
  have hBw4 := bcat hBw3 hbw4 hgew3
  have hRw4 : Blk w4 w.heap.size 26 [.int .i64 0, .int .i64 0] := hRw3.of_eq (hbw4.block _ hRw3.lt)
  have hgew4 := hBw4.size
  have hu4 := hu2.below (bcat hbw3 hbw4 hbw3.size)
  have hcl := core_len hcore
  have hcll : c.length ≤ 2000 ∧ a.length ≤ 2000 := by omega
  obtain ⟨hcl1, hal1⟩ := hcll
  obtain ⟨hlc, hla⟩ := core_lt hcore hlz.red
  have HC1 := hide hcore
  clear hcore hcl hr hr3 hrl
  go_wp2_with fail
  refine (prod1 _ rfl hu4 hly (by omega)).mono ?_
  rintro x w5 ⟨r2, rfl, hr2, hbw5⟩
  have hBw5 := bcat hBw4 hbw5 hgew4
  have hRw5 : Blk w5 w.heap.size 26 [.int .i64 0, .int .i64 0] := hRw4.of_eq (hbw5.block _ hRw4.lt)
  have hgew5 := hBw5.size
  have hr5 := hr2.sl (show 0 < w5.heap.size by omega)
  obtain ⟨rb, rd, rfl⟩ := hr2.slice
  go_wp2_with fail
  refine (coreOf_ok _ _ w5 hr5 hly.red (by omega)).mono ?_
  rintro x w6 ⟨u3, u4, c2, a2, rfl, hs3, hs4, hcore, hbw6⟩
  have hBw6 := bcat hBw5 hbw6 hgew5
  have hRw6 : Blk w6 w.heap.size 26 [.int .i64 0, .int .i64 0] := hRw5.of_eq (hbw6.block _ hRw5.lt)
  have hgew6 := hBw6.size
  have hcl := core_len hcore
  have hcll : c2.length ≤ 2000 ∧ a2.length ≤ 2000 := by omega
  obtain ⟨hcl2, hal2⟩ := hcll
  obtain ⟨hlc2, hla2⟩ := core_lt hcore hly.red
  have HC2 := hide hcore
  have hb46 := bcat hbw5 hbw6 hbw5.size
  have hs16 := hs1.below hb46
  have hs26 := hs2.below hb46
  clear hcore hcl hr2 hr5 hrl2 hs1 hs2
  obtain ⟨u2a, u2c, _, _, hu2e, _⟩ := id hs26
  obtain ⟨u1a, u1c, _, _, hu1e, _⟩ := id hs16
  obtain ⟨u3a, u3c, _, _, hu3e, _⟩ := id hs3
  obtain ⟨u4a, u4c, _, _, hu4e, _⟩ := id hs4
  subst hu1e hu2e hu3e hu4e
  go_wp2_with fail
  refine (turn_ok _ _ c c2 w6 hs16 hs3 (by omega)).mono ?_
  rintro x w7 (⟨n, rfl, hn1, hn2, hn3, hbw7⟩ | ⟨rfl, hno, hbw7⟩)
  · have hBd := bdrew (bcat hBw6 hbw7 hgew6)
    have hged := hBd.size
    have hRd : Blk w7.drew w.heap.size 26 [.int .i64 0, .int .i64 0] := hRw6.of_eq (hbw7.block _ hRw6.lt)
    have hs2d : Sl w7.drew (.slice u2a a.length u2c) a := (hs26.below hbw7).drewN 1
    have hs4d : Sl w7.drew (.slice u4a a2.length u4c) a2 := (hs4.below hbw7).drewN 1
    have hccm : c.length ≤ u1c ∧ u1c ≤ maxLen := by
      obtain ⟨a9, cap9, pb, po, hve, hr9, hp9, hcap9, hcm9⟩ := id hs16
      injection hve with e1 _ e2
      subst e1 e2
      exact ⟨hcap9, hcm9⟩
    obtain ⟨hcc1, hcc2⟩ := hccm
    have hcpd : Sl w7.drew (.slice u1a n u1c) (c.take n) := by
      have h1 := hs16.below hbw7
      obtain ⟨a9, cap9, pb, po, hve, hr9, hp9, hcap9, hcm9⟩ := h1
      injection hve with e1 _ e2
      subst e1 e2
      have h5 := Sl.piece (i := 0) (m := n) (c := u1c) (b := u1a) (hr9.of_eq (w' := w7.drew) rfl) hp9 (by omega) (fun h => hr9.at_ (by omega)) (by omega) hcc2
      rwa [List.drop_zero] at h5
    have hlcp : Lt (c.take n) := fun x hx => hlc x (List.mem_of_mem_take hx)
    have hncc : (n : Int) ≤ (u1c : Int) := by omega
    have HN := hide (And.intro hn1 (And.intro hn2 hn3))
    have hn63 : n ≤ 2000 := by omega
    have hncl : (n : Int) ≤ (c.length : Int) := by omega
    unfold maxLen at hcc2
    clear hn2 hn3 hs16 hs26 hs3 hs4
    go_wp2_with fail
    refine wp_region_held_drew (S := fun W => Below w.heap.size w W) (by kernel_rfl) hBd (fun hHeld => ?_)
    generalize w7.drew = wd at *
    refine wpAnyH_take (i := 0) (oi := ({ dst := some 44, op := Go.Op.move (Go.Operand.tmp 8), type := 22, pos := _, after := _, guard := none } : Oper)) (v := ?_) rfl (by kernel_rfl) (by kernel_rfl) (by kernel_rfl) (fun _ _ _ h => h) (Or.inl ⟨by rfl, ?_⟩) (by assumption) ?_
    rotate_left
    · (intro w hSw; (try dsimp only at hSw); go_simp; try with_reducible rfl)
    simp only [Act.put, List.setIfInBounds_toArray, List.set_cons_zero, List.set_cons_succ]
    refine wpAnyH_take (i := 1) (oi := ({ dst := some 45, op := Go.Op.move (Go.Operand.tmp 7), type := 22, pos := _, after := _, guard := none } : Oper)) (v := ?_) rfl (by kernel_rfl) (by kernel_rfl) (by kernel_rfl) (fun _ _ _ h => h) (Or.inl ⟨by rfl, ?_⟩) (by assumption) ?_
    rotate_left
    · (intro w hSw; (try dsimp only at hSw); go_simp; try with_reducible rfl)
    simp only [Act.put, List.setIfInBounds_toArray, List.set_cons_zero, List.set_cons_succ]
    refine wpAnyH_take (i := 2) (oi := ({ dst := some 46, op := Go.Op.move (Go.Operand.tmp 11), type := 3, pos := _, after := _, guard := none } : Oper)) (v := ?_) rfl (by kernel_rfl) (by kernel_rfl) (by kernel_rfl) (fun _ _ _ h => h) (Or.inl ⟨by rfl, ?_⟩) (by assumption) ?_
    rotate_left
    · (intro w hSw; (try dsimp only at hSw); go_simp; try with_reducible rfl)
    simp only [Act.put, List.setIfInBounds_toArray, List.set_cons_zero, List.set_cons_succ]
    refine wpAnyH_take (i := 3) (oi := ({ dst := some 47, op := Go.Op.slice 22 (Go.Operand.tmp 45) none (some (Go.Operand.tmp 46)) none, type := 22, pos := _, after := _, guard := none } : Oper)) (v := ?_) rfl (by kernel_rfl) (by kernel_rfl) (by kernel_rfl) (fun _ _ _ h => h) (Or.inl ⟨by rfl, ?_⟩) (by assumption) ?_
    rotate_left
    · (intro w hSw; (try dsimp only at hSw); go_simp; try with_reducible rfl)
    simp only [Act.put, List.setIfInBounds_toArray, List.set_cons_zero, List.set_cons_succ]
    refine wpAnyH_take (i := 4) (oi := ({ dst := some 48, op := Go.Op.move (Go.Operand.tmp 10), type := 22, pos := _, after := _, guard := none } : Oper)) (v := ?_) rfl (by kernel_rfl) (by kernel_rfl) (by kernel_rfl) (fun _ _ _ h => h) (Or.inl ⟨by rfl, ?_⟩) (by assumption) ?_
    rotate_left
    · (intro w hSw; (try dsimp only at hSw); go_simp; try with_reducible rfl)
    simp only [Act.put, List.setIfInBounds_toArray, List.set_cons_zero, List.set_cons_succ]
    refine wpAnyH_take (i := 8) (oi := ({ dst := some 52, op := Go.Op.build 26 #[], type := 26, pos := _, after := _, guard := none } : Oper)) (v := ?_) rfl (by kernel_rfl) (by kernel_rfl) (by kernel_rfl) (fun _ _ _ h => h) (Or.inl ⟨by rfl, ?_⟩) (by assumption) ?_
    rotate_left
    · (intro w hSw; (try dsimp only at hSw); go_simp; try with_reducible rfl)
    simp only [Act.put, List.setIfInBounds_toArray, List.set_cons_zero, List.set_cons_succ]
    refine wpAnyH_ready (rs := [5]) (by kernel_rfl) (by simp) (AllReadyH.cons (o := ({ dst := some 49, op := Go.Op.call { callee := Go.Callee.value (Go.Operand.func 38), args := #[Go.Operand.tmp 48], argTypes := #[22] }, type := 22, pos := _, after := _, guard := none } : Oper)) rfl (fun KK hK => ?_) AllReadyH.nil)
    go_simp
    refine (inverse_ok _ a2 wd hs4d hla2 (by omega)).mono ?_
    rintro x w8 ⟨iv, rfl, hiv, hb8⟩
    have hB8 := bcat hBd hb8 hged
    have hR8 : Blk w8 w.heap.size 26 [.int .i64 0, .int .i64 0] := hRd.of_eq (hb8.block _ hRd.lt)
    have hge8 := hB8.size
    have hiv8 := hiv.sl (show 0 < w8.heap.size by omega)
    obtain ⟨ia, ic, rfl⟩ := hiv.slice
    have hcp8 := hcpd.below hb8
    have ha8 := hs2d.below hb8
    try go_wp2_with fail
    refine hK.out _ _ hB8 (fun hHeld => ?_)
    clear hK
    try simp only [Act.put, List.setIfInBounds_toArray, List.set_cons_zero, List.set_cons_succ]
    refine wpAnyH_ready (rs := [6]) (by kernel_rfl) (by simp) (AllReadyH.cons (o := ({ dst := some 50, op := Go.Op.buildSlice 54 3 #[(0, Go.Operand.tmp 44), (1, Go.Operand.tmp 47), (2, Go.Operand.tmp 49)], type := 54, pos := _, after := _, guard := none } : Oper)) rfl (fun KK hK => ?_) AllReadyH.nil)
    go_simp
    refine hK.out _ _ (hB8.alloc hge8 _) (fun hHeld => ?_)
    clear hK
    try simp only [Act.put, List.setIfInBounds_toArray, List.set_cons_zero, List.set_cons_succ]
    refine wpAnyH_ready (rs := [7]) (by kernel_rfl) (by simp) (AllReadyH.cons (o := ({ dst := some 51, op := Go.Op.call { callee := Go.Callee.value (Go.Operand.func 37), args := #[Go.Operand.tmp 50], argTypes := #[54] }, type := 22, pos := _, after := _, guard := none } : Oper)) rfl (fun KK hK => ?_) AllReadyH.nil)
    go_simp
    refine (prod3 _ rfl ha8 hcp8 hiv8 hla hlcp hla2.wi (by have h9 := wi_length a2; have h8 : (c.take n).length ≤ c.length := (by rw [List.length_take]; omega); omega)).mono ?_
    rintro x w9 ⟨rr, rfl, hrr, hb9⟩
    have hB9 := bcat hB8 hb9 hge8
    have hR9 : Blk w9 w.heap.size 26 [.int .i64 0, .int .i64 0] := hR8.of_eq (hb9.block _ hR8.lt)
    obtain ⟨_, y0, y1, fy0, fy1, s0, s1⟩ := Two.mk' hR9
    have hrr9 := hrr.mono hge8
    try go_wp2_with fail
    refine hK.out _ _ hB9 (fun hHeld => ?_)
    clear hK
    try simp only [Act.put, List.setIfInBounds_toArray, List.set_cons_zero, List.set_cons_succ]
    refine wpAnyH_take (i := 9) (oi := ({ dst := some 4, op := Go.Op.assign (Go.Operand.tmp 51), type := 22, pos := _, after := _, guard := none } : Oper)) (v := ?_) rfl (by kernel_rfl) (by kernel_rfl) (by kernel_rfl) (fun _ _ _ h => h) (Or.inl ⟨by rfl, ?_⟩) (by assumption) ?_
    rotate_left
    · (intro w hSw; (try dsimp only at hSw); go_simp; try with_reducible rfl)
    simp only [Act.put, List.setIfInBounds_toArray, List.set_cons_zero, List.set_cons_succ]
    refine wpAnyH_ready (rs := [10]) (by kernel_rfl) (by simp) (AllReadyH.cons (o := ({ dst := none, op := Go.Op.store 26 (Go.Operand.tmp 5) (Go.Operand.tmp 52), type := 0, pos := _, after := _, guard := none } : Oper)) rfl (fun KK hK => ?_) AllReadyH.nil)
    go_simp
    refine hK.out _ _ hB9 (fun hHeld => ?_)
    clear hK
    try simp only [Act.put, List.setIfInBounds_toArray, List.set_cons_zero, List.set_cons_succ]
    refine wpAnyH_done (by kernel_rfl) ?_ _
    go_wp2
    exact bodyPost_ret (v := .tuple #[rr, .agg #[.int .i64 0, .int .i64 0]]) (by simp [results, Try.results30, go_sem, y0, y1]) rfl ⟨.inl ⟨rr, c, a, c2, a2, n, rfl, hrr9, HC1.out, HC2.out, HN.out.1, HN.out.2.1, HN.out.2.2⟩, hB9⟩
  · have hB7 := bcat hBw6 hbw7 hgew6
    have hR7 : Blk w7 w.heap.size 26 [.int .i64 0, .int .i64 0] := hRw6.of_eq (hbw7.block _ hRw6.lt)
    have HNO := hide hno
    clear hno hs16 hs26 hs3 hs4
    obtain ⟨_, y0, y1, fy0, fy1, s0, s1⟩ := Two.mk' hR7
    have hR9 : Blk ((w7.setCell ⟨w.heap.size, 0, none⟩ (.int .i64 6))) w.heap.size 26 [.int .i64 6, .int .i64 0] := hR7.set 0 _
    obtain ⟨z0, z1, _, fz1⟩ := hR9.two
    have hs9 := hR9.self.2
    have hB9 := hB7.setCell (p := ⟨w.heap.size, 0, none⟩) (Nat.le_refl _) (.int .i64 6)
    go_wp2
    exact bodyPost_ret (v := .tuple #[.slice none 0 0, .agg #[.int .i64 6, .int .i64 0]]) (by simp [results, Try.results30, go_sem, z0, z1]) rfl ⟨.inr ⟨c, a, c2, a2, rfl, HC1.out, HC2.out, HNO.out⟩, hB9⟩

end Go.Proofs.Ytakmfhnigpmngaa
