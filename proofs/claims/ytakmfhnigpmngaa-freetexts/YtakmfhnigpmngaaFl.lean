/- What Reduce, Mul, Inv, Commute and Core answer. -/
import Derived.Test.YtakmfhnigpmngaaFk
namespace Go.Proofs.Ytakmfhnigpmngaa
open Go Go.RowKit

/-- product of one, two or three words, whose list lies in a block of its own. -/
theorem prod1 {u : Value} {zs : List Int} {W : World} (B : Nat) (hB : W.heap.size = B) (h : Sl W u zs) (hlt : Lt zs) (hsm : zs.length ≤ 1000000) :
    Calls Try.prog 37 #[.slice (some ⟨B, 0, none⟩) 1 1] (W.alloc (.cells #[u] 22)) fun e w' => ∃ r, e = .returned r ∧ Row w' W.heap.size r (red zs) ∧ Below W.heap.size W w' := by
  subst hB
  refine (product_ok _ [zs] _ (SlW.one h) (by intro v hv; simp at hv; rw [hv]; exact hlt) (by simpa using hsm)).mono ?_
  rintro e w' ⟨r, rfl, hr, hb⟩
  have h0 := balloc W (.cells #[u] 22)
  exact ⟨r, rfl, by have := hr.mono h0.size; simpa using this, bcat h0 hb h0.size⟩
theorem Row.below {W W' : World} {B : Nat} {v : Value} {zs : List Int} (h : Row W B v zs) (hb : Below W.heap.size W W') : Row W' B v zs := by
  refine ⟨h.1, ?_⟩
  rcases h.2 with h2 | ⟨g, cap, cur, hv, hge, hh, rest⟩
  · exact .inl h2
  · exact .inr ⟨g, cap, cur, hv, hge, (hb.block g (Array.getElem?_eq_some_iff.1 hh).1).trans hh, rest⟩
theorem prod2 {u v : Value} {zs ys : List Int} {W : World} (B : Nat) (hB : W.heap.size = B) (h : Sl W u zs) (k : Sl W v ys) (hlt : Lt zs) (klt : Lt ys) (hsm : zs.length + ys.length ≤ 1000000) :
    Calls Try.prog 37 #[.slice (some ⟨B, 0, none⟩) 2 2] (W.alloc (.cells #[u, v] 22)) fun e w' => ∃ r, e = .returned r ∧ Row w' W.heap.size r (red (zs ++ ys)) ∧ Below W.heap.size W w' := by
  subst hB
  refine (product_ok _ [zs, ys] _ (SlW.two h k) (by intro x hx; simp at hx; rcases hx with hx | hx <;> rw [hx] <;> assumption) (by simpa using hsm)).mono ?_
  rintro e w' ⟨r, rfl, hr, hb⟩
  have h0 := balloc W (.cells #[u, v] 22)
  exact ⟨r, rfl, by have := hr.mono h0.size; simpa using this, bcat h0 hb h0.size⟩
theorem prod3 {u v x : Value} {zs ys xs : List Int} {W : World} (B : Nat) (hB : W.heap.size = B) (h : Sl W u zs) (k : Sl W v ys) (l : Sl W x xs) (hlt : Lt zs) (klt : Lt ys) (llt : Lt xs) (hsm : zs.length + (ys.length + xs.length) ≤ 1000000) :
    Calls Try.prog 37 #[.slice (some ⟨B, 0, none⟩) 3 3] (W.alloc (.cells #[u, v, x] 22)) fun e w' => ∃ r, e = .returned r ∧ Row w' W.heap.size r (red (zs ++ (ys ++ xs))) ∧ Below W.heap.size W w' := by
  subst hB
  refine (product_ok _ [zs, ys, xs] _ (SlW.three h k l) (by intro y hy; simp at hy; rcases hy with hy | hy | hy <;> rw [hy] <;> assumption) (by simpa using hsm)).mono ?_
  rintro e w' ⟨r, rfl, hr, hb⟩
  have h0 := balloc W (.cells #[u, v, x] 22)
  exact ⟨r, rfl, by have := hr.mono h0.size; simpa using this, bcat h0 hb h0.size⟩

set_option maxRecDepth 100000 in
set_option maxHeartbeats 4000000 in
theorem reduce_bad (v : Value) (zs : List Int) (w : World) (hv : Sl w v zs) (hc : wsc [zs] ≠ 0) :
    Calls Try.prog 14 #[v] w fun e w' => e = .returned (.tuple #[.slice none 0 0, .agg #[.int .i64 (wsc [zs]), .int .i64 (wsa [zs])]]) ∧ Below w.heap.size w w' := by
  obtain ⟨va, vc, _, _, hve, _⟩ := id hv
  subst hve
  obtain ⟨w0, hw0⟩ : ∃ w0, w0 = (w.alloc (.cells #[.int .i64 0, .int .i64 0] 26)).alloc (.cells #[.slice va zs.length vc] 22) := ⟨_, rfl⟩
  have HSL := SlW.one (hv.below (balloc w (.cells #[.int .i64 0, .int .i64 0] 26)))
  rw [World.size_alloc] at HSL
  have HCK := hide (checks_any (.slice (some ⟨w.heap.size + 1, 0, none⟩) 1 1) [zs] _ HSL)
  clear HSL
  rw [← hw0] at HCK
  have hB0 : Below w.heap.size w w0 := by rw [hw0]; exact (balloc w (.cells #[.int .i64 0, .int .i64 0] 26)).alloc (balloc w (.cells #[.int .i64 0, .int .i64 0] 26)).size _
  have hR0 : Blk w0 w.heap.size 26 [.int .i64 0, .int .i64 0] := by rw [hw0]; exact (new26 w).alloc _
  have hs0 := hB0.size
  have hcb : (wsc [zs] != 0) = true := by simpa using hc
  generalize wsc [zs] = c at *
  generalize wsa [zs] = d at *
  clear hv hc
  go_enter Try.func14, Try.ntmps14
  go_wp2_with fail
  rw [← hw0]
  refine HCK.out.mono ?_
  rintro x w1 ⟨rfl, hb1⟩
  obtain ⟨w2, hw2⟩ : ∃ w2, w2 = w1.alloc (.cells #[.int .i64 c, .int .i64 d] 26) := ⟨_, rfl⟩
  have hB1 : Below w0.heap.size w0 w2 := by rw [hw2]; exact bcat2 hb1 (balloc w1 _)
  have hF1 : Blk w2 w1.heap.size 26 [.int .i64 c, .int .i64 d] := by rw [hw2]; exact blk0 _ _
  have hR1 : Blk w2 w.heap.size 26 [.int .i64 0, .int .i64 0] := hR0.of_eq (hB1.block _ hR0.lt)
  have hBw := bcat hB0 hB1 hs0
  obtain ⟨y0, y1, fy0, fy1⟩ := hR1.two
  obtain ⟨t0, t1, _, _⟩ := hF1.two
  have hlt1 : w.heap.size < w1.heap.size := Nat.lt_of_lt_of_le hR0.lt hb1.size
  have hnn : ¬ w1.heap.size = w.heap.size := by omega
  rw [hw2] at t0 t1
  go_wp2_with fail
  rw [← hw2]
  rw [← hw2] at t0 t1
  clear hw2
  go_region
  all_goals (
    go_wp2
    have hR7 : Blk ((w2.setCell ⟨w.heap.size, 0, none⟩ (.int .i64 c)).setCell ⟨w.heap.size, 1, none⟩ (.int .i64 d)).drew w.heap.size 26 [.int .i64 c, .int .i64 d] := (hR1.set 0 _).set 1 _
    have hB7 := bdrew ((hBw.setCell (p := ⟨w.heap.size, 0, none⟩) (Nat.le_refl _) (.int .i64 c)).setCell (p := ⟨w.heap.size, 1, none⟩) (Nat.le_refl _) (.int .i64 d))
    generalize ((w2.setCell ⟨w.heap.size, 0, none⟩ (.int .i64 c)).setCell ⟨w.heap.size, 1, none⟩ (.int .i64 d)).drew = W at hR7 hB7 ⊢
    obtain ⟨z0, z1, _, _⟩ := hR7.two
    exact bodyPost_ret (v := .tuple #[.slice none 0 0, .agg #[.int .i64 c, .int .i64 d]]) (by simp [results, Try.results14, go_sem, z0, z1]) rfl ⟨rfl, hB7⟩)

set_option maxRecDepth 100000 in
set_option maxHeartbeats 4000000 in
theorem reduce_good (v : Value) (zs : List Int) (w : World) (hv : Sl w v zs) (hw : Wd zs) :
    Calls Try.prog 14 #[v] w fun e w' => (∃ r, e = .returned (.tuple #[r, .agg #[.int .i64 0, .int .i64 0]]) ∧ Row w' w.heap.size r (red zs)) ∧ Below w.heap.size w w' := by
  obtain ⟨hc, hd⟩ := wsc_zero (ws := [zs]) (by intro x hx; simp at hx; rw [hx]; exact hw)
  have hlz := hw.lt
  have hnz := hw.len
  obtain ⟨va, vc, _, _, hve, _⟩ := id hv
  subst hve
  obtain ⟨w0, hw0⟩ : ∃ w0, w0 = (w.alloc (.cells #[.int .i64 0, .int .i64 0] 26)).alloc (.cells #[.slice va zs.length vc] 22) := ⟨_, rfl⟩
  have HSL := SlW.one (hv.below (balloc w (.cells #[.int .i64 0, .int .i64 0] 26)))
  rw [World.size_alloc] at HSL
  have HCK := hide (checks_any (.slice (some ⟨w.heap.size + 1, 0, none⟩) 1 1) [zs] _ HSL)
  clear HSL
  rw [← hw0, hc, hd] at HCK
  have hB0 : Below w.heap.size w w0 := by rw [hw0]; exact (balloc w (.cells #[.int .i64 0, .int .i64 0] 26)).alloc (balloc w (.cells #[.int .i64 0, .int .i64 0] 26)).size _
  have hR0 : Blk w0 w.heap.size 26 [.int .i64 0, .int .i64 0] := by rw [hw0]; exact (new26 w).alloc _
  have hs0 := hB0.size
  clear hc hd
  go_enter Try.func14, Try.ntmps14
  go_wp2_with fail
  rw [← hw0]
  refine HCK.out.mono ?_
  rintro x w1 ⟨rfl, hb1⟩
  clear hw0 HCK
  have hB1 : Below w0.heap.size w0 (w1.alloc (.cells #[.int .i64 0, .int .i64 0] 26)) := bcat2 hb1 (balloc w1 _)
  have hR1 : Blk (w1.alloc (.cells #[.int .i64 0, .int .i64 0] 26)) w.heap.size 26 [.int .i64 0, .int .i64 0] := hR0.of_eq (hB1.block _ hR0.lt)
  have hBw := bcat hB0 hB1 hs0
  have hlt1 : w.heap.size < w1.heap.size := Nat.lt_of_lt_of_le hR0.lt hb1.size
  have hnn : ¬ w1.heap.size = w.heap.size := by omega
  obtain ⟨W2, hW2⟩ : ∃ W2, W2 = w1.alloc (.cells #[.int .i64 0, .int .i64 0] 26) := ⟨_, rfl⟩
  have hW2s : W2.heap.size = w1.heap.size + 1 := by rw [hW2, World.size_alloc]
  rw [← hW2] at hB1 hR1 hBw
  have hge := hBw.size
  have hv2 := hv.below hBw
  have hBW2 := hBw
  have hgeW2 := hge
  have hRW2 := hR1
  go_wp2_with fail
  rw [← hW2]
  refine (prod1 _ hW2s hv2 hlz (by omega)).mono ?_
  rintro x w3 ⟨r, rfl, hr, hbw3⟩
  have hBw3 := bcat hBW2 hbw3 hgeW2
  have hRw3 : Blk w3 w.heap.size 26 [.int .i64 0, .int .i64 0] := hRW2.of_eq (hbw3.block _ hRW2.lt)
  have hgew3 := hBw3.size
  have hr3 := hr.mono hge
  obtain ⟨_, y0, y1, fy0, fy1, s0, s1⟩ := Two.mk' hRw3
  go_wp2
  exact bodyPost_ret (v := .tuple #[r, .agg #[.int .i64 0, .int .i64 0]]) (by simp [results, Try.results14, go_sem, y0, y1]) rfl ⟨⟨_, rfl, hr3⟩, hBw3⟩

set_option maxRecDepth 100000 in
set_option maxHeartbeats 4000000 in
theorem mul_bad (v u : Value) (zs ys : List Int) (w : World) (hv : Sl w v zs) (hu : Sl w u ys) (hc : wsc [zs, ys] ≠ 0) :
    Calls Try.prog 15 #[v, u] w fun e w' => e = .returned (.tuple #[.slice none 0 0, .agg #[.int .i64 (wsc [zs, ys]), .int .i64 (wsa [zs, ys])]]) ∧ Below w.heap.size w w' := by
  obtain ⟨va, vc, _, _, hve, _⟩ := id hv
  obtain ⟨ua, uc, _, _, hue, _⟩ := id hu
  subst hve hue
  obtain ⟨w0, hw0⟩ : ∃ w0, w0 = (w.alloc (.cells #[.int .i64 0, .int .i64 0] 26)).alloc (.cells #[.slice va zs.length vc, .slice ua ys.length uc] 22) := ⟨_, rfl⟩
  have HSL := SlW.two (hv.below (balloc w (.cells #[.int .i64 0, .int .i64 0] 26))) (hu.below (balloc w (.cells #[.int .i64 0, .int .i64 0] 26)))
  rw [World.size_alloc] at HSL
  have HCK := hide (checks_any (.slice (some ⟨w.heap.size + 1, 0, none⟩) 2 2) [zs, ys] _ HSL)
  clear HSL
  rw [← hw0] at HCK
  have hB0 : Below w.heap.size w w0 := by rw [hw0]; exact (balloc w (.cells #[.int .i64 0, .int .i64 0] 26)).alloc (balloc w (.cells #[.int .i64 0, .int .i64 0] 26)).size _
  have hR0 : Blk w0 w.heap.size 26 [.int .i64 0, .int .i64 0] := by rw [hw0]; exact (new26 w).alloc _
  have hs0 := hB0.size
  have hcb : (wsc [zs, ys] != 0) = true := by simpa using hc
  generalize wsc [zs, ys] = c at *
  generalize wsa [zs, ys] = d at *
  clear hv hu hc
  go_enter Try.func15, Try.ntmps15
  go_wp2_with fail
  rw [← hw0]
  refine HCK.out.mono ?_
  rintro x w1 ⟨rfl, hb1⟩
  obtain ⟨w2, hw2⟩ : ∃ w2, w2 = w1.alloc (.cells #[.int .i64 c, .int .i64 d] 26) := ⟨_, rfl⟩
  have hB1 : Below w0.heap.size w0 w2 := by rw [hw2]; exact bcat2 hb1 (balloc w1 _)
  have hF1 : Blk w2 w1.heap.size 26 [.int .i64 c, .int .i64 d] := by rw [hw2]; exact blk0 _ _
  have hR1 : Blk w2 w.heap.size 26 [.int .i64 0, .int .i64 0] := hR0.of_eq (hB1.block _ hR0.lt)
  have hBw := bcat hB0 hB1 hs0
  obtain ⟨y0, y1, fy0, fy1⟩ := hR1.two
  obtain ⟨t0, t1, _, _⟩ := hF1.two
  have hlt1 : w.heap.size < w1.heap.size := Nat.lt_of_lt_of_le hR0.lt hb1.size
  have hnn : ¬ w1.heap.size = w.heap.size := by omega
  rw [hw2] at t0 t1
  go_wp2_with fail
  rw [← hw2]
  rw [← hw2] at t0 t1
  clear hw2
  go_region
  all_goals (
    go_wp2
    have hR7 : Blk ((w2.setCell ⟨w.heap.size, 0, none⟩ (.int .i64 c)).setCell ⟨w.heap.size, 1, none⟩ (.int .i64 d)).drew w.heap.size 26 [.int .i64 c, .int .i64 d] := (hR1.set 0 _).set 1 _
    have hB7 := bdrew ((hBw.setCell (p := ⟨w.heap.size, 0, none⟩) (Nat.le_refl _) (.int .i64 c)).setCell (p := ⟨w.heap.size, 1, none⟩) (Nat.le_refl _) (.int .i64 d))
    generalize ((w2.setCell ⟨w.heap.size, 0, none⟩ (.int .i64 c)).setCell ⟨w.heap.size, 1, none⟩ (.int .i64 d)).drew = W at hR7 hB7 ⊢
    obtain ⟨z0, z1, _, _⟩ := hR7.two
    exact bodyPost_ret (v := .tuple #[.slice none 0 0, .agg #[.int .i64 c, .int .i64 d]]) (by simp [results, Try.results15, go_sem, z0, z1]) rfl ⟨rfl, hB7⟩)

set_option maxRecDepth 100000 in
set_option maxHeartbeats 4000000 in
theorem mul_good (v u : Value) (zs ys : List Int) (w : World) (hv : Sl w v zs) (hu : Sl w u ys) (hw : Wd zs) (hy : Wd ys) :
    Calls Try.prog 15 #[v, u] w fun e w' => (∃ r, e = .returned (.tuple #[r, .agg #[.int .i64 0, .int .i64 0]]) ∧ Row w' w.heap.size r (red (zs ++ ys))) ∧ Below w.heap.size w w' := by
  obtain ⟨hc, hd⟩ := wsc_zero (ws := [zs, ys]) (by intro x hx; simp at hx; rcases hx with hx | hx <;> rw [hx] <;> assumption)
  have hlz := hw.lt
  have hnz := hw.len
  have hly := hy.lt
  have hny := hy.len
  obtain ⟨va, vc, _, _, hve, _⟩ := id hv
  obtain ⟨ua, uc, _, _, hue, _⟩ := id hu
  subst hve hue
  obtain ⟨w0, hw0⟩ : ∃ w0, w0 = (w.alloc (.cells #[.int .i64 0, .int .i64 0] 26)).alloc (.cells #[.slice va zs.length vc, .slice ua ys.length uc] 22) := ⟨_, rfl⟩
  have HSL := SlW.two (hv.below (balloc w (.cells #[.int .i64 0, .int .i64 0] 26))) (hu.below (balloc w (.cells #[.int .i64 0, .int .i64 0] 26)))
  rw [World.size_alloc] at HSL
  have HCK := hide (checks_any (.slice (some ⟨w.heap.size + 1, 0, none⟩) 2 2) [zs, ys] _ HSL)
  clear HSL
  rw [← hw0, hc, hd] at HCK
  have hB0 : Below w.heap.size w w0 := by rw [hw0]; exact (balloc w (.cells #[.int .i64 0, .int .i64 0] 26)).alloc (balloc w (.cells #[.int .i64 0, .int .i64 0] 26)).size _
  have hR0 : Blk w0 w.heap.size 26 [.int .i64 0, .int .i64 0] := by rw [hw0]; exact (new26 w).alloc _
  have hs0 := hB0.size
  clear hc hd
  go_enter Try.func15, Try.ntmps15
  go_wp2_with fail
  rw [← hw0]
  refine HCK.out.mono ?_
  rintro x w1 ⟨rfl, hb1⟩
  clear hw0 HCK
  have hB1 : Below w0.heap.size w0 (w1.alloc (.cells #[.int .i64 0, .int .i64 0] 26)) := bcat2 hb1 (balloc w1 _)
  have hR1 : Blk (w1.alloc (.cells #[.int .i64 0, .int .i64 0] 26)) w.heap.size 26 [.int .i64 0, .int .i64 0] := hR0.of_eq (hB1.block _ hR0.lt)
  have hBw := bcat hB0 hB1 hs0
  have hlt1 : w.heap.size < w1.heap.size := Nat.lt_of_lt_of_le hR0.lt hb1.size
  have hnn : ¬ w1.heap.size = w.heap.size := by omega
  obtain ⟨W2, hW2⟩ : ∃ W2, W2 = w1.alloc (.cells #[.int .i64 0, .int .i64 0] 26) := ⟨_, rfl⟩
  have hW2s : W2.heap.size = w1.heap.size + 1 := by rw [hW2, World.size_alloc]
  rw [← hW2] at hB1 hR1 hBw
  have hge := hBw.size
  have hv2 := hv.below hBw
  have hu2 := hu.below hBw
  have hBW2 := hBw
  have hgeW2 := hge
  have hRW2 := hR1
  go_wp2_with fail
  rw [← hW2]
  refine (prod2 _ hW2s hv2 hu2 hlz hly (by omega)).mono ?_
  rintro x w3 ⟨r, rfl, hr, hbw3⟩
  have hBw3 := bcat hBW2 hbw3 hgeW2
  have hRw3 : Blk w3 w.heap.size 26 [.int .i64 0, .int .i64 0] := hRW2.of_eq (hbw3.block _ hRW2.lt)
  have hgew3 := hBw3.size
  have hr3 := hr.mono hge
  obtain ⟨_, y0, y1, fy0, fy1, s0, s1⟩ := Two.mk' hRw3
  go_wp2
  exact bodyPost_ret (v := .tuple #[r, .agg #[.int .i64 0, .int .i64 0]]) (by simp [results, Try.results15, go_sem, y0, y1]) rfl ⟨⟨_, rfl, hr3⟩, hBw3⟩

set_option maxRecDepth 100000 in
set_option maxHeartbeats 4000000 in
theorem inv_bad (v : Value) (zs : List Int) (w : World) (hv : Sl w v zs) (hc : wsc [zs] ≠ 0) :
    Calls Try.prog 16 #[v] w fun e w' => e = .returned (.tuple #[.slice none 0 0, .agg #[.int .i64 (wsc [zs]), .int .i64 (wsa [zs])]]) ∧ Below w.heap.size w w' := by
  obtain ⟨va, vc, _, _, hve, _⟩ := id hv
  subst hve
  obtain ⟨w0, hw0⟩ : ∃ w0, w0 = (w.alloc (.cells #[.int .i64 0, .int .i64 0] 26)).alloc (.cells #[.slice va zs.length vc] 22) := ⟨_, rfl⟩
  have HSL := SlW.one (hv.below (balloc w (.cells #[.int .i64 0, .int .i64 0] 26)))
  rw [World.size_alloc] at HSL
  have HCK := hide (checks_any (.slice (some ⟨w.heap.size + 1, 0, none⟩) 1 1) [zs] _ HSL)
  clear HSL
  rw [← hw0] at HCK
  have hB0 : Below w.heap.size w w0 := by rw [hw0]; exact (balloc w (.cells #[.int .i64 0, .int .i64 0] 26)).alloc (balloc w (.cells #[.int .i64 0, .int .i64 0] 26)).size _
  have hR0 : Blk w0 w.heap.size 26 [.int .i64 0, .int .i64 0] := by rw [hw0]; exact (new26 w).alloc _
  have hs0 := hB0.size
  have hcb : (wsc [zs] != 0) = true := by simpa using hc
  generalize wsc [zs] = c at *
  generalize wsa [zs] = d at *
  clear hv hc
  go_enter Try.func16, Try.ntmps16
  go_wp2_with fail
  rw [← hw0]
  refine HCK.out.mono ?_
  rintro x w1 ⟨rfl, hb1⟩
  obtain ⟨w2, hw2⟩ : ∃ w2, w2 = w1.alloc (.cells #[.int .i64 c, .int .i64 d] 26) := ⟨_, rfl⟩
  have hB1 : Below w0.heap.size w0 w2 := by rw [hw2]; exact bcat2 hb1 (balloc w1 _)
  have hF1 : Blk w2 w1.heap.size 26 [.int .i64 c, .int .i64 d] := by rw [hw2]; exact blk0 _ _
  have hR1 : Blk w2 w.heap.size 26 [.int .i64 0, .int .i64 0] := hR0.of_eq (hB1.block _ hR0.lt)
  have hBw := bcat hB0 hB1 hs0
  obtain ⟨y0, y1, fy0, fy1⟩ := hR1.two
  obtain ⟨t0, t1, _, _⟩ := hF1.two
  have hlt1 : w.heap.size < w1.heap.size := Nat.lt_of_lt_of_le hR0.lt hb1.size
  have hnn : ¬ w1.heap.size = w.heap.size := by omega
  rw [hw2] at t0 t1
  go_wp2_with fail
  rw [← hw2]
  rw [← hw2] at t0 t1
  clear hw2
  go_region
  all_goals (
    go_wp2
    have hR7 : Blk ((w2.setCell ⟨w.heap.size, 0, none⟩ (.int .i64 c)).setCell ⟨w.heap.size, 1, none⟩ (.int .i64 d)).drew w.heap.size 26 [.int .i64 c, .int .i64 d] := (hR1.set 0 _).set 1 _
    have hB7 := bdrew ((hBw.setCell (p := ⟨w.heap.size, 0, none⟩) (Nat.le_refl _) (.int .i64 c)).setCell (p := ⟨w.heap.size, 1, none⟩) (Nat.le_refl _) (.int .i64 d))
    generalize ((w2.setCell ⟨w.heap.size, 0, none⟩ (.int .i64 c)).setCell ⟨w.heap.size, 1, none⟩ (.int .i64 d)).drew = W at hR7 hB7 ⊢
    obtain ⟨z0, z1, _, _⟩ := hR7.two
    exact bodyPost_ret (v := .tuple #[.slice none 0 0, .agg #[.int .i64 c, .int .i64 d]]) (by simp [results, Try.results16, go_sem, z0, z1]) rfl ⟨rfl, hB7⟩)

set_option maxRecDepth 100000 in
set_option maxHeartbeats 4000000 in
theorem inv_good (v : Value) (zs : List Int) (w : World) (hv : Sl w v zs) (hw : Wd zs) :
    Calls Try.prog 16 #[v] w fun e w' => (∃ r, e = .returned (.tuple #[r, .agg #[.int .i64 0, .int .i64 0]]) ∧ Row w' w.heap.size r (red (wi zs))) ∧ Below w.heap.size w w' := by
  obtain ⟨hc, hd⟩ := wsc_zero (ws := [zs]) (by intro x hx; simp at hx; rw [hx]; exact hw)
  have hlz := hw.lt
  have hnz := hw.len
  obtain ⟨va, vc, _, _, hve, _⟩ := id hv
  subst hve
  obtain ⟨w0, hw0⟩ : ∃ w0, w0 = (w.alloc (.cells #[.int .i64 0, .int .i64 0] 26)).alloc (.cells #[.slice va zs.length vc] 22) := ⟨_, rfl⟩
  have HSL := SlW.one (hv.below (balloc w (.cells #[.int .i64 0, .int .i64 0] 26)))
  rw [World.size_alloc] at HSL
  have HCK := hide (checks_any (.slice (some ⟨w.heap.size + 1, 0, none⟩) 1 1) [zs] _ HSL)
  clear HSL
  rw [← hw0, hc, hd] at HCK
  have hB0 : Below w.heap.size w w0 := by rw [hw0]; exact (balloc w (.cells #[.int .i64 0, .int .i64 0] 26)).alloc (balloc w (.cells #[.int .i64 0, .int .i64 0] 26)).size _
  have hR0 : Blk w0 w.heap.size 26 [.int .i64 0, .int .i64 0] := by rw [hw0]; exact (new26 w).alloc _
  have hs0 := hB0.size
  clear hc hd
  go_enter Try.func16, Try.ntmps16
  go_wp2_with fail
  rw [← hw0]
  refine HCK.out.mono ?_
  rintro x w1 ⟨rfl, hb1⟩
  clear hw0 HCK
  have hB1 : Below w0.heap.size w0 (w1.alloc (.cells #[.int .i64 0, .int .i64 0] 26)) := bcat2 hb1 (balloc w1 _)
  have hR1 : Blk (w1.alloc (.cells #[.int .i64 0, .int .i64 0] 26)) w.heap.size 26 [.int .i64 0, .int .i64 0] := hR0.of_eq (hB1.block _ hR0.lt)
  have hBw := bcat hB0 hB1 hs0
  have hlt1 : w.heap.size < w1.heap.size := Nat.lt_of_lt_of_le hR0.lt hb1.size
  have hnn : ¬ w1.heap.size = w.heap.size := by omega
  obtain ⟨W2, hW2⟩ : ∃ W2, W2 = w1.alloc (.cells #[.int .i64 0, .int .i64 0] 26) := ⟨_, rfl⟩
  have hW2s : W2.heap.size = w1.heap.size + 1 := by rw [hW2, World.size_alloc]
  rw [← hW2] at hB1 hR1 hBw
  have hge := hBw.size
  have hv2 := hv.below hBw
  have hBW2 := hBw
  have hgeW2 := hge
  have hRW2 := hR1
  go_wp2_with fail
  rw [← hW2]
  refine (inverse_ok _ zs W2 hv2 hlz (by omega)).mono ?_
  rintro x w3 ⟨r, rfl, hr, hbw3⟩
  have hBw3 := bcat hBW2 hbw3 hgeW2
  have hRw3 : Blk w3 w.heap.size 26 [.int .i64 0, .int .i64 0] := hRW2.of_eq (hbw3.block _ hRW2.lt)
  have hgew3 := hBw3.size
  have hr3 := hr.sl (show 0 < w3.heap.size by omega)
  obtain ⟨ra, rc, rfl⟩ := hr.slice
  go_wp2_with fail
  refine (prod1 _ rfl hr3 hlz.wi (by rw [wi_length]; omega)).mono ?_
  rintro x w4 ⟨r2, rfl, hr2, hbw4⟩
  have hBw4 := bcat hBw3 hbw4 hgew3
  have hRw4 : Blk w4 w.heap.size 26 [.int .i64 0, .int .i64 0] := hRw3.of_eq (hbw4.block _ hRw3.lt)
  have hgew4 := hBw4.size
  have hr4 := hr2.mono hgew3
  obtain ⟨_, y0, y1, fy0, fy1, s0, s1⟩ := Two.mk' hRw4
  go_wp2
  exact bodyPost_ret (v := .tuple #[r2, .agg #[.int .i64 0, .int .i64 0]]) (by simp [results, Try.results16, go_sem, y0, y1]) rfl ⟨⟨_, rfl, hr4⟩, hBw4⟩

set_option maxRecDepth 100000 in
set_option maxHeartbeats 4000000 in
theorem commute_bad (v u : Value) (zs ys : List Int) (w : World) (hv : Sl w v zs) (hu : Sl w u ys) (hc : wsc [zs, ys] ≠ 0) :
    Calls Try.prog 17 #[v, u] w fun e w' => e = .returned (.tuple #[.bool false, .agg #[.int .i64 (wsc [zs, ys]), .int .i64 (wsa [zs, ys])]]) ∧ Below w.heap.size w w' := by
  obtain ⟨va, vc, _, _, hve, _⟩ := id hv
  obtain ⟨ua, uc, _, _, hue, _⟩ := id hu
  subst hve hue
  obtain ⟨w0, hw0⟩ : ∃ w0, w0 = (w.alloc (.cells #[.int .i64 0, .int .i64 0] 26)).alloc (.cells #[.slice va zs.length vc, .slice ua ys.length uc] 22) := ⟨_, rfl⟩
  have HSL := SlW.two (hv.below (balloc w (.cells #[.int .i64 0, .int .i64 0] 26))) (hu.below (balloc w (.cells #[.int .i64 0, .int .i64 0] 26)))
  rw [World.size_alloc] at HSL
  have HCK := hide (checks_any (.slice (some ⟨w.heap.size + 1, 0, none⟩) 2 2) [zs, ys] _ HSL)
  clear HSL
  rw [← hw0] at HCK
  have hB0 : Below w.heap.size w w0 := by rw [hw0]; exact (balloc w (.cells #[.int .i64 0, .int .i64 0] 26)).alloc (balloc w (.cells #[.int .i64 0, .int .i64 0] 26)).size _
  have hR0 : Blk w0 w.heap.size 26 [.int .i64 0, .int .i64 0] := by rw [hw0]; exact (new26 w).alloc _
  have hs0 := hB0.size
  have hcb : (wsc [zs, ys] != 0) = true := by simpa using hc
  generalize wsc [zs, ys] = c at *
  generalize wsa [zs, ys] = d at *
  clear hv hu hc
  go_enter Try.func17, Try.ntmps17
  go_wp2_with fail
  rw [← hw0]
  refine HCK.out.mono ?_
  rintro x w1 ⟨rfl, hb1⟩
  obtain ⟨w2, hw2⟩ : ∃ w2, w2 = w1.alloc (.cells #[.int .i64 c, .int .i64 d] 26) := ⟨_, rfl⟩
  have hB1 : Below w0.heap.size w0 w2 := by rw [hw2]; exact bcat2 hb1 (balloc w1 _)
  have hF1 : Blk w2 w1.heap.size 26 [.int .i64 c, .int .i64 d] := by rw [hw2]; exact blk0 _ _
  have hR1 : Blk w2 w.heap.size 26 [.int .i64 0, .int .i64 0] := hR0.of_eq (hB1.block _ hR0.lt)
  have hBw := bcat hB0 hB1 hs0
  obtain ⟨y0, y1, fy0, fy1⟩ := hR1.two
  obtain ⟨t0, t1, _, _⟩ := hF1.two
  have hlt1 : w.heap.size < w1.heap.size := Nat.lt_of_lt_of_le hR0.lt hb1.size
  have hnn : ¬ w1.heap.size = w.heap.size := by omega
  rw [hw2] at t0 t1
  go_wp2_with fail
  rw [← hw2]
  rw [← hw2] at t0 t1
  clear hw2
  go_region
  all_goals (
    go_wp2
    have hR7 : Blk ((w2.setCell ⟨w.heap.size, 0, none⟩ (.int .i64 c)).setCell ⟨w.heap.size, 1, none⟩ (.int .i64 d)).drew w.heap.size 26 [.int .i64 c, .int .i64 d] := (hR1.set 0 _).set 1 _
    have hB7 := bdrew ((hBw.setCell (p := ⟨w.heap.size, 0, none⟩) (Nat.le_refl _) (.int .i64 c)).setCell (p := ⟨w.heap.size, 1, none⟩) (Nat.le_refl _) (.int .i64 d))
    generalize ((w2.setCell ⟨w.heap.size, 0, none⟩ (.int .i64 c)).setCell ⟨w.heap.size, 1, none⟩ (.int .i64 d)).drew = W at hR7 hB7 ⊢
    obtain ⟨z0, z1, _, _⟩ := hR7.two
    exact bodyPost_ret (v := .tuple #[.bool false, .agg #[.int .i64 c, .int .i64 d]]) (by simp [results, Try.results17, go_sem, z0, z1]) rfl ⟨rfl, hB7⟩)

set_option maxRecDepth 100000 in
set_option maxHeartbeats 4000000 in
theorem commute_good (v u : Value) (zs ys : List Int) (w : World) (hv : Sl w v zs) (hu : Sl w u ys) (hw : Wd zs) (hy : Wd ys) :
    Calls Try.prog 17 #[v, u] w fun e w' => e = .returned (.tuple #[.bool (decide (red (zs ++ ys) = red (ys ++ zs))), .agg #[.int .i64 0, .int .i64 0]]) ∧ Below w.heap.size w w' := by
  obtain ⟨hc, hd⟩ := wsc_zero (ws := [zs, ys]) (by intro x hx; simp at hx; rcases hx with hx | hx <;> rw [hx] <;> assumption)
  have hlz := hw.lt
  have hnz := hw.len
  have hly := hy.lt
  have hny := hy.len
  obtain ⟨va, vc, _, _, hve, _⟩ := id hv
  obtain ⟨ua, uc, _, _, hue, _⟩ := id hu
  subst hve hue
  obtain ⟨w0, hw0⟩ : ∃ w0, w0 = (w.alloc (.cells #[.int .i64 0, .int .i64 0] 26)).alloc (.cells #[.slice va zs.length vc, .slice ua ys.length uc] 22) := ⟨_, rfl⟩
  have HSL := SlW.two (hv.below (balloc w (.cells #[.int .i64 0, .int .i64 0] 26))) (hu.below (balloc w (.cells #[.int .i64 0, .int .i64 0] 26)))
  rw [World.size_alloc] at HSL
  have HCK := hide (checks_any (.slice (some ⟨w.heap.size + 1, 0, none⟩) 2 2) [zs, ys] _ HSL)
  clear HSL
  rw [← hw0, hc, hd] at HCK
  have hB0 : Below w.heap.size w w0 := by rw [hw0]; exact (balloc w (.cells #[.int .i64 0, .int .i64 0] 26)).alloc (balloc w (.cells #[.int .i64 0, .int .i64 0] 26)).size _
  have hR0 : Blk w0 w.heap.size 26 [.int .i64 0, .int .i64 0] := by rw [hw0]; exact (new26 w).alloc _
  have hs0 := hB0.size
  clear hc hd
  go_enter Try.func17, Try.ntmps17
  go_wp2_with fail
  rw [← hw0]
  refine HCK.out.mono ?_
  rintro x w1 ⟨rfl, hb1⟩
  clear hw0 HCK
  have hB1 : Below w0.heap.size w0 (w1.alloc (.cells #[.int .i64 0, .int .i64 0] 26)) := bcat2 hb1 (balloc w1 _)
  have hR1 : Blk (w1.alloc (.cells #[.int .i64 0, .int .i64 0] 26)) w.heap.size 26 [.int .i64 0, .int .i64 0] := hR0.of_eq (hB1.block _ hR0.lt)
  have hBw := bcat hB0 hB1 hs0
  have hlt1 : w.heap.size < w1.heap.size := Nat.lt_of_lt_of_le hR0.lt hb1.size
  have hnn : ¬ w1.heap.size = w.heap.size := by omega
  obtain ⟨W2, hW2⟩ : ∃ W2, W2 = w1.alloc (.cells #[.int .i64 0, .int .i64 0] 26) := ⟨_, rfl⟩
  have hW2s : W2.heap.size = w1.heap.size + 1 := by rw [hW2, World.size_alloc]
  rw [← hW2] at hB1 hR1 hBw
  have hge := hBw.size
  have hv2 := hv.below hBw
  have hu2 := hu.below hBw
  have hBW2 := hBw
  have hgeW2 := hge
  have hRW2 := hR1
  go_wp2_with fail
  rw [← hW2]
  refine (prod2 _ hW2s hv2 hu2 hlz hly (by omega)).mono ?_
  rintro x w3 ⟨r, rfl, hr, hbw3⟩
  have hBw3 := bcat hBW2 hbw3 hgeW2
  have hRw3 : Blk w3 w.heap.size 26 [.int .i64 0, .int .i64 0] := hRW2.of_eq (hbw3.block _ hRW2.lt)
  have hgew3 := hBw3.size
  have hr3 := hr.sl (show 0 < w3.heap.size by omega)
  go_wp2_with fail
  refine (prod2 _ rfl (hu2.below hbw3) (hv2.below hbw3) hly hlz (by omega)).mono ?_
  rintro x w4 ⟨r2, rfl, hr2, hbw4⟩
  have hBw4 := bcat hBw3 hbw4 hgew3
  have hRw4 : Blk w4 w.heap.size 26 [.int .i64 0, .int .i64 0] := hRw3.of_eq (hbw4.block _ hRw3.lt)
  have hgew4 := hBw4.size
  have hr4 := hr2.sl (show 0 < w4.heap.size by omega)
  have hr34 := hr3.below hbw4
  go_wp2_with fail
  refine (equal_q _ _ _ _ w4 hr34 hr4).mono ?_
  rintro x w5 ⟨rfl, m, rfl⟩
  have hBw5 := bdrewN hBw4 m
  have hRw5 : Blk (w4.drewN m) w.heap.size 26 [.int .i64 0, .int .i64 0] := hRw4
  generalize w4.drewN m = w5 at *
  obtain ⟨_, y0, y1, fy0, fy1, s0, s1⟩ := Two.mk' hRw5
  go_wp2
  exact bodyPost_ret (v := .tuple #[.bool (decide (red (zs ++ ys) = red (ys ++ zs))), .agg #[.int .i64 0, .int .i64 0]]) (by simp [results, Try.results17, go_sem, y0, y1]) rfl ⟨rfl, hBw5⟩

set_option maxRecDepth 100000 in
set_option maxHeartbeats 4000000 in
theorem core_bad (v : Value) (zs : List Int) (w : World) (hv : Sl w v zs) (hc : wsc [zs] ≠ 0) :
    Calls Try.prog 28 #[v] w fun e w' => e = .returned (.tuple #[.slice none 0 0, .slice none 0 0, .agg #[.int .i64 (wsc [zs]), .int .i64 (wsa [zs])]]) ∧ Below w.heap.size w w' := by
  obtain ⟨va, vc, _, _, hve, _⟩ := id hv
  subst hve
  obtain ⟨w0, hw0⟩ : ∃ w0, w0 = (w.alloc (.cells #[.int .i64 0, .int .i64 0] 26)).alloc (.cells #[.slice va zs.length vc] 22) := ⟨_, rfl⟩
  have HSL := SlW.one (hv.below (balloc w (.cells #[.int .i64 0, .int .i64 0] 26)))
  rw [World.size_alloc] at HSL
  have HCK := hide (checks_any (.slice (some ⟨w.heap.size + 1, 0, none⟩) 1 1) [zs] _ HSL)
  clear HSL
  rw [← hw0] at HCK
  have hB0 : Below w.heap.size w w0 := by rw [hw0]; exact (balloc w (.cells #[.int .i64 0, .int .i64 0] 26)).alloc (balloc w (.cells #[.int .i64 0, .int .i64 0] 26)).size _
  have hR0 : Blk w0 w.heap.size 26 [.int .i64 0, .int .i64 0] := by rw [hw0]; exact (new26 w).alloc _
  have hs0 := hB0.size
  have hcb : (wsc [zs] != 0) = true := by simpa using hc
  generalize wsc [zs] = c at *
  generalize wsa [zs] = d at *
  clear hv hc
  go_enter Try.func28, Try.ntmps28
  go_wp2_with fail
  rw [← hw0]
  refine HCK.out.mono ?_
  rintro x w1 ⟨rfl, hb1⟩
  obtain ⟨w2, hw2⟩ : ∃ w2, w2 = w1.alloc (.cells #[.int .i64 c, .int .i64 d] 26) := ⟨_, rfl⟩
  have hB1 : Below w0.heap.size w0 w2 := by rw [hw2]; exact bcat2 hb1 (balloc w1 _)
  have hF1 : Blk w2 w1.heap.size 26 [.int .i64 c, .int .i64 d] := by rw [hw2]; exact blk0 _ _
  have hR1 : Blk w2 w.heap.size 26 [.int .i64 0, .int .i64 0] := hR0.of_eq (hB1.block _ hR0.lt)
  have hBw := bcat hB0 hB1 hs0
  obtain ⟨y0, y1, fy0, fy1⟩ := hR1.two
  obtain ⟨t0, t1, _, _⟩ := hF1.two
  have hlt1 : w.heap.size < w1.heap.size := Nat.lt_of_lt_of_le hR0.lt hb1.size
  have hnn : ¬ w1.heap.size = w.heap.size := by omega
  rw [hw2] at t0 t1
  go_wp2_with fail
  rw [← hw2]
  rw [← hw2] at t0 t1
  clear hw2
  go_region
  all_goals (
    go_wp2
    have hR7 : Blk ((w2.setCell ⟨w.heap.size, 0, none⟩ (.int .i64 c)).setCell ⟨w.heap.size, 1, none⟩ (.int .i64 d)).drew w.heap.size 26 [.int .i64 c, .int .i64 d] := (hR1.set 0 _).set 1 _
    have hB7 := bdrew ((hBw.setCell (p := ⟨w.heap.size, 0, none⟩) (Nat.le_refl _) (.int .i64 c)).setCell (p := ⟨w.heap.size, 1, none⟩) (Nat.le_refl _) (.int .i64 d))
    generalize ((w2.setCell ⟨w.heap.size, 0, none⟩ (.int .i64 c)).setCell ⟨w.heap.size, 1, none⟩ (.int .i64 d)).drew = W at hR7 hB7 ⊢
    obtain ⟨z0, z1, _, _⟩ := hR7.two
    exact bodyPost_ret (v := .tuple #[.slice none 0 0, .slice none 0 0, .agg #[.int .i64 c, .int .i64 d]]) (by simp [results, Try.results28, go_sem, z0, z1]) rfl ⟨rfl, hB7⟩)

set_option maxRecDepth 100000 in
set_option maxHeartbeats 4000000 in
theorem core_good (v : Value) (zs : List Int) (w : World) (hv : Sl w v zs) (hw : Wd zs) :
    Calls Try.prog 28 #[v] w fun e w' => (∃ r1 r2 c a, e = .returned (.tuple #[r1, r2, .agg #[.int .i64 0, .int .i64 0]]) ∧ Row w' w.heap.size r1 c ∧ Row w' w.heap.size r2 a ∧ IsCore (red zs) c a) ∧ Below w.heap.size w w' := by
  obtain ⟨hc, hd⟩ := wsc_zero (ws := [zs]) (by intro x hx; simp at hx; rw [hx]; exact hw)
  have hlz := hw.lt
  have hnz := hw.len
  obtain ⟨va, vc, _, _, hve, _⟩ := id hv
  subst hve
  obtain ⟨w0, hw0⟩ : ∃ w0, w0 = (w.alloc (.cells #[.int .i64 0, .int .i64 0] 26)).alloc (.cells #[.slice va zs.length vc] 22) := ⟨_, rfl⟩
  have HSL := SlW.one (hv.below (balloc w (.cells #[.int .i64 0, .int .i64 0] 26)))
  rw [World.size_alloc] at HSL
  have HCK := hide (checks_any (.slice (some ⟨w.heap.size + 1, 0, none⟩) 1 1) [zs] _ HSL)
  clear HSL
  rw [← hw0, hc, hd] at HCK
  have hB0 : Below w.heap.size w w0 := by rw [hw0]; exact (balloc w (.cells #[.int .i64 0, .int .i64 0] 26)).alloc (balloc w (.cells #[.int .i64 0, .int .i64 0] 26)).size _
  have hR0 : Blk w0 w.heap.size 26 [.int .i64 0, .int .i64 0] := by rw [hw0]; exact (new26 w).alloc _
  have hs0 := hB0.size
  clear hc hd
  go_enter Try.func28, Try.ntmps28
  go_wp2_with fail
  rw [← hw0]
  refine HCK.out.mono ?_
  rintro x w1 ⟨rfl, hb1⟩
  clear hw0 HCK
  have hB1 : Below w0.heap.size w0 (w1.alloc (.cells #[.int .i64 0, .int .i64 0] 26)) := bcat2 hb1 (balloc w1 _)
  have hR1 : Blk (w1.alloc (.cells #[.int .i64 0, .int .i64 0] 26)) w.heap.size 26 [.int .i64 0, .int .i64 0] := hR0.of_eq (hB1.block _ hR0.lt)
  have hBw := bcat hB0 hB1 hs0
  have hlt1 : w.heap.size < w1.heap.size := Nat.lt_of_lt_of_le hR0.lt hb1.size
  have hnn : ¬ w1.heap.size = w.heap.size := by omega
  obtain ⟨W2, hW2⟩ : ∃ W2, W2 = w1.alloc (.cells #[.int .i64 0, .int .i64 0] 26) := ⟨_, rfl⟩
  have hW2s : W2.heap.size = w1.heap.size + 1 := by rw [hW2, World.size_alloc]
  rw [← hW2] at hB1 hR1 hBw
  have hge := hBw.size
  have hv2 := hv.below hBw
  have hBW2 := hBw
  have hgeW2 := hge
  have hRW2 := hR1
  have hrl := Nat.le_trans (red_len zs) hnz
  go_wp2_with fail
  rw [← hW2]
  refine (prod1 _ hW2s hv2 hlz (by omega)).mono ?_
  rintro x w3 ⟨r, rfl, hr, hbw3⟩
  have hBw3 := bcat hBW2 hbw3 hgeW2
  have hRw3 : Blk w3 w.heap.size 26 [.int .i64 0, .int .i64 0] := hRW2.of_eq (hbw3.block _ hRW2.lt)
  have hgew3 := hBw3.size
  have hr3 := hr.sl (show 0 < w3.heap.size by omega)
  go_wp2_with fail
  refine (coreOf_ok _ _ w3 hr3 hlz.red (by omega)).mono ?_
  rintro x w4 ⟨u1, u2, c, a, rfl, hs1, hs2, hcore, hbw4⟩
  have hBw4 := bcat hBw3 hbw4 hgew3
  have hRw4 : Blk w4 w.heap.size 26 [.int .i64 0, .int .i64 0] := hRw3.of_eq (hbw4.block _ hRw3.lt)
  have hgew4 := hBw4.size
  have hcl : c.length ≤ 1000000 ∧ a.length ≤ 1000000 := by
    have := congrArg List.length hcore.eq
    simp [wi_length] at this
    omega
  obtain ⟨hcl1, hcl2⟩ := hcl
  have HCO := hide hcore
  clear hcore
  go_wp2_with fail
  refine (clone_ok _ _ w4 hs1 hcl1).mono ?_
  rintro x w5 ⟨r1, rfl, hr1, hbw5⟩
  have hBw5 := bcat hBw4 hbw5 hgew4
  have hRw5 : Blk w5 w.heap.size 26 [.int .i64 0, .int .i64 0] := hRw4.of_eq (hbw5.block _ hRw4.lt)
  have hgew5 := hBw5.size
  go_wp2_with fail
  refine (clone_ok _ _ w5 (hs2.below hbw5) hcl2).mono ?_
  rintro x w6 ⟨r2, rfl, hr2, hbw6⟩
  have hBw6 := bcat hBw5 hbw6 hgew5
  have hRw6 : Blk w6 w.heap.size 26 [.int .i64 0, .int .i64 0] := hRw5.of_eq (hbw6.block _ hRw5.lt)
  have hgew6 := hBw6.size
  have hr16 : Row w6 w.heap.size r1 c := by
    exact (hr1.below hbw6).mono hgew4
  have hr26 := hr2.mono hgew5
  obtain ⟨_, y0, y1, fy0, fy1, s0, s1⟩ := Two.mk' hRw6
  go_wp2
  exact bodyPost_ret (v := .tuple #[r1, r2, .agg #[.int .i64 0, .int .i64 0]]) (by simp [results, Try.results28, go_sem, y0, y1]) rfl ⟨⟨_, _, _, _, rfl, hr16, hr26, HCO.out⟩, hBw6⟩

end Go.Proofs.Ytakmfhnigpmngaa
