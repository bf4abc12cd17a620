/- What One, Inv and Abelian of package table answer: at every table, whatever it holds, and every number. -/
import Derived.Test.YtpcgacelljbkdaaRefG
namespace Go.Proofs.Ytpcgacelljbkdaa
open Go Go.RowKit

/-- The number that goes with a fault: none where there is one. -/
def okI (c x : Int) : Int := if c = 0 then x else 0
theorem okI_zero (x : Int) : okI 0 x = x := if_pos rfl
/-- What is wrong with a table, and then with a number as its thing. -/
def tfault (N : Int) (zs : List Int) (a : Int) : Int × Int := if (gfault N zs).1 ≠ 0 then gfault N zs else if 0 ≤ a ∧ a < N then (0, 0) else (3, 1)

/-- What lies where a function of a table begins: the table in a block of its own, and a fault behind it. -/
structure Beg (w w0 : World) (N : Int) (v : Value) : Prop where
  eq : w0 = (w.alloc (.cells #[.int .i64 N, v] 24)).alloc (.cells #[.int .i64 0, .int .i64 0] 27)
  bel : Below w.heap.size w w0
  box : BoxG w0 w.heap.size N v
  res : Blk w0 (w.heap.size + 1) 27 [.int .i64 0, .int .i64 0]
theorem Beg.new (w : World) (N : Int) (v : Value) : ∃ w0, Beg w w0 N v := by
  refine ⟨_, rfl, (balloc w _).alloc (by simp) _, (blk0 _ _).alloc _, ?_⟩
  have := Two.new (w.alloc (.cells #[.int .i64 N, v] 24))
  rw [World.size_alloc] at this; exact this.blk

set_option maxRecDepth 100000 in
set_option maxHeartbeats 4000000 in
theorem one_any (N : Int) (v : Value) (zs : List Int) (w : World) (hv : Sl w v zs) :
    Calls Try.prog 15 #[.agg #[.int .i64 N, v]] w fun x w' => x = .returned (.tuple #[.int .i64 (okI (gfault N zs).1 (one N.toNat zs)), .agg #[.int .i64 (gfault N zs).1, .int .i64 (gfault N zs).2]]) ∧ Below w.heap.size w w' := by
  obtain ⟨w0, BG⟩ := Beg.new w N v
  have hv0 := hv.below BG.bel
  obtain ⟨c0, c1, _, _⟩ := BG.box.two
  have hck := check_any N v zs w0 hv0
  obtain ⟨c, i, hci⟩ : ∃ c i, gfault N zs = (c, i) := ⟨_, _, rfl⟩
  rw [hci] at hck ⊢
  have HCK := hide hck
  have HCI := hide hci
  clear hck hci
  by_cases hc : c = 0
  · subst hc
    obtain ⟨n, e, rfl, hgr, hg0⟩ := gfault_grp (N := N) (zs := zs) (by rw [HCI.out])
    obtain rfl : i = 0 := by have := congrArg Prod.snd (HCI.out.symm.trans hg0); exact this
    simp only [okI_zero, Int.toNat_natCast]
    have HO := hide (fun W (h : Sl W v zs) => oneOf_ok n v zs W hgr.tab h)
    generalize one n zs = o at *
    clear hgr hg0 HCI
    rw [BG.eq] at c0 c1
    go_enter Try.func15, Try.ntmps15
    go_wp2_with fail
    rw [← BG.eq]
    refine HCK.out.mono ?_
    rintro x w1 ⟨rfl, hb1⟩
    clear c0 c1
    have hB1 := bcat2 hb1 (balloc w1 (.cells #[.int .i64 0, .int .i64 0] 27))
    obtain ⟨k0, k1, _, _⟩ := (blk_below BG.box hB1).two
    go_wp2_with fail
    refine (HO.out _ (hv0.below hB1)).mono ?_
    rintro x w2 ⟨rfl, hb2⟩
    have hB2 := bcat2 hB1 hb2
    have hBw := bcat BG.bel hB2 BG.bel.size
    obtain ⟨_, y0, y1, fy0, fy1, s0, s1⟩ := Two.mk' (blk_below BG.res hB2)
    clear k0 k1
    go_wp2
    exact bodyPost_ret (v := .tuple #[.int .i64 o, .agg #[.int .i64 0, .int .i64 0]]) (by simp [results, Try.results15, go_sem, y0, y1]) rfl ⟨rfl, hBw⟩
  · have hcb : (c != 0) = true := by simpa using hc
    clear HCI
    rw [BG.eq] at c0 c1
    go_enter Try.func15, Try.ntmps15
    go_wp2_with fail
    rw [← BG.eq]
    refine (HCK.out).mono ?_
    rintro x w1 ⟨rfl, hb1⟩
    clear c0 c1
    have hB1 := bcat2 hb1 (balloc w1 (.cells #[.int .i64 c, .int .i64 i] 27))
    have hR1 := blk_below BG.res hB1
    have hF1 : Blk (w1.alloc (.cells #[.int .i64 c, .int .i64 i] 27)) w1.heap.size 27 [.int .i64 c, .int .i64 i] := blk0 _ _
    have hBw := bcat BG.bel hB1 BG.bel.size
    have hs9 : w.heap.size + 1 < w1.heap.size := (blk_below BG.res hb1).lt
    obtain ⟨y0, y1, fy0, fy1⟩ := hR1.two
    obtain ⟨t0, t1, _, _⟩ := hF1.two
    go_wp2_with fail
    generalize w1.alloc (.cells #[.int .i64 c, .int .i64 i] 27) = w2 at *
    go_region
    go_wp2
    obtain ⟨hR6, hB6⟩ := put2 hR1 hBw (by omega) c i
    have hB7 := bdrew hB6
    have hR7 : Blk ((w2.setCell ⟨w.heap.size + 1, 0, none⟩ (.int .i64 c)).setCell ⟨w.heap.size + 1, 1, none⟩ (.int .i64 i)).drew (w.heap.size + 1) 27 [.int .i64 c, .int .i64 i] := hR6
    generalize ((w2.setCell ⟨w.heap.size + 1, 0, none⟩ (.int .i64 c)).setCell ⟨w.heap.size + 1, 1, none⟩ (.int .i64 i)).drew = W at hR7 hB7 ⊢
    obtain ⟨z0, z1, _, _⟩ := hR7.two
    exact bodyPost_ret (v := .tuple #[.int .i64 0, .agg #[.int .i64 c, .int .i64 i]]) (by simp [results, Try.results15, go_sem, z0, z1]) rfl ⟨by simp [okI, hc], hB7⟩

set_option maxRecDepth 100000 in
set_option maxHeartbeats 4000000 in
theorem checkThing_any (N a : Int) (v : Value) (zs : List Int) (w : World) (hv : Sl w v zs) :
    Calls Try.prog 59 #[.agg #[.int .i64 N, v], .int .i64 a] w fun x w' => x = .returned (.agg #[.int .i64 (tfault N zs a).1, .int .i64 (tfault N zs a).2]) ∧ Below w.heap.size w w' := by
  obtain ⟨w0, BG⟩ := Beg.new w N v
  have hv0 := hv.below BG.bel
  obtain ⟨c0, c1, _, _⟩ := BG.box.two
  have hck := check_any N v zs w0 hv0
  unfold tfault
  obtain ⟨c, i, hci⟩ : ∃ c i, gfault N zs = (c, i) := ⟨_, _, rfl⟩
  rw [hci] at hck ⊢
  have HCK := hide hck
  have HCI := hide hci
  clear hck hci
  by_cases hc : c = 0
  · subst hc
    obtain ⟨n, e, rfl, hgr, hg0⟩ := gfault_grp (N := N) (zs := zs) (by rw [HCI.out])
    obtain rfl : i = 0 := by have := congrArg Prod.snd (HCI.out.symm.trans hg0); exact this
    rw [if_neg (by simp)]
    clear hgr hg0 HCI
    rw [BG.eq] at c0 c1
    by_cases hin : 0 ≤ a ∧ a < n
    · rw [if_pos hin]
      have hd : decide (0 ≤ a ∧ a < (n : Int)) = true := decide_eq_true hin
      have HTH := hide (fun W => isThing_any n a v W)
      rw [hd] at HTH
      clear hd hin
      go_enter Try.func59, Try.ntmps59
      go_wp2_with fail
      rw [← BG.eq]
      refine HCK.out.mono ?_
      rintro x w1 ⟨rfl, hb1⟩
      clear c0 c1
      have hB1 := bcat2 hb1 (balloc w1 (.cells #[.int .i64 0, .int .i64 0] 27))
      obtain ⟨k0, k1, _, _⟩ := (blk_below BG.box hB1).two
      go_wp2_with fail
      refine (HTH.out _).mono ?_
      rintro x w2 ⟨rfl, hb2⟩
      have hB2 := bcat2 hB1 hb2
      have hBw := bcat BG.bel hB2 BG.bel.size
      obtain ⟨_, y0, y1, fy0, fy1, s0, s1⟩ := Two.mk' (blk_below BG.res hB2)
      clear k0 k1
      go_wp2
      exact bodyPost_ret (v := .agg #[.int .i64 0, .int .i64 0]) (by simp [results, Try.results59, go_sem, y0, y1]) rfl ⟨rfl, hBw⟩
    · rw [if_neg hin]
      have hd : decide (0 ≤ a ∧ a < (n : Int)) = false := decide_eq_false hin
      have HTH := hide (fun W => isThing_any n a v W)
      rw [hd] at HTH
      clear hd hin
      go_enter Try.func59, Try.ntmps59
      go_wp2_with fail
      rw [← BG.eq]
      refine HCK.out.mono ?_
      rintro x w1 ⟨rfl, hb1⟩
      clear c0 c1
      have hB1 := bcat2 hb1 (balloc w1 (.cells #[.int .i64 0, .int .i64 0] 27))
      obtain ⟨k0, k1, _, _⟩ := (blk_below BG.box hB1).two
      go_wp2_with fail
      refine (HTH.out _).mono ?_
      rintro x w2 ⟨rfl, hb2⟩
      have hB2 := bcat2 hB1 hb2
      have hBw := bcat BG.bel hB2 BG.bel.size
      have hR2 := blk_below BG.res hB2
      obtain ⟨y0, y1, fy0, fy1⟩ := hR2.two
      obtain ⟨hR6, hB6⟩ := put2 hR2 hBw (by omega) 3 1
      clear k0 k1
      go_wp2
      generalize (w2.setCell ⟨w.heap.size + 1, 0, none⟩ (.int .i64 3)).setCell ⟨w.heap.size + 1, 1, none⟩ (.int .i64 1) = W at hR6 hB6 ⊢
      obtain ⟨z0, z1, _, _⟩ := hR6.two
      exact bodyPost_ret (v := .agg #[.int .i64 3, .int .i64 1]) (by simp [results, Try.results59, go_sem, z0, z1]) rfl ⟨rfl, hB6⟩
  · have hcb : (c != 0) = true := by simpa using hc
    rw [if_pos hc]
    clear HCI
    rw [BG.eq] at c0 c1
    go_enter Try.func59, Try.ntmps59
    go_wp2_with fail
    rw [← BG.eq]
    refine HCK.out.mono ?_
    rintro x w1 ⟨rfl, hb1⟩
    clear c0 c1
    have hB1 := bcat2 hb1 (balloc w1 (.cells #[.int .i64 c, .int .i64 i] 27))
    have hR1 := blk_below BG.res hB1
    have hF1 : Blk (w1.alloc (.cells #[.int .i64 c, .int .i64 i] 27)) w1.heap.size 27 [.int .i64 c, .int .i64 i] := blk0 _ _
    have hBw := bcat BG.bel hB1 BG.bel.size
    obtain ⟨y0, y1, fy0, fy1⟩ := hR1.two
    obtain ⟨t0, t1, _, _⟩ := hF1.two
    obtain ⟨hR6, hB6⟩ := put2 hR1 hBw (by omega) c i
    go_wp2
    generalize ((w1.alloc (.cells #[.int .i64 c, .int .i64 i] 27)).setCell ⟨w.heap.size + 1, 0, none⟩ (.int .i64 c)).setCell ⟨w.heap.size + 1, 1, none⟩ (.int .i64 i) = W at hR6 hB6 ⊢
    obtain ⟨z0, z1, _, _⟩ := hR6.two
    exact bodyPost_ret (v := .agg #[.int .i64 c, .int .i64 i]) (by simp [results, Try.results59, go_sem, z0, z1]) rfl ⟨rfl, hB6⟩

theorem tfault_grp {N a : Int} {zs : List Int} (h : (tfault N zs a).1 = 0) : ∃ n e b : Nat, N = n ∧ a = b ∧ IsGrp n zs e ∧ b < n ∧ tfault N zs a = (0, 0) := by
  unfold tfault at h ⊢
  by_cases h1 : (gfault N zs).1 ≠ 0
  · rw [if_pos h1] at h; exact absurd h h1
  · rw [if_neg h1] at h ⊢
    obtain ⟨n, e, rfl, hg, _⟩ := gfault_grp (Decidable.not_not.1 h1)
    by_cases h2 : 0 ≤ a ∧ a < n
    · rw [if_pos h2]
      exact ⟨n, e, a.toNat, rfl, by omega, hg, by omega, rfl⟩
    · rw [if_neg h2] at h; cases h

set_option maxRecDepth 100000 in
set_option maxHeartbeats 4000000 in
theorem inv_any (N a : Int) (v : Value) (zs : List Int) (w : World) (hv : Sl w v zs) :
    Calls Try.prog 16 #[.agg #[.int .i64 N, v], .int .i64 a] w fun x w' => x = .returned (.tuple #[.int .i64 (okI (tfault N zs a).1 (invL N.toNat zs (one N.toNat zs) a.toNat)), .agg #[.int .i64 (tfault N zs a).1, .int .i64 (tfault N zs a).2]]) ∧ Below w.heap.size w w' := by
  obtain ⟨w0, BG⟩ := Beg.new w N v
  have hv0 := hv.below BG.bel
  obtain ⟨c0, c1, _, _⟩ := BG.box.two
  have hck := checkThing_any N a v zs w0 hv0
  obtain ⟨c, i, hci⟩ : ∃ c i, tfault N zs a = (c, i) := ⟨_, _, rfl⟩
  rw [hci] at hck ⊢
  have HCK := hide hck
  have HCI := hide hci
  clear hck hci
  by_cases hc : c = 0
  · subst hc
    obtain ⟨n, e, b, rfl, rfl, hgr, hbn, hg0⟩ := tfault_grp (N := N) (zs := zs) (a := a) (by rw [HCI.out])
    obtain rfl : i = 0 := by have := congrArg Prod.snd (HCI.out.symm.trans hg0); exact this
    simp only [okI_zero, Int.toNat_natCast]
    have HO := hide (fun W (h : Sl W v zs) => oneOf_ok n v zs W hgr.tab h)
    have HI := hide (fun W o (h : Sl W v zs) => inverseOf_ok n b o v zs W hgr.tab h hbn)
    generalize one n zs = o at *
    clear hgr hg0 HCI
    rw [BG.eq] at c0 c1
    go_enter Try.func16, Try.ntmps16
    go_wp2_with fail
    rw [← BG.eq]
    refine HCK.out.mono ?_
    rintro x w1 ⟨rfl, hb1⟩
    clear c0 c1
    have hB1 := bcat2 hb1 (balloc w1 (.cells #[.int .i64 0, .int .i64 0] 27))
    have hv1 := hv0.below hB1
    have hBw := bcat BG.bel hB1 BG.bel.size
    obtain ⟨k0, k1, _, _⟩ := (blk_below BG.box hB1).two
    have hR1 := blk_below BG.res hB1
    go_wp2_with fail
    generalize w1.alloc (.cells #[.int .i64 0, .int .i64 0] 27) = w2 at *
    have hS : ∀ W, Below w2.heap.size w2 W → (Below w2.heap.size w2 W ∧ W.cell? ⟨w.heap.size, 0, none⟩ = some (.int .i64 n) ∧ W.cell? ⟨w.heap.size, 1, none⟩ = some v ∧ W.cell? ⟨w.heap.size + 1, 0, none⟩ = some (.int .i64 0) ∧ W.cell? ⟨w.heap.size + 1, 1, none⟩ = some (.int .i64 0) ∧ W.frozen? ⟨w.heap.size + 1, 0, none⟩ = false ∧ W.frozen? ⟨w.heap.size + 1, 1, none⟩ = false ∧ W.setCell ⟨w.heap.size + 1, 0, none⟩ (.int .i64 0) = W ∧ W.setCell ⟨w.heap.size + 1, 1, none⟩ (.int .i64 0) = W) := fun W h => by
      obtain ⟨_, y0, y1, fy0, fy1, s0, s1⟩ := Two.mk' (blk_below hR1 h)
      exact ⟨h, below_cell h k0, below_cell h k1, y0, y1, fy0, fy1, s0, s1⟩
    have hS0 := hS _ (bdrew (Below.refl _ w2))
    go_region_held3 (fun W => Below w2.heap.size w2 W ∧ W.cell? ⟨w.heap.size, 0, none⟩ = some (.int .i64 n) ∧ W.cell? ⟨w.heap.size, 1, none⟩ = some v ∧ W.cell? ⟨w.heap.size + 1, 0, none⟩ = some (.int .i64 0) ∧ W.cell? ⟨w.heap.size + 1, 1, none⟩ = some (.int .i64 0) ∧ W.frozen? ⟨w.heap.size + 1, 0, none⟩ = false ∧ W.frozen? ⟨w.heap.size + 1, 1, none⟩ = false ∧ W.setCell ⟨w.heap.size + 1, 0, none⟩ (.int .i64 0) = W ∧ W.setCell ⟨w.heap.size + 1, 1, none⟩ (.int .i64 0) = W)
      (first | exact hS0 | assumption | exact hS _ (bcat2 (And.left ‹_›) hl1))
      (first
        | (go_at_call 53; refine (HO.out _ (hv1.below (And.left ‹_›))).mono ?_; rintro e W1 ⟨rfl, hl1⟩)
        | (go_at_call 58; refine (HI.out _ _ (hv1.below (And.left ‹_›))).mono ?_; rintro e W2 ⟨rfl, hl1⟩))
    all_goals (
      obtain ⟨hB3, _, _, z0, z1, _⟩ := ‹Below w2.heap.size w2 W2 ∧ _›
      have hBz := bcat hBw hB3 hBw.size
      clear hS hS0
      go_wp2
      exact bodyPost_ret (v := .tuple #[.int .i64 (invL n zs o b), .agg #[.int .i64 0, .int .i64 0]]) (by simp [results, Try.results16, go_sem, z0, z1]) rfl ⟨rfl, hBz⟩)
  · have hcb : (c != 0) = true := by simpa using hc
    clear HCI
    rw [BG.eq] at c0 c1
    go_enter Try.func16, Try.ntmps16
    go_wp2_with fail
    rw [← BG.eq]
    refine (HCK.out).mono ?_
    rintro x w1 ⟨rfl, hb1⟩
    clear c0 c1
    have hB1 := bcat2 hb1 (balloc w1 (.cells #[.int .i64 c, .int .i64 i] 27))
    have hR1 := blk_below BG.res hB1
    have hF1 : Blk (w1.alloc (.cells #[.int .i64 c, .int .i64 i] 27)) w1.heap.size 27 [.int .i64 c, .int .i64 i] := blk0 _ _
    have hBw := bcat BG.bel hB1 BG.bel.size
    have hs9 : w.heap.size + 1 < w1.heap.size := (blk_below BG.res hb1).lt
    obtain ⟨y0, y1, fy0, fy1⟩ := hR1.two
    obtain ⟨t0, t1, _, _⟩ := hF1.two
    go_wp2_with fail
    generalize w1.alloc (.cells #[.int .i64 c, .int .i64 i] 27) = w2 at *
    go_region
    go_wp2
    obtain ⟨hR6, hB6⟩ := put2 hR1 hBw (by omega) c i
    have hB7 := bdrew hB6
    have hR7 : Blk ((w2.setCell ⟨w.heap.size + 1, 0, none⟩ (.int .i64 c)).setCell ⟨w.heap.size + 1, 1, none⟩ (.int .i64 i)).drew (w.heap.size + 1) 27 [.int .i64 c, .int .i64 i] := hR6
    generalize ((w2.setCell ⟨w.heap.size + 1, 0, none⟩ (.int .i64 c)).setCell ⟨w.heap.size + 1, 1, none⟩ (.int .i64 i)).drew = W at hR7 hB7 ⊢
    obtain ⟨z0, z1, _, _⟩ := hR7.two
    exact bodyPost_ret (v := .tuple #[.int .i64 0, .agg #[.int .i64 c, .int .i64 i]]) (by simp [results, Try.results16, go_sem, z0, z1]) rfl ⟨by simp [okI, hc], hB7⟩
end Go.Proofs.Ytpcgacelljbkdaa
