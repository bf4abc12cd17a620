/- What the document's SubFault tells. -/
import Derived.Test.YtodabkjadejekaaDoorCj2
namespace Go.Proofs.YtodabkjadejekaaDoor
open Go Go.RowKit

theorem pset_self {n : Nat} {l : List Int} (h : lfault n l = (0, 0)) : pset l = fun a => decide (a ∈ lst n (pset l)) := by
  have hli := set_lst (show (lfault n l).1 = 0 by rw [h])
  funext a
  have : pset l a = pset (li (lst n (pset l))) a := by rw [← hli]
  rw [this]
  unfold pset
  rw [Bool.eq_iff_iff, decide_eq_true_eq, decide_eq_true_eq, mem_li]
/-- Closed, of a list with which nothing is wrong. -/
theorem closed_set (n e : Nat) (v u : Value) (zs l : List Int) (w : World) (hv : Sl w v zs) (hg : IsGrp n zs e) (hu : Sl w u l) (hl : lfault n l = (0, 0)) :
    Calls Tryd.prog 79 #[.agg #[.int .i64 n, v], u] w fun x w' => x = .returned (.bool (subT n zs e (pset l))) ∧ Below w.heap.size w w' := by
  have hli := set_lst (show (lfault n l).1 = 0 by rw [hl])
  have h := closed_ok n e v u zs (lst n (pset l)) w hv hg (by rw [← hli]; exact hu) (fun x hx => (mem_lst.1 hx).1) (Nat.le_trans (lst_len _ _) (by have := hg.tab.le; omega))
  rwa [← pset_self hl] at h

set_option maxRecDepth 100000 in
set_option maxHeartbeats 4000000 in
theorem rsub_any (N : Int) (v u : Value) (zs l : List Int) (w : World) (hv : Sl w v zs) (hu : Sl w u l) :
    Calls Tryd.prog 44 #[.agg #[.int .i64 N, v], u] w fun x w' => x = .returned (.agg #[.int .i64 (ufault N zs l).1, .int .i64 (ufault N zs l).2]) ∧ Below w.heap.size w w' := by
  obtain ⟨w0, BG⟩ := Beg.new w N v
  obtain ⟨c0, c1, _, _⟩ := BG.box.two
  have HSF := hide (rset_any N v u zs l w0 (hv.below BG.bel) (hu.below BG.bel))
  by_cases hc : (sfault N zs l).1 = 0
  · obtain ⟨n, e, rfl, hg, hl, h0⟩ := sfault_zero hc
    rw [ufault_u hg hl]
    rw [h0] at HSF
    have HCL := hide (fun W (h : Below w.heap.size w W) => closed_set n e v u zs l W (hv.below h) hg (hu.below h) hl)
    simp only at HSF
    clear h0 hc hl
    obtain ⟨b, hb⟩ : ∃ b, subT n zs e (pset l) = b := ⟨_, rfl⟩
    rw [hb] at HCL ⊢
    clear hb
    rw [BG.eq] at c0 c1
    go_enter Tryd.func44, Tryd.ntmps44
    go_wp2_with fail
    rw [← BG.eq]
    clear c0 c1
    refine HSF.out.mono ?_
    rintro x w1 ⟨rfl, hb1⟩
    have hb2 := bcat2 hb1 (balloc w1 (.cells #[.int .i64 0, .int .i64 0] 28))
    have hF2 := blk0 (w := w1) (T := 28) (.int .i64 0) (.int .i64 0)
    have hX2 := blk_below BG.box hb2
    have HS1 := hide (blk_below BG.res hb1).lt
    obtain ⟨c0, c1, _, _⟩ := hX2.two
    obtain ⟨t0, t1, _, _⟩ := hF2.two
    have hBw := bcat BG.bel hb2 BG.bel.size
    go_wp2_with fail
    generalize w1.alloc (.cells #[.int .i64 0, .int .i64 0] 28) = w2 at *
    clear c0 c1 t0 t1
    refine (HCL.out w2 hBw).mono ?_
    rintro x w3 ⟨rfl, hb3⟩
    have hF3 := blk_below hF2 hb3
    have hB3 := bcat hBw hb3 hBw.size
    have hR3 := blk_below BG.res (bcat2 hb2 hb3)
    cases b with
    | true =>
      obtain ⟨t0, t1, _, _⟩ := hF3.two
      obtain ⟨_, y0, y1, fy0, fy1, s0, s1⟩ := Two.mk' hR3
      go_wp2
      exact bodyPost_ret (v := .agg #[.int .i64 0, .int .i64 0]) (by simp [results, Tryd.results44, go_sem, y0, y1]) rfl ⟨rfl, hB3⟩
    | false =>
      go_wp2_with fail
      refine (f_any 7 0 w3).mono ?_
      rintro x w4 ⟨rfl, hb4⟩
      have hF4 := blk_below hF3 hb4
      have hB4 := bcat hB3 hb4 hB3.size
      have hR4 := blk_below hR3 hb4
      obtain ⟨t0, t1, tf0, tf1⟩ := hF4.two
      obtain ⟨hF5, hB5⟩ := put2 hF4 hB4 (by have := HS1.out; omega) 7 0
      have hR5 := (hR4.other (p := ⟨w1.heap.size, 0, none⟩) (by have := HS1.out; simp; omega) (.int .i64 7)).other (p := ⟨w1.heap.size, 1, none⟩) (by have := HS1.out; simp; omega) (.int .i64 0)
      obtain ⟨f0, f1, _, _⟩ := hF5.two
      obtain ⟨y0, y1, fy0, fy1⟩ := hR5.two
      go_wp2_with fail
      generalize (w4.setCell ⟨w1.heap.size, 0, none⟩ (.int .i64 7)).setCell ⟨w1.heap.size, 1, none⟩ (.int .i64 0) = w5 at *
      obtain ⟨hR6, hB6⟩ := put2 hR5 hB5 (by omega) 7 0
      go_wp2
      generalize (w5.setCell ⟨w.heap.size + 1, 0, none⟩ (.int .i64 7)).setCell ⟨w.heap.size + 1, 1, none⟩ (.int .i64 0) = W at hR6 hB6 ⊢
      obtain ⟨z0, z1, _, _⟩ := hR6.two
      exact bodyPost_ret (v := .agg #[.int .i64 7, .int .i64 0]) (by simp [results, Tryd.results44, go_sem, z0, z1]) rfl ⟨rfl, hB6⟩
  · rw [ufault_s hc]
    obtain ⟨c, i, hci⟩ : ∃ c i, sfault N zs l = (c, i) := ⟨_, _, rfl⟩
    rw [hci] at HSF hc ⊢
    simp only at HSF hc ⊢
    clear hci
    have hcb : (c == 0) = false := by simpa using hc
    rw [BG.eq] at c0 c1
    go_enter Tryd.func44, Tryd.ntmps44
    go_wp2_with fail
    rw [← BG.eq]
    clear c0 c1
    refine HSF.out.mono ?_
    rintro x w1 ⟨rfl, hb1⟩
    have hb2 := bcat2 hb1 (balloc w1 (.cells #[.int .i64 c, .int .i64 i] 28))
    have hF2 := blk0 (w := w1) (T := 28) (.int .i64 c) (.int .i64 i)
    obtain ⟨t0, t1, _, _⟩ := hF2.two
    have hBw := bcat BG.bel hb2 BG.bel.size
    have hR2 := blk_below BG.res hb2
    obtain ⟨y0, y1, fy0, fy1⟩ := hR2.two
    obtain ⟨hR6, hB6⟩ := put2 hR2 hBw (by omega) c i
    go_wp2
    generalize ((w1.alloc (.cells #[.int .i64 c, .int .i64 i] 28)).setCell ⟨w.heap.size + 1, 0, none⟩ (.int .i64 c)).setCell ⟨w.heap.size + 1, 1, none⟩ (.int .i64 i) = W at hR6 hB6 ⊢
    obtain ⟨z0, z1, _, _⟩ := hR6.two
    exact bodyPost_ret (v := .agg #[.int .i64 c, .int .i64 i]) (by simp [results, Tryd.results44, go_sem, z0, z1]) rfl ⟨rfl, hB6⟩
end Go.Proofs.YtodabkjadejekaaDoor
