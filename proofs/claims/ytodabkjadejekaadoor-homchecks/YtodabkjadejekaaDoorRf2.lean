/- What the document's ListFault and SetFault tell. -/
import Derived.Test.YtodabkjadejekaaDoorOps
namespace Go.Proofs.YtodabkjadejekaaDoor
open Go Go.RowKit

set_option maxRecDepth 100000 in
set_option maxHeartbeats 4000000 in
theorem rlist_any (n : Nat) (v u : Value) (ls : List Int) (w : World) (hn : n ≤ 60) (hu : Sl w u ls) :
    Calls Tryd.prog 52 #[.agg #[.int .i64 n, v], u] w fun x w' => x = .returned (.agg #[.int .i64 (lfault n ls).1, .int .i64 (lfault n ls).2]) ∧ Below w.heap.size w w' := by
  obtain ⟨w0, BG⟩ := Beg.new w n v
  obtain ⟨a, cap, pb, po, rfl, hr, hp, hq3, hq4⟩ := hu
  have HR := hide hr
  obtain ⟨c0, c1, _, _⟩ := BG.box.two
  obtain ⟨_, y0, y1, fy0, fy1, s0, s1⟩ := Two.mk' BG.res
  by_cases hmany : n < ls.length
  · rw [lfault_many hmany]
    have hmi : (n : Int) < (ls.length : Int) := by omega
    have hF := hide (f_any 2 0)
    rw [BG.eq] at c0 c1
    go_enter Tryd.func52, Tryd.ntmps52
    go_wp2_with fail
    rw [← BG.eq]
    clear c0 c1 y0 y1 fy0 fy1 s0 s1
    refine (hF.out w0).mono ?_
    rintro x w1 ⟨rfl, hb1⟩
    have hR1 := blk_below BG.res hb1
    obtain ⟨y0, y1, fy0, fy1⟩ := hR1.two
    obtain ⟨hR6, hB6⟩ := put2 hR1 (bcat BG.bel hb1 BG.bel.size) (by omega) 2 0
    go_wp2
    generalize (w1.setCell ⟨w.heap.size + 1, 0, none⟩ (.int .i64 2)).setCell ⟨w.heap.size + 1, 1, none⟩ (.int .i64 0) = W at hR6 hB6 ⊢
    obtain ⟨z0, z1, _, _⟩ := hR6.two
    exact bodyPost_ret (v := .agg #[.int .i64 2, .int .i64 0]) (by simp [results, Tryd.results52, go_sem, z0, z1]) rfl ⟨rfl, hB6⟩
  · have hle : ls.length ≤ n := by omega
    have hmi : ¬ (n : Int) < (ls.length : Int) := by omega
    rw [BG.eq] at c0 c1
    clear y0 y1 fy0 fy1 s0 s1 hr
    go_enter Tryd.func52, Tryd.ntmps52
    go_wp2
    rw [← BG.eq]
    clear c0 c1
    go_loopw [5] (fun i wr => ∃ k : Nat, k ≤ ls.length ∧ i = .int .i64 k ∧ (∀ t, t < k → (rbad n ls t || fbad ls t) = false) ∧ Below w0.heap.size w0 wr) (fun i _ => ls.length - (intOf i).toNat)
    case atStart => exact ⟨0, Nat.zero_le _, rfl, fun t ht => by omega, Below.refl _ _⟩
    case round =>
      obtain ⟨k, hk, rfl, hno, hB⟩ := hrel
      have HNO := hide hno
      clear hno
      obtain ⟨c0, c1, _, _⟩ := (blk_below BG.box hB).two
      have hRk := blk_below BG.res hB
      obtain ⟨_, y0, y1, fy0, fy1, s0, s1⟩ := Two.mk' hRk
      have hBw := bcat BG.bel hB BG.bel.size
      by_cases hlt : k < ls.length
      · have hck := (HR.out.below hBw hp).cell k hlt
        obtain rfl := HR.out.at_ (by omega)
        obtain ⟨c, hc⟩ : ∃ c, ls[k]?.getD 0 = c := ⟨_, rfl⟩
        rw [hc] at hck
        have hki : (k : Int) < (ls.length : Int) := by omega
        by_cases hrb : c < 0 ∨ (n : Int) ≤ c
        · have HLF := hide (lfault_r hle hlt HNO.out (by unfold rbad; rw [hc]; simp [hrb]))
          clear hc
          rcases hrb with hc0 | hcn
          · have hc0i : c < 0 := hc0
            go_wp2_with fail
            go_quiet (fail)
            have hBq := bdrewN hB nq
            generalize wr.drewN nq = wq at hBq ⊢
            clear c0 c1 y0 y1 fy0 fy1 s0 s1
            obtain ⟨c0, c1, _, _⟩ := (blk_below BG.box hBq).two
            obtain ⟨_, y0, y1, fy0, fy1, s0, s1⟩ := Two.mk' (blk_below BG.res hBq)
            go_wp2_with fail
            refine (f_any 3 k wq).mono ?_
            rintro x w8 ⟨rfl, hb8⟩
            clear c0 c1 y0 y1 fy0 fy1 s0 s1
            have hB8 := bcat2 hBq hb8
            have hR8 := blk_below BG.res hB8
            obtain ⟨y0, y1, fy0, fy1⟩ := hR8.two
            obtain ⟨hR6, hB6⟩ := put2 hR8 (bcat BG.bel hB8 BG.bel.size) (by omega) 3 k
            go_wp2
            generalize (w8.setCell ⟨w.heap.size + 1, 0, none⟩ (.int .i64 3)).setCell ⟨w.heap.size + 1, 1, none⟩ (.int .i64 k) = W at hR6 hB6 ⊢
            obtain ⟨z0, z1, _, _⟩ := hR6.two
            exact bodyPost_ret (v := .agg #[.int .i64 3, .int .i64 k]) (by simp [results, Tryd.results52, go_sem, z0, z1]) rfl ⟨by first | (rw [HLF.out]; done) | (rw [HLF.out]; simp), hB6⟩
          · by_cases hc0 : c < 0
            · exfalso; omega
            · have hc0i : ¬ c < 0 := hc0
              go_wp2_with fail
              go_quiet (fail)
              have hBq := bdrewN hB nq
              generalize wr.drewN nq = wq at hBq ⊢
              clear c0 c1 y0 y1 fy0 fy1 s0 s1
              obtain ⟨c0, c1, _, _⟩ := (blk_below BG.box hBq).two
              obtain ⟨_, y0, y1, fy0, fy1, s0, s1⟩ := Two.mk' (blk_below BG.res hBq)
              go_wp2_with fail
              refine (f_any 3 k wq).mono ?_
              rintro x w8 ⟨rfl, hb8⟩
              clear c0 c1 y0 y1 fy0 fy1 s0 s1
              have hB8 := bcat2 hBq hb8
              have hR8 := blk_below BG.res hB8
              obtain ⟨y0, y1, fy0, fy1⟩ := hR8.two
              obtain ⟨hR6, hB6⟩ := put2 hR8 (bcat BG.bel hB8 BG.bel.size) (by omega) 3 k
              go_wp2
              generalize (w8.setCell ⟨w.heap.size + 1, 0, none⟩ (.int .i64 3)).setCell ⟨w.heap.size + 1, 1, none⟩ (.int .i64 k) = W at hR6 hB6 ⊢
              obtain ⟨z0, z1, _, _⟩ := hR6.two
              exact bodyPost_ret (v := .agg #[.int .i64 3, .int .i64 k]) (by simp [results, Tryd.results52, go_sem, z0, z1]) rfl ⟨by first | (rw [HLF.out]; done) | (rw [HLF.out]; simp), hB6⟩
        · have hc0 : ¬ c < 0 := fun h => hrb (.inl h)
          have hcn : ¬ (n : Int) ≤ c := fun h => hrb (.inr h)
          have HRB := hide (show rbad n ls k = false by unfold rbad; rw [hc]; simp; omega)
          clear hrb
          have HC := hide hc
          clear hc
          go_wp2_with fail
          go_quiet (fail)
          have hBq := bdrewN hB nq
          generalize wr.drewN nq = wq at hBq ⊢
          clear c0 c1 y0 y1 fy0 fy1 s0 s1
          obtain ⟨c0, c1, _, _⟩ := (blk_below BG.box hBq).two
          obtain ⟨_, y0, y1, fy0, fy1, s0, s1⟩ := Two.mk' (blk_below BG.res hBq)
          have hBwq := bcat BG.bel hBq BG.bel.size
          clear hck
          rcases Nat.eq_zero_or_pos k with rfl | hkp
          · have HFB := hide (show fbad ls 0 = false by simp [fbad])
            have h00 : ¬ ((0 : Int) < ((0 : Nat) : Int)) := by simp
            go_wp2_with fail
            go_quiet (fail)
            have hBq := bdrewN hBq nq
            generalize wq.drewN nq = wz at hBq ⊢
            clear c0 c1 y0 y1 fy0 fy1 s0 s1
            go_wp2
            go_roundw
            case rel => exact ⟨1, by omega, by go_num, fun t ht => by
              have : t = 0 := by omega
              subst this; rw [HRB.out, HFB.out]; rfl, hBq⟩
            case measure => simp [intOf]; omega
          · obtain ⟨m, rfl⟩ : ∃ m, k = m + 1 := ⟨k - 1, by omega⟩
            have hrq := HR.out.below hBwq hp
            have hck := hrq.cell (m + 1) hlt
            have hcm := hrq.cell m (by omega)
            rw [HC.out] at hck
            obtain ⟨d, hd⟩ : ∃ d, ls[m]?.getD 0 = d := ⟨_, rfl⟩
            rw [hd] at hcm
            have hfb : fbad ls (m + 1) = decide (c ≤ d) := by
              unfold fbad
              rw [Nat.add_sub_cancel, HC.out, hd]
              simp
            have hmi2 : (m : Int) < (ls.length : Int) := by omega
            have hmp : (0 : Int) < (m : Int) + 1 := by omega
            have hmw : IntKind.i64.wrap ((m : Int) + 1 - 1) = (m : Int) := by rw [IntKind.wrap_i64]; omega
            clear hrq hd
            by_cases hcd : c ≤ d
            · have HLF := hide (lfault_f hle hlt HNO.out HRB.out (by rw [hfb]; simp [hcd]))
              clear hfb
              go_wp2_with fail
              go_quiet (fail)
              have hBq := bdrewN hBq nq
              generalize wq.drewN nq = wz at hBq ⊢
              clear c0 c1 y0 y1 fy0 fy1 s0 s1
              clear hck hcm
              obtain ⟨c0, c1, _, _⟩ := (blk_below BG.box hBq).two
              obtain ⟨_, y0, y1, fy0, fy1, s0, s1⟩ := Two.mk' (blk_below BG.res hBq)
              go_wp2_with fail
              refine (f_any 5 ((m : Int) + 1) wz).mono ?_
              rintro x w8 ⟨rfl, hb8⟩
              clear c0 c1 y0 y1 fy0 fy1 s0 s1
              have hB8 := bcat2 hBq hb8
              have hR8 := blk_below BG.res hB8
              obtain ⟨y0, y1, fy0, fy1⟩ := hR8.two
              obtain ⟨hR6, hB6⟩ := put2 hR8 (bcat BG.bel hB8 BG.bel.size) (by omega) 5 ((m : Int) + 1)
              go_wp2
              generalize (w8.setCell ⟨w.heap.size + 1, 0, none⟩ (.int .i64 5)).setCell ⟨w.heap.size + 1, 1, none⟩ (.int .i64 ((m : Int) + 1)) = W at hR6 hB6 ⊢
              obtain ⟨z0, z1, _, _⟩ := hR6.two
              exact bodyPost_ret (v := .agg #[.int .i64 5, .int .i64 ((m : Int) + 1)]) (by simp [results, Tryd.results52, go_sem, z0, z1]) rfl ⟨by first | (rw [HLF.out]; done) | (rw [HLF.out]; simp), hB6⟩
            · have HFB := hide (show fbad ls (m + 1) = false by rw [hfb]; simp; omega)
              clear hfb
              go_wp2_with fail
              go_quiet (fail)
              have hBq := bdrewN hBq nq
              generalize wq.drewN nq = wz at hBq ⊢
              clear c0 c1 y0 y1 fy0 fy1 s0 s1
              clear hck hcm
              go_wp2
              go_roundw
              case rel => exact ⟨m + 1 + 1, by omega, by go_num, fun t ht => by
                by_cases e : t = m + 1
                · rw [e, HRB.out, HFB.out]; rfl
                · exact HNO.out t (by omega), hBq⟩
              case measure => simp [intOf]; omega
      · have hkk : k = ls.length := by omega
        subst hkk
        have HLF := hide (lfault_ok hle HNO.out)
        go_wp2
        exact bodyPost_ret (v := .agg #[.int .i64 0, .int .i64 0]) (by simp [results, Tryd.results52, go_sem, y0, y1]) rfl ⟨by rw [HLF.out], hBw⟩

set_option maxRecDepth 100000 in
set_option maxHeartbeats 4000000 in
theorem rset_any (N : Int) (v u : Value) (zs ls : List Int) (w : World) (hv : Sl w v zs) (hu : Sl w u ls) :
    Calls Tryd.prog 78 #[.agg #[.int .i64 N, v], u] w fun x w' => x = .returned (.agg #[.int .i64 (sfault N zs ls).1, .int .i64 (sfault N zs ls).2]) ∧ Below w.heap.size w w' := by
  obtain ⟨w0, BG⟩ := Beg.new w N v
  obtain ⟨c0, c1, _, _⟩ := BG.box.two
  have HGF := hide (groupFault_any N v zs w0 (hv.below BG.bel))
  by_cases hc : (gfault N zs).1 = 0
  · obtain ⟨n, e, rfl, hg, hg0⟩ := gfault_grp hc
    rw [sfault_l hg]
    rw [hg0] at HGF
    have HLF := hide (fun W (h : Sl W u ls) => rlist_any n v u ls W hg.tab.le h)
    obtain ⟨c, i, hci⟩ : ∃ c i, lfault n ls = (c, i) := ⟨_, _, rfl⟩
    rw [hci] at HLF ⊢
    simp only at HLF HGF ⊢
    clear hci
    rw [BG.eq] at c0 c1
    go_enter Tryd.func78, Tryd.ntmps78
    go_wp2_with fail
    rw [← BG.eq]
    clear c0 c1
    refine HGF.out.mono ?_
    rintro x w1 ⟨rfl, hb1⟩
    have hb2 := bcat2 hb1 (balloc w1 (.cells #[.int .i64 0, .int .i64 0] 28))
    have hF2 := blk0 (w := w1) (T := 28) (.int .i64 0) (.int .i64 0)
    have hX2 := blk_below BG.box hb2
    obtain ⟨c0, c1, _, _⟩ := hX2.two
    obtain ⟨t0, t1, _, _⟩ := hF2.two
    have hBw := bcat BG.bel hb2 BG.bel.size
    have hs1 : w.heap.size + 1 < w1.heap.size := (blk_below BG.res hb1).lt
    have HS1 := hide hs1
    clear hs1
    go_wp2_with fail
    generalize w1.alloc (.cells #[.int .i64 0, .int .i64 0] 28) = w2 at *
    clear c0 c1 t0 t1
    refine (HLF.out w2 (hu.below hBw)).mono ?_
    rintro x w3 ⟨rfl, hb3⟩
    have hF3 := blk_below hF2 hb3
    have hB3 := bcat hBw hb3 hBw.size
    obtain ⟨t0, t1, tf0, tf1⟩ := hF3.two
    have hR3 := blk_below BG.res (bcat2 hb2 hb3)
    obtain ⟨hF4, hB4⟩ := put2 hF3 hB3 (by have := HS1.out; omega) c i
    have hR4 := (hR3.other (p := ⟨w1.heap.size, 0, none⟩) (by have := HS1.out; simp; omega) (.int .i64 c)).other (p := ⟨w1.heap.size, 1, none⟩) (by have := HS1.out; simp; omega) (.int .i64 i)
    obtain ⟨f0, f1, _, _⟩ := hF4.two
    obtain ⟨y0, y1, fy0, fy1⟩ := hR4.two
    go_wp2_with fail
    generalize (w3.setCell ⟨w1.heap.size, 0, none⟩ (.int .i64 c)).setCell ⟨w1.heap.size, 1, none⟩ (.int .i64 i) = w4 at *
    obtain ⟨hR6, hB6⟩ := put2 hR4 hB4 (by omega) c i
    go_wp2
    generalize (w4.setCell ⟨w.heap.size + 1, 0, none⟩ (.int .i64 c)).setCell ⟨w.heap.size + 1, 1, none⟩ (.int .i64 i) = W at hR6 hB6 ⊢
    obtain ⟨z0, z1, _, _⟩ := hR6.two
    exact bodyPost_ret (v := .agg #[.int .i64 c, .int .i64 i]) (by simp [results, Tryd.results78, go_sem, z0, z1]) rfl ⟨rfl, hB6⟩
  · rw [sfault_g hc]
    obtain ⟨c, i, hci⟩ : ∃ c i, gfault N zs = (c, i) := ⟨_, _, rfl⟩
    rw [hci] at HGF hc ⊢
    simp only at HGF hc ⊢
    clear hci
    rw [BG.eq] at c0 c1
    go_enter Tryd.func78, Tryd.ntmps78
    go_wp2_with fail
    rw [← BG.eq]
    clear c0 c1
    refine HGF.out.mono ?_
    rintro x w1 ⟨rfl, hb1⟩
    have hb2 := bcat2 hb1 (balloc w1 (.cells #[.int .i64 c, .int .i64 i] 28))
    have hF2 := blk0 (w := w1) (T := 28) (.int .i64 c) (.int .i64 i)
    obtain ⟨t0, t1, _, _⟩ := hF2.two
    have hBw := bcat BG.bel hb2 BG.bel.size
    have hR2 := blk_below BG.res hb2
    obtain ⟨y0, y1, fy0, fy1⟩ := hR2.two
    obtain ⟨hR6, hB6⟩ := put2 hR2 hBw (by omega) c i
    go_wp2
    generalize ((w1.alloc (.cells #[.int .i64 c, .int .i64 i] 28)).setCell ⟨w.heap.size + 1, 0, none⟩ (.int .i64 c)).setCell ⟨w.heap.size + 1, 1, none⟩ (.int .i64 i) = W at hR6 hB6 ⊢
    obtain ⟨z0, z1, _, _⟩ := hR6.two
    exact bodyPost_ret (v := .agg #[.int .i64 c, .int .i64 i]) (by simp [results, Tryd.results78, go_sem, z0, z1]) rfl ⟨rfl, hB6⟩
end Go.Proofs.YtodabkjadejekaaDoor
