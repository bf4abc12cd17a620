/- Package sub and coset again: sets that came in, Made, Is, Normal, Closure, cosets. Condition: the library's table of places lies as its text lays it. What All answers, as laws read it; Normal at a list of a set. Condition: the library's table of places lies as its text lays it. Sylow's theorems about what All answers: each thing whose order is a power of p is in one of them, all have as many things, and how many things have such an order is a multiple of that. No condition. What the law SylowAll asks of mathematics: of what All answers. No condition. The law SylowAll: its closure; the law at what is wrong. Condition: the library's table of places lies as its text lays it. What the document's Closed answers. What the document's C and Shifted answer. -/
import Derived.Test.YtolbpjjjoafkkaaDoorZ6
import Derived.Test.YtolbpjjjoafkkaaDoorZ4
import Derived.Test.YtolbpjjjoafkkaaDoorZ3
import Derived.BigQuiet
import Derived.Deep.AppendLies
import Derived.Deep.DeepCutAuto
import Derived.Deep.RegionLaw
import Derived.Laws.EntriesVeiled
import Derived.Maps.AppendAt
import Derived.Maps.Ext
import Derived.Maps.OwnOps
import Derived.Maps.OwnSet
namespace Go.Proofs.YtolbpjjjoafkkaaDoor
open Go Go.RowKit Go.Maps

set_option maxRecDepth 100000 in
set_option maxHeartbeats 4000000 in
theorem setOf_any (n : Nat) (v : Value) (ls : List Int) (w : World) (hn : n ≤ 60) (hv : Sl w v ls) :
    Calls Tryd.prog 99 #[.int .i64 n, v] w fun x w' => x = .returned (.tuple #[.int .u64 (okN (lfault n ls).1 (bs (pset ls) n)), .agg #[.int .i64 (lfault n ls).1, .int .i64 (lfault n ls).2]]) ∧ Below w.heap.size w w' := by
  have hB0 : Below w.heap.size w (w.alloc (.cells #[.int .i64 0, .int .i64 0] 27)) := balloc w _
  have hR0 := Two.new w
  have hv0 := hv.below hB0
  obtain ⟨a, cap, pb, po, rfl, hrw0, hpw0, hq3, hq4⟩ := id hv
  have HRW := hide hrw0
  have HPB := hide hpw0
  have hr := hrw0.below hB0 hpw0
  have hp := Nat.lt_of_lt_of_le hpw0 hB0.size
  clear hrw0 hpw0
  obtain ⟨_, y0, y1, fy0, fy1, s0, s1⟩ := id hR0
  by_cases hmany : n < ls.length
  · have hR6 : Blk ((w.alloc (.cells #[.int .i64 0, .int .i64 0] 27)).setCell ⟨w.heap.size, 0, none⟩ (.int .i64 2)) w.heap.size 27 [.int .i64 2, .int .i64 0] := hR0.blk.set 0 _
    have hB6 : Below w.heap.size w ((w.alloc (.cells #[.int .i64 0, .int .i64 0] 27)).setCell ⟨w.heap.size, 0, none⟩ (.int .i64 2)) := hB0.setCell (p := ⟨w.heap.size, 0, none⟩) (by simp) _
    rw [lfault_many hmany]
    have hmi : (n : Int) < (ls.length : Int) := by omega
    go_enter Tryd.func99, Tryd.ntmps99
    go_wp2
    have hR7 := blk0 (w := w) (T := 27) (.int .i64 2) (.int .i64 0)
    obtain ⟨z0, z1, _, _⟩ := hR7.two
    exact bodyPost_ret (v := .tuple #[.int .u64 0, .agg #[.int .i64 2, .int .i64 0]]) (by simp [results, Tryd.results99, go_sem, z0, z1]) rfl ⟨rfl, balloc w _⟩
  · have hle : ls.length ≤ n := by omega
    have hmi : ¬ (n : Int) < (ls.length : Int) := by omega
    have HV := hide hv
    clear y0 y1 fy0 fy1 s0 s1 hv0 hv
    go_enter Tryd.func99, Tryd.ntmps99
    go_wp2
    go_loopw [15] (fun i wr => ∃ k : Nat, k ≤ ls.length ∧ i = .int .i64 k ∧ (∀ t, t < k → (rbad n ls t || fbad ls t) = false) ∧ Two wr w.heap.size ∧ Below w.heap.size w wr) (fun i _ => ls.length - (intOf i).toNat)
    case atStart => exact ⟨0, Nat.zero_le _, rfl, fun t ht => by omega, hR0, hB0⟩
    case round =>
      obtain ⟨k, hk, rfl, hno, hR, hB⟩ := hrel
      have HNO := hide hno
      clear hno
      obtain ⟨_, y0, y1, fy0, fy1, s0, s1⟩ := id hR
      have hrw : Reads wr a pb po ls := by
        exact HRW.out.below hB HPB.out
      by_cases hlt : k < ls.length
      · have hck := hrw.cell k hlt
        obtain rfl := hrw.at_ (by omega)
        obtain ⟨c, hc⟩ : ∃ c, ls[k]?.getD 0 = c := ⟨_, rfl⟩
        rw [hc] at hck
        have hki : (k : Int) < (ls.length : Int) := by omega
        by_cases hc0 : c < 0
        · have HLF := hide (lfault_r hle hlt HNO.out (by unfold rbad; rw [hc]; simp [hc0]))
          clear hc hrw hr
          obtain ⟨hR9, hB9⟩ := put2 hR.blk hB (Nat.le_refl _) 3 k
          go_wp2
          generalize (wr.setCell ⟨w.heap.size, 0, none⟩ (.int .i64 3)).setCell ⟨w.heap.size, 1, none⟩ (.int .i64 k) = W at hR9 hB9 ⊢
          obtain ⟨z0, z1, _, _⟩ := hR9.two
          exact bodyPost_ret (v := .tuple #[.int .u64 0, .agg #[.int .i64 3, .int .i64 k]]) (by simp [results, Tryd.results99, go_sem, z0, z1]) rfl ⟨by rw [HLF.out]; rfl, hB9⟩
        · by_cases hcn : (n : Int) ≤ c
          · have HLF := hide (lfault_r hle hlt HNO.out (by unfold rbad; rw [hc]; simp [hcn]))
            clear hc hrw hr
            obtain ⟨hR9, hB9⟩ := put2 hR.blk hB (Nat.le_refl _) 3 k
            go_wp2
            generalize (wr.setCell ⟨w.heap.size, 0, none⟩ (.int .i64 3)).setCell ⟨w.heap.size, 1, none⟩ (.int .i64 k) = W at hR9 hB9 ⊢
            obtain ⟨z0, z1, _, _⟩ := hR9.two
            exact bodyPost_ret (v := .tuple #[.int .u64 0, .agg #[.int .i64 3, .int .i64 k]]) (by simp [results, Tryd.results99, go_sem, z0, z1]) rfl ⟨by rw [HLF.out]; rfl, hB9⟩
          · have HRB := hide (show rbad n ls k = false by unfold rbad; rw [hc]; simp; omega)
            have hcn' : c < (n : Int) := by omega
            rcases Nat.eq_zero_or_pos k with rfl | hkp
            · have HFB := hide (show fbad ls 0 = false by simp [fbad])
              rw [Nat.add_zero] at hck
              clear hc hrw hr
              go_wp2
              go_roundw
              case rel => exact ⟨1, by omega, by go_num, fun t ht => by
                have : t = 0 := by omega
                subst this; rw [HRB.out, HFB.out]; rfl, hR, hB⟩
              case measure => simp [intOf]; omega
            · obtain ⟨m, rfl⟩ : ∃ m, k = m + 1 := ⟨k - 1, by omega⟩
              have hcm := hrw.cell m (by omega)
              obtain ⟨d, hd⟩ : ∃ d, ls[m]?.getD 0 = d := ⟨_, rfl⟩
              rw [hd] at hcm
              have hfb : fbad ls (m + 1) = decide (c ≤ d) := by
                unfold fbad
                rw [Nat.add_sub_cancel, hc, hd]
                simp
              have hmi2 : (m : Int) < (ls.length : Int) := by omega
              by_cases hcd : c ≤ d
              · have HLF := hide (lfault_f hle hlt HNO.out HRB.out (by rw [hfb]; simp [hcd]))
                clear hc hd hfb hrw hr
                obtain ⟨hR9, hB9⟩ := put2 hR.blk hB (Nat.le_refl _) 5 ((m : Int) + 1)
                go_wp2
                generalize (wr.setCell ⟨w.heap.size, 0, none⟩ (.int .i64 5)).setCell ⟨w.heap.size, 1, none⟩ (.int .i64 ((m : Int) + 1)) = W at hR9 hB9 ⊢
                obtain ⟨z0, z1, _, _⟩ := hR9.two
                exact bodyPost_ret (v := .tuple #[.int .u64 0, .agg #[.int .i64 5, .int .i64 ((m : Int) + 1)]]) (by simp [results, Tryd.results99, go_sem, z0, z1]) rfl ⟨by rw [HLF.out]; simp [okN], hB9⟩
              · have HFB := hide (show fbad ls (m + 1) = false by rw [hfb]; simp; omega)
                clear hc hd hfb hrw hr
                go_wp2
                go_roundw
                case rel => exact ⟨m + 1 + 1, by omega, by go_num, fun t ht => by
                  by_cases e : t = m + 1
                  · rw [e, HRB.out, HFB.out]; rfl
                  · exact HNO.out t (by omega), hR, hB⟩
                case measure => simp [intOf]; omega
      · have hkk : k = ls.length := by omega
        subst hkk
        have hlf := lfault_ok hle HNO.out
        have hlz : (lfault n ls).1 = 0 := by rw [hlf]
        have hset := set_lst hlz
        have hmem : ∀ x, x ∈ lst n (pset ls) → x < n := fun x hx => (mem_lst.1 hx).1
        have hll : (lst n (pset ls)).length ≤ 60 := Nat.le_trans (lst_len _ _) hn
        have hso := HV.out.below hB
        rw [hset] at hso
        have hof := of_ok n _ (lst n (pset ls)) wr hn hll (by rw [← hset] at hso ⊢; exact hso) hmem
        have hbs : bs (fun a => decide (a ∈ lst n (pset ls))) n = bs (pset ls) n := bs_ext fun a ha => by
          rw [Bool.eq_iff_iff, decide_eq_true_eq, mem_lst]; simp [ha]
        rw [hbs] at hof
        have HOF := hide hof
        have HLF := hide hlf
        clear hof hlf hlz hset hso hbs hmem hrw hr
        go_wp2_with fail
        refine HOF.out.mono ?_
        rintro e1 w1 ⟨rfl, rfl⟩
        go_wp2
        exact bodyPost_ret (v := .tuple #[.int .u64 (bs (pset ls) n), .agg #[.int .i64 0, .int .i64 0]]) (by simp [results, Tryd.results99, go_sem, y0, y1]) rfl ⟨by rw [HLF.out]; rfl, hB⟩
set_option maxRecDepth 100000 in
set_option maxHeartbeats 4000000 in
theorem oset_badg (N : Int) (v u : Value) (zs : List Int) (w : World) (hv : Sl w v zs) (hc : (gfault N zs).1 ≠ 0) :
    Calls Tryd.prog 70 #[.agg #[.int .i64 N, v], u] w fun x w' => x = .returned (.tuple #[.agg #[.int .i64 0, .slice none 0 0, .int .i64 0, .slice none 0 0], .int .u64 0, .agg #[.int .i64 (gfault N zs).1, .int .i64 (gfault N zs).2]]) ∧ Below w.heap.size w w' := by
  obtain ⟨w0, BG⟩ := Beg4.new w N v
  have hv0 := hv.below BG.bel
  obtain ⟨c0, c1, _, _⟩ := BG.box.two
  have hck := opened_bad N v zs w0 hv0 hc
  obtain ⟨c, i, hci⟩ : ∃ c i, gfault N zs = (c, i) := ⟨_, _, rfl⟩
  rw [hci] at hck hc ⊢
  simp only at hc hck
  have HCK := hide hck
  clear hck hci
  have hcb : (c != 0) = true := by simpa using hc
  rw [BG.eq] at c0 c1
  go_enter Tryd.func70, Tryd.ntmps70
  go_wp2_with fail
  rw [← BG.eq]
  refine HCK.out.mono ?_
  rintro x w1 ⟨rfl, hb1⟩
  clear c0 c1
  obtain ⟨w2, hw2⟩ : ∃ w2, w2 = (w1.alloc (.cells #[.int .i64 0, .slice none 0 0, .int .i64 0, .slice none 0 0] 64)).alloc (.cells #[.int .i64 c, .int .i64 i] 27) := ⟨_, rfl⟩
  have hB1 : Below w0.heap.size w0 w2 := by rw [hw2]; exact bcat2 hb1 ((balloc w1 _).alloc (by simp) _)
  have hF1 : Blk w2 (w1.heap.size + 1) 27 [.int .i64 c, .int .i64 i] := by
    rw [hw2]
    have := blk0 (w := w1.alloc (.cells #[.int .i64 0, .slice none 0 0, .int .i64 0, .slice none 0 0] 64)) (T := 27) (.int .i64 c) (.int .i64 i)
    rwa [World.size_alloc] at this
  obtain ⟨hG1, g0, g1, g2, g3, gf0, gf1, gf2, gf3, gs0, gs1, gs2, gs3⟩ := Four.mk' (blk_below BG.grp hB1)
  have hR1 := blk_below BG.res hB1
  have hBw := bcat BG.bel hB1 BG.bel.size
  obtain ⟨y0, y1, fy0, fy1⟩ := hR1.two
  obtain ⟨t0, t1, _, _⟩ := hF1.two
  rw [hw2] at t0 t1
  go_wp2_with fail
  rw [← hw2]
  rw [← hw2] at t0 t1
  clear hw2
  go_region
  all_goals (
    go_wp2
    obtain ⟨hR6, hB6⟩ := put2 hR1 hBw (by omega) c i
    have hB7 := bdrew hB6
    have hR7 : Blk ((w2.setCell ⟨w.heap.size + 1 + 1, 0, none⟩ (.int .i64 c)).setCell ⟨w.heap.size + 1 + 1, 1, none⟩ (.int .i64 i)).drew (w.heap.size + 1 + 1) 27 [.int .i64 c, .int .i64 i] := hR6
    have hG7 : Blk ((w2.setCell ⟨w.heap.size + 1 + 1, 0, none⟩ (.int .i64 c)).setCell ⟨w.heap.size + 1 + 1, 1, none⟩ (.int .i64 i)).drew (w.heap.size + 1) 64 [.int .i64 0, .slice none 0 0, .int .i64 0, .slice none 0 0] :=
      (hG1.other (p := ⟨w.heap.size + 1 + 1, 0, none⟩) (by simp) (.int .i64 c)).other (p := ⟨w.heap.size + 1 + 1, 1, none⟩) (by simp) (.int .i64 i)
    generalize ((w2.setCell ⟨w.heap.size + 1 + 1, 0, none⟩ (.int .i64 c)).setCell ⟨w.heap.size + 1 + 1, 1, none⟩ (.int .i64 i)).drew = W at hR7 hB7 hG7 ⊢
    obtain ⟨z0, z1, _, _⟩ := hR7.two
    obtain ⟨_, q0, q1, q2, q3, _⟩ := Four.mk' hG7
    exact bodyPost_ret (v := .tuple #[.agg #[.int .i64 0, .slice none 0 0, .int .i64 0, .slice none 0 0], .int .u64 0, .agg #[.int .i64 c, .int .i64 i]]) (by simp [results, Tryd.results70, go_sem, z0, z1, q0, q1, q2, q3]) rfl ⟨rfl, hB7⟩)
set_option maxRecDepth 100000 in
set_option maxHeartbeats 4000000 in
theorem oset_badl (n e : Nat) (v u : Value) (zs ls : List Int) (w : World) (hv : Sl w v zs) (hg : IsGrp n zs e) (hu : Sl w u ls) (hc : (lfault n ls).1 ≠ 0) :
    Calls Tryd.prog 70 #[.agg #[.int .i64 n, v], u] w fun x w' => x = .returned (.tuple #[.agg #[.int .i64 0, .slice none 0 0, .int .i64 0, .slice none 0 0], .int .u64 0, .agg #[.int .i64 (lfault n ls).1, .int .i64 (lfault n ls).2]]) ∧ Below w.heap.size w w' := by
  obtain ⟨va, vl, vc, rfl⟩ := hv.isSlice
  obtain ⟨w0, BG⟩ := Beg4.new w n (.slice va vl vc)
  have hv0 := hv.below BG.bel
  have hu0 := hu.below BG.bel
  obtain ⟨c0, c1, _, _⟩ := BG.box.two
  have HCK := hide (opened_good n e (.slice va vl vc) zs w0 hv0 hg)
  have HSO := hide (fun W (h : Sl W u ls) => setOf_any n u ls W hg.tab.le h)
  obtain ⟨c, i, hci⟩ : ∃ c i, lfault n ls = (c, i) := ⟨_, _, rfl⟩
  rw [hci] at HSO hc ⊢
  simp only at hc HSO
  rw [show okN c (bs (pset ls) n) = 0 from if_neg hc] at HSO
  clear hci
  have hcb : (c != 0) = true := by simpa using hc
  rw [BG.eq] at c0 c1
  go_enter Tryd.func70, Tryd.ntmps70
  go_wp2_with fail
  rw [← BG.eq]
  refine HCK.out.mono ?_
  rintro x w1 ⟨iv9, rfl, hGA, hb1⟩
  obtain ⟨ia, il, ic, rfl⟩ := hGA.sl.isSlice
  clear c0 c1 HCK
  obtain ⟨w2, hw2⟩ : ∃ w2, w2 = (w1.alloc (.cells #[.int .i64 n, (.slice va vl vc), .int .i64 e, (.slice ia il ic)] 64)).alloc (.cells #[.int .i64 0, .int .i64 0] 27) := ⟨_, rfl⟩
  have hB1 : Below w0.heap.size w0 w2 := by rw [hw2]; exact bcat2 hb1 ((balloc w1 _).alloc (by simp) _)
  have hF1 : Blk w2 (w1.heap.size + 1) 27 [.int .i64 0, .int .i64 0] := by
    rw [hw2]
    have := blk0 (w := w1.alloc (.cells #[.int .i64 n, (.slice va vl vc), .int .i64 e, (.slice ia il ic)] 64)) (T := 27) (.int .i64 0) (.int .i64 0)
    rwa [World.size_alloc] at this
  obtain ⟨t0, t1, _, _⟩ := hF1.two
  obtain ⟨k0, k1, _, _⟩ := (blk_below BG.box hB1).two
  rw [hw2] at t0 t1 k0 k1
  have hz9 : w.heap.size + 3 ≤ w1.heap.size := by rw [← BG.size]; exact hb1.size
  go_wp2_with fail
  rw [← hw2]
  clear t0 t1 k0 k1 hw2
  refine (HSO.out w2 (hu0.below hB1)).mono ?_
  rintro x w3 ⟨rfl, hb3⟩
  have hF3 := blk_below hF1 hb3
  have hB3 := bcat2 hB1 hb3
  obtain ⟨f0, f1, ff0, ff1⟩ := hF3.two
  have hBw3 := bcat BG.bel hB3 BG.bel.size
  have hG3 := blk_below BG.grp hB3
  have hR3 := blk_below BG.res hB3
  obtain ⟨hF4, hB4⟩ := put2 hF3 hBw3 (by omega) c i
  have hG4 := (hG3.other (p := ⟨w1.heap.size + 1, 0, none⟩) (by simp; omega) (.int .i64 c)).other (p := ⟨w1.heap.size + 1, 1, none⟩) (by simp; omega) (.int .i64 i)
  have hR4 := (hR3.other (p := ⟨w1.heap.size + 1, 0, none⟩) (by simp; omega) (.int .i64 c)).other (p := ⟨w1.heap.size + 1, 1, none⟩) (by simp; omega) (.int .i64 i)
  go_wp2_with fail
  generalize (w3.setCell ⟨w1.heap.size + 1, 0, none⟩ (.int .i64 c)).setCell ⟨w1.heap.size + 1, 1, none⟩ (.int .i64 i) = w4 at hF4 hB4 hG4 hR4 ⊢
  obtain ⟨hG1, g0, g1, g2, g3, gf0, gf1, gf2, gf3, gs0, gs1, gs2, gs3⟩ := Four.mk' hG4
  obtain ⟨y0, y1, fy0, fy1⟩ := hR4.two
  obtain ⟨t0, t1, _, _⟩ := hF4.two
  go_wp2_with fail
  go_region
  all_goals (
    go_wp2
    obtain ⟨hR6, hB6⟩ := put2 hR4 hB4 (by omega) c i
    have hB7 := bdrew hB6
    have hR7 : Blk ((w4.setCell ⟨w.heap.size + 1 + 1, 0, none⟩ (.int .i64 c)).setCell ⟨w.heap.size + 1 + 1, 1, none⟩ (.int .i64 i)).drew (w.heap.size + 1 + 1) 27 [.int .i64 c, .int .i64 i] := hR6
    have hG7 : Blk ((w4.setCell ⟨w.heap.size + 1 + 1, 0, none⟩ (.int .i64 c)).setCell ⟨w.heap.size + 1 + 1, 1, none⟩ (.int .i64 i)).drew (w.heap.size + 1) 64 [.int .i64 0, .slice none 0 0, .int .i64 0, .slice none 0 0] :=
      (hG1.other (p := ⟨w.heap.size + 1 + 1, 0, none⟩) (by simp) (.int .i64 c)).other (p := ⟨w.heap.size + 1 + 1, 1, none⟩) (by simp) (.int .i64 i)
    generalize ((w4.setCell ⟨w.heap.size + 1 + 1, 0, none⟩ (.int .i64 c)).setCell ⟨w.heap.size + 1 + 1, 1, none⟩ (.int .i64 i)).drew = W at hR7 hB7 hG7 ⊢
    obtain ⟨z0, z1, _, _⟩ := hR7.two
    obtain ⟨_, q0, q1, q2, q3, _⟩ := Four.mk' hG7
    exact bodyPost_ret (v := .tuple #[.agg #[.int .i64 0, .slice none 0 0, .int .i64 0, .slice none 0 0], .int .u64 0, .agg #[.int .i64 c, .int .i64 i]]) (by simp [results, Tryd.results70, go_sem, z0, z1, q0, q1, q2, q3]) rfl ⟨rfl, hB7⟩)
theorem oset_bad (N : Int) (v u : Value) (zs ls : List Int) (w : World) (hv : Sl w v zs) (hu : Sl w u ls) (hc : (sfault N zs ls).1 ≠ 0) :
    Calls Tryd.prog 70 #[.agg #[.int .i64 N, v], u] w fun x w' => x = .returned (.tuple #[.agg #[.int .i64 0, .slice none 0 0, .int .i64 0, .slice none 0 0], .int .u64 0, .agg #[.int .i64 (sfault N zs ls).1, .int .i64 (sfault N zs ls).2]]) ∧ Below w.heap.size w w' := by
  rcases sfault_cases N zs ls hc with ⟨h1, h2⟩ | ⟨n, e, rfl, hg, h1, h2⟩
  · rw [h2]; exact oset_badg N v u zs w hv h1
  · rw [h2]; exact oset_badl n e v u zs ls w hv hg hu h1
set_option maxRecDepth 100000 in
set_option maxHeartbeats 4000000 in
theorem oset_good (n e : Nat) (v u : Value) (zs ls : List Int) (w : World) (hv : Sl w v zs) (hg : IsGrp n zs e) (hu : Sl w u ls) (hc : lfault n ls = (0, 0)) :
    Calls Tryd.prog 70 #[.agg #[.int .i64 n, v], u] w fun x w' => ∃ iv9, x = .returned (.tuple #[.agg #[.int .i64 n, v, .int .i64 e, iv9], .int .u64 (bs (pset ls) n), .agg #[.int .i64 0, .int .i64 0]]) ∧ SlF w.heap.size w' iv9 (li ((List.range n).map (iv n zs e))) ∧ Below w.heap.size w w' := by
  obtain ⟨va, vl, vc, rfl⟩ := hv.isSlice
  obtain ⟨w0, BG⟩ := Beg4.new w n (.slice va vl vc)
  have hv0 := hv.below BG.bel
  have hu0 := hu.below BG.bel
  obtain ⟨c0, c1, _, _⟩ := BG.box.two
  have HCK := hide (opened_good n e (.slice va vl vc) zs w0 hv0 hg)
  have HSO := hide (fun W (h : Sl W u ls) => setOf_any n u ls W hg.tab.le h)
  rw [hc] at HSO
  simp only at HSO
  rw [show okN 0 (bs (pset ls) n) = bs (pset ls) n from rfl] at HSO
  clear hc
  rw [BG.eq] at c0 c1
  go_enter Tryd.func70, Tryd.ntmps70
  go_wp2_with fail
  rw [← BG.eq]
  refine HCK.out.mono ?_
  rintro x w1 ⟨iv9, rfl, hGA, hb1⟩
  obtain ⟨ia, il, ic, rfl⟩ := hGA.sl.isSlice
  clear c0 c1 HCK
  obtain ⟨w2, hw2⟩ : ∃ w2, w2 = (w1.alloc (.cells #[.int .i64 n, (.slice va vl vc), .int .i64 e, (.slice ia il ic)] 64)).alloc (.cells #[.int .i64 0, .int .i64 0] 27) := ⟨_, rfl⟩
  have hb2 : Below w1.heap.size w1 w2 := by rw [hw2]; exact (balloc w1 _).alloc (by simp) _
  have hB1 : Below w0.heap.size w0 w2 := bcat2 hb1 hb2
  have hF1 : Blk w2 (w1.heap.size + 1) 27 [.int .i64 0, .int .i64 0] := by
    rw [hw2]
    have := blk0 (w := w1.alloc (.cells #[.int .i64 n, (.slice va vl vc), .int .i64 e, (.slice ia il ic)] 64)) (T := 27) (.int .i64 0) (.int .i64 0)
    rwa [World.size_alloc] at this
  have hH1 : Blk w2 w1.heap.size 64 [.int .i64 n, (.slice va vl vc), .int .i64 e, (.slice ia il ic)] := by
    rw [hw2]; exact (blk4 _ _ _ _).alloc _
  obtain ⟨t0, t1, _, _⟩ := hF1.two
  obtain ⟨k0, k1, _, _⟩ := (blk_below BG.box hB1).two
  rw [hw2] at t0 t1 k0 k1
  have hz9 : w.heap.size + 3 ≤ w1.heap.size := by rw [← BG.size]; exact hb1.size
  go_wp2_with fail
  rw [← hw2]
  clear t0 t1 k0 k1 hw2
  refine (HSO.out w2 (hu0.below hB1)).mono ?_
  rintro x w3 ⟨rfl, hb3⟩
  have hB3 := bcat2 hB1 hb3
  obtain ⟨_, f0, f1, ff0, ff1, fs0, fs1⟩ := Two.mk' (blk_below hF1 hb3)
  have hBw3 := bcat BG.bel hB3 BG.bel.size
  have hG3 := blk_below BG.grp hB3
  obtain ⟨_, h0, h1, h2, h3, _⟩ := Four.mk' (blk_below hH1 hb3)
  obtain ⟨_, g0, g1, g2, g3, gf0, gf1, gf2, gf3, _⟩ := Four.mk' hG3
  obtain ⟨hR3, y0, y1, fy0, fy1, s0, s1⟩ := Two.mk' (blk_below BG.res hB3)
  have hGA3 := (hGA.below (bcat2 hb2 hb3)).mono (show w.heap.size + 3 ≤ w0.heap.size by rw [BG.size]; exact Nat.le_refl _)
  go_wp2
  obtain ⟨W, hW, hG8, hR8, hB8, hS8, hK8⟩ := put6 hG3 hR3 hBw3 (.int .i64 n) (.slice va vl vc) (.int .i64 e) (.slice ia il ic) (.int .i64 0) (.int .i64 0)
  rw [← hW]
  clear hW
  obtain ⟨z0, z1, _, _⟩ := hR8.two
  obtain ⟨_, q0, q1, q2, q3, _⟩ := Four.mk' hG8
  have hGA9 := (hGA3.keep (fun b h1 _ => hK8 b h1) (by omega)).mono (show w.heap.size ≤ w.heap.size + 3 by omega)
  exact bodyPost_ret (v := .tuple #[.agg #[.int .i64 n, .slice va vl vc, .int .i64 e, .slice ia il ic], .int .u64 (bs (pset ls) n), .agg #[.int .i64 0, .int .i64 0]]) (by simp [results, Tryd.results70, go_sem, z0, z1, q0, q1, q2, q3]) rfl ⟨_, rfl, hGA9, hB8⟩
set_option maxRecDepth 100000 in
set_option maxHeartbeats 4000000 in
theorem mde_bad (N : Int) (v u0 : Value) (zs l0 : List Int) (w : World) (hv : Sl w v zs) (hu : Sl w u0 l0) (hc : (sfault N zs l0).1 ≠ 0) :
    Calls Tryd.prog 28 #[.agg #[.int .i64 N, v], u0] w fun x w' => x = .returned (.tuple #[.slice none 0 0, .agg #[.int .i64 (sfault N zs l0).1, .int .i64 (sfault N zs l0).2]]) ∧ Below w.heap.size w w' := by
  obtain ⟨w0, BG⟩ := Beg.new w N v
  have hv0 := hv.below BG.bel
  obtain ⟨c0, c1, _, _⟩ := BG.box.two
  have hck := oset_bad N v u0 zs l0 w0 hv0 (hu.below BG.bel) hc
  obtain ⟨c, i, hci⟩ : ∃ c i, sfault N zs l0 = (c, i) := ⟨_, _, rfl⟩
  rw [hci] at hck hc ⊢
  simp only at hc hck
  have HCK := hide hck
  clear hck hci
  have hcb : (c != 0) = true := by simpa using hc
  rw [BG.eq] at c0 c1
  go_enter Tryd.func28, Tryd.ntmps28
  go_wp2_with fail
  rw [← BG.eq]
  refine HCK.out.mono ?_
  rintro x w1 ⟨rfl, hb1⟩
  clear c0 c1
  obtain ⟨w2, hw2⟩ : ∃ w2, w2 = (w1.alloc (.cells #[.int .i64 0, .slice none 0 0, .int .i64 0, .slice none 0 0] 64)).alloc (.cells #[.int .i64 c, .int .i64 i] 27) := ⟨_, rfl⟩
  have hB1 : Below w0.heap.size w0 w2 := by rw [hw2]; exact bcat2 hb1 ((balloc w1 _).alloc (by simp) _)
  have hF1 : Blk w2 (w1.heap.size + 1) 27 [.int .i64 c, .int .i64 i] := by
    rw [hw2]
    have := blk0 (w := w1.alloc (.cells #[.int .i64 0, .slice none 0 0, .int .i64 0, .slice none 0 0] 64)) (T := 27) (.int .i64 c) (.int .i64 i)
    rwa [World.size_alloc] at this
  have hR1 := blk_below BG.res hB1
  have hBw := bcat BG.bel hB1 BG.bel.size
  obtain ⟨y0, y1, fy0, fy1⟩ := hR1.two
  obtain ⟨t0, t1, _, _⟩ := hF1.two
  rw [hw2] at t0 t1
  go_wp2_with fail
  rw [← hw2]
  rw [← hw2] at t0 t1
  clear hw2
  go_region
  all_goals (
    go_wp2
    obtain ⟨hR6, hB6⟩ := put2 hR1 hBw (by omega) c i
    have hB7 := bdrew hB6
    have hR7 : Blk ((w2.setCell ⟨w.heap.size + 1, 0, none⟩ (.int .i64 c)).setCell ⟨w.heap.size + 1, 1, none⟩ (.int .i64 i)).drew (w.heap.size + 1) 27 [.int .i64 c, .int .i64 i] := hR6
    generalize ((w2.setCell ⟨w.heap.size + 1, 0, none⟩ (.int .i64 c)).setCell ⟨w.heap.size + 1, 1, none⟩ (.int .i64 i)).drew = W at hR7 hB7 ⊢
    obtain ⟨z0, z1, _, _⟩ := hR7.two
    exact bodyPost_ret (v := .tuple #[.slice none 0 0, .agg #[.int .i64 c, .int .i64 i]]) (by simp [results, Tryd.results28, go_sem, z0, z1]) rfl ⟨rfl, hB7⟩)
set_option maxRecDepth 100000 in
set_option maxHeartbeats 4000000 in
theorem mde_good (n e : Nat) (v u0 : Value) (zs l0 : List Int) (p : Nat → Bool) (w : World) (hv : Sl w v zs) (hg : IsGrp n zs e) (hu : Sl w u0 l0) (hT : Tab w) (hc : lfault n l0 = (0, 0)) (hp : ∀ a, a < n → (p a = true ↔ Mkd n zs e (pset l0) a)) :
    Calls Tryd.prog 28 #[.agg #[.int .i64 n, v], u0] w fun x w' => ∃ r, x = .returned (.tuple #[r, .agg #[.int .i64 0, .int .i64 0]]) ∧ SlF w.heap.size w' r (li (lst n p)) ∧ Below w.heap.size w w' := by
  obtain ⟨va, vl, vc, rfl⟩ := hv.isSlice
  obtain ⟨w0, BG⟩ := Beg.new w n (.slice va vl vc)
  have hv0 := hv.below BG.bel
  obtain ⟨c0, c1, _, _⟩ := BG.box.two
  have HCK := hide (oset_good n e (.slice va vl vc) u0 zs l0 w0 hv0 hg (hu.below BG.bel) hc)
  have HZ0 := hide (show w.heap.size + 2 ≤ w0.heap.size by rw [BG.eq]; simp)
  rw [BG.eq] at c0 c1
  go_enter Tryd.func28, Tryd.ntmps28
  go_wp2_with fail
  rw [← BG.eq]
  refine HCK.out.mono ?_
  rintro x w1 ⟨iv9, rfl, hSI, hb1⟩
  obtain ⟨ia, il, ic, rfl⟩ := hSI.sl.isSlice
  clear c0 c1 HCK
  obtain ⟨w2, hw2⟩ : ∃ w2, w2 = (w1.alloc (.cells #[.int .i64 n, (.slice va vl vc), .int .i64 e, (.slice ia il ic)] 64)).alloc (.cells #[.int .i64 0, .int .i64 0] 27) := ⟨_, rfl⟩
  have hb2 : Below w1.heap.size w1 w2 := by rw [hw2]; exact (balloc w1 _).alloc (by simp) _
  have hB1 : Below w0.heap.size w0 w2 := bcat2 hb1 hb2
  have hF1 : Blk w2 (w1.heap.size + 1) 27 [.int .i64 0, .int .i64 0] := by
    rw [hw2]
    have := blk0 (w := w1.alloc (.cells #[.int .i64 n, (.slice va vl vc), .int .i64 e, (.slice ia il ic)] 64)) (T := 27) (.int .i64 0) (.int .i64 0)
    rwa [World.size_alloc] at this
  have hH2 : Blk w2 w1.heap.size 64 [.int .i64 n, (.slice va vl vc), .int .i64 e, (.slice ia il ic)] := by
    rw [hw2]; exact (blk4 _ _ _ _).alloc _
  have hBw2 := bcat BG.bel hB1 BG.bel.size
  have hR2 := blk_below BG.res hB1
  have hT2 := hT.below hBw2
  have hGA2 : GA w2 n (.slice va vl vc) e (.slice ia il ic) zs := ⟨hg, hv.below hBw2, (hSI.below hb2).sl⟩
  obtain ⟨t0, t1, _, _⟩ := hF1.two
  obtain ⟨_, h0, h1, h2, h3, _⟩ := Four.mk' hH2
  have hx2 := blk_below BG.box hB1
  have HZ1 := hide (Nat.le_trans HZ0.out hb1.size)
  have HZ2 := hide hb2.size
  rw [hw2] at t0 t1 h0 h1 h2 h3
  go_wp2_with fail
  rw [← hw2]
  clear hw2 t0 t1 h0 h1 h2 h3
  refine (made_ok n _ _ zs e (pset l0) p w2 hGA2 hT2 hp).mono ?_
  rintro x w3 ⟨rfl, hb3⟩
  go_wp2_with fail
  refine (list_ok n p w3 hg.tab.le (hT2.below hb3)).mono ?_
  rintro x w4 ⟨r, rfl, hr, hb4⟩
  have hb5 := bcat2 hb3 hb4
  have hB5 := bcat hBw2 hb5 hBw2.size
  obtain ⟨_, y0, y1, fy0, fy1, s0, s1⟩ := Two.mk' (blk_below hR2 hb5)
  have hr9 := hr.mono (show w.heap.size ≤ w3.heap.size from Nat.le_trans hBw2.size hb3.size)
  go_wp2
  exact bodyPost_ret (v := .tuple #[r, .agg #[.int .i64 0, .int .i64 0]]) (by simp [results, Tryd.results28, go_sem, y0, y1]) rfl ⟨_, rfl, hr9, hB5⟩
set_option maxRecDepth 100000 in
set_option maxHeartbeats 4000000 in
theorem rlist_any (n : Nat) (v u : Value) (ls : List Int) (w : World) (hn : n ≤ 60) (hu : Sl w u ls) :
    Calls Tryd.prog 19 #[.agg #[.int .i64 n, v], u] w fun x w' => x = .returned (.agg #[.int .i64 (lfault n ls).1, .int .i64 (lfault n ls).2]) ∧ Below w.heap.size w w' := by
  obtain ⟨w0, BG⟩ := Beg.new w n v
  obtain ⟨a, cap, pb, po, rfl, hr, hp, hq3, hq4⟩ := hu
  have HR := hide hr
  obtain ⟨c0, c1, _, _⟩ := BG.box.two
  obtain ⟨_, y0, y1, fy0, fy1, s0, s1⟩ := Two.mk' BG.res
  by_cases hmany : n < ls.length
  · rw [lfault_many hmany]
    have hmi : (n : Int) < (ls.length : Int) := by omega
    have hF := hide (f_any 2 0)
    rw [BG.eq] at c0 c1
    go_enter Tryd.func19, Tryd.ntmps19
    go_wp2_with fail
    rw [← BG.eq]
    clear c0 c1 y0 y1 fy0 fy1 s0 s1
    refine (hF.out w0).mono ?_
    rintro x w1 ⟨rfl, hb1⟩
    have hR1 := blk_below BG.res hb1
    obtain ⟨y0, y1, fy0, fy1⟩ := hR1.two
    obtain ⟨hR6, hB6⟩ := put2 hR1 (bcat BG.bel hb1 BG.bel.size) (by omega) 2 0
    go_wp2
    generalize (w1.setCell ⟨w.heap.size + 1, 0, none⟩ (.int .i64 2)).setCell ⟨w.heap.size + 1, 1, none⟩ (.int .i64 0) = W at hR6 hB6 ⊢
    obtain ⟨z0, z1, _, _⟩ := hR6.two
    exact bodyPost_ret (v := .agg #[.int .i64 2, .int .i64 0]) (by simp [results, Tryd.results19, go_sem, z0, z1]) rfl ⟨rfl, hB6⟩
  · have hle : ls.length ≤ n := by omega
    have hmi : ¬ (n : Int) < (ls.length : Int) := by omega
    rw [BG.eq] at c0 c1
    clear y0 y1 fy0 fy1 s0 s1 hr
    go_enter Tryd.func19, Tryd.ntmps19
    go_wp2
    rw [← BG.eq]
    clear c0 c1
    go_loopw [5] (fun i wr => ∃ k : Nat, k ≤ ls.length ∧ i = .int .i64 k ∧ (∀ t, t < k → (rbad n ls t || fbad ls t) = false) ∧ Below w0.heap.size w0 wr) (fun i _ => ls.length - (intOf i).toNat)
    case atStart => exact ⟨0, Nat.zero_le _, rfl, fun t ht => by omega, Below.refl _ _⟩
    case round =>
      obtain ⟨k, hk, rfl, hno, hB⟩ := hrel
      have HNO := hide hno
      clear hno
      obtain ⟨c0, c1, _, _⟩ := (blk_below BG.box hB).two
      have hRk := blk_below BG.res hB
      obtain ⟨_, y0, y1, fy0, fy1, s0, s1⟩ := Two.mk' hRk
      have hBw := bcat BG.bel hB BG.bel.size
      by_cases hlt : k < ls.length
      · have hck := (HR.out.below hBw hp).cell k hlt
        obtain rfl := HR.out.at_ (by omega)
        obtain ⟨c, hc⟩ : ∃ c, ls[k]?.getD 0 = c := ⟨_, rfl⟩
        rw [hc] at hck
        have hki : (k : Int) < (ls.length : Int) := by omega
        by_cases hrb : c < 0 ∨ (n : Int) ≤ c
        · have HLF := hide (lfault_r hle hlt HNO.out (by unfold rbad; rw [hc]; simp [hrb]))
          clear hc
          rcases hrb with hc0 | hcn
          · have hc0i : c < 0 := hc0
            go_wp2_with fail
            go_quiet (fail)
            have hBq := bdrewN hB nq
            generalize wr.drewN nq = wq at hBq ⊢
            clear c0 c1 y0 y1 fy0 fy1 s0 s1
            obtain ⟨c0, c1, _, _⟩ := (blk_below BG.box hBq).two
            obtain ⟨_, y0, y1, fy0, fy1, s0, s1⟩ := Two.mk' (blk_below BG.res hBq)
            go_wp2_with fail
            refine (f_any 3 k wq).mono ?_
            rintro x w8 ⟨rfl, hb8⟩
            clear c0 c1 y0 y1 fy0 fy1 s0 s1
            have hB8 := bcat2 hBq hb8
            have hR8 := blk_below BG.res hB8
            obtain ⟨y0, y1, fy0, fy1⟩ := hR8.two
            obtain ⟨hR6, hB6⟩ := put2 hR8 (bcat BG.bel hB8 BG.bel.size) (by omega) 3 k
            go_wp2
            generalize (w8.setCell ⟨w.heap.size + 1, 0, none⟩ (.int .i64 3)).setCell ⟨w.heap.size + 1, 1, none⟩ (.int .i64 k) = W at hR6 hB6 ⊢
            obtain ⟨z0, z1, _, _⟩ := hR6.two
            exact bodyPost_ret (v := .agg #[.int .i64 3, .int .i64 k]) (by simp [results, Tryd.results19, go_sem, z0, z1]) rfl ⟨by first | (rw [HLF.out]; done) | (rw [HLF.out]; simp), hB6⟩
          · by_cases hc0 : c < 0
            · exfalso; omega
            · have hc0i : ¬ c < 0 := hc0
              go_wp2_with fail
              go_quiet (fail)
              have hBq := bdrewN hB nq
              generalize wr.drewN nq = wq at hBq ⊢
              clear c0 c1 y0 y1 fy0 fy1 s0 s1
              obtain ⟨c0, c1, _, _⟩ := (blk_below BG.box hBq).two
              obtain ⟨_, y0, y1, fy0, fy1, s0, s1⟩ := Two.mk' (blk_below BG.res hBq)
              go_wp2_with fail
              refine (f_any 3 k wq).mono ?_
              rintro x w8 ⟨rfl, hb8⟩
              clear c0 c1 y0 y1 fy0 fy1 s0 s1
              have hB8 := bcat2 hBq hb8
              have hR8 := blk_below BG.res hB8
              obtain ⟨y0, y1, fy0, fy1⟩ := hR8.two
              obtain ⟨hR6, hB6⟩ := put2 hR8 (bcat BG.bel hB8 BG.bel.size) (by omega) 3 k
              go_wp2
              generalize (w8.setCell ⟨w.heap.size + 1, 0, none⟩ (.int .i64 3)).setCell ⟨w.heap.size + 1, 1, none⟩ (.int .i64 k) = W at hR6 hB6 ⊢
              obtain ⟨z0, z1, _, _⟩ := hR6.two
              exact bodyPost_ret (v := .agg #[.int .i64 3, .int .i64 k]) (by simp [results, Tryd.results19, go_sem, z0, z1]) rfl ⟨by first | (rw [HLF.out]; done) | (rw [HLF.out]; simp), hB6⟩
        · have hc0 : ¬ c < 0 := fun h => hrb (.inl h)
          have hcn : ¬ (n : Int) ≤ c := fun h => hrb (.inr h)
          have HRB := hide (show rbad n ls k = false by unfold rbad; rw [hc]; simp; omega)
          clear hrb
          have HC := hide hc
          clear hc
          go_wp2_with fail
          go_quiet (fail)
          have hBq := bdrewN hB nq
          generalize wr.drewN nq = wq at hBq ⊢
          clear c0 c1 y0 y1 fy0 fy1 s0 s1
          obtain ⟨c0, c1, _, _⟩ := (blk_below BG.box hBq).two
          obtain ⟨_, y0, y1, fy0, fy1, s0, s1⟩ := Two.mk' (blk_below BG.res hBq)
          have hBwq := bcat BG.bel hBq BG.bel.size
          clear hck
          rcases Nat.eq_zero_or_pos k with rfl | hkp
          · have HFB := hide (show fbad ls 0 = false by simp [fbad])
            have h00 : ¬ ((0 : Int) < ((0 : Nat) : Int)) := by simp
            go_wp2_with fail
            go_quiet (fail)
            have hBq := bdrewN hBq nq
            generalize wq.drewN nq = wz at hBq ⊢
            clear c0 c1 y0 y1 fy0 fy1 s0 s1
            go_wp2
            go_roundw
            case rel => exact ⟨1, by omega, by go_num, fun t ht => by
              have : t = 0 := by omega
              subst this; rw [HRB.out, HFB.out]; rfl, hBq⟩
            case measure => simp [intOf]; omega
          · obtain ⟨m, rfl⟩ : ∃ m, k = m + 1 := ⟨k - 1, by omega⟩
            have hrq := HR.out.below hBwq hp
            have hck := hrq.cell (m + 1) hlt
            have hcm := hrq.cell m (by omega)
            rw [HC.out] at hck
            obtain ⟨d, hd⟩ : ∃ d, ls[m]?.getD 0 = d := ⟨_, rfl⟩
            rw [hd] at hcm
            have hfb : fbad ls (m + 1) = decide (c ≤ d) := by
              unfold fbad
              rw [Nat.add_sub_cancel, HC.out, hd]
              simp
            have hmi2 : (m : Int) < (ls.length : Int) := by omega
            have hmp : (0 : Int) < (m : Int) + 1 := by omega
            have hmw : IntKind.i64.wrap ((m : Int) + 1 - 1) = (m : Int) := by rw [IntKind.wrap_i64]; omega
            clear hrq hd
            by_cases hcd : c ≤ d
            · have HLF := hide (lfault_f hle hlt HNO.out HRB.out (by rw [hfb]; simp [hcd]))
              clear hfb
              go_wp2_with fail
              go_quiet (fail)
              have hBq := bdrewN hBq nq
              generalize wq.drewN nq = wz at hBq ⊢
              clear c0 c1 y0 y1 fy0 fy1 s0 s1
              clear hck hcm
              obtain ⟨c0, c1, _, _⟩ := (blk_below BG.box hBq).two
              obtain ⟨_, y0, y1, fy0, fy1, s0, s1⟩ := Two.mk' (blk_below BG.res hBq)
              go_wp2_with fail
              refine (f_any 5 ((m : Int) + 1) wz).mono ?_
              rintro x w8 ⟨rfl, hb8⟩
              clear c0 c1 y0 y1 fy0 fy1 s0 s1
              have hB8 := bcat2 hBq hb8
              have hR8 := blk_below BG.res hB8
              obtain ⟨y0, y1, fy0, fy1⟩ := hR8.two
              obtain ⟨hR6, hB6⟩ := put2 hR8 (bcat BG.bel hB8 BG.bel.size) (by omega) 5 ((m : Int) + 1)
              go_wp2
              generalize (w8.setCell ⟨w.heap.size + 1, 0, none⟩ (.int .i64 5)).setCell ⟨w.heap.size + 1, 1, none⟩ (.int .i64 ((m : Int) + 1)) = W at hR6 hB6 ⊢
              obtain ⟨z0, z1, _, _⟩ := hR6.two
              exact bodyPost_ret (v := .agg #[.int .i64 5, .int .i64 ((m : Int) + 1)]) (by simp [results, Tryd.results19, go_sem, z0, z1]) rfl ⟨by first | (rw [HLF.out]; done) | (rw [HLF.out]; simp), hB6⟩
            · have HFB := hide (show fbad ls (m + 1) = false by rw [hfb]; simp; omega)
              clear hfb
              go_wp2_with fail
              go_quiet (fail)
              have hBq := bdrewN hBq nq
              generalize wq.drewN nq = wz at hBq ⊢
              clear c0 c1 y0 y1 fy0 fy1 s0 s1
              clear hck hcm
              go_wp2
              go_roundw
              case rel => exact ⟨m + 1 + 1, by omega, by go_num, fun t ht => by
                by_cases e : t = m + 1
                · rw [e, HRB.out, HFB.out]; rfl
                · exact HNO.out t (by omega), hBq⟩
              case measure => simp [intOf]; omega
      · have hkk : k = ls.length := by omega
        subst hkk
        have HLF := hide (lfault_ok hle HNO.out)
        go_wp2
        exact bodyPost_ret (v := .agg #[.int .i64 0, .int .i64 0]) (by simp [results, Tryd.results19, go_sem, y0, y1]) rfl ⟨by rw [HLF.out], hBw⟩
/-- What Made answers, whatever is wrong. -/
theorem mde_any (N : Int) (v u : Value) (zs ls : List Int) (w : World) (hv : Sl w v zs) (hu : Sl w u ls) (hT : Tab w) :
    Calls Tryd.prog 28 #[.agg #[.int .i64 N, v], u] w fun x w' => ∃ a l c, x = .returned (.tuple #[.slice a l c, .agg #[.int .i64 (sfault N zs ls).1, .int .i64 (sfault N zs ls).2]]) ∧ Below w.heap.size w w' := by
  by_cases hc : (sfault N zs ls).1 = 0
  · obtain ⟨n, e, rfl, hg, hl, h0⟩ := sfault_zero hc
    obtain ⟨p, hp⟩ := mkd_test n zs e (pset ls)
    rw [h0]
    refine (mde_good n e v u zs ls p w hv hg hu hT hl hp).mono ?_
    rintro x w' ⟨r, rfl, hr, hb⟩
    obtain ⟨a, l, c, rfl⟩ := hr.sl.isSlice
    exact ⟨a, l, c, rfl, hb⟩
  · refine (mde_bad N v u zs ls w hv hu hc).mono ?_
    rintro x w' ⟨rfl, hb⟩
    exact ⟨_, _, _, rfl, hb⟩
theorem call116 (a : Int) (x y : Value) (W : World) : Sem.run Tryd.prog (callFunc 98 (#[.int .i64 a] ++ #[x, y])) W = .ok (.enter 98 (#[.int .i64 a] ++ #[x, y])) W := by kernel_rfl
set_option maxRecDepth 100000 in
set_option maxHeartbeats 2000000 in
theorem nor1_ok (n : Nat) (v u : Value) (zs : List Int) (e a gb sb : Nat) (q : Nat → Bool) (w : World) (hG : GA w n v e u zs) (hT : Tab w) (ha : a < n) (hb : Box4 w gb n e v u) (hs : Boxed w sb 70 (.int .u64 (bs q n))) :
    Calls Tryd.prog 98 (#[.int .i64 a] ++ #[.pointer (some ⟨gb, 0, none⟩), .pointer (some ⟨sb, 0, none⟩)]) w fun y w' => y = .returned (.bool (norq n zs e q a)) ∧ Below w.heap.size w w' := by
  show Calls Tryd.prog 98 #[.int .i64 a, .pointer (some ⟨gb, 0, none⟩), .pointer (some ⟨sb, 0, none⟩)] w _
  have HC := hide (fun W (h : Below w.heap.size w W) => conjd_ok n v u zs e a q W (hG.below h) (hT.below h) ha)
  have hsc := hs.cell
  have hS : ∀ W, Below w.heap.size w W → (Below w.heap.size w W ∧ W.cell? ⟨gb, 0, none⟩ = some (.int .i64 n) ∧ W.cell? ⟨gb, 1, none⟩ = some v ∧ W.cell? ⟨gb, 2, none⟩ = some (.int .i64 e) ∧ W.cell? ⟨gb, 3, none⟩ = some u ∧ W.cell? ⟨sb, 0, none⟩ = some (.int .u64 (bs q n))) := fun W h => by
    obtain ⟨c0, c1, c2, c3⟩ := (hb.below h).cells
    exact ⟨h, c0, c1, c2, c3, below_cell h hsc⟩
  have hS0 := hS _ (bdrew (Below.refl _ w))
  have HN : Hid (norq n zs e q a = decide (bs (cjq n zs e q a) n = bs q n)) := rfl
  clear hsc
  by_cases heq : bs (cjq n zs e q a) n = bs q n
  · rw [decide_eq_true heq] at HN
    rw [heq] at HC
    generalize bs q n = Q at *
    go_enter Tryd.func98, Tryd.ntmps98
    go_wp2_with fail
    go_region_held3 (fun W => Below w.heap.size w W ∧ W.cell? ⟨gb, 0, none⟩ = some (.int .i64 n) ∧ W.cell? ⟨gb, 1, none⟩ = some v ∧ W.cell? ⟨gb, 2, none⟩ = some (.int .i64 e) ∧ W.cell? ⟨gb, 3, none⟩ = some u ∧ W.cell? ⟨sb, 0, none⟩ = some (.int .u64 (Q : Int)))
      (first | exact hS0 | assumption | exact hS _ (bcat2 (And.left ‹_›) hl1))
      (first | (go_at_call 90; refine (HC.out _ (And.left ‹_›)).mono ?_; rintro e1 W1 ⟨rfl, hl1⟩))
    all_goals (
      have hB9 := And.left ‹Below w.heap.size w W1 ∧ _›
      go_wp2
      go_ret
      exact ⟨by rw [HN.out]; simp, hB9⟩)
  · rw [decide_eq_false heq] at HN
    generalize bs (cjq n zs e q a) n = P at *
    generalize bs q n = Q at *
    have hpi : ¬ ((P : Int) = (Q : Int)) := by omega
    go_enter Tryd.func98, Tryd.ntmps98
    go_wp2_with fail
    go_region_held3 (fun W => Below w.heap.size w W ∧ W.cell? ⟨gb, 0, none⟩ = some (.int .i64 n) ∧ W.cell? ⟨gb, 1, none⟩ = some v ∧ W.cell? ⟨gb, 2, none⟩ = some (.int .i64 e) ∧ W.cell? ⟨gb, 3, none⟩ = some u ∧ W.cell? ⟨sb, 0, none⟩ = some (.int .u64 (Q : Int)))
      (first | exact hS0 | assumption | exact hS _ (bcat2 (And.left ‹_›) hl1))
      (first | (go_at_call 90; refine (HC.out _ (And.left ‹_›)).mono ?_; rintro e1 W1 ⟨rfl, hl1⟩))
    all_goals (
      have hB9 := And.left ‹Below w.heap.size w W1 ∧ _›
      go_wp2
      go_ret
      exact ⟨by rw [HN.out]; simp [hpi], hB9⟩)
set_option maxRecDepth 100000 in
set_option maxHeartbeats 2000000 in
theorem norm_ok (n : Nat) (v u : Value) (zs : List Int) (e : Nat) (q : Nat → Bool) (w : World) (hG : GA w n v e u zs) (hT : Tab w) :
    Calls Tryd.prog 69 #[.agg #[.int .i64 n, v, .int .i64 e, u], .int .u64 (bs q n)] w fun x w' => x = .returned (.int .u64 (bs (norq n zs e q) n)) ∧ Below w.heap.size w w' := by
  have hB0 : Below w.heap.size w ((w.alloc (.cells #[.int .i64 n, v, .int .i64 e, u] 64)).alloc (.cells #[.int .u64 (bs q n)] 70)) := (balloc w _).alloc (by simp) _
  have hX0 : Box4 ((w.alloc (.cells #[.int .i64 n, v, .int .i64 e, u] 64)).alloc (.cells #[.int .u64 (bs q n)] 70)) w.heap.size n e v u := ⟨(blk4 _ _ _ _).alloc _⟩
  have hS0 := Boxed.new (w.alloc (.cells #[.int .i64 n, v, .int .i64 e, u] 64)) 70 (.int .u64 (bs q n))
  rw [World.size_alloc] at hS0
  obtain ⟨c0, c1, c2, c3⟩ := hX0.cells
  go_enter Tryd.func69, Tryd.ntmps69
  go_wp2_with fail
  generalize (w.alloc (.cells #[.int .i64 n, v, .int .i64 e, u] 64)).alloc (.cells #[.int .u64 (bs q n)] 70) = w0 at *
  refine (those_ok n 98 v u e #[.pointer (some ⟨w.heap.size, 0, none⟩), .pointer (some ⟨w.heap.size + 1, 0, none⟩)] (norq n zs e q) w0 hG.le (fun a W => call116 a _ _ W) (fun W a hW ha => nor1_ok n v u zs e a w.heap.size (w.heap.size + 1) q W ((hG.below hB0).below hW) ((hT.below hB0).below hW) ha (hX0.below hW) (Boxed.below hS0 hW))).mono ?_
  rintro x w3 ⟨rfl, hb3⟩
  go_wp2
  go_ret
  exact ⟨rfl, bcat2 hB0 hb3⟩
set_option maxRecDepth 100000 in
set_option maxHeartbeats 4000000 in
theorem osub_good (n e : Nat) (v u : Value) (zs ls : List Int) (w : World) (hv : Sl w v zs) (hg : IsGrp n zs e) (hu : Sl w u ls) (hT : Tab w) (hc : lfault n ls = (0, 0)) (hsb : subT n zs e (pset ls) = true) :
    Calls Tryd.prog 68 #[.agg #[.int .i64 n, v], u] w fun x w' => ∃ iv9, x = .returned (.tuple #[.agg #[.int .i64 n, v, .int .i64 e, iv9], .int .u64 (bs (pset ls) n), .agg #[.int .i64 0, .int .i64 0]]) ∧ SlF w.heap.size w' iv9 (li ((List.range n).map (iv n zs e))) ∧ Below w.heap.size w w' := by
  obtain ⟨va, vl, vc, rfl⟩ := hv.isSlice
  obtain ⟨w0, BG⟩ := Beg4.new w n (.slice va vl vc)
  have hv0 := hv.below BG.bel
  have hu0 := hu.below BG.bel
  obtain ⟨c0, c1, _, _⟩ := BG.box.two
  have HCK := hide (oset_good n e (.slice va vl vc) u zs ls w0 hv0 hg hu0 hc)
  obtain ⟨p, hp⟩ := mkd_test n zs e (pset ls)
  have hpe0 := subT_made hp hg.elt (fun a b ha hb => tm_lt hg.tab ha hb)
  rw [hsb] at hpe0
  have hpe : bs p n = bs (pset ls) n := by simpa using hpe0.symm
  clear hpe0
  have HMK := hide (fun W iv8 (h : GA W n (.slice va vl vc) e iv8 zs) (h2 : Tab W) => made_ok n (.slice va vl vc) iv8 zs e (pset ls) p W h h2 hp)
  rw [hpe] at HMK
  clear hc hsb hp hpe
  rw [BG.eq] at c0 c1
  go_enter Tryd.func68, Tryd.ntmps68
  go_wp2_with fail
  rw [← BG.eq]
  refine HCK.out.mono ?_
  rintro x w1 ⟨iv9, rfl, hGA, hb1⟩
  obtain ⟨ia, il, ic, rfl⟩ := hGA.sl.isSlice
  clear c0 c1 HCK
  obtain ⟨w2, hw2⟩ : ∃ w2, w2 = (w1.alloc (.cells #[.int .i64 n, (.slice va vl vc), .int .i64 e, (.slice ia il ic)] 64)).alloc (.cells #[.int .i64 0, .int .i64 0] 27) := ⟨_, rfl⟩
  have hb2 : Below w1.heap.size w1 w2 := by rw [hw2]; exact (balloc w1 _).alloc (by simp) _
  have hB1 : Below w0.heap.size w0 w2 := bcat2 hb1 hb2
  have hF1 : Blk w2 (w1.heap.size + 1) 27 [.int .i64 0, .int .i64 0] := by
    rw [hw2]
    have := blk0 (w := w1.alloc (.cells #[.int .i64 n, (.slice va vl vc), .int .i64 e, (.slice ia il ic)] 64)) (T := 27) (.int .i64 0) (.int .i64 0)
    rwa [World.size_alloc] at this
  have hH1 : Blk w2 w1.heap.size 64 [.int .i64 n, (.slice va vl vc), .int .i64 e, (.slice ia il ic)] := by
    rw [hw2]; exact (blk4 _ _ _ _).alloc _
  obtain ⟨t0, t1, _, _⟩ := hF1.two
  obtain ⟨_, k0, k1, k2, k3, _⟩ := Four.mk' hH1
  rw [hw2] at t0 t1 k0 k1 k2 k3
  go_wp2_with fail
  rw [← hw2]
  clear t0 t1 k0 k1 k2 k3 hw2
  have hGA2 : GA w2 n (.slice va vl vc) e (.slice ia il ic) zs := ⟨hg, hv0.below hB1, (hGA.below hb2).sl⟩
  refine (HMK.out w2 _ hGA2 ((hT.below BG.bel).below hB1)).mono ?_
  rintro x w3 ⟨rfl, hb3⟩
  have hB3 := bcat2 hB1 hb3
  obtain ⟨_, f0, f1, ff0, ff1, fs0, fs1⟩ := Two.mk' (blk_below hF1 hb3)
  have hBw3 := bcat BG.bel hB3 BG.bel.size
  have hG3 := blk_below BG.grp hB3
  obtain ⟨_, h0, h1, h2, h3, _⟩ := Four.mk' (blk_below hH1 hb3)
  obtain ⟨_, g0, g1, g2, g3, gf0, gf1, gf2, gf3, _⟩ := Four.mk' hG3
  obtain ⟨hR3, y0, y1, fy0, fy1, s0, s1⟩ := Two.mk' (blk_below BG.res hB3)
  have hGA3 := (hGA.below (bcat2 hb2 hb3)).mono (show w.heap.size + 3 ≤ w0.heap.size by rw [BG.size]; exact Nat.le_refl _)
  go_wp2
  obtain ⟨W, hW, hG8, hR8, hB8, hS8, hK8⟩ := put6 hG3 hR3 hBw3 (.int .i64 n) (.slice va vl vc) (.int .i64 e) (.slice ia il ic) (.int .i64 0) (.int .i64 0)
  rw [← hW]
  clear hW
  obtain ⟨z0, z1, _, _⟩ := hR8.two
  obtain ⟨_, q0, q1, q2, q3, _⟩ := Four.mk' hG8
  have hGA9 := (hGA3.keep (fun b h1 _ => hK8 b h1) (by omega)).mono (show w.heap.size ≤ w.heap.size + 3 by omega)
  exact bodyPost_ret (v := .tuple #[.agg #[.int .i64 n, .slice va vl vc, .int .i64 e, .slice ia il ic], .int .u64 (bs (pset ls) n), .agg #[.int .i64 0, .int .i64 0]]) (by simp [results, Tryd.results68, go_sem, z0, z1, q0, q1, q2, q3]) rfl ⟨_, rfl, hGA9, hB8⟩
set_option maxRecDepth 100000 in
set_option maxHeartbeats 4000000 in
theorem nrm_good (n e : Nat) (v u0 : Value) (zs l0 : List Int) (w : World) (hv : Sl w v zs) (hg : IsGrp n zs e) (hu : Sl w u0 l0) (hT : Tab w) (hc : lfault n l0 = (0, 0)) (hs : subT n zs e (pset l0) = true) :
    Calls Tryd.prog 33 #[.agg #[.int .i64 n, v], u0] w fun x w' => x = .returned (.tuple #[.bool (nrmq n zs e (pset l0)), .agg #[.int .i64 0, .int .i64 0]]) ∧ Below w.heap.size w w' := by
  obtain ⟨va, vl, vc, rfl⟩ := hv.isSlice
  obtain ⟨w0, BG⟩ := Beg.new w n (.slice va vl vc)
  have hv0 := hv.below BG.bel
  obtain ⟨c0, c1, _, _⟩ := BG.box.two
  have HCK := hide (osub_good n e (.slice va vl vc) u0 zs l0 w0 hv0 hg (hu.below BG.bel) (hT.below BG.bel) hc hs)
  have HZ0 := hide (show w.heap.size + 2 ≤ w0.heap.size by rw [BG.eq]; simp)
  rw [BG.eq] at c0 c1
  go_enter Tryd.func33, Tryd.ntmps33
  go_wp2_with fail
  rw [← BG.eq]
  refine HCK.out.mono ?_
  rintro x w1 ⟨iv9, rfl, hSI, hb1⟩
  obtain ⟨ia, il, ic, rfl⟩ := hSI.sl.isSlice
  clear c0 c1 HCK
  obtain ⟨w2, hw2⟩ : ∃ w2, w2 = (w1.alloc (.cells #[.int .i64 n, (.slice va vl vc), .int .i64 e, (.slice ia il ic)] 64)).alloc (.cells #[.int .i64 0, .int .i64 0] 27) := ⟨_, rfl⟩
  have hb2 : Below w1.heap.size w1 w2 := by rw [hw2]; exact (balloc w1 _).alloc (by simp) _
  have hB1 : Below w0.heap.size w0 w2 := bcat2 hb1 hb2
  have hF1 : Blk w2 (w1.heap.size + 1) 27 [.int .i64 0, .int .i64 0] := by
    rw [hw2]
    have := blk0 (w := w1.alloc (.cells #[.int .i64 n, (.slice va vl vc), .int .i64 e, (.slice ia il ic)] 64)) (T := 27) (.int .i64 0) (.int .i64 0)
    rwa [World.size_alloc] at this
  have hH2 : Blk w2 w1.heap.size 64 [.int .i64 n, (.slice va vl vc), .int .i64 e, (.slice ia il ic)] := by
    rw [hw2]; exact (blk4 _ _ _ _).alloc _
  have hBw2 := bcat BG.bel hB1 BG.bel.size
  have hR2 := blk_below BG.res hB1
  have hT2 := hT.below hBw2
  have hGA2 : GA w2 n (.slice va vl vc) e (.slice ia il ic) zs := ⟨hg, hv.below hBw2, (hSI.below hb2).sl⟩
  obtain ⟨t0, t1, _, _⟩ := hF1.two
  obtain ⟨_, h0, h1, h2, h3, _⟩ := Four.mk' hH2
  have hx2 := blk_below BG.box hB1
  have HZ1 := hide (Nat.le_trans HZ0.out hb1.size)
  have HZ2 := hide hb2.size
  rw [hw2] at t0 t1 h0 h1 h2 h3
  go_wp2_with fail
  rw [← hw2]
  rw [← hw2] at t0 t1 h0 h1 h2 h3
  clear hw2
  have hS : ∀ W, Below w2.heap.size w2 W → (Below w2.heap.size w2 W ∧ W.cell? ⟨w1.heap.size, 0, none⟩ = some (.int .i64 n) ∧ W.cell? ⟨w1.heap.size, 1, none⟩ = some (.slice va vl vc) ∧ W.cell? ⟨w1.heap.size, 2, none⟩ = some (.int .i64 e) ∧ W.cell? ⟨w1.heap.size, 3, none⟩ = some (.slice ia il ic) ∧ W.cell? ⟨w.heap.size + 1, 0, none⟩ = some (.int .i64 0) ∧ W.cell? ⟨w.heap.size + 1, 1, none⟩ = some (.int .i64 0) ∧ W.frozen? ⟨w.heap.size + 1, 0, none⟩ = false ∧ W.frozen? ⟨w.heap.size + 1, 1, none⟩ = false ∧ W.setCell ⟨w.heap.size + 1, 0, none⟩ (.int .i64 0) = W ∧ W.setCell ⟨w.heap.size + 1, 1, none⟩ (.int .i64 0) = W) := fun W h => by
    obtain ⟨_, y0, y1, fy0, fy1, s0, s1⟩ := Two.mk' (blk_below hR2 h)
    exact ⟨h, below_cell h h0, below_cell h h1, below_cell h h2, below_cell h h3, y0, y1, fy0, fy1, s0, s1⟩
  have hS0 := hS _ (bdrew (Below.refl _ w2))
  have HA := hide (fun W => all_ok n (.slice va vl vc) (.slice ia il ic) e W hg.tab.le)
  have HC := hide (fun W (h : Below w2.heap.size w2 W) => norm_ok n (.slice va vl vc) (.slice ia il ic) zs e (pset l0) W (hGA2.below h) (hT2.below h))
  clear h0 h1 h2 h3 t0 t1
  have HN : Hid (nrmq n zs e (pset l0) = decide (bs (norq n zs e (pset l0)) n = bs (fun _ => true) n)) := rfl
  by_cases heq : bs (norq n zs e (pset l0)) n = bs (fun _ => true) n
  · rw [heq] at HC HN
    rw [decide_eq_true rfl] at HN
    generalize bs (norq n zs e (pset l0)) n = P at *
    generalize bs (fun _ => true) n = A at *
    
    go_region_held3 (fun W => Below w2.heap.size w2 W ∧ W.cell? ⟨w1.heap.size, 0, none⟩ = some (.int .i64 n) ∧ W.cell? ⟨w1.heap.size, 1, none⟩ = some (.slice va vl vc) ∧ W.cell? ⟨w1.heap.size, 2, none⟩ = some (.int .i64 e) ∧ W.cell? ⟨w1.heap.size, 3, none⟩ = some (.slice ia il ic) ∧ W.cell? ⟨w.heap.size + 1, 0, none⟩ = some (.int .i64 0) ∧ W.cell? ⟨w.heap.size + 1, 1, none⟩ = some (.int .i64 0) ∧ W.frozen? ⟨w.heap.size + 1, 0, none⟩ = false ∧ W.frozen? ⟨w.heap.size + 1, 1, none⟩ = false ∧ W.setCell ⟨w.heap.size + 1, 0, none⟩ (.int .i64 0) = W ∧ W.setCell ⟨w.heap.size + 1, 1, none⟩ (.int .i64 0) = W)
      (first | exact hS0 | assumption | exact hS _ (bcat2 (And.left ‹_›) hl1))
      (first
        | (go_at_call 69; refine (HC.out _ (And.left ‹_›)).mono ?_; rintro e1 W1 ⟨rfl, hl1⟩)
        | (go_at_call 60; refine (HA.out _).mono ?_; rintro e2 W2 ⟨rfl, hl1⟩))
    all_goals (
      obtain ⟨hB9, _, _, _, _, y0, y1, _⟩ := ‹Below w2.heap.size w2 W2 ∧ _›
      have hBz := bcat hBw2 hB9 hBw2.size
      clear hS hS0
      go_wp2
      exact bodyPost_ret (v := .tuple #[.bool true, .agg #[.int .i64 0, .int .i64 0]]) (by simp [results, Tryd.results33, go_sem, y0, y1]) rfl ⟨by rw [HN.out], hBz⟩)
  · skip
    rw [decide_eq_false heq] at HN
    generalize bs (norq n zs e (pset l0)) n = P at *
    generalize bs (fun _ => true) n = A at *
    have hpi : ¬ ((P : Int) = (A : Int)) := by omega
    go_region_held3 (fun W => Below w2.heap.size w2 W ∧ W.cell? ⟨w1.heap.size, 0, none⟩ = some (.int .i64 n) ∧ W.cell? ⟨w1.heap.size, 1, none⟩ = some (.slice va vl vc) ∧ W.cell? ⟨w1.heap.size, 2, none⟩ = some (.int .i64 e) ∧ W.cell? ⟨w1.heap.size, 3, none⟩ = some (.slice ia il ic) ∧ W.cell? ⟨w.heap.size + 1, 0, none⟩ = some (.int .i64 0) ∧ W.cell? ⟨w.heap.size + 1, 1, none⟩ = some (.int .i64 0) ∧ W.frozen? ⟨w.heap.size + 1, 0, none⟩ = false ∧ W.frozen? ⟨w.heap.size + 1, 1, none⟩ = false ∧ W.setCell ⟨w.heap.size + 1, 0, none⟩ (.int .i64 0) = W ∧ W.setCell ⟨w.heap.size + 1, 1, none⟩ (.int .i64 0) = W)
      (first | exact hS0 | assumption | exact hS _ (bcat2 (And.left ‹_›) hl1))
      (first
        | (go_at_call 69; refine (HC.out _ (And.left ‹_›)).mono ?_; rintro e1 W1 ⟨rfl, hl1⟩)
        | (go_at_call 60; refine (HA.out _).mono ?_; rintro e2 W2 ⟨rfl, hl1⟩))
    all_goals (
      obtain ⟨hB9, _, _, _, _, y0, y1, _⟩ := ‹Below w2.heap.size w2 W2 ∧ _›
      have hBz := bcat hBw2 hB9 hBw2.size
      clear hS hS0
      go_wp2
      exact bodyPost_ret (v := .tuple #[.bool false, .agg #[.int .i64 0, .int .i64 0]]) (by simp [results, Tryd.results33, go_sem, y0, y1, hpi]) rfl ⟨by rw [HN.out], hBz⟩)
set_option maxRecDepth 100000 in
set_option maxHeartbeats 4000000 in
theorem osub_bads (N : Int) (v u : Value) (zs ls : List Int) (w : World) (hv : Sl w v zs) (hu : Sl w u ls) (hc : (sfault N zs ls).1 ≠ 0) :
    Calls Tryd.prog 68 #[.agg #[.int .i64 N, v], u] w fun x w' => x = .returned (.tuple #[.agg #[.int .i64 0, .slice none 0 0, .int .i64 0, .slice none 0 0], .int .u64 0, .agg #[.int .i64 (sfault N zs ls).1, .int .i64 (sfault N zs ls).2]]) ∧ Below w.heap.size w w' := by
  obtain ⟨w0, BG⟩ := Beg4.new w N v
  have hv0 := hv.below BG.bel
  obtain ⟨c0, c1, _, _⟩ := BG.box.two
  have hck := oset_bad N v u zs ls w0 hv0 (hu.below BG.bel) hc
  obtain ⟨c, i, hci⟩ : ∃ c i, sfault N zs ls = (c, i) := ⟨_, _, rfl⟩
  rw [hci] at hck hc ⊢
  simp only at hc hck
  have HCK := hide hck
  clear hck hci
  have hcb : (c != 0) = true := by simpa using hc
  rw [BG.eq] at c0 c1
  go_enter Tryd.func68, Tryd.ntmps68
  go_wp2_with fail
  rw [← BG.eq]
  refine HCK.out.mono ?_
  rintro x w1 ⟨rfl, hb1⟩
  clear c0 c1
  obtain ⟨w2, hw2⟩ : ∃ w2, w2 = (w1.alloc (.cells #[.int .i64 0, .slice none 0 0, .int .i64 0, .slice none 0 0] 64)).alloc (.cells #[.int .i64 c, .int .i64 i] 27) := ⟨_, rfl⟩
  have hB1 : Below w0.heap.size w0 w2 := by rw [hw2]; exact bcat2 hb1 ((balloc w1 _).alloc (by simp) _)
  have hF1 : Blk w2 (w1.heap.size + 1) 27 [.int .i64 c, .int .i64 i] := by
    rw [hw2]
    have := blk0 (w := w1.alloc (.cells #[.int .i64 0, .slice none 0 0, .int .i64 0, .slice none 0 0] 64)) (T := 27) (.int .i64 c) (.int .i64 i)
    rwa [World.size_alloc] at this
  obtain ⟨hG1, g0, g1, g2, g3, gf0, gf1, gf2, gf3, gs0, gs1, gs2, gs3⟩ := Four.mk' (blk_below BG.grp hB1)
  have hR1 := blk_below BG.res hB1
  have hBw := bcat BG.bel hB1 BG.bel.size
  obtain ⟨y0, y1, fy0, fy1⟩ := hR1.two
  obtain ⟨t0, t1, _, _⟩ := hF1.two
  rw [hw2] at t0 t1
  go_wp2_with fail
  rw [← hw2]
  rw [← hw2] at t0 t1
  clear hw2
  go_region
  all_goals (
    go_wp2
    obtain ⟨hR6, hB6⟩ := put2 hR1 hBw (by omega) c i
    have hB7 := bdrew hB6
    have hR7 : Blk ((w2.setCell ⟨w.heap.size + 1 + 1, 0, none⟩ (.int .i64 c)).setCell ⟨w.heap.size + 1 + 1, 1, none⟩ (.int .i64 i)).drew (w.heap.size + 1 + 1) 27 [.int .i64 c, .int .i64 i] := hR6
    have hG7 : Blk ((w2.setCell ⟨w.heap.size + 1 + 1, 0, none⟩ (.int .i64 c)).setCell ⟨w.heap.size + 1 + 1, 1, none⟩ (.int .i64 i)).drew (w.heap.size + 1) 64 [.int .i64 0, .slice none 0 0, .int .i64 0, .slice none 0 0] :=
      (hG1.other (p := ⟨w.heap.size + 1 + 1, 0, none⟩) (by simp) (.int .i64 c)).other (p := ⟨w.heap.size + 1 + 1, 1, none⟩) (by simp) (.int .i64 i)
    generalize ((w2.setCell ⟨w.heap.size + 1 + 1, 0, none⟩ (.int .i64 c)).setCell ⟨w.heap.size + 1 + 1, 1, none⟩ (.int .i64 i)).drew = W at hR7 hB7 hG7 ⊢
    obtain ⟨z0, z1, _, _⟩ := hR7.two
    obtain ⟨_, q0, q1, q2, q3, _⟩ := Four.mk' hG7
    exact bodyPost_ret (v := .tuple #[.agg #[.int .i64 0, .slice none 0 0, .int .i64 0, .slice none 0 0], .int .u64 0, .agg #[.int .i64 c, .int .i64 i]]) (by simp [results, Tryd.results68, go_sem, z0, z1, q0, q1, q2, q3]) rfl ⟨rfl, hB7⟩)
set_option maxRecDepth 100000 in
set_option maxHeartbeats 4000000 in
theorem osub_badu (n e : Nat) (v u : Value) (zs ls : List Int) (w : World) (hv : Sl w v zs) (hg : IsGrp n zs e) (hu : Sl w u ls) (hT : Tab w) (hc : lfault n ls = (0, 0)) (hsb : subT n zs e (pset ls) = false) :
    Calls Tryd.prog 68 #[.agg #[.int .i64 n, v], u] w fun x w' => x = .returned (.tuple #[.agg #[.int .i64 0, .slice none 0 0, .int .i64 0, .slice none 0 0], .int .u64 0, .agg #[.int .i64 7, .int .i64 0]]) ∧ Below w.heap.size w w' := by
  obtain ⟨va, vl, vc, rfl⟩ := hv.isSlice
  obtain ⟨w0, BG⟩ := Beg4.new w n (.slice va vl vc)
  have hv0 := hv.below BG.bel
  have hu0 := hu.below BG.bel
  obtain ⟨c0, c1, _, _⟩ := BG.box.two
  have HCK := hide (oset_good n e (.slice va vl vc) u zs ls w0 hv0 hg hu0 hc)
  obtain ⟨p, hp⟩ := mkd_test n zs e (pset ls)
  have hpe0 := subT_made hp hg.elt (fun a b ha hb => tm_lt hg.tab ha hb)
  rw [hsb] at hpe0
  have hpe : ¬ bs p n = bs (pset ls) n := by simpa using hpe0.symm
  have hpi : ¬ ((bs p n : Nat) : Int) = ((bs (pset ls) n : Nat) : Int) := by omega
  clear hpe0
  have HMK := hide (fun W iv8 (h : GA W n (.slice va vl vc) e iv8 zs) (h2 : Tab W) => made_ok n (.slice va vl vc) iv8 zs e (pset ls) p W h h2 hp)
  clear hc hsb hp hpe
  rw [BG.eq] at c0 c1
  go_enter Tryd.func68, Tryd.ntmps68
  go_wp2_with fail
  rw [← BG.eq]
  refine HCK.out.mono ?_
  rintro x w1 ⟨iv9, rfl, hGA, hb1⟩
  obtain ⟨ia, il, ic, rfl⟩ := hGA.sl.isSlice
  clear c0 c1 HCK
  obtain ⟨w2, hw2⟩ : ∃ w2, w2 = (w1.alloc (.cells #[.int .i64 n, (.slice va vl vc), .int .i64 e, (.slice ia il ic)] 64)).alloc (.cells #[.int .i64 0, .int .i64 0] 27) := ⟨_, rfl⟩
  have hb2 : Below w1.heap.size w1 w2 := by rw [hw2]; exact (balloc w1 _).alloc (by simp) _
  have hB1 : Below w0.heap.size w0 w2 := bcat2 hb1 hb2
  have hF1 : Blk w2 (w1.heap.size + 1) 27 [.int .i64 0, .int .i64 0] := by
    rw [hw2]
    have := blk0 (w := w1.alloc (.cells #[.int .i64 n, (.slice va vl vc), .int .i64 e, (.slice ia il ic)] 64)) (T := 27) (.int .i64 0) (.int .i64 0)
    rwa [World.size_alloc] at this
  have hH1 : Blk w2 w1.heap.size 64 [.int .i64 n, (.slice va vl vc), .int .i64 e, (.slice ia il ic)] := by
    rw [hw2]; exact (blk4 _ _ _ _).alloc _
  obtain ⟨t0, t1, _, _⟩ := hF1.two
  obtain ⟨_, k0, k1, k2, k3, _⟩ := Four.mk' hH1
  rw [hw2] at t0 t1 k0 k1 k2 k3
  go_wp2_with fail
  rw [← hw2]
  clear t0 t1 k0 k1 k2 k3 hw2
  have hGA2 : GA w2 n (.slice va vl vc) e (.slice ia il ic) zs := ⟨hg, hv0.below hB1, (hGA.below hb2).sl⟩
  refine (HMK.out w2 _ hGA2 ((hT.below BG.bel).below hB1)).mono ?_
  rintro x w3 ⟨rfl, hb3⟩
  have hB3 := bcat2 hB1 hb3
  obtain ⟨_, f0, f1, ff0, ff1, fs0, fs1⟩ := Two.mk' (blk_below hF1 hb3)
  have hBw3 := bcat BG.bel hB3 BG.bel.size
  have hG3 := blk_below BG.grp hB3
  obtain ⟨_, h0, h1, h2, h3, _⟩ := Four.mk' (blk_below hH1 hb3)
  obtain ⟨_, g0, g1, g2, g3, gf0, gf1, gf2, gf3, _⟩ := Four.mk' hG3
  obtain ⟨hR3, y0, y1, fy0, fy1, s0, s1⟩ := Two.mk' (blk_below BG.res hB3)
  have hGA3 := (hGA.below (bcat2 hb2 hb3)).mono (show w.heap.size + 3 ≤ w0.heap.size by rw [BG.size]; exact Nat.le_refl _)
  obtain ⟨_, _, _, _, _, _, _, _, _, gs0, gs1, gs2, gs3⟩ := Four.mk' hG3
  obtain ⟨hR6, hB6⟩ := put2 hR3 hBw3 (by omega) 7 0
  have hG6 := (hG3.other (p := ⟨w.heap.size + 1 + 1, 0, none⟩) (by simp) (.int .i64 7)).other (p := ⟨w.heap.size + 1 + 1, 1, none⟩) (by simp) (.int .i64 0)
  clear s0 s1
  go_wp2
  generalize (w3.setCell ⟨w.heap.size + 1 + 1, 0, none⟩ (.int .i64 7)).setCell ⟨w.heap.size + 1 + 1, 1, none⟩ (.int .i64 0) = W at hR6 hB6 hG6 ⊢
  obtain ⟨z0, z1, _, _⟩ := hR6.two
  obtain ⟨_, q0, q1, q2, q3, _⟩ := Four.mk' hG6
  exact bodyPost_ret (v := .tuple #[.agg #[.int .i64 0, .slice none 0 0, .int .i64 0, .slice none 0 0], .int .u64 0, .agg #[.int .i64 7, .int .i64 0]]) (by simp [results, Tryd.results68, go_sem, z0, z1, q0, q1, q2, q3]) rfl ⟨rfl, hB6⟩
theorem osub_bad (N : Int) (v u : Value) (zs ls : List Int) (w : World) (hv : Sl w v zs) (hu : Sl w u ls) (hT : Tab w) (hc : (ufault N zs ls).1 ≠ 0) :
    Calls Tryd.prog 68 #[.agg #[.int .i64 N, v], u] w fun x w' => x = .returned (.tuple #[.agg #[.int .i64 0, .slice none 0 0, .int .i64 0, .slice none 0 0], .int .u64 0, .agg #[.int .i64 (ufault N zs ls).1, .int .i64 (ufault N zs ls).2]]) ∧ Below w.heap.size w w' := by
  rcases ufault_cases N zs ls hc with ⟨h1, h2⟩ | ⟨n, e, rfl, hg, h1, h2, h3⟩
  · rw [h2]; exact osub_bads N v u zs ls w hv hu h1
  · rw [h3]; exact osub_badu n e v u zs ls w hv hg hu hT h1 h2
set_option maxRecDepth 100000 in
set_option maxHeartbeats 4000000 in
theorem nrm_bad (N : Int) (v u0 : Value) (zs l0 : List Int) (w : World) (hv : Sl w v zs) (hu : Sl w u0 l0) (hT : Tab w) (hc : (ufault N zs l0).1 ≠ 0) :
    Calls Tryd.prog 33 #[.agg #[.int .i64 N, v], u0] w fun x w' => x = .returned (.tuple #[.bool false, .agg #[.int .i64 (ufault N zs l0).1, .int .i64 (ufault N zs l0).2]]) ∧ Below w.heap.size w w' := by
  obtain ⟨w0, BG⟩ := Beg.new w N v
  have hv0 := hv.below BG.bel
  obtain ⟨c0, c1, _, _⟩ := BG.box.two
  have hck := osub_bad N v u0 zs l0 w0 hv0 (hu.below BG.bel) (hT.below BG.bel) hc
  obtain ⟨c, i, hci⟩ : ∃ c i, ufault N zs l0 = (c, i) := ⟨_, _, rfl⟩
  rw [hci] at hck hc ⊢
  simp only at hc hck
  have HCK := hide hck
  clear hck hci
  have hcb : (c != 0) = true := by simpa using hc
  rw [BG.eq] at c0 c1
  go_enter Tryd.func33, Tryd.ntmps33
  go_wp2_with fail
  rw [← BG.eq]
  refine HCK.out.mono ?_
  rintro x w1 ⟨rfl, hb1⟩
  clear c0 c1
  obtain ⟨w2, hw2⟩ : ∃ w2, w2 = (w1.alloc (.cells #[.int .i64 0, .slice none 0 0, .int .i64 0, .slice none 0 0] 64)).alloc (.cells #[.int .i64 c, .int .i64 i] 27) := ⟨_, rfl⟩
  have hB1 : Below w0.heap.size w0 w2 := by rw [hw2]; exact bcat2 hb1 ((balloc w1 _).alloc (by simp) _)
  have hF1 : Blk w2 (w1.heap.size + 1) 27 [.int .i64 c, .int .i64 i] := by
    rw [hw2]
    have := blk0 (w := w1.alloc (.cells #[.int .i64 0, .slice none 0 0, .int .i64 0, .slice none 0 0] 64)) (T := 27) (.int .i64 c) (.int .i64 i)
    rwa [World.size_alloc] at this
  have hR1 := blk_below BG.res hB1
  have hBw := bcat BG.bel hB1 BG.bel.size
  obtain ⟨y0, y1, fy0, fy1⟩ := hR1.two
  obtain ⟨t0, t1, _, _⟩ := hF1.two
  rw [hw2] at t0 t1
  go_wp2_with fail
  rw [← hw2]
  rw [← hw2] at t0 t1
  clear hw2
  go_region
  all_goals (
    go_wp2
    obtain ⟨hR6, hB6⟩ := put2 hR1 hBw (by omega) c i
    have hB7 := bdrew hB6
    have hR7 : Blk ((w2.setCell ⟨w.heap.size + 1, 0, none⟩ (.int .i64 c)).setCell ⟨w.heap.size + 1, 1, none⟩ (.int .i64 i)).drew (w.heap.size + 1) 27 [.int .i64 c, .int .i64 i] := hR6
    generalize ((w2.setCell ⟨w.heap.size + 1, 0, none⟩ (.int .i64 c)).setCell ⟨w.heap.size + 1, 1, none⟩ (.int .i64 i)).drew = W at hR7 hB7 ⊢
    obtain ⟨z0, z1, _, _⟩ := hR7.two
    exact bodyPost_ret (v := .tuple #[.bool false, .agg #[.int .i64 c, .int .i64 i]]) (by simp [results, Tryd.results33, go_sem, z0, z1]) rfl ⟨rfl, hB7⟩)
end Go.Proofs.YtolbpjjjoafkkaaDoor

namespace Go.Proofs.YtolbpjjjoafkkaaDoor
open Go Go.RowKit

def Rws (W : World) (g : Nat) (ms : List (List Int)) : Prop := ∀ j, j < ms.length → ∃ a c, W.cell? ⟨g, j, none⟩ = some (.slice a (ms[j]?.getD []).length c) ∧ Sl W (.slice a (ms[j]?.getD []).length c) (ms[j]?.getD [])
theorem Rws.below {W W' : World} {g : Nat} {ms : List (List Int)} (h : Rws W g ms) (hb : Below W.heap.size W W') : Rws W' g ms := fun j hj => by
  obtain ⟨a, c, h1, h2⟩ := h j hj
  exact ⟨a, c, below_cell hb h1, h2.below hb⟩
structure SylA (n : Nat) (zs : List Int) (e p : Nat) (s : Nat → Bool) (A : List Nat) (ms : List (List Int)) : Prop where
  gr : Grown n zs e p s
  lt : ∀ a, a ∈ A → a < n
  nd : (A.map fun a => bs (cjq n zs e s a) n).Nodup
  all : ∀ a, a < n → bs (cjq n zs e s a) n ∈ A.map fun a => bs (cjq n zs e s a) n
  pm : ms.Perm (A.map fun a => li (lst n (cjq n zs e s a)))
  st : srt ms
theorem SylA.len {n e p : Nat} {zs : List Int} {s : Nat → Bool} {A : List Nat} {ms : List (List Int)} (h : SylA n zs e p s A ms) : ms.length = A.length := by
  rw [h.pm.length_eq, List.length_map]
theorem SylA.pos {n e p : Nat} {zs : List Int} {s : Nat → Bool} {A : List Nat} {ms : List (List Int)} (h : SylA n zs e p s A ms) (he : e < n) : 0 < ms.length := by
  rw [h.len]
  obtain ⟨a, ha, _⟩ := List.mem_map.1 (h.all e he)
  exact List.length_pos_of_mem ha
theorem SylA.fits {n e p : Nat} {zs : List Int} {s : Nat → Bool} {A : List Nat} {ms : List (List Int)} (h : SylA n zs e p s A ms) : ms.length ≤ n := by
  rw [h.len]
  exact nodup_fits (nd_of_map h.nd) h.lt
theorem SylA.one {n e p : Nat} {zs : List Int} {s : Nat → Bool} {A : List Nat} {ms : List (List Int)} (h : SylA n zs e p s A ms) {j : Nat} (hj : j < ms.length) : ∃ a, a ∈ A ∧ ms[j]?.getD [] = li (lst n (cjq n zs e s a)) := by
  have h1 : ms[j]?.getD [] ∈ ms := by rw [List.getElem?_eq_getElem hj]; exact List.getElem_mem hj
  obtain ⟨a, ha, h2⟩ := List.mem_map.1 (h.pm.mem_iff.1 h1)
  exact ⟨a, ha, h2.symm⟩
theorem SylA.hX {n e p : Nat} {zs : List Int} {s : Nat → Bool} {A : List Nat} {ms : List (List Int)} (h : SylA n zs e p s A ms) : ∀ c, c ∈ A.map (fun a => bs (cjq n zs e s a) n) ↔ ∃ a, a < n ∧ fc n zs e s a = c := fun c => by
  constructor
  · intro hc
    obtain ⟨a, ha, h1⟩ := List.mem_map.1 hc
    exact ⟨a, h.lt a ha, h1⟩
  · rintro ⟨a, ha, rfl⟩
    exact h.all a ha
theorem sall_nice (n e p : Nat) (v : Value) (zs : List Int) (w : World) (hv : Sl w v zs) (hg : IsGrp n zs e) (hT : Tab w) (hpr : primeB p = true) :
    Calls Tryd.prog 13 #[.agg #[.int .i64 n, v], .int .i64 p] w fun x w' => ∃ (g c : Nat) (s : Nat → Bool) (A : List Nat) (ms : List (List Int)), x = .returned (.tuple #[.slice (some ⟨g, 0, none⟩) ms.length c, .agg #[.int .i64 0, .int .i64 0]]) ∧ SylA n zs e p s A ms ∧ Rws w' g ms ∧ Below w.heap.size w w' := by
  refine (sall_good n e p v zs w hv hg hT hpr).mono ?_
  rintro x w2 ⟨r1, r2, r3, s, A, ms, rfl, hgr, hA, hnd, hall, hpm, hsr, ⟨B, us, hB, hul, hown, hls⟩, hb2⟩
  have HA : SylA n zs e p s A ms := ⟨hgr, hA, hnd, hall, hpm, hsr⟩
  have hpos := HA.pos hg.elt
  have hl : us.length = ms.length := hls.1
  have hr2 : r2 = ms.length := by rw [← hul, hl]
  subst hr2
  obtain ⟨g, rfl⟩ : ∃ g, r1 = some ⟨g, 0, none⟩ := by
    rcases hown.2 with ⟨h1, h2⟩ | ⟨g', cap, cur, h1, _⟩
    · omega
    · injection h1 with h1; exact ⟨g', h1⟩
  refine ⟨g, r3, s, A, ms, rfl, HA, fun j hj => ?_, hb2⟩
  have hju : j < us.length := by omega
  obtain ⟨a, cap, pb, po, h1, h2, h3, h4, h5, _⟩ := hls.2 j us[j] ms[j] (List.getElem?_eq_getElem hju) (List.getElem?_eq_getElem hj)
  have hc := hown.cells (g := g) rfl j _ (List.getElem?_eq_getElem hju)
  rw [show (⟨g, 0, none⟩ : Addr).add j = ⟨g, j, none⟩ by unfold Addr.add; split <;> simp_all] at hc
  rw [List.getElem?_eq_getElem hj, Option.getD_some]
  rw [h1] at hc
  exact ⟨a, cap, hc, ⟨a, cap, pb, po, rfl, h2, h3, h4, h5⟩⟩
theorem nrmq_pset {n e : Nat} {zs : List Int} {q : Nat → Bool} : nrmq n zs e (pset (li (lst n q))) = nrmq n zs e q := by
  have h1 : lst n (pset (li (lst n q))) = lst n q := lst_pset n q
  have h2 : bs (pset (li (lst n q))) n = bs q n := bs_ext fun a ha => pset_lst ha
  unfold nrmq norq cjq
  rw [h1, h2]
theorem nrm_lst (n e : Nat) (v u : Value) (zs : List Int) (q : Nat → Bool) (w : World) (hv : Sl w v zs) (hg : IsGrp n zs e) (hu : Sl w u (li (lst n q))) (hT : Tab w) (hs : subT n zs e q = true) :
    Calls Tryd.prog 33 #[.agg #[.int .i64 n, v], u] w fun x w' => x = .returned (.tuple #[.bool (nrmq n zs e q), .agg #[.int .i64 0, .int .i64 0]]) ∧ Below w.heap.size w w' := by
  have h := nrm_good n e v u zs (li (lst n q)) w hv hg hu hT (lst_fault n q) ((subT_congr hg fun a ha => pset_lst ha).trans hs)
  rwa [nrmq_pset] at h
/-- A fault that is stored where it lies. -/
theorem store_same {W : World} {b : Nat} {x y : Value} (h0 : W.cell? ⟨b, 0, none⟩ = some x) (h1 : W.cell? ⟨b, 1, none⟩ = some y) : (W.setCell ⟨b, 0, none⟩ x).setCell ⟨b, 1, none⟩ y = W := by
  rw [set_same W b 0 x h0, set_same W b 1 y h1]
end Go.Proofs.YtolbpjjjoafkkaaDoor

namespace Go.Proofs.YtolbpjjjoafkkaaDoor
variable {n e p : Nat} {zs : List Int} {s : Nat → Bool} {A : List Nat} {ms : List (List Int)}

/-- Is the order of a thing a power of p? -/
noncomputable def pwt (n : Nat) (zs : List Int) (e p a : Nat) : Bool := @decide (isPw (ordN n zs e a) p) (Classical.propDecidable _)
theorem pwt_iff {a : Nat} : pwt n zs e p a = true ↔ isPw (ordN n zs e a) p := by unfold pwt; simp
theorem SylA.size (HA : SylA n zs e p s A ms) (g : IsGrp n zs e) {j : Nat} (hj : j < ms.length) : (ms[j]?.getD []).length = (lst n s).length := by
  obtain ⟨a, ha, h⟩ := HA.one hj
  rw [h, li_len, cj_len g (HA.lt a ha)]
theorem SylA.in_one (HA : SylA n zs e p s A ms) {q : Nat → Bool} {a : Nat} (ha : a < n) (h : ∀ x, x < n → q x = true → cjq n zs e s a x = true) : ∃ j b, j < ms.length ∧ b ∈ A ∧ ms[j]?.getD [] = li (lst n (cjq n zs e s b)) ∧ ∀ x, x < n → q x = true → cjq n zs e s b x = true := by
  obtain ⟨b, hb, h1⟩ := List.mem_map.1 (HA.all a ha)
  have h2 : li (lst n (cjq n zs e s b)) ∈ ms := HA.pm.mem_iff.2 (List.mem_map.2 ⟨b, hb, rfl⟩)
  obtain ⟨j, hj, h3⟩ := List.mem_iff_getElem.1 h2
  refine ⟨j, b, hj, hb, by rw [List.getElem?_eq_getElem hj, Option.getD_some, h3], fun x hx hq => ?_⟩
  rw [bs_inj h1 x hx]
  exact h x hx hq
theorem SylA.holds (HA : SylA n zs e p s A ms) (g : IsGrp n zs e) (hpr : primeB p = true) {q : Nat → Bool} (hq : subT n zs e q = true) (hpw : isPw (lst n q).length p) : ∃ j b, j < ms.length ∧ b ∈ A ∧ ms[j]?.getD [] = li (lst n (cjq n zs e s b)) ∧ ∀ x, x < n → q x = true → cjq n zs e s b x = true := by
  obtain ⟨c, a, _, ha, _, h⟩ := syl_in g hpr HA.gr HA.nd HA.hX hq hpw
  exact HA.in_one ha h
theorem SylA.has (HA : SylA n zs e p s A ms) (g : IsGrp n zs e) (hpr : primeB p = true) {a : Nat} (ha : a < n) (h : isPw (ordN n zs e a) p) : ∃ j, j < ms.length ∧ (a : Int) ∈ ms[j]?.getD [] := by
  obtain ⟨j, b, hj, hb, h1, h2⟩ := HA.holds g hpr (q := mk1 n zs e a) (subT_iff.2 (made_sg g (mk1_iff n zs e a))) (by rw [mk1_len g ha]; exact h)
  refine ⟨j, hj, ?_⟩
  rw [h1]
  exact mem_li.2 (mem_lst.2 ⟨ha, h2 a ha ((mk1_iff n zs e a a ha).2 (Fin.Gen.base (List.mem_range.2 ha) (by simp)))⟩)
theorem SylA.cnt (HA : SylA n zs e p s A ms) (g : IsGrp n zs e) (hpr : primeB p = true) : (lst n s).length ∣ (lst n (pwt n zs e p)).length := by
  have hp := prime_of hpr
  obtain ⟨v, hn, hnd⟩ := syl_len g hpr HA.gr HA.nd HA.hX
  obtain ⟨k, hk⟩ := HA.gr.pow
  rw [hk] at hn ⊢
  have hfr := Fin.frob _ _ _ _ (grp_fg g) List.length_range (p ^ k) ⟨_, by rw [Nat.mul_comm]; exact hn⟩
  have hsame : (List.range n).filter (fun x => decide (Fin.po (tm n zs) e x (p ^ k) = e)) = lst n (pwt n zs e p) := Fin.filter_eq fun x hx => by
    have hxl := List.mem_range.1 hx
    rw [Bool.eq_iff_iff, decide_eq_true_eq, pwt_iff, ord_iff g hxl]
    constructor
    · exact fun h => dvd_pw hp k _ h
    · rintro ⟨j, hj⟩
      rw [hj]
      refine pp_dvd hp hnd ?_
      rw [← hn, ← hj, ← mk1_len g hxl]
      exact sub_dvd g (subT_iff.2 (made_sg g (mk1_iff n zs e x)))
  unfold Fin.cnt at hfr
  rw [hsame] at hfr
  exact hfr
theorem lst_up {q : Nat → Bool} {k : Nat} : (lst (k + 1) q).length = (lst k q).length + (if q k = true then 1 else 0) := by
  unfold lst
  rw [List.range_succ, List.filter_append, List.length_append]
  by_cases h : q k = true
  · simp [h]
  · simp [h]
end Go.Proofs.YtolbpjjjoafkkaaDoor

namespace Go.Proofs.YtolbpjjjoafkkaaDoor
variable {n e p : Nat} {zs : List Int} {s : Nat → Bool} {A : List Nat} {ms : List (List Int)}

theorem nd_list {α : Type} (l : List α) : ∃ k : List α, k.Nodup ∧ ∀ x, x ∈ k ↔ x ∈ l := by
  classical
  induction l with
  | nil => exact ⟨[], List.nodup_nil, fun x => Iff.rfl⟩
  | cons a l ih =>
    obtain ⟨k, h1, h2⟩ := ih
    by_cases ha : a ∈ l
    · exact ⟨k, h1, fun x => by rw [h2, List.mem_cons]; exact ⟨Or.inr, fun h => h.elim (fun h => h ▸ ha) id⟩⟩
    · exact ⟨a :: k, List.nodup_cons.2 ⟨fun h => ha ((h2 a).1 h), h1⟩, fun x => by rw [List.mem_cons, List.mem_cons, h2]⟩
/-- All that have as many things as the greatest power of p. -/
theorem grown_len {v j : Nat} (g : IsGrp n zs e) (hpr : primeB p = true) (hG : Grown n zs e p s) (h : v * p ^ j = n) (hv : ¬ p ∣ v) : (lst n s).length = p ^ j := by
  obtain ⟨X, hnd, hX⟩ := nd_list ((List.range n).map fun a => fc n zs e s a)
  obtain ⟨u, h1, h2⟩ := syl_len g hpr hG hnd (fun c => by
    rw [hX, List.mem_map]
    exact ⟨fun ⟨a, ha, hh⟩ => ⟨a, List.mem_range.1 ha, hh⟩, fun ⟨a, ha, hh⟩ => ⟨a, List.mem_range.2 ha, hh⟩⟩)
  obtain ⟨k, hk⟩ := hG.pow
  rw [hk] at h1 ⊢
  exact pp_only (prime_of hpr) hv h2 (by rw [← h1, h])
theorem SylA.modp (HA : SylA n zs e p s A ms) (g : IsGrp n zs e) (hpr : primeB p = true) : ms.length % p = 1 := by
  have h := syl_mod g hpr HA.gr HA.nd HA.hX
  rwa [List.length_map, ← HA.len] at h
theorem SylA.divs (HA : SylA n zs e p s A ms) (g : IsGrp n zs e) (hpr : primeB p = true) : n / (lst n s).length % ms.length = 0 := by
  obtain ⟨v, hn, _⟩ := syl_len g hpr HA.gr HA.nd HA.hX
  rw [List.length_map, ← HA.len] at hn
  have hL1 : 1 ≤ (lst n s).length := (Fin.sg_fg (grp_fg g) (subT_iff.1 HA.gr.sub)).pos
  have h9 : n / (lst n s).length = ms.length * v := Nat.div_eq_of_eq_mul_left hL1 hn
  rw [h9, Nat.mul_mod_right]
theorem SylA.less (HA : SylA n zs e p s A ms) (i j : Nat) (hij : i < j) (hj : j < ms.length) : cmpL (ms[i]?.getD []) (ms[j]?.getD []) < 0 := by
  have h1 := HA.st i j hij hj
  have hnd : ms.Nodup := by
    refine (HA.pm.nodup_iff).2 ?_
    have hk : (A.map fun a => bs (cjq n zs e s a) n) = (A.map fun a => li (lst n (cjq n zs e s a))).map fun l => bs (pset l) n := by
      rw [List.map_map]
      exact List.map_congr_left fun a _ => (bs_ext fun x hx => pset_lst hx).symm
    have hn2 := HA.nd
    rw [hk] at hn2
    exact (List.pairwise_map.1 hn2).imp fun h9 h8 => h9 (by rw [h8])
  have hne : ms[i]?.getD [] ≠ ms[j]?.getD [] := by
    rw [List.getElem?_eq_getElem (by omega), List.getElem?_eq_getElem hj, Option.getD_some, Option.getD_some]
    intro h
    exact List.pairwise_iff_getElem.1 hnd i j (by omega) hj hij h
  have h2 : cmpL (ms[i]?.getD []) (ms[j]?.getD []) ≠ 0 := fun h => hne ((cmpL_zero _ _).1 h)
  rw [cmpL_neg] at h1
  omega
theorem SylA.at (HA : SylA n zs e p s A ms) {a : Nat} (ha : a < n) : ∃ j, j < ms.length ∧ ms[j]?.getD [] = li (lst n (cjq n zs e s a)) := by
  obtain ⟨b, hb, h1⟩ := List.mem_map.1 (HA.all a ha)
  have h2 : li (lst n (cjq n zs e s b)) ∈ ms := HA.pm.mem_iff.2 (List.mem_map.2 ⟨b, hb, rfl⟩)
  obtain ⟨j, hj, h3⟩ := List.mem_iff_getElem.1 h2
  refine ⟨j, hj, ?_⟩
  rw [List.getElem?_eq_getElem hj, Option.getD_some, h3]
  congr 1
  exact lst_congr fun x hx => bs_inj h1 x hx
/-- What the first of them is, moved. -/
def shd (n : Nat) (zs : List Int) (e : Nat) (xs : List Nat) (a : Nat) : List Int := li (lst n (cjl n zs e xs a))
theorem SylA.moved (HA : SylA n zs e p s A ms) (g : IsGrp n zs e) {xs : List Nat} (h0 : ms[0]?.getD [] = li xs) {a : Nat} (ha : a < n) : ∃ j, j < ms.length ∧ shd n zs e xs a = ms[j]?.getD [] := by
  obtain ⟨b, hb, h1⟩ := HA.one (HA.pos g.elt)
  have hxs : xs = lst n (cjq n zs e s b) := li_inj (h0.symm.trans h1)
  subst hxs
  obtain ⟨j, hj, h2⟩ := HA.at (tm_lt g.tab (HA.lt b hb) ha)
  refine ⟨j, hj, ?_⟩
  rw [h2]
  unfold shd
  congr 1
  exact lst_congr fun x hx => bs_inj (cjq_twice g (HA.lt b hb) ha) x hx
theorem SylA.reach (HA : SylA n zs e p s A ms) (g : IsGrp n zs e) {xs : List Nat} (h0 : ms[0]?.getD [] = li xs) {j : Nat} (hj : j < ms.length) : ∃ a, a < n ∧ shd n zs e xs a = ms[j]?.getD [] := by
  obtain ⟨b, hb, h1⟩ := HA.one (HA.pos g.elt)
  have hxs : xs = lst n (cjq n zs e s b) := li_inj (h0.symm.trans h1)
  subst hxs
  obtain ⟨c, hc, h2⟩ := HA.one hj
  have hbn := HA.lt b hb
  have hcn := HA.lt c hc
  obtain ⟨hi, h3, h4, _⟩ := iv_spec g hbn
  have F := grp_fg g
  refine ⟨tm n zs (iv n zs e b) c, tm_lt g.tab hi hcn, ?_⟩
  rw [h2]
  unfold shd
  congr 1
  refine lst_congr fun x hx => ?_
  have h5 := bs_inj (cjq_twice (q := s) g hbn (tm_lt g.tab hi hcn)) x hx
  have h6 : tm n zs b (tm n zs (iv n zs e b) c) = c := by
    rw [← F.ass b (iv n zs e b) c (List.mem_range.2 hbn) (List.mem_range.2 hi) (List.mem_range.2 hcn), h3, F.left c (List.mem_range.2 hcn)]
  rw [h6] at h5
  exact h5
theorem lst_full {q r : Nat → Bool} (h : ∀ x, x < n → q x = true → r x = true) (hl : (lst n q).length = (lst n r).length) : ∀ x, x < n → r x = true → q x = true := fun x hx hr => by
  have h1 : (lst n q).Sublist (lst n r) := by
    have : lst n q = (lst n r).filter q := by
      unfold lst
      rw [List.filter_filter]
      exact Fin.filter_eq fun y hy => by
        cases hq : q y with
        | false => simp
        | true => simp [h y (List.mem_range.1 hy) hq]
    rw [this]
    exact List.filter_sublist
  have h2 := h1.eq_of_length hl
  have h3 : x ∈ lst n q := by rw [h2]; exact mem_lst.2 ⟨hx, hr⟩
  exact (mem_lst.1 h3).2
/-- What is in all of them is what Core answers. -/
theorem SylA.core (HA : SylA n zs e p s A ms) (g : IsGrp n zs e) (hpr : primeB p = true) {s' : Nat → Bool} {A' : List Nat} (hG : Grown n zs e p s') (hA : ∀ a, a ∈ A' → a < n) (hall : ∀ a, a < n → bs (cjq n zs e s' a) n ∈ A'.map fun a => bs (cjq n zs e s' a) n) {x : Nat} (hx : x < n) : cin n zs e s' A' x = true ↔ ∀ j, j < ms.length → (x : Int) ∈ ms[j]?.getD [] := by
  obtain ⟨v, b, hvb, hv⟩ := strip (p := p) (prime_of hpr).1 n (Fin.Fg.pos (grp_fg g) |> fun h => by simpa using h)
  have l1 := grown_len g hpr HA.gr hvb.symm hv
  have l2 := grown_len g hpr hG hvb.symm hv
  obtain ⟨X, hnd, hX0⟩ := nd_list ((List.range n).map fun a => fc n zs e s' a)
  have hX : ∀ c, c ∈ X ↔ ∃ a, a < n ∧ fc n zs e s' a = c := fun c => by
    rw [hX0, List.mem_map]
    exact ⟨fun ⟨a, ha, hh⟩ => ⟨a, List.mem_range.1 ha, hh⟩, fun ⟨a, ha, hh⟩ => ⟨a, List.mem_range.2 ha, hh⟩⟩
  unfold cin
  rw [List.all_eq_true]
  constructor
  · intro h j hj
    obtain ⟨c, hc, h1⟩ := HA.one hj
    have hcn := HA.lt c hc
    rw [h1, mem_li, mem_lst]
    refine ⟨hx, ?_⟩
    obtain ⟨_, a, _, ha, _, h2⟩ := syl_in g hpr hG hnd hX (cj_sg g HA.gr.sub hcn) (by rw [cj_len g hcn]; exact HA.gr.pow)
    refine lst_full h2 (by rw [cj_len g hcn, cj_len g ha, l1, l2]) x hx ?_
    obtain ⟨a', ha', h3⟩ := List.mem_map.1 (hall a ha)
    rw [← bs_inj h3 x hx]
    exact h a' ha'
  · intro h a ha
    have han := hA a ha
    obtain ⟨j, c, hj, hc, h1, h2⟩ := HA.holds g hpr (cj_sg g hG.sub han) (by rw [cj_len g han]; exact hG.pow)
    have hcn := HA.lt c hc
    refine lst_full h2 (by rw [cj_len g hcn, cj_len g han, l1, l2]) x hx ?_
    have h3 := h j hj
    rw [h1, mem_li, mem_lst] at h3
    exact h3.2
end Go.Proofs.YtolbpjjjoafkkaaDoor

namespace Go.Proofs.YtolbpjjjoafkkaaDoor
open Go Go.RowKit

def inall (ms : List (List Int)) (a : Nat) : Bool := ms.all fun l => decide ((a : Int) ∈ l)
theorem inall_iff {ms : List (List Int)} {a : Nat} : inall ms a = true ↔ ∀ j, j < ms.length → (a : Int) ∈ ms[j]?.getD [] := by
  unfold inall
  rw [List.all_eq_true]
  constructor
  · intro h j hj
    rw [List.getElem?_eq_getElem hj, Option.getD_some]
    exact of_decide_eq_true (h _ (List.getElem_mem hj))
  · intro h l hl
    obtain ⟨j, hj, rfl⟩ := List.mem_iff_getElem.1 hl
    have := h j hj
    rw [List.getElem?_eq_getElem hj, Option.getD_some] at this
    exact decide_eq_true this
theorem call25 (a : Int) (x : Value) (W : World) : Sem.run Tryd.prog (callFunc 25 (#[.int .i64 a] ++ #[x])) W = .ok (.enter 25 (#[.int .i64 a] ++ #[x])) W := by kernel_rfl
set_option maxRecDepth 100000 in
set_option maxHeartbeats 4000000 in
theorem sal1_ok (a lb lg lc : Nat) (ms : List (List Int)) (w : World) (hL : Boxed w lb 25 (.slice (some ⟨lg, 0, none⟩) ms.length lc)) (hR : Rws w lg ms) (hm : ms.length ≤ 60) :
    Calls Tryd.prog 25 (#[.int .i64 a] ++ #[.pointer (some ⟨lb, 0, none⟩)]) w fun z w' => z = .returned (.bool (inall ms a)) ∧ Below w.heap.size w w' := by
  show Calls Tryd.prog 25 #[.int .i64 a, .pointer (some ⟨lb, 0, none⟩)] w _
  go_enter Tryd.func25, Tryd.ntmps25
  go_wp2
  go_loopw [4] (fun i wr => ∃ k : Nat, k ≤ ms.length ∧ i = .int .i64 k ∧ (∀ t, t < k → (a : Int) ∈ ms[t]?.getD []) ∧ Below w.heap.size w wr) (fun i _ => ms.length - (intOf i).toNat)
  case atStart => exact ⟨0, Nat.zero_le _, rfl, fun t ht => by omega, Below.refl _ _⟩
  case round =>
    obtain ⟨k, hk, rfl, hno, hB⟩ := hrel
    have HNO := hide hno
    clear hno
    have hLc := (Boxed.below hL hB).cell
    by_cases hlt : k < ms.length
    · have hki : (k : Int) < (ms.length : Int) := by omega
      obtain ⟨a1, a3, ha0, haS⟩ := (hR.below hB) k hlt
      have HHS := hide (rhas_ok _ _ (a : Int) wr haS)
      by_cases hin : (a : Int) ∈ ms[k]?.getD []
      · rw [decide_eq_true hin] at HHS
        have HIN := hide hin
        clear hin haS
        generalize hmt : ms[k]?.getD [] = mt at *
        go_wp2_with fail
        refine HHS.out.mono ?_
        rintro x w6 ⟨rfl, rfl⟩
        go_wp2
        go_roundw
        case rel => exact ⟨k + 1, by omega, by go_num, fun t ht => by
          by_cases e9 : t = k
          · subst e9; rw [hmt]; exact HIN.out
          · exact HNO.out t (by omega), hB⟩
        case measure => simp [intOf]; omega
      · have HD := hide (show inall ms a = false by
          rw [← Bool.not_eq_true]
          exact fun h => hin (inall_iff.1 h k hlt))
        rw [decide_eq_false hin] at HHS
        clear hin haS
        generalize ms[k]?.getD [] = mt at *
        go_wp2_with fail
        refine HHS.out.mono ?_
        rintro x w6 ⟨rfl, rfl⟩
        go_wp2
        go_ret
        exact ⟨by rw [HD.out]; rfl, hB⟩
    · have HD := hide (show inall ms a = true from inall_iff.2 fun j hj => HNO.out j (by omega))
      go_wp2
      go_ret
      exact ⟨by rw [HD.out]; rfl, hB⟩
set_option maxRecDepth 100000 in
set_option maxHeartbeats 8000000 in
theorem sal_bad (N p : Int) (v1 : Option Addr) (v2 v3 : Nat) (zs : List Int) (w : World) (hv : Sl w (.slice v1 v2 v3) zs) (hT : Tab w) (hz : zs.length * 8 ≤ 140737488355328) (hc : (pfault N zs p).1 ≠ 0) :
    Calls Tryd.prog 3 #[.agg #[.int .i64 N, .slice v1 v2 v3], .int .i64 p] w fun e w' => e = .returned (.bool true) ∧ Below w.heap.size w w' := by
  have HOW := hide (fun W (h : Below w.heap.size w W) => ownGroup_any N (.slice v1 v2 v3) zs W (hv.below h) hz)
  have HOP := hide (fun W u (hu : Sl W u zs) => sopen_any N p u zs W hu hc)
  have HAL := hide (fun W u (hu : Sl W u zs) => sall_bad N p _ _ u W hc (fun W9 h9 => HOP.out W9 u (hu.below h9)))
  have HCO := hide (fun W u (hu : Sl W u zs) => score_bad N p _ _ u W hc (fun W9 h9 => HOP.out W9 u (hu.below h9)))
  have HPF := hide (fun W (h : Below w.heap.size w W) => pf_ok N p (.slice v1 v2 v3) zs W (hv.below h))
  generalize pfault N zs p = pf at *
  obtain ⟨c, i⟩ := pf
  simp only at hc HAL HCO HPF
  have hcb : (c != 0) = true := by simpa using hc
  have hB0 : Below w.heap.size w (w.alloc (.cells #[.int .i64 N, .slice v1 v2 v3] 24)) := balloc w _
  have hX0 : BoxG (w.alloc (.cells #[.int .i64 N, .slice v1 v2 v3] 24)) w.heap.size N (.slice v1 v2 v3) := blk0 (w := w) (T := 24) _ _
  obtain ⟨c0, c1, _, _⟩ := hX0.two
  go_enter Tryd.func3, Tryd.ntmps3
  go_wp2_with fail
  clear c0 c1
  generalize w.alloc (.cells #[.int .i64 N, .slice v1 v2 v3] 24) = w0 at *
  refine (HOW.out _ hB0).mono ?_
  rintro x w1 ⟨u, rfl, hu, hb1⟩
  obtain ⟨u1, u2, u3, rfl⟩ := hu.isSlice
  have hB1 := bcat2 hB0 hb1
  have hX1 := blk_below hX0 hb1
  go_wp2_with fail
  refine (HAL.out _ _ hu).mono ?_
  rintro x w2 ⟨rfl, hb2⟩
  obtain ⟨w3, hw3⟩ : ∃ W, W = (w2.alloc (.cells #[.slice none 0 0] 25)).alloc (.cells #[.int .i64 c, .int .i64 i] 27) := ⟨_, rfl⟩
  have hb3 : Below w2.heap.size w2 w3 := by rw [hw3]; exact (balloc w2 _).alloc (by simp) _
  have hL3 : Boxed w3 w2.heap.size 25 (.slice none 0 0) := by rw [hw3]; exact (Boxed.new w2 25 (.slice none 0 0)).alloc _
  have hF3 : Blk w3 (w2.heap.size + 1) 27 [.int .i64 c, .int .i64 i] := by
    have h := blk0 (w := w2.alloc (.cells #[.slice none 0 0] 25)) (T := 27) (.int .i64 c) (.int .i64 i)
    rw [World.size_alloc] at h
    rw [hw3]; exact h
  have hB3 := bcat2 hB1 (bcat2 hb2 hb3)
  have hX3 := blk_below hX1 (bcat2 hb2 hb3)
  obtain ⟨c0, c1, _, _⟩ := hX3.two
  rw [hw3] at c0 c1
  go_wp2_with fail
  rw [← hw3]
  clear hw3 c0 c1 hu
  refine (HOW.out _ hB3).mono ?_
  rintro x w4 ⟨u, rfl, hu, hb4⟩
  obtain ⟨u1, u2, u3, rfl⟩ := hu.isSlice
  go_wp2_with fail
  refine (HCO.out _ _ hu).mono ?_
  rintro x w5 ⟨rfl, hb5⟩
  obtain ⟨w6, hw6⟩ : ∃ W, W = w5.alloc (.cells #[.int .i64 c, .int .i64 i] 27) := ⟨_, rfl⟩
  have hb6 : Below w5.heap.size w5 w6 := by rw [hw6]; exact balloc w5 _
  have hG6 : Blk w6 w5.heap.size 27 [.int .i64 c, .int .i64 i] := by rw [hw6]; exact blk0 _ _
  have hb36 := bcat2 hb4 (bcat2 hb5 hb6)
  have hB6 := bcat2 hB3 hb36
  have hX6 := blk_below hX3 hb36
  have hF6 := blk_below hF3 hb36
  have hL6 := Boxed.below hL3 hb36
  obtain ⟨c0, c1, _, _⟩ := hX6.two
  rw [hw6] at c0 c1
  go_wp2_with fail
  rw [← hw6]
  clear hw6 c0 c1 hu
  refine (HPF.out _ hB6).mono ?_
  rintro x w7 ⟨rfl, hb7⟩
  obtain ⟨w8, hw8⟩ : ∃ W, W = w7.alloc (.cells #[.int .i64 c, .int .i64 i] 27) := ⟨_, rfl⟩
  have hb8 : Below w7.heap.size w7 w8 := by rw [hw8]; exact balloc w7 _
  have hP8 : Blk w8 w7.heap.size 27 [.int .i64 c, .int .i64 i] := by rw [hw8]; exact blk0 _ _
  have hb68 := bcat2 hb7 hb8
  have hB8 := bcat2 hB6 hb68
  go_wp2_with fail
  rw [← hw8]
  clear hw8
  refine (sylowBegun_any _ (hT.below hB8)).mono ?_
  rintro x w9 ⟨rfl, hb9⟩
  have hb69 := bcat2 hb68 hb9
  have hB9 := bcat2 hB6 hb69
  obtain ⟨f0, f1, _, _⟩ := (blk_below hF6 hb69).two
  obtain ⟨g0, g1, _, _⟩ := (blk_below hG6 hb69).two
  obtain ⟨p0, p1, _, _⟩ := (blk_below hP8 hb9).two
  have l0 := (Boxed.below hL6 hb69).cell
  go_wp2
  go_ret
  exact ⟨by simp, hB9⟩
end Go.Proofs.YtolbpjjjoafkkaaDoor

namespace Go.Proofs.YtolbpjjjoafkkaaDoor
open Go Go.RowKit

set_option maxRecDepth 100000 in
set_option maxHeartbeats 8000000 in
theorem closed_ok (n e : Nat) (v u : Value) (zs : List Int) (xs : List Nat) (w : World) (hv : Sl w v zs) (hg : IsGrp n zs e) (hu : Sl w u (li xs)) (hx : ∀ x, x ∈ xs → x < n) (hxl : xs.length ≤ 100000) :
    Calls Tryd.prog 20 #[.agg #[.int .i64 n, v], u] w fun x w' => x = .returned (.bool (subT n zs e fun a => decide (a ∈ xs))) ∧ Below w.heap.size w w' := by
  have hsub := subT_iff (n := n) (zs := zs) (e := e) (q := fun a => decide (a ∈ xs))
  have hB0 : Below w.heap.size w (w.alloc (.cells #[.int .i64 n, v] 24)) := balloc w _
  have hX0 : BoxG (w.alloc (.cells #[.int .i64 n, v] 24)) w.heap.size n v := blk0 _ _
  obtain ⟨w0, hw0⟩ : ∃ w0, w0 = w.alloc (.cells #[.int .i64 n, v] 24) := ⟨_, rfl⟩
  rw [← hw0] at hB0 hX0
  obtain ⟨c0, c1, _, _⟩ := hX0.two
  rw [hw0] at c0 c1
  obtain ⟨ua, ucap, pb, po, rfl, hur, hup, huq, hum⟩ := id hu
  have HUR := hide hur
  have HX := hide hx
  have HE := hide (E_ok n v zs w0 hg.tab (hv.below hB0))
  rw [hg.one] at HE
  have HHS := hide (fun a W (h : Below w.heap.size w W) => has_sl _ xs a W (hu.below h))
  have HSUB := hide hsub
  have hFg := grp_fg hg
  clear hur hx hum hsub
  rw [li_len] at *
  have HUL := hide (li_len xs)
  go_enter Tryd.func20, Tryd.ntmps20
  go_wp2_with fail
  rw [← hw0]
  clear hw0 c0 c1
  refine HE.out.mono ?_
  rintro x9 w1 ⟨rfl, hb1⟩
  have hB1 := bcat2 hB0 hb1
  go_wp2_with fail
  refine (HHS.out e w1 hB1).mono ?_
  by_cases hee : e ∈ xs
  · rw [decide_eq_true hee]
    rintro x9 w2 ⟨rfl, hb2⟩
    have hB2 := bcat2 hB1 hb2
    have hX2 := blk_below hX0 (bcat2 hb1 hb2)
    go_wp2
    go_loopw [5] (fun i wr => ∃ k : Nat, k ≤ xs.length ∧ i = .int .i64 k ∧ (∀ t, (ht : t < xs.length) → t < k → ∀ y, y ∈ xs → tm n zs xs[t] y ∈ xs) ∧ Below w2.heap.size w2 wr) (fun i _ => xs.length - (intOf i).toNat)
    case atStart => exact ⟨0, Nat.zero_le _, rfl, fun t _ ht => by omega, Below.refl _ _⟩
    case round =>
      obtain ⟨k, hk, rfl, hno, hB⟩ := hrel
      have HNO := hide hno
      clear hno
      have hBw := bcat2 hB2 hB
      by_cases hlt : k < xs.length
      · have hck := (HUR.out.below hBw hup).cell k (by rw [HUL.out]; exact hlt)
        rw [li_get hlt] at hck
        obtain rfl := HUR.out.at_ (by rw [HUL.out]; omega)
        obtain ⟨x, hxe⟩ : ∃ x, xs[k] = x := ⟨_, rfl⟩
        have hxm : x ∈ xs := by rw [← hxe]; exact List.getElem_mem hlt
        have hxn : x < n := HX.out _ hxm
        rw [hxe] at hck
        have HXE := hide hxe
        clear hxe
        have hki : (k : Int) < (xs.length : Int) := by omega
        obtain ⟨g0, g1, _, _⟩ := (blk_below hX2 hB).two
        obtain ⟨hin, hi1, _, _⟩ := iv_spec hg hxn
        have hvr := hv.below hBw
        have HI := hide (fun W (h : Below wr.heap.size wr W) => Iiv_ok n x e v zs W hg (hvr.below h) hxn)
        have HH := hide (fun W (h : Below wr.heap.size wr W) => HHS.out (iv n zs e x) W (bcat2 hBw h))
        have hS : ∀ W, Below wr.heap.size wr W → (Below wr.heap.size wr W ∧ W.cell? ⟨w.heap.size, 0, none⟩ = some (.int .i64 n) ∧ W.cell? ⟨w.heap.size, 1, none⟩ = some v ∧ W.cell? ⟨pb, po + k, none⟩ = some (.int .i64 x)) := fun W h => ⟨h, below_cell h g0, below_cell h g1, below_cell h hck⟩
        have hS0 := hS _ (bdrew (Below.refl _ wr))
        by_cases hiin : iv n zs e x ∈ xs
        · rw [decide_eq_true hiin] at HH
          clear hi1 hin
          generalize iv n zs e x = i at *
          go_wp2_with fail
          go_region_held3 (fun W => Below wr.heap.size wr W ∧ W.cell? ⟨w.heap.size, 0, none⟩ = some (.int .i64 n) ∧ W.cell? ⟨w.heap.size, 1, none⟩ = some v ∧ W.cell? ⟨pb, po + k, none⟩ = some (.int .i64 x))
            (first | exact hS0 | assumption | exact hS _ (bcat2 (And.left ‹_›) hl1))
            (first
              | (go_at_call 64; refine (HI.out _ (And.left ‹_›)).mono ?_; rintro e1 U1 ⟨rfl, hl1⟩)
              | (go_at_call 26; refine (HH.out _ (And.left ‹_›)).mono ?_; rintro e2 U2 ⟨rfl, hl1⟩))
          have hB9 := And.left ‹Below wr.heap.size wr U2 ∧ _›
          clear hS hS0 HH HI hl1
          have hB3 := bcat2 hB hB9
          have hX3 := blk_below hX2 hB3
          have hck3 := below_cell hB9 hck
          go_wp2
          clear g0 g1 hck
          go_loopw [6] (fun i wr' => ∃ j : Nat, j ≤ xs.length ∧ i = .int .i64 j ∧ (∀ t, (ht : t < xs.length) → t < j → tm n zs x xs[t] ∈ xs) ∧ Below U2.heap.size U2 wr') (fun i _ => xs.length - (intOf i).toNat)
          case atStart => exact ⟨0, Nat.zero_le _, rfl, fun t _ ht => by omega, Below.refl _ _⟩
          case round =>
            obtain ⟨j, hj, rfl, hnj, hBj⟩ := hrel
            have HNJ := hide hnj
            clear hnj
            have hBw := bcat2 hB2 (bcat2 hB3 hBj)
            have hck := below_cell hBj hck3
            by_cases hltj : j < xs.length
            · have hcj := (HUR.out.below hBw hup).cell j (by rw [HUL.out]; exact hltj)
              rw [li_get hltj] at hcj
              obtain ⟨y, hye⟩ : ∃ y, xs[j] = y := ⟨_, rfl⟩
              have hym : y ∈ xs := by rw [← hye]; exact List.getElem_mem hltj
              have hyn : y < n := HX.out _ hym
              rw [hye] at hcj
              have HYE := hide hye
              clear hye
              have hji : (j : Int) < (xs.length : Int) := by omega
              obtain ⟨g0, g1, _, _⟩ := (blk_below hX3 hBj).two
              have hvr := hv.below hBw
              have HMM := hide (fun W (h : Below wr.heap.size wr W) => M_ok n v zs x y W hg.tab (hvr.below h) hxn hyn)
              have HH := hide (fun W (h : Below wr.heap.size wr W) => HHS.out (tm n zs x y) W (bcat2 hBw h))
              have hS : ∀ W, Below wr.heap.size wr W → (Below wr.heap.size wr W ∧ W.cell? ⟨w.heap.size, 0, none⟩ = some (.int .i64 n) ∧ W.cell? ⟨w.heap.size, 1, none⟩ = some v ∧ W.cell? ⟨pb, po + k, none⟩ = some (.int .i64 x) ∧ W.cell? ⟨pb, po + j, none⟩ = some (.int .i64 y)) := fun W h => ⟨h, below_cell h g0, below_cell h g1, below_cell h hck, below_cell h hcj⟩
              have hS0 := hS _ (bdrew (Below.refl _ wr))
              by_cases htin : tm n zs x y ∈ xs
              · rw [decide_eq_true htin] at HH
                have HTQ := hide htin
                obtain ⟨t, ht⟩ : ∃ t, tm n zs x y = t := ⟨_, rfl⟩
                rw [ht] at HMM HH
                clear ht htin
                go_wp2_with fail
                go_region_held3 (fun W => Below wr.heap.size wr W ∧ W.cell? ⟨w.heap.size, 0, none⟩ = some (.int .i64 n) ∧ W.cell? ⟨w.heap.size, 1, none⟩ = some v ∧ W.cell? ⟨pb, po + k, none⟩ = some (.int .i64 x) ∧ W.cell? ⟨pb, po + j, none⟩ = some (.int .i64 y))
                  (first | exact hS0 | assumption | exact hS _ (bcat2 (And.left ‹_›) hl1))
                  (first
                    | (go_at_call 65; refine (HMM.out _ (And.left ‹_›)).mono ?_; rintro e1 U1 ⟨rfl, hl1⟩)
                    | (go_at_call 26; refine (HH.out _ (And.left ‹_›)).mono ?_; rintro e2 U2 ⟨rfl, hl1⟩))
                have hB9 := And.left ‹Below wr.heap.size wr U2 ∧ _›
                clear hS hS0 HH HMM hl1
                go_wp2
                go_roundw
                case rel => exact ⟨j + 1, by omega, by go_num, fun t9 h1 h2 => by
                  by_cases e9 : t9 = j
                  · subst e9; rw [HYE.out]; exact HTQ.out
                  · exact HNJ.out t9 h1 (by omega), bcat2 hBj hB9⟩
                case measure => simp [intOf]; omega
              · rw [decide_eq_false htin] at HH
                have HD := hide (show (subT n zs e fun a => decide (a ∈ xs)) = false by
                  rw [← Bool.not_eq_true]
                  intro h
                  exact htin (by simpa using (HSUB.out.1 h).mul x y (List.mem_range.2 hxn) (List.mem_range.2 hyn) (by simpa using hxm) (by simpa using hym)))
                clear htin
                generalize tm n zs x y = t at *
                go_wp2_with fail
                go_region_held3 (fun W => Below wr.heap.size wr W ∧ W.cell? ⟨w.heap.size, 0, none⟩ = some (.int .i64 n) ∧ W.cell? ⟨w.heap.size, 1, none⟩ = some v ∧ W.cell? ⟨pb, po + k, none⟩ = some (.int .i64 x) ∧ W.cell? ⟨pb, po + j, none⟩ = some (.int .i64 y))
                  (first | exact hS0 | assumption | exact hS _ (bcat2 (And.left ‹_›) hl1))
                  (first
                    | (go_at_call 65; refine (HMM.out _ (And.left ‹_›)).mono ?_; rintro e1 U1 ⟨rfl, hl1⟩)
                    | (go_at_call 26; refine (HH.out _ (And.left ‹_›)).mono ?_; rintro e2 U2 ⟨rfl, hl1⟩))
                have hB9 := And.left ‹Below wr.heap.size wr U2 ∧ _›
                go_wp2
                go_ret
                exact ⟨by rw [HD.out]; rfl, bcat2 hBw hB9⟩
            · go_wp2
              go_roundw
              case rel => exact ⟨k + 1, by omega, by go_num, fun t h1 h2 y hy => by
                by_cases e9 : t = k
                · subst e9
                  obtain ⟨t9, h9, rfl⟩ := List.mem_iff_getElem.1 hy
                  rw [HXE.out]; exact HNJ.out t9 h9 (by omega)
                · exact HNO.out t h1 (by omega) y hy, bcat2 hB3 hBj⟩
              case measure => simp [intOf]; omega
        · rw [decide_eq_false hiin] at HH
          have HD := hide (show (subT n zs e fun a => decide (a ∈ xs)) = false by
            rw [← Bool.not_eq_true]
            intro h
            exact hiin (by simpa using (HSUB.out.1 h).inv hFg (List.mem_range.2 hxn) (List.mem_range.2 hin) hi1 (by simpa using hxm)))
          clear hiin hi1 hin
          generalize iv n zs e x = i at *
          go_wp2_with fail
          go_region_held3 (fun W => Below wr.heap.size wr W ∧ W.cell? ⟨w.heap.size, 0, none⟩ = some (.int .i64 n) ∧ W.cell? ⟨w.heap.size, 1, none⟩ = some v ∧ W.cell? ⟨pb, po + k, none⟩ = some (.int .i64 x))
            (first | exact hS0 | assumption | exact hS _ (bcat2 (And.left ‹_›) hl1))
            (first
              | (go_at_call 64; refine (HI.out _ (And.left ‹_›)).mono ?_; rintro e1 U1 ⟨rfl, hl1⟩)
              | (go_at_call 26; refine (HH.out _ (And.left ‹_›)).mono ?_; rintro e2 U2 ⟨rfl, hl1⟩))
          have hB9 := And.left ‹Below wr.heap.size wr U2 ∧ _›
          go_wp2
          go_ret
          exact ⟨by rw [HD.out]; rfl, bcat2 hBw hB9⟩
      · have HD := hide (show (subT n zs e fun a => decide (a ∈ xs)) = true by
          rw [HSUB.out]
          refine ⟨by simpa using hee, fun a b _ _ h1 h2 => ?_⟩
          have h1 : a ∈ xs := by simpa using h1
          have h2 : b ∈ xs := by simpa using h2
          obtain ⟨t, ht, rfl⟩ := List.mem_iff_getElem.1 h1
          simpa using HNO.out t ht (by omega) b h2)
        go_wp2
        go_ret
        exact ⟨by rw [HD.out]; rfl, hBw⟩
  · rw [decide_eq_false hee]
    rintro x9 w2 ⟨rfl, hb2⟩
    have HD := hide (show (subT n zs e fun a => decide (a ∈ xs)) = false by
      rw [← Bool.not_eq_true]
      intro h
      exact hee (by simpa using (HSUB.out.1 h).one))
    go_wp2
    go_ret
    exact ⟨by rw [HD.out]; rfl, bcat2 hB1 hb2⟩
end Go.Proofs.YtolbpjjjoafkkaaDoor

namespace Go.Proofs.YtolbpjjjoafkkaaDoor
open Go Go.RowKit

set_option maxRecDepth 100000 in
set_option maxHeartbeats 4000000 in
theorem rcj_ok (n e a b : Nat) (v : Value) (zs : List Int) (w : World) (g : IsGrp n zs e) (hv : Sl w v zs) (ha : a < n) (hb : b < n) :
    Calls Tryd.prog 67 #[.agg #[.int .i64 n, v], .int .i64 a, .int .i64 b] w fun x w' => x = .returned (.int .i64 (Fin.cj (tm n zs) (iv n zs e) a b)) ∧ Below w.heap.size w w' := by
  have hB0 : Below w.heap.size w (w.alloc (.cells #[.int .i64 n, v] 24)) := balloc w _
  have hX0 : BoxG (w.alloc (.cells #[.int .i64 n, v] 24)) w.heap.size n v := blk0 _ _
  obtain ⟨w0, hw0⟩ : ∃ w0, w0 = w.alloc (.cells #[.int .i64 n, v] 24) := ⟨_, rfl⟩
  rw [← hw0] at hB0 hX0
  have hv0 := hv.below hB0
  obtain ⟨c0, c1, _, _⟩ := hX0.two
  obtain ⟨hib, _, _, _⟩ := iv_spec g hb
  have hab := tm_lt g.tab ha hb
  show Calls Tryd.prog 67 _ w fun x w' => x = .returned (.int .i64 (tm n zs (iv n zs e b) (tm n zs a b))) ∧ Below w.heap.size w w'
  have HI := hide (fun W x (h : Below w0.heap.size w0 W) (hx : x < n) => Iiv_ok n x e v zs W g (hv0.below h) hx)
  have HM := hide (fun W x y (h : Below w0.heap.size w0 W) (hx : x < n) (hy : y < n) => M_ok n v zs x y W g.tab (hv0.below h) hx hy)
  have hS : ∀ W, Below w0.heap.size w0 W → (Below w0.heap.size w0 W ∧ W.cell? ⟨w.heap.size, 0, none⟩ = some (.int .i64 n) ∧ W.cell? ⟨w.heap.size, 1, none⟩ = some v) := fun W h => ⟨h, below_cell h c0, below_cell h c1⟩
  have hS0 := hS _ (bdrew (Below.refl _ w0))
  clear c0 c1
  go_enter Tryd.func67, Tryd.ntmps67
  go_wp2_with fail
  rw [← hw0]
  clear hw0
  go_region_held3 (fun W => Below w0.heap.size w0 W ∧ W.cell? ⟨w.heap.size, 0, none⟩ = some (.int .i64 n) ∧ W.cell? ⟨w.heap.size, 1, none⟩ = some v)
    (first | exact hS0 | assumption | exact hS _ (bcat2 (And.left ‹_›) hl1))
    (first
      | (go_at_call 64; refine (HI.out _ _ (And.left ‹_›) (by assumption)).mono ?_; rintro e1 U1 ⟨rfl, hl1⟩)
      | (go_at_call 65; refine (HM.out _ _ _ (And.left ‹_›) (by assumption) (by assumption)).mono ?_; rintro e1 U1 ⟨rfl, hl1⟩))
  all_goals (
    have hB9 := And.left ‹Below w0.heap.size w0 U1 ∧ _›
    clear hS hS0
    go_wp2
    go_ret
    exact ⟨rfl, bcat2 hB0 hB9⟩)
theorem rcj_lt {n e x a : Nat} {zs : List Int} (g : IsGrp n zs e) (hx : x < n) (ha : a < n) : Fin.cj (tm n zs) (iv n zs e) x a < n := List.mem_range.1 (Fin.cj_mem (grp_fg g) (grp_iv g) (List.mem_range.2 hx) (List.mem_range.2 ha))
theorem call96 (a : Int) (x y z : Value) (W : World) : Sem.run Tryd.prog (callFunc 66 (#[.int .i64 a] ++ #[x, y, z])) W = .ok (.enter 66 (#[.int .i64 a] ++ #[x, y, z])) W := by kernel_rfl
set_option maxRecDepth 100000 in
set_option maxHeartbeats 4000000 in
theorem shf1_ok (n e y a lb gb ab : Nat) (v lv : Value) (zs : List Int) (xs : List Nat) (w : World) (g : IsGrp n zs e) (hv : Sl w v zs) (ha : a < n) (hL : Boxed w lb 22 lv) (hsL : Sl w lv (li xs)) (hX : BoxG w gb n v) (hA : Boxed w ab 3 (.int .i64 a)) (hm : ∀ x, x ∈ xs → x < n) :
    Calls Tryd.prog 66 (#[.int .i64 y] ++ #[.pointer (some ⟨lb, 0, none⟩), .pointer (some ⟨gb, 0, none⟩), .pointer (some ⟨ab, 0, none⟩)]) w fun z w' => z = .returned (.bool (cjl n zs e xs a y)) ∧ Below w.heap.size w w' := by
  show Calls Tryd.prog 66 #[.int .i64 y, .pointer (some ⟨lb, 0, none⟩), .pointer (some ⟨gb, 0, none⟩), .pointer (some ⟨ab, 0, none⟩)] w _
  obtain ⟨la, cap, pb, po, rfl, hr, hp, hq3, hq4⟩ := hsL
  have hml : xs.length ≤ 9223372036854775807 := by rw [li_len] at hq3; unfold maxLen at hq4; omega
  rw [li_len] at *
  have HR := hide hr
  have HLL := hide (li_len xs)
  have HM9 := hide hm
  clear hr hq3 hq4 hm
  go_enter Tryd.func66, Tryd.ntmps66
  go_wp2
  go_loopw [6] (fun i wr => ∃ k : Nat, k ≤ xs.length ∧ i = .int .i64 k ∧ (∀ t, (ht : t < xs.length) → t < k → ¬ Fin.cj (tm n zs) (iv n zs e) xs[t] a = y) ∧ Below w.heap.size w wr) (fun i _ => xs.length - (intOf i).toNat)
  case atStart => exact ⟨0, Nat.zero_le _, rfl, fun t _ ht => by omega, Below.refl _ _⟩
  case round =>
    obtain ⟨k, hk, rfl, hno, hBw⟩ := hrel
    have HNO := hide hno
    clear hno
    have hLc := (Boxed.below hL hBw).cell
    by_cases hlt : k < xs.length
    · have hck := (HR.out.below hBw hp).cell k (by rw [HLL.out]; exact hlt)
      rw [li_get hlt] at hck
      obtain rfl := HR.out.at_ (by rw [HLL.out]; omega)
      obtain ⟨x, hxe⟩ : ∃ x, xs[k] = x := ⟨_, rfl⟩
      have hxn : x < n := by rw [← hxe]; exact HM9.out _ (List.getElem_mem hlt)
      rw [hxe] at hck
      have HXE := hide hxe
      clear hxe
      have HC := hide (fun W (h : Below wr.heap.size wr W) => rcj_ok n e x a v zs W g ((hv.below hBw).below h) hxn ha)
      obtain ⟨g0, g1, _, _⟩ := (blk_below hX hBw).two
      have a0 := (Boxed.below hA hBw).cell
      have hki : (k : Int) < (xs.length : Int) := by omega
      have hS : ∀ W, Below wr.heap.size wr W → (Below wr.heap.size wr W ∧ W.cell? ⟨lb, 0, none⟩ = some (.slice (some ⟨pb, po, none⟩) xs.length cap) ∧ W.cell? ⟨gb, 0, none⟩ = some (.int .i64 n) ∧ W.cell? ⟨gb, 1, none⟩ = some v ∧ W.cell? ⟨ab, 0, none⟩ = some (.int .i64 a) ∧ W.cell? ⟨pb, po + k, none⟩ = some (.int .i64 x)) := fun W h => ⟨h, below_cell h hLc, below_cell h g0, below_cell h g1, below_cell h a0, below_cell h hck⟩
      have hS0 := hS _ (bdrew (Below.refl _ wr))
      clear hck g0 g1 a0
      by_cases heq : Fin.cj (tm n zs) (iv n zs e) x a = y
      · have HD := hide (show cjl n zs e xs a y = true by
          unfold cjl
          rw [List.any_eq_true]
          exact ⟨xs[k], List.getElem_mem hlt, by rw [HXE.out]; simpa using heq⟩)
        rw [heq] at HC
        go_wp2_with fail
        go_region_held3 (fun W => Below wr.heap.size wr W ∧ W.cell? ⟨lb, 0, none⟩ = some (.slice (some ⟨pb, po, none⟩) xs.length cap) ∧ W.cell? ⟨gb, 0, none⟩ = some (.int .i64 n) ∧ W.cell? ⟨gb, 1, none⟩ = some v ∧ W.cell? ⟨ab, 0, none⟩ = some (.int .i64 a) ∧ W.cell? ⟨pb, po + k, none⟩ = some (.int .i64 x))
          (first | exact hS0 | assumption | exact hS _ (bcat2 (And.left ‹_›) hl1))
          (first | (go_at_call 67; refine (HC.out _ (And.left ‹_›)).mono ?_; rintro e3 W3 ⟨rfl, hl1⟩))
        all_goals (
          have hB9 := And.left ‹Below wr.heap.size wr W3 ∧ _›
          go_wp2
          go_ret
          exact ⟨by rw [HD.out]; first | rfl | simp, bcat hBw hB9 hBw.size⟩)
      · have HN := hide (show ∀ t, (ht : t < xs.length) → t < k + 1 → ¬ Fin.cj (tm n zs) (iv n zs e) xs[t] a = y from fun t h1 h2 => by
          by_cases e9 : t = k
          · subst e9; rw [HXE.out]; exact heq
          · exact HNO.out t h1 (by omega))
        generalize Fin.cj (tm n zs) (iv n zs e) x a = c at *
        have hci : ¬ (c : Int) = (y : Int) := by omega
        go_wp2_with fail
        go_region_held3 (fun W => Below wr.heap.size wr W ∧ W.cell? ⟨lb, 0, none⟩ = some (.slice (some ⟨pb, po, none⟩) xs.length cap) ∧ W.cell? ⟨gb, 0, none⟩ = some (.int .i64 n) ∧ W.cell? ⟨gb, 1, none⟩ = some v ∧ W.cell? ⟨ab, 0, none⟩ = some (.int .i64 a) ∧ W.cell? ⟨pb, po + k, none⟩ = some (.int .i64 x))
          (first | exact hS0 | assumption | exact hS _ (bcat2 (And.left ‹_›) hl1))
          (first | (go_at_call 67; refine (HC.out _ (And.left ‹_›)).mono ?_; rintro e3 W3 ⟨rfl, hl1⟩))
        all_goals (
          have hB9 := And.left ‹Below wr.heap.size wr W3 ∧ _›
          go_wp2
          go_roundw
          case rel => exact ⟨k + 1, by omega, by go_num, HN.out, bcat hBw hB9 hBw.size⟩
          case measure => simp [intOf]; omega)
    · have HD := hide (show cjl n zs e xs a y = false by
        unfold cjl
        rw [List.any_eq_false]
        intro z hz
        obtain ⟨t, ht, rfl⟩ := List.mem_iff_getElem.1 hz
        simpa using HNO.out t ht (by omega))
      go_wp2
      go_ret
      exact ⟨by rw [HD.out]; rfl, hBw⟩
set_option maxRecDepth 100000 in
set_option maxHeartbeats 4000000 in
theorem shf_ok (n e a : Nat) (v lv : Value) (zs : List Int) (xs : List Nat) (w : World) (g : IsGrp n zs e) (hv : Sl w v zs) (ha : a < n) (hsL : Sl w lv (li xs)) (hm : ∀ x, x ∈ xs → x < n) :
    Calls Tryd.prog 22 #[.agg #[.int .i64 n, v], lv, .int .i64 a] w fun x w' => ∃ r, x = .returned r ∧ Row w' w.heap.size r (li (lst n (cjl n zs e xs a))) ∧ Below w.heap.size w w' := by
  obtain ⟨l1, l2, l3, rfl⟩ := hsL.isSlice
  obtain ⟨w0, hw0⟩ : ∃ w0, w0 = ((w.alloc (.cells #[.int .i64 n, v] 24)).alloc (.cells #[.slice l1 l2 l3] 22)).alloc (.cells #[.int .i64 a] 3) := ⟨_, rfl⟩
  have hB0 : Below w.heap.size w w0 := by rw [hw0]; exact ((balloc w _).alloc (by simp) _).alloc (by simp; omega) _
  have hX0 : BoxG w0 w.heap.size n v := by rw [hw0]; exact ((blk0 (w := w) (T := 24) _ _).alloc _).alloc _
  have hL0 : Boxed w0 (w.heap.size + 1) 22 (.slice l1 l2 l3) := by
    have h := (Boxed.new (w.alloc (.cells #[.int .i64 n, v] 24)) 22 (.slice l1 l2 l3)).alloc (.cells #[.int .i64 a] 3)
    rw [World.size_alloc] at h
    rw [hw0]; exact h
  have hA0 : Boxed w0 (w.heap.size + 1 + 1) 3 (.int .i64 a) := by
    have h := Boxed.new ((w.alloc (.cells #[.int .i64 n, v] 24)).alloc (.cells #[.slice l1 l2 l3] 22)) 3 (.int .i64 a)
    rw [World.size_alloc, World.size_alloc] at h
    rw [hw0]; exact h
  obtain ⟨c0, c1, _, _⟩ := hX0.two
  rw [hw0] at c0 c1
  go_enter Tryd.func22, Tryd.ntmps22
  go_wp2_with fail
  rw [← hw0]
  clear hw0 c0 c1
  refine (rthose_ok n 66 v _ (cjl n zs e xs a) w0 g.tab.le (fun a W => call96 a _ _ _ W) (fun W x hW hx => shf1_ok n e x a (w.heap.size + 1) w.heap.size (w.heap.size + 1 + 1) v (.slice l1 l2 l3) zs xs W g ((hv.below hB0).below hW) ha (Boxed.below hL0 hW) ((hsL.below hB0).below hW) (blk_below hX0 hW) (Boxed.below hA0 hW) hm)).mono ?_
  rintro x w1 ⟨r, rfl, hr, hb1⟩
  go_wp2
  go_ret
  exact ⟨_, rfl, owns_mono hr hB0.size, bcat2 hB0 hb1⟩

end Go.Proofs.YtolbpjjjoafkkaaDoor
