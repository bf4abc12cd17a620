/- Package sub and coset again: sets that came in, Made, Is, Normal, Closure, cosets. Condition: the library's table of places lies as its text lays it. What All answers, as laws read it; Normal at a list of a set. Condition: the library's table of places lies as its text lays it. Sylow's theorems about what All answers: each thing whose order is a power of p is in one of them, all have as many things, and how many things have such an order is a multiple of that. No condition. Normaliser at a subgroup. Condition: the library's table of places lies as its text lays it. The law SylowHolds: at every table, every number and every list it returns true. Condition: the library's table of places lies as its text lays it. The frame that all rows of this family share: how a table that came in reads. The frame that all rows of this family share: what the listed table gives a walk; how a list of ints that came in reads. -/
import Derived.Test.YtolbpjjjoafkkaaDoorZ6
import Derived.Test.YtolbpjjjoafkkaaDoorZ4
import Derived.Test.YtolbpjjjoafkkaaDoorZ3
import Derived.BigQuiet
import Derived.Deep.AppendLies
import Derived.Deep.DeepCutAuto
import Derived.Deep.RegionLaw
import Derived.Laws.EntriesVeiled
import Derived.Maps.AppendAt
import Derived.Maps.Ext
import Derived.Maps.OwnOps
import Derived.Maps.OwnSet
import Derived.Test.YtolbpjjjoafkkaaDoorRows
import Derived.Test.YtolbpjjjoafkkaaDoorZ1
import Derived.ProofKit
import Derived.OpenShut
import Derived.ChangeOld
import Derived.Below
import Derived.SizedLaws
import Derived.LaidMore
import Derived.Stop.Joined
import Derived.Stop.LaidErr
import Derived.Lib.LaidTab
namespace Go.Proofs.YtolbpjjjoafkkaaDoor
open Go Go.RowKit Go.Maps

set_option maxRecDepth 100000 in
set_option maxHeartbeats 4000000 in
theorem setOf_any (n : Nat) (v : Value) (ls : List Int) (w : World) (hn : n ≤ 60) (hv : Sl w v ls) :
    Calls Tryd.prog 99 #[.int .i64 n, v] w fun x w' => x = .returned (.tuple #[.int .u64 (okN (lfault n ls).1 (bs (pset ls) n)), .agg #[.int .i64 (lfault n ls).1, .int .i64 (lfault n ls).2]]) ∧ Below w.heap.size w w' := by
  have hB0 : Below w.heap.size w (w.alloc (.cells #[.int .i64 0, .int .i64 0] 27)) := balloc w _
  have hR0 := Two.new w
  have hv0 := hv.below hB0
  obtain ⟨a, cap, pb, po, rfl, hrw0, hpw0, hq3, hq4⟩ := id hv
  have HRW := hide hrw0
  have HPB := hide hpw0
  have hr := hrw0.below hB0 hpw0
  have hp := Nat.lt_of_lt_of_le hpw0 hB0.size
  clear hrw0 hpw0
  obtain ⟨_, y0, y1, fy0, fy1, s0, s1⟩ := id hR0
  by_cases hmany : n < ls.length
  · have hR6 : Blk ((w.alloc (.cells #[.int .i64 0, .int .i64 0] 27)).setCell ⟨w.heap.size, 0, none⟩ (.int .i64 2)) w.heap.size 27 [.int .i64 2, .int .i64 0] := hR0.blk.set 0 _
    have hB6 : Below w.heap.size w ((w.alloc (.cells #[.int .i64 0, .int .i64 0] 27)).setCell ⟨w.heap.size, 0, none⟩ (.int .i64 2)) := hB0.setCell (p := ⟨w.heap.size, 0, none⟩) (by simp) _
    rw [lfault_many hmany]
    have hmi : (n : Int) < (ls.length : Int) := by omega
    go_enter Tryd.func99, Tryd.ntmps99
    go_wp2
    have hR7 := blk0 (w := w) (T := 27) (.int .i64 2) (.int .i64 0)
    obtain ⟨z0, z1, _, _⟩ := hR7.two
    exact bodyPost_ret (v := .tuple #[.int .u64 0, .agg #[.int .i64 2, .int .i64 0]]) (by simp [results, Tryd.results99, go_sem, z0, z1]) rfl ⟨rfl, balloc w _⟩
  · have hle : ls.length ≤ n := by omega
    have hmi : ¬ (n : Int) < (ls.length : Int) := by omega
    have HV := hide hv
    clear y0 y1 fy0 fy1 s0 s1 hv0 hv
    go_enter Tryd.func99, Tryd.ntmps99
    go_wp2
    go_loopw [15] (fun i wr => ∃ k : Nat, k ≤ ls.length ∧ i = .int .i64 k ∧ (∀ t, t < k → (rbad n ls t || fbad ls t) = false) ∧ Two wr w.heap.size ∧ Below w.heap.size w wr) (fun i _ => ls.length - (intOf i).toNat)
    case atStart => exact ⟨0, Nat.zero_le _, rfl, fun t ht => by omega, hR0, hB0⟩
    case round =>
      obtain ⟨k, hk, rfl, hno, hR, hB⟩ := hrel
      have HNO := hide hno
      clear hno
      obtain ⟨_, y0, y1, fy0, fy1, s0, s1⟩ := id hR
      have hrw : Reads wr a pb po ls := by
        exact HRW.out.below hB HPB.out
      by_cases hlt : k < ls.length
      · have hck := hrw.cell k hlt
        obtain rfl := hrw.at_ (by omega)
        obtain ⟨c, hc⟩ : ∃ c, ls[k]?.getD 0 = c := ⟨_, rfl⟩
        rw [hc] at hck
        have hki : (k : Int) < (ls.length : Int) := by omega
        by_cases hc0 : c < 0
        · have HLF := hide (lfault_r hle hlt HNO.out (by unfold rbad; rw [hc]; simp [hc0]))
          clear hc hrw hr
          obtain ⟨hR9, hB9⟩ := put2 hR.blk hB (Nat.le_refl _) 3 k
          go_wp2
          generalize (wr.setCell ⟨w.heap.size, 0, none⟩ (.int .i64 3)).setCell ⟨w.heap.size, 1, none⟩ (.int .i64 k) = W at hR9 hB9 ⊢
          obtain ⟨z0, z1, _, _⟩ := hR9.two
          exact bodyPost_ret (v := .tuple #[.int .u64 0, .agg #[.int .i64 3, .int .i64 k]]) (by simp [results, Tryd.results99, go_sem, z0, z1]) rfl ⟨by rw [HLF.out]; rfl, hB9⟩
        · by_cases hcn : (n : Int) ≤ c
          · have HLF := hide (lfault_r hle hlt HNO.out (by unfold rbad; rw [hc]; simp [hcn]))
            clear hc hrw hr
            obtain ⟨hR9, hB9⟩ := put2 hR.blk hB (Nat.le_refl _) 3 k
            go_wp2
            generalize (wr.setCell ⟨w.heap.size, 0, none⟩ (.int .i64 3)).setCell ⟨w.heap.size, 1, none⟩ (.int .i64 k) = W at hR9 hB9 ⊢
            obtain ⟨z0, z1, _, _⟩ := hR9.two
            exact bodyPost_ret (v := .tuple #[.int .u64 0, .agg #[.int .i64 3, .int .i64 k]]) (by simp [results, Tryd.results99, go_sem, z0, z1]) rfl ⟨by rw [HLF.out]; rfl, hB9⟩
          · have HRB := hide (show rbad n ls k = false by unfold rbad; rw [hc]; simp; omega)
            have hcn' : c < (n : Int) := by omega
            rcases Nat.eq_zero_or_pos k with rfl | hkp
            · have HFB := hide (show fbad ls 0 = false by simp [fbad])
              rw [Nat.add_zero] at hck
              clear hc hrw hr
              go_wp2
              go_roundw
              case rel => exact ⟨1, by omega, by go_num, fun t ht => by
                have : t = 0 := by omega
                subst this; rw [HRB.out, HFB.out]; rfl, hR, hB⟩
              case measure => simp [intOf]; omega
            · obtain ⟨m, rfl⟩ : ∃ m, k = m + 1 := ⟨k - 1, by omega⟩
              have hcm := hrw.cell m (by omega)
              obtain ⟨d, hd⟩ : ∃ d, ls[m]?.getD 0 = d := ⟨_, rfl⟩
              rw [hd] at hcm
              have hfb : fbad ls (m + 1) = decide (c ≤ d) := by
                unfold fbad
                rw [Nat.add_sub_cancel, hc, hd]
                simp
              have hmi2 : (m : Int) < (ls.length : Int) := by omega
              by_cases hcd : c ≤ d
              · have HLF := hide (lfault_f hle hlt HNO.out HRB.out (by rw [hfb]; simp [hcd]))
                clear hc hd hfb hrw hr
                obtain ⟨hR9, hB9⟩ := put2 hR.blk hB (Nat.le_refl _) 5 ((m : Int) + 1)
                go_wp2
                generalize (wr.setCell ⟨w.heap.size, 0, none⟩ (.int .i64 5)).setCell ⟨w.heap.size, 1, none⟩ (.int .i64 ((m : Int) + 1)) = W at hR9 hB9 ⊢
                obtain ⟨z0, z1, _, _⟩ := hR9.two
                exact bodyPost_ret (v := .tuple #[.int .u64 0, .agg #[.int .i64 5, .int .i64 ((m : Int) + 1)]]) (by simp [results, Tryd.results99, go_sem, z0, z1]) rfl ⟨by rw [HLF.out]; simp [okN], hB9⟩
              · have HFB := hide (show fbad ls (m + 1) = false by rw [hfb]; simp; omega)
                clear hc hd hfb hrw hr
                go_wp2
                go_roundw
                case rel => exact ⟨m + 1 + 1, by omega, by go_num, fun t ht => by
                  by_cases e : t = m + 1
                  · rw [e, HRB.out, HFB.out]; rfl
                  · exact HNO.out t (by omega), hR, hB⟩
                case measure => simp [intOf]; omega
      · have hkk : k = ls.length := by omega
        subst hkk
        have hlf := lfault_ok hle HNO.out
        have hlz : (lfault n ls).1 = 0 := by rw [hlf]
        have hset := set_lst hlz
        have hmem : ∀ x, x ∈ lst n (pset ls) → x < n := fun x hx => (mem_lst.1 hx).1
        have hll : (lst n (pset ls)).length ≤ 60 := Nat.le_trans (lst_len _ _) hn
        have hso := HV.out.below hB
        rw [hset] at hso
        have hof := of_ok n _ (lst n (pset ls)) wr hn hll (by rw [← hset] at hso ⊢; exact hso) hmem
        have hbs : bs (fun a => decide (a ∈ lst n (pset ls))) n = bs (pset ls) n := bs_ext fun a ha => by
          rw [Bool.eq_iff_iff, decide_eq_true_eq, mem_lst]; simp [ha]
        rw [hbs] at hof
        have HOF := hide hof
        have HLF := hide hlf
        clear hof hlf hlz hset hso hbs hmem hrw hr
        go_wp2_with fail
        refine HOF.out.mono ?_
        rintro e1 w1 ⟨rfl, rfl⟩
        go_wp2
        exact bodyPost_ret (v := .tuple #[.int .u64 (bs (pset ls) n), .agg #[.int .i64 0, .int .i64 0]]) (by simp [results, Tryd.results99, go_sem, y0, y1]) rfl ⟨by rw [HLF.out]; rfl, hB⟩
set_option maxRecDepth 100000 in
set_option maxHeartbeats 4000000 in
theorem oset_badg (N : Int) (v u : Value) (zs : List Int) (w : World) (hv : Sl w v zs) (hc : (gfault N zs).1 ≠ 0) :
    Calls Tryd.prog 70 #[.agg #[.int .i64 N, v], u] w fun x w' => x = .returned (.tuple #[.agg #[.int .i64 0, .slice none 0 0, .int .i64 0, .slice none 0 0], .int .u64 0, .agg #[.int .i64 (gfault N zs).1, .int .i64 (gfault N zs).2]]) ∧ Below w.heap.size w w' := by
  obtain ⟨w0, BG⟩ := Beg4.new w N v
  have hv0 := hv.below BG.bel
  obtain ⟨c0, c1, _, _⟩ := BG.box.two
  have hck := opened_bad N v zs w0 hv0 hc
  obtain ⟨c, i, hci⟩ : ∃ c i, gfault N zs = (c, i) := ⟨_, _, rfl⟩
  rw [hci] at hck hc ⊢
  simp only at hc hck
  have HCK := hide hck
  clear hck hci
  have hcb : (c != 0) = true := by simpa using hc
  rw [BG.eq] at c0 c1
  go_enter Tryd.func70, Tryd.ntmps70
  go_wp2_with fail
  rw [← BG.eq]
  refine HCK.out.mono ?_
  rintro x w1 ⟨rfl, hb1⟩
  clear c0 c1
  obtain ⟨w2, hw2⟩ : ∃ w2, w2 = (w1.alloc (.cells #[.int .i64 0, .slice none 0 0, .int .i64 0, .slice none 0 0] 64)).alloc (.cells #[.int .i64 c, .int .i64 i] 27) := ⟨_, rfl⟩
  have hB1 : Below w0.heap.size w0 w2 := by rw [hw2]; exact bcat2 hb1 ((balloc w1 _).alloc (by simp) _)
  have hF1 : Blk w2 (w1.heap.size + 1) 27 [.int .i64 c, .int .i64 i] := by
    rw [hw2]
    have := blk0 (w := w1.alloc (.cells #[.int .i64 0, .slice none 0 0, .int .i64 0, .slice none 0 0] 64)) (T := 27) (.int .i64 c) (.int .i64 i)
    rwa [World.size_alloc] at this
  obtain ⟨hG1, g0, g1, g2, g3, gf0, gf1, gf2, gf3, gs0, gs1, gs2, gs3⟩ := Four.mk' (blk_below BG.grp hB1)
  have hR1 := blk_below BG.res hB1
  have hBw := bcat BG.bel hB1 BG.bel.size
  obtain ⟨y0, y1, fy0, fy1⟩ := hR1.two
  obtain ⟨t0, t1, _, _⟩ := hF1.two
  rw [hw2] at t0 t1
  go_wp2_with fail
  rw [← hw2]
  rw [← hw2] at t0 t1
  clear hw2
  go_region
  all_goals (
    go_wp2
    obtain ⟨hR6, hB6⟩ := put2 hR1 hBw (by omega) c i
    have hB7 := bdrew hB6
    have hR7 : Blk ((w2.setCell ⟨w.heap.size + 1 + 1, 0, none⟩ (.int .i64 c)).setCell ⟨w.heap.size + 1 + 1, 1, none⟩ (.int .i64 i)).drew (w.heap.size + 1 + 1) 27 [.int .i64 c, .int .i64 i] := hR6
    have hG7 : Blk ((w2.setCell ⟨w.heap.size + 1 + 1, 0, none⟩ (.int .i64 c)).setCell ⟨w.heap.size + 1 + 1, 1, none⟩ (.int .i64 i)).drew (w.heap.size + 1) 64 [.int .i64 0, .slice none 0 0, .int .i64 0, .slice none 0 0] :=
      (hG1.other (p := ⟨w.heap.size + 1 + 1, 0, none⟩) (by simp) (.int .i64 c)).other (p := ⟨w.heap.size + 1 + 1, 1, none⟩) (by simp) (.int .i64 i)
    generalize ((w2.setCell ⟨w.heap.size + 1 + 1, 0, none⟩ (.int .i64 c)).setCell ⟨w.heap.size + 1 + 1, 1, none⟩ (.int .i64 i)).drew = W at hR7 hB7 hG7 ⊢
    obtain ⟨z0, z1, _, _⟩ := hR7.two
    obtain ⟨_, q0, q1, q2, q3, _⟩ := Four.mk' hG7
    exact bodyPost_ret (v := .tuple #[.agg #[.int .i64 0, .slice none 0 0, .int .i64 0, .slice none 0 0], .int .u64 0, .agg #[.int .i64 c, .int .i64 i]]) (by simp [results, Tryd.results70, go_sem, z0, z1, q0, q1, q2, q3]) rfl ⟨rfl, hB7⟩)
set_option maxRecDepth 100000 in
set_option maxHeartbeats 4000000 in
theorem oset_badl (n e : Nat) (v u : Value) (zs ls : List Int) (w : World) (hv : Sl w v zs) (hg : IsGrp n zs e) (hu : Sl w u ls) (hc : (lfault n ls).1 ≠ 0) :
    Calls Tryd.prog 70 #[.agg #[.int .i64 n, v], u] w fun x w' => x = .returned (.tuple #[.agg #[.int .i64 0, .slice none 0 0, .int .i64 0, .slice none 0 0], .int .u64 0, .agg #[.int .i64 (lfault n ls).1, .int .i64 (lfault n ls).2]]) ∧ Below w.heap.size w w' := by
  obtain ⟨va, vl, vc, rfl⟩ := hv.isSlice
  obtain ⟨w0, BG⟩ := Beg4.new w n (.slice va vl vc)
  have hv0 := hv.below BG.bel
  have hu0 := hu.below BG.bel
  obtain ⟨c0, c1, _, _⟩ := BG.box.two
  have HCK := hide (opened_good n e (.slice va vl vc) zs w0 hv0 hg)
  have HSO := hide (fun W (h : Sl W u ls) => setOf_any n u ls W hg.tab.le h)
  obtain ⟨c, i, hci⟩ : ∃ c i, lfault n ls = (c, i) := ⟨_, _, rfl⟩
  rw [hci] at HSO hc ⊢
  simp only at hc HSO
  rw [show okN c (bs (pset ls) n) = 0 from if_neg hc] at HSO
  clear hci
  have hcb : (c != 0) = true := by simpa using hc
  rw [BG.eq] at c0 c1
  go_enter Tryd.func70, Tryd.ntmps70
  go_wp2_with fail
  rw [← BG.eq]
  refine HCK.out.mono ?_
  rintro x w1 ⟨iv9, rfl, hGA, hb1⟩
  obtain ⟨ia, il, ic, rfl⟩ := hGA.sl.isSlice
  clear c0 c1 HCK
  obtain ⟨w2, hw2⟩ : ∃ w2, w2 = (w1.alloc (.cells #[.int .i64 n, (.slice va vl vc), .int .i64 e, (.slice ia il ic)] 64)).alloc (.cells #[.int .i64 0, .int .i64 0] 27) := ⟨_, rfl⟩
  have hB1 : Below w0.heap.size w0 w2 := by rw [hw2]; exact bcat2 hb1 ((balloc w1 _).alloc (by simp) _)
  have hF1 : Blk w2 (w1.heap.size + 1) 27 [.int .i64 0, .int .i64 0] := by
    rw [hw2]
    have := blk0 (w := w1.alloc (.cells #[.int .i64 n, (.slice va vl vc), .int .i64 e, (.slice ia il ic)] 64)) (T := 27) (.int .i64 0) (.int .i64 0)
    rwa [World.size_alloc] at this
  obtain ⟨t0, t1, _, _⟩ := hF1.two
  obtain ⟨k0, k1, _, _⟩ := (blk_below BG.box hB1).two
  rw [hw2] at t0 t1 k0 k1
  have hz9 : w.heap.size + 3 ≤ w1.heap.size := by rw [← BG.size]; exact hb1.size
  go_wp2_with fail
  rw [← hw2]
  clear t0 t1 k0 k1 hw2
  refine (HSO.out w2 (hu0.below hB1)).mono ?_
  rintro x w3 ⟨rfl, hb3⟩
  have hF3 := blk_below hF1 hb3
  have hB3 := bcat2 hB1 hb3
  obtain ⟨f0, f1, ff0, ff1⟩ := hF3.two
  have hBw3 := bcat BG.bel hB3 BG.bel.size
  have hG3 := blk_below BG.grp hB3
  have hR3 := blk_below BG.res hB3
  obtain ⟨hF4, hB4⟩ := put2 hF3 hBw3 (by omega) c i
  have hG4 := (hG3.other (p := ⟨w1.heap.size + 1, 0, none⟩) (by simp; omega) (.int .i64 c)).other (p := ⟨w1.heap.size + 1, 1, none⟩) (by simp; omega) (.int .i64 i)
  have hR4 := (hR3.other (p := ⟨w1.heap.size + 1, 0, none⟩) (by simp; omega) (.int .i64 c)).other (p := ⟨w1.heap.size + 1, 1, none⟩) (by simp; omega) (.int .i64 i)
  go_wp2_with fail
  generalize (w3.setCell ⟨w1.heap.size + 1, 0, none⟩ (.int .i64 c)).setCell ⟨w1.heap.size + 1, 1, none⟩ (.int .i64 i) = w4 at hF4 hB4 hG4 hR4 ⊢
  obtain ⟨hG1, g0, g1, g2, g3, gf0, gf1, gf2, gf3, gs0, gs1, gs2, gs3⟩ := Four.mk' hG4
  obtain ⟨y0, y1, fy0, fy1⟩ := hR4.two
  obtain ⟨t0, t1, _, _⟩ := hF4.two
  go_wp2_with fail
  go_region
  all_goals (
    go_wp2
    obtain ⟨hR6, hB6⟩ := put2 hR4 hB4 (by omega) c i
    have hB7 := bdrew hB6
    have hR7 : Blk ((w4.setCell ⟨w.heap.size + 1 + 1, 0, none⟩ (.int .i64 c)).setCell ⟨w.heap.size + 1 + 1, 1, none⟩ (.int .i64 i)).drew (w.heap.size + 1 + 1) 27 [.int .i64 c, .int .i64 i] := hR6
    have hG7 : Blk ((w4.setCell ⟨w.heap.size + 1 + 1, 0, none⟩ (.int .i64 c)).setCell ⟨w.heap.size + 1 + 1, 1, none⟩ (.int .i64 i)).drew (w.heap.size + 1) 64 [.int .i64 0, .slice none 0 0, .int .i64 0, .slice none 0 0] :=
      (hG1.other (p := ⟨w.heap.size + 1 + 1, 0, none⟩) (by simp) (.int .i64 c)).other (p := ⟨w.heap.size + 1 + 1, 1, none⟩) (by simp) (.int .i64 i)
    generalize ((w4.setCell ⟨w.heap.size + 1 + 1, 0, none⟩ (.int .i64 c)).setCell ⟨w.heap.size + 1 + 1, 1, none⟩ (.int .i64 i)).drew = W at hR7 hB7 hG7 ⊢
    obtain ⟨z0, z1, _, _⟩ := hR7.two
    obtain ⟨_, q0, q1, q2, q3, _⟩ := Four.mk' hG7
    exact bodyPost_ret (v := .tuple #[.agg #[.int .i64 0, .slice none 0 0, .int .i64 0, .slice none 0 0], .int .u64 0, .agg #[.int .i64 c, .int .i64 i]]) (by simp [results, Tryd.results70, go_sem, z0, z1, q0, q1, q2, q3]) rfl ⟨rfl, hB7⟩)
theorem oset_bad (N : Int) (v u : Value) (zs ls : List Int) (w : World) (hv : Sl w v zs) (hu : Sl w u ls) (hc : (sfault N zs ls).1 ≠ 0) :
    Calls Tryd.prog 70 #[.agg #[.int .i64 N, v], u] w fun x w' => x = .returned (.tuple #[.agg #[.int .i64 0, .slice none 0 0, .int .i64 0, .slice none 0 0], .int .u64 0, .agg #[.int .i64 (sfault N zs ls).1, .int .i64 (sfault N zs ls).2]]) ∧ Below w.heap.size w w' := by
  rcases sfault_cases N zs ls hc with ⟨h1, h2⟩ | ⟨n, e, rfl, hg, h1, h2⟩
  · rw [h2]; exact oset_badg N v u zs w hv h1
  · rw [h2]; exact oset_badl n e v u zs ls w hv hg hu h1
set_option maxRecDepth 100000 in
set_option maxHeartbeats 4000000 in
theorem oset_good (n e : Nat) (v u : Value) (zs ls : List Int) (w : World) (hv : Sl w v zs) (hg : IsGrp n zs e) (hu : Sl w u ls) (hc : lfault n ls = (0, 0)) :
    Calls Tryd.prog 70 #[.agg #[.int .i64 n, v], u] w fun x w' => ∃ iv9, x = .returned (.tuple #[.agg #[.int .i64 n, v, .int .i64 e, iv9], .int .u64 (bs (pset ls) n), .agg #[.int .i64 0, .int .i64 0]]) ∧ SlF w.heap.size w' iv9 (li ((List.range n).map (iv n zs e))) ∧ Below w.heap.size w w' := by
  obtain ⟨va, vl, vc, rfl⟩ := hv.isSlice
  obtain ⟨w0, BG⟩ := Beg4.new w n (.slice va vl vc)
  have hv0 := hv.below BG.bel
  have hu0 := hu.below BG.bel
  obtain ⟨c0, c1, _, _⟩ := BG.box.two
  have HCK := hide (opened_good n e (.slice va vl vc) zs w0 hv0 hg)
  have HSO := hide (fun W (h : Sl W u ls) => setOf_any n u ls W hg.tab.le h)
  rw [hc] at HSO
  simp only at HSO
  rw [show okN 0 (bs (pset ls) n) = bs (pset ls) n from rfl] at HSO
  clear hc
  rw [BG.eq] at c0 c1
  go_enter Tryd.func70, Tryd.ntmps70
  go_wp2_with fail
  rw [← BG.eq]
  refine HCK.out.mono ?_
  rintro x w1 ⟨iv9, rfl, hGA, hb1⟩
  obtain ⟨ia, il, ic, rfl⟩ := hGA.sl.isSlice
  clear c0 c1 HCK
  obtain ⟨w2, hw2⟩ : ∃ w2, w2 = (w1.alloc (.cells #[.int .i64 n, (.slice va vl vc), .int .i64 e, (.slice ia il ic)] 64)).alloc (.cells #[.int .i64 0, .int .i64 0] 27) := ⟨_, rfl⟩
  have hb2 : Below w1.heap.size w1 w2 := by rw [hw2]; exact (balloc w1 _).alloc (by simp) _
  have hB1 : Below w0.heap.size w0 w2 := bcat2 hb1 hb2
  have hF1 : Blk w2 (w1.heap.size + 1) 27 [.int .i64 0, .int .i64 0] := by
    rw [hw2]
    have := blk0 (w := w1.alloc (.cells #[.int .i64 n, (.slice va vl vc), .int .i64 e, (.slice ia il ic)] 64)) (T := 27) (.int .i64 0) (.int .i64 0)
    rwa [World.size_alloc] at this
  have hH1 : Blk w2 w1.heap.size 64 [.int .i64 n, (.slice va vl vc), .int .i64 e, (.slice ia il ic)] := by
    rw [hw2]; exact (blk4 _ _ _ _).alloc _
  obtain ⟨t0, t1, _, _⟩ := hF1.two
  obtain ⟨k0, k1, _, _⟩ := (blk_below BG.box hB1).two
  rw [hw2] at t0 t1 k0 k1
  have hz9 : w.heap.size + 3 ≤ w1.heap.size := by rw [← BG.size]; exact hb1.size
  go_wp2_with fail
  rw [← hw2]
  clear t0 t1 k0 k1 hw2
  refine (HSO.out w2 (hu0.below hB1)).mono ?_
  rintro x w3 ⟨rfl, hb3⟩
  have hB3 := bcat2 hB1 hb3
  obtain ⟨_, f0, f1, ff0, ff1, fs0, fs1⟩ := Two.mk' (blk_below hF1 hb3)
  have hBw3 := bcat BG.bel hB3 BG.bel.size
  have hG3 := blk_below BG.grp hB3
  obtain ⟨_, h0, h1, h2, h3, _⟩ := Four.mk' (blk_below hH1 hb3)
  obtain ⟨_, g0, g1, g2, g3, gf0, gf1, gf2, gf3, _⟩ := Four.mk' hG3
  obtain ⟨hR3, y0, y1, fy0, fy1, s0, s1⟩ := Two.mk' (blk_below BG.res hB3)
  have hGA3 := (hGA.below (bcat2 hb2 hb3)).mono (show w.heap.size + 3 ≤ w0.heap.size by rw [BG.size]; exact Nat.le_refl _)
  go_wp2
  obtain ⟨W, hW, hG8, hR8, hB8, hS8, hK8⟩ := put6 hG3 hR3 hBw3 (.int .i64 n) (.slice va vl vc) (.int .i64 e) (.slice ia il ic) (.int .i64 0) (.int .i64 0)
  rw [← hW]
  clear hW
  obtain ⟨z0, z1, _, _⟩ := hR8.two
  obtain ⟨_, q0, q1, q2, q3, _⟩ := Four.mk' hG8
  have hGA9 := (hGA3.keep (fun b h1 _ => hK8 b h1) (by omega)).mono (show w.heap.size ≤ w.heap.size + 3 by omega)
  exact bodyPost_ret (v := .tuple #[.agg #[.int .i64 n, .slice va vl vc, .int .i64 e, .slice ia il ic], .int .u64 (bs (pset ls) n), .agg #[.int .i64 0, .int .i64 0]]) (by simp [results, Tryd.results70, go_sem, z0, z1, q0, q1, q2, q3]) rfl ⟨_, rfl, hGA9, hB8⟩
set_option maxRecDepth 100000 in
set_option maxHeartbeats 4000000 in
theorem mde_bad (N : Int) (v u0 : Value) (zs l0 : List Int) (w : World) (hv : Sl w v zs) (hu : Sl w u0 l0) (hc : (sfault N zs l0).1 ≠ 0) :
    Calls Tryd.prog 28 #[.agg #[.int .i64 N, v], u0] w fun x w' => x = .returned (.tuple #[.slice none 0 0, .agg #[.int .i64 (sfault N zs l0).1, .int .i64 (sfault N zs l0).2]]) ∧ Below w.heap.size w w' := by
  obtain ⟨w0, BG⟩ := Beg.new w N v
  have hv0 := hv.below BG.bel
  obtain ⟨c0, c1, _, _⟩ := BG.box.two
  have hck := oset_bad N v u0 zs l0 w0 hv0 (hu.below BG.bel) hc
  obtain ⟨c, i, hci⟩ : ∃ c i, sfault N zs l0 = (c, i) := ⟨_, _, rfl⟩
  rw [hci] at hck hc ⊢
  simp only at hc hck
  have HCK := hide hck
  clear hck hci
  have hcb : (c != 0) = true := by simpa using hc
  rw [BG.eq] at c0 c1
  go_enter Tryd.func28, Tryd.ntmps28
  go_wp2_with fail
  rw [← BG.eq]
  refine HCK.out.mono ?_
  rintro x w1 ⟨rfl, hb1⟩
  clear c0 c1
  obtain ⟨w2, hw2⟩ : ∃ w2, w2 = (w1.alloc (.cells #[.int .i64 0, .slice none 0 0, .int .i64 0, .slice none 0 0] 64)).alloc (.cells #[.int .i64 c, .int .i64 i] 27) := ⟨_, rfl⟩
  have hB1 : Below w0.heap.size w0 w2 := by rw [hw2]; exact bcat2 hb1 ((balloc w1 _).alloc (by simp) _)
  have hF1 : Blk w2 (w1.heap.size + 1) 27 [.int .i64 c, .int .i64 i] := by
    rw [hw2]
    have := blk0 (w := w1.alloc (.cells #[.int .i64 0, .slice none 0 0, .int .i64 0, .slice none 0 0] 64)) (T := 27) (.int .i64 c) (.int .i64 i)
    rwa [World.size_alloc] at this
  have hR1 := blk_below BG.res hB1
  have hBw := bcat BG.bel hB1 BG.bel.size
  obtain ⟨y0, y1, fy0, fy1⟩ := hR1.two
  obtain ⟨t0, t1, _, _⟩ := hF1.two
  rw [hw2] at t0 t1
  go_wp2_with fail
  rw [← hw2]
  rw [← hw2] at t0 t1
  clear hw2
  go_region
  all_goals (
    go_wp2
    obtain ⟨hR6, hB6⟩ := put2 hR1 hBw (by omega) c i
    have hB7 := bdrew hB6
    have hR7 : Blk ((w2.setCell ⟨w.heap.size + 1, 0, none⟩ (.int .i64 c)).setCell ⟨w.heap.size + 1, 1, none⟩ (.int .i64 i)).drew (w.heap.size + 1) 27 [.int .i64 c, .int .i64 i] := hR6
    generalize ((w2.setCell ⟨w.heap.size + 1, 0, none⟩ (.int .i64 c)).setCell ⟨w.heap.size + 1, 1, none⟩ (.int .i64 i)).drew = W at hR7 hB7 ⊢
    obtain ⟨z0, z1, _, _⟩ := hR7.two
    exact bodyPost_ret (v := .tuple #[.slice none 0 0, .agg #[.int .i64 c, .int .i64 i]]) (by simp [results, Tryd.results28, go_sem, z0, z1]) rfl ⟨rfl, hB7⟩)
set_option maxRecDepth 100000 in
set_option maxHeartbeats 4000000 in
theorem mde_good (n e : Nat) (v u0 : Value) (zs l0 : List Int) (p : Nat → Bool) (w : World) (hv : Sl w v zs) (hg : IsGrp n zs e) (hu : Sl w u0 l0) (hT : Tab w) (hc : lfault n l0 = (0, 0)) (hp : ∀ a, a < n → (p a = true ↔ Mkd n zs e (pset l0) a)) :
    Calls Tryd.prog 28 #[.agg #[.int .i64 n, v], u0] w fun x w' => ∃ r, x = .returned (.tuple #[r, .agg #[.int .i64 0, .int .i64 0]]) ∧ SlF w.heap.size w' r (li (lst n p)) ∧ Below w.heap.size w w' := by
  obtain ⟨va, vl, vc, rfl⟩ := hv.isSlice
  obtain ⟨w0, BG⟩ := Beg.new w n (.slice va vl vc)
  have hv0 := hv.below BG.bel
  obtain ⟨c0, c1, _, _⟩ := BG.box.two
  have HCK := hide (oset_good n e (.slice va vl vc) u0 zs l0 w0 hv0 hg (hu.below BG.bel) hc)
  have HZ0 := hide (show w.heap.size + 2 ≤ w0.heap.size by rw [BG.eq]; simp)
  rw [BG.eq] at c0 c1
  go_enter Tryd.func28, Tryd.ntmps28
  go_wp2_with fail
  rw [← BG.eq]
  refine HCK.out.mono ?_
  rintro x w1 ⟨iv9, rfl, hSI, hb1⟩
  obtain ⟨ia, il, ic, rfl⟩ := hSI.sl.isSlice
  clear c0 c1 HCK
  obtain ⟨w2, hw2⟩ : ∃ w2, w2 = (w1.alloc (.cells #[.int .i64 n, (.slice va vl vc), .int .i64 e, (.slice ia il ic)] 64)).alloc (.cells #[.int .i64 0, .int .i64 0] 27) := ⟨_, rfl⟩
  have hb2 : Below w1.heap.size w1 w2 := by rw [hw2]; exact (balloc w1 _).alloc (by simp) _
  have hB1 : Below w0.heap.size w0 w2 := bcat2 hb1 hb2
  have hF1 : Blk w2 (w1.heap.size + 1) 27 [.int .i64 0, .int .i64 0] := by
    rw [hw2]
    have := blk0 (w := w1.alloc (.cells #[.int .i64 n, (.slice va vl vc), .int .i64 e, (.slice ia il ic)] 64)) (T := 27) (.int .i64 0) (.int .i64 0)
    rwa [World.size_alloc] at this
  have hH2 : Blk w2 w1.heap.size 64 [.int .i64 n, (.slice va vl vc), .int .i64 e, (.slice ia il ic)] := by
    rw [hw2]; exact (blk4 _ _ _ _).alloc _
  have hBw2 := bcat BG.bel hB1 BG.bel.size
  have hR2 := blk_below BG.res hB1
  have hT2 := hT.below hBw2
  have hGA2 : GA w2 n (.slice va vl vc) e (.slice ia il ic) zs := ⟨hg, hv.below hBw2, (hSI.below hb2).sl⟩
  obtain ⟨t0, t1, _, _⟩ := hF1.two
  obtain ⟨_, h0, h1, h2, h3, _⟩ := Four.mk' hH2
  have hx2 := blk_below BG.box hB1
  have HZ1 := hide (Nat.le_trans HZ0.out hb1.size)
  have HZ2 := hide hb2.size
  rw [hw2] at t0 t1 h0 h1 h2 h3
  go_wp2_with fail
  rw [← hw2]
  clear hw2 t0 t1 h0 h1 h2 h3
  refine (made_ok n _ _ zs e (pset l0) p w2 hGA2 hT2 hp).mono ?_
  rintro x w3 ⟨rfl, hb3⟩
  go_wp2_with fail
  refine (list_ok n p w3 hg.tab.le (hT2.below hb3)).mono ?_
  rintro x w4 ⟨r, rfl, hr, hb4⟩
  have hb5 := bcat2 hb3 hb4
  have hB5 := bcat hBw2 hb5 hBw2.size
  obtain ⟨_, y0, y1, fy0, fy1, s0, s1⟩ := Two.mk' (blk_below hR2 hb5)
  have hr9 := hr.mono (show w.heap.size ≤ w3.heap.size from Nat.le_trans hBw2.size hb3.size)
  go_wp2
  exact bodyPost_ret (v := .tuple #[r, .agg #[.int .i64 0, .int .i64 0]]) (by simp [results, Tryd.results28, go_sem, y0, y1]) rfl ⟨_, rfl, hr9, hB5⟩
set_option maxRecDepth 100000 in
set_option maxHeartbeats 4000000 in
theorem rlist_any (n : Nat) (v u : Value) (ls : List Int) (w : World) (hn : n ≤ 60) (hu : Sl w u ls) :
    Calls Tryd.prog 19 #[.agg #[.int .i64 n, v], u] w fun x w' => x = .returned (.agg #[.int .i64 (lfault n ls).1, .int .i64 (lfault n ls).2]) ∧ Below w.heap.size w w' := by
  obtain ⟨w0, BG⟩ := Beg.new w n v
  obtain ⟨a, cap, pb, po, rfl, hr, hp, hq3, hq4⟩ := hu
  have HR := hide hr
  obtain ⟨c0, c1, _, _⟩ := BG.box.two
  obtain ⟨_, y0, y1, fy0, fy1, s0, s1⟩ := Two.mk' BG.res
  by_cases hmany : n < ls.length
  · rw [lfault_many hmany]
    have hmi : (n : Int) < (ls.length : Int) := by omega
    have hF := hide (f_any 2 0)
    rw [BG.eq] at c0 c1
    go_enter Tryd.func19, Tryd.ntmps19
    go_wp2_with fail
    rw [← BG.eq]
    clear c0 c1 y0 y1 fy0 fy1 s0 s1
    refine (hF.out w0).mono ?_
    rintro x w1 ⟨rfl, hb1⟩
    have hR1 := blk_below BG.res hb1
    obtain ⟨y0, y1, fy0, fy1⟩ := hR1.two
    obtain ⟨hR6, hB6⟩ := put2 hR1 (bcat BG.bel hb1 BG.bel.size) (by omega) 2 0
    go_wp2
    generalize (w1.setCell ⟨w.heap.size + 1, 0, none⟩ (.int .i64 2)).setCell ⟨w.heap.size + 1, 1, none⟩ (.int .i64 0) = W at hR6 hB6 ⊢
    obtain ⟨z0, z1, _, _⟩ := hR6.two
    exact bodyPost_ret (v := .agg #[.int .i64 2, .int .i64 0]) (by simp [results, Tryd.results19, go_sem, z0, z1]) rfl ⟨rfl, hB6⟩
  · have hle : ls.length ≤ n := by omega
    have hmi : ¬ (n : Int) < (ls.length : Int) := by omega
    rw [BG.eq] at c0 c1
    clear y0 y1 fy0 fy1 s0 s1 hr
    go_enter Tryd.func19, Tryd.ntmps19
    go_wp2
    rw [← BG.eq]
    clear c0 c1
    go_loopw [5] (fun i wr => ∃ k : Nat, k ≤ ls.length ∧ i = .int .i64 k ∧ (∀ t, t < k → (rbad n ls t || fbad ls t) = false) ∧ Below w0.heap.size w0 wr) (fun i _ => ls.length - (intOf i).toNat)
    case atStart => exact ⟨0, Nat.zero_le _, rfl, fun t ht => by omega, Below.refl _ _⟩
    case round =>
      obtain ⟨k, hk, rfl, hno, hB⟩ := hrel
      have HNO := hide hno
      clear hno
      obtain ⟨c0, c1, _, _⟩ := (blk_below BG.box hB).two
      have hRk := blk_below BG.res hB
      obtain ⟨_, y0, y1, fy0, fy1, s0, s1⟩ := Two.mk' hRk
      have hBw := bcat BG.bel hB BG.bel.size
      by_cases hlt : k < ls.length
      · have hck := (HR.out.below hBw hp).cell k hlt
        obtain rfl := HR.out.at_ (by omega)
        obtain ⟨c, hc⟩ : ∃ c, ls[k]?.getD 0 = c := ⟨_, rfl⟩
        rw [hc] at hck
        have hki : (k : Int) < (ls.length : Int) := by omega
        by_cases hrb : c < 0 ∨ (n : Int) ≤ c
        · have HLF := hide (lfault_r hle hlt HNO.out (by unfold rbad; rw [hc]; simp [hrb]))
          clear hc
          rcases hrb with hc0 | hcn
          · have hc0i : c < 0 := hc0
            go_wp2_with fail
            go_quiet (fail)
            have hBq := bdrewN hB nq
            generalize wr.drewN nq = wq at hBq ⊢
            clear c0 c1 y0 y1 fy0 fy1 s0 s1
            obtain ⟨c0, c1, _, _⟩ := (blk_below BG.box hBq).two
            obtain ⟨_, y0, y1, fy0, fy1, s0, s1⟩ := Two.mk' (blk_below BG.res hBq)
            go_wp2_with fail
            refine (f_any 3 k wq).mono ?_
            rintro x w8 ⟨rfl, hb8⟩
            clear c0 c1 y0 y1 fy0 fy1 s0 s1
            have hB8 := bcat2 hBq hb8
            have hR8 := blk_below BG.res hB8
            obtain ⟨y0, y1, fy0, fy1⟩ := hR8.two
            obtain ⟨hR6, hB6⟩ := put2 hR8 (bcat BG.bel hB8 BG.bel.size) (by omega) 3 k
            go_wp2
            generalize (w8.setCell ⟨w.heap.size + 1, 0, none⟩ (.int .i64 3)).setCell ⟨w.heap.size + 1, 1, none⟩ (.int .i64 k) = W at hR6 hB6 ⊢
            obtain ⟨z0, z1, _, _⟩ := hR6.two
            exact bodyPost_ret (v := .agg #[.int .i64 3, .int .i64 k]) (by simp [results, Tryd.results19, go_sem, z0, z1]) rfl ⟨by first | (rw [HLF.out]; done) | (rw [HLF.out]; simp), hB6⟩
          · by_cases hc0 : c < 0
            · exfalso; omega
            · have hc0i : ¬ c < 0 := hc0
              go_wp2_with fail
              go_quiet (fail)
              have hBq := bdrewN hB nq
              generalize wr.drewN nq = wq at hBq ⊢
              clear c0 c1 y0 y1 fy0 fy1 s0 s1
              obtain ⟨c0, c1, _, _⟩ := (blk_below BG.box hBq).two
              obtain ⟨_, y0, y1, fy0, fy1, s0, s1⟩ := Two.mk' (blk_below BG.res hBq)
              go_wp2_with fail
              refine (f_any 3 k wq).mono ?_
              rintro x w8 ⟨rfl, hb8⟩
              clear c0 c1 y0 y1 fy0 fy1 s0 s1
              have hB8 := bcat2 hBq hb8
              have hR8 := blk_below BG.res hB8
              obtain ⟨y0, y1, fy0, fy1⟩ := hR8.two
              obtain ⟨hR6, hB6⟩ := put2 hR8 (bcat BG.bel hB8 BG.bel.size) (by omega) 3 k
              go_wp2
              generalize (w8.setCell ⟨w.heap.size + 1, 0, none⟩ (.int .i64 3)).setCell ⟨w.heap.size + 1, 1, none⟩ (.int .i64 k) = W at hR6 hB6 ⊢
              obtain ⟨z0, z1, _, _⟩ := hR6.two
              exact bodyPost_ret (v := .agg #[.int .i64 3, .int .i64 k]) (by simp [results, Tryd.results19, go_sem, z0, z1]) rfl ⟨by first | (rw [HLF.out]; done) | (rw [HLF.out]; simp), hB6⟩
        · have hc0 : ¬ c < 0 := fun h => hrb (.inl h)
          have hcn : ¬ (n : Int) ≤ c := fun h => hrb (.inr h)
          have HRB := hide (show rbad n ls k = false by unfold rbad; rw [hc]; simp; omega)
          clear hrb
          have HC := hide hc
          clear hc
          go_wp2_with fail
          go_quiet (fail)
          have hBq := bdrewN hB nq
          generalize wr.drewN nq = wq at hBq ⊢
          clear c0 c1 y0 y1 fy0 fy1 s0 s1
          obtain ⟨c0, c1, _, _⟩ := (blk_below BG.box hBq).two
          obtain ⟨_, y0, y1, fy0, fy1, s0, s1⟩ := Two.mk' (blk_below BG.res hBq)
          have hBwq := bcat BG.bel hBq BG.bel.size
          clear hck
          rcases Nat.eq_zero_or_pos k with rfl | hkp
          · have HFB := hide (show fbad ls 0 = false by simp [fbad])
            have h00 : ¬ ((0 : Int) < ((0 : Nat) : Int)) := by simp
            go_wp2_with fail
            go_quiet (fail)
            have hBq := bdrewN hBq nq
            generalize wq.drewN nq = wz at hBq ⊢
            clear c0 c1 y0 y1 fy0 fy1 s0 s1
            go_wp2
            go_roundw
            case rel => exact ⟨1, by omega, by go_num, fun t ht => by
              have : t = 0 := by omega
              subst this; rw [HRB.out, HFB.out]; rfl, hBq⟩
            case measure => simp [intOf]; omega
          · obtain ⟨m, rfl⟩ : ∃ m, k = m + 1 := ⟨k - 1, by omega⟩
            have hrq := HR.out.below hBwq hp
            have hck := hrq.cell (m + 1) hlt
            have hcm := hrq.cell m (by omega)
            rw [HC.out] at hck
            obtain ⟨d, hd⟩ : ∃ d, ls[m]?.getD 0 = d := ⟨_, rfl⟩
            rw [hd] at hcm
            have hfb : fbad ls (m + 1) = decide (c ≤ d) := by
              unfold fbad
              rw [Nat.add_sub_cancel, HC.out, hd]
              simp
            have hmi2 : (m : Int) < (ls.length : Int) := by omega
            have hmp : (0 : Int) < (m : Int) + 1 := by omega
            have hmw : IntKind.i64.wrap ((m : Int) + 1 - 1) = (m : Int) := by rw [IntKind.wrap_i64]; omega
            clear hrq hd
            by_cases hcd : c ≤ d
            · have HLF := hide (lfault_f hle hlt HNO.out HRB.out (by rw [hfb]; simp [hcd]))
              clear hfb
              go_wp2_with fail
              go_quiet (fail)
              have hBq := bdrewN hBq nq
              generalize wq.drewN nq = wz at hBq ⊢
              clear c0 c1 y0 y1 fy0 fy1 s0 s1
              clear hck hcm
              obtain ⟨c0, c1, _, _⟩ := (blk_below BG.box hBq).two
              obtain ⟨_, y0, y1, fy0, fy1, s0, s1⟩ := Two.mk' (blk_below BG.res hBq)
              go_wp2_with fail
              refine (f_any 5 ((m : Int) + 1) wz).mono ?_
              rintro x w8 ⟨rfl, hb8⟩
              clear c0 c1 y0 y1 fy0 fy1 s0 s1
              have hB8 := bcat2 hBq hb8
              have hR8 := blk_below BG.res hB8
              obtain ⟨y0, y1, fy0, fy1⟩ := hR8.two
              obtain ⟨hR6, hB6⟩ := put2 hR8 (bcat BG.bel hB8 BG.bel.size) (by omega) 5 ((m : Int) + 1)
              go_wp2
              generalize (w8.setCell ⟨w.heap.size + 1, 0, none⟩ (.int .i64 5)).setCell ⟨w.heap.size + 1, 1, none⟩ (.int .i64 ((m : Int) + 1)) = W at hR6 hB6 ⊢
              obtain ⟨z0, z1, _, _⟩ := hR6.two
              exact bodyPost_ret (v := .agg #[.int .i64 5, .int .i64 ((m : Int) + 1)]) (by simp [results, Tryd.results19, go_sem, z0, z1]) rfl ⟨by first | (rw [HLF.out]; done) | (rw [HLF.out]; simp), hB6⟩
            · have HFB := hide (show fbad ls (m + 1) = false by rw [hfb]; simp; omega)
              clear hfb
              go_wp2_with fail
              go_quiet (fail)
              have hBq := bdrewN hBq nq
              generalize wq.drewN nq = wz at hBq ⊢
              clear c0 c1 y0 y1 fy0 fy1 s0 s1
              clear hck hcm
              go_wp2
              go_roundw
              case rel => exact ⟨m + 1 + 1, by omega, by go_num, fun t ht => by
                by_cases e : t = m + 1
                · rw [e, HRB.out, HFB.out]; rfl
                · exact HNO.out t (by omega), hBq⟩
              case measure => simp [intOf]; omega
      · have hkk : k = ls.length := by omega
        subst hkk
        have HLF := hide (lfault_ok hle HNO.out)
        go_wp2
        exact bodyPost_ret (v := .agg #[.int .i64 0, .int .i64 0]) (by simp [results, Tryd.results19, go_sem, y0, y1]) rfl ⟨by rw [HLF.out], hBw⟩
/-- What Made answers, whatever is wrong. -/
theorem mde_any (N : Int) (v u : Value) (zs ls : List Int) (w : World) (hv : Sl w v zs) (hu : Sl w u ls) (hT : Tab w) :
    Calls Tryd.prog 28 #[.agg #[.int .i64 N, v], u] w fun x w' => ∃ a l c, x = .returned (.tuple #[.slice a l c, .agg #[.int .i64 (sfault N zs ls).1, .int .i64 (sfault N zs ls).2]]) ∧ Below w.heap.size w w' := by
  by_cases hc : (sfault N zs ls).1 = 0
  · obtain ⟨n, e, rfl, hg, hl, h0⟩ := sfault_zero hc
    obtain ⟨p, hp⟩ := mkd_test n zs e (pset ls)
    rw [h0]
    refine (mde_good n e v u zs ls p w hv hg hu hT hl hp).mono ?_
    rintro x w' ⟨r, rfl, hr, hb⟩
    obtain ⟨a, l, c, rfl⟩ := hr.sl.isSlice
    exact ⟨a, l, c, rfl, hb⟩
  · refine (mde_bad N v u zs ls w hv hu hc).mono ?_
    rintro x w' ⟨rfl, hb⟩
    exact ⟨_, _, _, rfl, hb⟩
theorem call116 (a : Int) (x y : Value) (W : World) : Sem.run Tryd.prog (callFunc 98 (#[.int .i64 a] ++ #[x, y])) W = .ok (.enter 98 (#[.int .i64 a] ++ #[x, y])) W := by kernel_rfl
set_option maxRecDepth 100000 in
set_option maxHeartbeats 2000000 in
theorem nor1_ok (n : Nat) (v u : Value) (zs : List Int) (e a gb sb : Nat) (q : Nat → Bool) (w : World) (hG : GA w n v e u zs) (hT : Tab w) (ha : a < n) (hb : Box4 w gb n e v u) (hs : Boxed w sb 70 (.int .u64 (bs q n))) :
    Calls Tryd.prog 98 (#[.int .i64 a] ++ #[.pointer (some ⟨gb, 0, none⟩), .pointer (some ⟨sb, 0, none⟩)]) w fun y w' => y = .returned (.bool (norq n zs e q a)) ∧ Below w.heap.size w w' := by
  show Calls Tryd.prog 98 #[.int .i64 a, .pointer (some ⟨gb, 0, none⟩), .pointer (some ⟨sb, 0, none⟩)] w _
  have HC := hide (fun W (h : Below w.heap.size w W) => conjd_ok n v u zs e a q W (hG.below h) (hT.below h) ha)
  have hsc := hs.cell
  have hS : ∀ W, Below w.heap.size w W → (Below w.heap.size w W ∧ W.cell? ⟨gb, 0, none⟩ = some (.int .i64 n) ∧ W.cell? ⟨gb, 1, none⟩ = some v ∧ W.cell? ⟨gb, 2, none⟩ = some (.int .i64 e) ∧ W.cell? ⟨gb, 3, none⟩ = some u ∧ W.cell? ⟨sb, 0, none⟩ = some (.int .u64 (bs q n))) := fun W h => by
    obtain ⟨c0, c1, c2, c3⟩ := (hb.below h).cells
    exact ⟨h, c0, c1, c2, c3, below_cell h hsc⟩
  have hS0 := hS _ (bdrew (Below.refl _ w))
  have HN : Hid (norq n zs e q a = decide (bs (cjq n zs e q a) n = bs q n)) := rfl
  clear hsc
  by_cases heq : bs (cjq n zs e q a) n = bs q n
  · rw [decide_eq_true heq] at HN
    rw [heq] at HC
    generalize bs q n = Q at *
    go_enter Tryd.func98, Tryd.ntmps98
    go_wp2_with fail
    go_region_held3 (fun W => Below w.heap.size w W ∧ W.cell? ⟨gb, 0, none⟩ = some (.int .i64 n) ∧ W.cell? ⟨gb, 1, none⟩ = some v ∧ W.cell? ⟨gb, 2, none⟩ = some (.int .i64 e) ∧ W.cell? ⟨gb, 3, none⟩ = some u ∧ W.cell? ⟨sb, 0, none⟩ = some (.int .u64 (Q : Int)))
      (first | exact hS0 | assumption | exact hS _ (bcat2 (And.left ‹_›) hl1))
      (first | (go_at_call 90; refine (HC.out _ (And.left ‹_›)).mono ?_; rintro e1 W1 ⟨rfl, hl1⟩))
    all_goals (
      have hB9 := And.left ‹Below w.heap.size w W1 ∧ _›
      go_wp2
      go_ret
      exact ⟨by rw [HN.out]; simp, hB9⟩)
  · rw [decide_eq_false heq] at HN
    generalize bs (cjq n zs e q a) n = P at *
    generalize bs q n = Q at *
    have hpi : ¬ ((P : Int) = (Q : Int)) := by omega
    go_enter Tryd.func98, Tryd.ntmps98
    go_wp2_with fail
    go_region_held3 (fun W => Below w.heap.size w W ∧ W.cell? ⟨gb, 0, none⟩ = some (.int .i64 n) ∧ W.cell? ⟨gb, 1, none⟩ = some v ∧ W.cell? ⟨gb, 2, none⟩ = some (.int .i64 e) ∧ W.cell? ⟨gb, 3, none⟩ = some u ∧ W.cell? ⟨sb, 0, none⟩ = some (.int .u64 (Q : Int)))
      (first | exact hS0 | assumption | exact hS _ (bcat2 (And.left ‹_›) hl1))
      (first | (go_at_call 90; refine (HC.out _ (And.left ‹_›)).mono ?_; rintro e1 W1 ⟨rfl, hl1⟩))
    all_goals (
      have hB9 := And.left ‹Below w.heap.size w W1 ∧ _›
      go_wp2
      go_ret
      exact ⟨by rw [HN.out]; simp [hpi], hB9⟩)
set_option maxRecDepth 100000 in
set_option maxHeartbeats 2000000 in
theorem norm_ok (n : Nat) (v u : Value) (zs : List Int) (e : Nat) (q : Nat → Bool) (w : World) (hG : GA w n v e u zs) (hT : Tab w) :
    Calls Tryd.prog 69 #[.agg #[.int .i64 n, v, .int .i64 e, u], .int .u64 (bs q n)] w fun x w' => x = .returned (.int .u64 (bs (norq n zs e q) n)) ∧ Below w.heap.size w w' := by
  have hB0 : Below w.heap.size w ((w.alloc (.cells #[.int .i64 n, v, .int .i64 e, u] 64)).alloc (.cells #[.int .u64 (bs q n)] 70)) := (balloc w _).alloc (by simp) _
  have hX0 : Box4 ((w.alloc (.cells #[.int .i64 n, v, .int .i64 e, u] 64)).alloc (.cells #[.int .u64 (bs q n)] 70)) w.heap.size n e v u := ⟨(blk4 _ _ _ _).alloc _⟩
  have hS0 := Boxed.new (w.alloc (.cells #[.int .i64 n, v, .int .i64 e, u] 64)) 70 (.int .u64 (bs q n))
  rw [World.size_alloc] at hS0
  obtain ⟨c0, c1, c2, c3⟩ := hX0.cells
  go_enter Tryd.func69, Tryd.ntmps69
  go_wp2_with fail
  generalize (w.alloc (.cells #[.int .i64 n, v, .int .i64 e, u] 64)).alloc (.cells #[.int .u64 (bs q n)] 70) = w0 at *
  refine (those_ok n 98 v u e #[.pointer (some ⟨w.heap.size, 0, none⟩), .pointer (some ⟨w.heap.size + 1, 0, none⟩)] (norq n zs e q) w0 hG.le (fun a W => call116 a _ _ W) (fun W a hW ha => nor1_ok n v u zs e a w.heap.size (w.heap.size + 1) q W ((hG.below hB0).below hW) ((hT.below hB0).below hW) ha (hX0.below hW) (Boxed.below hS0 hW))).mono ?_
  rintro x w3 ⟨rfl, hb3⟩
  go_wp2
  go_ret
  exact ⟨rfl, bcat2 hB0 hb3⟩
set_option maxRecDepth 100000 in
set_option maxHeartbeats 4000000 in
theorem osub_good (n e : Nat) (v u : Value) (zs ls : List Int) (w : World) (hv : Sl w v zs) (hg : IsGrp n zs e) (hu : Sl w u ls) (hT : Tab w) (hc : lfault n ls = (0, 0)) (hsb : subT n zs e (pset ls) = true) :
    Calls Tryd.prog 68 #[.agg #[.int .i64 n, v], u] w fun x w' => ∃ iv9, x = .returned (.tuple #[.agg #[.int .i64 n, v, .int .i64 e, iv9], .int .u64 (bs (pset ls) n), .agg #[.int .i64 0, .int .i64 0]]) ∧ SlF w.heap.size w' iv9 (li ((List.range n).map (iv n zs e))) ∧ Below w.heap.size w w' := by
  obtain ⟨va, vl, vc, rfl⟩ := hv.isSlice
  obtain ⟨w0, BG⟩ := Beg4.new w n (.slice va vl vc)
  have hv0 := hv.below BG.bel
  have hu0 := hu.below BG.bel
  obtain ⟨c0, c1, _, _⟩ := BG.box.two
  have HCK := hide (oset_good n e (.slice va vl vc) u zs ls w0 hv0 hg hu0 hc)
  obtain ⟨p, hp⟩ := mkd_test n zs e (pset ls)
  have hpe0 := subT_made hp hg.elt (fun a b ha hb => tm_lt hg.tab ha hb)
  rw [hsb] at hpe0
  have hpe : bs p n = bs (pset ls) n := by simpa using hpe0.symm
  clear hpe0
  have HMK := hide (fun W iv8 (h : GA W n (.slice va vl vc) e iv8 zs) (h2 : Tab W) => made_ok n (.slice va vl vc) iv8 zs e (pset ls) p W h h2 hp)
  rw [hpe] at HMK
  clear hc hsb hp hpe
  rw [BG.eq] at c0 c1
  go_enter Tryd.func68, Tryd.ntmps68
  go_wp2_with fail
  rw [← BG.eq]
  refine HCK.out.mono ?_
  rintro x w1 ⟨iv9, rfl, hGA, hb1⟩
  obtain ⟨ia, il, ic, rfl⟩ := hGA.sl.isSlice
  clear c0 c1 HCK
  obtain ⟨w2, hw2⟩ : ∃ w2, w2 = (w1.alloc (.cells #[.int .i64 n, (.slice va vl vc), .int .i64 e, (.slice ia il ic)] 64)).alloc (.cells #[.int .i64 0, .int .i64 0] 27) := ⟨_, rfl⟩
  have hb2 : Below w1.heap.size w1 w2 := by rw [hw2]; exact (balloc w1 _).alloc (by simp) _
  have hB1 : Below w0.heap.size w0 w2 := bcat2 hb1 hb2
  have hF1 : Blk w2 (w1.heap.size + 1) 27 [.int .i64 0, .int .i64 0] := by
    rw [hw2]
    have := blk0 (w := w1.alloc (.cells #[.int .i64 n, (.slice va vl vc), .int .i64 e, (.slice ia il ic)] 64)) (T := 27) (.int .i64 0) (.int .i64 0)
    rwa [World.size_alloc] at this
  have hH1 : Blk w2 w1.heap.size 64 [.int .i64 n, (.slice va vl vc), .int .i64 e, (.slice ia il ic)] := by
    rw [hw2]; exact (blk4 _ _ _ _).alloc _
  obtain ⟨t0, t1, _, _⟩ := hF1.two
  obtain ⟨_, k0, k1, k2, k3, _⟩ := Four.mk' hH1
  rw [hw2] at t0 t1 k0 k1 k2 k3
  go_wp2_with fail
  rw [← hw2]
  clear t0 t1 k0 k1 k2 k3 hw2
  have hGA2 : GA w2 n (.slice va vl vc) e (.slice ia il ic) zs := ⟨hg, hv0.below hB1, (hGA.below hb2).sl⟩
  refine (HMK.out w2 _ hGA2 ((hT.below BG.bel).below hB1)).mono ?_
  rintro x w3 ⟨rfl, hb3⟩
  have hB3 := bcat2 hB1 hb3
  obtain ⟨_, f0, f1, ff0, ff1, fs0, fs1⟩ := Two.mk' (blk_below hF1 hb3)
  have hBw3 := bcat BG.bel hB3 BG.bel.size
  have hG3 := blk_below BG.grp hB3
  obtain ⟨_, h0, h1, h2, h3, _⟩ := Four.mk' (blk_below hH1 hb3)
  obtain ⟨_, g0, g1, g2, g3, gf0, gf1, gf2, gf3, _⟩ := Four.mk' hG3
  obtain ⟨hR3, y0, y1, fy0, fy1, s0, s1⟩ := Two.mk' (blk_below BG.res hB3)
  have hGA3 := (hGA.below (bcat2 hb2 hb3)).mono (show w.heap.size + 3 ≤ w0.heap.size by rw [BG.size]; exact Nat.le_refl _)
  go_wp2
  obtain ⟨W, hW, hG8, hR8, hB8, hS8, hK8⟩ := put6 hG3 hR3 hBw3 (.int .i64 n) (.slice va vl vc) (.int .i64 e) (.slice ia il ic) (.int .i64 0) (.int .i64 0)
  rw [← hW]
  clear hW
  obtain ⟨z0, z1, _, _⟩ := hR8.two
  obtain ⟨_, q0, q1, q2, q3, _⟩ := Four.mk' hG8
  have hGA9 := (hGA3.keep (fun b h1 _ => hK8 b h1) (by omega)).mono (show w.heap.size ≤ w.heap.size + 3 by omega)
  exact bodyPost_ret (v := .tuple #[.agg #[.int .i64 n, .slice va vl vc, .int .i64 e, .slice ia il ic], .int .u64 (bs (pset ls) n), .agg #[.int .i64 0, .int .i64 0]]) (by simp [results, Tryd.results68, go_sem, z0, z1, q0, q1, q2, q3]) rfl ⟨_, rfl, hGA9, hB8⟩
set_option maxRecDepth 100000 in
set_option maxHeartbeats 4000000 in
theorem nrm_good (n e : Nat) (v u0 : Value) (zs l0 : List Int) (w : World) (hv : Sl w v zs) (hg : IsGrp n zs e) (hu : Sl w u0 l0) (hT : Tab w) (hc : lfault n l0 = (0, 0)) (hs : subT n zs e (pset l0) = true) :
    Calls Tryd.prog 33 #[.agg #[.int .i64 n, v], u0] w fun x w' => x = .returned (.tuple #[.bool (nrmq n zs e (pset l0)), .agg #[.int .i64 0, .int .i64 0]]) ∧ Below w.heap.size w w' := by
  obtain ⟨va, vl, vc, rfl⟩ := hv.isSlice
  obtain ⟨w0, BG⟩ := Beg.new w n (.slice va vl vc)
  have hv0 := hv.below BG.bel
  obtain ⟨c0, c1, _, _⟩ := BG.box.two
  have HCK := hide (osub_good n e (.slice va vl vc) u0 zs l0 w0 hv0 hg (hu.below BG.bel) (hT.below BG.bel) hc hs)
  have HZ0 := hide (show w.heap.size + 2 ≤ w0.heap.size by rw [BG.eq]; simp)
  rw [BG.eq] at c0 c1
  go_enter Tryd.func33, Tryd.ntmps33
  go_wp2_with fail
  rw [← BG.eq]
  refine HCK.out.mono ?_
  rintro x w1 ⟨iv9, rfl, hSI, hb1⟩
  obtain ⟨ia, il, ic, rfl⟩ := hSI.sl.isSlice
  clear c0 c1 HCK
  obtain ⟨w2, hw2⟩ : ∃ w2, w2 = (w1.alloc (.cells #[.int .i64 n, (.slice va vl vc), .int .i64 e, (.slice ia il ic)] 64)).alloc (.cells #[.int .i64 0, .int .i64 0] 27) := ⟨_, rfl⟩
  have hb2 : Below w1.heap.size w1 w2 := by rw [hw2]; exact (balloc w1 _).alloc (by simp) _
  have hB1 : Below w0.heap.size w0 w2 := bcat2 hb1 hb2
  have hF1 : Blk w2 (w1.heap.size + 1) 27 [.int .i64 0, .int .i64 0] := by
    rw [hw2]
    have := blk0 (w := w1.alloc (.cells #[.int .i64 n, (.slice va vl vc), .int .i64 e, (.slice ia il ic)] 64)) (T := 27) (.int .i64 0) (.int .i64 0)
    rwa [World.size_alloc] at this
  have hH2 : Blk w2 w1.heap.size 64 [.int .i64 n, (.slice va vl vc), .int .i64 e, (.slice ia il ic)] := by
    rw [hw2]; exact (blk4 _ _ _ _).alloc _
  have hBw2 := bcat BG.bel hB1 BG.bel.size
  have hR2 := blk_below BG.res hB1
  have hT2 := hT.below hBw2
  have hGA2 : GA w2 n (.slice va vl vc) e (.slice ia il ic) zs := ⟨hg, hv.below hBw2, (hSI.below hb2).sl⟩
  obtain ⟨t0, t1, _, _⟩ := hF1.two
  obtain ⟨_, h0, h1, h2, h3, _⟩ := Four.mk' hH2
  have hx2 := blk_below BG.box hB1
  have HZ1 := hide (Nat.le_trans HZ0.out hb1.size)
  have HZ2 := hide hb2.size
  rw [hw2] at t0 t1 h0 h1 h2 h3
  go_wp2_with fail
  rw [← hw2]
  rw [← hw2] at t0 t1 h0 h1 h2 h3
  clear hw2
  have hS : ∀ W, Below w2.heap.size w2 W → (Below w2.heap.size w2 W ∧ W.cell? ⟨w1.heap.size, 0, none⟩ = some (.int .i64 n) ∧ W.cell? ⟨w1.heap.size, 1, none⟩ = some (.slice va vl vc) ∧ W.cell? ⟨w1.heap.size, 2, none⟩ = some (.int .i64 e) ∧ W.cell? ⟨w1.heap.size, 3, none⟩ = some (.slice ia il ic) ∧ W.cell? ⟨w.heap.size + 1, 0, none⟩ = some (.int .i64 0) ∧ W.cell? ⟨w.heap.size + 1, 1, none⟩ = some (.int .i64 0) ∧ W.frozen? ⟨w.heap.size + 1, 0, none⟩ = false ∧ W.frozen? ⟨w.heap.size + 1, 1, none⟩ = false ∧ W.setCell ⟨w.heap.size + 1, 0, none⟩ (.int .i64 0) = W ∧ W.setCell ⟨w.heap.size + 1, 1, none⟩ (.int .i64 0) = W) := fun W h => by
    obtain ⟨_, y0, y1, fy0, fy1, s0, s1⟩ := Two.mk' (blk_below hR2 h)
    exact ⟨h, below_cell h h0, below_cell h h1, below_cell h h2, below_cell h h3, y0, y1, fy0, fy1, s0, s1⟩
  have hS0 := hS _ (bdrew (Below.refl _ w2))
  have HA := hide (fun W => all_ok n (.slice va vl vc) (.slice ia il ic) e W hg.tab.le)
  have HC := hide (fun W (h : Below w2.heap.size w2 W) => norm_ok n (.slice va vl vc) (.slice ia il ic) zs e (pset l0) W (hGA2.below h) (hT2.below h))
  clear h0 h1 h2 h3 t0 t1
  have HN : Hid (nrmq n zs e (pset l0) = decide (bs (norq n zs e (pset l0)) n = bs (fun _ => true) n)) := rfl
  by_cases heq : bs (norq n zs e (pset l0)) n = bs (fun _ => true) n
  · rw [heq] at HC HN
    rw [decide_eq_true rfl] at HN
    generalize bs (norq n zs e (pset l0)) n = P at *
    generalize bs (fun _ => true) n = A at *
    
    go_region_held3 (fun W => Below w2.heap.size w2 W ∧ W.cell? ⟨w1.heap.size, 0, none⟩ = some (.int .i64 n) ∧ W.cell? ⟨w1.heap.size, 1, none⟩ = some (.slice va vl vc) ∧ W.cell? ⟨w1.heap.size, 2, none⟩ = some (.int .i64 e) ∧ W.cell? ⟨w1.heap.size, 3, none⟩ = some (.slice ia il ic) ∧ W.cell? ⟨w.heap.size + 1, 0, none⟩ = some (.int .i64 0) ∧ W.cell? ⟨w.heap.size + 1, 1, none⟩ = some (.int .i64 0) ∧ W.frozen? ⟨w.heap.size + 1, 0, none⟩ = false ∧ W.frozen? ⟨w.heap.size + 1, 1, none⟩ = false ∧ W.setCell ⟨w.heap.size + 1, 0, none⟩ (.int .i64 0) = W ∧ W.setCell ⟨w.heap.size + 1, 1, none⟩ (.int .i64 0) = W)
      (first | exact hS0 | assumption | exact hS _ (bcat2 (And.left ‹_›) hl1))
      (first
        | (go_at_call 69; refine (HC.out _ (And.left ‹_›)).mono ?_; rintro e1 W1 ⟨rfl, hl1⟩)
        | (go_at_call 60; refine (HA.out _).mono ?_; rintro e2 W2 ⟨rfl, hl1⟩))
    all_goals (
      obtain ⟨hB9, _, _, _, _, y0, y1, _⟩ := ‹Below w2.heap.size w2 W2 ∧ _›
      have hBz := bcat hBw2 hB9 hBw2.size
      clear hS hS0
      go_wp2
      exact bodyPost_ret (v := .tuple #[.bool true, .agg #[.int .i64 0, .int .i64 0]]) (by simp [results, Tryd.results33, go_sem, y0, y1]) rfl ⟨by rw [HN.out], hBz⟩)
  · skip
    rw [decide_eq_false heq] at HN
    generalize bs (norq n zs e (pset l0)) n = P at *
    generalize bs (fun _ => true) n = A at *
    have hpi : ¬ ((P : Int) = (A : Int)) := by omega
    go_region_held3 (fun W => Below w2.heap.size w2 W ∧ W.cell? ⟨w1.heap.size, 0, none⟩ = some (.int .i64 n) ∧ W.cell? ⟨w1.heap.size, 1, none⟩ = some (.slice va vl vc) ∧ W.cell? ⟨w1.heap.size, 2, none⟩ = some (.int .i64 e) ∧ W.cell? ⟨w1.heap.size, 3, none⟩ = some (.slice ia il ic) ∧ W.cell? ⟨w.heap.size + 1, 0, none⟩ = some (.int .i64 0) ∧ W.cell? ⟨w.heap.size + 1, 1, none⟩ = some (.int .i64 0) ∧ W.frozen? ⟨w.heap.size + 1, 0, none⟩ = false ∧ W.frozen? ⟨w.heap.size + 1, 1, none⟩ = false ∧ W.setCell ⟨w.heap.size + 1, 0, none⟩ (.int .i64 0) = W ∧ W.setCell ⟨w.heap.size + 1, 1, none⟩ (.int .i64 0) = W)
      (first | exact hS0 | assumption | exact hS _ (bcat2 (And.left ‹_›) hl1))
      (first
        | (go_at_call 69; refine (HC.out _ (And.left ‹_›)).mono ?_; rintro e1 W1 ⟨rfl, hl1⟩)
        | (go_at_call 60; refine (HA.out _).mono ?_; rintro e2 W2 ⟨rfl, hl1⟩))
    all_goals (
      obtain ⟨hB9, _, _, _, _, y0, y1, _⟩ := ‹Below w2.heap.size w2 W2 ∧ _›
      have hBz := bcat hBw2 hB9 hBw2.size
      clear hS hS0
      go_wp2
      exact bodyPost_ret (v := .tuple #[.bool false, .agg #[.int .i64 0, .int .i64 0]]) (by simp [results, Tryd.results33, go_sem, y0, y1, hpi]) rfl ⟨by rw [HN.out], hBz⟩)
set_option maxRecDepth 100000 in
set_option maxHeartbeats 4000000 in
theorem osub_bads (N : Int) (v u : Value) (zs ls : List Int) (w : World) (hv : Sl w v zs) (hu : Sl w u ls) (hc : (sfault N zs ls).1 ≠ 0) :
    Calls Tryd.prog 68 #[.agg #[.int .i64 N, v], u] w fun x w' => x = .returned (.tuple #[.agg #[.int .i64 0, .slice none 0 0, .int .i64 0, .slice none 0 0], .int .u64 0, .agg #[.int .i64 (sfault N zs ls).1, .int .i64 (sfault N zs ls).2]]) ∧ Below w.heap.size w w' := by
  obtain ⟨w0, BG⟩ := Beg4.new w N v
  have hv0 := hv.below BG.bel
  obtain ⟨c0, c1, _, _⟩ := BG.box.two
  have hck := oset_bad N v u zs ls w0 hv0 (hu.below BG.bel) hc
  obtain ⟨c, i, hci⟩ : ∃ c i, sfault N zs ls = (c, i) := ⟨_, _, rfl⟩
  rw [hci] at hck hc ⊢
  simp only at hc hck
  have HCK := hide hck
  clear hck hci
  have hcb : (c != 0) = true := by simpa using hc
  rw [BG.eq] at c0 c1
  go_enter Tryd.func68, Tryd.ntmps68
  go_wp2_with fail
  rw [← BG.eq]
  refine HCK.out.mono ?_
  rintro x w1 ⟨rfl, hb1⟩
  clear c0 c1
  obtain ⟨w2, hw2⟩ : ∃ w2, w2 = (w1.alloc (.cells #[.int .i64 0, .slice none 0 0, .int .i64 0, .slice none 0 0] 64)).alloc (.cells #[.int .i64 c, .int .i64 i] 27) := ⟨_, rfl⟩
  have hB1 : Below w0.heap.size w0 w2 := by rw [hw2]; exact bcat2 hb1 ((balloc w1 _).alloc (by simp) _)
  have hF1 : Blk w2 (w1.heap.size + 1) 27 [.int .i64 c, .int .i64 i] := by
    rw [hw2]
    have := blk0 (w := w1.alloc (.cells #[.int .i64 0, .slice none 0 0, .int .i64 0, .slice none 0 0] 64)) (T := 27) (.int .i64 c) (.int .i64 i)
    rwa [World.size_alloc] at this
  obtain ⟨hG1, g0, g1, g2, g3, gf0, gf1, gf2, gf3, gs0, gs1, gs2, gs3⟩ := Four.mk' (blk_below BG.grp hB1)
  have hR1 := blk_below BG.res hB1
  have hBw := bcat BG.bel hB1 BG.bel.size
  obtain ⟨y0, y1, fy0, fy1⟩ := hR1.two
  obtain ⟨t0, t1, _, _⟩ := hF1.two
  rw [hw2] at t0 t1
  go_wp2_with fail
  rw [← hw2]
  rw [← hw2] at t0 t1
  clear hw2
  go_region
  all_goals (
    go_wp2
    obtain ⟨hR6, hB6⟩ := put2 hR1 hBw (by omega) c i
    have hB7 := bdrew hB6
    have hR7 : Blk ((w2.setCell ⟨w.heap.size + 1 + 1, 0, none⟩ (.int .i64 c)).setCell ⟨w.heap.size + 1 + 1, 1, none⟩ (.int .i64 i)).drew (w.heap.size + 1 + 1) 27 [.int .i64 c, .int .i64 i] := hR6
    have hG7 : Blk ((w2.setCell ⟨w.heap.size + 1 + 1, 0, none⟩ (.int .i64 c)).setCell ⟨w.heap.size + 1 + 1, 1, none⟩ (.int .i64 i)).drew (w.heap.size + 1) 64 [.int .i64 0, .slice none 0 0, .int .i64 0, .slice none 0 0] :=
      (hG1.other (p := ⟨w.heap.size + 1 + 1, 0, none⟩) (by simp) (.int .i64 c)).other (p := ⟨w.heap.size + 1 + 1, 1, none⟩) (by simp) (.int .i64 i)
    generalize ((w2.setCell ⟨w.heap.size + 1 + 1, 0, none⟩ (.int .i64 c)).setCell ⟨w.heap.size + 1 + 1, 1, none⟩ (.int .i64 i)).drew = W at hR7 hB7 hG7 ⊢
    obtain ⟨z0, z1, _, _⟩ := hR7.two
    obtain ⟨_, q0, q1, q2, q3, _⟩ := Four.mk' hG7
    exact bodyPost_ret (v := .tuple #[.agg #[.int .i64 0, .slice none 0 0, .int .i64 0, .slice none 0 0], .int .u64 0, .agg #[.int .i64 c, .int .i64 i]]) (by simp [results, Tryd.results68, go_sem, z0, z1, q0, q1, q2, q3]) rfl ⟨rfl, hB7⟩)
set_option maxRecDepth 100000 in
set_option maxHeartbeats 4000000 in
theorem osub_badu (n e : Nat) (v u : Value) (zs ls : List Int) (w : World) (hv : Sl w v zs) (hg : IsGrp n zs e) (hu : Sl w u ls) (hT : Tab w) (hc : lfault n ls = (0, 0)) (hsb : subT n zs e (pset ls) = false) :
    Calls Tryd.prog 68 #[.agg #[.int .i64 n, v], u] w fun x w' => x = .returned (.tuple #[.agg #[.int .i64 0, .slice none 0 0, .int .i64 0, .slice none 0 0], .int .u64 0, .agg #[.int .i64 7, .int .i64 0]]) ∧ Below w.heap.size w w' := by
  obtain ⟨va, vl, vc, rfl⟩ := hv.isSlice
  obtain ⟨w0, BG⟩ := Beg4.new w n (.slice va vl vc)
  have hv0 := hv.below BG.bel
  have hu0 := hu.below BG.bel
  obtain ⟨c0, c1, _, _⟩ := BG.box.two
  have HCK := hide (oset_good n e (.slice va vl vc) u zs ls w0 hv0 hg hu0 hc)
  obtain ⟨p, hp⟩ := mkd_test n zs e (pset ls)
  have hpe0 := subT_made hp hg.elt (fun a b ha hb => tm_lt hg.tab ha hb)
  rw [hsb] at hpe0
  have hpe : ¬ bs p n = bs (pset ls) n := by simpa using hpe0.symm
  have hpi : ¬ ((bs p n : Nat) : Int) = ((bs (pset ls) n : Nat) : Int) := by omega
  clear hpe0
  have HMK := hide (fun W iv8 (h : GA W n (.slice va vl vc) e iv8 zs) (h2 : Tab W) => made_ok n (.slice va vl vc) iv8 zs e (pset ls) p W h h2 hp)
  clear hc hsb hp hpe
  rw [BG.eq] at c0 c1
  go_enter Tryd.func68, Tryd.ntmps68
  go_wp2_with fail
  rw [← BG.eq]
  refine HCK.out.mono ?_
  rintro x w1 ⟨iv9, rfl, hGA, hb1⟩
  obtain ⟨ia, il, ic, rfl⟩ := hGA.sl.isSlice
  clear c0 c1 HCK
  obtain ⟨w2, hw2⟩ : ∃ w2, w2 = (w1.alloc (.cells #[.int .i64 n, (.slice va vl vc), .int .i64 e, (.slice ia il ic)] 64)).alloc (.cells #[.int .i64 0, .int .i64 0] 27) := ⟨_, rfl⟩
  have hb2 : Below w1.heap.size w1 w2 := by rw [hw2]; exact (balloc w1 _).alloc (by simp) _
  have hB1 : Below w0.heap.size w0 w2 := bcat2 hb1 hb2
  have hF1 : Blk w2 (w1.heap.size + 1) 27 [.int .i64 0, .int .i64 0] := by
    rw [hw2]
    have := blk0 (w := w1.alloc (.cells #[.int .i64 n, (.slice va vl vc), .int .i64 e, (.slice ia il ic)] 64)) (T := 27) (.int .i64 0) (.int .i64 0)
    rwa [World.size_alloc] at this
  have hH1 : Blk w2 w1.heap.size 64 [.int .i64 n, (.slice va vl vc), .int .i64 e, (.slice ia il ic)] := by
    rw [hw2]; exact (blk4 _ _ _ _).alloc _
  obtain ⟨t0, t1, _, _⟩ := hF1.two
  obtain ⟨_, k0, k1, k2, k3, _⟩ := Four.mk' hH1
  rw [hw2] at t0 t1 k0 k1 k2 k3
  go_wp2_with fail
  rw [← hw2]
  clear t0 t1 k0 k1 k2 k3 hw2
  have hGA2 : GA w2 n (.slice va vl vc) e (.slice ia il ic) zs := ⟨hg, hv0.below hB1, (hGA.below hb2).sl⟩
  refine (HMK.out w2 _ hGA2 ((hT.below BG.bel).below hB1)).mono ?_
  rintro x w3 ⟨rfl, hb3⟩
  have hB3 := bcat2 hB1 hb3
  obtain ⟨_, f0, f1, ff0, ff1, fs0, fs1⟩ := Two.mk' (blk_below hF1 hb3)
  have hBw3 := bcat BG.bel hB3 BG.bel.size
  have hG3 := blk_below BG.grp hB3
  obtain ⟨_, h0, h1, h2, h3, _⟩ := Four.mk' (blk_below hH1 hb3)
  obtain ⟨_, g0, g1, g2, g3, gf0, gf1, gf2, gf3, _⟩ := Four.mk' hG3
  obtain ⟨hR3, y0, y1, fy0, fy1, s0, s1⟩ := Two.mk' (blk_below BG.res hB3)
  have hGA3 := (hGA.below (bcat2 hb2 hb3)).mono (show w.heap.size + 3 ≤ w0.heap.size by rw [BG.size]; exact Nat.le_refl _)
  obtain ⟨_, _, _, _, _, _, _, _, _, gs0, gs1, gs2, gs3⟩ := Four.mk' hG3
  obtain ⟨hR6, hB6⟩ := put2 hR3 hBw3 (by omega) 7 0
  have hG6 := (hG3.other (p := ⟨w.heap.size + 1 + 1, 0, none⟩) (by simp) (.int .i64 7)).other (p := ⟨w.heap.size + 1 + 1, 1, none⟩) (by simp) (.int .i64 0)
  clear s0 s1
  go_wp2
  generalize (w3.setCell ⟨w.heap.size + 1 + 1, 0, none⟩ (.int .i64 7)).setCell ⟨w.heap.size + 1 + 1, 1, none⟩ (.int .i64 0) = W at hR6 hB6 hG6 ⊢
  obtain ⟨z0, z1, _, _⟩ := hR6.two
  obtain ⟨_, q0, q1, q2, q3, _⟩ := Four.mk' hG6
  exact bodyPost_ret (v := .tuple #[.agg #[.int .i64 0, .slice none 0 0, .int .i64 0, .slice none 0 0], .int .u64 0, .agg #[.int .i64 7, .int .i64 0]]) (by simp [results, Tryd.results68, go_sem, z0, z1, q0, q1, q2, q3]) rfl ⟨rfl, hB6⟩
theorem osub_bad (N : Int) (v u : Value) (zs ls : List Int) (w : World) (hv : Sl w v zs) (hu : Sl w u ls) (hT : Tab w) (hc : (ufault N zs ls).1 ≠ 0) :
    Calls Tryd.prog 68 #[.agg #[.int .i64 N, v], u] w fun x w' => x = .returned (.tuple #[.agg #[.int .i64 0, .slice none 0 0, .int .i64 0, .slice none 0 0], .int .u64 0, .agg #[.int .i64 (ufault N zs ls).1, .int .i64 (ufault N zs ls).2]]) ∧ Below w.heap.size w w' := by
  rcases ufault_cases N zs ls hc with ⟨h1, h2⟩ | ⟨n, e, rfl, hg, h1, h2, h3⟩
  · rw [h2]; exact osub_bads N v u zs ls w hv hu h1
  · rw [h3]; exact osub_badu n e v u zs ls w hv hg hu hT h1 h2
set_option maxRecDepth 100000 in
set_option maxHeartbeats 4000000 in
theorem nrm_bad (N : Int) (v u0 : Value) (zs l0 : List Int) (w : World) (hv : Sl w v zs) (hu : Sl w u0 l0) (hT : Tab w) (hc : (ufault N zs l0).1 ≠ 0) :
    Calls Tryd.prog 33 #[.agg #[.int .i64 N, v], u0] w fun x w' => x = .returned (.tuple #[.bool false, .agg #[.int .i64 (ufault N zs l0).1, .int .i64 (ufault N zs l0).2]]) ∧ Below w.heap.size w w' := by
  obtain ⟨w0, BG⟩ := Beg.new w N v
  have hv0 := hv.below BG.bel
  obtain ⟨c0, c1, _, _⟩ := BG.box.two
  have hck := osub_bad N v u0 zs l0 w0 hv0 (hu.below BG.bel) (hT.below BG.bel) hc
  obtain ⟨c, i, hci⟩ : ∃ c i, ufault N zs l0 = (c, i) := ⟨_, _, rfl⟩
  rw [hci] at hck hc ⊢
  simp only at hc hck
  have HCK := hide hck
  clear hck hci
  have hcb : (c != 0) = true := by simpa using hc
  rw [BG.eq] at c0 c1
  go_enter Tryd.func33, Tryd.ntmps33
  go_wp2_with fail
  rw [← BG.eq]
  refine HCK.out.mono ?_
  rintro x w1 ⟨rfl, hb1⟩
  clear c0 c1
  obtain ⟨w2, hw2⟩ : ∃ w2, w2 = (w1.alloc (.cells #[.int .i64 0, .slice none 0 0, .int .i64 0, .slice none 0 0] 64)).alloc (.cells #[.int .i64 c, .int .i64 i] 27) := ⟨_, rfl⟩
  have hB1 : Below w0.heap.size w0 w2 := by rw [hw2]; exact bcat2 hb1 ((balloc w1 _).alloc (by simp) _)
  have hF1 : Blk w2 (w1.heap.size + 1) 27 [.int .i64 c, .int .i64 i] := by
    rw [hw2]
    have := blk0 (w := w1.alloc (.cells #[.int .i64 0, .slice none 0 0, .int .i64 0, .slice none 0 0] 64)) (T := 27) (.int .i64 c) (.int .i64 i)
    rwa [World.size_alloc] at this
  have hR1 := blk_below BG.res hB1
  have hBw := bcat BG.bel hB1 BG.bel.size
  obtain ⟨y0, y1, fy0, fy1⟩ := hR1.two
  obtain ⟨t0, t1, _, _⟩ := hF1.two
  rw [hw2] at t0 t1
  go_wp2_with fail
  rw [← hw2]
  rw [← hw2] at t0 t1
  clear hw2
  go_region
  all_goals (
    go_wp2
    obtain ⟨hR6, hB6⟩ := put2 hR1 hBw (by omega) c i
    have hB7 := bdrew hB6
    have hR7 : Blk ((w2.setCell ⟨w.heap.size + 1, 0, none⟩ (.int .i64 c)).setCell ⟨w.heap.size + 1, 1, none⟩ (.int .i64 i)).drew (w.heap.size + 1) 27 [.int .i64 c, .int .i64 i] := hR6
    generalize ((w2.setCell ⟨w.heap.size + 1, 0, none⟩ (.int .i64 c)).setCell ⟨w.heap.size + 1, 1, none⟩ (.int .i64 i)).drew = W at hR7 hB7 ⊢
    obtain ⟨z0, z1, _, _⟩ := hR7.two
    exact bodyPost_ret (v := .tuple #[.bool false, .agg #[.int .i64 c, .int .i64 i]]) (by simp [results, Tryd.results33, go_sem, z0, z1]) rfl ⟨rfl, hB7⟩)
end Go.Proofs.YtolbpjjjoafkkaaDoor

namespace Go.Proofs.YtolbpjjjoafkkaaDoor
open Go Go.RowKit

def Rws (W : World) (g : Nat) (ms : List (List Int)) : Prop := ∀ j, j < ms.length → ∃ a c, W.cell? ⟨g, j, none⟩ = some (.slice a (ms[j]?.getD []).length c) ∧ Sl W (.slice a (ms[j]?.getD []).length c) (ms[j]?.getD [])
theorem Rws.below {W W' : World} {g : Nat} {ms : List (List Int)} (h : Rws W g ms) (hb : Below W.heap.size W W') : Rws W' g ms := fun j hj => by
  obtain ⟨a, c, h1, h2⟩ := h j hj
  exact ⟨a, c, below_cell hb h1, h2.below hb⟩
structure SylA (n : Nat) (zs : List Int) (e p : Nat) (s : Nat → Bool) (A : List Nat) (ms : List (List Int)) : Prop where
  gr : Grown n zs e p s
  lt : ∀ a, a ∈ A → a < n
  nd : (A.map fun a => bs (cjq n zs e s a) n).Nodup
  all : ∀ a, a < n → bs (cjq n zs e s a) n ∈ A.map fun a => bs (cjq n zs e s a) n
  pm : ms.Perm (A.map fun a => li (lst n (cjq n zs e s a)))
  st : srt ms
theorem SylA.len {n e p : Nat} {zs : List Int} {s : Nat → Bool} {A : List Nat} {ms : List (List Int)} (h : SylA n zs e p s A ms) : ms.length = A.length := by
  rw [h.pm.length_eq, List.length_map]
theorem SylA.pos {n e p : Nat} {zs : List Int} {s : Nat → Bool} {A : List Nat} {ms : List (List Int)} (h : SylA n zs e p s A ms) (he : e < n) : 0 < ms.length := by
  rw [h.len]
  obtain ⟨a, ha, _⟩ := List.mem_map.1 (h.all e he)
  exact List.length_pos_of_mem ha
theorem SylA.fits {n e p : Nat} {zs : List Int} {s : Nat → Bool} {A : List Nat} {ms : List (List Int)} (h : SylA n zs e p s A ms) : ms.length ≤ n := by
  rw [h.len]
  exact nodup_fits (nd_of_map h.nd) h.lt
theorem SylA.one {n e p : Nat} {zs : List Int} {s : Nat → Bool} {A : List Nat} {ms : List (List Int)} (h : SylA n zs e p s A ms) {j : Nat} (hj : j < ms.length) : ∃ a, a ∈ A ∧ ms[j]?.getD [] = li (lst n (cjq n zs e s a)) := by
  have h1 : ms[j]?.getD [] ∈ ms := by rw [List.getElem?_eq_getElem hj]; exact List.getElem_mem hj
  obtain ⟨a, ha, h2⟩ := List.mem_map.1 (h.pm.mem_iff.1 h1)
  exact ⟨a, ha, h2.symm⟩
theorem SylA.hX {n e p : Nat} {zs : List Int} {s : Nat → Bool} {A : List Nat} {ms : List (List Int)} (h : SylA n zs e p s A ms) : ∀ c, c ∈ A.map (fun a => bs (cjq n zs e s a) n) ↔ ∃ a, a < n ∧ fc n zs e s a = c := fun c => by
  constructor
  · intro hc
    obtain ⟨a, ha, h1⟩ := List.mem_map.1 hc
    exact ⟨a, h.lt a ha, h1⟩
  · rintro ⟨a, ha, rfl⟩
    exact h.all a ha
theorem sall_nice (n e p : Nat) (v : Value) (zs : List Int) (w : World) (hv : Sl w v zs) (hg : IsGrp n zs e) (hT : Tab w) (hpr : primeB p = true) :
    Calls Tryd.prog 13 #[.agg #[.int .i64 n, v], .int .i64 p] w fun x w' => ∃ (g c : Nat) (s : Nat → Bool) (A : List Nat) (ms : List (List Int)), x = .returned (.tuple #[.slice (some ⟨g, 0, none⟩) ms.length c, .agg #[.int .i64 0, .int .i64 0]]) ∧ SylA n zs e p s A ms ∧ Rws w' g ms ∧ Below w.heap.size w w' := by
  refine (sall_good n e p v zs w hv hg hT hpr).mono ?_
  rintro x w2 ⟨r1, r2, r3, s, A, ms, rfl, hgr, hA, hnd, hall, hpm, hsr, ⟨B, us, hB, hul, hown, hls⟩, hb2⟩
  have HA : SylA n zs e p s A ms := ⟨hgr, hA, hnd, hall, hpm, hsr⟩
  have hpos := HA.pos hg.elt
  have hl : us.length = ms.length := hls.1
  have hr2 : r2 = ms.length := by rw [← hul, hl]
  subst hr2
  obtain ⟨g, rfl⟩ : ∃ g, r1 = some ⟨g, 0, none⟩ := by
    rcases hown.2 with ⟨h1, h2⟩ | ⟨g', cap, cur, h1, _⟩
    · omega
    · injection h1 with h1; exact ⟨g', h1⟩
  refine ⟨g, r3, s, A, ms, rfl, HA, fun j hj => ?_, hb2⟩
  have hju : j < us.length := by omega
  obtain ⟨a, cap, pb, po, h1, h2, h3, h4, h5, _⟩ := hls.2 j us[j] ms[j] (List.getElem?_eq_getElem hju) (List.getElem?_eq_getElem hj)
  have hc := hown.cells (g := g) rfl j _ (List.getElem?_eq_getElem hju)
  rw [show (⟨g, 0, none⟩ : Addr).add j = ⟨g, j, none⟩ by unfold Addr.add; split <;> simp_all] at hc
  rw [List.getElem?_eq_getElem hj, Option.getD_some]
  rw [h1] at hc
  exact ⟨a, cap, hc, ⟨a, cap, pb, po, rfl, h2, h3, h4, h5⟩⟩
theorem nrmq_pset {n e : Nat} {zs : List Int} {q : Nat → Bool} : nrmq n zs e (pset (li (lst n q))) = nrmq n zs e q := by
  have h1 : lst n (pset (li (lst n q))) = lst n q := lst_pset n q
  have h2 : bs (pset (li (lst n q))) n = bs q n := bs_ext fun a ha => pset_lst ha
  unfold nrmq norq cjq
  rw [h1, h2]
theorem nrm_lst (n e : Nat) (v u : Value) (zs : List Int) (q : Nat → Bool) (w : World) (hv : Sl w v zs) (hg : IsGrp n zs e) (hu : Sl w u (li (lst n q))) (hT : Tab w) (hs : subT n zs e q = true) :
    Calls Tryd.prog 33 #[.agg #[.int .i64 n, v], u] w fun x w' => x = .returned (.tuple #[.bool (nrmq n zs e q), .agg #[.int .i64 0, .int .i64 0]]) ∧ Below w.heap.size w w' := by
  have h := nrm_good n e v u zs (li (lst n q)) w hv hg hu hT (lst_fault n q) ((subT_congr hg fun a ha => pset_lst ha).trans hs)
  rwa [nrmq_pset] at h
/-- A fault that is stored where it lies. -/
theorem store_same {W : World} {b : Nat} {x y : Value} (h0 : W.cell? ⟨b, 0, none⟩ = some x) (h1 : W.cell? ⟨b, 1, none⟩ = some y) : (W.setCell ⟨b, 0, none⟩ x).setCell ⟨b, 1, none⟩ y = W := by
  rw [set_same W b 0 x h0, set_same W b 1 y h1]
end Go.Proofs.YtolbpjjjoafkkaaDoor

namespace Go.Proofs.YtolbpjjjoafkkaaDoor
variable {n e p : Nat} {zs : List Int} {s : Nat → Bool} {A : List Nat} {ms : List (List Int)}

/-- Is the order of a thing a power of p? -/
noncomputable def pwt (n : Nat) (zs : List Int) (e p a : Nat) : Bool := @decide (isPw (ordN n zs e a) p) (Classical.propDecidable _)
theorem pwt_iff {a : Nat} : pwt n zs e p a = true ↔ isPw (ordN n zs e a) p := by unfold pwt; simp
theorem SylA.size (HA : SylA n zs e p s A ms) (g : IsGrp n zs e) {j : Nat} (hj : j < ms.length) : (ms[j]?.getD []).length = (lst n s).length := by
  obtain ⟨a, ha, h⟩ := HA.one hj
  rw [h, li_len, cj_len g (HA.lt a ha)]
theorem SylA.in_one (HA : SylA n zs e p s A ms) {q : Nat → Bool} {a : Nat} (ha : a < n) (h : ∀ x, x < n → q x = true → cjq n zs e s a x = true) : ∃ j b, j < ms.length ∧ b ∈ A ∧ ms[j]?.getD [] = li (lst n (cjq n zs e s b)) ∧ ∀ x, x < n → q x = true → cjq n zs e s b x = true := by
  obtain ⟨b, hb, h1⟩ := List.mem_map.1 (HA.all a ha)
  have h2 : li (lst n (cjq n zs e s b)) ∈ ms := HA.pm.mem_iff.2 (List.mem_map.2 ⟨b, hb, rfl⟩)
  obtain ⟨j, hj, h3⟩ := List.mem_iff_getElem.1 h2
  refine ⟨j, b, hj, hb, by rw [List.getElem?_eq_getElem hj, Option.getD_some, h3], fun x hx hq => ?_⟩
  rw [bs_inj h1 x hx]
  exact h x hx hq
theorem SylA.holds (HA : SylA n zs e p s A ms) (g : IsGrp n zs e) (hpr : primeB p = true) {q : Nat → Bool} (hq : subT n zs e q = true) (hpw : isPw (lst n q).length p) : ∃ j b, j < ms.length ∧ b ∈ A ∧ ms[j]?.getD [] = li (lst n (cjq n zs e s b)) ∧ ∀ x, x < n → q x = true → cjq n zs e s b x = true := by
  obtain ⟨c, a, _, ha, _, h⟩ := syl_in g hpr HA.gr HA.nd HA.hX hq hpw
  exact HA.in_one ha h
theorem SylA.has (HA : SylA n zs e p s A ms) (g : IsGrp n zs e) (hpr : primeB p = true) {a : Nat} (ha : a < n) (h : isPw (ordN n zs e a) p) : ∃ j, j < ms.length ∧ (a : Int) ∈ ms[j]?.getD [] := by
  obtain ⟨j, b, hj, hb, h1, h2⟩ := HA.holds g hpr (q := mk1 n zs e a) (subT_iff.2 (made_sg g (mk1_iff n zs e a))) (by rw [mk1_len g ha]; exact h)
  refine ⟨j, hj, ?_⟩
  rw [h1]
  exact mem_li.2 (mem_lst.2 ⟨ha, h2 a ha ((mk1_iff n zs e a a ha).2 (Fin.Gen.base (List.mem_range.2 ha) (by simp)))⟩)
theorem SylA.cnt (HA : SylA n zs e p s A ms) (g : IsGrp n zs e) (hpr : primeB p = true) : (lst n s).length ∣ (lst n (pwt n zs e p)).length := by
  have hp := prime_of hpr
  obtain ⟨v, hn, hnd⟩ := syl_len g hpr HA.gr HA.nd HA.hX
  obtain ⟨k, hk⟩ := HA.gr.pow
  rw [hk] at hn ⊢
  have hfr := Fin.frob _ _ _ _ (grp_fg g) List.length_range (p ^ k) ⟨_, by rw [Nat.mul_comm]; exact hn⟩
  have hsame : (List.range n).filter (fun x => decide (Fin.po (tm n zs) e x (p ^ k) = e)) = lst n (pwt n zs e p) := Fin.filter_eq fun x hx => by
    have hxl := List.mem_range.1 hx
    rw [Bool.eq_iff_iff, decide_eq_true_eq, pwt_iff, ord_iff g hxl]
    constructor
    · exact fun h => dvd_pw hp k _ h
    · rintro ⟨j, hj⟩
      rw [hj]
      refine pp_dvd hp hnd ?_
      rw [← hn, ← hj, ← mk1_len g hxl]
      exact sub_dvd g (subT_iff.2 (made_sg g (mk1_iff n zs e x)))
  unfold Fin.cnt at hfr
  rw [hsame] at hfr
  exact hfr
theorem lst_up {q : Nat → Bool} {k : Nat} : (lst (k + 1) q).length = (lst k q).length + (if q k = true then 1 else 0) := by
  unfold lst
  rw [List.range_succ, List.filter_append, List.length_append]
  by_cases h : q k = true
  · simp [h]
  · simp [h]
end Go.Proofs.YtolbpjjjoafkkaaDoor

namespace Go.Proofs.YtolbpjjjoafkkaaDoor
open Go Go.RowKit

set_option maxRecDepth 100000 in
set_option maxHeartbeats 4000000 in
theorem nor_good (n e : Nat) (v u0 : Value) (zs l0 : List Int) (w : World) (hv : Sl w v zs) (hg : IsGrp n zs e) (hu : Sl w u0 l0) (hT : Tab w) (hc : lfault n l0 = (0, 0)) (hs : subT n zs e (pset l0) = true) :
    Calls Tryd.prog 27 #[.agg #[.int .i64 n, v], u0] w fun x w' => ∃ r, x = .returned (.tuple #[r, .agg #[.int .i64 0, .int .i64 0]]) ∧ SlF w.heap.size w' r (li (lst n (norq n zs e (pset l0)))) ∧ Below w.heap.size w w' := by
  obtain ⟨va, vl, vc, rfl⟩ := hv.isSlice
  obtain ⟨w0, BG⟩ := Beg.new w n (.slice va vl vc)
  have hv0 := hv.below BG.bel
  obtain ⟨c0, c1, _, _⟩ := BG.box.two
  have HCK := hide (osub_good n e (.slice va vl vc) u0 zs l0 w0 hv0 hg (hu.below BG.bel) (hT.below BG.bel) hc hs)
  have HZ0 := hide (show w.heap.size + 2 ≤ w0.heap.size by rw [BG.eq]; simp)
  rw [BG.eq] at c0 c1
  go_enter Tryd.func27, Tryd.ntmps27
  go_wp2_with fail
  rw [← BG.eq]
  refine HCK.out.mono ?_
  rintro x w1 ⟨iv9, rfl, hSI, hb1⟩
  obtain ⟨ia, il, ic, rfl⟩ := hSI.sl.isSlice
  clear c0 c1 HCK
  obtain ⟨w2, hw2⟩ : ∃ w2, w2 = (w1.alloc (.cells #[.int .i64 n, (.slice va vl vc), .int .i64 e, (.slice ia il ic)] 64)).alloc (.cells #[.int .i64 0, .int .i64 0] 27) := ⟨_, rfl⟩
  have hb2 : Below w1.heap.size w1 w2 := by rw [hw2]; exact (balloc w1 _).alloc (by simp) _
  have hB1 : Below w0.heap.size w0 w2 := bcat2 hb1 hb2
  have hF1 : Blk w2 (w1.heap.size + 1) 27 [.int .i64 0, .int .i64 0] := by
    rw [hw2]
    have := blk0 (w := w1.alloc (.cells #[.int .i64 n, (.slice va vl vc), .int .i64 e, (.slice ia il ic)] 64)) (T := 27) (.int .i64 0) (.int .i64 0)
    rwa [World.size_alloc] at this
  have hH2 : Blk w2 w1.heap.size 64 [.int .i64 n, (.slice va vl vc), .int .i64 e, (.slice ia il ic)] := by
    rw [hw2]; exact (blk4 _ _ _ _).alloc _
  have hBw2 := bcat BG.bel hB1 BG.bel.size
  have hR2 := blk_below BG.res hB1
  have hT2 := hT.below hBw2
  have hGA2 : GA w2 n (.slice va vl vc) e (.slice ia il ic) zs := ⟨hg, hv.below hBw2, (hSI.below hb2).sl⟩
  obtain ⟨t0, t1, _, _⟩ := hF1.two
  obtain ⟨_, h0, h1, h2, h3, _⟩ := Four.mk' hH2
  have hx2 := blk_below BG.box hB1
  have HZ1 := hide (Nat.le_trans HZ0.out hb1.size)
  have HZ2 := hide hb2.size
  rw [hw2] at t0 t1 h0 h1 h2 h3
  go_wp2_with fail
  rw [← hw2]
  clear hw2 t0 t1 h0 h1 h2 h3
  refine (norm_ok n _ _ zs e (pset l0) w2 hGA2 hT2).mono ?_
  rintro x w3 ⟨rfl, hb3⟩
  go_wp2_with fail
  refine (list_ok n (norq n zs e (pset l0)) w3 hg.tab.le (hT2.below hb3)).mono ?_
  rintro x w4 ⟨r, rfl, hr, hb4⟩
  have hb5 := bcat2 hb3 hb4
  have hB5 := bcat hBw2 hb5 hBw2.size
  obtain ⟨_, y0, y1, fy0, fy1, s0, s1⟩ := Two.mk' (blk_below hR2 hb5)
  have hr9 := hr.mono (show w.heap.size ≤ w3.heap.size from Nat.le_trans hBw2.size hb3.size)
  go_wp2
  exact bodyPost_ret (v := .tuple #[r, .agg #[.int .i64 0, .int .i64 0]]) (by simp [results, Tryd.results27, go_sem, y0, y1]) rfl ⟨_, rfl, hr9, hB5⟩
theorem nor_lst (n e : Nat) (v u : Value) (zs : List Int) (q : Nat → Bool) (w : World) (hv : Sl w v zs) (hg : IsGrp n zs e) (hu : Sl w u (li (lst n q))) (hT : Tab w) (hs : subT n zs e q = true) :
    Calls Tryd.prog 27 #[.agg #[.int .i64 n, v], u] w fun x w' => ∃ (a : Option Addr) (c : Nat), x = .returned (.tuple #[.slice a (lst n (norq n zs e q)).length c, .agg #[.int .i64 0, .int .i64 0]]) ∧ Sl w' (.slice a (lst n (norq n zs e q)).length c) (li (lst n (norq n zs e q))) ∧ Below w.heap.size w w' := by
  have h := nor_good n e v u zs (li (lst n q)) w hv hg hu hT (lst_fault n q) ((subT_congr hg fun a ha => pset_lst ha).trans hs)
  have h1 : lst n (norq n zs e (pset (li (lst n q)))) = lst n (norq n zs e q) := lst_congr fun a _ => by
    have h1 : lst n (pset (li (lst n q))) = lst n q := lst_pset n q
    have h2 : bs (pset (li (lst n q))) n = bs q n := bs_ext fun a ha => pset_lst ha
    unfold norq cjq
    rw [h1, h2]
  rw [h1] at h
  refine h.mono ?_
  rintro x w1 ⟨r, rfl, hr, hb⟩
  have hr := hr.sl
  obtain ⟨a, c, _, _, rfl, _⟩ := id hr
  rw [li_len] at hr ⊢
  exact ⟨a, c, rfl, hr, hb⟩
end Go.Proofs.YtolbpjjjoafkkaaDoor

namespace Go.Proofs.YtolbpjjjoafkkaaDoor
open Go Go.RowKit

set_option maxRecDepth 100000 in
set_option maxHeartbeats 8000000 in
theorem shol_bad (N p : Int) (v1 : Option Addr) (v2 v3 : Nat) (u1 : Option Addr) (u2 u3 : Nat) (zs : List Int) (w : World) (hv : Sl w (.slice v1 v2 v3) zs) (hT : Tab w) (hc : (pfault N zs p).1 ≠ 0) :
    Calls Tryd.prog 4 #[.agg #[.int .i64 N, .slice v1 v2 v3], .int .i64 p, .slice u1 u2 u3] w fun e w' => e = .returned (.bool true) ∧ Below w.heap.size w w' := by
  have HOP := hide (fun W (h : Below w.heap.size w W) => sopen_any N p (.slice v1 v2 v3) zs W (hv.below h) hc)
  have HAL := hide (fun W (h : Below w.heap.size w W) => sall_bad N p _ _ (.slice v1 v2 v3) W hc (fun W9 h9 => HOP.out W9 (bcat2 h h9)))
  have HPF := hide (fun W (h : Below w.heap.size w W) => pf_ok N p (.slice v1 v2 v3) zs W (hv.below h))
  generalize pfault N zs p = pf at *
  obtain ⟨c, i⟩ := pf
  simp only at hc HAL HPF
  have hcb : (c != 0) = true := by simpa using hc
  have hB0 : Below w.heap.size w (w.alloc (.cells #[.int .i64 N, .slice v1 v2 v3] 24)) := balloc w _
  have hX0 : BoxG (w.alloc (.cells #[.int .i64 N, .slice v1 v2 v3] 24)) w.heap.size N (.slice v1 v2 v3) := blk0 (w := w) (T := 24) _ _
  go_enter Tryd.func4, Tryd.ntmps4
  go_wp2_with fail
  generalize w.alloc (.cells #[.int .i64 N, .slice v1 v2 v3] 24) = w0 at *
  refine (sylowBegun_any _ (hT.below hB0)).mono ?_
  rintro x w1 ⟨rfl, hb1⟩
  have hB1 := bcat2 hB0 hb1
  have hX1 := blk_below hX0 hb1
  obtain ⟨c0, c1, _, _⟩ := hX1.two
  go_wp2_with fail
  clear c0 c1
  refine (HAL.out _ hB1).mono ?_
  rintro x w2 ⟨rfl, hb2⟩
  obtain ⟨w3, hw3⟩ : ∃ w3, w3 = w2.alloc (.cells #[.int .i64 c, .int .i64 i] 27) := ⟨_, rfl⟩
  have hb3 : Below w2.heap.size w2 w3 := by rw [hw3]; exact balloc w2 _
  have hF3 : Blk w3 w2.heap.size 27 [.int .i64 c, .int .i64 i] := by rw [hw3]; exact blk0 _ _
  have hB3 := bcat2 hB1 (bcat2 hb2 hb3)
  have hX3 := blk_below hX1 (bcat2 hb2 hb3)
  obtain ⟨c0, c1, _, _⟩ := hX3.two
  obtain ⟨f0, f1, _, _⟩ := hF3.two
  rw [hw3] at c0 c1 f0 f1
  go_wp2_with fail
  rw [← hw3]
  clear hw3 c0 c1 f0 f1
  refine (HPF.out _ hB3).mono ?_
  rintro x w6 ⟨rfl, hb6⟩
  have hB6 := bcat2 hB3 hb6
  have hfld : ∀ W, Sem.run Tryd.prog (Instr.field 27 (.agg #[.int .i64 c, .int .i64 i]) 0) W = .ok (.int .i64 c) W := fun W => by kernel_rfl
  go_wp2
  go_ret
  exact ⟨by simp, hB6⟩
theorem all_part {n : Nat} {q r : Nat → Bool} : ((li (lst n q)).all fun a => decide (a ∈ li (lst n r))) = true ↔ ∀ x, x < n → q x = true → r x = true := by
  constructor
  · intro h x hx hq
    have h1 := List.all_eq_true.1 h (x : Int) (mem_li.2 (mem_lst.2 ⟨hx, hq⟩))
    exact (mem_lst.1 (mem_li.1 (of_decide_eq_true h1))).2
  · exact fun h => part_lst h
set_option maxRecDepth 100000 in
set_option maxHeartbeats 8000000 in
theorem shol_good (n e p : Nat) (v1 : Option Addr) (v2 v3 : Nat) (u1 : Option Addr) (u2 u3 : Nat) (zs ls : List Int) (w : World) (hv : Sl w (.slice v1 v2 v3) zs) (hu : Sl w (.slice u1 u2 u3) ls) (hg : IsGrp n zs e) (hT : Tab w) (hpr : primeB p = true) :
    Calls Tryd.prog 4 #[.agg #[.int .i64 n, .slice v1 v2 v3], .int .i64 p, .slice u1 u2 u3] w fun e w' => e = .returned (.bool true) ∧ Below w.heap.size w w' := by
  have hp2 : 2 ≤ p ∧ p ≤ 100 := by
    have := of_decide_eq_true hpr
    omega
  have hn := hg.tab.le
  have HAL := hide (fun W (h : Below w.heap.size w W) => sall_nice n e p (.slice v1 v2 v3) zs W (hv.below h) hg (hT.below h) hpr)
  have HNR := hide (fun W (u : Value) (q : Nat → Bool) (h : Below w.heap.size w W) (hu : Sl W u (li (lst n q))) (hs : subT n zs e q = true) => nor_lst n e (.slice v1 v2 v3) u zs q W (hv.below h) hg hu (hT.below h) hs)
  have hB0 : Below w.heap.size w (w.alloc (.cells #[.int .i64 n, .slice v1 v2 v3] 24)) := balloc w _
  have hX0 : BoxG (w.alloc (.cells #[.int .i64 n, .slice v1 v2 v3] 24)) w.heap.size n (.slice v1 v2 v3) := blk0 (w := w) (T := 24) _ _
  go_enter Tryd.func4, Tryd.ntmps4
  go_wp2_with fail
  generalize w.alloc (.cells #[.int .i64 n, .slice v1 v2 v3] 24) = w0 at *
  refine (sylowBegun_any _ (hT.below hB0)).mono ?_
  rintro x w1 ⟨rfl, hb1⟩
  have hB1 := bcat2 hB0 hb1
  have hX1 := blk_below hX0 hb1
  obtain ⟨c0, c1, _, _⟩ := hX1.two
  go_wp2_with fail
  clear c0 c1
  refine (HAL.out _ hB1).mono ?_
  rintro x w2 ⟨lg, lc, s, A, ms, rfl, HA, hR2, hb2⟩
  have hpos := HA.pos hg.elt
  have hfit := HA.fits
  obtain ⟨w3, hw3⟩ : ∃ w3, w3 = w2.alloc (.cells #[.int .i64 0, .int .i64 0] 27) := ⟨_, rfl⟩
  have hb3 : Below w2.heap.size w2 w3 := by rw [hw3]; exact balloc w2 _
  have hF3 : Blk w3 w2.heap.size 27 [.int .i64 0, .int .i64 0] := by rw [hw3]; exact blk0 _ _
  have hB3 := bcat2 hB1 (bcat2 hb2 hb3)
  have hX3 := blk_below hX1 (bcat2 hb2 hb3)
  have hR3 := hR2.below hb3
  obtain ⟨c, hcA, hms0⟩ := HA.one hpos
  have hcn := HA.lt c hcA
  have hsubc := cj_sg hg HA.gr.sub hcn
  have hnor := syl_nor hg HA.nd HA.hX hcn
  rw [List.length_map, ← HA.len] at hnor
  have HHO := hide (fun (q : Nat → Bool) (hq : subT n zs e q = true) (hpw : isPw (lst n q).length p) => HA.holds hg hpr hq hpw)
  have HONE := hide (fun j (hj : j < ms.length) => HA.one hj)
  obtain ⟨m1, m3, hm0, hmS⟩ := hR3 0 hpos
  rw [hms0] at hm0 hmS
  have HM := hide (fun W (h : Below w3.heap.size w3 W) => HNR.out W _ (cjq n zs e s c) (bcat2 hB3 h) (hmS.below h) hsubc)
  clear HAL HA HNR hR2 hX0 hX1 hmS
  generalize (li (lst n (cjq n zs e s c))).length = Lc at *
  have hnl := lst_len n (norq n zs e (cjq n zs e s c))
  generalize (lst n (norq n zs e (cjq n zs e s c))).length = Ln at *
  have hmul : (Ln : Int) * (ms.length : Int) = (n : Int) := by
    have h9 : ((ms.length * Ln : Nat) : Int) = (n : Int) := by rw [← hnor]
    rw [Int.natCast_mul, Int.mul_comm] at h9
    exact h9
  clear hnor
  obtain ⟨c0, c1, _, _⟩ := hX3.two
  obtain ⟨f0, f1, _, _⟩ := hF3.two
  have hlt : ¬ ((ms.length : Int) < 1) := by omega
  rw [hw3] at c0 c1 f0 f1
  go_wp2_with fail
  rw [← hw3] at c0 c1 f0 f1 ⊢
  clear hw3
  have hS : ∀ W9, Below w3.heap.size w3 W9 → (Below w3.heap.size w3 W9 ∧ W9.cell? ⟨w.heap.size, 0, none⟩ = some (.int .i64 n) ∧ W9.cell? ⟨w.heap.size, 1, none⟩ = some (.slice v1 v2 v3) ∧ W9.cell? ⟨lg, 0, none⟩ = some (.slice m1 Lc m3) ∧ W9.cell? ⟨w2.heap.size, 0, none⟩ = some (.int .i64 0) ∧ W9.cell? ⟨w2.heap.size, 1, none⟩ = some (.int .i64 0)) := fun W9 h => ⟨h, below_cell h c0, below_cell h c1, below_cell h hm0, below_cell h f0, below_cell h f1⟩
  have hS0 := hS _ (bdrew (Below.refl _ w3))
  have hbox := hF3
  go_cut [9] (fun s9 wx => ∃ (a : Option Addr) (cc : Nat), s9 = .slice a Ln cc ∧ Below w3.heap.size w3 wx)
  case first =>
    clear c0 c1 f0 f1 hm0 hF3 hX3 hR3 hmul
    go_region_held3 (fun W9 => Below w3.heap.size w3 W9 ∧ W9.cell? ⟨w.heap.size, 0, none⟩ = some (.int .i64 n) ∧ W9.cell? ⟨w.heap.size, 1, none⟩ = some (.slice v1 v2 v3) ∧ W9.cell? ⟨lg, 0, none⟩ = some (.slice m1 Lc m3) ∧ W9.cell? ⟨w2.heap.size, 0, none⟩ = some (.int .i64 0) ∧ W9.cell? ⟨w2.heap.size, 1, none⟩ = some (.int .i64 0))
      (first | exact hS0 | assumption | exact hS _ (bcat2 (And.left ‹_›) hl5) | (rw [store_same u0 u1]; exact hS _ hU5))
      (first | (go_at_call 27; refine (HM.out _ (And.left ‹_›)).mono ?_; rintro e5 U5 ⟨na, nc, rfl, _, hl5⟩; have hU5 := bcat2 (And.left ‹_›) hl5; have hbu := blk_below hbox hU5; obtain ⟨u0, u1, _, _⟩ := hbu.two))
    all_goals (go_wp2; go_meet)
    all_goals (rw [store_same u0 u1]; exact ⟨na, nc, rfl, hU5⟩)
  case rest =>
    obtain ⟨na, nc, rfl, hbx⟩ := hcut
    have hX6 := blk_below hX3 hbx
    have hF6 := blk_below hF3 hbx
    have hB6 := bcat2 hB3 hbx
    clear c0 c1 f0 f1 hm0 hS hS0 HM hbox
    obtain ⟨c0, c1, _, _⟩ := hX6.two
    obtain ⟨f0, f1, _, _⟩ := hF6.two
    by_cases hlf : (lfault n ls).1 = 0
    · obtain ⟨_, _, h1, _, hl0, _⟩ := sfault_zero (N := n) (zs := zs) (ls := ls) (by rw [sfault_l hg]; exact hlf)
      have h1 := Int.ofNat.inj h1
      subst h1
      clear hlf
      obtain ⟨q, hq⟩ := mkd_ex' n zs e (pset ls)
      have hsq : subT n zs e q = true := subT_iff.2 (made_sg hg hq)
      have HMG := hide (mde_good n e (.slice v1 v2 v3) (.slice u1 u2 u3) zs ls q wc (hv.below hB6) hg (hu.below hB6) (hT.below hB6) hl0 hq)
      clear hq hl0
      have hq1 : 1 ≤ (lst n q).length := (Fin.sg_fg (grp_fg hg) (subT_iff.1 hsq)).pos
      have hq2 := lst_len n q
      go_wp2_with fail
      clear c0 c1 f0 f1
      refine HMG.out.mono ?_
      rintro x w7 ⟨r, rfl, hr, hb7⟩
      have hr := hr.sl
      obtain ⟨Lr, hLr⟩ : ∃ Lr, Lr = li (lst n q) := ⟨_, rfl⟩
      rw [← hLr] at hr
      have hLl : Lr.length = (lst n q).length := by rw [hLr, li_len]
      have HLR := hide hLr
      clear hLr
      obtain ⟨ra, rc, _, _, rfl, _⟩ := id hr
      have hF7 := blk_below hF6 hb7
      have hbx7 := bcat2 hbx hb7
      obtain ⟨f0, f1, _, _⟩ := hF7.two
      have hst := store_same f0 f1
      have HPI := hide (powerIn_ok Lr.length p w7 (by omega) (by omega) hp2.1 hp2.2)
      have HLL := hide hLl
      clear hLl hq1 hq2
      go_wp2_with fail
      clear f0 f1 hst
      refine HPI.out.mono ?_
      rintro x w8 ⟨v, j, rfl, hvj, hnd, hb8⟩
      have hbx8 := bcat2 hbx7 hb8
      have hr8 := hr.below hb8
      by_cases hpw : p ^ j = Lr.length
      · obtain ⟨jj, b, hjj, hbA, hjm, hjs⟩ := HHO.out q hsq ⟨j, by rw [← HLL.out]; exact hpw.symm⟩
        have HJ := hide (all_part.2 hjs)
        rw [← HLR.out, ← hjm] at HJ
        clear hjs hjm
        rw [hpw]
        go_wp2_with fail
        go_loopw [11] (fun iv wr => ∃ i : Nat, i ≤ jj ∧ iv = .int .i64 i ∧ Sl wr (.slice ra Lr.length rc) Lr ∧ Below w3.heap.size w3 wr) (fun iv _ => ms.length - (intOf iv).toNat)
        case atStart => exact ⟨0, Nat.zero_le _, rfl, hr8, hbx8⟩
        case round =>
          clear hr8 hbx8 hr hb8 hb7 hbx7
          obtain ⟨i, hi, rfl, hrr, hbr⟩ := hrel
          have hii : (i : Int) < (ms.length : Int) := by omega
          obtain ⟨a1, a3, ha0, haS⟩ := (hR3.below hbr) i (by omega)
          have HPT := hide (parted_ok _ _ _ _ wr hrr haS)
          have HI := hide (fun h9 : i = jj => (h9 ▸ HJ.out : (Lr.all fun a => decide (a ∈ ms[i]?.getD [])) = true))
          generalize (Lr.all fun a => decide (a ∈ ms[i]?.getD [])) = bb at *
          generalize ms[i]?.getD [] = mt at *
          go_wp2_with fail
          refine HPT.out.mono ?_
          rintro x w9 ⟨rfl, rfl⟩
          cases bb with
          | true =>
            go_wp2
            go_ret
            exact ⟨rfl, bcat2 hB3 hbr⟩
          | false =>
            have hlj : i < jj := by
              rcases Nat.lt_or_eq_of_le hi with h9 | h9
              · exact h9
              · have := HI.out h9; cases this
            go_wp2
            go_roundw
            case rel => exact ⟨i + 1, by omega, by go_num, hrr, hbr⟩
            case measure => simp [intOf]; omega
      · have hne : (((p ^ j : Nat) : Int) != (Lr.length : Int)) = true := by
          have : ¬ ((p ^ j : Nat) : Int) = (Lr.length : Int) := by omega
          simpa using this
        generalize ((p ^ j : Nat) : Int) = m9 at *
        go_wp2
        go_ret
        exact ⟨rfl, bcat2 hB3 hbx8⟩
    · have HMB := hide (mde_bad n (.slice v1 v2 v3) (.slice u1 u2 u3) zs ls wc (hv.below hB6) (hu.below hB6) (by rw [sfault_l hg]; exact hlf))
      rw [sfault_l hg] at HMB
      generalize lfault n ls = lf at *
      obtain ⟨fc9, fi9⟩ := lf
      simp only at hlf HMB
      have hcb : (fc9 != 0) = true := by simpa using hlf
      go_wp2_with fail
      clear c0 c1 f0 f1
      refine HMB.out.mono ?_
      rintro x w7 ⟨rfl, hb7⟩
      have hF7 := blk_below hF6 hb7
      have hlo : w.heap.size ≤ w2.heap.size := by
        have := hB1.size
        have := hb2.size
        omega
      have hBz : Below w.heap.size w ((w7.setCell ⟨w2.heap.size, 0, none⟩ (.int .i64 fc9)).setCell ⟨w2.heap.size, 1, none⟩ (.int .i64 fi9)) := bSet (bSet (bcat2 hB6 hb7) hlo) hlo
      obtain ⟨f0, f1, _, _⟩ := hF7.two
      have hF8 := (hF7.set 0 (.int .i64 fc9)).set 1 (.int .i64 fi9)
      obtain ⟨g0, g1, _, _⟩ := hF8.two
      go_wp2
      go_ret
      exact ⟨rfl, hBz⟩
theorem shol_law (N p : Int) (v u : Value) (zs ls : List Int) (w : World) (hv : Sl w v zs) (hu : Sl w u ls) (hT : Tab w) :
    Calls Tryd.prog 4 #[.agg #[.int .i64 N, v], .int .i64 p, u] w fun e w' => e = .returned (.bool true) ∧ Below w.heap.size w w' := by
  obtain ⟨v1, v2, v3, rfl⟩ := hv.isSlice
  obtain ⟨u1, u2, u3, rfl⟩ := hu.isSlice
  by_cases hc : (pfault N zs p).1 = 0
  · obtain ⟨h1, hpr⟩ := pfault_good hc
    obtain ⟨n, e, rfl, hg, h0⟩ := gfault_grp h1
    have hb := of_decide_eq_true hpr
    obtain ⟨q, rfl⟩ : ∃ q : Nat, p = q := ⟨p.toNat, by omega⟩
    exact shol_good n e q v1 v2 v3 u1 u2 u3 zs ls w hv hu hg hT hpr
  · exact shol_bad N p v1 v2 v3 u1 u2 u3 zs w hv hT hc
end Go.Proofs.YtolbpjjjoafkkaaDoor

namespace Go.Proofs.YtolbpjjjoafkkaaDoor
open Go.ChangeShapes Go.WideShapes Go.ChangeAt Go.RowKit

theorem own : ownKnob Tryd.prog.godebug = none := by kernel_rfl
theorem laidOut : laidOutB Tryd.prog = true := by kernel_rfl

/-- A slice of ints that reads as zs; where nothing is in it, nothing is told of the memory. -/
def SlA (w : World) (v : Value) (zs : List Int) : Prop := ∃ a cap pb po, v = .slice a zs.length cap ∧ Reads w a pb po zs ∧ (0 < zs.length → pb < w.heap.size) ∧ zs.length ≤ cap ∧ cap ≤ maxLen
theorem SlA.up {w w' : World} {v : Value} {zs : List Int} (h : SlA w v zs) (hb : Below w.heap.size w w') (h0 : 0 < w'.heap.size) : Sl w' v zs := by
  obtain ⟨a, cap, pb, po, hv, hr, hp, h1, h2⟩ := h
  rcases Nat.eq_zero_or_pos zs.length with hz | hz
  · exact ⟨a, cap, 0, 0, hv, ⟨fun h => by omega, fun j hj => by omega⟩, h0, h1, h2⟩
  · exact ⟨a, cap, pb, po, hv, hr.below hb (hp hz), Nat.lt_of_lt_of_le (hp hz) hb.size, h1, h2⟩
theorem SlA.of {w : World} {v : Value} {zs : List Int} (h : Sl w v zs) : SlA w v zs := by
  obtain ⟨a, cap, pb, po, hv, hr, hp, h1, h2⟩ := h
  exact ⟨a, cap, pb, po, hv, hr, fun _ => hp, h1, h2⟩

theorem und24 : ∃ f0 f1 : Field, Tryd.prog.underlying 24 = some (.struct #[f0, f1]) ∧ f0.type = 3 ∧ f1.type = 22 ∧ f0.offset = 0 ∧ f1.offset = 1 := ⟨_, _, Tryd.underlying24, rfl, rfl, rfl, rfl⟩
theorem und3 : Tryd.prog.underlying 3 = some (.int .i64) := by kernel_rfl
theorem und22 : Tryd.prog.underlying 22 = some (.slice 3) := by kernel_rfl
theorem und4 : Tryd.prog.underlying 4 = some .bool := by kernel_rfl

set_option maxRecDepth 100000 in
/-- What is told of a table that came in. -/
theorem open_group {H : Type} {enc : TypeId × Value → H} {W : World} {b0 : Nat} {v : Value} {d : DataW H} {ps : List MemPlace} (hval : Value.okWide Tryd.prog W .any b0 24 v)
    (hd : DataW.Trod enc Tryd.prog W 0 (fun _ => true) true 24 v d ps) :
    ∃ N u zs, v = .agg #[.int .i64 N, u] ∧ SlA W u zs ∧ (Lit.int .i64 N).wf = true ∧ ((d.weights Tryd.prog 24).all (· ≤ reachBytes) = true → zs.length * 8 ≤ 140737488355328) := by
  obtain ⟨f0, f1, hu, ht0, ht1, ho0, ho1⟩ := und24
  obtain ⟨cs, rfl, hsz⟩ := okWide_struct hu hval
  rw [show Tryd.prog.cellsOf 24 = 2 by kernel_rfl] at hsz
  obtain ⟨l⟩ := cs
  match l, hsz with
  | [c0, c1], _ =>
  obtain ⟨fuel, hf⟩ := hd
  obtain ⟨y0, y1, m, hx, _, hy0, hy1⟩ := trod_struct2 hu hf
  rw [ht0, ho0, show Tryd.prog.cellsOf 3 = 1 by kernel_rfl] at hy0
  rw [ht1, ho1, show Tryd.prog.cellsOf 22 = 1 by kernel_rfl] at hy1
  obtain ⟨N, e0, rfl, wN⟩ := DataW.trod_int und3 hy0
  simp [Value.cells] at e0
  subst e0
  simp [Value.cells] at hy1
  rcases open_ints und22 und3 (by kernel_rfl) hy1 with ⟨hcs, _⟩ | ⟨x, l, c, zs, hcs, _, hl, hm, hz, heq, hcell, hwz⟩
  · simp at hcs
    subst hcs
    exact ⟨N, _, [], rfl, ⟨none, 0, 0, 0, rfl, ⟨by simp, by simp⟩, by simp, by simp, by unfold maxLen; omega⟩, wN, fun _ => by simp⟩
  · simp at hcs
    subst hcs
    have hzc : zs.length = c := by simpa using hz
    have hlen : (zs.take l).length = l := by rw [List.length_take]; omega
    refine ⟨N, _, zs.take l, rfl, ?_, wN, fun hw => ?_⟩
    · by_cases hpos : 0 < c
      · obtain ⟨b, o, rfl, hc'⟩ := ints_at hcell (by omega)
        refine ⟨some ⟨b, o, none⟩, c, b, o, by rw [hlen], ⟨fun _ => rfl, fun j hj => ?_⟩, fun _ => World.block_lt_of_cell? W _ (hc' 0 (by omega)), by omega, hm⟩
        rw [hlen] at hj
        rw [hc' j (by omega), List.getElem?_take, if_pos hj, List.getD_eq_getElem?_getD]
      · have : l = 0 := by omega
        subst this
        exact ⟨some x, c, 0, 0, by simp, ⟨by simp, by simp⟩, by simp, by simp, hm⟩
    · have hd : d = .agg [.lit (.int .i64 N), .slice (lits .i64 (zs.take l)) (lits .i64 (zs.drop l))] := by
        have h1 := congrArg Prod.fst hx
        simp only [heq] at h1
        exact h1
      have hw2 := List.all_eq_true.1 hw (((lits (H := H) .i64 (zs.take l)).length + (lits (H := H) .i64 (zs.drop l)).length) * Tryd.prog.bytesOf 3) (by
        rw [hd]; simp [DataW.weights, DataW.weightsEach, hu, ht0, ht1])
      rw [show Tryd.prog.bytesOf 3 = 8 by kernel_rfl] at hw2
      simp only [lits, List.length_map, decide_eq_true_eq] at hw2
      unfold reachBytes at hw2
      omega
end Go.Proofs.YtolbpjjjoafkkaaDoor

namespace Go.Proofs.YtolbpjjjoafkkaaDoor
open Go.ChangeShapes Go.WideShapes Go.ChangeAt Go.RowKit

/-- What the rows list. -/
def laid1 : List (String × DataW Unit) := Rows.sylowQuotientsRow.laid
def tabZ : List Int := Lib.deBruijn64tab.map fun (x : Nat) => (x : Int)
theorem tab_data : (Rows.laid_math_bits_deBruijn64tab : DataW Unit) = Lib.tabData .u8 tabZ := by kernel_rfl
/-- The door's own heap meets the condition. -/
theorem door_met (os : Os) (args : Array Value) : laidMetH Tryd.prog laid1 ((World.doorLaid Tryd.prog 400 os).forCall (fun _ _ => 0) ⟨#[], args, []⟩).memory :=
  laidMetH_of_parts3 (fuel := 8) (laidMet_of_run' 8 (by kernel_rfl) (by kernel_rfl)) (by kernel_rfl) (by kernel_rfl)
theorem tab_of_laid {W : World} (h : laidMetH Tryd.prog laid1 W) : Tab W := by
  rw [MakeChecks.laidMetH_plain _ _ _ (by kernel_rfl)] at h
  have h2 : laidMet Tryd.prog [("math/bits.deBruijn64tab", (Rows.laid_math_bits_deBruijn64tab : DataW Unit))] W := h
  rw [tab_data] at h2
  have hg : Tryd.prog.globalNamed "math/bits.deBruijn64tab" = some 0 := by kernel_rfl
  have hT := Lib.tabIs_of_head hg (t := 114) (e := 5) (n := 64) (by kernel_rfl) (by kernel_rfl) (by kernel_rfl) (by kernel_rfl) (by kernel_rfl) h2
  intro j hj
  have hj' : j < tabZ.length := by simpa [tabZ] using hj
  have hc := hT.cell hg j hj'
  rw [hc]
  simp [tabZ, hj]
set_option maxRecDepth 100000 in
/-- A list of ints that came in: its value, what it reads as, and its size. -/
theorem open_list {H : Type} {enc : TypeId × Value → H} {W : World} {b0 : Nat} {v : Value} {d : DataW H} {ps : List MemPlace} (hval : Value.okWide Tryd.prog W .any b0 22 v)
    (hd : DataW.Trod enc Tryd.prog W 0 (fun _ => true) true 22 v d ps) (h0 : 0 < W.heap.size) :
    ∃ zs, Sl W v zs ∧ ((d.weights Tryd.prog 22).all (· ≤ reachBytes) = true → zs.length * 8 ≤ 140737488355328) := by
  obtain ⟨a, len, cap, rfl⟩ := okWide_slice und22 hval
  obtain ⟨fuel, hf⟩ := hd
  rcases open_ints und22 und3 (by kernel_rfl) hf with ⟨hcs, _⟩ | ⟨x, l, c, zs, hcs, _, hl, hm, hz, heq, hcell, hwz⟩
  · simp [Value.cells] at hcs
    obtain ⟨rfl, rfl, rfl⟩ := hcs
    exact ⟨[], Sl.nil h0, fun _ => by simp⟩
  · simp [Value.cells] at hcs
    obtain ⟨rfl, rfl, rfl⟩ := hcs
    have hzc : zs.length = cap := by simpa using hz
    have hlen : (zs.take len).length = len := by rw [List.length_take]; omega
    refine ⟨zs.take len, ?_, fun hw => ?_⟩
    · by_cases hpos : 0 < cap
      · obtain ⟨b, o, rfl, hc'⟩ := ints_at hcell (by omega)
        refine ⟨some ⟨b, o, none⟩, cap, b, o, by rw [hlen], ⟨fun _ => rfl, fun j hj => ?_⟩, World.block_lt_of_cell? W _ (hc' 0 (by omega)), by omega, hm⟩
        rw [hlen] at hj
        rw [hc' j (by omega), List.getElem?_take, if_pos hj, List.getD_eq_getElem?_getD]
      · have : len = 0 := by omega
        subst this
        exact ⟨some x, cap, 0, 0, by simp, ⟨by simp, by simp⟩, h0, by simp, hm⟩
    · simp only [Prod.mk.injEq] at heq
      have hw2 := List.all_eq_true.1 hw (((lits (H := H) .i64 (zs.take len)).length + (lits (H := H) .i64 (zs.drop len)).length) * Tryd.prog.bytesOf 3) (by
        rw [heq.1]; simp [DataW.weights])
      rw [show Tryd.prog.bytesOf 3 = 8 by kernel_rfl] at hw2
      simp only [lits, List.length_map, decide_eq_true_eq] at hw2
      unfold reachBytes at hw2
      omega
end Go.Proofs.YtolbpjjjoafkkaaDoor
