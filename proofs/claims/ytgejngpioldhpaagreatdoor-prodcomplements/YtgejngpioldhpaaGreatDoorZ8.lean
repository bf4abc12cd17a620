/- Package sub and coset again: sets that came in, Made, Is, Normal, Closure, cosets. Condition: the library's table of places lies as its text lays it. Package sub's Centre at a group, the commutator of two things, what two lists have both. Condition: the library's table of places lies as its text lays it. The subgroup that the commutators of two sets make; the least subgroup that has a set and is, conjugated by each thing of another, the same. Condition: the library's table of places lies as its text lays it. What the document's Closed answers. The document's SetFault and SubFault. -/
import Derived.Test.YtgejngpioldhpaaGreatDoorZ4
import Derived.Test.YtgejngpioldhpaaGreatDoorZ7
import Derived.Test.YtgejngpioldhpaaGreatDoorZ3
import Derived.BigQuiet
import Derived.Deep.AppendLies
import Derived.Deep.DeepCutAuto
import Derived.Deep.RegionLaw
import Derived.Laws.EntriesVeiled
import Derived.Maps.AppendAt
import Derived.Maps.Ext
import Derived.Maps.OwnOps
import Derived.Maps.OwnSet
namespace Go.Proofs.YtgejngpioldhpaaGreatDoor
open Go Go.RowKit Go.Maps

set_option maxRecDepth 100000 in
set_option maxHeartbeats 4000000 in
theorem setOf_any (n : Nat) (v : Value) (ls : List Int) (w : World) (hn : n ≤ 60) (hv : Sl w v ls) :
    Calls Tryz.prog 91 #[.int .i64 n, v] w fun x w' => x = .returned (.tuple #[.int .u64 (okN (lfault n ls).1 (bs (pset ls) n)), .agg #[.int .i64 (lfault n ls).1, .int .i64 (lfault n ls).2]]) ∧ Below w.heap.size w w' := by
  have hB0 : Below w.heap.size w (w.alloc (.cells #[.int .i64 0, .int .i64 0] 27)) := balloc w _
  have hR0 := Two.new w
  have hv0 := hv.below hB0
  obtain ⟨a, cap, pb, po, rfl, hrw0, hpw0, hq3, hq4⟩ := id hv
  have HRW := hide hrw0
  have HPB := hide hpw0
  have hr := hrw0.below hB0 hpw0
  have hp := Nat.lt_of_lt_of_le hpw0 hB0.size
  clear hrw0 hpw0
  obtain ⟨_, y0, y1, fy0, fy1, s0, s1⟩ := id hR0
  by_cases hmany : n < ls.length
  · have hR6 : Blk ((w.alloc (.cells #[.int .i64 0, .int .i64 0] 27)).setCell ⟨w.heap.size, 0, none⟩ (.int .i64 2)) w.heap.size 27 [.int .i64 2, .int .i64 0] := hR0.blk.set 0 _
    have hB6 : Below w.heap.size w ((w.alloc (.cells #[.int .i64 0, .int .i64 0] 27)).setCell ⟨w.heap.size, 0, none⟩ (.int .i64 2)) := hB0.setCell (p := ⟨w.heap.size, 0, none⟩) (by simp) _
    rw [lfault_many hmany]
    have hmi : (n : Int) < (ls.length : Int) := by omega
    go_enter Tryz.func91, Tryz.ntmps91
    go_wp2
    have hR7 := blk0 (w := w) (T := 27) (.int .i64 2) (.int .i64 0)
    obtain ⟨z0, z1, _, _⟩ := hR7.two
    exact bodyPost_ret (v := .tuple #[.int .u64 0, .agg #[.int .i64 2, .int .i64 0]]) (by simp [results, Tryz.results91, go_sem, z0, z1]) rfl ⟨rfl, balloc w _⟩
  · have hle : ls.length ≤ n := by omega
    have hmi : ¬ (n : Int) < (ls.length : Int) := by omega
    have HV := hide hv
    clear y0 y1 fy0 fy1 s0 s1 hv0 hv
    go_enter Tryz.func91, Tryz.ntmps91
    go_wp2
    go_loopw [15] (fun i wr => ∃ k : Nat, k ≤ ls.length ∧ i = .int .i64 k ∧ (∀ t, t < k → (rbad n ls t || fbad ls t) = false) ∧ Two wr w.heap.size ∧ Below w.heap.size w wr) (fun i _ => ls.length - (intOf i).toNat)
    case atStart => exact ⟨0, Nat.zero_le _, rfl, fun t ht => by omega, hR0, hB0⟩
    case round =>
      obtain ⟨k, hk, rfl, hno, hR, hB⟩ := hrel
      have HNO := hide hno
      clear hno
      obtain ⟨_, y0, y1, fy0, fy1, s0, s1⟩ := id hR
      have hrw : Reads wr a pb po ls := by
        exact HRW.out.below hB HPB.out
      by_cases hlt : k < ls.length
      · have hck := hrw.cell k hlt
        obtain rfl := hrw.at_ (by omega)
        obtain ⟨c, hc⟩ : ∃ c, ls[k]?.getD 0 = c := ⟨_, rfl⟩
        rw [hc] at hck
        have hki : (k : Int) < (ls.length : Int) := by omega
        by_cases hc0 : c < 0
        · have HLF := hide (lfault_r hle hlt HNO.out (by unfold rbad; rw [hc]; simp [hc0]))
          clear hc hrw hr
          obtain ⟨hR9, hB9⟩ := put2 hR.blk hB (Nat.le_refl _) 3 k
          go_wp2
          generalize (wr.setCell ⟨w.heap.size, 0, none⟩ (.int .i64 3)).setCell ⟨w.heap.size, 1, none⟩ (.int .i64 k) = W at hR9 hB9 ⊢
          obtain ⟨z0, z1, _, _⟩ := hR9.two
          exact bodyPost_ret (v := .tuple #[.int .u64 0, .agg #[.int .i64 3, .int .i64 k]]) (by simp [results, Tryz.results91, go_sem, z0, z1]) rfl ⟨by rw [HLF.out]; rfl, hB9⟩
        · by_cases hcn : (n : Int) ≤ c
          · have HLF := hide (lfault_r hle hlt HNO.out (by unfold rbad; rw [hc]; simp [hcn]))
            clear hc hrw hr
            obtain ⟨hR9, hB9⟩ := put2 hR.blk hB (Nat.le_refl _) 3 k
            go_wp2
            generalize (wr.setCell ⟨w.heap.size, 0, none⟩ (.int .i64 3)).setCell ⟨w.heap.size, 1, none⟩ (.int .i64 k) = W at hR9 hB9 ⊢
            obtain ⟨z0, z1, _, _⟩ := hR9.two
            exact bodyPost_ret (v := .tuple #[.int .u64 0, .agg #[.int .i64 3, .int .i64 k]]) (by simp [results, Tryz.results91, go_sem, z0, z1]) rfl ⟨by rw [HLF.out]; rfl, hB9⟩
          · have HRB := hide (show rbad n ls k = false by unfold rbad; rw [hc]; simp; omega)
            have hcn' : c < (n : Int) := by omega
            rcases Nat.eq_zero_or_pos k with rfl | hkp
            · have HFB := hide (show fbad ls 0 = false by simp [fbad])
              rw [Nat.add_zero] at hck
              clear hc hrw hr
              go_wp2
              go_roundw
              case rel => exact ⟨1, by omega, by go_num, fun t ht => by
                have : t = 0 := by omega
                subst this; rw [HRB.out, HFB.out]; rfl, hR, hB⟩
              case measure => simp [intOf]; omega
            · obtain ⟨m, rfl⟩ : ∃ m, k = m + 1 := ⟨k - 1, by omega⟩
              have hcm := hrw.cell m (by omega)
              obtain ⟨d, hd⟩ : ∃ d, ls[m]?.getD 0 = d := ⟨_, rfl⟩
              rw [hd] at hcm
              have hfb : fbad ls (m + 1) = decide (c ≤ d) := by
                unfold fbad
                rw [Nat.add_sub_cancel, hc, hd]
                simp
              have hmi2 : (m : Int) < (ls.length : Int) := by omega
              by_cases hcd : c ≤ d
              · have HLF := hide (lfault_f hle hlt HNO.out HRB.out (by rw [hfb]; simp [hcd]))
                clear hc hd hfb hrw hr
                obtain ⟨hR9, hB9⟩ := put2 hR.blk hB (Nat.le_refl _) 5 ((m : Int) + 1)
                go_wp2
                generalize (wr.setCell ⟨w.heap.size, 0, none⟩ (.int .i64 5)).setCell ⟨w.heap.size, 1, none⟩ (.int .i64 ((m : Int) + 1)) = W at hR9 hB9 ⊢
                obtain ⟨z0, z1, _, _⟩ := hR9.two
                exact bodyPost_ret (v := .tuple #[.int .u64 0, .agg #[.int .i64 5, .int .i64 ((m : Int) + 1)]]) (by simp [results, Tryz.results91, go_sem, z0, z1]) rfl ⟨by rw [HLF.out]; simp [okN], hB9⟩
              · have HFB := hide (show fbad ls (m + 1) = false by rw [hfb]; simp; omega)
                clear hc hd hfb hrw hr
                go_wp2
                go_roundw
                case rel => exact ⟨m + 1 + 1, by omega, by go_num, fun t ht => by
                  by_cases e : t = m + 1
                  · rw [e, HRB.out, HFB.out]; rfl
                  · exact HNO.out t (by omega), hR, hB⟩
                case measure => simp [intOf]; omega
      · have hkk : k = ls.length := by omega
        subst hkk
        have hlf := lfault_ok hle HNO.out
        have hlz : (lfault n ls).1 = 0 := by rw [hlf]
        have hset := set_lst hlz
        have hmem : ∀ x, x ∈ lst n (pset ls) → x < n := fun x hx => (mem_lst.1 hx).1
        have hll : (lst n (pset ls)).length ≤ 60 := Nat.le_trans (lst_len _ _) hn
        have hso := HV.out.below hB
        rw [hset] at hso
        have hof := of_ok n _ (lst n (pset ls)) wr hn hll (by rw [← hset] at hso ⊢; exact hso) hmem
        have hbs : bs (fun a => decide (a ∈ lst n (pset ls))) n = bs (pset ls) n := bs_ext fun a ha => by
          rw [Bool.eq_iff_iff, decide_eq_true_eq, mem_lst]; simp [ha]
        rw [hbs] at hof
        have HOF := hide hof
        have HLF := hide hlf
        clear hof hlf hlz hset hso hbs hmem hrw hr
        go_wp2_with fail
        refine HOF.out.mono ?_
        rintro e1 w1 ⟨rfl, rfl⟩
        go_wp2
        exact bodyPost_ret (v := .tuple #[.int .u64 (bs (pset ls) n), .agg #[.int .i64 0, .int .i64 0]]) (by simp [results, Tryz.results91, go_sem, y0, y1]) rfl ⟨by rw [HLF.out]; rfl, hB⟩
set_option maxRecDepth 100000 in
set_option maxHeartbeats 4000000 in
theorem oset_badg (N : Int) (v u : Value) (zs : List Int) (w : World) (hv : Sl w v zs) (hc : (gfault N zs).1 ≠ 0) :
    Calls Tryz.prog 65 #[.agg #[.int .i64 N, v], u] w fun x w' => x = .returned (.tuple #[.agg #[.int .i64 0, .slice none 0 0, .int .i64 0, .slice none 0 0], .int .u64 0, .agg #[.int .i64 (gfault N zs).1, .int .i64 (gfault N zs).2]]) ∧ Below w.heap.size w w' := by
  obtain ⟨w0, BG⟩ := Beg4.new w N v
  have hv0 := hv.below BG.bel
  obtain ⟨c0, c1, _, _⟩ := BG.box.two
  have hck := opened_bad N v zs w0 hv0 hc
  obtain ⟨c, i, hci⟩ : ∃ c i, gfault N zs = (c, i) := ⟨_, _, rfl⟩
  rw [hci] at hck hc ⊢
  simp only at hc hck
  have HCK := hide hck
  clear hck hci
  have hcb : (c != 0) = true := by simpa using hc
  rw [BG.eq] at c0 c1
  go_enter Tryz.func65, Tryz.ntmps65
  go_wp2_with fail
  rw [← BG.eq]
  refine HCK.out.mono ?_
  rintro x w1 ⟨rfl, hb1⟩
  clear c0 c1
  obtain ⟨w2, hw2⟩ : ∃ w2, w2 = (w1.alloc (.cells #[.int .i64 0, .slice none 0 0, .int .i64 0, .slice none 0 0] 51)).alloc (.cells #[.int .i64 c, .int .i64 i] 27) := ⟨_, rfl⟩
  have hB1 : Below w0.heap.size w0 w2 := by rw [hw2]; exact bcat2 hb1 ((balloc w1 _).alloc (by simp) _)
  have hF1 : Blk w2 (w1.heap.size + 1) 27 [.int .i64 c, .int .i64 i] := by
    rw [hw2]
    have := blk0 (w := w1.alloc (.cells #[.int .i64 0, .slice none 0 0, .int .i64 0, .slice none 0 0] 51)) (T := 27) (.int .i64 c) (.int .i64 i)
    rwa [World.size_alloc] at this
  obtain ⟨hG1, g0, g1, g2, g3, gf0, gf1, gf2, gf3, gs0, gs1, gs2, gs3⟩ := Four.mk' (blk_below BG.grp hB1)
  have hR1 := blk_below BG.res hB1
  have hBw := bcat BG.bel hB1 BG.bel.size
  obtain ⟨y0, y1, fy0, fy1⟩ := hR1.two
  obtain ⟨t0, t1, _, _⟩ := hF1.two
  rw [hw2] at t0 t1
  go_wp2_with fail
  rw [← hw2]
  rw [← hw2] at t0 t1
  clear hw2
  go_region
  all_goals (
    go_wp2
    obtain ⟨hR6, hB6⟩ := put2 hR1 hBw (by omega) c i
    have hB7 := bdrew hB6
    have hR7 : Blk ((w2.setCell ⟨w.heap.size + 1 + 1, 0, none⟩ (.int .i64 c)).setCell ⟨w.heap.size + 1 + 1, 1, none⟩ (.int .i64 i)).drew (w.heap.size + 1 + 1) 27 [.int .i64 c, .int .i64 i] := hR6
    have hG7 : Blk ((w2.setCell ⟨w.heap.size + 1 + 1, 0, none⟩ (.int .i64 c)).setCell ⟨w.heap.size + 1 + 1, 1, none⟩ (.int .i64 i)).drew (w.heap.size + 1) 51 [.int .i64 0, .slice none 0 0, .int .i64 0, .slice none 0 0] :=
      (hG1.other (p := ⟨w.heap.size + 1 + 1, 0, none⟩) (by simp) (.int .i64 c)).other (p := ⟨w.heap.size + 1 + 1, 1, none⟩) (by simp) (.int .i64 i)
    generalize ((w2.setCell ⟨w.heap.size + 1 + 1, 0, none⟩ (.int .i64 c)).setCell ⟨w.heap.size + 1 + 1, 1, none⟩ (.int .i64 i)).drew = W at hR7 hB7 hG7 ⊢
    obtain ⟨z0, z1, _, _⟩ := hR7.two
    obtain ⟨_, q0, q1, q2, q3, _⟩ := Four.mk' hG7
    exact bodyPost_ret (v := .tuple #[.agg #[.int .i64 0, .slice none 0 0, .int .i64 0, .slice none 0 0], .int .u64 0, .agg #[.int .i64 c, .int .i64 i]]) (by simp [results, Tryz.results65, go_sem, z0, z1, q0, q1, q2, q3]) rfl ⟨rfl, hB7⟩)
set_option maxRecDepth 100000 in
set_option maxHeartbeats 4000000 in
theorem oset_badl (n e : Nat) (v u : Value) (zs ls : List Int) (w : World) (hv : Sl w v zs) (hg : IsGrp n zs e) (hu : Sl w u ls) (hc : (lfault n ls).1 ≠ 0) :
    Calls Tryz.prog 65 #[.agg #[.int .i64 n, v], u] w fun x w' => x = .returned (.tuple #[.agg #[.int .i64 0, .slice none 0 0, .int .i64 0, .slice none 0 0], .int .u64 0, .agg #[.int .i64 (lfault n ls).1, .int .i64 (lfault n ls).2]]) ∧ Below w.heap.size w w' := by
  obtain ⟨va, vl, vc, rfl⟩ := hv.isSlice
  obtain ⟨w0, BG⟩ := Beg4.new w n (.slice va vl vc)
  have hv0 := hv.below BG.bel
  have hu0 := hu.below BG.bel
  obtain ⟨c0, c1, _, _⟩ := BG.box.two
  have HCK := hide (opened_good n e (.slice va vl vc) zs w0 hv0 hg)
  have HSO := hide (fun W (h : Sl W u ls) => setOf_any n u ls W hg.tab.le h)
  obtain ⟨c, i, hci⟩ : ∃ c i, lfault n ls = (c, i) := ⟨_, _, rfl⟩
  rw [hci] at HSO hc ⊢
  simp only at hc HSO
  rw [show okN c (bs (pset ls) n) = 0 from if_neg hc] at HSO
  clear hci
  have hcb : (c != 0) = true := by simpa using hc
  rw [BG.eq] at c0 c1
  go_enter Tryz.func65, Tryz.ntmps65
  go_wp2_with fail
  rw [← BG.eq]
  refine HCK.out.mono ?_
  rintro x w1 ⟨iv9, rfl, hGA, hb1⟩
  obtain ⟨ia, il, ic, rfl⟩ := hGA.sl.isSlice
  clear c0 c1 HCK
  obtain ⟨w2, hw2⟩ : ∃ w2, w2 = (w1.alloc (.cells #[.int .i64 n, (.slice va vl vc), .int .i64 e, (.slice ia il ic)] 51)).alloc (.cells #[.int .i64 0, .int .i64 0] 27) := ⟨_, rfl⟩
  have hB1 : Below w0.heap.size w0 w2 := by rw [hw2]; exact bcat2 hb1 ((balloc w1 _).alloc (by simp) _)
  have hF1 : Blk w2 (w1.heap.size + 1) 27 [.int .i64 0, .int .i64 0] := by
    rw [hw2]
    have := blk0 (w := w1.alloc (.cells #[.int .i64 n, (.slice va vl vc), .int .i64 e, (.slice ia il ic)] 51)) (T := 27) (.int .i64 0) (.int .i64 0)
    rwa [World.size_alloc] at this
  obtain ⟨t0, t1, _, _⟩ := hF1.two
  obtain ⟨k0, k1, _, _⟩ := (blk_below BG.box hB1).two
  rw [hw2] at t0 t1 k0 k1
  have hz9 : w.heap.size + 3 ≤ w1.heap.size := by rw [← BG.size]; exact hb1.size
  go_wp2_with fail
  rw [← hw2]
  clear t0 t1 k0 k1 hw2
  refine (HSO.out w2 (hu0.below hB1)).mono ?_
  rintro x w3 ⟨rfl, hb3⟩
  have hF3 := blk_below hF1 hb3
  have hB3 := bcat2 hB1 hb3
  obtain ⟨f0, f1, ff0, ff1⟩ := hF3.two
  have hBw3 := bcat BG.bel hB3 BG.bel.size
  have hG3 := blk_below BG.grp hB3
  have hR3 := blk_below BG.res hB3
  obtain ⟨hF4, hB4⟩ := put2 hF3 hBw3 (by omega) c i
  have hG4 := (hG3.other (p := ⟨w1.heap.size + 1, 0, none⟩) (by simp; omega) (.int .i64 c)).other (p := ⟨w1.heap.size + 1, 1, none⟩) (by simp; omega) (.int .i64 i)
  have hR4 := (hR3.other (p := ⟨w1.heap.size + 1, 0, none⟩) (by simp; omega) (.int .i64 c)).other (p := ⟨w1.heap.size + 1, 1, none⟩) (by simp; omega) (.int .i64 i)
  go_wp2_with fail
  generalize (w3.setCell ⟨w1.heap.size + 1, 0, none⟩ (.int .i64 c)).setCell ⟨w1.heap.size + 1, 1, none⟩ (.int .i64 i) = w4 at hF4 hB4 hG4 hR4 ⊢
  obtain ⟨hG1, g0, g1, g2, g3, gf0, gf1, gf2, gf3, gs0, gs1, gs2, gs3⟩ := Four.mk' hG4
  obtain ⟨y0, y1, fy0, fy1⟩ := hR4.two
  obtain ⟨t0, t1, _, _⟩ := hF4.two
  go_wp2_with fail
  go_region
  all_goals (
    go_wp2
    obtain ⟨hR6, hB6⟩ := put2 hR4 hB4 (by omega) c i
    have hB7 := bdrew hB6
    have hR7 : Blk ((w4.setCell ⟨w.heap.size + 1 + 1, 0, none⟩ (.int .i64 c)).setCell ⟨w.heap.size + 1 + 1, 1, none⟩ (.int .i64 i)).drew (w.heap.size + 1 + 1) 27 [.int .i64 c, .int .i64 i] := hR6
    have hG7 : Blk ((w4.setCell ⟨w.heap.size + 1 + 1, 0, none⟩ (.int .i64 c)).setCell ⟨w.heap.size + 1 + 1, 1, none⟩ (.int .i64 i)).drew (w.heap.size + 1) 51 [.int .i64 0, .slice none 0 0, .int .i64 0, .slice none 0 0] :=
      (hG1.other (p := ⟨w.heap.size + 1 + 1, 0, none⟩) (by simp) (.int .i64 c)).other (p := ⟨w.heap.size + 1 + 1, 1, none⟩) (by simp) (.int .i64 i)
    generalize ((w4.setCell ⟨w.heap.size + 1 + 1, 0, none⟩ (.int .i64 c)).setCell ⟨w.heap.size + 1 + 1, 1, none⟩ (.int .i64 i)).drew = W at hR7 hB7 hG7 ⊢
    obtain ⟨z0, z1, _, _⟩ := hR7.two
    obtain ⟨_, q0, q1, q2, q3, _⟩ := Four.mk' hG7
    exact bodyPost_ret (v := .tuple #[.agg #[.int .i64 0, .slice none 0 0, .int .i64 0, .slice none 0 0], .int .u64 0, .agg #[.int .i64 c, .int .i64 i]]) (by simp [results, Tryz.results65, go_sem, z0, z1, q0, q1, q2, q3]) rfl ⟨rfl, hB7⟩)
theorem oset_bad (N : Int) (v u : Value) (zs ls : List Int) (w : World) (hv : Sl w v zs) (hu : Sl w u ls) (hc : (sfault N zs ls).1 ≠ 0) :
    Calls Tryz.prog 65 #[.agg #[.int .i64 N, v], u] w fun x w' => x = .returned (.tuple #[.agg #[.int .i64 0, .slice none 0 0, .int .i64 0, .slice none 0 0], .int .u64 0, .agg #[.int .i64 (sfault N zs ls).1, .int .i64 (sfault N zs ls).2]]) ∧ Below w.heap.size w w' := by
  rcases sfault_cases N zs ls hc with ⟨h1, h2⟩ | ⟨n, e, rfl, hg, h1, h2⟩
  · rw [h2]; exact oset_badg N v u zs w hv h1
  · rw [h2]; exact oset_badl n e v u zs ls w hv hg hu h1
set_option maxRecDepth 100000 in
set_option maxHeartbeats 4000000 in
theorem oset_good (n e : Nat) (v u : Value) (zs ls : List Int) (w : World) (hv : Sl w v zs) (hg : IsGrp n zs e) (hu : Sl w u ls) (hc : lfault n ls = (0, 0)) :
    Calls Tryz.prog 65 #[.agg #[.int .i64 n, v], u] w fun x w' => ∃ iv9, x = .returned (.tuple #[.agg #[.int .i64 n, v, .int .i64 e, iv9], .int .u64 (bs (pset ls) n), .agg #[.int .i64 0, .int .i64 0]]) ∧ SlF w.heap.size w' iv9 (li ((List.range n).map (iv n zs e))) ∧ Below w.heap.size w w' := by
  obtain ⟨va, vl, vc, rfl⟩ := hv.isSlice
  obtain ⟨w0, BG⟩ := Beg4.new w n (.slice va vl vc)
  have hv0 := hv.below BG.bel
  have hu0 := hu.below BG.bel
  obtain ⟨c0, c1, _, _⟩ := BG.box.two
  have HCK := hide (opened_good n e (.slice va vl vc) zs w0 hv0 hg)
  have HSO := hide (fun W (h : Sl W u ls) => setOf_any n u ls W hg.tab.le h)
  rw [hc] at HSO
  simp only at HSO
  rw [show okN 0 (bs (pset ls) n) = bs (pset ls) n from rfl] at HSO
  clear hc
  rw [BG.eq] at c0 c1
  go_enter Tryz.func65, Tryz.ntmps65
  go_wp2_with fail
  rw [← BG.eq]
  refine HCK.out.mono ?_
  rintro x w1 ⟨iv9, rfl, hGA, hb1⟩
  obtain ⟨ia, il, ic, rfl⟩ := hGA.sl.isSlice
  clear c0 c1 HCK
  obtain ⟨w2, hw2⟩ : ∃ w2, w2 = (w1.alloc (.cells #[.int .i64 n, (.slice va vl vc), .int .i64 e, (.slice ia il ic)] 51)).alloc (.cells #[.int .i64 0, .int .i64 0] 27) := ⟨_, rfl⟩
  have hb2 : Below w1.heap.size w1 w2 := by rw [hw2]; exact (balloc w1 _).alloc (by simp) _
  have hB1 : Below w0.heap.size w0 w2 := bcat2 hb1 hb2
  have hF1 : Blk w2 (w1.heap.size + 1) 27 [.int .i64 0, .int .i64 0] := by
    rw [hw2]
    have := blk0 (w := w1.alloc (.cells #[.int .i64 n, (.slice va vl vc), .int .i64 e, (.slice ia il ic)] 51)) (T := 27) (.int .i64 0) (.int .i64 0)
    rwa [World.size_alloc] at this
  have hH1 : Blk w2 w1.heap.size 51 [.int .i64 n, (.slice va vl vc), .int .i64 e, (.slice ia il ic)] := by
    rw [hw2]; exact (blk4 _ _ _ _).alloc _
  obtain ⟨t0, t1, _, _⟩ := hF1.two
  obtain ⟨k0, k1, _, _⟩ := (blk_below BG.box hB1).two
  rw [hw2] at t0 t1 k0 k1
  have hz9 : w.heap.size + 3 ≤ w1.heap.size := by rw [← BG.size]; exact hb1.size
  go_wp2_with fail
  rw [← hw2]
  clear t0 t1 k0 k1 hw2
  refine (HSO.out w2 (hu0.below hB1)).mono ?_
  rintro x w3 ⟨rfl, hb3⟩
  have hB3 := bcat2 hB1 hb3
  obtain ⟨_, f0, f1, ff0, ff1, fs0, fs1⟩ := Two.mk' (blk_below hF1 hb3)
  have hBw3 := bcat BG.bel hB3 BG.bel.size
  have hG3 := blk_below BG.grp hB3
  obtain ⟨_, h0, h1, h2, h3, _⟩ := Four.mk' (blk_below hH1 hb3)
  obtain ⟨_, g0, g1, g2, g3, gf0, gf1, gf2, gf3, _⟩ := Four.mk' hG3
  obtain ⟨hR3, y0, y1, fy0, fy1, s0, s1⟩ := Two.mk' (blk_below BG.res hB3)
  have hGA3 := (hGA.below (bcat2 hb2 hb3)).mono (show w.heap.size + 3 ≤ w0.heap.size by rw [BG.size]; exact Nat.le_refl _)
  go_wp2
  obtain ⟨W, hW, hG8, hR8, hB8, hS8, hK8⟩ := put6 hG3 hR3 hBw3 (.int .i64 n) (.slice va vl vc) (.int .i64 e) (.slice ia il ic) (.int .i64 0) (.int .i64 0)
  rw [← hW]
  clear hW
  obtain ⟨z0, z1, _, _⟩ := hR8.two
  obtain ⟨_, q0, q1, q2, q3, _⟩ := Four.mk' hG8
  have hGA9 := (hGA3.keep (fun b h1 _ => hK8 b h1) (by omega)).mono (show w.heap.size ≤ w.heap.size + 3 by omega)
  exact bodyPost_ret (v := .tuple #[.agg #[.int .i64 n, .slice va vl vc, .int .i64 e, .slice ia il ic], .int .u64 (bs (pset ls) n), .agg #[.int .i64 0, .int .i64 0]]) (by simp [results, Tryz.results65, go_sem, z0, z1, q0, q1, q2, q3]) rfl ⟨_, rfl, hGA9, hB8⟩
set_option maxRecDepth 100000 in
set_option maxHeartbeats 4000000 in
theorem rlist_any (n : Nat) (v u : Value) (ls : List Int) (w : World) (hn : n ≤ 60) (hu : Sl w u ls) :
    Calls Tryz.prog 19 #[.agg #[.int .i64 n, v], u] w fun x w' => x = .returned (.agg #[.int .i64 (lfault n ls).1, .int .i64 (lfault n ls).2]) ∧ Below w.heap.size w w' := by
  obtain ⟨w0, BG⟩ := Beg.new w n v
  obtain ⟨a, cap, pb, po, rfl, hr, hp, hq3, hq4⟩ := hu
  have HR := hide hr
  obtain ⟨c0, c1, _, _⟩ := BG.box.two
  obtain ⟨_, y0, y1, fy0, fy1, s0, s1⟩ := Two.mk' BG.res
  by_cases hmany : n < ls.length
  · rw [lfault_many hmany]
    have hmi : (n : Int) < (ls.length : Int) := by omega
    have hF := hide (f_any 2 0)
    rw [BG.eq] at c0 c1
    go_enter Tryz.func19, Tryz.ntmps19
    go_wp2_with fail
    rw [← BG.eq]
    clear c0 c1 y0 y1 fy0 fy1 s0 s1
    refine (hF.out w0).mono ?_
    rintro x w1 ⟨rfl, hb1⟩
    have hR1 := blk_below BG.res hb1
    obtain ⟨y0, y1, fy0, fy1⟩ := hR1.two
    obtain ⟨hR6, hB6⟩ := put2 hR1 (bcat BG.bel hb1 BG.bel.size) (by omega) 2 0
    go_wp2
    generalize (w1.setCell ⟨w.heap.size + 1, 0, none⟩ (.int .i64 2)).setCell ⟨w.heap.size + 1, 1, none⟩ (.int .i64 0) = W at hR6 hB6 ⊢
    obtain ⟨z0, z1, _, _⟩ := hR6.two
    exact bodyPost_ret (v := .agg #[.int .i64 2, .int .i64 0]) (by simp [results, Tryz.results19, go_sem, z0, z1]) rfl ⟨rfl, hB6⟩
  · have hle : ls.length ≤ n := by omega
    have hmi : ¬ (n : Int) < (ls.length : Int) := by omega
    rw [BG.eq] at c0 c1
    clear y0 y1 fy0 fy1 s0 s1 hr
    go_enter Tryz.func19, Tryz.ntmps19
    go_wp2
    rw [← BG.eq]
    clear c0 c1
    go_loopw [5] (fun i wr => ∃ k : Nat, k ≤ ls.length ∧ i = .int .i64 k ∧ (∀ t, t < k → (rbad n ls t || fbad ls t) = false) ∧ Below w0.heap.size w0 wr) (fun i _ => ls.length - (intOf i).toNat)
    case atStart => exact ⟨0, Nat.zero_le _, rfl, fun t ht => by omega, Below.refl _ _⟩
    case round =>
      obtain ⟨k, hk, rfl, hno, hB⟩ := hrel
      have HNO := hide hno
      clear hno
      obtain ⟨c0, c1, _, _⟩ := (blk_below BG.box hB).two
      have hRk := blk_below BG.res hB
      obtain ⟨_, y0, y1, fy0, fy1, s0, s1⟩ := Two.mk' hRk
      have hBw := bcat BG.bel hB BG.bel.size
      by_cases hlt : k < ls.length
      · have hck := (HR.out.below hBw hp).cell k hlt
        obtain rfl := HR.out.at_ (by omega)
        obtain ⟨c, hc⟩ : ∃ c, ls[k]?.getD 0 = c := ⟨_, rfl⟩
        rw [hc] at hck
        have hki : (k : Int) < (ls.length : Int) := by omega
        by_cases hrb : c < 0 ∨ (n : Int) ≤ c
        · have HLF := hide (lfault_r hle hlt HNO.out (by unfold rbad; rw [hc]; simp [hrb]))
          clear hc
          rcases hrb with hc0 | hcn
          · have hc0i : c < 0 := hc0
            go_wp2_with fail
            go_quiet (fail)
            have hBq := bdrewN hB nq
            generalize wr.drewN nq = wq at hBq ⊢
            clear c0 c1 y0 y1 fy0 fy1 s0 s1
            obtain ⟨c0, c1, _, _⟩ := (blk_below BG.box hBq).two
            obtain ⟨_, y0, y1, fy0, fy1, s0, s1⟩ := Two.mk' (blk_below BG.res hBq)
            go_wp2_with fail
            refine (f_any 3 k wq).mono ?_
            rintro x w8 ⟨rfl, hb8⟩
            clear c0 c1 y0 y1 fy0 fy1 s0 s1
            have hB8 := bcat2 hBq hb8
            have hR8 := blk_below BG.res hB8
            obtain ⟨y0, y1, fy0, fy1⟩ := hR8.two
            obtain ⟨hR6, hB6⟩ := put2 hR8 (bcat BG.bel hB8 BG.bel.size) (by omega) 3 k
            go_wp2
            generalize (w8.setCell ⟨w.heap.size + 1, 0, none⟩ (.int .i64 3)).setCell ⟨w.heap.size + 1, 1, none⟩ (.int .i64 k) = W at hR6 hB6 ⊢
            obtain ⟨z0, z1, _, _⟩ := hR6.two
            exact bodyPost_ret (v := .agg #[.int .i64 3, .int .i64 k]) (by simp [results, Tryz.results19, go_sem, z0, z1]) rfl ⟨by first | (rw [HLF.out]; done) | (rw [HLF.out]; simp), hB6⟩
          · by_cases hc0 : c < 0
            · exfalso; omega
            · have hc0i : ¬ c < 0 := hc0
              go_wp2_with fail
              go_quiet (fail)
              have hBq := bdrewN hB nq
              generalize wr.drewN nq = wq at hBq ⊢
              clear c0 c1 y0 y1 fy0 fy1 s0 s1
              obtain ⟨c0, c1, _, _⟩ := (blk_below BG.box hBq).two
              obtain ⟨_, y0, y1, fy0, fy1, s0, s1⟩ := Two.mk' (blk_below BG.res hBq)
              go_wp2_with fail
              refine (f_any 3 k wq).mono ?_
              rintro x w8 ⟨rfl, hb8⟩
              clear c0 c1 y0 y1 fy0 fy1 s0 s1
              have hB8 := bcat2 hBq hb8
              have hR8 := blk_below BG.res hB8
              obtain ⟨y0, y1, fy0, fy1⟩ := hR8.two
              obtain ⟨hR6, hB6⟩ := put2 hR8 (bcat BG.bel hB8 BG.bel.size) (by omega) 3 k
              go_wp2
              generalize (w8.setCell ⟨w.heap.size + 1, 0, none⟩ (.int .i64 3)).setCell ⟨w.heap.size + 1, 1, none⟩ (.int .i64 k) = W at hR6 hB6 ⊢
              obtain ⟨z0, z1, _, _⟩ := hR6.two
              exact bodyPost_ret (v := .agg #[.int .i64 3, .int .i64 k]) (by simp [results, Tryz.results19, go_sem, z0, z1]) rfl ⟨by first | (rw [HLF.out]; done) | (rw [HLF.out]; simp), hB6⟩
        · have hc0 : ¬ c < 0 := fun h => hrb (.inl h)
          have hcn : ¬ (n : Int) ≤ c := fun h => hrb (.inr h)
          have HRB := hide (show rbad n ls k = false by unfold rbad; rw [hc]; simp; omega)
          clear hrb
          have HC := hide hc
          clear hc
          go_wp2_with fail
          go_quiet (fail)
          have hBq := bdrewN hB nq
          generalize wr.drewN nq = wq at hBq ⊢
          clear c0 c1 y0 y1 fy0 fy1 s0 s1
          obtain ⟨c0, c1, _, _⟩ := (blk_below BG.box hBq).two
          obtain ⟨_, y0, y1, fy0, fy1, s0, s1⟩ := Two.mk' (blk_below BG.res hBq)
          have hBwq := bcat BG.bel hBq BG.bel.size
          clear hck
          rcases Nat.eq_zero_or_pos k with rfl | hkp
          · have HFB := hide (show fbad ls 0 = false by simp [fbad])
            have h00 : ¬ ((0 : Int) < ((0 : Nat) : Int)) := by simp
            go_wp2_with fail
            go_quiet (fail)
            have hBq := bdrewN hBq nq
            generalize wq.drewN nq = wz at hBq ⊢
            clear c0 c1 y0 y1 fy0 fy1 s0 s1
            go_wp2
            go_roundw
            case rel => exact ⟨1, by omega, by go_num, fun t ht => by
              have : t = 0 := by omega
              subst this; rw [HRB.out, HFB.out]; rfl, hBq⟩
            case measure => simp [intOf]; omega
          · obtain ⟨m, rfl⟩ : ∃ m, k = m + 1 := ⟨k - 1, by omega⟩
            have hrq := HR.out.below hBwq hp
            have hck := hrq.cell (m + 1) hlt
            have hcm := hrq.cell m (by omega)
            rw [HC.out] at hck
            obtain ⟨d, hd⟩ : ∃ d, ls[m]?.getD 0 = d := ⟨_, rfl⟩
            rw [hd] at hcm
            have hfb : fbad ls (m + 1) = decide (c ≤ d) := by
              unfold fbad
              rw [Nat.add_sub_cancel, HC.out, hd]
              simp
            have hmi2 : (m : Int) < (ls.length : Int) := by omega
            have hmp : (0 : Int) < (m : Int) + 1 := by omega
            have hmw : IntKind.i64.wrap ((m : Int) + 1 - 1) = (m : Int) := by rw [IntKind.wrap_i64]; omega
            clear hrq hd
            by_cases hcd : c ≤ d
            · have HLF := hide (lfault_f hle hlt HNO.out HRB.out (by rw [hfb]; simp [hcd]))
              clear hfb
              go_wp2_with fail
              go_quiet (fail)
              have hBq := bdrewN hBq nq
              generalize wq.drewN nq = wz at hBq ⊢
              clear c0 c1 y0 y1 fy0 fy1 s0 s1
              clear hck hcm
              obtain ⟨c0, c1, _, _⟩ := (blk_below BG.box hBq).two
              obtain ⟨_, y0, y1, fy0, fy1, s0, s1⟩ := Two.mk' (blk_below BG.res hBq)
              go_wp2_with fail
              refine (f_any 5 ((m : Int) + 1) wz).mono ?_
              rintro x w8 ⟨rfl, hb8⟩
              clear c0 c1 y0 y1 fy0 fy1 s0 s1
              have hB8 := bcat2 hBq hb8
              have hR8 := blk_below BG.res hB8
              obtain ⟨y0, y1, fy0, fy1⟩ := hR8.two
              obtain ⟨hR6, hB6⟩ := put2 hR8 (bcat BG.bel hB8 BG.bel.size) (by omega) 5 ((m : Int) + 1)
              go_wp2
              generalize (w8.setCell ⟨w.heap.size + 1, 0, none⟩ (.int .i64 5)).setCell ⟨w.heap.size + 1, 1, none⟩ (.int .i64 ((m : Int) + 1)) = W at hR6 hB6 ⊢
              obtain ⟨z0, z1, _, _⟩ := hR6.two
              exact bodyPost_ret (v := .agg #[.int .i64 5, .int .i64 ((m : Int) + 1)]) (by simp [results, Tryz.results19, go_sem, z0, z1]) rfl ⟨by first | (rw [HLF.out]; done) | (rw [HLF.out]; simp), hB6⟩
            · have HFB := hide (show fbad ls (m + 1) = false by rw [hfb]; simp; omega)
              clear hfb
              go_wp2_with fail
              go_quiet (fail)
              have hBq := bdrewN hBq nq
              generalize wq.drewN nq = wz at hBq ⊢
              clear c0 c1 y0 y1 fy0 fy1 s0 s1
              clear hck hcm
              go_wp2
              go_roundw
              case rel => exact ⟨m + 1 + 1, by omega, by go_num, fun t ht => by
                by_cases e : t = m + 1
                · rw [e, HRB.out, HFB.out]; rfl
                · exact HNO.out t (by omega), hBq⟩
              case measure => simp [intOf]; omega
      · have hkk : k = ls.length := by omega
        subst hkk
        have HLF := hide (lfault_ok hle HNO.out)
        go_wp2
        exact bodyPost_ret (v := .agg #[.int .i64 0, .int .i64 0]) (by simp [results, Tryz.results19, go_sem, y0, y1]) rfl ⟨by rw [HLF.out], hBw⟩
theorem call116 (a : Int) (x y : Value) (W : World) : Sem.run Tryz.prog (callFunc 66 (#[.int .i64 a] ++ #[x, y])) W = .ok (.enter 66 (#[.int .i64 a] ++ #[x, y])) W := by kernel_rfl
set_option maxRecDepth 100000 in
set_option maxHeartbeats 2000000 in
theorem nor1_ok (n : Nat) (v u : Value) (zs : List Int) (e a gb sb : Nat) (q : Nat → Bool) (w : World) (hG : GA w n v e u zs) (hT : Tab w) (ha : a < n) (hb : Box4 w gb n e v u) (hs : Boxed w sb 55 (.int .u64 (bs q n))) :
    Calls Tryz.prog 66 (#[.int .i64 a] ++ #[.pointer (some ⟨gb, 0, none⟩), .pointer (some ⟨sb, 0, none⟩)]) w fun y w' => y = .returned (.bool (norq n zs e q a)) ∧ Below w.heap.size w w' := by
  show Calls Tryz.prog 66 #[.int .i64 a, .pointer (some ⟨gb, 0, none⟩), .pointer (some ⟨sb, 0, none⟩)] w _
  have HC := hide (fun W (h : Below w.heap.size w W) => conjd_ok n v u zs e a q W (hG.below h) (hT.below h) ha)
  have hsc := hs.cell
  have hS : ∀ W, Below w.heap.size w W → (Below w.heap.size w W ∧ W.cell? ⟨gb, 0, none⟩ = some (.int .i64 n) ∧ W.cell? ⟨gb, 1, none⟩ = some v ∧ W.cell? ⟨gb, 2, none⟩ = some (.int .i64 e) ∧ W.cell? ⟨gb, 3, none⟩ = some u ∧ W.cell? ⟨sb, 0, none⟩ = some (.int .u64 (bs q n))) := fun W h => by
    obtain ⟨c0, c1, c2, c3⟩ := (hb.below h).cells
    exact ⟨h, c0, c1, c2, c3, below_cell h hsc⟩
  have hS0 := hS _ (bdrew (Below.refl _ w))
  have HN : Hid (norq n zs e q a = decide (bs (cjq n zs e q a) n = bs q n)) := rfl
  clear hsc
  by_cases heq : bs (cjq n zs e q a) n = bs q n
  · rw [decide_eq_true heq] at HN
    rw [heq] at HC
    generalize bs q n = Q at *
    go_enter Tryz.func66, Tryz.ntmps66
    go_wp2_with fail
    go_region_held3 (fun W => Below w.heap.size w W ∧ W.cell? ⟨gb, 0, none⟩ = some (.int .i64 n) ∧ W.cell? ⟨gb, 1, none⟩ = some v ∧ W.cell? ⟨gb, 2, none⟩ = some (.int .i64 e) ∧ W.cell? ⟨gb, 3, none⟩ = some u ∧ W.cell? ⟨sb, 0, none⟩ = some (.int .u64 (Q : Int)))
      (first | exact hS0 | assumption | exact hS _ (bcat2 (And.left ‹_›) hl1))
      (first | (go_at_call 67; refine (HC.out _ (And.left ‹_›)).mono ?_; rintro e1 W1 ⟨rfl, hl1⟩))
    all_goals (
      have hB9 := And.left ‹Below w.heap.size w W1 ∧ _›
      go_wp2
      go_ret
      exact ⟨by rw [HN.out]; simp, hB9⟩)
  · rw [decide_eq_false heq] at HN
    generalize bs (cjq n zs e q a) n = P at *
    generalize bs q n = Q at *
    have hpi : ¬ ((P : Int) = (Q : Int)) := by omega
    go_enter Tryz.func66, Tryz.ntmps66
    go_wp2_with fail
    go_region_held3 (fun W => Below w.heap.size w W ∧ W.cell? ⟨gb, 0, none⟩ = some (.int .i64 n) ∧ W.cell? ⟨gb, 1, none⟩ = some v ∧ W.cell? ⟨gb, 2, none⟩ = some (.int .i64 e) ∧ W.cell? ⟨gb, 3, none⟩ = some u ∧ W.cell? ⟨sb, 0, none⟩ = some (.int .u64 (Q : Int)))
      (first | exact hS0 | assumption | exact hS _ (bcat2 (And.left ‹_›) hl1))
      (first | (go_at_call 67; refine (HC.out _ (And.left ‹_›)).mono ?_; rintro e1 W1 ⟨rfl, hl1⟩))
    all_goals (
      have hB9 := And.left ‹Below w.heap.size w W1 ∧ _›
      go_wp2
      go_ret
      exact ⟨by rw [HN.out]; simp [hpi], hB9⟩)
set_option maxRecDepth 100000 in
set_option maxHeartbeats 2000000 in
theorem norm_ok (n : Nat) (v u : Value) (zs : List Int) (e : Nat) (q : Nat → Bool) (w : World) (hG : GA w n v e u zs) (hT : Tab w) :
    Calls Tryz.prog 50 #[.agg #[.int .i64 n, v, .int .i64 e, u], .int .u64 (bs q n)] w fun x w' => x = .returned (.int .u64 (bs (norq n zs e q) n)) ∧ Below w.heap.size w w' := by
  have hB0 : Below w.heap.size w ((w.alloc (.cells #[.int .i64 n, v, .int .i64 e, u] 51)).alloc (.cells #[.int .u64 (bs q n)] 55)) := (balloc w _).alloc (by simp) _
  have hX0 : Box4 ((w.alloc (.cells #[.int .i64 n, v, .int .i64 e, u] 51)).alloc (.cells #[.int .u64 (bs q n)] 55)) w.heap.size n e v u := ⟨(blk4 _ _ _ _).alloc _⟩
  have hS0 := Boxed.new (w.alloc (.cells #[.int .i64 n, v, .int .i64 e, u] 51)) 55 (.int .u64 (bs q n))
  rw [World.size_alloc] at hS0
  obtain ⟨c0, c1, c2, c3⟩ := hX0.cells
  go_enter Tryz.func50, Tryz.ntmps50
  go_wp2_with fail
  generalize (w.alloc (.cells #[.int .i64 n, v, .int .i64 e, u] 51)).alloc (.cells #[.int .u64 (bs q n)] 55) = w0 at *
  refine (those_ok n 66 v u e #[.pointer (some ⟨w.heap.size, 0, none⟩), .pointer (some ⟨w.heap.size + 1, 0, none⟩)] (norq n zs e q) w0 hG.le (fun a W => call116 a _ _ W) (fun W a hW ha => nor1_ok n v u zs e a w.heap.size (w.heap.size + 1) q W ((hG.below hB0).below hW) ((hT.below hB0).below hW) ha (hX0.below hW) (Boxed.below hS0 hW))).mono ?_
  rintro x w3 ⟨rfl, hb3⟩
  go_wp2
  go_ret
  exact ⟨rfl, bcat2 hB0 hb3⟩
set_option maxRecDepth 100000 in
set_option maxHeartbeats 4000000 in
theorem osub_good (n e : Nat) (v u : Value) (zs ls : List Int) (w : World) (hv : Sl w v zs) (hg : IsGrp n zs e) (hu : Sl w u ls) (hT : Tab w) (hc : lfault n ls = (0, 0)) (hsb : subT n zs e (pset ls) = true) :
    Calls Tryz.prog 49 #[.agg #[.int .i64 n, v], u] w fun x w' => ∃ iv9, x = .returned (.tuple #[.agg #[.int .i64 n, v, .int .i64 e, iv9], .int .u64 (bs (pset ls) n), .agg #[.int .i64 0, .int .i64 0]]) ∧ SlF w.heap.size w' iv9 (li ((List.range n).map (iv n zs e))) ∧ Below w.heap.size w w' := by
  obtain ⟨va, vl, vc, rfl⟩ := hv.isSlice
  obtain ⟨w0, BG⟩ := Beg4.new w n (.slice va vl vc)
  have hv0 := hv.below BG.bel
  have hu0 := hu.below BG.bel
  obtain ⟨c0, c1, _, _⟩ := BG.box.two
  have HCK := hide (oset_good n e (.slice va vl vc) u zs ls w0 hv0 hg hu0 hc)
  obtain ⟨p, hp⟩ := mkd_test n zs e (pset ls)
  have hpe0 := subT_made hp hg.elt (fun a b ha hb => tm_lt hg.tab ha hb)
  rw [hsb] at hpe0
  have hpe : bs p n = bs (pset ls) n := by simpa using hpe0.symm
  clear hpe0
  have HMK := hide (fun W iv8 (h : GA W n (.slice va vl vc) e iv8 zs) (h2 : Tab W) => made_ok n (.slice va vl vc) iv8 zs e (pset ls) p W h h2 hp)
  rw [hpe] at HMK
  clear hc hsb hp hpe
  rw [BG.eq] at c0 c1
  go_enter Tryz.func49, Tryz.ntmps49
  go_wp2_with fail
  rw [← BG.eq]
  refine HCK.out.mono ?_
  rintro x w1 ⟨iv9, rfl, hGA, hb1⟩
  obtain ⟨ia, il, ic, rfl⟩ := hGA.sl.isSlice
  clear c0 c1 HCK
  obtain ⟨w2, hw2⟩ : ∃ w2, w2 = (w1.alloc (.cells #[.int .i64 n, (.slice va vl vc), .int .i64 e, (.slice ia il ic)] 51)).alloc (.cells #[.int .i64 0, .int .i64 0] 27) := ⟨_, rfl⟩
  have hb2 : Below w1.heap.size w1 w2 := by rw [hw2]; exact (balloc w1 _).alloc (by simp) _
  have hB1 : Below w0.heap.size w0 w2 := bcat2 hb1 hb2
  have hF1 : Blk w2 (w1.heap.size + 1) 27 [.int .i64 0, .int .i64 0] := by
    rw [hw2]
    have := blk0 (w := w1.alloc (.cells #[.int .i64 n, (.slice va vl vc), .int .i64 e, (.slice ia il ic)] 51)) (T := 27) (.int .i64 0) (.int .i64 0)
    rwa [World.size_alloc] at this
  have hH1 : Blk w2 w1.heap.size 51 [.int .i64 n, (.slice va vl vc), .int .i64 e, (.slice ia il ic)] := by
    rw [hw2]; exact (blk4 _ _ _ _).alloc _
  obtain ⟨t0, t1, _, _⟩ := hF1.two
  obtain ⟨_, k0, k1, k2, k3, _⟩ := Four.mk' hH1
  rw [hw2] at t0 t1 k0 k1 k2 k3
  go_wp2_with fail
  rw [← hw2]
  clear t0 t1 k0 k1 k2 k3 hw2
  have hGA2 : GA w2 n (.slice va vl vc) e (.slice ia il ic) zs := ⟨hg, hv0.below hB1, (hGA.below hb2).sl⟩
  refine (HMK.out w2 _ hGA2 ((hT.below BG.bel).below hB1)).mono ?_
  rintro x w3 ⟨rfl, hb3⟩
  have hB3 := bcat2 hB1 hb3
  obtain ⟨_, f0, f1, ff0, ff1, fs0, fs1⟩ := Two.mk' (blk_below hF1 hb3)
  have hBw3 := bcat BG.bel hB3 BG.bel.size
  have hG3 := blk_below BG.grp hB3
  obtain ⟨_, h0, h1, h2, h3, _⟩ := Four.mk' (blk_below hH1 hb3)
  obtain ⟨_, g0, g1, g2, g3, gf0, gf1, gf2, gf3, _⟩ := Four.mk' hG3
  obtain ⟨hR3, y0, y1, fy0, fy1, s0, s1⟩ := Two.mk' (blk_below BG.res hB3)
  have hGA3 := (hGA.below (bcat2 hb2 hb3)).mono (show w.heap.size + 3 ≤ w0.heap.size by rw [BG.size]; exact Nat.le_refl _)
  go_wp2
  obtain ⟨W, hW, hG8, hR8, hB8, hS8, hK8⟩ := put6 hG3 hR3 hBw3 (.int .i64 n) (.slice va vl vc) (.int .i64 e) (.slice ia il ic) (.int .i64 0) (.int .i64 0)
  rw [← hW]
  clear hW
  obtain ⟨z0, z1, _, _⟩ := hR8.two
  obtain ⟨_, q0, q1, q2, q3, _⟩ := Four.mk' hG8
  have hGA9 := (hGA3.keep (fun b h1 _ => hK8 b h1) (by omega)).mono (show w.heap.size ≤ w.heap.size + 3 by omega)
  exact bodyPost_ret (v := .tuple #[.agg #[.int .i64 n, .slice va vl vc, .int .i64 e, .slice ia il ic], .int .u64 (bs (pset ls) n), .agg #[.int .i64 0, .int .i64 0]]) (by simp [results, Tryz.results49, go_sem, z0, z1, q0, q1, q2, q3]) rfl ⟨_, rfl, hGA9, hB8⟩
set_option maxRecDepth 100000 in
set_option maxHeartbeats 4000000 in
theorem nrm_good (n e : Nat) (v u0 : Value) (zs l0 : List Int) (w : World) (hv : Sl w v zs) (hg : IsGrp n zs e) (hu : Sl w u0 l0) (hT : Tab w) (hc : lfault n l0 = (0, 0)) (hs : subT n zs e (pset l0) = true) :
    Calls Tryz.prog 24 #[.agg #[.int .i64 n, v], u0] w fun x w' => x = .returned (.tuple #[.bool (nrmq n zs e (pset l0)), .agg #[.int .i64 0, .int .i64 0]]) ∧ Below w.heap.size w w' := by
  obtain ⟨va, vl, vc, rfl⟩ := hv.isSlice
  obtain ⟨w0, BG⟩ := Beg.new w n (.slice va vl vc)
  have hv0 := hv.below BG.bel
  obtain ⟨c0, c1, _, _⟩ := BG.box.two
  have HCK := hide (osub_good n e (.slice va vl vc) u0 zs l0 w0 hv0 hg (hu.below BG.bel) (hT.below BG.bel) hc hs)
  have HZ0 := hide (show w.heap.size + 2 ≤ w0.heap.size by rw [BG.eq]; simp)
  rw [BG.eq] at c0 c1
  go_enter Tryz.func24, Tryz.ntmps24
  go_wp2_with fail
  rw [← BG.eq]
  refine HCK.out.mono ?_
  rintro x w1 ⟨iv9, rfl, hSI, hb1⟩
  obtain ⟨ia, il, ic, rfl⟩ := hSI.sl.isSlice
  clear c0 c1 HCK
  obtain ⟨w2, hw2⟩ : ∃ w2, w2 = (w1.alloc (.cells #[.int .i64 n, (.slice va vl vc), .int .i64 e, (.slice ia il ic)] 51)).alloc (.cells #[.int .i64 0, .int .i64 0] 27) := ⟨_, rfl⟩
  have hb2 : Below w1.heap.size w1 w2 := by rw [hw2]; exact (balloc w1 _).alloc (by simp) _
  have hB1 : Below w0.heap.size w0 w2 := bcat2 hb1 hb2
  have hF1 : Blk w2 (w1.heap.size + 1) 27 [.int .i64 0, .int .i64 0] := by
    rw [hw2]
    have := blk0 (w := w1.alloc (.cells #[.int .i64 n, (.slice va vl vc), .int .i64 e, (.slice ia il ic)] 51)) (T := 27) (.int .i64 0) (.int .i64 0)
    rwa [World.size_alloc] at this
  have hH2 : Blk w2 w1.heap.size 51 [.int .i64 n, (.slice va vl vc), .int .i64 e, (.slice ia il ic)] := by
    rw [hw2]; exact (blk4 _ _ _ _).alloc _
  have hBw2 := bcat BG.bel hB1 BG.bel.size
  have hR2 := blk_below BG.res hB1
  have hT2 := hT.below hBw2
  have hGA2 : GA w2 n (.slice va vl vc) e (.slice ia il ic) zs := ⟨hg, hv.below hBw2, (hSI.below hb2).sl⟩
  obtain ⟨t0, t1, _, _⟩ := hF1.two
  obtain ⟨_, h0, h1, h2, h3, _⟩ := Four.mk' hH2
  have hx2 := blk_below BG.box hB1
  have HZ1 := hide (Nat.le_trans HZ0.out hb1.size)
  have HZ2 := hide hb2.size
  rw [hw2] at t0 t1 h0 h1 h2 h3
  go_wp2_with fail
  rw [← hw2]
  rw [← hw2] at t0 t1 h0 h1 h2 h3
  clear hw2
  have hS : ∀ W, Below w2.heap.size w2 W → (Below w2.heap.size w2 W ∧ W.cell? ⟨w1.heap.size, 0, none⟩ = some (.int .i64 n) ∧ W.cell? ⟨w1.heap.size, 1, none⟩ = some (.slice va vl vc) ∧ W.cell? ⟨w1.heap.size, 2, none⟩ = some (.int .i64 e) ∧ W.cell? ⟨w1.heap.size, 3, none⟩ = some (.slice ia il ic) ∧ W.cell? ⟨w.heap.size + 1, 0, none⟩ = some (.int .i64 0) ∧ W.cell? ⟨w.heap.size + 1, 1, none⟩ = some (.int .i64 0) ∧ W.frozen? ⟨w.heap.size + 1, 0, none⟩ = false ∧ W.frozen? ⟨w.heap.size + 1, 1, none⟩ = false ∧ W.setCell ⟨w.heap.size + 1, 0, none⟩ (.int .i64 0) = W ∧ W.setCell ⟨w.heap.size + 1, 1, none⟩ (.int .i64 0) = W) := fun W h => by
    obtain ⟨_, y0, y1, fy0, fy1, s0, s1⟩ := Two.mk' (blk_below hR2 h)
    exact ⟨h, below_cell h h0, below_cell h h1, below_cell h h2, below_cell h h3, y0, y1, fy0, fy1, s0, s1⟩
  have hS0 := hS _ (bdrew (Below.refl _ w2))
  have HA := hide (fun W => all_ok n (.slice va vl vc) (.slice ia il ic) e W hg.tab.le)
  have HC := hide (fun W (h : Below w2.heap.size w2 W) => norm_ok n (.slice va vl vc) (.slice ia il ic) zs e (pset l0) W (hGA2.below h) (hT2.below h))
  clear h0 h1 h2 h3 t0 t1
  have HN : Hid (nrmq n zs e (pset l0) = decide (bs (norq n zs e (pset l0)) n = bs (fun _ => true) n)) := rfl
  by_cases heq : bs (norq n zs e (pset l0)) n = bs (fun _ => true) n
  · rw [heq] at HC HN
    rw [decide_eq_true rfl] at HN
    generalize bs (norq n zs e (pset l0)) n = P at *
    generalize bs (fun _ => true) n = A at *
    
    go_region_held3 (fun W => Below w2.heap.size w2 W ∧ W.cell? ⟨w1.heap.size, 0, none⟩ = some (.int .i64 n) ∧ W.cell? ⟨w1.heap.size, 1, none⟩ = some (.slice va vl vc) ∧ W.cell? ⟨w1.heap.size, 2, none⟩ = some (.int .i64 e) ∧ W.cell? ⟨w1.heap.size, 3, none⟩ = some (.slice ia il ic) ∧ W.cell? ⟨w.heap.size + 1, 0, none⟩ = some (.int .i64 0) ∧ W.cell? ⟨w.heap.size + 1, 1, none⟩ = some (.int .i64 0) ∧ W.frozen? ⟨w.heap.size + 1, 0, none⟩ = false ∧ W.frozen? ⟨w.heap.size + 1, 1, none⟩ = false ∧ W.setCell ⟨w.heap.size + 1, 0, none⟩ (.int .i64 0) = W ∧ W.setCell ⟨w.heap.size + 1, 1, none⟩ (.int .i64 0) = W)
      (first | exact hS0 | assumption | exact hS _ (bcat2 (And.left ‹_›) hl1))
      (first
        | (go_at_call 50; refine (HC.out _ (And.left ‹_›)).mono ?_; rintro e1 W1 ⟨rfl, hl1⟩)
        | (go_at_call 30; refine (HA.out _).mono ?_; rintro e2 W2 ⟨rfl, hl1⟩))
    all_goals (
      obtain ⟨hB9, _, _, _, _, y0, y1, _⟩ := ‹Below w2.heap.size w2 W2 ∧ _›
      have hBz := bcat hBw2 hB9 hBw2.size
      clear hS hS0
      go_wp2
      exact bodyPost_ret (v := .tuple #[.bool true, .agg #[.int .i64 0, .int .i64 0]]) (by simp [results, Tryz.results24, go_sem, y0, y1]) rfl ⟨by rw [HN.out], hBz⟩)
  · skip
    rw [decide_eq_false heq] at HN
    generalize bs (norq n zs e (pset l0)) n = P at *
    generalize bs (fun _ => true) n = A at *
    have hpi : ¬ ((P : Int) = (A : Int)) := by omega
    go_region_held3 (fun W => Below w2.heap.size w2 W ∧ W.cell? ⟨w1.heap.size, 0, none⟩ = some (.int .i64 n) ∧ W.cell? ⟨w1.heap.size, 1, none⟩ = some (.slice va vl vc) ∧ W.cell? ⟨w1.heap.size, 2, none⟩ = some (.int .i64 e) ∧ W.cell? ⟨w1.heap.size, 3, none⟩ = some (.slice ia il ic) ∧ W.cell? ⟨w.heap.size + 1, 0, none⟩ = some (.int .i64 0) ∧ W.cell? ⟨w.heap.size + 1, 1, none⟩ = some (.int .i64 0) ∧ W.frozen? ⟨w.heap.size + 1, 0, none⟩ = false ∧ W.frozen? ⟨w.heap.size + 1, 1, none⟩ = false ∧ W.setCell ⟨w.heap.size + 1, 0, none⟩ (.int .i64 0) = W ∧ W.setCell ⟨w.heap.size + 1, 1, none⟩ (.int .i64 0) = W)
      (first | exact hS0 | assumption | exact hS _ (bcat2 (And.left ‹_›) hl1))
      (first
        | (go_at_call 50; refine (HC.out _ (And.left ‹_›)).mono ?_; rintro e1 W1 ⟨rfl, hl1⟩)
        | (go_at_call 30; refine (HA.out _).mono ?_; rintro e2 W2 ⟨rfl, hl1⟩))
    all_goals (
      obtain ⟨hB9, _, _, _, _, y0, y1, _⟩ := ‹Below w2.heap.size w2 W2 ∧ _›
      have hBz := bcat hBw2 hB9 hBw2.size
      clear hS hS0
      go_wp2
      exact bodyPost_ret (v := .tuple #[.bool false, .agg #[.int .i64 0, .int .i64 0]]) (by simp [results, Tryz.results24, go_sem, y0, y1, hpi]) rfl ⟨by rw [HN.out], hBz⟩)
set_option maxRecDepth 100000 in
set_option maxHeartbeats 4000000 in
theorem osub_bads (N : Int) (v u : Value) (zs ls : List Int) (w : World) (hv : Sl w v zs) (hu : Sl w u ls) (hc : (sfault N zs ls).1 ≠ 0) :
    Calls Tryz.prog 49 #[.agg #[.int .i64 N, v], u] w fun x w' => x = .returned (.tuple #[.agg #[.int .i64 0, .slice none 0 0, .int .i64 0, .slice none 0 0], .int .u64 0, .agg #[.int .i64 (sfault N zs ls).1, .int .i64 (sfault N zs ls).2]]) ∧ Below w.heap.size w w' := by
  obtain ⟨w0, BG⟩ := Beg4.new w N v
  have hv0 := hv.below BG.bel
  obtain ⟨c0, c1, _, _⟩ := BG.box.two
  have hck := oset_bad N v u zs ls w0 hv0 (hu.below BG.bel) hc
  obtain ⟨c, i, hci⟩ : ∃ c i, sfault N zs ls = (c, i) := ⟨_, _, rfl⟩
  rw [hci] at hck hc ⊢
  simp only at hc hck
  have HCK := hide hck
  clear hck hci
  have hcb : (c != 0) = true := by simpa using hc
  rw [BG.eq] at c0 c1
  go_enter Tryz.func49, Tryz.ntmps49
  go_wp2_with fail
  rw [← BG.eq]
  refine HCK.out.mono ?_
  rintro x w1 ⟨rfl, hb1⟩
  clear c0 c1
  obtain ⟨w2, hw2⟩ : ∃ w2, w2 = (w1.alloc (.cells #[.int .i64 0, .slice none 0 0, .int .i64 0, .slice none 0 0] 51)).alloc (.cells #[.int .i64 c, .int .i64 i] 27) := ⟨_, rfl⟩
  have hB1 : Below w0.heap.size w0 w2 := by rw [hw2]; exact bcat2 hb1 ((balloc w1 _).alloc (by simp) _)
  have hF1 : Blk w2 (w1.heap.size + 1) 27 [.int .i64 c, .int .i64 i] := by
    rw [hw2]
    have := blk0 (w := w1.alloc (.cells #[.int .i64 0, .slice none 0 0, .int .i64 0, .slice none 0 0] 51)) (T := 27) (.int .i64 c) (.int .i64 i)
    rwa [World.size_alloc] at this
  obtain ⟨hG1, g0, g1, g2, g3, gf0, gf1, gf2, gf3, gs0, gs1, gs2, gs3⟩ := Four.mk' (blk_below BG.grp hB1)
  have hR1 := blk_below BG.res hB1
  have hBw := bcat BG.bel hB1 BG.bel.size
  obtain ⟨y0, y1, fy0, fy1⟩ := hR1.two
  obtain ⟨t0, t1, _, _⟩ := hF1.two
  rw [hw2] at t0 t1
  go_wp2_with fail
  rw [← hw2]
  rw [← hw2] at t0 t1
  clear hw2
  go_region
  all_goals (
    go_wp2
    obtain ⟨hR6, hB6⟩ := put2 hR1 hBw (by omega) c i
    have hB7 := bdrew hB6
    have hR7 : Blk ((w2.setCell ⟨w.heap.size + 1 + 1, 0, none⟩ (.int .i64 c)).setCell ⟨w.heap.size + 1 + 1, 1, none⟩ (.int .i64 i)).drew (w.heap.size + 1 + 1) 27 [.int .i64 c, .int .i64 i] := hR6
    have hG7 : Blk ((w2.setCell ⟨w.heap.size + 1 + 1, 0, none⟩ (.int .i64 c)).setCell ⟨w.heap.size + 1 + 1, 1, none⟩ (.int .i64 i)).drew (w.heap.size + 1) 51 [.int .i64 0, .slice none 0 0, .int .i64 0, .slice none 0 0] :=
      (hG1.other (p := ⟨w.heap.size + 1 + 1, 0, none⟩) (by simp) (.int .i64 c)).other (p := ⟨w.heap.size + 1 + 1, 1, none⟩) (by simp) (.int .i64 i)
    generalize ((w2.setCell ⟨w.heap.size + 1 + 1, 0, none⟩ (.int .i64 c)).setCell ⟨w.heap.size + 1 + 1, 1, none⟩ (.int .i64 i)).drew = W at hR7 hB7 hG7 ⊢
    obtain ⟨z0, z1, _, _⟩ := hR7.two
    obtain ⟨_, q0, q1, q2, q3, _⟩ := Four.mk' hG7
    exact bodyPost_ret (v := .tuple #[.agg #[.int .i64 0, .slice none 0 0, .int .i64 0, .slice none 0 0], .int .u64 0, .agg #[.int .i64 c, .int .i64 i]]) (by simp [results, Tryz.results49, go_sem, z0, z1, q0, q1, q2, q3]) rfl ⟨rfl, hB7⟩)
set_option maxRecDepth 100000 in
set_option maxHeartbeats 4000000 in
theorem osub_badu (n e : Nat) (v u : Value) (zs ls : List Int) (w : World) (hv : Sl w v zs) (hg : IsGrp n zs e) (hu : Sl w u ls) (hT : Tab w) (hc : lfault n ls = (0, 0)) (hsb : subT n zs e (pset ls) = false) :
    Calls Tryz.prog 49 #[.agg #[.int .i64 n, v], u] w fun x w' => x = .returned (.tuple #[.agg #[.int .i64 0, .slice none 0 0, .int .i64 0, .slice none 0 0], .int .u64 0, .agg #[.int .i64 7, .int .i64 0]]) ∧ Below w.heap.size w w' := by
  obtain ⟨va, vl, vc, rfl⟩ := hv.isSlice
  obtain ⟨w0, BG⟩ := Beg4.new w n (.slice va vl vc)
  have hv0 := hv.below BG.bel
  have hu0 := hu.below BG.bel
  obtain ⟨c0, c1, _, _⟩ := BG.box.two
  have HCK := hide (oset_good n e (.slice va vl vc) u zs ls w0 hv0 hg hu0 hc)
  obtain ⟨p, hp⟩ := mkd_test n zs e (pset ls)
  have hpe0 := subT_made hp hg.elt (fun a b ha hb => tm_lt hg.tab ha hb)
  rw [hsb] at hpe0
  have hpe : ¬ bs p n = bs (pset ls) n := by simpa using hpe0.symm
  have hpi : ¬ ((bs p n : Nat) : Int) = ((bs (pset ls) n : Nat) : Int) := by omega
  clear hpe0
  have HMK := hide (fun W iv8 (h : GA W n (.slice va vl vc) e iv8 zs) (h2 : Tab W) => made_ok n (.slice va vl vc) iv8 zs e (pset ls) p W h h2 hp)
  clear hc hsb hp hpe
  rw [BG.eq] at c0 c1
  go_enter Tryz.func49, Tryz.ntmps49
  go_wp2_with fail
  rw [← BG.eq]
  refine HCK.out.mono ?_
  rintro x w1 ⟨iv9, rfl, hGA, hb1⟩
  obtain ⟨ia, il, ic, rfl⟩ := hGA.sl.isSlice
  clear c0 c1 HCK
  obtain ⟨w2, hw2⟩ : ∃ w2, w2 = (w1.alloc (.cells #[.int .i64 n, (.slice va vl vc), .int .i64 e, (.slice ia il ic)] 51)).alloc (.cells #[.int .i64 0, .int .i64 0] 27) := ⟨_, rfl⟩
  have hb2 : Below w1.heap.size w1 w2 := by rw [hw2]; exact (balloc w1 _).alloc (by simp) _
  have hB1 : Below w0.heap.size w0 w2 := bcat2 hb1 hb2
  have hF1 : Blk w2 (w1.heap.size + 1) 27 [.int .i64 0, .int .i64 0] := by
    rw [hw2]
    have := blk0 (w := w1.alloc (.cells #[.int .i64 n, (.slice va vl vc), .int .i64 e, (.slice ia il ic)] 51)) (T := 27) (.int .i64 0) (.int .i64 0)
    rwa [World.size_alloc] at this
  have hH1 : Blk w2 w1.heap.size 51 [.int .i64 n, (.slice va vl vc), .int .i64 e, (.slice ia il ic)] := by
    rw [hw2]; exact (blk4 _ _ _ _).alloc _
  obtain ⟨t0, t1, _, _⟩ := hF1.two
  obtain ⟨_, k0, k1, k2, k3, _⟩ := Four.mk' hH1
  rw [hw2] at t0 t1 k0 k1 k2 k3
  go_wp2_with fail
  rw [← hw2]
  clear t0 t1 k0 k1 k2 k3 hw2
  have hGA2 : GA w2 n (.slice va vl vc) e (.slice ia il ic) zs := ⟨hg, hv0.below hB1, (hGA.below hb2).sl⟩
  refine (HMK.out w2 _ hGA2 ((hT.below BG.bel).below hB1)).mono ?_
  rintro x w3 ⟨rfl, hb3⟩
  have hB3 := bcat2 hB1 hb3
  obtain ⟨_, f0, f1, ff0, ff1, fs0, fs1⟩ := Two.mk' (blk_below hF1 hb3)
  have hBw3 := bcat BG.bel hB3 BG.bel.size
  have hG3 := blk_below BG.grp hB3
  obtain ⟨_, h0, h1, h2, h3, _⟩ := Four.mk' (blk_below hH1 hb3)
  obtain ⟨_, g0, g1, g2, g3, gf0, gf1, gf2, gf3, _⟩ := Four.mk' hG3
  obtain ⟨hR3, y0, y1, fy0, fy1, s0, s1⟩ := Two.mk' (blk_below BG.res hB3)
  have hGA3 := (hGA.below (bcat2 hb2 hb3)).mono (show w.heap.size + 3 ≤ w0.heap.size by rw [BG.size]; exact Nat.le_refl _)
  obtain ⟨_, _, _, _, _, _, _, _, _, gs0, gs1, gs2, gs3⟩ := Four.mk' hG3
  obtain ⟨hR6, hB6⟩ := put2 hR3 hBw3 (by omega) 7 0
  have hG6 := (hG3.other (p := ⟨w.heap.size + 1 + 1, 0, none⟩) (by simp) (.int .i64 7)).other (p := ⟨w.heap.size + 1 + 1, 1, none⟩) (by simp) (.int .i64 0)
  clear s0 s1
  go_wp2
  generalize (w3.setCell ⟨w.heap.size + 1 + 1, 0, none⟩ (.int .i64 7)).setCell ⟨w.heap.size + 1 + 1, 1, none⟩ (.int .i64 0) = W at hR6 hB6 hG6 ⊢
  obtain ⟨z0, z1, _, _⟩ := hR6.two
  obtain ⟨_, q0, q1, q2, q3, _⟩ := Four.mk' hG6
  exact bodyPost_ret (v := .tuple #[.agg #[.int .i64 0, .slice none 0 0, .int .i64 0, .slice none 0 0], .int .u64 0, .agg #[.int .i64 7, .int .i64 0]]) (by simp [results, Tryz.results49, go_sem, z0, z1, q0, q1, q2, q3]) rfl ⟨rfl, hB6⟩
theorem osub_bad (N : Int) (v u : Value) (zs ls : List Int) (w : World) (hv : Sl w v zs) (hu : Sl w u ls) (hT : Tab w) (hc : (ufault N zs ls).1 ≠ 0) :
    Calls Tryz.prog 49 #[.agg #[.int .i64 N, v], u] w fun x w' => x = .returned (.tuple #[.agg #[.int .i64 0, .slice none 0 0, .int .i64 0, .slice none 0 0], .int .u64 0, .agg #[.int .i64 (ufault N zs ls).1, .int .i64 (ufault N zs ls).2]]) ∧ Below w.heap.size w w' := by
  rcases ufault_cases N zs ls hc with ⟨h1, h2⟩ | ⟨n, e, rfl, hg, h1, h2, h3⟩
  · rw [h2]; exact osub_bads N v u zs ls w hv hu h1
  · rw [h3]; exact osub_badu n e v u zs ls w hv hg hu hT h1 h2
set_option maxRecDepth 100000 in
set_option maxHeartbeats 4000000 in
theorem nrm_bad (N : Int) (v u0 : Value) (zs l0 : List Int) (w : World) (hv : Sl w v zs) (hu : Sl w u0 l0) (hT : Tab w) (hc : (ufault N zs l0).1 ≠ 0) :
    Calls Tryz.prog 24 #[.agg #[.int .i64 N, v], u0] w fun x w' => x = .returned (.tuple #[.bool false, .agg #[.int .i64 (ufault N zs l0).1, .int .i64 (ufault N zs l0).2]]) ∧ Below w.heap.size w w' := by
  obtain ⟨w0, BG⟩ := Beg.new w N v
  have hv0 := hv.below BG.bel
  obtain ⟨c0, c1, _, _⟩ := BG.box.two
  have hck := osub_bad N v u0 zs l0 w0 hv0 (hu.below BG.bel) (hT.below BG.bel) hc
  obtain ⟨c, i, hci⟩ : ∃ c i, ufault N zs l0 = (c, i) := ⟨_, _, rfl⟩
  rw [hci] at hck hc ⊢
  simp only at hc hck
  have HCK := hide hck
  clear hck hci
  have hcb : (c != 0) = true := by simpa using hc
  rw [BG.eq] at c0 c1
  go_enter Tryz.func24, Tryz.ntmps24
  go_wp2_with fail
  rw [← BG.eq]
  refine HCK.out.mono ?_
  rintro x w1 ⟨rfl, hb1⟩
  clear c0 c1
  obtain ⟨w2, hw2⟩ : ∃ w2, w2 = (w1.alloc (.cells #[.int .i64 0, .slice none 0 0, .int .i64 0, .slice none 0 0] 51)).alloc (.cells #[.int .i64 c, .int .i64 i] 27) := ⟨_, rfl⟩
  have hB1 : Below w0.heap.size w0 w2 := by rw [hw2]; exact bcat2 hb1 ((balloc w1 _).alloc (by simp) _)
  have hF1 : Blk w2 (w1.heap.size + 1) 27 [.int .i64 c, .int .i64 i] := by
    rw [hw2]
    have := blk0 (w := w1.alloc (.cells #[.int .i64 0, .slice none 0 0, .int .i64 0, .slice none 0 0] 51)) (T := 27) (.int .i64 c) (.int .i64 i)
    rwa [World.size_alloc] at this
  have hR1 := blk_below BG.res hB1
  have hBw := bcat BG.bel hB1 BG.bel.size
  obtain ⟨y0, y1, fy0, fy1⟩ := hR1.two
  obtain ⟨t0, t1, _, _⟩ := hF1.two
  rw [hw2] at t0 t1
  go_wp2_with fail
  rw [← hw2]
  rw [← hw2] at t0 t1
  clear hw2
  go_region
  all_goals (
    go_wp2
    obtain ⟨hR6, hB6⟩ := put2 hR1 hBw (by omega) c i
    have hB7 := bdrew hB6
    have hR7 : Blk ((w2.setCell ⟨w.heap.size + 1, 0, none⟩ (.int .i64 c)).setCell ⟨w.heap.size + 1, 1, none⟩ (.int .i64 i)).drew (w.heap.size + 1) 27 [.int .i64 c, .int .i64 i] := hR6
    generalize ((w2.setCell ⟨w.heap.size + 1, 0, none⟩ (.int .i64 c)).setCell ⟨w.heap.size + 1, 1, none⟩ (.int .i64 i)).drew = W at hR7 hB7 ⊢
    obtain ⟨z0, z1, _, _⟩ := hR7.two
    exact bodyPost_ret (v := .tuple #[.bool false, .agg #[.int .i64 c, .int .i64 i]]) (by simp [results, Tryz.results24, go_sem, z0, z1]) rfl ⟨rfl, hB7⟩)
end Go.Proofs.YtgejngpioldhpaaGreatDoor

namespace Go.Proofs.YtgejngpioldhpaaGreatDoor
open Go Go.RowKit

set_option maxRecDepth 100000 in
set_option maxHeartbeats 2000000 in
theorem cmt_ok (n : Nat) (v u : Value) (zs : List Int) (e a b : Nat) (w : World) (hG : GA w n v e u zs) (ha : a < n) (hb : b < n) :
    Calls Tryz.prog 106 #[.agg #[.int .i64 n, v, .int .i64 e, u], .int .i64 a, .int .i64 b] w fun y w' => y = .returned (.int .i64 (Fin.cm (tm n zs) (iv n zs e) a b)) ∧ Below w.heap.size w w' := by
  obtain ⟨hi, hi1, hi2, _⟩ := iv_spec hG.grp ha
  obtain ⟨hj, _, _, _⟩ := iv_spec hG.grp hb
  have hct : Fin.cj (tm n zs) (iv n zs e) a b < n := List.mem_range.1 (Fin.cj_mem (grp_fg hG.grp) (grp_iv hG.grp) (List.mem_range.2 ha) (List.mem_range.2 hb))
  have heq : Fin.cm (tm n zs) (iv n zs e) a b = tm n zs (iv n zs e a) (Fin.cj (tm n zs) (iv n zs e) a b) := by
    unfold Fin.cm Fin.cj
    rw [hG.grp.ass _ _ _ hi hj (tm_lt hG.grp.tab ha hb)]
  rw [heq]
  have hB0 : Below w.heap.size w (w.alloc (.cells #[.int .i64 n, v, .int .i64 e, u] 51)) := balloc w _
  have N0 := Box4.new w n e v u
  have hG0 := hG.below hB0
  obtain ⟨w0, hw0⟩ : ∃ w0, w0 = w.alloc (.cells #[.int .i64 n, v, .int .i64 e, u] 51) := ⟨_, rfl⟩
  rw [← hw0] at hB0 N0 hG0
  have HP1 := hide (fun W (h : Below w0.heap.size w0 W) => conj_ok n v u zs e a b W (hG0.below h) ha hb)
  have HP2 := hide (fun W (h : Below w0.heap.size w0 W) => prd_ok n v u zs e (iv n zs e a) (Fin.cj (tm n zs) (iv n zs e) a b) W hG.grp.tab (hG0.mul.below h) hi hct)
  obtain ⟨y, cap, pb, po, rfl, hr, hp, hq3, hq4⟩ := hG0.inv
  rw [ivs_len] at hq3
  have hiv := hr.cell a (by rw [ivs_len]; exact ha)
  rw [ivs_at ha] at hiv
  obtain rfl := hr.at_ (by rw [ivs_len]; omega)
  rw [ivs_len] at *
  clear hr hG hG0 hi1 hi2 heq
  generalize tm n zs (iv n zs e a) (Fin.cj (tm n zs) (iv n zs e) a b) = r at *
  generalize Fin.cj (tm n zs) (iv n zs e) a b = t at *
  generalize iv n zs e a = i at *
  have hai : (a : Int) < (n : Int) := by omega
  have hS : ∀ W, Below w0.heap.size w0 W → (Below w0.heap.size w0 W ∧ W.cell? ⟨w.heap.size, 0, none⟩ = some (.int .i64 n) ∧ W.cell? ⟨w.heap.size, 1, none⟩ = some v ∧ W.cell? ⟨w.heap.size, 2, none⟩ = some (.int .i64 e) ∧ W.cell? ⟨w.heap.size, 3, none⟩ = some (.slice (some ⟨pb, po, none⟩) n cap) ∧ W.cell? ⟨pb, po + a, none⟩ = some (.int .i64 i)) := fun W h => by
    obtain ⟨c0, c1, c2, c3⟩ := (N0.below h).cells
    exact ⟨h, c0, c1, c2, c3, below_cell h hiv⟩
  have hS0 := hS _ (bdrew (Below.refl _ w0))
  clear hiv N0
  go_enter Tryz.func106, Tryz.ntmps106
  go_wp2_with fail
  rw [← hw0]
  clear hw0
  go_region_held3 (fun W => Below w0.heap.size w0 W ∧ W.cell? ⟨w.heap.size, 0, none⟩ = some (.int .i64 n) ∧ W.cell? ⟨w.heap.size, 1, none⟩ = some v ∧ W.cell? ⟨w.heap.size, 2, none⟩ = some (.int .i64 e) ∧ W.cell? ⟨w.heap.size, 3, none⟩ = some (.slice (some ⟨pb, po, none⟩) n cap) ∧ W.cell? ⟨pb, po + a, none⟩ = some (.int .i64 i))
    (first | exact hS0 | assumption | exact hS _ (bcat2 (And.left ‹_›) hl1))
    (first
      | (go_at_call 92; refine (HP1.out _ (And.left ‹_›)).mono ?_; rintro e1 W1 ⟨rfl, hl1⟩)
      | (go_at_call 79; refine (HP2.out _ (And.left ‹_›)).mono ?_; rintro e2 W2 ⟨rfl, hl1⟩))
  all_goals (
    have hB9 := And.left ‹Below w0.heap.size w0 W2 ∧ _›
    go_wp2
    go_ret
    exact ⟨rfl, bcat hB0 hB9 hB0.size⟩)
end Go.Proofs.YtgejngpioldhpaaGreatDoor

namespace Go.Proofs.YtgejngpioldhpaaGreatDoor
open Go Go.RowKit

set_option maxRecDepth 100000 in
set_option maxHeartbeats 4000000 in
theorem cmms_ok (n : Nat) (v u : Value) (zs : List Int) (e : Nat) (q r c : Nat → Bool) (w : World) (hG : GA w n v e u zs) (hT : Tab w) (hc : ∀ a, a < n → (c a = true ↔ Mkd n zs e (cmq n zs e (lst n q) (lst n r)) a)) :
    Calls Tryz.prog 90 #[.agg #[.int .i64 n, v, .int .i64 e, u], .int .u64 (bs q n), .int .u64 (bs r n)] w fun x w' => x = .returned (.int .u64 (bs c n)) ∧ Below w.heap.size w w' := by
  have hg := hG.grp
  have hn := hG.le
  have hB0 : Below w.heap.size w (w.alloc (.cells #[.int .i64 n, v, .int .i64 e, u] 51)) := balloc w _
  have hX0 : Blk (w.alloc (.cells #[.int .i64 n, v, .int .i64 e, u] 51)) w.heap.size 51 [.int .i64 n, v, .int .i64 e, u] := blk4 _ _ _ _
  have HLS := hide (fun W (p : Nat → Bool) (h : Below w.heap.size w W) => list_ok n p W hn (hT.below h))
  have HMA := hide (fun W (h : Below w.heap.size w W) => made_ok n v u zs e _ c W (hG.below h) (hT.below h) hc)
  have HM0 := hide (fun x (h : x ∈ lst n q) => (mem_lst.1 h).1)
  have HM1 := hide (fun x (h : x ∈ lst n r) => (mem_lst.1 h).1)
  have hl0 := Nat.le_trans (lst_len n q) hn
  have hl1 := Nat.le_trans (lst_len n r) hn
  have HL0 := hide (li_len (lst n q))
  have HL1 := hide (li_len (lst n r))
  have HLQ := hide (fun W (h : Below w.heap.size w W) => HLS.out W q h)
  have HLR := hide (fun W (h : Below w.heap.size w W) => HLS.out W r h)
  clear hc HLS
  generalize lst n q = xs at *
  generalize lst n r = ys at *
  generalize bs q n = Q at *
  generalize bs r n = R at *
  go_enter Tryz.func90, Tryz.ntmps90
  go_wp2_with fail
  generalize w.alloc (.cells #[.int .i64 n, v, .int .i64 e, u] 51) = w0 at *
  refine (HLQ.out _ hB0).mono ?_
  rintro x w1 ⟨rv, rfl, hrv, hb1⟩
  obtain ⟨a0, cap0, pb0, po0, rfl, hr0, hp0, hq0, hm0, _⟩ := hrv
  have hB1 := bcat2 hB0 hb1
  have hX1 := blk_below hX0 hb1
  rw [HL0.out] at hq0 ⊢
  have HR0 := hide hr0
  clear hr0 hX0 hB0 HLQ hm0
  go_wp2_with fail
  go_loopw [7, 15] (fun s i wr => ∃ k : Nat, k ≤ xs.length ∧ i = .int .i64 k ∧ s = .int .u64 (bs (cmq n zs e (xs.take k) ys) n) ∧ Below w1.heap.size w1 wr) (fun _ i _ => xs.length - (intOf i).toNat)
  case atStart => exact ⟨0, Nat.zero_le _, rfl, by rw [List.take_zero, show bs (cmq n zs e [] ys) n = 0 from bs_none n]; rfl, Below.refl _ _⟩
  case round =>
    obtain ⟨k, hk, rfl, rfl, hB⟩ := hrel
    by_cases hlt : k < xs.length
    · have hck := (HR0.out.below hB hp0).cell k (by rw [HL0.out]; exact hlt)
      rw [li_get hlt] at hck
      obtain rfl := HR0.out.at_ (by rw [HL0.out]; omega)
      obtain ⟨x, hxe⟩ : ∃ x, xs[k] = x := ⟨_, rfl⟩
      have hxn : x < n := by rw [← hxe]; exact HM0.out _ (List.getElem_mem hlt)
      have hsn : xs.take (k + 1) = xs.take k ++ [x] := by rw [List.take_succ_eq_append_getElem hlt, hxe]
      rw [hxe] at hck
      have HSN := hide hsn
      clear hxe hsn
      go_wp2_with fail
      clear hck
      refine (HLR.out _ (bcat2 hB1 hB)).mono ?_
      rintro x9 w3 ⟨rv, rfl, hrv, hb3⟩
      obtain ⟨a1, cap1, pb1, po1, rfl, hr1, hp1, hq1, hm1, _⟩ := hrv
      have hB3 := bcat2 hB hb3
      rw [HL1.out] at hq1 ⊢
      have HR1 := hide hr1
      clear hr1 hm1
      go_wp2_with fail
      go_loopw [7, 22] (fun s i wr => ∃ j : Nat, j ≤ ys.length ∧ i = .int .i64 j ∧ s = .int .u64 (bs (fun y => cmq n zs e (xs.take k) ys y || (ys.take j).any fun b => decide (Fin.cm (tm n zs) (iv n zs e) x b = y)) n) ∧ Below w3.heap.size w3 wr) (fun _ i _ => ys.length - (intOf i).toNat)
      case atStart => exact ⟨0, Nat.zero_le _, rfl, by simp, Below.refl _ _⟩
      case round =>
        obtain ⟨j, hj, rfl, rfl, hB'⟩ := hrel
        clear hB
        have hBn := bcat2 hB3 hB'
        by_cases hltj : j < ys.length
        · have hcj := (HR1.out.below hB' hp1).cell j (by rw [HL1.out]; exact hltj)
          rw [li_get hltj] at hcj
          obtain rfl := HR1.out.at_ (by rw [HL1.out]; omega)
          obtain ⟨y, hye⟩ : ∃ y, ys[j] = y := ⟨_, rfl⟩
          have hyn : y < n := by rw [← hye]; exact HM1.out _ (List.getElem_mem hltj)
          have hsn : ys.take (j + 1) = ys.take j ++ [y] := by rw [List.take_succ_eq_append_getElem hltj, hye]
          rw [hye] at hcj
          have hGr := hG.below (bcat2 hB1 hBn)
          have hct : Fin.cm (tm n zs) (iv n zs e) x y < n := List.mem_range.1 (Fin.cm_mem (grp_fg hg) (grp_iv hg) (List.mem_range.2 hxn) (List.mem_range.2 hyn))
          have hor := bs_put (n := n) (t := Fin.cm (tm n zs) (iv n zs e) x y) (p := fun z => cmq n zs e (xs.take k) ys z || (ys.take j).any fun b => decide (Fin.cm (tm n zs) (iv n zs e) x b = z)) (q := fun z => cmq n zs e (xs.take k) ys z || (ys.take (j + 1)).any fun b => decide (Fin.cm (tm n zs) (iv n zs e) x b = z)) hn (fun z => by
            rw [hsn, List.any_append]
            simp only [List.any_cons, List.any_nil, Bool.or_false, Bool.or_assoc]
            congr 2
            rw [Bool.eq_iff_iff, decide_eq_true_eq, decide_eq_true_eq]
            exact eq_comm)
          have HCM := hide (cmt_ok n _ _ zs e x y wr hGr hxn hyn)
          have HOF := hide (fun W b (h : W.cell? ⟨b, 0, none⟩ = some (.int .i64 (Fin.cm (tm n zs) (iv n zs e) x y))) => of_one n b (Fin.cm (tm n zs) (iv n zs e) x y) W hn hct h)
          obtain ⟨_, g0, g1, g2, g3, _⟩ := Four.mk' (blk_below hX1 hBn)
          generalize Fin.cm (tm n zs) (iv n zs e) x y = t at *
          generalize bs (fun z => decide (z = t)) n = T9 at *
          clear hsn hye
          go_wp2_with fail
          refine HCM.out.mono ?_
          rintro x9 w7 ⟨rfl, hb7⟩
          have hB8 := bcat2 hB' (bcat2 hb7 (balloc w7 (.cells #[.int .i64 t] 3)))
          clear g0 g1 g2 g3
          go_wp2_with fail
          refine (HOF.out _ _ (cell1 _ _ _)).mono ?_
          rintro x9 w8 ⟨rfl, rfl⟩
          go_wp2
          go_roundw
          case rel => exact ⟨j + 1, by omega, by go_num, rfl, hB8⟩
          case measure => simp [intOf]; omega
        · have hjn : j = ys.length := by omega
          subst hjn
          have HE := hide (show bs (fun y => cmq n zs e (xs.take k) ys y || (ys.take ys.length).any fun b => decide (Fin.cm (tm n zs) (iv n zs e) x b = y)) n = bs (cmq n zs e (xs.take (k + 1)) ys) n from bs_ext fun y _ => by
            rw [List.take_length, HSN.out]
            simp [cmq])
          rw [HE.out]
          go_wp2
          go_roundw
          case rel => exact ⟨k + 1, by omega, by go_num, rfl, hBn⟩
          case measure => simp [intOf]; omega
    · have hkn : k = xs.length := by omega
      subst hkn
      rw [List.take_length]
      obtain ⟨_, g0, g1, g2, g3, _⟩ := Four.mk' (blk_below hX1 hB)
      go_wp2_with fail
      refine (HMA.out _ (bcat2 hB1 hB)).mono ?_
      rintro x9 w8 ⟨rfl, hb8⟩
      go_wp2
      go_ret
      exact ⟨rfl, bcat2 (bcat2 hB1 hB) hb8⟩
end Go.Proofs.YtgejngpioldhpaaGreatDoor

namespace Go.Proofs.YtgejngpioldhpaaGreatDoor
open Go Go.RowKit

set_option maxRecDepth 100000 in
set_option maxHeartbeats 8000000 in
theorem closed_ok (n e : Nat) (v u : Value) (zs : List Int) (xs : List Nat) (w : World) (hv : Sl w v zs) (hg : IsGrp n zs e) (hu : Sl w u (li xs)) (hx : ∀ x, x ∈ xs → x < n) (hxl : xs.length ≤ 100000) :
    Calls Tryz.prog 20 #[.agg #[.int .i64 n, v], u] w fun x w' => x = .returned (.bool (subT n zs e fun a => decide (a ∈ xs))) ∧ Below w.heap.size w w' := by
  have hsub := subT_iff (n := n) (zs := zs) (e := e) (q := fun a => decide (a ∈ xs))
  have hB0 : Below w.heap.size w (w.alloc (.cells #[.int .i64 n, v] 24)) := balloc w _
  have hX0 : BoxG (w.alloc (.cells #[.int .i64 n, v] 24)) w.heap.size n v := blk0 _ _
  obtain ⟨w0, hw0⟩ : ∃ w0, w0 = w.alloc (.cells #[.int .i64 n, v] 24) := ⟨_, rfl⟩
  rw [← hw0] at hB0 hX0
  obtain ⟨c0, c1, _, _⟩ := hX0.two
  rw [hw0] at c0 c1
  obtain ⟨ua, ucap, pb, po, rfl, hur, hup, huq, hum⟩ := id hu
  have HUR := hide hur
  have HX := hide hx
  have HE := hide (E_ok n v zs w0 hg.tab (hv.below hB0))
  rw [hg.one] at HE
  have HHS := hide (fun a W (h : Below w.heap.size w W) => has_sl _ xs a W (hu.below h))
  have HSUB := hide hsub
  have hFg := grp_fg hg
  clear hur hx hum hsub
  rw [li_len] at *
  have HUL := hide (li_len xs)
  go_enter Tryz.func20, Tryz.ntmps20
  go_wp2_with fail
  rw [← hw0]
  clear hw0 c0 c1
  refine HE.out.mono ?_
  rintro x9 w1 ⟨rfl, hb1⟩
  have hB1 := bcat2 hB0 hb1
  go_wp2_with fail
  refine (HHS.out e w1 hB1).mono ?_
  by_cases hee : e ∈ xs
  · rw [decide_eq_true hee]
    rintro x9 w2 ⟨rfl, hb2⟩
    have hB2 := bcat2 hB1 hb2
    have hX2 := blk_below hX0 (bcat2 hb1 hb2)
    go_wp2
    go_loopw [5] (fun i wr => ∃ k : Nat, k ≤ xs.length ∧ i = .int .i64 k ∧ (∀ t, (ht : t < xs.length) → t < k → ∀ y, y ∈ xs → tm n zs xs[t] y ∈ xs) ∧ Below w2.heap.size w2 wr) (fun i _ => xs.length - (intOf i).toNat)
    case atStart => exact ⟨0, Nat.zero_le _, rfl, fun t _ ht => by omega, Below.refl _ _⟩
    case round =>
      obtain ⟨k, hk, rfl, hno, hB⟩ := hrel
      have HNO := hide hno
      clear hno
      have hBw := bcat2 hB2 hB
      by_cases hlt : k < xs.length
      · have hck := (HUR.out.below hBw hup).cell k (by rw [HUL.out]; exact hlt)
        rw [li_get hlt] at hck
        obtain rfl := HUR.out.at_ (by rw [HUL.out]; omega)
        obtain ⟨x, hxe⟩ : ∃ x, xs[k] = x := ⟨_, rfl⟩
        have hxm : x ∈ xs := by rw [← hxe]; exact List.getElem_mem hlt
        have hxn : x < n := HX.out _ hxm
        rw [hxe] at hck
        have HXE := hide hxe
        clear hxe
        have hki : (k : Int) < (xs.length : Int) := by omega
        obtain ⟨g0, g1, _, _⟩ := (blk_below hX2 hB).two
        obtain ⟨hin, hi1, _, _⟩ := iv_spec hg hxn
        have hvr := hv.below hBw
        have HI := hide (fun W (h : Below wr.heap.size wr W) => Iiv_ok n x e v zs W hg (hvr.below h) hxn)
        have HH := hide (fun W (h : Below wr.heap.size wr W) => HHS.out (iv n zs e x) W (bcat2 hBw h))
        have hS : ∀ W, Below wr.heap.size wr W → (Below wr.heap.size wr W ∧ W.cell? ⟨w.heap.size, 0, none⟩ = some (.int .i64 n) ∧ W.cell? ⟨w.heap.size, 1, none⟩ = some v ∧ W.cell? ⟨pb, po + k, none⟩ = some (.int .i64 x)) := fun W h => ⟨h, below_cell h g0, below_cell h g1, below_cell h hck⟩
        have hS0 := hS _ (bdrew (Below.refl _ wr))
        by_cases hiin : iv n zs e x ∈ xs
        · rw [decide_eq_true hiin] at HH
          clear hi1 hin
          generalize iv n zs e x = i at *
          go_wp2_with fail
          go_region_held3 (fun W => Below wr.heap.size wr W ∧ W.cell? ⟨w.heap.size, 0, none⟩ = some (.int .i64 n) ∧ W.cell? ⟨w.heap.size, 1, none⟩ = some v ∧ W.cell? ⟨pb, po + k, none⟩ = some (.int .i64 x))
            (first | exact hS0 | assumption | exact hS _ (bcat2 (And.left ‹_›) hl1))
            (first
              | (go_at_call 48; refine (HI.out _ (And.left ‹_›)).mono ?_; rintro e1 U1 ⟨rfl, hl1⟩)
              | (go_at_call 40; refine (HH.out _ (And.left ‹_›)).mono ?_; rintro e2 U2 ⟨rfl, hl1⟩))
          have hB9 := And.left ‹Below wr.heap.size wr U2 ∧ _›
          clear hS hS0 HH HI hl1
          have hB3 := bcat2 hB hB9
          have hX3 := blk_below hX2 hB3
          have hck3 := below_cell hB9 hck
          go_wp2
          clear g0 g1 hck
          go_loopw [6] (fun i wr' => ∃ j : Nat, j ≤ xs.length ∧ i = .int .i64 j ∧ (∀ t, (ht : t < xs.length) → t < j → tm n zs x xs[t] ∈ xs) ∧ Below U2.heap.size U2 wr') (fun i _ => xs.length - (intOf i).toNat)
          case atStart => exact ⟨0, Nat.zero_le _, rfl, fun t _ ht => by omega, Below.refl _ _⟩
          case round =>
            obtain ⟨j, hj, rfl, hnj, hBj⟩ := hrel
            have HNJ := hide hnj
            clear hnj
            have hBw := bcat2 hB2 (bcat2 hB3 hBj)
            have hck := below_cell hBj hck3
            by_cases hltj : j < xs.length
            · have hcj := (HUR.out.below hBw hup).cell j (by rw [HUL.out]; exact hltj)
              rw [li_get hltj] at hcj
              obtain ⟨y, hye⟩ : ∃ y, xs[j] = y := ⟨_, rfl⟩
              have hym : y ∈ xs := by rw [← hye]; exact List.getElem_mem hltj
              have hyn : y < n := HX.out _ hym
              rw [hye] at hcj
              have HYE := hide hye
              clear hye
              have hji : (j : Int) < (xs.length : Int) := by omega
              obtain ⟨g0, g1, _, _⟩ := (blk_below hX3 hBj).two
              have hvr := hv.below hBw
              have HMM := hide (fun W (h : Below wr.heap.size wr W) => M_ok n v zs x y W hg.tab (hvr.below h) hxn hyn)
              have HH := hide (fun W (h : Below wr.heap.size wr W) => HHS.out (tm n zs x y) W (bcat2 hBw h))
              have hS : ∀ W, Below wr.heap.size wr W → (Below wr.heap.size wr W ∧ W.cell? ⟨w.heap.size, 0, none⟩ = some (.int .i64 n) ∧ W.cell? ⟨w.heap.size, 1, none⟩ = some v ∧ W.cell? ⟨pb, po + k, none⟩ = some (.int .i64 x) ∧ W.cell? ⟨pb, po + j, none⟩ = some (.int .i64 y)) := fun W h => ⟨h, below_cell h g0, below_cell h g1, below_cell h hck, below_cell h hcj⟩
              have hS0 := hS _ (bdrew (Below.refl _ wr))
              by_cases htin : tm n zs x y ∈ xs
              · rw [decide_eq_true htin] at HH
                have HTQ := hide htin
                obtain ⟨t, ht⟩ : ∃ t, tm n zs x y = t := ⟨_, rfl⟩
                rw [ht] at HMM HH
                clear ht htin
                go_wp2_with fail
                go_region_held3 (fun W => Below wr.heap.size wr W ∧ W.cell? ⟨w.heap.size, 0, none⟩ = some (.int .i64 n) ∧ W.cell? ⟨w.heap.size, 1, none⟩ = some v ∧ W.cell? ⟨pb, po + k, none⟩ = some (.int .i64 x) ∧ W.cell? ⟨pb, po + j, none⟩ = some (.int .i64 y))
                  (first | exact hS0 | assumption | exact hS _ (bcat2 (And.left ‹_›) hl1))
                  (first
                    | (go_at_call 42; refine (HMM.out _ (And.left ‹_›)).mono ?_; rintro e1 U1 ⟨rfl, hl1⟩)
                    | (go_at_call 40; refine (HH.out _ (And.left ‹_›)).mono ?_; rintro e2 U2 ⟨rfl, hl1⟩))
                have hB9 := And.left ‹Below wr.heap.size wr U2 ∧ _›
                clear hS hS0 HH HMM hl1
                go_wp2
                go_roundw
                case rel => exact ⟨j + 1, by omega, by go_num, fun t9 h1 h2 => by
                  by_cases e9 : t9 = j
                  · subst e9; rw [HYE.out]; exact HTQ.out
                  · exact HNJ.out t9 h1 (by omega), bcat2 hBj hB9⟩
                case measure => simp [intOf]; omega
              · rw [decide_eq_false htin] at HH
                have HD := hide (show (subT n zs e fun a => decide (a ∈ xs)) = false by
                  rw [← Bool.not_eq_true]
                  intro h
                  exact htin (by simpa using (HSUB.out.1 h).mul x y (List.mem_range.2 hxn) (List.mem_range.2 hyn) (by simpa using hxm) (by simpa using hym)))
                clear htin
                generalize tm n zs x y = t at *
                go_wp2_with fail
                go_region_held3 (fun W => Below wr.heap.size wr W ∧ W.cell? ⟨w.heap.size, 0, none⟩ = some (.int .i64 n) ∧ W.cell? ⟨w.heap.size, 1, none⟩ = some v ∧ W.cell? ⟨pb, po + k, none⟩ = some (.int .i64 x) ∧ W.cell? ⟨pb, po + j, none⟩ = some (.int .i64 y))
                  (first | exact hS0 | assumption | exact hS _ (bcat2 (And.left ‹_›) hl1))
                  (first
                    | (go_at_call 42; refine (HMM.out _ (And.left ‹_›)).mono ?_; rintro e1 U1 ⟨rfl, hl1⟩)
                    | (go_at_call 40; refine (HH.out _ (And.left ‹_›)).mono ?_; rintro e2 U2 ⟨rfl, hl1⟩))
                have hB9 := And.left ‹Below wr.heap.size wr U2 ∧ _›
                go_wp2
                go_ret
                exact ⟨by rw [HD.out]; rfl, bcat2 hBw hB9⟩
            · go_wp2
              go_roundw
              case rel => exact ⟨k + 1, by omega, by go_num, fun t h1 h2 y hy => by
                by_cases e9 : t = k
                · subst e9
                  obtain ⟨t9, h9, rfl⟩ := List.mem_iff_getElem.1 hy
                  rw [HXE.out]; exact HNJ.out t9 h9 (by omega)
                · exact HNO.out t h1 (by omega) y hy, bcat2 hB3 hBj⟩
              case measure => simp [intOf]; omega
        · rw [decide_eq_false hiin] at HH
          have HD := hide (show (subT n zs e fun a => decide (a ∈ xs)) = false by
            rw [← Bool.not_eq_true]
            intro h
            exact hiin (by simpa using (HSUB.out.1 h).inv hFg (List.mem_range.2 hxn) (List.mem_range.2 hin) hi1 (by simpa using hxm)))
          clear hiin hi1 hin
          generalize iv n zs e x = i at *
          go_wp2_with fail
          go_region_held3 (fun W => Below wr.heap.size wr W ∧ W.cell? ⟨w.heap.size, 0, none⟩ = some (.int .i64 n) ∧ W.cell? ⟨w.heap.size, 1, none⟩ = some v ∧ W.cell? ⟨pb, po + k, none⟩ = some (.int .i64 x))
            (first | exact hS0 | assumption | exact hS _ (bcat2 (And.left ‹_›) hl1))
            (first
              | (go_at_call 48; refine (HI.out _ (And.left ‹_›)).mono ?_; rintro e1 U1 ⟨rfl, hl1⟩)
              | (go_at_call 40; refine (HH.out _ (And.left ‹_›)).mono ?_; rintro e2 U2 ⟨rfl, hl1⟩))
          have hB9 := And.left ‹Below wr.heap.size wr U2 ∧ _›
          go_wp2
          go_ret
          exact ⟨by rw [HD.out]; rfl, bcat2 hBw hB9⟩
      · have HD := hide (show (subT n zs e fun a => decide (a ∈ xs)) = true by
          rw [HSUB.out]
          refine ⟨by simpa using hee, fun a b _ _ h1 h2 => ?_⟩
          have h1 : a ∈ xs := by simpa using h1
          have h2 : b ∈ xs := by simpa using h2
          obtain ⟨t, ht, rfl⟩ := List.mem_iff_getElem.1 h1
          simpa using HNO.out t ht (by omega) b h2)
        go_wp2
        go_ret
        exact ⟨by rw [HD.out]; rfl, hBw⟩
  · rw [decide_eq_false hee]
    rintro x9 w2 ⟨rfl, hb2⟩
    have HD := hide (show (subT n zs e fun a => decide (a ∈ xs)) = false by
      rw [← Bool.not_eq_true]
      intro h
      exact hee (by simpa using (HSUB.out.1 h).one))
    go_wp2
    go_ret
    exact ⟨by rw [HD.out]; rfl, bcat2 hB1 hb2⟩
end Go.Proofs.YtgejngpioldhpaaGreatDoor

namespace Go.Proofs.YtgejngpioldhpaaGreatDoor
open Go Go.RowKit

set_option maxRecDepth 100000 in
set_option maxHeartbeats 4000000 in
theorem rset_any (N : Int) (v u : Value) (zs ls : List Int) (w : World) (hv : Sl w v zs) (hu : Sl w u ls) :
    Calls Tryz.prog 57 #[.agg #[.int .i64 N, v], u] w fun x w' => x = .returned (.agg #[.int .i64 (sfault N zs ls).1, .int .i64 (sfault N zs ls).2]) ∧ Below w.heap.size w w' := by
  obtain ⟨w0, BG⟩ := Beg.new w N v
  obtain ⟨c0, c1, _, _⟩ := BG.box.two
  have HGF := hide (groupFault_any N v zs w0 (hv.below BG.bel))
  by_cases hc : (gfault N zs).1 = 0
  · obtain ⟨n, e, rfl, hg, hg0⟩ := gfault_grp hc
    rw [sfault_l hg]
    rw [hg0] at HGF
    have HLF := hide (fun W (h : Sl W u ls) => rlist_any n v u ls W hg.tab.le h)
    obtain ⟨c, i, hci⟩ : ∃ c i, lfault n ls = (c, i) := ⟨_, _, rfl⟩
    rw [hci] at HLF ⊢
    simp only at HLF HGF ⊢
    clear hci
    rw [BG.eq] at c0 c1
    go_enter Tryz.func57, Tryz.ntmps57
    go_wp2_with fail
    rw [← BG.eq]
    clear c0 c1
    refine HGF.out.mono ?_
    rintro x w1 ⟨rfl, hb1⟩
    have hb2 := bcat2 hb1 (balloc w1 (.cells #[.int .i64 0, .int .i64 0] 27))
    have hF2 := blk0 (w := w1) (T := 27) (.int .i64 0) (.int .i64 0)
    have hX2 := blk_below BG.box hb2
    obtain ⟨c0, c1, _, _⟩ := hX2.two
    obtain ⟨t0, t1, _, _⟩ := hF2.two
    have hBw := bcat BG.bel hb2 BG.bel.size
    have hs1 : w.heap.size + 1 < w1.heap.size := (blk_below BG.res hb1).lt
    have HS1 := hide hs1
    clear hs1
    go_wp2_with fail
    generalize w1.alloc (.cells #[.int .i64 0, .int .i64 0] 27) = w2 at *
    clear c0 c1 t0 t1
    refine (HLF.out w2 (hu.below hBw)).mono ?_
    rintro x w3 ⟨rfl, hb3⟩
    have hF3 := blk_below hF2 hb3
    have hB3 := bcat hBw hb3 hBw.size
    obtain ⟨t0, t1, tf0, tf1⟩ := hF3.two
    have hR3 := blk_below BG.res (bcat2 hb2 hb3)
    obtain ⟨hF4, hB4⟩ := put2 hF3 hB3 (by have := HS1.out; omega) c i
    have hR4 := (hR3.other (p := ⟨w1.heap.size, 0, none⟩) (by have := HS1.out; simp; omega) (.int .i64 c)).other (p := ⟨w1.heap.size, 1, none⟩) (by have := HS1.out; simp; omega) (.int .i64 i)
    obtain ⟨f0, f1, _, _⟩ := hF4.two
    obtain ⟨y0, y1, fy0, fy1⟩ := hR4.two
    go_wp2_with fail
    generalize (w3.setCell ⟨w1.heap.size, 0, none⟩ (.int .i64 c)).setCell ⟨w1.heap.size, 1, none⟩ (.int .i64 i) = w4 at *
    obtain ⟨hR6, hB6⟩ := put2 hR4 hB4 (by omega) c i
    go_wp2
    generalize (w4.setCell ⟨w.heap.size + 1, 0, none⟩ (.int .i64 c)).setCell ⟨w.heap.size + 1, 1, none⟩ (.int .i64 i) = W at hR6 hB6 ⊢
    obtain ⟨z0, z1, _, _⟩ := hR6.two
    exact bodyPost_ret (v := .agg #[.int .i64 c, .int .i64 i]) (by simp [results, Tryz.results57, go_sem, z0, z1]) rfl ⟨rfl, hB6⟩
  · rw [sfault_g hc]
    obtain ⟨c, i, hci⟩ : ∃ c i, gfault N zs = (c, i) := ⟨_, _, rfl⟩
    rw [hci] at HGF hc ⊢
    simp only at HGF hc ⊢
    clear hci
    rw [BG.eq] at c0 c1
    go_enter Tryz.func57, Tryz.ntmps57
    go_wp2_with fail
    rw [← BG.eq]
    clear c0 c1
    refine HGF.out.mono ?_
    rintro x w1 ⟨rfl, hb1⟩
    have hb2 := bcat2 hb1 (balloc w1 (.cells #[.int .i64 c, .int .i64 i] 27))
    have hF2 := blk0 (w := w1) (T := 27) (.int .i64 c) (.int .i64 i)
    obtain ⟨t0, t1, _, _⟩ := hF2.two
    have hBw := bcat BG.bel hb2 BG.bel.size
    have hR2 := blk_below BG.res hb2
    obtain ⟨y0, y1, fy0, fy1⟩ := hR2.two
    obtain ⟨hR6, hB6⟩ := put2 hR2 hBw (by omega) c i
    go_wp2
    generalize ((w1.alloc (.cells #[.int .i64 c, .int .i64 i] 27)).setCell ⟨w.heap.size + 1, 0, none⟩ (.int .i64 c)).setCell ⟨w.heap.size + 1, 1, none⟩ (.int .i64 i) = W at hR6 hB6 ⊢
    obtain ⟨z0, z1, _, _⟩ := hR6.two
    exact bodyPost_ret (v := .agg #[.int .i64 c, .int .i64 i]) (by simp [results, Tryz.results57, go_sem, z0, z1]) rfl ⟨rfl, hB6⟩
theorem closed_set (n e : Nat) (v u : Value) (zs l : List Int) (w : World) (hv : Sl w v zs) (hg : IsGrp n zs e) (hu : Sl w u l) (hl : lfault n l = (0, 0)) :
    Calls Tryz.prog 20 #[.agg #[.int .i64 n, v], u] w fun x w' => x = .returned (.bool (subT n zs e (pset l))) ∧ Below w.heap.size w w' := by
  have hli := set_lst (show (lfault n l).1 = 0 by rw [hl])
  have h := closed_ok n e v u zs (lst n (pset l)) w hv hg (by rw [← hli]; exact hu) (fun x hx => (mem_lst.1 hx).1) (Nat.le_trans (lst_len _ _) (by have := hg.tab.le; omega))
  rwa [← pset_self hl] at h

set_option maxRecDepth 100000 in
set_option maxHeartbeats 4000000 in
theorem rsub_any (N : Int) (v u : Value) (zs l : List Int) (w : World) (hv : Sl w v zs) (hu : Sl w u l) :
    Calls Tryz.prog 31 #[.agg #[.int .i64 N, v], u] w fun x w' => x = .returned (.agg #[.int .i64 (ufault N zs l).1, .int .i64 (ufault N zs l).2]) ∧ Below w.heap.size w w' := by
  obtain ⟨w0, BG⟩ := Beg.new w N v
  obtain ⟨c0, c1, _, _⟩ := BG.box.two
  have HSF := hide (rset_any N v u zs l w0 (hv.below BG.bel) (hu.below BG.bel))
  by_cases hc : (sfault N zs l).1 = 0
  · obtain ⟨n, e, rfl, hg, hl, h0⟩ := sfault_zero hc
    rw [ufault_u hg hl]
    rw [h0] at HSF
    have HCL := hide (fun W (h : Below w.heap.size w W) => closed_set n e v u zs l W (hv.below h) hg (hu.below h) hl)
    simp only at HSF
    clear h0 hc hl
    obtain ⟨b, hb⟩ : ∃ b, subT n zs e (pset l) = b := ⟨_, rfl⟩
    rw [hb] at HCL ⊢
    clear hb
    rw [BG.eq] at c0 c1
    go_enter Tryz.func31, Tryz.ntmps31
    go_wp2_with fail
    rw [← BG.eq]
    clear c0 c1
    refine HSF.out.mono ?_
    rintro x w1 ⟨rfl, hb1⟩
    have hb2 := bcat2 hb1 (balloc w1 (.cells #[.int .i64 0, .int .i64 0] 27))
    have hF2 := blk0 (w := w1) (T := 27) (.int .i64 0) (.int .i64 0)
    have hX2 := blk_below BG.box hb2
    have HS1 := hide (blk_below BG.res hb1).lt
    obtain ⟨c0, c1, _, _⟩ := hX2.two
    obtain ⟨t0, t1, _, _⟩ := hF2.two
    have hBw := bcat BG.bel hb2 BG.bel.size
    go_wp2_with fail
    generalize w1.alloc (.cells #[.int .i64 0, .int .i64 0] 27) = w2 at *
    clear c0 c1 t0 t1
    refine (HCL.out w2 hBw).mono ?_
    rintro x w3 ⟨rfl, hb3⟩
    have hF3 := blk_below hF2 hb3
    have hB3 := bcat hBw hb3 hBw.size
    have hR3 := blk_below BG.res (bcat2 hb2 hb3)
    cases b with
    | true =>
      obtain ⟨t0, t1, _, _⟩ := hF3.two
      obtain ⟨_, y0, y1, fy0, fy1, s0, s1⟩ := Two.mk' hR3
      go_wp2
      exact bodyPost_ret (v := .agg #[.int .i64 0, .int .i64 0]) (by simp [results, Tryz.results31, go_sem, y0, y1]) rfl ⟨rfl, hB3⟩
    | false =>
      go_wp2_with fail
      refine (f_any 7 0 w3).mono ?_
      rintro x w4 ⟨rfl, hb4⟩
      have hF4 := blk_below hF3 hb4
      have hB4 := bcat hB3 hb4 hB3.size
      have hR4 := blk_below hR3 hb4
      obtain ⟨t0, t1, tf0, tf1⟩ := hF4.two
      obtain ⟨hF5, hB5⟩ := put2 hF4 hB4 (by have := HS1.out; omega) 7 0
      have hR5 := (hR4.other (p := ⟨w1.heap.size, 0, none⟩) (by have := HS1.out; simp; omega) (.int .i64 7)).other (p := ⟨w1.heap.size, 1, none⟩) (by have := HS1.out; simp; omega) (.int .i64 0)
      obtain ⟨f0, f1, _, _⟩ := hF5.two
      obtain ⟨y0, y1, fy0, fy1⟩ := hR5.two
      go_wp2_with fail
      generalize (w4.setCell ⟨w1.heap.size, 0, none⟩ (.int .i64 7)).setCell ⟨w1.heap.size, 1, none⟩ (.int .i64 0) = w5 at *
      obtain ⟨hR6, hB6⟩ := put2 hR5 hB5 (by omega) 7 0
      go_wp2
      generalize (w5.setCell ⟨w.heap.size + 1, 0, none⟩ (.int .i64 7)).setCell ⟨w.heap.size + 1, 1, none⟩ (.int .i64 0) = W at hR6 hB6 ⊢
      obtain ⟨z0, z1, _, _⟩ := hR6.two
      exact bodyPost_ret (v := .agg #[.int .i64 7, .int .i64 0]) (by simp [results, Tryz.results31, go_sem, z0, z1]) rfl ⟨rfl, hB6⟩
  · rw [ufault_s hc]
    obtain ⟨c, i, hci⟩ : ∃ c i, sfault N zs l = (c, i) := ⟨_, _, rfl⟩
    rw [hci] at HSF hc ⊢
    simp only at HSF hc ⊢
    clear hci
    have hcb : (c == 0) = false := by simpa using hc
    rw [BG.eq] at c0 c1
    go_enter Tryz.func31, Tryz.ntmps31
    go_wp2_with fail
    rw [← BG.eq]
    clear c0 c1
    refine HSF.out.mono ?_
    rintro x w1 ⟨rfl, hb1⟩
    have hb2 := bcat2 hb1 (balloc w1 (.cells #[.int .i64 c, .int .i64 i] 27))
    have hF2 := blk0 (w := w1) (T := 27) (.int .i64 c) (.int .i64 i)
    obtain ⟨t0, t1, _, _⟩ := hF2.two
    have hBw := bcat BG.bel hb2 BG.bel.size
    have hR2 := blk_below BG.res hb2
    obtain ⟨y0, y1, fy0, fy1⟩ := hR2.two
    obtain ⟨hR6, hB6⟩ := put2 hR2 hBw (by omega) c i
    go_wp2
    generalize ((w1.alloc (.cells #[.int .i64 c, .int .i64 i] 27)).setCell ⟨w.heap.size + 1, 0, none⟩ (.int .i64 c)).setCell ⟨w.heap.size + 1, 1, none⟩ (.int .i64 i) = W at hR6 hB6 ⊢
    obtain ⟨z0, z1, _, _⟩ := hR6.two
    exact bodyPost_ret (v := .agg #[.int .i64 c, .int .i64 i]) (by simp [results, Tryz.results31, go_sem, z0, z1]) rfl ⟨rfl, hB6⟩
set_option maxRecDepth 100000 in
set_option maxHeartbeats 2000000 in
theorem both_ok (v1 v2 : Value) (zs ys : List Int) (w : World) (h1 : Sl w v1 zs) (h2 : Sl w v2 ys) (hsm : zs.length ≤ 60) :
    Calls Tryz.prog 14 #[v1, v2] w fun x w' => ∃ r, x = .returned r ∧ Row w' w.heap.size r (zs.filter fun a => decide (a ∈ ys)) ∧ Below w.heap.size w w' := by
  obtain ⟨i0, hi, hz0, hz1, hz2⟩ := info_parts info3b
  obtain ⟨x, cap, pb, po, rfl, hr, hp, hq3, hq4⟩ := h1
  have HR := hide hr
  have HH := hide (fun a W (h : Below w.heap.size w W) => rhas_ok v2 ys a W (h2.below h))
  clear hr
  go_enter Tryz.func14, Tryz.ntmps14
  go_wp2
  go_loopw [5, 6] (fun r i wr => ∃ k : Nat, k ≤ zs.length ∧ i = .int .i64 k ∧ Row wr w.heap.size r ((zs.take k).filter fun a => decide (a ∈ ys)) ∧ Below w.heap.size w wr) (fun _ i _ => zs.length - (intOf i).toNat)
  case atStart => exact ⟨0, Nat.zero_le _, rfl, nil_row _ _, Below.refl _ _⟩
  case round =>
    obtain ⟨k, hk, rfl, hrow, hB⟩ := hrel
    obtain ⟨r, rfl⟩ : ∃ r, r = u5 := ⟨_, rfl⟩
    have hBs := hB.size
    by_cases hlt : k < zs.length
    · obtain rfl := HR.out.at_ (by omega)
      have hc := (HR.out.below hB hp).cell k hlt
      have hsn := take_snoc' hlt
      obtain ⟨c, hce⟩ : ∃ c, zs[k]?.getD 0 = c := ⟨_, rfl⟩
      rw [hce] at hc hsn
      clear hce
      have HSN := hide hsn
      clear hsn
      have HC := hide (HH.out c wr hB)
      by_cases hca : c ∈ ys
      · rw [decide_eq_true hca] at HC
        have HE := hide (show (zs.take (k + 1)).filter (fun a => decide (a ∈ ys)) = (zs.take k).filter (fun a => decide (a ∈ ys)) ++ [c] by rw [HSN.out, List.filter_append]; simp [hca])
        have HLL := hide (show ((zs.take k).filter fun a => decide (a ∈ ys)).length ≤ 60 by
          refine Nat.le_trans (List.length_filter_le _ _) ?_
          rw [List.length_take]; omega)
        have hown : wr.ownsRow w.heap.size 3 1 r ((zs.take k).filter fun a => decide (a ∈ ys)).length (((zs.take k).filter fun a => decide (a ∈ ys)).map (Value.int .i64)) := hrow
        clear hrow
        generalize (zs.take k).filter (fun a => decide (a ∈ ys)) = xs at *
        go_wp2_with fail
        refine HC.out.mono ?_
        rintro e1 w1 ⟨rfl, rfl⟩
        go_wp2_with (first
          | (at_builtin; refine wpList_append_own _ rfl _ _ 22 rfl w.heap.size 3 i0 (.int .i64 0) 1 8 under22b hi hz0 hz1 hz2 rfl (by decide) _ _ _ rfl (World.ownsRow.alloc hown _) ⟨w1.heap.size, 0, none⟩ 1 1 [.int .i64 c] rfl rfl ?c1 ?c2 ?c3 ?c4 ?c5 ?_))
        case c1 => exact cell_one_new _ _ _
        case c2 => simp [Value.oneCell']
        case c3 => unfold maxLen; have := HLL.out; omega
        case c4 => have := HLL.out; omega
        case c5 => simp; omega
        intro v' w2 hown' hgrow _
        obtain ⟨g', cap', rfl⟩ := ownsRow_succ hown'
        have hB2 : Below w.heap.size w w2 := (hB.alloc hBs _).grown hgrow (by simp; omega) (fun t e => owns_ge hown t e)
        have hrow2 : Row w2 w.heap.size (.slice (some ⟨g', 0, none⟩) (xs.length + 1) cap') ((zs.take (k + 1)).filter fun a => decide (a ∈ ys)) := by
          unfold Row
          rw [HE.out]
          simpa using hown'
        clear hown' hgrow hown
        go_wp2
        go_roundw
        case rel => exact ⟨k + 1, by omega, by go_num, hrow2, hB2⟩
        case measure => simp [intOf]; omega
      · rw [decide_eq_false hca] at HC
        have HE := hide (show (zs.take (k + 1)).filter (fun a => decide (a ∈ ys)) = (zs.take k).filter (fun a => decide (a ∈ ys)) by rw [HSN.out, List.filter_append]; simp [hca])
        go_wp2_with fail
        refine HC.out.mono ?_
        rintro e1 w1 ⟨rfl, rfl⟩
        go_wp2
        go_roundw
        case rel => exact ⟨k + 1, by omega, by go_num, by rw [HE.out]; exact hrow, hB⟩
        case measure => simp [intOf]; omega
    · have hkk : k = zs.length := by omega
      subst hkk
      rw [List.take_length] at hrow
      go_wp2
      go_ret
      exact ⟨_, rfl, hrow, hB⟩
end Go.Proofs.YtgejngpioldhpaaGreatDoor
