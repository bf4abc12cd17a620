/- Package sub and coset again: sets that came in, Made, Is, Normal, Closure, cosets. Condition: the library's table of places lies as its text lays it. The document's conjugate; primes; the power of p that divides a number. The document's classes; the square's. Condition: the library's table of places lies as its text lays it. Package sub's Centre at a group, what two lists have both. Condition: the library's table of places lies as its text lays it. A group of a power of p things that moves things: what does not stay is a multiple of p; orbits and what stays. No condition. Package sub's Central at a group and one thing; the class equation. Condition: the library's table of places lies as its text lays it. -/
import Derived.Test.YtobnfbnholbfoaaDoorZ5
import Derived.Test.YtobnfbnholbfoaaDoorZ4
import Derived.Test.YtobnfbnholbfoaaDoorZ3
import Derived.BigQuiet
import Derived.Deep.AppendLies
import Derived.Deep.DeepCutAuto
import Derived.Deep.RegionLaw
import Derived.Laws.EntriesVeiled
import Derived.Maps.AppendAt
import Derived.Maps.Ext
import Derived.Maps.OwnOps
import Derived.Maps.OwnSet
import Derived.Test.YtobnfbnholbfoaaDoorZ1
namespace Go.Proofs.YtobnfbnholbfoaaDoor
open Go Go.RowKit Go.Maps

set_option maxRecDepth 100000 in
set_option maxHeartbeats 4000000 in
theorem setOf_any (n : Nat) (v : Value) (ls : List Int) (w : World) (hn : n ≤ 60) (hv : Sl w v ls) :
    Calls Tryd.prog 63 #[.int .i64 n, v] w fun x w' => x = .returned (.tuple #[.int .u64 (okN (lfault n ls).1 (bs (pset ls) n)), .agg #[.int .i64 (lfault n ls).1, .int .i64 (lfault n ls).2]]) ∧ Below w.heap.size w w' := by
  have hB0 : Below w.heap.size w (w.alloc (.cells #[.int .i64 0, .int .i64 0] 27)) := balloc w _
  have hR0 := Two.new w
  have hv0 := hv.below hB0
  obtain ⟨a, cap, pb, po, rfl, hrw0, hpw0, hq3, hq4⟩ := id hv
  have HRW := hide hrw0
  have HPB := hide hpw0
  have hr := hrw0.below hB0 hpw0
  have hp := Nat.lt_of_lt_of_le hpw0 hB0.size
  clear hrw0 hpw0
  obtain ⟨_, y0, y1, fy0, fy1, s0, s1⟩ := id hR0
  by_cases hmany : n < ls.length
  · have hR6 : Blk ((w.alloc (.cells #[.int .i64 0, .int .i64 0] 27)).setCell ⟨w.heap.size, 0, none⟩ (.int .i64 2)) w.heap.size 27 [.int .i64 2, .int .i64 0] := hR0.blk.set 0 _
    have hB6 : Below w.heap.size w ((w.alloc (.cells #[.int .i64 0, .int .i64 0] 27)).setCell ⟨w.heap.size, 0, none⟩ (.int .i64 2)) := hB0.setCell (p := ⟨w.heap.size, 0, none⟩) (by simp) _
    rw [lfault_many hmany]
    have hmi : (n : Int) < (ls.length : Int) := by omega
    go_enter Tryd.func63, Tryd.ntmps63
    go_wp2
    have hR7 := blk0 (w := w) (T := 27) (.int .i64 2) (.int .i64 0)
    obtain ⟨z0, z1, _, _⟩ := hR7.two
    exact bodyPost_ret (v := .tuple #[.int .u64 0, .agg #[.int .i64 2, .int .i64 0]]) (by simp [results, Tryd.results63, go_sem, z0, z1]) rfl ⟨rfl, balloc w _⟩
  · have hle : ls.length ≤ n := by omega
    have hmi : ¬ (n : Int) < (ls.length : Int) := by omega
    have HV := hide hv
    clear y0 y1 fy0 fy1 s0 s1 hv0 hv
    go_enter Tryd.func63, Tryd.ntmps63
    go_wp2
    go_loopw [15] (fun i wr => ∃ k : Nat, k ≤ ls.length ∧ i = .int .i64 k ∧ (∀ t, t < k → (rbad n ls t || fbad ls t) = false) ∧ Two wr w.heap.size ∧ Below w.heap.size w wr) (fun i _ => ls.length - (intOf i).toNat)
    case atStart => exact ⟨0, Nat.zero_le _, rfl, fun t ht => by omega, hR0, hB0⟩
    case round =>
      obtain ⟨k, hk, rfl, hno, hR, hB⟩ := hrel
      have HNO := hide hno
      clear hno
      obtain ⟨_, y0, y1, fy0, fy1, s0, s1⟩ := id hR
      have hrw : Reads wr a pb po ls := by
        exact HRW.out.below hB HPB.out
      by_cases hlt : k < ls.length
      · have hck := hrw.cell k hlt
        obtain rfl := hrw.at_ (by omega)
        obtain ⟨c, hc⟩ : ∃ c, ls[k]?.getD 0 = c := ⟨_, rfl⟩
        rw [hc] at hck
        have hki : (k : Int) < (ls.length : Int) := by omega
        by_cases hc0 : c < 0
        · have HLF := hide (lfault_r hle hlt HNO.out (by unfold rbad; rw [hc]; simp [hc0]))
          clear hc hrw hr
          obtain ⟨hR9, hB9⟩ := put2 hR.blk hB (Nat.le_refl _) 3 k
          go_wp2
          generalize (wr.setCell ⟨w.heap.size, 0, none⟩ (.int .i64 3)).setCell ⟨w.heap.size, 1, none⟩ (.int .i64 k) = W at hR9 hB9 ⊢
          obtain ⟨z0, z1, _, _⟩ := hR9.two
          exact bodyPost_ret (v := .tuple #[.int .u64 0, .agg #[.int .i64 3, .int .i64 k]]) (by simp [results, Tryd.results63, go_sem, z0, z1]) rfl ⟨by rw [HLF.out]; rfl, hB9⟩
        · by_cases hcn : (n : Int) ≤ c
          · have HLF := hide (lfault_r hle hlt HNO.out (by unfold rbad; rw [hc]; simp [hcn]))
            clear hc hrw hr
            obtain ⟨hR9, hB9⟩ := put2 hR.blk hB (Nat.le_refl _) 3 k
            go_wp2
            generalize (wr.setCell ⟨w.heap.size, 0, none⟩ (.int .i64 3)).setCell ⟨w.heap.size, 1, none⟩ (.int .i64 k) = W at hR9 hB9 ⊢
            obtain ⟨z0, z1, _, _⟩ := hR9.two
            exact bodyPost_ret (v := .tuple #[.int .u64 0, .agg #[.int .i64 3, .int .i64 k]]) (by simp [results, Tryd.results63, go_sem, z0, z1]) rfl ⟨by rw [HLF.out]; rfl, hB9⟩
          · have HRB := hide (show rbad n ls k = false by unfold rbad; rw [hc]; simp; omega)
            have hcn' : c < (n : Int) := by omega
            rcases Nat.eq_zero_or_pos k with rfl | hkp
            · have HFB := hide (show fbad ls 0 = false by simp [fbad])
              rw [Nat.add_zero] at hck
              clear hc hrw hr
              go_wp2
              go_roundw
              case rel => exact ⟨1, by omega, by go_num, fun t ht => by
                have : t = 0 := by omega
                subst this; rw [HRB.out, HFB.out]; rfl, hR, hB⟩
              case measure => simp [intOf]; omega
            · obtain ⟨m, rfl⟩ : ∃ m, k = m + 1 := ⟨k - 1, by omega⟩
              have hcm := hrw.cell m (by omega)
              obtain ⟨d, hd⟩ : ∃ d, ls[m]?.getD 0 = d := ⟨_, rfl⟩
              rw [hd] at hcm
              have hfb : fbad ls (m + 1) = decide (c ≤ d) := by
                unfold fbad
                rw [Nat.add_sub_cancel, hc, hd]
                simp
              have hmi2 : (m : Int) < (ls.length : Int) := by omega
              by_cases hcd : c ≤ d
              · have HLF := hide (lfault_f hle hlt HNO.out HRB.out (by rw [hfb]; simp [hcd]))
                clear hc hd hfb hrw hr
                obtain ⟨hR9, hB9⟩ := put2 hR.blk hB (Nat.le_refl _) 5 ((m : Int) + 1)
                go_wp2
                generalize (wr.setCell ⟨w.heap.size, 0, none⟩ (.int .i64 5)).setCell ⟨w.heap.size, 1, none⟩ (.int .i64 ((m : Int) + 1)) = W at hR9 hB9 ⊢
                obtain ⟨z0, z1, _, _⟩ := hR9.two
                exact bodyPost_ret (v := .tuple #[.int .u64 0, .agg #[.int .i64 5, .int .i64 ((m : Int) + 1)]]) (by simp [results, Tryd.results63, go_sem, z0, z1]) rfl ⟨by rw [HLF.out]; simp [okN], hB9⟩
              · have HFB := hide (show fbad ls (m + 1) = false by rw [hfb]; simp; omega)
                clear hc hd hfb hrw hr
                go_wp2
                go_roundw
                case rel => exact ⟨m + 1 + 1, by omega, by go_num, fun t ht => by
                  by_cases e : t = m + 1
                  · rw [e, HRB.out, HFB.out]; rfl
                  · exact HNO.out t (by omega), hR, hB⟩
                case measure => simp [intOf]; omega
      · have hkk : k = ls.length := by omega
        subst hkk
        have hlf := lfault_ok hle HNO.out
        have hlz : (lfault n ls).1 = 0 := by rw [hlf]
        have hset := set_lst hlz
        have hmem : ∀ x, x ∈ lst n (pset ls) → x < n := fun x hx => (mem_lst.1 hx).1
        have hll : (lst n (pset ls)).length ≤ 60 := Nat.le_trans (lst_len _ _) hn
        have hso := HV.out.below hB
        rw [hset] at hso
        have hof := of_ok n _ (lst n (pset ls)) wr hn hll (by rw [← hset] at hso ⊢; exact hso) hmem
        have hbs : bs (fun a => decide (a ∈ lst n (pset ls))) n = bs (pset ls) n := bs_ext fun a ha => by
          rw [Bool.eq_iff_iff, decide_eq_true_eq, mem_lst]; simp [ha]
        rw [hbs] at hof
        have HOF := hide hof
        have HLF := hide hlf
        clear hof hlf hlz hset hso hbs hmem hrw hr
        go_wp2_with fail
        refine HOF.out.mono ?_
        rintro e1 w1 ⟨rfl, rfl⟩
        go_wp2
        exact bodyPost_ret (v := .tuple #[.int .u64 (bs (pset ls) n), .agg #[.int .i64 0, .int .i64 0]]) (by simp [results, Tryd.results63, go_sem, y0, y1]) rfl ⟨by rw [HLF.out]; rfl, hB⟩
set_option maxRecDepth 100000 in
set_option maxHeartbeats 4000000 in
theorem oset_badg (N : Int) (v u : Value) (zs : List Int) (w : World) (hv : Sl w v zs) (hc : (gfault N zs).1 ≠ 0) :
    Calls Tryd.prog 45 #[.agg #[.int .i64 N, v], u] w fun x w' => x = .returned (.tuple #[.agg #[.int .i64 0, .slice none 0 0, .int .i64 0, .slice none 0 0], .int .u64 0, .agg #[.int .i64 (gfault N zs).1, .int .i64 (gfault N zs).2]]) ∧ Below w.heap.size w w' := by
  obtain ⟨w0, BG⟩ := Beg4.new w N v
  have hv0 := hv.below BG.bel
  obtain ⟨c0, c1, _, _⟩ := BG.box.two
  have hck := opened_bad N v zs w0 hv0 hc
  obtain ⟨c, i, hci⟩ : ∃ c i, gfault N zs = (c, i) := ⟨_, _, rfl⟩
  rw [hci] at hck hc ⊢
  simp only at hc hck
  have HCK := hide hck
  clear hck hci
  have hcb : (c != 0) = true := by simpa using hc
  rw [BG.eq] at c0 c1
  go_enter Tryd.func45, Tryd.ntmps45
  go_wp2_with fail
  rw [← BG.eq]
  refine HCK.out.mono ?_
  rintro x w1 ⟨rfl, hb1⟩
  clear c0 c1
  obtain ⟨w2, hw2⟩ : ∃ w2, w2 = (w1.alloc (.cells #[.int .i64 0, .slice none 0 0, .int .i64 0, .slice none 0 0] 63)).alloc (.cells #[.int .i64 c, .int .i64 i] 27) := ⟨_, rfl⟩
  have hB1 : Below w0.heap.size w0 w2 := by rw [hw2]; exact bcat2 hb1 ((balloc w1 _).alloc (by simp) _)
  have hF1 : Blk w2 (w1.heap.size + 1) 27 [.int .i64 c, .int .i64 i] := by
    rw [hw2]
    have := blk0 (w := w1.alloc (.cells #[.int .i64 0, .slice none 0 0, .int .i64 0, .slice none 0 0] 63)) (T := 27) (.int .i64 c) (.int .i64 i)
    rwa [World.size_alloc] at this
  obtain ⟨hG1, g0, g1, g2, g3, gf0, gf1, gf2, gf3, gs0, gs1, gs2, gs3⟩ := Four.mk' (blk_below BG.grp hB1)
  have hR1 := blk_below BG.res hB1
  have hBw := bcat BG.bel hB1 BG.bel.size
  obtain ⟨y0, y1, fy0, fy1⟩ := hR1.two
  obtain ⟨t0, t1, _, _⟩ := hF1.two
  rw [hw2] at t0 t1
  go_wp2_with fail
  rw [← hw2]
  rw [← hw2] at t0 t1
  clear hw2
  go_region
  all_goals (
    go_wp2
    obtain ⟨hR6, hB6⟩ := put2 hR1 hBw (by omega) c i
    have hB7 := bdrew hB6
    have hR7 : Blk ((w2.setCell ⟨w.heap.size + 1 + 1, 0, none⟩ (.int .i64 c)).setCell ⟨w.heap.size + 1 + 1, 1, none⟩ (.int .i64 i)).drew (w.heap.size + 1 + 1) 27 [.int .i64 c, .int .i64 i] := hR6
    have hG7 : Blk ((w2.setCell ⟨w.heap.size + 1 + 1, 0, none⟩ (.int .i64 c)).setCell ⟨w.heap.size + 1 + 1, 1, none⟩ (.int .i64 i)).drew (w.heap.size + 1) 63 [.int .i64 0, .slice none 0 0, .int .i64 0, .slice none 0 0] :=
      (hG1.other (p := ⟨w.heap.size + 1 + 1, 0, none⟩) (by simp) (.int .i64 c)).other (p := ⟨w.heap.size + 1 + 1, 1, none⟩) (by simp) (.int .i64 i)
    generalize ((w2.setCell ⟨w.heap.size + 1 + 1, 0, none⟩ (.int .i64 c)).setCell ⟨w.heap.size + 1 + 1, 1, none⟩ (.int .i64 i)).drew = W at hR7 hB7 hG7 ⊢
    obtain ⟨z0, z1, _, _⟩ := hR7.two
    obtain ⟨_, q0, q1, q2, q3, _⟩ := Four.mk' hG7
    exact bodyPost_ret (v := .tuple #[.agg #[.int .i64 0, .slice none 0 0, .int .i64 0, .slice none 0 0], .int .u64 0, .agg #[.int .i64 c, .int .i64 i]]) (by simp [results, Tryd.results45, go_sem, z0, z1, q0, q1, q2, q3]) rfl ⟨rfl, hB7⟩)
set_option maxRecDepth 100000 in
set_option maxHeartbeats 4000000 in
theorem oset_badl (n e : Nat) (v u : Value) (zs ls : List Int) (w : World) (hv : Sl w v zs) (hg : IsGrp n zs e) (hu : Sl w u ls) (hc : (lfault n ls).1 ≠ 0) :
    Calls Tryd.prog 45 #[.agg #[.int .i64 n, v], u] w fun x w' => x = .returned (.tuple #[.agg #[.int .i64 0, .slice none 0 0, .int .i64 0, .slice none 0 0], .int .u64 0, .agg #[.int .i64 (lfault n ls).1, .int .i64 (lfault n ls).2]]) ∧ Below w.heap.size w w' := by
  obtain ⟨va, vl, vc, rfl⟩ := hv.isSlice
  obtain ⟨w0, BG⟩ := Beg4.new w n (.slice va vl vc)
  have hv0 := hv.below BG.bel
  have hu0 := hu.below BG.bel
  obtain ⟨c0, c1, _, _⟩ := BG.box.two
  have HCK := hide (opened_good n e (.slice va vl vc) zs w0 hv0 hg)
  have HSO := hide (fun W (h : Sl W u ls) => setOf_any n u ls W hg.tab.le h)
  obtain ⟨c, i, hci⟩ : ∃ c i, lfault n ls = (c, i) := ⟨_, _, rfl⟩
  rw [hci] at HSO hc ⊢
  simp only at hc HSO
  rw [show okN c (bs (pset ls) n) = 0 from if_neg hc] at HSO
  clear hci
  have hcb : (c != 0) = true := by simpa using hc
  rw [BG.eq] at c0 c1
  go_enter Tryd.func45, Tryd.ntmps45
  go_wp2_with fail
  rw [← BG.eq]
  refine HCK.out.mono ?_
  rintro x w1 ⟨iv9, rfl, hGA, hb1⟩
  obtain ⟨ia, il, ic, rfl⟩ := hGA.sl.isSlice
  clear c0 c1 HCK
  obtain ⟨w2, hw2⟩ : ∃ w2, w2 = (w1.alloc (.cells #[.int .i64 n, (.slice va vl vc), .int .i64 e, (.slice ia il ic)] 63)).alloc (.cells #[.int .i64 0, .int .i64 0] 27) := ⟨_, rfl⟩
  have hB1 : Below w0.heap.size w0 w2 := by rw [hw2]; exact bcat2 hb1 ((balloc w1 _).alloc (by simp) _)
  have hF1 : Blk w2 (w1.heap.size + 1) 27 [.int .i64 0, .int .i64 0] := by
    rw [hw2]
    have := blk0 (w := w1.alloc (.cells #[.int .i64 n, (.slice va vl vc), .int .i64 e, (.slice ia il ic)] 63)) (T := 27) (.int .i64 0) (.int .i64 0)
    rwa [World.size_alloc] at this
  obtain ⟨t0, t1, _, _⟩ := hF1.two
  obtain ⟨k0, k1, _, _⟩ := (blk_below BG.box hB1).two
  rw [hw2] at t0 t1 k0 k1
  have hz9 : w.heap.size + 3 ≤ w1.heap.size := by rw [← BG.size]; exact hb1.size
  go_wp2_with fail
  rw [← hw2]
  clear t0 t1 k0 k1 hw2
  refine (HSO.out w2 (hu0.below hB1)).mono ?_
  rintro x w3 ⟨rfl, hb3⟩
  have hF3 := blk_below hF1 hb3
  have hB3 := bcat2 hB1 hb3
  obtain ⟨f0, f1, ff0, ff1⟩ := hF3.two
  have hBw3 := bcat BG.bel hB3 BG.bel.size
  have hG3 := blk_below BG.grp hB3
  have hR3 := blk_below BG.res hB3
  obtain ⟨hF4, hB4⟩ := put2 hF3 hBw3 (by omega) c i
  have hG4 := (hG3.other (p := ⟨w1.heap.size + 1, 0, none⟩) (by simp; omega) (.int .i64 c)).other (p := ⟨w1.heap.size + 1, 1, none⟩) (by simp; omega) (.int .i64 i)
  have hR4 := (hR3.other (p := ⟨w1.heap.size + 1, 0, none⟩) (by simp; omega) (.int .i64 c)).other (p := ⟨w1.heap.size + 1, 1, none⟩) (by simp; omega) (.int .i64 i)
  go_wp2_with fail
  generalize (w3.setCell ⟨w1.heap.size + 1, 0, none⟩ (.int .i64 c)).setCell ⟨w1.heap.size + 1, 1, none⟩ (.int .i64 i) = w4 at hF4 hB4 hG4 hR4 ⊢
  obtain ⟨hG1, g0, g1, g2, g3, gf0, gf1, gf2, gf3, gs0, gs1, gs2, gs3⟩ := Four.mk' hG4
  obtain ⟨y0, y1, fy0, fy1⟩ := hR4.two
  obtain ⟨t0, t1, _, _⟩ := hF4.two
  go_wp2_with fail
  go_region
  all_goals (
    go_wp2
    obtain ⟨hR6, hB6⟩ := put2 hR4 hB4 (by omega) c i
    have hB7 := bdrew hB6
    have hR7 : Blk ((w4.setCell ⟨w.heap.size + 1 + 1, 0, none⟩ (.int .i64 c)).setCell ⟨w.heap.size + 1 + 1, 1, none⟩ (.int .i64 i)).drew (w.heap.size + 1 + 1) 27 [.int .i64 c, .int .i64 i] := hR6
    have hG7 : Blk ((w4.setCell ⟨w.heap.size + 1 + 1, 0, none⟩ (.int .i64 c)).setCell ⟨w.heap.size + 1 + 1, 1, none⟩ (.int .i64 i)).drew (w.heap.size + 1) 63 [.int .i64 0, .slice none 0 0, .int .i64 0, .slice none 0 0] :=
      (hG1.other (p := ⟨w.heap.size + 1 + 1, 0, none⟩) (by simp) (.int .i64 c)).other (p := ⟨w.heap.size + 1 + 1, 1, none⟩) (by simp) (.int .i64 i)
    generalize ((w4.setCell ⟨w.heap.size + 1 + 1, 0, none⟩ (.int .i64 c)).setCell ⟨w.heap.size + 1 + 1, 1, none⟩ (.int .i64 i)).drew = W at hR7 hB7 hG7 ⊢
    obtain ⟨z0, z1, _, _⟩ := hR7.two
    obtain ⟨_, q0, q1, q2, q3, _⟩ := Four.mk' hG7
    exact bodyPost_ret (v := .tuple #[.agg #[.int .i64 0, .slice none 0 0, .int .i64 0, .slice none 0 0], .int .u64 0, .agg #[.int .i64 c, .int .i64 i]]) (by simp [results, Tryd.results45, go_sem, z0, z1, q0, q1, q2, q3]) rfl ⟨rfl, hB7⟩)
theorem oset_bad (N : Int) (v u : Value) (zs ls : List Int) (w : World) (hv : Sl w v zs) (hu : Sl w u ls) (hc : (sfault N zs ls).1 ≠ 0) :
    Calls Tryd.prog 45 #[.agg #[.int .i64 N, v], u] w fun x w' => x = .returned (.tuple #[.agg #[.int .i64 0, .slice none 0 0, .int .i64 0, .slice none 0 0], .int .u64 0, .agg #[.int .i64 (sfault N zs ls).1, .int .i64 (sfault N zs ls).2]]) ∧ Below w.heap.size w w' := by
  rcases sfault_cases N zs ls hc with ⟨h1, h2⟩ | ⟨n, e, rfl, hg, h1, h2⟩
  · rw [h2]; exact oset_badg N v u zs w hv h1
  · rw [h2]; exact oset_badl n e v u zs ls w hv hg hu h1
set_option maxRecDepth 100000 in
set_option maxHeartbeats 4000000 in
theorem oset_good (n e : Nat) (v u : Value) (zs ls : List Int) (w : World) (hv : Sl w v zs) (hg : IsGrp n zs e) (hu : Sl w u ls) (hc : lfault n ls = (0, 0)) :
    Calls Tryd.prog 45 #[.agg #[.int .i64 n, v], u] w fun x w' => ∃ iv9, x = .returned (.tuple #[.agg #[.int .i64 n, v, .int .i64 e, iv9], .int .u64 (bs (pset ls) n), .agg #[.int .i64 0, .int .i64 0]]) ∧ SlF w.heap.size w' iv9 (li ((List.range n).map (iv n zs e))) ∧ Below w.heap.size w w' := by
  obtain ⟨va, vl, vc, rfl⟩ := hv.isSlice
  obtain ⟨w0, BG⟩ := Beg4.new w n (.slice va vl vc)
  have hv0 := hv.below BG.bel
  have hu0 := hu.below BG.bel
  obtain ⟨c0, c1, _, _⟩ := BG.box.two
  have HCK := hide (opened_good n e (.slice va vl vc) zs w0 hv0 hg)
  have HSO := hide (fun W (h : Sl W u ls) => setOf_any n u ls W hg.tab.le h)
  rw [hc] at HSO
  simp only at HSO
  rw [show okN 0 (bs (pset ls) n) = bs (pset ls) n from rfl] at HSO
  clear hc
  rw [BG.eq] at c0 c1
  go_enter Tryd.func45, Tryd.ntmps45
  go_wp2_with fail
  rw [← BG.eq]
  refine HCK.out.mono ?_
  rintro x w1 ⟨iv9, rfl, hGA, hb1⟩
  obtain ⟨ia, il, ic, rfl⟩ := hGA.sl.isSlice
  clear c0 c1 HCK
  obtain ⟨w2, hw2⟩ : ∃ w2, w2 = (w1.alloc (.cells #[.int .i64 n, (.slice va vl vc), .int .i64 e, (.slice ia il ic)] 63)).alloc (.cells #[.int .i64 0, .int .i64 0] 27) := ⟨_, rfl⟩
  have hb2 : Below w1.heap.size w1 w2 := by rw [hw2]; exact (balloc w1 _).alloc (by simp) _
  have hB1 : Below w0.heap.size w0 w2 := bcat2 hb1 hb2
  have hF1 : Blk w2 (w1.heap.size + 1) 27 [.int .i64 0, .int .i64 0] := by
    rw [hw2]
    have := blk0 (w := w1.alloc (.cells #[.int .i64 n, (.slice va vl vc), .int .i64 e, (.slice ia il ic)] 63)) (T := 27) (.int .i64 0) (.int .i64 0)
    rwa [World.size_alloc] at this
  have hH1 : Blk w2 w1.heap.size 63 [.int .i64 n, (.slice va vl vc), .int .i64 e, (.slice ia il ic)] := by
    rw [hw2]; exact (blk4 _ _ _ _).alloc _
  obtain ⟨t0, t1, _, _⟩ := hF1.two
  obtain ⟨k0, k1, _, _⟩ := (blk_below BG.box hB1).two
  rw [hw2] at t0 t1 k0 k1
  have hz9 : w.heap.size + 3 ≤ w1.heap.size := by rw [← BG.size]; exact hb1.size
  go_wp2_with fail
  rw [← hw2]
  clear t0 t1 k0 k1 hw2
  refine (HSO.out w2 (hu0.below hB1)).mono ?_
  rintro x w3 ⟨rfl, hb3⟩
  have hB3 := bcat2 hB1 hb3
  obtain ⟨_, f0, f1, ff0, ff1, fs0, fs1⟩ := Two.mk' (blk_below hF1 hb3)
  have hBw3 := bcat BG.bel hB3 BG.bel.size
  have hG3 := blk_below BG.grp hB3
  obtain ⟨_, h0, h1, h2, h3, _⟩ := Four.mk' (blk_below hH1 hb3)
  obtain ⟨_, g0, g1, g2, g3, gf0, gf1, gf2, gf3, _⟩ := Four.mk' hG3
  obtain ⟨hR3, y0, y1, fy0, fy1, s0, s1⟩ := Two.mk' (blk_below BG.res hB3)
  have hGA3 := (hGA.below (bcat2 hb2 hb3)).mono (show w.heap.size + 3 ≤ w0.heap.size by rw [BG.size]; exact Nat.le_refl _)
  go_wp2
  obtain ⟨W, hW, hG8, hR8, hB8, hS8, hK8⟩ := put6 hG3 hR3 hBw3 (.int .i64 n) (.slice va vl vc) (.int .i64 e) (.slice ia il ic) (.int .i64 0) (.int .i64 0)
  rw [← hW]
  clear hW
  obtain ⟨z0, z1, _, _⟩ := hR8.two
  obtain ⟨_, q0, q1, q2, q3, _⟩ := Four.mk' hG8
  have hGA9 := (hGA3.keep (fun b h1 _ => hK8 b h1) (by omega)).mono (show w.heap.size ≤ w.heap.size + 3 by omega)
  exact bodyPost_ret (v := .tuple #[.agg #[.int .i64 n, .slice va vl vc, .int .i64 e, .slice ia il ic], .int .u64 (bs (pset ls) n), .agg #[.int .i64 0, .int .i64 0]]) (by simp [results, Tryd.results45, go_sem, z0, z1, q0, q1, q2, q3]) rfl ⟨_, rfl, hGA9, hB8⟩
theorem call116 (a : Int) (x y : Value) (W : World) : Sem.run Tryd.prog (callFunc 86 (#[.int .i64 a] ++ #[x, y])) W = .ok (.enter 86 (#[.int .i64 a] ++ #[x, y])) W := by kernel_rfl
set_option maxRecDepth 100000 in
set_option maxHeartbeats 2000000 in
theorem nor1_ok (n : Nat) (v u : Value) (zs : List Int) (e a gb sb : Nat) (q : Nat → Bool) (w : World) (hG : GA w n v e u zs) (hT : Tab w) (ha : a < n) (hb : Box4 w gb n e v u) (hs : Boxed w sb 76 (.int .u64 (bs q n))) :
    Calls Tryd.prog 86 (#[.int .i64 a] ++ #[.pointer (some ⟨gb, 0, none⟩), .pointer (some ⟨sb, 0, none⟩)]) w fun y w' => y = .returned (.bool (norq n zs e q a)) ∧ Below w.heap.size w w' := by
  show Calls Tryd.prog 86 #[.int .i64 a, .pointer (some ⟨gb, 0, none⟩), .pointer (some ⟨sb, 0, none⟩)] w _
  have HC := hide (fun W (h : Below w.heap.size w W) => conjd_ok n v u zs e a q W (hG.below h) (hT.below h) ha)
  have hsc := hs.cell
  have hS : ∀ W, Below w.heap.size w W → (Below w.heap.size w W ∧ W.cell? ⟨gb, 0, none⟩ = some (.int .i64 n) ∧ W.cell? ⟨gb, 1, none⟩ = some v ∧ W.cell? ⟨gb, 2, none⟩ = some (.int .i64 e) ∧ W.cell? ⟨gb, 3, none⟩ = some u ∧ W.cell? ⟨sb, 0, none⟩ = some (.int .u64 (bs q n))) := fun W h => by
    obtain ⟨c0, c1, c2, c3⟩ := (hb.below h).cells
    exact ⟨h, c0, c1, c2, c3, below_cell h hsc⟩
  have hS0 := hS _ (bdrew (Below.refl _ w))
  have HN : Hid (norq n zs e q a = decide (bs (cjq n zs e q a) n = bs q n)) := rfl
  clear hsc
  by_cases heq : bs (cjq n zs e q a) n = bs q n
  · rw [decide_eq_true heq] at HN
    rw [heq] at HC
    generalize bs q n = Q at *
    go_enter Tryd.func86, Tryd.ntmps86
    go_wp2_with fail
    go_region_held3 (fun W => Below w.heap.size w W ∧ W.cell? ⟨gb, 0, none⟩ = some (.int .i64 n) ∧ W.cell? ⟨gb, 1, none⟩ = some v ∧ W.cell? ⟨gb, 2, none⟩ = some (.int .i64 e) ∧ W.cell? ⟨gb, 3, none⟩ = some u ∧ W.cell? ⟨sb, 0, none⟩ = some (.int .u64 (Q : Int)))
      (first | exact hS0 | assumption | exact hS _ (bcat2 (And.left ‹_›) hl1))
      (first | (go_at_call 72; refine (HC.out _ (And.left ‹_›)).mono ?_; rintro e1 W1 ⟨rfl, hl1⟩))
    all_goals (
      have hB9 := And.left ‹Below w.heap.size w W1 ∧ _›
      go_wp2
      go_ret
      exact ⟨by rw [HN.out]; simp, hB9⟩)
  · rw [decide_eq_false heq] at HN
    generalize bs (cjq n zs e q a) n = P at *
    generalize bs q n = Q at *
    have hpi : ¬ ((P : Int) = (Q : Int)) := by omega
    go_enter Tryd.func86, Tryd.ntmps86
    go_wp2_with fail
    go_region_held3 (fun W => Below w.heap.size w W ∧ W.cell? ⟨gb, 0, none⟩ = some (.int .i64 n) ∧ W.cell? ⟨gb, 1, none⟩ = some v ∧ W.cell? ⟨gb, 2, none⟩ = some (.int .i64 e) ∧ W.cell? ⟨gb, 3, none⟩ = some u ∧ W.cell? ⟨sb, 0, none⟩ = some (.int .u64 (Q : Int)))
      (first | exact hS0 | assumption | exact hS _ (bcat2 (And.left ‹_›) hl1))
      (first | (go_at_call 72; refine (HC.out _ (And.left ‹_›)).mono ?_; rintro e1 W1 ⟨rfl, hl1⟩))
    all_goals (
      have hB9 := And.left ‹Below w.heap.size w W1 ∧ _›
      go_wp2
      go_ret
      exact ⟨by rw [HN.out]; simp [hpi], hB9⟩)
set_option maxRecDepth 100000 in
set_option maxHeartbeats 2000000 in
theorem norm_ok (n : Nat) (v u : Value) (zs : List Int) (e : Nat) (q : Nat → Bool) (w : World) (hG : GA w n v e u zs) (hT : Tab w) :
    Calls Tryd.prog 75 #[.agg #[.int .i64 n, v, .int .i64 e, u], .int .u64 (bs q n)] w fun x w' => x = .returned (.int .u64 (bs (norq n zs e q) n)) ∧ Below w.heap.size w w' := by
  have hB0 : Below w.heap.size w ((w.alloc (.cells #[.int .i64 n, v, .int .i64 e, u] 63)).alloc (.cells #[.int .u64 (bs q n)] 76)) := (balloc w _).alloc (by simp) _
  have hX0 : Box4 ((w.alloc (.cells #[.int .i64 n, v, .int .i64 e, u] 63)).alloc (.cells #[.int .u64 (bs q n)] 76)) w.heap.size n e v u := ⟨(blk4 _ _ _ _).alloc _⟩
  have hS0 := Boxed.new (w.alloc (.cells #[.int .i64 n, v, .int .i64 e, u] 63)) 76 (.int .u64 (bs q n))
  rw [World.size_alloc] at hS0
  obtain ⟨c0, c1, c2, c3⟩ := hX0.cells
  go_enter Tryd.func75, Tryd.ntmps75
  go_wp2_with fail
  generalize (w.alloc (.cells #[.int .i64 n, v, .int .i64 e, u] 63)).alloc (.cells #[.int .u64 (bs q n)] 76) = w0 at *
  refine (those_ok n 86 v u e #[.pointer (some ⟨w.heap.size, 0, none⟩), .pointer (some ⟨w.heap.size + 1, 0, none⟩)] (norq n zs e q) w0 hG.le (fun a W => call116 a _ _ W) (fun W a hW ha => nor1_ok n v u zs e a w.heap.size (w.heap.size + 1) q W ((hG.below hB0).below hW) ((hT.below hB0).below hW) ha (hX0.below hW) (Boxed.below hS0 hW))).mono ?_
  rintro x w3 ⟨rfl, hb3⟩
  go_wp2
  go_ret
  exact ⟨rfl, bcat2 hB0 hb3⟩
set_option maxRecDepth 100000 in
set_option maxHeartbeats 4000000 in
theorem osub_good (n e : Nat) (v u : Value) (zs ls : List Int) (w : World) (hv : Sl w v zs) (hg : IsGrp n zs e) (hu : Sl w u ls) (hT : Tab w) (hc : lfault n ls = (0, 0)) (hsb : subT n zs e (pset ls) = true) :
    Calls Tryd.prog 74 #[.agg #[.int .i64 n, v], u] w fun x w' => ∃ iv9, x = .returned (.tuple #[.agg #[.int .i64 n, v, .int .i64 e, iv9], .int .u64 (bs (pset ls) n), .agg #[.int .i64 0, .int .i64 0]]) ∧ SlF w.heap.size w' iv9 (li ((List.range n).map (iv n zs e))) ∧ Below w.heap.size w w' := by
  obtain ⟨va, vl, vc, rfl⟩ := hv.isSlice
  obtain ⟨w0, BG⟩ := Beg4.new w n (.slice va vl vc)
  have hv0 := hv.below BG.bel
  have hu0 := hu.below BG.bel
  obtain ⟨c0, c1, _, _⟩ := BG.box.two
  have HCK := hide (oset_good n e (.slice va vl vc) u zs ls w0 hv0 hg hu0 hc)
  obtain ⟨p, hp⟩ := mkd_test n zs e (pset ls)
  have hpe0 := subT_made hp hg.elt (fun a b ha hb => tm_lt hg.tab ha hb)
  rw [hsb] at hpe0
  have hpe : bs p n = bs (pset ls) n := by simpa using hpe0.symm
  clear hpe0
  have HMK := hide (fun W iv8 (h : GA W n (.slice va vl vc) e iv8 zs) (h2 : Tab W) => made_ok n (.slice va vl vc) iv8 zs e (pset ls) p W h h2 hp)
  rw [hpe] at HMK
  clear hc hsb hp hpe
  rw [BG.eq] at c0 c1
  go_enter Tryd.func74, Tryd.ntmps74
  go_wp2_with fail
  rw [← BG.eq]
  refine HCK.out.mono ?_
  rintro x w1 ⟨iv9, rfl, hGA, hb1⟩
  obtain ⟨ia, il, ic, rfl⟩ := hGA.sl.isSlice
  clear c0 c1 HCK
  obtain ⟨w2, hw2⟩ : ∃ w2, w2 = (w1.alloc (.cells #[.int .i64 n, (.slice va vl vc), .int .i64 e, (.slice ia il ic)] 63)).alloc (.cells #[.int .i64 0, .int .i64 0] 27) := ⟨_, rfl⟩
  have hb2 : Below w1.heap.size w1 w2 := by rw [hw2]; exact (balloc w1 _).alloc (by simp) _
  have hB1 : Below w0.heap.size w0 w2 := bcat2 hb1 hb2
  have hF1 : Blk w2 (w1.heap.size + 1) 27 [.int .i64 0, .int .i64 0] := by
    rw [hw2]
    have := blk0 (w := w1.alloc (.cells #[.int .i64 n, (.slice va vl vc), .int .i64 e, (.slice ia il ic)] 63)) (T := 27) (.int .i64 0) (.int .i64 0)
    rwa [World.size_alloc] at this
  have hH1 : Blk w2 w1.heap.size 63 [.int .i64 n, (.slice va vl vc), .int .i64 e, (.slice ia il ic)] := by
    rw [hw2]; exact (blk4 _ _ _ _).alloc _
  obtain ⟨t0, t1, _, _⟩ := hF1.two
  obtain ⟨_, k0, k1, k2, k3, _⟩ := Four.mk' hH1
  rw [hw2] at t0 t1 k0 k1 k2 k3
  go_wp2_with fail
  rw [← hw2]
  clear t0 t1 k0 k1 k2 k3 hw2
  have hGA2 : GA w2 n (.slice va vl vc) e (.slice ia il ic) zs := ⟨hg, hv0.below hB1, (hGA.below hb2).sl⟩
  refine (HMK.out w2 _ hGA2 ((hT.below BG.bel).below hB1)).mono ?_
  rintro x w3 ⟨rfl, hb3⟩
  have hB3 := bcat2 hB1 hb3
  obtain ⟨_, f0, f1, ff0, ff1, fs0, fs1⟩ := Two.mk' (blk_below hF1 hb3)
  have hBw3 := bcat BG.bel hB3 BG.bel.size
  have hG3 := blk_below BG.grp hB3
  obtain ⟨_, h0, h1, h2, h3, _⟩ := Four.mk' (blk_below hH1 hb3)
  obtain ⟨_, g0, g1, g2, g3, gf0, gf1, gf2, gf3, _⟩ := Four.mk' hG3
  obtain ⟨hR3, y0, y1, fy0, fy1, s0, s1⟩ := Two.mk' (blk_below BG.res hB3)
  have hGA3 := (hGA.below (bcat2 hb2 hb3)).mono (show w.heap.size + 3 ≤ w0.heap.size by rw [BG.size]; exact Nat.le_refl _)
  go_wp2
  obtain ⟨W, hW, hG8, hR8, hB8, hS8, hK8⟩ := put6 hG3 hR3 hBw3 (.int .i64 n) (.slice va vl vc) (.int .i64 e) (.slice ia il ic) (.int .i64 0) (.int .i64 0)
  rw [← hW]
  clear hW
  obtain ⟨z0, z1, _, _⟩ := hR8.two
  obtain ⟨_, q0, q1, q2, q3, _⟩ := Four.mk' hG8
  have hGA9 := (hGA3.keep (fun b h1 _ => hK8 b h1) (by omega)).mono (show w.heap.size ≤ w.heap.size + 3 by omega)
  exact bodyPost_ret (v := .tuple #[.agg #[.int .i64 n, .slice va vl vc, .int .i64 e, .slice ia il ic], .int .u64 (bs (pset ls) n), .agg #[.int .i64 0, .int .i64 0]]) (by simp [results, Tryd.results74, go_sem, z0, z1, q0, q1, q2, q3]) rfl ⟨_, rfl, hGA9, hB8⟩
set_option maxRecDepth 100000 in
set_option maxHeartbeats 4000000 in
theorem nrm_good (n e : Nat) (v u0 : Value) (zs l0 : List Int) (w : World) (hv : Sl w v zs) (hg : IsGrp n zs e) (hu : Sl w u0 l0) (hT : Tab w) (hc : lfault n l0 = (0, 0)) (hs : subT n zs e (pset l0) = true) :
    Calls Tryd.prog 55 #[.agg #[.int .i64 n, v], u0] w fun x w' => x = .returned (.tuple #[.bool (nrmq n zs e (pset l0)), .agg #[.int .i64 0, .int .i64 0]]) ∧ Below w.heap.size w w' := by
  obtain ⟨va, vl, vc, rfl⟩ := hv.isSlice
  obtain ⟨w0, BG⟩ := Beg.new w n (.slice va vl vc)
  have hv0 := hv.below BG.bel
  obtain ⟨c0, c1, _, _⟩ := BG.box.two
  have HCK := hide (osub_good n e (.slice va vl vc) u0 zs l0 w0 hv0 hg (hu.below BG.bel) (hT.below BG.bel) hc hs)
  have HZ0 := hide (show w.heap.size + 2 ≤ w0.heap.size by rw [BG.eq]; simp)
  rw [BG.eq] at c0 c1
  go_enter Tryd.func55, Tryd.ntmps55
  go_wp2_with fail
  rw [← BG.eq]
  refine HCK.out.mono ?_
  rintro x w1 ⟨iv9, rfl, hSI, hb1⟩
  obtain ⟨ia, il, ic, rfl⟩ := hSI.sl.isSlice
  clear c0 c1 HCK
  obtain ⟨w2, hw2⟩ : ∃ w2, w2 = (w1.alloc (.cells #[.int .i64 n, (.slice va vl vc), .int .i64 e, (.slice ia il ic)] 63)).alloc (.cells #[.int .i64 0, .int .i64 0] 27) := ⟨_, rfl⟩
  have hb2 : Below w1.heap.size w1 w2 := by rw [hw2]; exact (balloc w1 _).alloc (by simp) _
  have hB1 : Below w0.heap.size w0 w2 := bcat2 hb1 hb2
  have hF1 : Blk w2 (w1.heap.size + 1) 27 [.int .i64 0, .int .i64 0] := by
    rw [hw2]
    have := blk0 (w := w1.alloc (.cells #[.int .i64 n, (.slice va vl vc), .int .i64 e, (.slice ia il ic)] 63)) (T := 27) (.int .i64 0) (.int .i64 0)
    rwa [World.size_alloc] at this
  have hH2 : Blk w2 w1.heap.size 63 [.int .i64 n, (.slice va vl vc), .int .i64 e, (.slice ia il ic)] := by
    rw [hw2]; exact (blk4 _ _ _ _).alloc _
  have hBw2 := bcat BG.bel hB1 BG.bel.size
  have hR2 := blk_below BG.res hB1
  have hT2 := hT.below hBw2
  have hGA2 : GA w2 n (.slice va vl vc) e (.slice ia il ic) zs := ⟨hg, hv.below hBw2, (hSI.below hb2).sl⟩
  obtain ⟨t0, t1, _, _⟩ := hF1.two
  obtain ⟨_, h0, h1, h2, h3, _⟩ := Four.mk' hH2
  have hx2 := blk_below BG.box hB1
  have HZ1 := hide (Nat.le_trans HZ0.out hb1.size)
  have HZ2 := hide hb2.size
  rw [hw2] at t0 t1 h0 h1 h2 h3
  go_wp2_with fail
  rw [← hw2]
  rw [← hw2] at t0 t1 h0 h1 h2 h3
  clear hw2
  have hS : ∀ W, Below w2.heap.size w2 W → (Below w2.heap.size w2 W ∧ W.cell? ⟨w1.heap.size, 0, none⟩ = some (.int .i64 n) ∧ W.cell? ⟨w1.heap.size, 1, none⟩ = some (.slice va vl vc) ∧ W.cell? ⟨w1.heap.size, 2, none⟩ = some (.int .i64 e) ∧ W.cell? ⟨w1.heap.size, 3, none⟩ = some (.slice ia il ic) ∧ W.cell? ⟨w.heap.size + 1, 0, none⟩ = some (.int .i64 0) ∧ W.cell? ⟨w.heap.size + 1, 1, none⟩ = some (.int .i64 0) ∧ W.frozen? ⟨w.heap.size + 1, 0, none⟩ = false ∧ W.frozen? ⟨w.heap.size + 1, 1, none⟩ = false ∧ W.setCell ⟨w.heap.size + 1, 0, none⟩ (.int .i64 0) = W ∧ W.setCell ⟨w.heap.size + 1, 1, none⟩ (.int .i64 0) = W) := fun W h => by
    obtain ⟨_, y0, y1, fy0, fy1, s0, s1⟩ := Two.mk' (blk_below hR2 h)
    exact ⟨h, below_cell h h0, below_cell h h1, below_cell h h2, below_cell h h3, y0, y1, fy0, fy1, s0, s1⟩
  have hS0 := hS _ (bdrew (Below.refl _ w2))
  have HA := hide (fun W => all_ok n (.slice va vl vc) (.slice ia il ic) e W hg.tab.le)
  have HC := hide (fun W (h : Below w2.heap.size w2 W) => norm_ok n (.slice va vl vc) (.slice ia il ic) zs e (pset l0) W (hGA2.below h) (hT2.below h))
  clear h0 h1 h2 h3 t0 t1
  have HN : Hid (nrmq n zs e (pset l0) = decide (bs (norq n zs e (pset l0)) n = bs (fun _ => true) n)) := rfl
  by_cases heq : bs (norq n zs e (pset l0)) n = bs (fun _ => true) n
  · rw [heq] at HC HN
    rw [decide_eq_true rfl] at HN
    generalize bs (norq n zs e (pset l0)) n = P at *
    generalize bs (fun _ => true) n = A at *
    
    go_region_held3 (fun W => Below w2.heap.size w2 W ∧ W.cell? ⟨w1.heap.size, 0, none⟩ = some (.int .i64 n) ∧ W.cell? ⟨w1.heap.size, 1, none⟩ = some (.slice va vl vc) ∧ W.cell? ⟨w1.heap.size, 2, none⟩ = some (.int .i64 e) ∧ W.cell? ⟨w1.heap.size, 3, none⟩ = some (.slice ia il ic) ∧ W.cell? ⟨w.heap.size + 1, 0, none⟩ = some (.int .i64 0) ∧ W.cell? ⟨w.heap.size + 1, 1, none⟩ = some (.int .i64 0) ∧ W.frozen? ⟨w.heap.size + 1, 0, none⟩ = false ∧ W.frozen? ⟨w.heap.size + 1, 1, none⟩ = false ∧ W.setCell ⟨w.heap.size + 1, 0, none⟩ (.int .i64 0) = W ∧ W.setCell ⟨w.heap.size + 1, 1, none⟩ (.int .i64 0) = W)
      (first | exact hS0 | assumption | exact hS _ (bcat2 (And.left ‹_›) hl1))
      (first
        | (go_at_call 75; refine (HC.out _ (And.left ‹_›)).mono ?_; rintro e1 W1 ⟨rfl, hl1⟩)
        | (go_at_call 53; refine (HA.out _).mono ?_; rintro e2 W2 ⟨rfl, hl1⟩))
    all_goals (
      obtain ⟨hB9, _, _, _, _, y0, y1, _⟩ := ‹Below w2.heap.size w2 W2 ∧ _›
      have hBz := bcat hBw2 hB9 hBw2.size
      clear hS hS0
      go_wp2
      exact bodyPost_ret (v := .tuple #[.bool true, .agg #[.int .i64 0, .int .i64 0]]) (by simp [results, Tryd.results55, go_sem, y0, y1]) rfl ⟨by rw [HN.out], hBz⟩)
  · skip
    rw [decide_eq_false heq] at HN
    generalize bs (norq n zs e (pset l0)) n = P at *
    generalize bs (fun _ => true) n = A at *
    have hpi : ¬ ((P : Int) = (A : Int)) := by omega
    go_region_held3 (fun W => Below w2.heap.size w2 W ∧ W.cell? ⟨w1.heap.size, 0, none⟩ = some (.int .i64 n) ∧ W.cell? ⟨w1.heap.size, 1, none⟩ = some (.slice va vl vc) ∧ W.cell? ⟨w1.heap.size, 2, none⟩ = some (.int .i64 e) ∧ W.cell? ⟨w1.heap.size, 3, none⟩ = some (.slice ia il ic) ∧ W.cell? ⟨w.heap.size + 1, 0, none⟩ = some (.int .i64 0) ∧ W.cell? ⟨w.heap.size + 1, 1, none⟩ = some (.int .i64 0) ∧ W.frozen? ⟨w.heap.size + 1, 0, none⟩ = false ∧ W.frozen? ⟨w.heap.size + 1, 1, none⟩ = false ∧ W.setCell ⟨w.heap.size + 1, 0, none⟩ (.int .i64 0) = W ∧ W.setCell ⟨w.heap.size + 1, 1, none⟩ (.int .i64 0) = W)
      (first | exact hS0 | assumption | exact hS _ (bcat2 (And.left ‹_›) hl1))
      (first
        | (go_at_call 75; refine (HC.out _ (And.left ‹_›)).mono ?_; rintro e1 W1 ⟨rfl, hl1⟩)
        | (go_at_call 53; refine (HA.out _).mono ?_; rintro e2 W2 ⟨rfl, hl1⟩))
    all_goals (
      obtain ⟨hB9, _, _, _, _, y0, y1, _⟩ := ‹Below w2.heap.size w2 W2 ∧ _›
      have hBz := bcat hBw2 hB9 hBw2.size
      clear hS hS0
      go_wp2
      exact bodyPost_ret (v := .tuple #[.bool false, .agg #[.int .i64 0, .int .i64 0]]) (by simp [results, Tryd.results55, go_sem, y0, y1, hpi]) rfl ⟨by rw [HN.out], hBz⟩)
set_option maxRecDepth 100000 in
set_option maxHeartbeats 4000000 in
theorem osub_bads (N : Int) (v u : Value) (zs ls : List Int) (w : World) (hv : Sl w v zs) (hu : Sl w u ls) (hc : (sfault N zs ls).1 ≠ 0) :
    Calls Tryd.prog 74 #[.agg #[.int .i64 N, v], u] w fun x w' => x = .returned (.tuple #[.agg #[.int .i64 0, .slice none 0 0, .int .i64 0, .slice none 0 0], .int .u64 0, .agg #[.int .i64 (sfault N zs ls).1, .int .i64 (sfault N zs ls).2]]) ∧ Below w.heap.size w w' := by
  obtain ⟨w0, BG⟩ := Beg4.new w N v
  have hv0 := hv.below BG.bel
  obtain ⟨c0, c1, _, _⟩ := BG.box.two
  have hck := oset_bad N v u zs ls w0 hv0 (hu.below BG.bel) hc
  obtain ⟨c, i, hci⟩ : ∃ c i, sfault N zs ls = (c, i) := ⟨_, _, rfl⟩
  rw [hci] at hck hc ⊢
  simp only at hc hck
  have HCK := hide hck
  clear hck hci
  have hcb : (c != 0) = true := by simpa using hc
  rw [BG.eq] at c0 c1
  go_enter Tryd.func74, Tryd.ntmps74
  go_wp2_with fail
  rw [← BG.eq]
  refine HCK.out.mono ?_
  rintro x w1 ⟨rfl, hb1⟩
  clear c0 c1
  obtain ⟨w2, hw2⟩ : ∃ w2, w2 = (w1.alloc (.cells #[.int .i64 0, .slice none 0 0, .int .i64 0, .slice none 0 0] 63)).alloc (.cells #[.int .i64 c, .int .i64 i] 27) := ⟨_, rfl⟩
  have hB1 : Below w0.heap.size w0 w2 := by rw [hw2]; exact bcat2 hb1 ((balloc w1 _).alloc (by simp) _)
  have hF1 : Blk w2 (w1.heap.size + 1) 27 [.int .i64 c, .int .i64 i] := by
    rw [hw2]
    have := blk0 (w := w1.alloc (.cells #[.int .i64 0, .slice none 0 0, .int .i64 0, .slice none 0 0] 63)) (T := 27) (.int .i64 c) (.int .i64 i)
    rwa [World.size_alloc] at this
  obtain ⟨hG1, g0, g1, g2, g3, gf0, gf1, gf2, gf3, gs0, gs1, gs2, gs3⟩ := Four.mk' (blk_below BG.grp hB1)
  have hR1 := blk_below BG.res hB1
  have hBw := bcat BG.bel hB1 BG.bel.size
  obtain ⟨y0, y1, fy0, fy1⟩ := hR1.two
  obtain ⟨t0, t1, _, _⟩ := hF1.two
  rw [hw2] at t0 t1
  go_wp2_with fail
  rw [← hw2]
  rw [← hw2] at t0 t1
  clear hw2
  go_region
  all_goals (
    go_wp2
    obtain ⟨hR6, hB6⟩ := put2 hR1 hBw (by omega) c i
    have hB7 := bdrew hB6
    have hR7 : Blk ((w2.setCell ⟨w.heap.size + 1 + 1, 0, none⟩ (.int .i64 c)).setCell ⟨w.heap.size + 1 + 1, 1, none⟩ (.int .i64 i)).drew (w.heap.size + 1 + 1) 27 [.int .i64 c, .int .i64 i] := hR6
    have hG7 : Blk ((w2.setCell ⟨w.heap.size + 1 + 1, 0, none⟩ (.int .i64 c)).setCell ⟨w.heap.size + 1 + 1, 1, none⟩ (.int .i64 i)).drew (w.heap.size + 1) 63 [.int .i64 0, .slice none 0 0, .int .i64 0, .slice none 0 0] :=
      (hG1.other (p := ⟨w.heap.size + 1 + 1, 0, none⟩) (by simp) (.int .i64 c)).other (p := ⟨w.heap.size + 1 + 1, 1, none⟩) (by simp) (.int .i64 i)
    generalize ((w2.setCell ⟨w.heap.size + 1 + 1, 0, none⟩ (.int .i64 c)).setCell ⟨w.heap.size + 1 + 1, 1, none⟩ (.int .i64 i)).drew = W at hR7 hB7 hG7 ⊢
    obtain ⟨z0, z1, _, _⟩ := hR7.two
    obtain ⟨_, q0, q1, q2, q3, _⟩ := Four.mk' hG7
    exact bodyPost_ret (v := .tuple #[.agg #[.int .i64 0, .slice none 0 0, .int .i64 0, .slice none 0 0], .int .u64 0, .agg #[.int .i64 c, .int .i64 i]]) (by simp [results, Tryd.results74, go_sem, z0, z1, q0, q1, q2, q3]) rfl ⟨rfl, hB7⟩)
set_option maxRecDepth 100000 in
set_option maxHeartbeats 4000000 in
theorem osub_badu (n e : Nat) (v u : Value) (zs ls : List Int) (w : World) (hv : Sl w v zs) (hg : IsGrp n zs e) (hu : Sl w u ls) (hT : Tab w) (hc : lfault n ls = (0, 0)) (hsb : subT n zs e (pset ls) = false) :
    Calls Tryd.prog 74 #[.agg #[.int .i64 n, v], u] w fun x w' => x = .returned (.tuple #[.agg #[.int .i64 0, .slice none 0 0, .int .i64 0, .slice none 0 0], .int .u64 0, .agg #[.int .i64 7, .int .i64 0]]) ∧ Below w.heap.size w w' := by
  obtain ⟨va, vl, vc, rfl⟩ := hv.isSlice
  obtain ⟨w0, BG⟩ := Beg4.new w n (.slice va vl vc)
  have hv0 := hv.below BG.bel
  have hu0 := hu.below BG.bel
  obtain ⟨c0, c1, _, _⟩ := BG.box.two
  have HCK := hide (oset_good n e (.slice va vl vc) u zs ls w0 hv0 hg hu0 hc)
  obtain ⟨p, hp⟩ := mkd_test n zs e (pset ls)
  have hpe0 := subT_made hp hg.elt (fun a b ha hb => tm_lt hg.tab ha hb)
  rw [hsb] at hpe0
  have hpe : ¬ bs p n = bs (pset ls) n := by simpa using hpe0.symm
  have hpi : ¬ ((bs p n : Nat) : Int) = ((bs (pset ls) n : Nat) : Int) := by omega
  clear hpe0
  have HMK := hide (fun W iv8 (h : GA W n (.slice va vl vc) e iv8 zs) (h2 : Tab W) => made_ok n (.slice va vl vc) iv8 zs e (pset ls) p W h h2 hp)
  clear hc hsb hp hpe
  rw [BG.eq] at c0 c1
  go_enter Tryd.func74, Tryd.ntmps74
  go_wp2_with fail
  rw [← BG.eq]
  refine HCK.out.mono ?_
  rintro x w1 ⟨iv9, rfl, hGA, hb1⟩
  obtain ⟨ia, il, ic, rfl⟩ := hGA.sl.isSlice
  clear c0 c1 HCK
  obtain ⟨w2, hw2⟩ : ∃ w2, w2 = (w1.alloc (.cells #[.int .i64 n, (.slice va vl vc), .int .i64 e, (.slice ia il ic)] 63)).alloc (.cells #[.int .i64 0, .int .i64 0] 27) := ⟨_, rfl⟩
  have hb2 : Below w1.heap.size w1 w2 := by rw [hw2]; exact (balloc w1 _).alloc (by simp) _
  have hB1 : Below w0.heap.size w0 w2 := bcat2 hb1 hb2
  have hF1 : Blk w2 (w1.heap.size + 1) 27 [.int .i64 0, .int .i64 0] := by
    rw [hw2]
    have := blk0 (w := w1.alloc (.cells #[.int .i64 n, (.slice va vl vc), .int .i64 e, (.slice ia il ic)] 63)) (T := 27) (.int .i64 0) (.int .i64 0)
    rwa [World.size_alloc] at this
  have hH1 : Blk w2 w1.heap.size 63 [.int .i64 n, (.slice va vl vc), .int .i64 e, (.slice ia il ic)] := by
    rw [hw2]; exact (blk4 _ _ _ _).alloc _
  obtain ⟨t0, t1, _, _⟩ := hF1.two
  obtain ⟨_, k0, k1, k2, k3, _⟩ := Four.mk' hH1
  rw [hw2] at t0 t1 k0 k1 k2 k3
  go_wp2_with fail
  rw [← hw2]
  clear t0 t1 k0 k1 k2 k3 hw2
  have hGA2 : GA w2 n (.slice va vl vc) e (.slice ia il ic) zs := ⟨hg, hv0.below hB1, (hGA.below hb2).sl⟩
  refine (HMK.out w2 _ hGA2 ((hT.below BG.bel).below hB1)).mono ?_
  rintro x w3 ⟨rfl, hb3⟩
  have hB3 := bcat2 hB1 hb3
  obtain ⟨_, f0, f1, ff0, ff1, fs0, fs1⟩ := Two.mk' (blk_below hF1 hb3)
  have hBw3 := bcat BG.bel hB3 BG.bel.size
  have hG3 := blk_below BG.grp hB3
  obtain ⟨_, h0, h1, h2, h3, _⟩ := Four.mk' (blk_below hH1 hb3)
  obtain ⟨_, g0, g1, g2, g3, gf0, gf1, gf2, gf3, _⟩ := Four.mk' hG3
  obtain ⟨hR3, y0, y1, fy0, fy1, s0, s1⟩ := Two.mk' (blk_below BG.res hB3)
  have hGA3 := (hGA.below (bcat2 hb2 hb3)).mono (show w.heap.size + 3 ≤ w0.heap.size by rw [BG.size]; exact Nat.le_refl _)
  obtain ⟨_, _, _, _, _, _, _, _, _, gs0, gs1, gs2, gs3⟩ := Four.mk' hG3
  obtain ⟨hR6, hB6⟩ := put2 hR3 hBw3 (by omega) 7 0
  have hG6 := (hG3.other (p := ⟨w.heap.size + 1 + 1, 0, none⟩) (by simp) (.int .i64 7)).other (p := ⟨w.heap.size + 1 + 1, 1, none⟩) (by simp) (.int .i64 0)
  clear s0 s1
  go_wp2
  generalize (w3.setCell ⟨w.heap.size + 1 + 1, 0, none⟩ (.int .i64 7)).setCell ⟨w.heap.size + 1 + 1, 1, none⟩ (.int .i64 0) = W at hR6 hB6 hG6 ⊢
  obtain ⟨z0, z1, _, _⟩ := hR6.two
  obtain ⟨_, q0, q1, q2, q3, _⟩ := Four.mk' hG6
  exact bodyPost_ret (v := .tuple #[.agg #[.int .i64 0, .slice none 0 0, .int .i64 0, .slice none 0 0], .int .u64 0, .agg #[.int .i64 7, .int .i64 0]]) (by simp [results, Tryd.results74, go_sem, z0, z1, q0, q1, q2, q3]) rfl ⟨rfl, hB6⟩
theorem osub_bad (N : Int) (v u : Value) (zs ls : List Int) (w : World) (hv : Sl w v zs) (hu : Sl w u ls) (hT : Tab w) (hc : (ufault N zs ls).1 ≠ 0) :
    Calls Tryd.prog 74 #[.agg #[.int .i64 N, v], u] w fun x w' => x = .returned (.tuple #[.agg #[.int .i64 0, .slice none 0 0, .int .i64 0, .slice none 0 0], .int .u64 0, .agg #[.int .i64 (ufault N zs ls).1, .int .i64 (ufault N zs ls).2]]) ∧ Below w.heap.size w w' := by
  rcases ufault_cases N zs ls hc with ⟨h1, h2⟩ | ⟨n, e, rfl, hg, h1, h2, h3⟩
  · rw [h2]; exact osub_bads N v u zs ls w hv hu h1
  · rw [h3]; exact osub_badu n e v u zs ls w hv hg hu hT h1 h2
set_option maxRecDepth 100000 in
set_option maxHeartbeats 4000000 in
theorem nrm_bad (N : Int) (v u0 : Value) (zs l0 : List Int) (w : World) (hv : Sl w v zs) (hu : Sl w u0 l0) (hT : Tab w) (hc : (ufault N zs l0).1 ≠ 0) :
    Calls Tryd.prog 55 #[.agg #[.int .i64 N, v], u0] w fun x w' => x = .returned (.tuple #[.bool false, .agg #[.int .i64 (ufault N zs l0).1, .int .i64 (ufault N zs l0).2]]) ∧ Below w.heap.size w w' := by
  obtain ⟨w0, BG⟩ := Beg.new w N v
  have hv0 := hv.below BG.bel
  obtain ⟨c0, c1, _, _⟩ := BG.box.two
  have hck := osub_bad N v u0 zs l0 w0 hv0 (hu.below BG.bel) (hT.below BG.bel) hc
  obtain ⟨c, i, hci⟩ : ∃ c i, ufault N zs l0 = (c, i) := ⟨_, _, rfl⟩
  rw [hci] at hck hc ⊢
  simp only at hc hck
  have HCK := hide hck
  clear hck hci
  have hcb : (c != 0) = true := by simpa using hc
  rw [BG.eq] at c0 c1
  go_enter Tryd.func55, Tryd.ntmps55
  go_wp2_with fail
  rw [← BG.eq]
  refine HCK.out.mono ?_
  rintro x w1 ⟨rfl, hb1⟩
  clear c0 c1
  obtain ⟨w2, hw2⟩ : ∃ w2, w2 = (w1.alloc (.cells #[.int .i64 0, .slice none 0 0, .int .i64 0, .slice none 0 0] 63)).alloc (.cells #[.int .i64 c, .int .i64 i] 27) := ⟨_, rfl⟩
  have hB1 : Below w0.heap.size w0 w2 := by rw [hw2]; exact bcat2 hb1 ((balloc w1 _).alloc (by simp) _)
  have hF1 : Blk w2 (w1.heap.size + 1) 27 [.int .i64 c, .int .i64 i] := by
    rw [hw2]
    have := blk0 (w := w1.alloc (.cells #[.int .i64 0, .slice none 0 0, .int .i64 0, .slice none 0 0] 63)) (T := 27) (.int .i64 c) (.int .i64 i)
    rwa [World.size_alloc] at this
  have hR1 := blk_below BG.res hB1
  have hBw := bcat BG.bel hB1 BG.bel.size
  obtain ⟨y0, y1, fy0, fy1⟩ := hR1.two
  obtain ⟨t0, t1, _, _⟩ := hF1.two
  rw [hw2] at t0 t1
  go_wp2_with fail
  rw [← hw2]
  rw [← hw2] at t0 t1
  clear hw2
  go_region
  all_goals (
    go_wp2
    obtain ⟨hR6, hB6⟩ := put2 hR1 hBw (by omega) c i
    have hB7 := bdrew hB6
    have hR7 : Blk ((w2.setCell ⟨w.heap.size + 1, 0, none⟩ (.int .i64 c)).setCell ⟨w.heap.size + 1, 1, none⟩ (.int .i64 i)).drew (w.heap.size + 1) 27 [.int .i64 c, .int .i64 i] := hR6
    generalize ((w2.setCell ⟨w.heap.size + 1, 0, none⟩ (.int .i64 c)).setCell ⟨w.heap.size + 1, 1, none⟩ (.int .i64 i)).drew = W at hR7 hB7 ⊢
    obtain ⟨z0, z1, _, _⟩ := hR7.two
    exact bodyPost_ret (v := .tuple #[.bool false, .agg #[.int .i64 c, .int .i64 i]]) (by simp [results, Tryd.results55, go_sem, z0, z1]) rfl ⟨rfl, hB7⟩)
end Go.Proofs.YtobnfbnholbfoaaDoor

namespace Go.Proofs.YtobnfbnholbfoaaDoor
open Go Go.RowKit Go.Maps

set_option maxRecDepth 100000 in
set_option maxHeartbeats 2000000 in
theorem lprime_ok (p : Int) (w : World) : Calls Tryd.prog 31 #[.int .i64 p] w fun x w' => x = .returned (.bool (primeB p)) ∧ Below w.heap.size w w' := by
  by_cases h1 : p < 2
  · have hb : primeB p = false := by unfold primeB; simp; omega
    rw [hb]
    go_enter Tryd.func31, Tryd.ntmps31
    go_wp2
    go_ret
    exact ⟨rfl, Below.refl _ _⟩
  · by_cases h2 : (100 : Int) < p
    · have hb : primeB p = false := by unfold primeB; simp; omega
      rw [hb]
      go_enter Tryd.func31, Tryd.ntmps31
      go_wp2
      go_ret
      exact ⟨rfl, Below.refl _ _⟩
    · obtain ⟨n, rfl⟩ : ∃ n : Nat, p = n := ⟨p.toNat, by omega⟩
      have hn2 : 2 ≤ n := by omega
      have hn1 : n ≤ 100 := by omega
      go_enter Tryd.func31, Tryd.ntmps31
      go_wp2
      go_loopw [3] (fun i wr => ∃ k : Nat, 2 ≤ k ∧ k ≤ 101 ∧ i = .int .i64 k ∧ (∀ d : Nat, d < k → 2 ≤ d → d < n → n % d ≠ 0) ∧ Below w.heap.size w wr) (fun i _ => 102 - (intOf i).toNat)
      case atStart => exact ⟨2, Nat.le_refl _, by omega, rfl, fun d h1 h2 => by omega, Below.refl _ _⟩
      case round =>
        obtain ⟨k, hk, hk2, rfl, hno, hB⟩ := hrel
        have HN := hide hno
        clear hno
        by_cases hle : k < n
        · have hle1 : (k : Int) < (n : Int) := by omega
          have hkz : ¬ ((k : Int) = 0) := by omega
          have hm := Int.tmod_eq_emod_of_nonneg (a := (n : Int)) (b := (k : Int)) (by omega)
          rw [← Int.natCast_emod] at hm
          by_cases hr : n % k = 0
          · have HF := hide (show primeB n = false by
              unfold primeB
              rw [decide_eq_false_iff_not]
              rintro ⟨_, _, h9⟩
              exact h9 k (by simpa using hle) hk (by simpa using hr))
            have hri : ((n % k : Nat) : Int) = 0 := by omega
            rw [hri] at hm
            clear hri hr
            go_wp2
            go_ret
            exact ⟨retB HF.out.symm, hB⟩
          · have HR := hide hr
            have hri : ¬ ((n % k : Nat) : Int) = 0 := by omega
            generalize hrr : n % k = r at *
            go_wp2
            go_roundw
            case rel => exact ⟨k + 1, by omega, by omega, by go_num, fun d h1 h2 h3 => by
              by_cases hd : d = k
              · rw [hd, hrr]; exact HR.out
              · exact HN.out d (by omega) h2 h3, hB⟩
            case measure => simp [intOf]; omega
        · have hle1 : ¬ (k : Int) < (n : Int) := by omega
          have HF := hide (show primeB n = true by
            unfold primeB
            rw [decide_eq_true_eq]
            refine ⟨by omega, by omega, ?_⟩
            simp only [Int.toNat_natCast]
            exact fun d h1 h2 => HN.out d (by omega) h2 h1)
          go_wp2
          go_ret
          exact ⟨retB HF.out.symm, hB⟩
set_option maxRecDepth 100000 in
set_option maxHeartbeats 4000000 in
theorem rcj_ok (n e a b : Nat) (v : Value) (zs : List Int) (w : World) (g : IsGrp n zs e) (hv : Sl w v zs) (ha : a < n) (hb : b < n) :
    Calls Tryd.prog 44 #[.agg #[.int .i64 n, v], .int .i64 a, .int .i64 b] w fun x w' => x = .returned (.int .i64 (Fin.cj (tm n zs) (iv n zs e) a b)) ∧ Below w.heap.size w w' := by
  have hB0 : Below w.heap.size w (w.alloc (.cells #[.int .i64 n, v] 24)) := balloc w _
  have hX0 : BoxG (w.alloc (.cells #[.int .i64 n, v] 24)) w.heap.size n v := blk0 _ _
  obtain ⟨w0, hw0⟩ : ∃ w0, w0 = w.alloc (.cells #[.int .i64 n, v] 24) := ⟨_, rfl⟩
  rw [← hw0] at hB0 hX0
  have hv0 := hv.below hB0
  obtain ⟨c0, c1, _, _⟩ := hX0.two
  obtain ⟨hib, _, _, _⟩ := iv_spec g hb
  have hab := tm_lt g.tab ha hb
  show Calls Tryd.prog 44 _ w fun x w' => x = .returned (.int .i64 (tm n zs (iv n zs e b) (tm n zs a b))) ∧ Below w.heap.size w w'
  have HI := hide (fun W x (h : Below w0.heap.size w0 W) (hx : x < n) => Iiv_ok n x e v zs W g (hv0.below h) hx)
  have HM := hide (fun W x y (h : Below w0.heap.size w0 W) (hx : x < n) (hy : y < n) => M_ok n v zs x y W g.tab (hv0.below h) hx hy)
  have hS : ∀ W, Below w0.heap.size w0 W → (Below w0.heap.size w0 W ∧ W.cell? ⟨w.heap.size, 0, none⟩ = some (.int .i64 n) ∧ W.cell? ⟨w.heap.size, 1, none⟩ = some v) := fun W h => ⟨h, below_cell h c0, below_cell h c1⟩
  have hS0 := hS _ (bdrew (Below.refl _ w0))
  clear c0 c1
  go_enter Tryd.func44, Tryd.ntmps44
  go_wp2_with fail
  rw [← hw0]
  clear hw0
  go_region_held3 (fun W => Below w0.heap.size w0 W ∧ W.cell? ⟨w.heap.size, 0, none⟩ = some (.int .i64 n) ∧ W.cell? ⟨w.heap.size, 1, none⟩ = some v)
    (first | exact hS0 | assumption | exact hS _ (bcat2 (And.left ‹_›) hl1))
    (first
      | (go_at_call 39; refine (HI.out _ _ (And.left ‹_›) (by assumption)).mono ?_; rintro e1 U1 ⟨rfl, hl1⟩)
      | (go_at_call 19; refine (HM.out _ _ _ (And.left ‹_›) (by assumption) (by assumption)).mono ?_; rintro e1 U1 ⟨rfl, hl1⟩))
  all_goals (
    have hB9 := And.left ‹Below w0.heap.size w0 U1 ∧ _›
    clear hS hS0
    go_wp2
    go_ret
    exact ⟨rfl, bcat2 hB0 hB9⟩)
theorem rcj_lt {n e x a : Nat} {zs : List Int} (g : IsGrp n zs e) (hx : x < n) (ha : a < n) : Fin.cj (tm n zs) (iv n zs e) x a < n := List.mem_range.1 (Fin.cj_mem (grp_fg g) (grp_iv g) (List.mem_range.2 hx) (List.mem_range.2 ha))
set_option maxRecDepth 100000 in
set_option maxHeartbeats 4000000 in
theorem powerIn_ok (n p : Nat) (w : World) (hn : 1 ≤ n) (hn6 : n ≤ 60) (hp : 2 ≤ p) (hp1 : p ≤ 100) :
    Calls Tryd.prog 32 #[.int .i64 n, .int .i64 p] w fun x w' => ∃ v j : Nat, x = .returned (.int .i64 ((p ^ j : Nat) : Int)) ∧ v * p ^ j = n ∧ ¬ p ∣ v ∧ Below w.heap.size w w' := by
  have hpz : ¬ ((p : Int) = 0) := by omega
  go_enter Tryd.func32, Tryd.ntmps32
  go_wp2
  go_loopw [0, 5] (fun i k wr => ∃ v j : Nat, 1 ≤ v ∧ v ≤ 60 ∧ i = .int .i64 v ∧ k = .int .i64 ((p ^ j : Nat) : Int) ∧ v * p ^ j = n ∧ Below w.heap.size w wr) (fun i _ _ => (intOf i).toNat)
  case atStart => exact ⟨n, 0, hn, hn6, rfl, rfl, by simp, Below.refl _ _⟩
  case round =>
    obtain ⟨v, j, hv, hv6, rfl, rfl, hvj, hB⟩ := hrel
    have HV := hide hvj
    clear hvj
    have hm := Int.tmod_eq_emod_of_nonneg (a := (v : Int)) (b := (p : Int)) (by omega)
    rw [← Int.natCast_emod] at hm
    have hq := Int.tdiv_eq_ediv_of_nonneg (a := (v : Int)) (b := (p : Int)) (by omega)
    rw [← Int.natCast_ediv] at hq
    by_cases hr : v % p = 0
    · have hdv : p * (v / p) = v := Nat.mul_div_cancel' (Nat.dvd_of_mod_eq_zero hr)
      have hlt : v / p < v := Nat.div_lt_self (by omega) (by omega)
      have h1 : 1 ≤ v / p := Nat.div_pos (Nat.le_of_dvd (by omega) (Nat.dvd_of_mod_eq_zero hr)) (by omega)
      have HE := hide (show (v / p) * p ^ (j + 1) = n by rw [Nat.pow_succ, Nat.mul_comm (p ^ j), ← Nat.mul_assoc, Nat.mul_comm (v / p), hdv, HV.out])
      have hle : p ^ (j + 1) ≤ 60 := by
        have h9 : 1 * p ^ (j + 1) ≤ (v / p) * p ^ (j + 1) := Nat.mul_le_mul_right _ h1
        rw [HE.out, Nat.one_mul] at h9
        omega
      have HK := hide (show ((p ^ j : Nat) : Int) * (p : Int) = ((p ^ (j + 1) : Nat) : Int) by rw [Nat.pow_succ, Int.natCast_mul])
      have hk9 := HK.out
      have hri : ((v % p : Nat) : Int) = 0 := by omega
      rw [hri] at hm
      clear hri hr hdv
      obtain ⟨m2, hm2⟩ : ∃ m2, m2 = p ^ (j + 1) := ⟨_, rfl⟩
      rw [← hm2] at hk9 hle
      have HM2 := hide hm2
      clear hm2
      generalize ((p ^ j : Nat) : Int) = m1 at *
      generalize v / p = u at *
      go_wp2
      go_roundw
      case rel => exact ⟨u, j + 1, h1, by omega, rfl, by rw [HM2.out], HE.out, hB⟩
      case measure => simp [intOf]; omega
    · have hri : ¬ ((v % p : Nat) : Int) = 0 := by omega
      have HR := hide (show ¬ p ∣ v from fun h9 => hr (Nat.mod_eq_zero_of_dvd h9))
      clear hr
      generalize v % p = r at *
      generalize v / p = u at *
      go_wp2
      go_ret
      exact ⟨v, j, rfl, HV.out, HR.out, hB⟩
theorem powerIn_pw {n p v j : Nat} (hp : 2 ≤ p) (h : v * p ^ j = n) (hv : ¬ p ∣ v) (hn : isPw n p) : p ^ j = n := by
  obtain ⟨k, hk⟩ := hn
  have h1 := pw_strip hp hv (h.trans hk)
  rw [← h, h1, Nat.one_mul]
end Go.Proofs.YtobnfbnholbfoaaDoor

namespace Go.Proofs.YtobnfbnholbfoaaDoor
open Go Go.RowKit Go.Maps

set_option maxRecDepth 100000 in
set_option maxHeartbeats 4000000 in
theorem square_ok (w : World) :
    Calls Tryd.prog 40 #[] w fun x w' => ∃ r, x = .returned (.agg #[.int .i64 8, r]) ∧ Row w' w.heap.size r sqT ∧ Below w.heap.size w w' := by
  obtain ⟨i0, hi, hz0, hz1, hz2⟩ := info_parts info3b
  obtain ⟨T, hT⟩ : ∃ T, T = sqT := ⟨_, rfl⟩
  have HTL := hide (show T.length = 64 by rw [hT]; exact sqT_len)
  have HTG := hide (fun a b (ha : a < 8) (hb : b < 8) => show T[a * 8 + b]?.getD 0 = (sq a b : Int) by rw [hT]; exact sqT_get ha hb)
  rw [← hT]
  clear hT
  have hB0 : Below w.heap.size w ((w.alloc (.cells #[.int .i64 0, .slice none 0 0] 24)).alloc (.cells #[.int .i64 8, .slice none 0 0] 24)) := (balloc w _).alloc (by simp) _
  have hR0 : Blk ((w.alloc (.cells #[.int .i64 0, .slice none 0 0] 24)).alloc (.cells #[.int .i64 8, .slice none 0 0] 24)) w.heap.size 24 [.int .i64 0, .slice none 0 0] := (blk0 _ _).alloc _
  have hX0 : Blk ((w.alloc (.cells #[.int .i64 0, .slice none 0 0] 24)).alloc (.cells #[.int .i64 8, .slice none 0 0] 24)) (w.heap.size + 1) 24 [.int .i64 8, .slice none 0 0] := by
    have := blk0 (w := w.alloc (.cells #[.int .i64 0, .slice none 0 0] 24)) (T := 24) (.int .i64 8) (.slice none 0 0)
    rwa [World.size_alloc] at this
  go_enter Tryd.func40, Tryd.ntmps40
  go_wp2
  go_loopw [2] (fun i wr => ∃ (a : Nat) (r : Value), a ≤ 8 ∧ i = .int .i64 a ∧ Row wr (w.heap.size + 1 + 1) r (T.take (a * 8)) ∧ Blk wr w.heap.size 24 [.int .i64 0, .slice none 0 0] ∧ Blk wr (w.heap.size + 1) 24 [.int .i64 8, r] ∧ Below w.heap.size w wr) (fun i _ => 8 - (intOf i).toNat)
  case atStart => exact ⟨0, .slice none 0 0, by omega, rfl, nil_row _ _, hR0, hX0, hB0⟩
  case round =>
    obtain ⟨a, r, ha, rfl, hrow, hR, hX, hB⟩ := hrel
    clear hR0 hX0 hB0
    by_cases hlta : a < 8
    · have hai : (a : Int) < 8 := by omega
      go_wp2
      go_loopw [3] (fun i wr => ∃ (b : Nat) (r : Value), b ≤ 8 ∧ i = .int .i64 b ∧ Row wr (w.heap.size + 1 + 1) r (T.take (a * 8 + b)) ∧ Blk wr w.heap.size 24 [.int .i64 0, .slice none 0 0] ∧ Blk wr (w.heap.size + 1) 24 [.int .i64 8, r] ∧ Below w.heap.size w wr) (fun i _ => 8 - (intOf i).toNat)
      case atStart => exact ⟨0, r, by omega, rfl, hrow, hR, hX, hB⟩
      case round =>
        obtain ⟨b, r', hb, rfl, hrow', hR', hX', hB'⟩ := hrel
        clear hrow hR hX hB
        by_cases hltb : b < 8
        · have HV := hide (HTG.out a b hlta hltb)
          have hlen : (T.take (a * 8 + b)).length = a * 8 + b := by rw [List.length_take, HTL.out]; omega
          have hsn : T.take (a * 8 + b + 1) = T.take (a * 8 + b) ++ [(sq a b : Int)] := by
            rw [take_snoc' (by rw [HTL.out]; omega), HV.out]
          have HSN := hide hsn
          have HLL := hide hlen
          have hown : wr.ownsRow (w.heap.size + 1 + 1) 3 1 r' (T.take (a * 8 + b)).length ((T.take (a * 8 + b)).map (Value.int .i64)) := hrow'
          clear hsn hlen hrow' HV
          generalize T.take (a * 8 + b) = xs at *
          obtain ⟨rx, rcap, rfl⟩ := own_slice hown
          obtain ⟨x0, x1, fx0, fx1⟩ := hX'.two
          have hs2 := hX'.lt
          by_cases h3 : 3 < a
          · have h3i : (3 : Int) < (a : Int) := by omega
            have hE : ((a : Int) + (4 - (b : Int) % 4)) % 4 + ((a : Int) / 4 + (b : Int) / 4) % 2 * 4 = (sq a b : Int) := by unfold sq sqk; rw [if_pos h3]; omega
            generalize sq a b = S at *
            go_wp2_with (first
              | (at_builtin; refine wpList_append_own _ rfl _ _ 22 rfl (w.heap.size + 1 + 1) 3 i0 (.int .i64 0) 1 8 under22b hi hz0 hz1 hz2 rfl (by decide) _ _ _ rfl (World.ownsRow.alloc hown _) ⟨wr.heap.size, 0, none⟩ 1 1 [.int .i64 S] rfl rfl ?c1 ?c2 ?c3 ?c4 ?c5 ?_))
            case c1 => exact cell_one_new _ _ _
            case c2 => simp [Value.oneCell']
            case c3 => unfold maxLen; have := HLL.out; omega
            case c4 => have := HLL.out; omega
            case c5 => simp; omega
            intro v9 w2 hown' hgrow _
            obtain ⟨g', cap', rfl⟩ := ownsRow_succ hown'
            have hk2 : ∀ k, k < w.heap.size + 1 + 1 → w2.heap[k]? = wr.heap[k]? := fun k hk => (hgrow.block k (by simp; omega) (fun e9 => by have := owns_ge hown k e9.symm; omega)).trans (Below.heap_alloc _ _ k (by omega))
            have hB2 : Below w.heap.size w w2 := (hB'.alloc hB'.size _).grown hgrow (by simp; omega) (fun t e9 => by have := owns_ge hown t e9; omega)
            have hR2 : Blk w2 w.heap.size 24 [.int .i64 0, .slice none 0 0] := hR'.of_eq (hk2 _ (by omega))
            have hX2 : Blk w2 (w.heap.size + 1) 24 [.int .i64 8, .slice rx xs.length rcap] := hX'.of_eq (hk2 _ (by omega))
            have hrow2 : Row w2 (w.heap.size + 1 + 1) (.slice (some ⟨g', 0, none⟩) (xs.length + 1) cap') (T.take (a * 8 + b + 1)) := by
              unfold Row
              rw [HSN.out]
              simpa using hown'
            obtain ⟨x0, x1, fx0, fx1⟩ := hX2.two
            have hX3 := hX2.set 1 (.slice (some ⟨g', 0, none⟩) (xs.length + 1) cap')
            have hR3 := hR2.other (p := ⟨w.heap.size + 1, 1, none⟩) (by simp) (.slice (some ⟨g', 0, none⟩) (xs.length + 1) cap')
            have hB3 := hB2.setCell (p := ⟨w.heap.size + 1, 1, none⟩) (by simp) (.slice (some ⟨g', 0, none⟩) (xs.length + 1) cap')
            have hrow3 := row_keep (W' := w2.setCell ⟨w.heap.size + 1, 1, none⟩ (.slice (some ⟨g', 0, none⟩) (xs.length + 1) cap')) hrow2 (fun g h1 _ => Below.heap_setCell _ _ _ g (by simp; omega))
            clear hown' hgrow hown hrow2 hk2 hE h3i hs2
            go_wp2
            go_roundw
            case rel => exact ⟨b + 1, _, by omega, by go_num, hrow3, hR3, hX3, hB3⟩
            case measure => simp [intOf]; omega
          · have h3i : ¬ (3 : Int) < (a : Int) := by omega
            have hE : ((a : Int) + (b : Int)) % 4 + ((a : Int) / 4 + (b : Int) / 4) % 2 * 4 = (sq a b : Int) := by unfold sq sqk; rw [if_neg h3]; omega
            generalize sq a b = S at *
            go_wp2_with (first
              | (at_builtin; refine wpList_append_own _ rfl _ _ 22 rfl (w.heap.size + 1 + 1) 3 i0 (.int .i64 0) 1 8 under22b hi hz0 hz1 hz2 rfl (by decide) _ _ _ rfl (World.ownsRow.alloc hown _) ⟨wr.heap.size, 0, none⟩ 1 1 [.int .i64 S] rfl rfl ?d1 ?d2 ?d3 ?d4 ?d5 ?_))
            case d2 => simp [Value.oneCell']
            case d3 => unfold maxLen; have := HLL.out; omega
            case d4 => have := HLL.out; omega
            case d5 => first | omega | (simp; omega)
            intro v9 w2 hown' hgrow _
            obtain ⟨g', cap', rfl⟩ := ownsRow_succ hown'
            have hk2 : ∀ k, k < w.heap.size + 1 + 1 → w2.heap[k]? = wr.heap[k]? := fun k hk => (hgrow.block k (by simp; omega) (fun e9 => by have := owns_ge hown k e9.symm; omega)).trans (Below.heap_alloc _ _ k (by omega))
            have hB2 : Below w.heap.size w w2 := (hB'.alloc hB'.size _).grown hgrow (by simp; omega) (fun t e9 => by have := owns_ge hown t e9; omega)
            have hR2 : Blk w2 w.heap.size 24 [.int .i64 0, .slice none 0 0] := hR'.of_eq (hk2 _ (by omega))
            have hX2 : Blk w2 (w.heap.size + 1) 24 [.int .i64 8, .slice rx xs.length rcap] := hX'.of_eq (hk2 _ (by omega))
            have hrow2 : Row w2 (w.heap.size + 1 + 1) (.slice (some ⟨g', 0, none⟩) (xs.length + 1) cap') (T.take (a * 8 + b + 1)) := by
              unfold Row
              rw [HSN.out]
              simpa using hown'
            obtain ⟨x0, x1, fx0, fx1⟩ := hX2.two
            have hX3 := hX2.set 1 (.slice (some ⟨g', 0, none⟩) (xs.length + 1) cap')
            have hR3 := hR2.other (p := ⟨w.heap.size + 1, 1, none⟩) (by simp) (.slice (some ⟨g', 0, none⟩) (xs.length + 1) cap')
            have hB3 := hB2.setCell (p := ⟨w.heap.size + 1, 1, none⟩) (by simp) (.slice (some ⟨g', 0, none⟩) (xs.length + 1) cap')
            have hrow3 := row_keep (W' := w2.setCell ⟨w.heap.size + 1, 1, none⟩ (.slice (some ⟨g', 0, none⟩) (xs.length + 1) cap')) hrow2 (fun g h1 _ => Below.heap_setCell _ _ _ g (by simp; omega))
            clear hown' hgrow hown hrow2 hk2 hE h3i hs2
            go_wp2
            go_roundw
            case rel => exact ⟨b + 1, _, by omega, by go_num, hrow3, hR3, hX3, hB3⟩
            case measure => simp [intOf]; omega
        · have hbn : b = 8 := by omega
          subst hbn
          have hrow8 : Row wr (w.heap.size + 1 + 1) r' (T.take ((a + 1) * 8)) := by rw [show (a + 1) * 8 = a * 8 + 8 by omega]; exact hrow'
          go_wp2
          go_roundw
          case rel => exact ⟨a + 1, r', by omega, by go_num, hrow8, hR', hX', hB'⟩
          case measure => simp [intOf]; omega
    · have han : a = 8 := by omega
      subst han
      have hTT : T.take (8 * 8) = T := List.take_of_length_le (by rw [HTL.out]; omega)
      rw [hTT] at hrow
      clear hTT
      have hown : wr.ownsRow (w.heap.size + 1 + 1) 3 1 r T.length (T.map (Value.int .i64)) := hrow
      obtain ⟨rx, rcap, rfl⟩ := own_slice hown
      obtain ⟨x0, x1, fx0, fx1⟩ := hX.two
      obtain ⟨r0, r1, fr0, fr1⟩ := hR.two
      have hR8 : Blk ((wr.setCell ⟨w.heap.size, 0, none⟩ (.int .i64 8)).setCell ⟨w.heap.size, 1, none⟩ (.slice rx T.length rcap)) w.heap.size 24 [.int .i64 8, .slice rx T.length rcap] := (hR.set 0 _).set 1 _
      have hB8 := (hB.setCell (p := ⟨w.heap.size, 0, none⟩) (by simp) (.int .i64 8)).setCell (p := ⟨w.heap.size, 1, none⟩) (by simp) (.slice rx T.length rcap)
      have hrow8 := owns_mono (row_keep (W' := (wr.setCell ⟨w.heap.size, 0, none⟩ (.int .i64 8)).setCell ⟨w.heap.size, 1, none⟩ (.slice rx T.length rcap)) hrow (fun g h1 _ => by rw [Below.heap_setCell _ _ _ g (by simp; omega), Below.heap_setCell _ _ _ g (by simp; omega)])) (show w.heap.size ≤ w.heap.size + 1 + 1 by omega)
      clear hown hrow
      go_wp2
      generalize (wr.setCell ⟨w.heap.size, 0, none⟩ (.int .i64 8)).setCell ⟨w.heap.size, 1, none⟩ (.slice rx T.length rcap) = W at hR8 hB8 hrow8 ⊢
      obtain ⟨z0, z1, _, _⟩ := hR8.two
      exact bodyPost_ret (v := .agg #[.int .i64 8, .slice rx T.length rcap]) (by simp [results, Tryd.results40, go_sem, z0, z1]) rfl ⟨_, rfl, hrow8, hB8⟩

theorem clc_call (a b : Int) (x : Value) (W : World) : Sem.run Tryd.prog (callFunc 43 (#[.int .i64 a, .int .i64 b] ++ #[x])) W = .ok (.enter 43 (#[.int .i64 a, .int .i64 b] ++ #[x])) W := by kernel_rfl
set_option maxRecDepth 100000 in
set_option maxHeartbeats 2000000 in
/-- The document's closure: is b a conjugate of a? -/
theorem clc_ok (n e a b gb : Nat) (v : Value) (zs : List Int) (w : World) (g : IsGrp n zs e) (hv : Sl w v zs) (ha : a < n) (hX : BoxG w gb n v) :
    Calls Tryd.prog 43 (#[.int .i64 a, .int .i64 b] ++ #[.pointer (some ⟨gb, 0, none⟩)]) w fun x w' => x = .returned (.bool (clq n zs e a b)) ∧ Below w.heap.size w w' := by
  show Calls Tryd.prog 43 #[.int .i64 a, .int .i64 b, .pointer (some ⟨gb, 0, none⟩)] w _
  have hn := g.tab.le
  go_enter Tryd.func43, Tryd.ntmps43
  go_wp2
  go_loopw [6] (fun i wr => ∃ k : Nat, k ≤ n ∧ i = .int .i64 k ∧ clk n zs e a k b = false ∧ Below w.heap.size w wr) (fun i _ => n - (intOf i).toNat)
  case atStart => exact ⟨0, Nat.zero_le _, rfl, rfl, Below.refl _ _⟩
  case round =>
    obtain ⟨k, hk, rfl, hno, hB⟩ := hrel
    have HNO := hide hno
    clear hno
    obtain ⟨c0, c1, _, _⟩ := (blk_below hX hB).two
    by_cases hlt : k < n
    · have hki : (k : Int) < (n : Int) := by omega
      have HC := hide (rcj_ok n e a k v zs wr g (hv.below hB) ha hlt)
      by_cases hin : Fin.cj (tm n zs) (iv n zs e) a k = b
      · have HT9 := hide (show clq n zs e a b = true from clq_iff.2 ⟨k, hlt, hin⟩)
        rw [hin] at HC
        clear hin
        go_wp2_with fail
        refine HC.out.mono ?_
        rintro x w1 ⟨rfl, hb1⟩
        go_wp2
        go_ret
        exact ⟨by rw [HT9.out]; rfl, bcat2 hB hb1⟩
      · have hni : ¬ ((Fin.cj (tm n zs) (iv n zs e) a k : Nat) : Int) = (b : Int) := by omega
        have HS := hide (show clk n zs e a (k + 1) b = false by
          have h9 := HNO.out
          unfold clk at h9 ⊢
          rw [List.range_succ, List.any_append, h9]
          simp [hin])
        clear hin
        generalize Fin.cj (tm n zs) (iv n zs e) a k = t at *
        go_wp2_with fail
        refine HC.out.mono ?_
        rintro x w1 ⟨rfl, hb1⟩
        clear c0 c1
        go_wp2
        go_roundw
        case rel => exact ⟨k + 1, by omega, by go_num, HS.out, bcat2 hB hb1⟩
        case measure => simp [intOf]; omega
    · have hki : ¬ (k : Int) < (n : Int) := by omega
      have hkn : k = n := by omega
      have HF := hide (show clq n zs e a b = false by have h9 := HNO.out; rw [hkn] at h9; exact h9)
      go_wp2
      go_ret
      exact ⟨by rw [HF.out]; rfl, hB⟩
set_option maxRecDepth 100000 in
set_option maxHeartbeats 2000000 in
/-- The document's classes. -/
theorem rcl_ok (n e : Nat) (v : Value) (zs : List Int) (w : World) (g : IsGrp n zs e) (hv : Sl w v zs) :
    Calls Tryd.prog 15 #[.agg #[.int .i64 n, v]] w fun x w' => ∃ r vs, x = .returned r ∧ w'.ownsRow w.heap.size 22 1 r vs.length vs ∧ Lsts w' w.heap.size r vs (rcs n (clq n zs e) n) ∧ Below w.heap.size w w' := by
  have hB0 : Below w.heap.size w (w.alloc (.cells #[.int .i64 n, v] 24)) := balloc w _
  have hX0 : BoxG (w.alloc (.cells #[.int .i64 n, v] 24)) w.heap.size n v := blk0 _ _
  obtain ⟨w0, hw0⟩ : ∃ w0, w0 = w.alloc (.cells #[.int .i64 n, v] 24) := ⟨_, rfl⟩
  rw [← hw0] at hB0 hX0
  have hv0 := hv.below hB0
  have HC := hide (cosets_ok n 43 v #[.pointer (some ⟨w.heap.size, 0, none⟩)] (clq n zs e) w0 g.tab.le (fun a b W => clc_call a b _ W) (fun W a b hW ha _ => clc_ok n e a b w.heap.size v zs W g (hv0.below hW) ha (blk_below hX0 hW)))
  obtain ⟨c0, c1, _, _⟩ := hX0.two
  rw [hw0] at c0 c1
  go_enter Tryd.func15, Tryd.ntmps15
  go_wp2_with fail
  rw [← hw0]
  refine HC.out.mono ?_
  rintro x w1 ⟨r, vs, rfl, hrow, hls, hb1⟩
  have hz := hB0.size
  go_wp2
  go_ret
  exact ⟨r, vs, rfl, owns_mono hrow hz, hls.mono hz, bcat2 hB0 hb1⟩
theorem sq_cls : rcs 8 (clq 8 sqT 0) 8 = [[0], [1, 3], [2], [4, 6], [5, 7]] := by decide +kernel
set_option maxRecDepth 100000 in
set_option maxHeartbeats 2000000 in
theorem classBegun_any (w : World) (hT : Tab w) : Calls Tryd.prog 12 #[] w fun x w' => x = .returned (.bool true) ∧ Below w.heap.size w w' := by
  go_enter Tryd.func12, Tryd.ntmps12
  go_wp2_with fail
  refine (square_ok w).mono ?_
  rintro x w1 ⟨r, rfl, hrow, hb1⟩
  have h01 : 0 < w1.heap.size := Nat.lt_of_lt_of_le hT.lt hb1.size
  go_wp2_with fail
  refine (cla_sl 8 0 r sqT w1 (row_sl hrow h01) sqT_grp (hT.below hb1)).mono ?_
  rintro x w2 ⟨r1, r2, r3, rfl, hL, hb2⟩
  rw [sq_cls] at hL
  obtain ⟨w3, hw3⟩ : ∃ w3, w3 = w2.alloc (.cells #[.int .i64 0, .int .i64 0] 27) := ⟨_, rfl⟩
  have hb3 : Below w2.heap.size w2 w3 := by rw [hw3]; exact balloc _ _
  have hF3 : Blk w3 w2.heap.size 27 [.int .i64 0, .int .i64 0] := by rw [hw3]; exact blk0 _ _
  have hs3 : w3.heap.size = w2.heap.size + 1 := by rw [hw3]; simp
  obtain ⟨t0, t1, _, _⟩ := hF3.two
  rw [hw3] at t0 t1
  obtain ⟨a1, ha1⟩ : ∃ a1, a1 = w3.alloc (.cells #[.int .i64 0] 3) := ⟨_, rfl⟩
  obtain ⟨a2, ha2⟩ : ∃ a2, a2 = a1.alloc (.cells #[.int .i64 1, .int .i64 3] 3) := ⟨_, rfl⟩
  obtain ⟨a3, ha3⟩ : ∃ a3, a3 = a2.alloc (.cells #[.int .i64 2] 3) := ⟨_, rfl⟩
  obtain ⟨a4, ha4⟩ : ∃ a4, a4 = a3.alloc (.cells #[.int .i64 4, .int .i64 6] 3) := ⟨_, rfl⟩
  obtain ⟨a5, ha5⟩ : ∃ a5, a5 = a4.alloc (.cells #[.int .i64 5, .int .i64 7] 3) := ⟨_, rfl⟩
  obtain ⟨a6, ha6⟩ : ∃ a6, a6 = a5.alloc (.cells #[.slice (some ⟨w3.heap.size, 0, none⟩) 1 1, .slice (some ⟨w3.heap.size + 1, 0, none⟩) 2 2, .slice (some ⟨w3.heap.size + 2, 0, none⟩) 1 1, .slice (some ⟨w3.heap.size + 3, 0, none⟩) 2 2, .slice (some ⟨w3.heap.size + 4, 0, none⟩) 2 2] 22) := ⟨_, rfl⟩
  have z1 : a1.heap.size = w3.heap.size + 1 := by rw [ha1]; simp
  have z2 : a2.heap.size = w3.heap.size + 2 := by rw [ha2]; simp [z1]
  have z3 : a3.heap.size = w3.heap.size + 3 := by rw [ha3]; simp [z2]
  have z4 : a4.heap.size = w3.heap.size + 4 := by rw [ha4]; simp [z3]
  have z5 : a5.heap.size = w3.heap.size + 5 := by rw [ha5]; simp [z4]
  have k1 : Blk a1 w3.heap.size 3 (([0] : List Int).map (Value.int .i64)) := by rw [ha1]; exact World.alloc_heap_new _ _
  have k2 : Blk a2 (w3.heap.size + 1) 3 (([1, 3] : List Int).map (Value.int .i64)) := by rw [ha2, ← z1]; exact World.alloc_heap_new _ _
  have k3 : Blk a3 (w3.heap.size + 2) 3 (([2] : List Int).map (Value.int .i64)) := by rw [ha3, ← z2]; exact World.alloc_heap_new _ _
  have k4 : Blk a4 (w3.heap.size + 3) 3 (([4, 6] : List Int).map (Value.int .i64)) := by rw [ha4, ← z3]; exact World.alloc_heap_new _ _
  have k5 : Blk a5 (w3.heap.size + 4) 3 (([5, 7] : List Int).map (Value.int .i64)) := by rw [ha5, ← z4]; exact World.alloc_heap_new _ _
  have k6 : Blk a6 (w3.heap.size + 5) 22 [.slice (some ⟨w3.heap.size, 0, none⟩) 1 1, .slice (some ⟨w3.heap.size + 1, 0, none⟩) 2 2, .slice (some ⟨w3.heap.size + 2, 0, none⟩) 1 1, .slice (some ⟨w3.heap.size + 3, 0, none⟩) 2 2, .slice (some ⟨w3.heap.size + 4, 0, none⟩) 2 2] := by rw [ha6, ← z5]; exact World.alloc_heap_new _ _
  have e2 : Below a1.heap.size a1 a2 := by rw [ha2]; exact balloc _ _
  have e3 : Below a2.heap.size a2 a3 := by rw [ha3]; exact balloc _ _
  have e4 : Below a3.heap.size a3 a4 := by rw [ha4]; exact balloc _ _
  have e5 : Below a4.heap.size a4 a5 := by rw [ha5]; exact balloc _ _
  have e6 : Below a5.heap.size a5 a6 := by rw [ha6]; exact balloc _ _
  have e1 : Below w3.heap.size w3 a1 := by rw [ha1]; exact balloc _ _
  have hE : Below w3.heap.size w3 a6 := bcat2 (bcat2 (bcat2 (bcat2 (bcat2 e1 e2) e3) e4) e5) e6
  have s1 := Sl.of_blk (n := 1) (blk_below k1 (bcat2 (bcat2 (bcat2 (bcat2 e2 e3) e4) e5) e6)) rfl (by simp)
  have s2 := Sl.of_blk (n := 2) (blk_below k2 (bcat2 (bcat2 (bcat2 e3 e4) e5) e6)) rfl (by simp)
  have s3 := Sl.of_blk (n := 1) (blk_below k3 (bcat2 (bcat2 e4 e5) e6)) rfl (by simp)
  have s4 := Sl.of_blk (n := 2) (blk_below k4 (bcat2 e5 e6)) rfl (by simp)
  have s5 := Sl.of_blk (n := 2) (blk_below k5 e6) rfl (by simp)
  have hM : SlL a6 (.slice (some ⟨w3.heap.size + 5, 0, none⟩) 5 5) [[0], [1, 3], [2], [4, 6], [5, 7]] := by
    refine ⟨some ⟨w3.heap.size + 5, 0, none⟩, 5, w3.heap.size + 5, 0, rfl, fun _ => rfl, fun j hj => ?_, k6.lt, by simp, by unfold maxLen; omega⟩
    match j, hj with
    | 0, _ => exact ⟨_, k6.cell 0, s1⟩
    | 1, _ => exact ⟨_, k6.cell 1, s2⟩
    | 2, _ => exact ⟨_, k6.cell 2, s3⟩
    | 3, _ => exact ⟨_, k6.cell 3, s4⟩
    | 4, _ => exact ⟨_, k6.cell 4, s5⟩
    | j + 5, h => exact absurd h (by simp)
  have HLA := hide (lists_any (.slice r1 r2 r3) (.slice (some ⟨w3.heap.size + 5, 0, none⟩) 5 5) _ _ a6 (hL.below (bcat2 hb3 hE)) hM)
  rw [decide_eq_true rfl] at HLA
  clear hM hL s1 s2 s3 s4 s5 k1 k2 k3 k4 k5 k6 e1 e2 e3 e4 e5 e6 z1 z2 z3 z4 z5
  have hBz := bcat2 (bcat2 hb1 hb2) (bcat2 hb3 hE)
  rw [ha6, ha5, ha4, ha3, ha2, ha1, hw3] at HLA hBz
  simp only [World.size_alloc] at HLA hBz
  go_wp2_with fail
  refine HLA.out.mono ?_
  rintro x w9 ⟨rfl, hb9⟩
  go_wp2
  go_ret
  exact ⟨rfl, hBz.trans (hb9.mono (by have := hb1.size; have := hb2.size; omega))⟩
end Go.Proofs.YtobnfbnholbfoaaDoor

namespace Go.Proofs.YtobnfbnholbfoaaDoor
open Go Go.RowKit Go.Maps

theorem call113c (a : Int) (x y : Value) (W : World) : Sem.run Tryd.prog (callFunc 65 (#[.int .i64 a] ++ #[x, y])) W = .ok (.enter 65 (#[.int .i64 a] ++ #[x, y])) W := by kernel_rfl
set_option maxRecDepth 100000 in
set_option maxHeartbeats 2000000 in
theorem cen1_ok (n : Nat) (v u lv : Value) (zs : List Int) (e a lb gb : Nat) (xs : List Nat) (w : World) (hG : GA w n v e u zs) (ha : a < n) (hl : Boxed w lb 22 lv) (hs : Sl w lv (li xs)) (hx : ∀ x, x ∈ xs → x < n) (hb : Box4 w gb n e v u) :
    Calls Tryd.prog 65 (#[.int .i64 a] ++ #[.pointer (some ⟨lb, 0, none⟩), .pointer (some ⟨gb, 0, none⟩)]) w fun y w' => y = .returned (.bool (xs.all fun x => decide (tm n zs a x = tm n zs x a))) ∧ Below w.heap.size w w' := by
  show Calls Tryd.prog 65 #[.int .i64 a, .pointer (some ⟨lb, 0, none⟩), .pointer (some ⟨gb, 0, none⟩)] w _
  obtain ⟨la, cap, pb, po, rfl, hr, hp, hq3, hq4⟩ := hs
  have hml : xs.length ≤ 9223372036854775807 := by rw [li_len] at hq3; unfold maxLen at hq4; omega
  have hlc := hl.cell
  rw [li_len] at *
  have HX := hide hx
  have HR := hide hr
  have HLL := hide (li_len xs)
  clear hq3 hq4 hx hr
  go_enter Tryd.func65, Tryd.ntmps65
  go_wp2
  clear hlc
  go_loopw [9] (fun i wr => ∃ k : Nat, k ≤ xs.length ∧ i = .int .i64 k ∧ (∀ t, (ht : t < xs.length) → t < k → tm n zs a xs[t] = tm n zs xs[t] a) ∧ Below w.heap.size w wr) (fun i _ => xs.length - (intOf i).toNat)
  case atStart => exact ⟨0, Nat.zero_le _, rfl, fun t _ ht => by omega, Below.refl _ _⟩
  case round =>
    obtain ⟨k, hk, rfl, hno, hB⟩ := hrel
    have HNO := hide hno
    clear hno
    by_cases hlt : k < xs.length
    · have hck := (HR.out.below hB hp).cell k (by rw [HLL.out]; exact hlt)
      rw [li_get hlt] at hck
      obtain rfl := HR.out.at_ (by rw [HLL.out]; omega)
      obtain ⟨x, hxe⟩ : ∃ x, xs[k] = x := ⟨_, rfl⟩
      have hxn : x < n := by rw [← hxe]; exact HX.out _ (List.getElem_mem hlt)
      rw [hxe] at hck
      have HXE := hide hxe
      clear hxe
      have hGr := hG.below hB
      have hbr := hb.below hB
      have HP := hide (fun W y z (h : Below wr.heap.size wr W) (hy : y < n) (hz : z < n) => prd_ok n v u zs e y z W hG.grp.tab (hGr.mul.below h) hy hz)
      have hS : ∀ W, Below wr.heap.size wr W → (Below wr.heap.size wr W ∧ W.cell? ⟨gb, 0, none⟩ = some (.int .i64 n) ∧ W.cell? ⟨gb, 1, none⟩ = some v ∧ W.cell? ⟨gb, 2, none⟩ = some (.int .i64 e) ∧ W.cell? ⟨gb, 3, none⟩ = some u) := fun W h => ⟨h, (hbr.below h).cells⟩
      have hS0 := hS _ (bdrew (Below.refl _ wr))
      by_cases heq : tm n zs a x = tm n zs x a
      · have heqi : ((tm n zs a x : Nat) : Int) = ((tm n zs x a : Nat) : Int) := by rw [heq]
        go_wp2_with fail
        go_region_held3 (fun W => Below wr.heap.size wr W ∧ W.cell? ⟨gb, 0, none⟩ = some (.int .i64 n) ∧ W.cell? ⟨gb, 1, none⟩ = some v ∧ W.cell? ⟨gb, 2, none⟩ = some (.int .i64 e) ∧ W.cell? ⟨gb, 3, none⟩ = some u)
          (first | exact hS0 | assumption | exact hS _ (bcat2 (And.left ‹_›) hl1))
          (first | (go_at_call 66; refine (HP.out _ _ _ (And.left ‹_›) (by assumption) (by assumption)).mono ?_; rintro e1 W1 ⟨rfl, hl1⟩))
        all_goals (
          have hB9 := And.left ‹Below wr.heap.size wr W1 ∧ _›
          go_wp2
          go_roundw
          case rel => exact ⟨k + 1, by omega, by go_num, fun t h1 h2 => by
            by_cases e9 : t = k
            · subst e9; rw [HXE.out]; exact heq
            · exact HNO.out t h1 (by omega), bcat hB hB9 hB.size⟩
          case measure => simp [intOf]; omega)
      · have heqi : ¬ ((tm n zs a x : Nat) : Int) = ((tm n zs x a : Nat) : Int) := by omega
        have HD := hide (show (xs.all fun x => decide (tm n zs a x = tm n zs x a)) = false by
          rw [List.all_eq_false]
          exact ⟨xs[k], List.getElem_mem hlt, by rw [HXE.out]; simpa using heq⟩)
        go_wp2_with fail
        go_region_held3 (fun W => Below wr.heap.size wr W ∧ W.cell? ⟨gb, 0, none⟩ = some (.int .i64 n) ∧ W.cell? ⟨gb, 1, none⟩ = some v ∧ W.cell? ⟨gb, 2, none⟩ = some (.int .i64 e) ∧ W.cell? ⟨gb, 3, none⟩ = some u)
          (first | exact hS0 | assumption | exact hS _ (bcat2 (And.left ‹_›) hl1))
          (first | (go_at_call 66; refine (HP.out _ _ _ (And.left ‹_›) (by assumption) (by assumption)).mono ?_; rintro e1 W1 ⟨rfl, hl1⟩))
        all_goals (
          have hB9 := And.left ‹Below wr.heap.size wr W1 ∧ _›
          go_wp2
          go_ret
          exact ⟨by rw [HD.out]; rfl, bcat hB hB9 hB.size⟩)
    · have HD := hide (show (xs.all fun x => decide (tm n zs a x = tm n zs x a)) = true by
        rw [List.all_eq_true]
        intro z hz
        obtain ⟨t, ht, rfl⟩ := List.mem_iff_getElem.1 hz
        simpa using HNO.out t ht (by omega))
      go_wp2
      go_ret
      exact ⟨by rw [HD.out]; rfl, hB⟩
set_option maxRecDepth 100000 in
set_option maxHeartbeats 2000000 in
theorem central_ok (n : Nat) (v u : Value) (zs : List Int) (e : Nat) (q : Nat → Bool) (w : World) (hG : GA w n v e u zs) (hT : Tab w) :
    Calls Tryd.prog 46 #[.agg #[.int .i64 n, v, .int .i64 e, u], .int .u64 (bs q n)] w fun x w' => x = .returned (.int .u64 (bs (cenq n zs q) n)) ∧ Below w.heap.size w w' := by
  have hB0 : Below w.heap.size w (w.alloc (.cells #[.int .i64 n, v, .int .i64 e, u] 63)) := balloc w _
  have hX0 := Box4.new w n e v u
  obtain ⟨w0, hw0⟩ : ∃ w0, w0 = w.alloc (.cells #[.int .i64 n, v, .int .i64 e, u] 63) := ⟨_, rfl⟩
  rw [← hw0] at hB0 hX0
  go_enter Tryd.func46, Tryd.ntmps46
  go_wp2_with fail
  rw [← hw0]
  clear hw0
  refine (list_ok n q w0 hG.le (hT.below hB0)).mono ?_
  rintro x w1 ⟨r, rfl, hr, hb1⟩
  obtain ⟨ra, rl, rc, rfl⟩ : ∃ a l c, r = .slice a l c := by
    obtain ⟨a, cap, _, _, rfl, _⟩ := hr
    exact ⟨a, _, cap, rfl⟩
  have hb2 := bcat2 hb1 (balloc w1 (.cells #[.slice ra rl rc] 22))
  have hL2 := Boxed.new w1 22 (.slice ra rl rc)
  have hX2 := hX0.below hb2
  have hG2 := hG.below (bcat2 hB0 hb2)
  have hr2 := (hr.below (balloc w1 (.cells #[.slice ra rl rc] 22))).sl
  have hB2 := bcat2 hB0 hb2
  obtain ⟨c0, c1, c2, c3⟩ := hX2.cells
  go_wp2_with fail
  generalize w1.alloc (.cells #[.slice ra rl rc] 22) = w2 at *
  clear c0 c1 c2 c3
  refine (those_ok n 65 v u e #[.pointer (some ⟨w1.heap.size, 0, none⟩), .pointer (some ⟨w.heap.size, 0, none⟩)] (cenq n zs q) w2 hG.le (fun a W => call113c a _ _ W) (fun W a hW ha => cen1_ok n v u (.slice ra rl rc) zs e a w1.heap.size w.heap.size (lst n q) W (hG2.below hW) ha (Boxed.below hL2 hW) (hr2.below hW) (fun x hx => (mem_lst.1 hx).1) (hX2.below hW))).mono ?_
  rintro x w3 ⟨rfl, hb3⟩
  go_wp2
  go_ret
  exact ⟨rfl, bcat2 hB2 hb3⟩
set_option maxRecDepth 100000 in
set_option maxHeartbeats 4000000 in
theorem centre_good (n e : Nat) (v : Value) (zs : List Int) (w : World) (hv : Sl w v zs) (hg : IsGrp n zs e) (hT : Tab w) :
    Calls Tryd.prog 29 #[.agg #[.int .i64 n, v]] w fun x w' => ∃ r, x = .returned (.tuple #[r, .agg #[.int .i64 0, .int .i64 0]]) ∧ SlF w.heap.size w' r (li (lst n (cenq n zs (fun _ => true)))) ∧ Below w.heap.size w w' := by
  obtain ⟨va, vl, vc, rfl⟩ := hv.isSlice
  obtain ⟨w0, BG⟩ := Beg.new w n (.slice va vl vc)
  have hv0 := hv.below BG.bel
  obtain ⟨c0, c1, _, _⟩ := BG.box.two
  have HCK := hide (opened_good n e (.slice va vl vc) zs w0 hv0 hg)
  have HZ0 := hide (show w.heap.size + 2 ≤ w0.heap.size by rw [BG.eq]; simp)
  rw [BG.eq] at c0 c1
  go_enter Tryd.func29, Tryd.ntmps29
  go_wp2_with fail
  rw [← BG.eq]
  refine HCK.out.mono ?_
  rintro x w1 ⟨iv9, rfl, hSI, hb1⟩
  obtain ⟨ia, il, ic, rfl⟩ := hSI.sl.isSlice
  clear c0 c1 HCK
  obtain ⟨w2, hw2⟩ : ∃ w2, w2 = (w1.alloc (.cells #[.int .i64 n, (.slice va vl vc), .int .i64 e, (.slice ia il ic)] 63)).alloc (.cells #[.int .i64 0, .int .i64 0] 27) := ⟨_, rfl⟩
  have hb2 : Below w1.heap.size w1 w2 := by rw [hw2]; exact (balloc w1 _).alloc (by simp) _
  have hB1 : Below w0.heap.size w0 w2 := bcat2 hb1 hb2
  have hF1 : Blk w2 (w1.heap.size + 1) 27 [.int .i64 0, .int .i64 0] := by
    rw [hw2]
    have := blk0 (w := w1.alloc (.cells #[.int .i64 n, (.slice va vl vc), .int .i64 e, (.slice ia il ic)] 63)) (T := 27) (.int .i64 0) (.int .i64 0)
    rwa [World.size_alloc] at this
  have hH2 : Blk w2 w1.heap.size 63 [.int .i64 n, (.slice va vl vc), .int .i64 e, (.slice ia il ic)] := by
    rw [hw2]; exact (blk4 _ _ _ _).alloc _
  have hBw2 := bcat BG.bel hB1 BG.bel.size
  have hR2 := blk_below BG.res hB1
  have hT2 := hT.below hBw2
  have hGA2 : GA w2 n (.slice va vl vc) e (.slice ia il ic) zs := ⟨hg, hv.below hBw2, (hSI.below hb2).sl⟩
  obtain ⟨t0, t1, _, _⟩ := hF1.two
  obtain ⟨_, h0, h1, h2, h3, _⟩ := Four.mk' hH2
  have hx2 := blk_below BG.box hB1
  have HZ1 := hide (Nat.le_trans HZ0.out hb1.size)
  have HZ2 := hide hb2.size
  rw [hw2] at t0 t1 h0 h1 h2 h3
  go_wp2_with fail
  rw [← hw2]
  rw [← hw2] at t0 t1 h0 h1 h2 h3
  clear hw2
  have hS : ∀ W, Below w2.heap.size w2 W → (Below w2.heap.size w2 W ∧ W.cell? ⟨w1.heap.size, 0, none⟩ = some (.int .i64 n) ∧ W.cell? ⟨w1.heap.size, 1, none⟩ = some (.slice va vl vc) ∧ W.cell? ⟨w1.heap.size, 2, none⟩ = some (.int .i64 e) ∧ W.cell? ⟨w1.heap.size, 3, none⟩ = some (.slice ia il ic) ∧ W.cell? ⟨w.heap.size + 1, 0, none⟩ = some (.int .i64 0) ∧ W.cell? ⟨w.heap.size + 1, 1, none⟩ = some (.int .i64 0) ∧ W.frozen? ⟨w.heap.size + 1, 0, none⟩ = false ∧ W.frozen? ⟨w.heap.size + 1, 1, none⟩ = false ∧ W.setCell ⟨w.heap.size + 1, 0, none⟩ (.int .i64 0) = W ∧ W.setCell ⟨w.heap.size + 1, 1, none⟩ (.int .i64 0) = W) := fun W h => by
    obtain ⟨_, y0, y1, fy0, fy1, s0, s1⟩ := Two.mk' (blk_below hR2 h)
    exact ⟨h, below_cell h h0, below_cell h h1, below_cell h h2, below_cell h h3, y0, y1, fy0, fy1, s0, s1⟩
  have hS0 := hS _ (bdrew (Below.refl _ w2))
  have HA := hide (fun W => all_ok n (.slice va vl vc) (.slice ia il ic) e W hg.tab.le)
  have HC := hide (fun W (h : Below w2.heap.size w2 W) => central_ok n (.slice va vl vc) (.slice ia il ic) zs e (fun _ => true) W (hGA2.below h) (hT2.below h))
  have HL := hide (fun W (h : Below w2.heap.size w2 W) => list_at n w.heap.size (cenq n zs fun _ => true) W hg.tab.le (hT2.below h) (Nat.le_trans hBw2.size h.size))
  clear h0 h1 h2 h3 t0 t1
  generalize bs (cenq n zs fun _ => true) n = C at *
  generalize bs (fun _ => true) n = A at *
  go_region_held3 (fun W => Below w2.heap.size w2 W ∧ W.cell? ⟨w1.heap.size, 0, none⟩ = some (.int .i64 n) ∧ W.cell? ⟨w1.heap.size, 1, none⟩ = some (.slice va vl vc) ∧ W.cell? ⟨w1.heap.size, 2, none⟩ = some (.int .i64 e) ∧ W.cell? ⟨w1.heap.size, 3, none⟩ = some (.slice ia il ic) ∧ W.cell? ⟨w.heap.size + 1, 0, none⟩ = some (.int .i64 0) ∧ W.cell? ⟨w.heap.size + 1, 1, none⟩ = some (.int .i64 0) ∧ W.frozen? ⟨w.heap.size + 1, 0, none⟩ = false ∧ W.frozen? ⟨w.heap.size + 1, 1, none⟩ = false ∧ W.setCell ⟨w.heap.size + 1, 0, none⟩ (.int .i64 0) = W ∧ W.setCell ⟨w.heap.size + 1, 1, none⟩ (.int .i64 0) = W)
    (first | exact hS0 | assumption | exact hS _ (bcat2 (And.left ‹_›) hl1))
    (first
      | (go_at_call 53; refine (HA.out _).mono ?_; rintro e1 W1 ⟨rfl, hl1⟩)
      | (go_at_call 46; refine (HC.out _ (And.left ‹_›)).mono ?_; rintro e2 W2 ⟨rfl, hl1⟩)
      | (go_at_call 47; refine (HL.out _ (And.left ‹_›)).mono ?_; rintro e3 W3 ⟨r, rfl, hrr, hl1⟩))
  all_goals (
    obtain ⟨hB9, _, _, _, _, y0, y1, _⟩ := ‹Below w2.heap.size w2 W3 ∧ _›
    have hBz := bcat hBw2 hB9 hBw2.size
    clear hS hS0
    go_wp2
    exact bodyPost_ret (v := .tuple #[r, .agg #[.int .i64 0, .int .i64 0]]) (by simp [results, Tryd.results29, go_sem, y0, y1]) rfl ⟨_, rfl, hrr, hBz⟩)
set_option maxRecDepth 100000 in
set_option maxHeartbeats 2000000 in
theorem both_ok (v1 v2 : Value) (zs ys : List Int) (w : World) (h1 : Sl w v1 zs) (h2 : Sl w v2 ys) (hsm : zs.length ≤ 60) :
    Calls Tryd.prog 35 #[v1, v2] w fun x w' => ∃ r, x = .returned r ∧ Row w' w.heap.size r (zs.filter fun a => decide (a ∈ ys)) ∧ Below w.heap.size w w' := by
  obtain ⟨i0, hi, hz0, hz1, hz2⟩ := info_parts info3b
  obtain ⟨x, cap, pb, po, rfl, hr, hp, hq3, hq4⟩ := h1
  have HR := hide hr
  have HH := hide (fun a W (h : Below w.heap.size w W) => rhas_ok v2 ys a W (h2.below h))
  clear hr
  go_enter Tryd.func35, Tryd.ntmps35
  go_wp2
  go_loopw [5, 6] (fun r i wr => ∃ k : Nat, k ≤ zs.length ∧ i = .int .i64 k ∧ Row wr w.heap.size r ((zs.take k).filter fun a => decide (a ∈ ys)) ∧ Below w.heap.size w wr) (fun _ i _ => zs.length - (intOf i).toNat)
  case atStart => exact ⟨0, Nat.zero_le _, rfl, nil_row _ _, Below.refl _ _⟩
  case round =>
    obtain ⟨k, hk, rfl, hrow, hB⟩ := hrel
    obtain ⟨r, rfl⟩ : ∃ r, r = u5 := ⟨_, rfl⟩
    have hBs := hB.size
    by_cases hlt : k < zs.length
    · obtain rfl := HR.out.at_ (by omega)
      have hc := (HR.out.below hB hp).cell k hlt
      have hsn := take_snoc' hlt
      obtain ⟨c, hce⟩ : ∃ c, zs[k]?.getD 0 = c := ⟨_, rfl⟩
      rw [hce] at hc hsn
      clear hce
      have HSN := hide hsn
      clear hsn
      have HC := hide (HH.out c wr hB)
      by_cases hca : c ∈ ys
      · rw [decide_eq_true hca] at HC
        have HE := hide (show (zs.take (k + 1)).filter (fun a => decide (a ∈ ys)) = (zs.take k).filter (fun a => decide (a ∈ ys)) ++ [c] by rw [HSN.out, List.filter_append]; simp [hca])
        have HLL := hide (show ((zs.take k).filter fun a => decide (a ∈ ys)).length ≤ 60 by
          refine Nat.le_trans (List.length_filter_le _ _) ?_
          rw [List.length_take]; omega)
        have hown : wr.ownsRow w.heap.size 3 1 r ((zs.take k).filter fun a => decide (a ∈ ys)).length (((zs.take k).filter fun a => decide (a ∈ ys)).map (Value.int .i64)) := hrow
        clear hrow
        generalize (zs.take k).filter (fun a => decide (a ∈ ys)) = xs at *
        go_wp2_with fail
        refine HC.out.mono ?_
        rintro e1 w1 ⟨rfl, rfl⟩
        go_wp2_with (first
          | (at_builtin; refine wpList_append_own _ rfl _ _ 22 rfl w.heap.size 3 i0 (.int .i64 0) 1 8 under22b hi hz0 hz1 hz2 rfl (by decide) _ _ _ rfl (World.ownsRow.alloc hown _) ⟨w1.heap.size, 0, none⟩ 1 1 [.int .i64 c] rfl rfl ?c1 ?c2 ?c3 ?c4 ?c5 ?_))
        case c1 => exact cell_one_new _ _ _
        case c2 => simp [Value.oneCell']
        case c3 => unfold maxLen; have := HLL.out; omega
        case c4 => have := HLL.out; omega
        case c5 => simp; omega
        intro v' w2 hown' hgrow _
        obtain ⟨g', cap', rfl⟩ := ownsRow_succ hown'
        have hB2 : Below w.heap.size w w2 := (hB.alloc hBs _).grown hgrow (by simp; omega) (fun t e => owns_ge hown t e)
        have hrow2 : Row w2 w.heap.size (.slice (some ⟨g', 0, none⟩) (xs.length + 1) cap') ((zs.take (k + 1)).filter fun a => decide (a ∈ ys)) := by
          unfold Row
          rw [HE.out]
          simpa using hown'
        clear hown' hgrow hown
        go_wp2
        go_roundw
        case rel => exact ⟨k + 1, by omega, by go_num, hrow2, hB2⟩
        case measure => simp [intOf]; omega
      · rw [decide_eq_false hca] at HC
        have HE := hide (show (zs.take (k + 1)).filter (fun a => decide (a ∈ ys)) = (zs.take k).filter (fun a => decide (a ∈ ys)) by rw [HSN.out, List.filter_append]; simp [hca])
        go_wp2_with fail
        refine HC.out.mono ?_
        rintro e1 w1 ⟨rfl, rfl⟩
        go_wp2
        go_roundw
        case rel => exact ⟨k + 1, by omega, by go_num, by rw [HE.out]; exact hrow, hB⟩
        case measure => simp [intOf]; omega
    · have hkk : k = zs.length := by omega
      subst hkk
      rw [List.take_length] at hrow
      go_wp2
      go_ret
      exact ⟨_, rfl, hrow, hB⟩
end Go.Proofs.YtobnfbnholbfoaaDoor

namespace Go.Proofs.YtobnfbnholbfoaaDoor
theorem dvd_pw {p : Nat} (hp : 2 ≤ p ∧ ∀ d, d ∣ p → d = 1 ∨ d = p) : ∀ (k d : Nat), d ∣ p ^ k → isPw d p
  | 0, d, h => ⟨0, Nat.dvd_one.1 h⟩
  | k + 1, d, h => by
    by_cases hd : p ∣ d
    · obtain ⟨c, rfl⟩ := hd
      rw [Nat.pow_succ, Nat.mul_comm (p ^ k)] at h
      obtain ⟨j, hj⟩ := dvd_pw hp k c (Nat.dvd_of_mul_dvd_mul_left (by omega) h)
      exact ⟨j + 1, by rw [hj, Nat.pow_succ, Nat.mul_comm]⟩
    · have hco : Nat.Coprime d p := by
        rcases hp.2 _ (Nat.gcd_dvd_right d p) with h1 | h1
        · exact h1
        · exact absurd (h1 ▸ Nat.gcd_dvd_left d p) hd
      rw [Nat.pow_succ] at h
      exact dvd_pw hp k d (hco.dvd_of_dvd_mul_right h)
namespace Fin
variable {P X : List Nat} {m t : Nat → Nat → Nat} {e : Nat}
/-- A group that moves the things of a list. -/
structure Mv (P X : List Nat) (m : Nat → Nat → Nat) (e : Nat) (t : Nat → Nat → Nat) : Prop where
  mem : ∀ c x, c ∈ X → x ∈ P → t c x ∈ X
  one : ∀ c, c ∈ X → t c e = c
  mul : ∀ c x y, c ∈ X → x ∈ P → y ∈ P → t (t c x) y = t c (m x y)
def fixB (P : List Nat) (t : Nat → Nat → Nat) (c : Nat) : Bool := P.all fun x => decide (t c x = c)
def orbB (P : List Nat) (t : Nat → Nat → Nat) (c d : Nat) : Bool := P.any fun x => decide (t c x = d)
theorem orbB_iff {c d : Nat} : orbB P t c d = true ↔ ∃ x, x ∈ P ∧ t c x = d := by unfold orbB; simp
theorem fixB_iff {c : Nat} : fixB P t c = true ↔ ∀ x, x ∈ P → t c x = c := by unfold fixB; simp
theorem orb_back (F : Fg P m e) (M : Mv P X m e t) {c x : Nat} (hc : c ∈ X) (hx : x ∈ P) : ∃ y, y ∈ P ∧ t (t c x) y = c := by
  obtain ⟨y, hy, h1, _⟩ := F.inv x hx
  exact ⟨y, hy, by rw [M.mul c x y hc hx hy, h1, M.one c hc]⟩
theorem orb_same (F : Fg P m e) (M : Mv P X m e t) {c d z : Nat} (hc : c ∈ X) (hd : d ∈ X) (h : orbB P t c d = true) : orbB P t c z = orbB P t d z := by
  obtain ⟨x, hx, rfl⟩ := orbB_iff.1 h
  rw [Bool.eq_iff_iff, orbB_iff, orbB_iff]
  obtain ⟨y, hy, hb⟩ := orb_back F M hc hx
  constructor
  · rintro ⟨u, hu, rfl⟩
    exact ⟨m y u, F.cl _ _ hy hu, by rw [← M.mul _ _ _ hd hy hu, hb]⟩
  · rintro ⟨u, hu, rfl⟩
    exact ⟨m x u, F.cl _ _ hx hu, (M.mul _ _ _ hc hx hu).symm⟩
theorem orb_len (F : Fg P m e) (M : Mv P X m e t) (hX : X.Nodup) {c : Nat} (hc : c ∈ X) : P.length = (X.filter (orbB P t c)).length * (P.filter fun x => decide (t c x = c)).length := by
  refine fib_len (fun x => t c x) _ _ _ (hX.filter _) (fun x hx => List.mem_filter.2 ⟨M.mem c x hc hx, orbB_iff.2 ⟨x, hx, rfl⟩⟩) (fun k hk => ?_)
  obtain ⟨hk1, hk2⟩ := List.mem_filter.1 hk
  obtain ⟨x, hx, rfl⟩ := orbB_iff.1 hk2
  symm
  refine bij_len (fun y => m y x) (F.nd.filter _) (F.nd.filter _) (fun y hy => ?_) (fun y z hy hz h => F.canR hx (List.mem_filter.1 hy).1 (List.mem_filter.1 hz).1 h) (fun z hz => ?_)
  · obtain ⟨h1, h2⟩ := List.mem_filter.1 hy
    refine List.mem_filter.2 ⟨F.cl _ _ h1 hx, decide_eq_true ?_⟩
    rw [← M.mul c y x hc h1 hx, of_decide_eq_true h2]
  · obtain ⟨h1, h2⟩ := List.mem_filter.1 hz
    obtain ⟨y, hy, i1, i2⟩ := F.inv x hx
    refine ⟨m z y, List.mem_filter.2 ⟨F.cl _ _ h1 hy, decide_eq_true ?_⟩, ?_⟩
    · rw [← M.mul c z y hc h1 hy, of_decide_eq_true h2, M.mul c x y hc hx hy, i1, M.one c hc]
    · show m (m z y) x = z
      rw [F.ass _ _ _ h1 hy hx, i2, F.right z h1]
theorem fix_dvd {p : Nat} (hp : 2 ≤ p ∧ ∀ d, d ∣ p → d = 1 ∨ d = p) (F : Fg P m e) (M : Mv P X m e t) (hX : X.Nodup) (hP : isPw P.length p) : p ∣ (X.filter fun c => !fixB P t c).length := by
  obtain ⟨k, hk⟩ := hP
  refine part_dvd p (orbB P t) _ _ (Nat.le_refl _) (fun c hc => ?_) (fun c d z hc hd hz h => ?_) (fun c hc => ?_)
  · exact orbB_iff.2 ⟨e, F.one, M.one c (List.mem_filter.1 hc).1⟩
  · exact orb_same F M (List.mem_filter.1 hc).1 (List.mem_filter.1 hd).1 h
  · obtain ⟨h1, h2⟩ := List.mem_filter.1 hc
    have hsame : (X.filter fun c => !fixB P t c).filter (orbB P t c) = X.filter (orbB P t c) := by
      rw [List.filter_filter]
      refine filter_eq fun z hz => ?_
      cases ho : orbB P t c z with
      | false => simp
      | true =>
        have hno : fixB P t z = false := by
          rw [Bool.eq_false_iff]
          intro hf
          obtain ⟨x, hx, hxz⟩ := orbB_iff.1 ho
          obtain ⟨y, hy, hb⟩ := orb_back F M h1 hx
          rw [hxz, fixB_iff.1 hf y hy] at hb
          rw [hb] at hf
          simp [hf] at h2
        simp [hno]
    rw [hsame]
    have hl := orb_len F M hX h1
    have hd : (X.filter (orbB P t c)).length ∣ p ^ k := hk ▸ ⟨_, hl⟩
    obtain ⟨j, hj⟩ := dvd_pw hp k _ hd
    cases j with
    | zero =>
      exfalso
      have hfx : fixB P t c = true := fixB_iff.2 fun x hx => by
        have m1 : c ∈ X.filter (orbB P t c) := List.mem_filter.2 ⟨h1, orbB_iff.2 ⟨e, F.one, M.one c h1⟩⟩
        have m2 : t c x ∈ X.filter (orbB P t c) := List.mem_filter.2 ⟨M.mem c x h1 hx, orbB_iff.2 ⟨x, hx, rfl⟩⟩
        obtain ⟨d, hd1⟩ := List.length_eq_one_iff.1 hj
        rw [hd1, List.mem_singleton] at m1 m2
        exact m2.trans m1.symm
      simp [hfx] at h2
    | succ j => rw [hj, Nat.pow_succ]; exact ⟨p ^ j, Nat.mul_comm _ _⟩
theorem fix_mod {p : Nat} (hp : 2 ≤ p ∧ ∀ d, d ∣ p → d = 1 ∨ d = p) (F : Fg P m e) (M : Mv P X m e t) (hX : X.Nodup) (hP : isPw P.length p) : X.length % p = (X.filter (fixB P t)).length % p := by
  obtain ⟨c, hc⟩ := fix_dvd hp F M hX hP
  rw [split_len (fixB P t) X, hc, Nat.add_mul_mod_self_left]
end Fin
end Go.Proofs.YtobnfbnholbfoaaDoor

namespace Go.Proofs.YtobnfbnholbfoaaDoor
open Go Go.RowKit Go.Maps

theorem cj_mv {n e : Nat} {zs : List Int} (g : IsGrp n zs e) : Fin.Mv (List.range n) (List.range n) (tm n zs) e (Fin.cj (tm n zs) (iv n zs e)) where
  mem _ _ hc hx := Fin.cj_mem (grp_fg g) (grp_iv g) hc hx
  one _ hc := Fin.cj_id (grp_fg g) (grp_iv g) hc
  mul _ _ _ hc hx hy := Fin.cj_cj (grp_fg g) (grp_iv g) hc hx hy
theorem cj_stay {n e x a : Nat} {zs : List Int} (g : IsGrp n zs e) (hx : x < n) (ha : a < n) : Fin.cj (tm n zs) (iv n zs e) x a = x ↔ tm n zs a x = tm n zs x a := by
  have h1 := Fin.cj_eq (grp_fg g) (grp_iv g) (List.mem_range.2 hx) (List.mem_range.2 ha)
  constructor
  · intro h; rw [h] at h1; exact h1
  · intro h; exact Fin.cj_unique (grp_fg g) (grp_iv g) (List.mem_range.2 hx) (List.mem_range.2 hx) (List.mem_range.2 ha) h
theorem cls_cent {n e x : Nat} {zs : List Int} (g : IsGrp n zs e) (hx : x < n) : (lst n (cenq n zs (pset [(x : Int)]))).length * (lst n (clq n zs e x)).length = n := by
  have h := Fin.orb_len (grp_fg g) (cj_mv g) List.nodup_range (List.mem_range.2 hx)
  rw [List.length_range] at h
  have h1 : (List.range n).filter (Fin.orbB (List.range n) (Fin.cj (tm n zs) (iv n zs e)) x) = lst n (clq n zs e x) := rfl
  have hs : lst n (pset [(x : Int)]) = [x] := by
    have h0 : lfault n [(x : Int)] = (0, 0) := lfault_ok (by simp; omega) (fun t ht => by
      have : t = 0 := by simp at ht; exact ht
      subst this
      simp [rbad, fbad]; omega)
    have h9 := set_lst (n := n) (ls := [(x : Int)]) (by rw [h0])
    have h10 : li [x] = li (lst n (pset [(x : Int)])) := h9
    exact (li_inj h10).symm
  have h2 : ((List.range n).filter fun a => decide (Fin.cj (tm n zs) (iv n zs e) x a = x)) = lst n (cenq n zs (pset [(x : Int)])) := by
    unfold lst
    refine List.filter_congr fun a ha => ?_
    have ha := List.mem_range.1 ha
    unfold cenq
    rw [hs]
    simp [cj_stay g hx ha]
  rw [h1, h2] at h
  rw [Nat.mul_comm]; exact h.symm
theorem lf_one {n x : Nat} (hx : x < n) : lfault n [(x : Int)] = (0, 0) := lfault_ok (by simp; omega) (fun t ht => by
      have : t = 0 := by simp at ht; exact ht
      subst this
      simp [rbad, fbad]; omega)
theorem len_or (l : List Nat) (p q : Nat → Bool) (h : ∀ y, y ∈ l → ¬ (p y = true ∧ q y = true)) : (l.filter fun y => p y || q y).length = (l.filter p).length + (l.filter q).length := by
  induction l with
  | nil => rfl
  | cons a l ih =>
    have h1 := ih fun y hy => h y (List.mem_cons_of_mem _ hy)
    have h2 := h a (List.mem_cons_self ..)
    rw [List.filter_cons, List.filter_cons, List.filter_cons]
    cases hp : p a <;> cases hq : q a <;> simp_all <;> omega
/-- All things of the sets that are told so far. -/
theorem Prts.sum_len {n : Nat} {f : Nat → Nat → Bool} (h : Prts n f) : ∀ k, k ≤ n → ((rcs n f k).map List.length).sum = (lst n (mt f k)).length
  | 0, _ => by
    show 0 = ((List.range n).filter fun _ => false).length
    rw [List.filter_eq_nil_iff.2 (by simp)]
    rfl
  | k + 1, hk => by
    have ih := h.sum_len k (by omega)
    have hlt : k < n := by omega
    cases hm : mt f k k with
    | true =>
      rw [rcs_no (fun h9 => by have := (h.mt_head hlt).2 h9; rw [hm] at this; cases this), ih]
      exact congrArg List.length (lst_congr fun y hy => (h.mt_old hlt hy hm).symm)
    | false =>
      rw [rcs_yes ((h.mt_head hlt).1 hm), List.map_append, List.sum_append, ih]
      have h1 : lst n (mt f (k + 1)) = (List.range n).filter fun y => mt f k y || f k y := lst_congr fun y _ => mt_succ
      rw [h1, len_or _ _ _ (fun y hy h2 => ?_)]
      · simp [li, lst]
      · have hy := List.mem_range.1 hy
        obtain ⟨a, ha, h3⟩ := mt_iff.1 h2.1
        have h4 : f a k = true := by
          rw [h.same a y (by omega) hy h3 k hlt]
          exact h.symm hlt hy h2.2
        rw [mt_iff.2 ⟨a, ha, h4⟩] at hm
        cases hm
theorem Prts.sum_all {n : Nat} {f : Nat → Nat → Bool} (h : Prts n f) : ((rcs n f n).map List.length).sum = n := by
  rw [h.sum_len n (Nat.le_refl _)]
  have h1 : lst n (mt f n) = List.range n := by
    unfold lst
    rw [List.filter_eq_self]
    intro a ha
    exact mt_iff.2 ⟨a, List.mem_range.1 ha, h.refl a (List.mem_range.1 ha)⟩
  rw [h1, List.length_range]
/-- What stands at a place of the sets. -/
theorem rcs_at {n t : Nat} {f : Nat → Nat → Bool} (ht : t < (rcs n f n).length) : ∃ x, x < n ∧ (lst n (f x)).head? = some x ∧ (rcs n f n)[t]? = some (li (lst n (f x))) := by
  have h1 : (rcs n f n)[t] ∈ rcs n f n := List.getElem_mem ht
  unfold rcs at h1
  obtain ⟨x, hx, h2⟩ := List.mem_map.1 h1
  rw [List.mem_filter, List.mem_range, decide_eq_true_eq] at hx
  refine ⟨x, hx.1, hx.2, ?_⟩
  rw [List.getElem?_eq_getElem ht]
  exact congrArg some h2.symm

set_option maxRecDepth 100000 in
set_option maxHeartbeats 4000000 in
theorem cenl_good (n e : Nat) (v u : Value) (zs ls : List Int) (w : World) (hv : Sl w v zs) (hg : IsGrp n zs e) (hu : Sl w u ls) (hc : lfault n ls = (0, 0)) (hT : Tab w) :
    Calls Tryd.prog 16 #[.agg #[.int .i64 n, v], u] w fun x w' => ∃ r, x = .returned (.tuple #[r, .agg #[.int .i64 0, .int .i64 0]]) ∧ Sl w' r (li (lst n (cenq n zs (pset ls)))) ∧ Below w.heap.size w w' := by
  obtain ⟨va, vl, vc, rfl⟩ := hv.isSlice
  obtain ⟨w0, BG⟩ := Beg.new w n (.slice va vl vc)
  have hv0 := hv.below BG.bel
  obtain ⟨c0, c1, _, _⟩ := BG.box.two
  have HCK := hide (oset_good n e (.slice va vl vc) u zs ls w0 hv0 hg (hu.below BG.bel) hc)
  rw [BG.eq] at c0 c1
  go_enter Tryd.func16, Tryd.ntmps16
  go_wp2_with fail
  rw [← BG.eq]
  refine HCK.out.mono ?_
  rintro x w1 ⟨iv9, rfl, hSI, hb1⟩
  obtain ⟨ia, il, ic, rfl⟩ := hSI.sl.isSlice
  clear c0 c1 HCK
  obtain ⟨w2, hw2⟩ : ∃ w2, w2 = (w1.alloc (.cells #[.int .i64 n, (.slice va vl vc), .int .i64 e, (.slice ia il ic)] 63)).alloc (.cells #[.int .i64 0, .int .i64 0] 27) := ⟨_, rfl⟩
  have hb2 : Below w1.heap.size w1 w2 := by rw [hw2]; exact (balloc w1 _).alloc (by simp) _
  have hB1 : Below w0.heap.size w0 w2 := bcat2 hb1 hb2
  have hF1 : Blk w2 (w1.heap.size + 1) 27 [.int .i64 0, .int .i64 0] := by
    rw [hw2]
    have := blk0 (w := w1.alloc (.cells #[.int .i64 n, (.slice va vl vc), .int .i64 e, (.slice ia il ic)] 63)) (T := 27) (.int .i64 0) (.int .i64 0)
    rwa [World.size_alloc] at this
  have hH2 : Blk w2 w1.heap.size 63 [.int .i64 n, (.slice va vl vc), .int .i64 e, (.slice ia il ic)] := by
    rw [hw2]; exact (blk4 _ _ _ _).alloc _
  have hBw2 := bcat BG.bel hB1 BG.bel.size
  have hR2 := blk_below BG.res hB1
  have hT2 := hT.below hBw2
  have hGA2 : GA w2 n (.slice va vl vc) e (.slice ia il ic) zs := ⟨hg, hv.below hBw2, (hSI.below hb2).sl⟩
  obtain ⟨t0, t1, _, _⟩ := hF1.two
  obtain ⟨_, h0, h1, h2, h3, _⟩ := Four.mk' hH2
  have HC := hide (central_ok n (.slice va vl vc) (.slice ia il ic) zs e (pset ls) w2 hGA2 hT2)
  have HL := hide (fun W (h : Below w2.heap.size w2 W) => list_ok n (cenq n zs (pset ls)) W hg.tab.le (hT2.below h))
  generalize bs (cenq n zs (pset ls)) n = C at *
  rw [hw2] at t0 t1 h0 h1 h2 h3
  go_wp2_with fail
  rw [← hw2]
  clear hw2 t0 t1 h0 h1 h2 h3
  refine HC.out.mono ?_
  rintro x w3 ⟨rfl, hb3⟩
  go_wp2_with fail
  refine (HL.out _ hb3).mono ?_
  rintro x w4 ⟨r, rfl, hr, hb4⟩
  have hb24 := bcat2 hb3 hb4
  have hR4 := blk_below hR2 hb24
  have hB4 := bcat2 hBw2 hb24
  obtain ⟨_, y0, y1, fy0, fy1, s0, s1⟩ := Two.mk' hR4
  have hr4 := hr.sl
  obtain ⟨ra, rl, rc, rfl⟩ := hr4.isSlice
  go_wp2
  exact bodyPost_ret (v := .tuple #[.slice ra rl rc, .agg #[.int .i64 0, .int .i64 0]]) (by simp [results, Tryd.results16, go_sem, y0, y1]) rfl ⟨_, rfl, hr4, hB4⟩
end Go.Proofs.YtobnfbnholbfoaaDoor
