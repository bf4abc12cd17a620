/- What the document's SameGroup and ThingFault and the law's numberAs tell. -/
import Derived.Test.YtpcgacelljbkdaaSame
namespace Go.Proofs.Ytpcgacelljbkdaa
open Go Go.RowKit

set_option maxRecDepth 100000 in
set_option maxHeartbeats 4000000 in
theorem sameGroup_any (N M : Int) (u v : Value) (xs ys : List Int) (w : World) (hu : Sl w u xs) (hv : Sl w v ys) :
    Calls Try.prog 20 #[.agg #[.int .i64 N, u], .agg #[.int .i64 M, v]] w fun e w' => e = .returned (.bool (decide (N = M) && decide (xs = ys))) ∧ Below w.heap.size w w' := by
  obtain ⟨w0, hw0⟩ : ∃ w0, w0 = (w.alloc (.cells #[.int .i64 N, u] 24)).alloc (.cells #[.int .i64 M, v] 24) := ⟨_, rfl⟩
  have hB0 : Below w.heap.size w w0 := by rw [hw0]; exact (balloc w _).alloc (by simp) _
  have hg0 : BoxG w0 w.heap.size N u := by rw [hw0]; exact (blk0 _ _).alloc _
  have hg1 : BoxG w0 (w.heap.size + 1) M v := by
    rw [hw0]
    have : Blk ((w.alloc (.cells #[.int .i64 N, u] 24)).alloc (.cells #[.int .i64 M, v] 24)) (w.alloc (.cells #[.int .i64 N, u] 24)).heap.size 24 [.int .i64 M, v] := blk0 _ _
    rw [World.size_alloc] at this; exact this
  obtain ⟨k0, k1, _, _⟩ := hg0.two
  obtain ⟨l0, l1, _, _⟩ := hg1.two
  have HI := hide (ints_any u v xs ys w0 (hu.below hB0) (hv.below hB0))
  rw [hw0] at k0 k1 l0 l1
  by_cases h : N = M
  · subst h
    have hb : (N == N) = true := by simp
    go_enter Try.func20, Try.ntmps20
    go_wp2_with fail
    rw [← hw0]
    refine HI.out.mono ?_
    rintro x w1 ⟨rfl, hb1⟩
    have hB1 := bcat hB0 hb1 hB0.size
    clear k0 k1 l0 l1 hw0
    go_wp2
    go_ret
    exact ⟨retB (by simp), hB1⟩
  · have hb : (N == M) = false := by simpa using h
    go_enter Try.func20, Try.ntmps20
    go_wp2
    rw [← hw0]
    go_ret
    exact ⟨retB (by simp [h]), hB0⟩

set_option maxRecDepth 100000 in
set_option maxHeartbeats 4000000 in
theorem numberAs_any (n c i : Int) (k : Nat) (caps : Array Value) (x : Int) (w : World) (hn : n = okI c x) (hcall : ∀ W, Sem.run Try.prog (callFunc k caps) W = .ok (.enter k caps) W)
    (hcl : ∀ W, Below w.heap.size w W → c = 0 → Calls Try.prog k caps W fun e w' => e = .returned (.int .i64 x) ∧ Below W.heap.size W w') :
    Calls Try.prog 22 #[.int .i64 n, .agg #[.int .i64 c, .int .i64 i], .agg #[.int .i64 c, .int .i64 i], .func (.func k) #[] caps] w fun e w' => e = .returned (.bool true) ∧ Below w.heap.size w w' := by
  have hB0 : Below w.heap.size w ((w.alloc (.cells #[.int .i64 c, .int .i64 i] 27)).alloc (.cells #[.int .i64 c, .int .i64 i] 27)) := (balloc w _).alloc (by simp) _
  have N1 : Blk ((w.alloc (.cells #[.int .i64 c, .int .i64 i] 27)).alloc (.cells #[.int .i64 c, .int .i64 i] 27)) w.heap.size 27 [.int .i64 c, .int .i64 i] := (blk0 _ _).alloc _
  have N2 : Blk ((w.alloc (.cells #[.int .i64 c, .int .i64 i] 27)).alloc (.cells #[.int .i64 c, .int .i64 i] 27)) (w.heap.size + 1) 27 [.int .i64 c, .int .i64 i] := by
    have : Blk ((w.alloc (.cells #[.int .i64 c, .int .i64 i] 27)).alloc (.cells #[.int .i64 c, .int .i64 i] 27)) (w.alloc (.cells #[.int .i64 c, .int .i64 i] 27)).heap.size 27 [.int .i64 c, .int .i64 i] := blk0 _ _
    rw [World.size_alloc] at this; exact this
  obtain ⟨hc0, hc1, hf0, hf1⟩ := N1.two
  obtain ⟨hd0, hd1, hg0, hg1⟩ := N2.two
  subst hn
  by_cases hc : c = 0
  · subst hc
    rw [okI_zero]
    have HCL := hide (hcl _ hB0 rfl)
    go_enter Try.func22, Try.ntmps22
    go_wp2_with fail
    refine HCL.out.mono ?_
    rintro e w1 ⟨rfl, hb1⟩
    have hB1 := bcat hB0 hb1 (by simp; omega)
    go_wp2
    go_ret
    exact ⟨retB (by simp), hB1⟩
  · have hbe : (c != 0) = true := by simpa using hc
    rw [show okI c x = 0 from if_neg hc]
    go_enter Try.func22, Try.ntmps22
    go_wp2
    go_ret
    exact ⟨rfl, hB0⟩

/-- What is wrong with a table, and then with numbers as its things, the first one first. -/
def tfl (N : Int) (zs l : List Int) : Int × Int :=
  if (gfault N zs).1 ≠ 0 then gfault N zs
  else if least l.length (fun i => decide (l[i]?.getD 0 < 0 ∨ N ≤ l[i]?.getD 0)) ≠ -1 then (3, least l.length (fun i => decide (l[i]?.getD 0 < 0 ∨ N ≤ l[i]?.getD 0)) + 1) else (0, 0)
theorem tfl_one (N : Int) (zs : List Int) (a : Int) : tfl N zs [a] = tfault N zs a := by
  unfold tfl tfault
  by_cases h1 : (gfault N zs).1 ≠ 0
  · rw [if_pos h1, if_pos h1]
  · rw [if_neg h1, if_neg h1]
    by_cases h2 : 0 ≤ a ∧ a < N
    · rw [if_pos h2, if_neg]
      rw [Decidable.not_not, least_neg]
      intro t ht
      have : t = 0 := by simpa using ht
      subst this
      simp; omega
    · rw [if_neg h2]
      have : least [a].length (fun i => decide ([a][i]?.getD 0 < 0 ∨ N ≤ [a][i]?.getD 0)) = ((0 : Nat) : Int) := least_at (by simp) (by simp; omega) (fun t ht => by omega)
      rw [this]; simp

set_option maxRecDepth 100000 in
set_option maxHeartbeats 4000000 in
theorem thingFault_any (N : Int) (v u : Value) (zs l : List Int) (w : World) (hv : Sl w v zs) (hu : Sl w u l) (hl : l.length ≤ 1000000) :
    Calls Try.prog 25 #[.agg #[.int .i64 N, v], u] w fun x w' => x = .returned (.agg #[.int .i64 (tfl N zs l).1, .int .i64 (tfl N zs l).2]) ∧ Below w.heap.size w w' := by
  obtain ⟨w0, BG⟩ := Beg.new w N v
  have hv0 := hv.below BG.bel
  have hu0 := hu.below BG.bel
  obtain ⟨g0, g1, _, _⟩ := BG.box.two
  have c0 := g0
  have c1 := g1
  have hck := groupFault_any N v zs w0 hv0
  unfold tfl
  obtain ⟨c, i, hci⟩ : ∃ c i, gfault N zs = (c, i) := ⟨_, _, rfl⟩
  rw [hci] at hck ⊢
  have HCK := hide hck
  have HCI := hide hci
  clear hck hci
  obtain ⟨a, cap, pb, po, rfl, hr, hp, hq3, hq4⟩ := id hu
  rw [BG.eq] at c0 c1
  by_cases hc : c = 0
  · subst hc
    obtain ⟨n, e, rfl, hgr, hgz⟩ := gfault_grp (N := N) (zs := zs) (by rw [HCI.out])
    obtain rfl : i = 0 := by have := congrArg Prod.snd (HCI.out.symm.trans hgz); exact this
    rw [if_neg (by simp)]
    clear hgr hgz HCI
    obtain ⟨⟨rc, ri⟩, hre⟩ : ∃ r, (if least l.length (fun i => decide (l[i]?.getD 0 < 0 ∨ (n : Int) ≤ l[i]?.getD 0)) ≠ -1 then ((3 : Int), least l.length (fun i => decide (l[i]?.getD 0 < 0 ∨ (n : Int) ≤ l[i]?.getD 0)) + 1) else ((0 : Int), (0 : Int))) = r := ⟨_, rfl⟩
    rw [hre]
    have HRE := hide hre
    clear hre
    go_enter Try.func25, Try.ntmps25
    go_wp2_with fail
    rw [← BG.eq]
    refine HCK.out.mono ?_
    rintro x w1 ⟨rfl, hb1⟩
    clear c0 c1
    have hF1 : Blk (w1.alloc (.cells #[.int .i64 0, .int .i64 0] 27)) w1.heap.size 27 [.int .i64 0, .int .i64 0] := blk0 _ _
    have hr1 : Reads w1 a pb po l := (hr.below BG.bel hp).below hb1 (by have := BG.bel.size; omega)
    have hp1 : pb < w1.heap.size := by have := BG.bel.size; have := hb1.size; omega
    have hs1 : w.heap.size + 1 < w1.heap.size := (blk_below BG.res hb1).lt
    have k0 := below_cell hb1 g0
    have k1 := below_cell hb1 g1
    have hA := balloc w1 (.cells #[.int .i64 0, .int .i64 0] 27)
    go_wp2
    generalize hw2 : w1.alloc (.cells #[.int .i64 0, .int .i64 0] 27) = w2 at *
    clear hw2
    go_loopw [6] (fun i wr => ∃ k : Nat, k ≤ l.length ∧ i = .int .i64 k ∧ Below w1.heap.size w1 wr ∧
        ((Blk wr w1.heap.size 27 [.int .i64 0, .int .i64 0] ∧ ∀ t, t < k → ¬ (l[t]?.getD 0 < 0 ∨ (n : Int) ≤ l[t]?.getD 0)) ∨
          ∃ j : Nat, k = j + 1 ∧ Blk wr w1.heap.size 27 [.int .i64 3, .int .i64 (j + 1)] ∧ (l[j]?.getD 0 < 0 ∨ (n : Int) ≤ l[j]?.getD 0) ∧ ∀ t, t < j → ¬ (l[t]?.getD 0 < 0 ∨ (n : Int) ≤ l[t]?.getD 0)))
      (fun i _ => l.length - (intOf i).toNat)
    case atStart => exact ⟨0, Nat.zero_le _, rfl, hA, .inl ⟨hF1, fun t ht => by omega⟩⟩
    case round =>
      obtain ⟨k, hk, rfl, hB, hcase⟩ := hrel
      have m0 := below_cell hB k0
      rcases hcase with ⟨hF, hno⟩ | ⟨j, hkj, hF, hbad, hno⟩
      · have HN := hide hno
        clear hno
        obtain ⟨y0, y1, fy0, fy1⟩ := hF.two
        by_cases hlt : k < l.length
        · have hcy := hr1.cell k hlt
          obtain rfl := hr1.at_ (by omega)
          obtain ⟨y, hy⟩ : ∃ y, l[k]?.getD 0 = y := ⟨_, rfl⟩
          rw [hy] at hcy
          have hcy := below_cell hB hcy
          have HY := hide hy
          have hii : (k : Int) < (l.length : Int) := by omega
          clear hy
          by_cases hy0 : y < 0
          · have hyd : decide (y < 0) = true := decide_eq_true hy0
            go_wp2_with fail
            go_quiet (fail)
            go_wp2_with fail
            refine (f_any 3 ((k : Int) + 1) _).mono ?_
            rintro e w5 ⟨rfl, hb5⟩
            have hF5 : Blk w5 w1.heap.size 27 [.int .i64 0, .int .i64 0] := blk_below (show Blk (wr.drewN nq) w1.heap.size 27 [.int .i64 0, .int .i64 0] from hF) hb5
            have hB5 := bcat2 (bdrewN hB nq) hb5
            obtain ⟨q0, q1, fq0, fq1⟩ := hF5.two
            obtain ⟨hF6, hB6⟩ := put2 hF5 hB5 (Nat.le_refl _) 3 ((k : Int) + 1)
            clear y0 y1 fy0 fy1 hcy m0
            go_wp2
            go_roundw
            case rel => exact ⟨k + 1, by omega, by go_num, hB6, .inr ⟨k, rfl, hF6, .inl (by rw [HY.out]; exact hy0), HN.out⟩⟩
            case measure => simp [intOf]; omega
          · have hyd : decide (y < 0) = false := decide_eq_false hy0
            by_cases hy1 : (n : Int) ≤ y
            · have hye : decide ((n : Int) ≤ y) = true := decide_eq_true hy1
              go_wp2_with fail
              go_quiet (fail)
              go_wp2_with fail
              refine (f_any 3 ((k : Int) + 1) _).mono ?_
              rintro e w5 ⟨rfl, hb5⟩
              have hF5 : Blk w5 w1.heap.size 27 [.int .i64 0, .int .i64 0] := blk_below (show Blk (wr.drewN nq) w1.heap.size 27 [.int .i64 0, .int .i64 0] from hF) hb5
              have hB5 := bcat2 (bdrewN hB nq) hb5
              obtain ⟨q0, q1, fq0, fq1⟩ := hF5.two
              obtain ⟨hF6, hB6⟩ := put2 hF5 hB5 (Nat.le_refl _) 3 ((k : Int) + 1)
              clear y0 y1 fy0 fy1 hcy m0
              go_wp2
              go_roundw
              case rel => exact ⟨k + 1, by omega, by go_num, hB6, .inr ⟨k, rfl, hF6, .inr (by rw [HY.out]; exact hy1), HN.out⟩⟩
              case measure => simp [intOf]; omega
            · have hye : decide ((n : Int) ≤ y) = false := decide_eq_false hy1
              go_wp2_with fail
              go_quiet (fail)
              go_wp2
              go_roundw
              case rel => exact ⟨k + 1, by omega, by go_num, bdrewN hB _, .inl ⟨hF, fun t ht => by
                by_cases e : t = k
                · rw [e, HY.out]; omega
                · exact HN.out t (by omega)⟩⟩
              case measure => simp [intOf]; omega
        · have hkl : k = l.length := by omega
          subst hkl
          have hR9 := blk_below (blk_below BG.res hb1) hB
          have hBw := bcat BG.bel (bcat2 hb1 hB) BG.bel.size
          obtain ⟨_, z0, z1, fz0, fz1, s0, s1⟩ := Two.mk' hR9
          have h9 := HRE.out
          rw [least_none (fun t ht => decide_eq_false (HN.out t ht)), if_neg (by simp)] at h9
          obtain ⟨rfl, rfl⟩ := Prod.mk.inj h9
          clear h9 HRE
          go_wp2
          exact bodyPost_ret (v := .agg #[.int .i64 0, .int .i64 0]) (by simp [results, Try.results25, go_sem, z0, z1]) rfl ⟨rfl, hBw⟩
      · have hjl : j < l.length := by omega
        have HLE := hide (show least l.length (fun i => decide (l[i]?.getD 0 < 0 ∨ (n : Int) ≤ l[i]?.getD 0)) = (j : Int) from least_at hjl (decide_eq_true hbad) (fun t ht => decide_eq_false (hno t ht)))
        clear hno hbad
        have h9 := HRE.out
        rw [HLE.out, if_pos (by omega)] at h9
        obtain ⟨rfl, rfl⟩ := Prod.mk.inj h9
        clear h9 HRE HLE
        obtain ⟨y0, y1, fy0, fy1⟩ := hF.two
        by_cases hlt : k < l.length
        · have hR9 := blk_below (blk_below BG.res hb1) hB
          have hBw := bcat BG.bel (bcat2 hb1 hB) BG.bel.size
          obtain ⟨z0, z1, fz0, fz1⟩ := hR9.two
          obtain ⟨hR8, hB8⟩ := put2 hR9 hBw (by omega) 3 ((j : Int) + 1)
          go_wp2
          generalize (wr.setCell ⟨w.heap.size + 1, 0, none⟩ (.int .i64 3)).setCell ⟨w.heap.size + 1, 1, none⟩ (.int .i64 ((j : Int) + 1)) = W at hR8 hB8 ⊢
          obtain ⟨x0, x1, _, _⟩ := hR8.two
          exact bodyPost_ret (v := .agg #[.int .i64 3, .int .i64 ((j : Int) + 1)]) (by simp [results, Try.results25, go_sem, x0, x1]) rfl ⟨rfl, hB8⟩
        · have hR9 := blk_below (blk_below BG.res hb1) hB
          have hBw := bcat BG.bel (bcat2 hb1 hB) BG.bel.size
          obtain ⟨z0, z1, fz0, fz1⟩ := hR9.two
          obtain ⟨hR8, hB8⟩ := put2 hR9 hBw (by omega) 3 ((j : Int) + 1)
          go_wp2
          generalize (wr.setCell ⟨w.heap.size + 1, 0, none⟩ (.int .i64 3)).setCell ⟨w.heap.size + 1, 1, none⟩ (.int .i64 ((j : Int) + 1)) = W at hR8 hB8 ⊢
          obtain ⟨x0, x1, _, _⟩ := hR8.two
          exact bodyPost_ret (v := .agg #[.int .i64 3, .int .i64 ((j : Int) + 1)]) (by simp [results, Try.results25, go_sem, x0, x1]) rfl ⟨rfl, hB8⟩
  · rw [if_pos hc]
    have hcb : (c == 0) = false := by simpa using hc
    clear HCI
    go_enter Try.func25, Try.ntmps25
    go_wp2_with fail
    rw [← BG.eq]
    refine HCK.out.mono ?_
    rintro x w1 ⟨rfl, hb1⟩
    clear c0 c1
    have hF1 : Blk (w1.alloc (.cells #[.int .i64 c, .int .i64 i] 27)) w1.heap.size 27 [.int .i64 c, .int .i64 i] := blk0 _ _
    have hB1 := bcat2 hb1 (balloc w1 (.cells #[.int .i64 c, .int .i64 i] 27))
    have hR1 := blk_below BG.res hB1
    have hBw := bcat BG.bel hB1 BG.bel.size
    obtain ⟨t0, t1, _, _⟩ := hF1.two
    obtain ⟨z0, z1, fz0, fz1⟩ := hR1.two
    obtain ⟨hR8, hB8⟩ := put2 hR1 hBw (by omega) c i
    go_wp2
    generalize w1.alloc (.cells #[.int .i64 c, .int .i64 i] 27) = w2 at *
    go_loopw [6] (fun i wr => i = .int .i64 0 ∧ wr = w2) (fun _ _ => 0)
    case atStart => exact ⟨rfl, rfl⟩
    case round =>
      obtain ⟨rfl, rfl⟩ := hrel
      by_cases hlt : 0 < l.length
      · have hii : (0 : Int) < (l.length : Int) := by omega
        go_wp2
        generalize (wr.setCell ⟨w.heap.size + 1, 0, none⟩ (.int .i64 c)).setCell ⟨w.heap.size + 1, 1, none⟩ (.int .i64 i) = W at hR8 hB8 ⊢
        obtain ⟨x0, x1, _, _⟩ := hR8.two
        exact bodyPost_ret (v := .agg #[.int .i64 c, .int .i64 i]) (by simp [results, Try.results25, go_sem, x0, x1]) rfl ⟨rfl, hB8⟩
      · have hii : ¬ (0 : Int) < (l.length : Int) := by omega
        go_wp2
        generalize (wr.setCell ⟨w.heap.size + 1, 0, none⟩ (.int .i64 c)).setCell ⟨w.heap.size + 1, 1, none⟩ (.int .i64 i) = W at hR8 hB8 ⊢
        obtain ⟨x0, x1, _, _⟩ := hR8.two
        exact bodyPost_ret (v := .agg #[.int .i64 c, .int .i64 i]) (by simp [results, Try.results25, go_sem, x0, x1]) rfl ⟨rfl, hB8⟩
end Go.Proofs.Ytpcgacelljbkdaa
