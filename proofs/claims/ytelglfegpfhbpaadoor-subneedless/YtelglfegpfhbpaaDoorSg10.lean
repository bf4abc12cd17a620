/- What package sub's Frattini answers. -/
import Derived.Test.YtelglfegpfhbpaaDoorSg9
import Derived.Test.YtelglfegpfhbpaaDoorSg7
namespace Go.Proofs.YtelglfegpfhbpaaDoor
open Go Go.RowKit

/-- The greatest of the sets that are not all. -/
def grtA (n : Nat) (P : List (Nat → Bool)) : List Nat := grt (prop (bits n P) (bs (fun _ => true) n)) (prop (bits n P) (bs (fun _ => true) n)).length
theorem grtA_bs {n : Nat} {P : List (Nat → Bool)} {s : Nat} (h : s ∈ grtA n P) : ∃ p, p ∈ P ∧ s = bs p n := by
  unfold grtA grt at h
  have h1 := List.mem_of_mem_take (List.mem_filter.1 h).1
  unfold prop bits at h1
  obtain ⟨p, hp, rfl⟩ := List.mem_map.1 (List.mem_filter.1 h1).1
  exact ⟨p, hp, rfl⟩
set_option maxRecDepth 100000 in
set_option maxHeartbeats 4000000 in
theorem frat_bad (N c i : Int) (v : Value) (w : World) (HCK : Hid (∀ W, Below w.heap.size w W → Calls Tryd.prog 73 #[.agg #[.int .i64 N, v]] W fun x W' => x = .returned (.tuple #[.agg #[.int .i64 0, .slice none 0 0, .int .i64 0, .slice none 0 0], .agg #[.int .i64 c, .int .i64 i]]) ∧ Below W.heap.size W W')) (hc : c ≠ 0) :
    Calls Tryd.prog 17 #[.agg #[.int .i64 N, v]] w fun x w' => x = .returned (.tuple #[.slice none 0 0, .agg #[.int .i64 c, .int .i64 i]]) ∧ Below w.heap.size w w' := by
  obtain ⟨w0, BG⟩ := Beg.new w N v
  obtain ⟨c0, c1, _, _⟩ := BG.box.two
  have hcb : (c != 0) = true := by simpa using hc
  rw [BG.eq] at c0 c1
  go_enter Tryd.func17, Tryd.ntmps17
  go_wp2_with fail
  rw [← BG.eq]
  refine (HCK.out w0 BG.bel).mono ?_
  rintro x w1 ⟨rfl, hb1⟩
  clear c0 c1
  obtain ⟨w2, hw2⟩ : ∃ w2, w2 = (w1.alloc (.cells #[.int .i64 0, .slice none 0 0, .int .i64 0, .slice none 0 0] 76)).alloc (.cells #[.int .i64 c, .int .i64 i] 27) := ⟨_, rfl⟩
  have hB1 : Below w0.heap.size w0 w2 := by rw [hw2]; exact bcat2 hb1 ((balloc w1 _).alloc (by simp) _)
  have hF1 : Blk w2 (w1.heap.size + 1) 27 [.int .i64 c, .int .i64 i] := by
    rw [hw2]
    have := blk0 (w := w1.alloc (.cells #[.int .i64 0, .slice none 0 0, .int .i64 0, .slice none 0 0] 76)) (T := 27) (.int .i64 c) (.int .i64 i)
    rwa [World.size_alloc] at this
  have hR1 := blk_below BG.res hB1
  have hBw := bcat BG.bel hB1 BG.bel.size
  obtain ⟨y0, y1, fy0, fy1⟩ := hR1.two
  obtain ⟨t0, t1, _, _⟩ := hF1.two
  rw [hw2] at t0 t1
  go_wp2_with fail
  rw [← hw2]
  rw [← hw2] at t0 t1
  clear hw2
  go_region
  all_goals (
    go_wp2
    obtain ⟨hR6, hB6⟩ := put2 hR1 hBw (by omega) c i
    have hB7 := bdrew hB6
    have hR7 : Blk ((w2.setCell ⟨w.heap.size + 1, 0, none⟩ (.int .i64 c)).setCell ⟨w.heap.size + 1, 1, none⟩ (.int .i64 i)).drew (w.heap.size + 1) 27 [.int .i64 c, .int .i64 i] := hR6
    generalize ((w2.setCell ⟨w.heap.size + 1, 0, none⟩ (.int .i64 c)).setCell ⟨w.heap.size + 1, 1, none⟩ (.int .i64 i)).drew = W at hR7 hB7 ⊢
    obtain ⟨z0, z1, _, _⟩ := hR7.two
    exact bodyPost_ret (v := .tuple #[.slice none 0 0, .agg #[.int .i64 c, .int .i64 i]]) (by simp [results, Tryd.results17, go_sem, z0, z1]) rfl ⟨rfl, hB7⟩)

set_option maxRecDepth 100000 in
set_option maxHeartbeats 4000000 in
theorem frat_good (n e : Nat) (v : Value) (zs : List Int) (w : World) (hv : Sl w v zs) (hg : IsGrp n zs e) (hT : Tab w) (h24 : n ≤ 24) :
    Calls Tryd.prog 17 #[.agg #[.int .i64 n, v]] w fun x w' => ∃ (r : Value) (P : List (Nat → Bool)), x = .returned (.tuple #[r, .agg #[.int .i64 0, .int .i64 0]]) ∧ (∃ k, P.length ≤ k ∧ SInv n zs e P k 0) ∧ SlF w.heap.size w' r (li (lst n (fun x => (grtA n P).all fun s => s.testBit x))) ∧ Below w.heap.size w w' := by
  obtain ⟨va, vl, vc, rfl⟩ := hv.isSlice
  obtain ⟨w0, BG⟩ := Beg.new w n (.slice va vl vc)
  have hv0 := hv.below BG.bel
  obtain ⟨c0, c1, _, _⟩ := BG.box.two
  have HCK := hide (osml_good n e (.slice va vl vc) zs w0 hv0 hg h24)
  have HZ0 := hide (show w.heap.size + 2 ≤ w0.heap.size by rw [BG.eq]; simp)
  rw [BG.eq] at c0 c1
  go_enter Tryd.func17, Tryd.ntmps17
  go_wp2_with fail
  rw [← BG.eq]
  refine HCK.out.mono ?_
  rintro x w1 ⟨iv9, rfl, hSI, hb1⟩
  obtain ⟨ia, il, ic, rfl⟩ := hSI.sl.isSlice
  clear c0 c1 HCK
  obtain ⟨w2, hw2⟩ : ∃ w2, w2 = (w1.alloc (.cells #[.int .i64 n, (.slice va vl vc), .int .i64 e, (.slice ia il ic)] 76)).alloc (.cells #[.int .i64 0, .int .i64 0] 27) := ⟨_, rfl⟩
  have hb2 : Below w1.heap.size w1 w2 := by rw [hw2]; exact (balloc w1 _).alloc (by simp) _
  have hB1 : Below w0.heap.size w0 w2 := bcat2 hb1 hb2
  have hF1 : Blk w2 (w1.heap.size + 1) 27 [.int .i64 0, .int .i64 0] := by
    rw [hw2]
    have := blk0 (w := w1.alloc (.cells #[.int .i64 n, (.slice va vl vc), .int .i64 e, (.slice ia il ic)] 76)) (T := 27) (.int .i64 0) (.int .i64 0)
    rwa [World.size_alloc] at this
  have hH2 : Blk w2 w1.heap.size 76 [.int .i64 n, (.slice va vl vc), .int .i64 e, (.slice ia il ic)] := by
    rw [hw2]; exact (blk4 _ _ _ _).alloc _
  have hBw2 := bcat BG.bel hB1 BG.bel.size
  have hR2 := blk_below BG.res hB1
  have hT2 := hT.below hBw2
  have hGA2 : GA w2 n (.slice va vl vc) e (.slice ia il ic) zs := ⟨hg, hv.below hBw2, (hSI.below hb2).sl⟩
  obtain ⟨t0, t1, _, _⟩ := hF1.two
  obtain ⟨_, h0, h1, h2, h3, _⟩ := Four.mk' hH2
  have hx2 := blk_below BG.box hB1
  have HZ1 := hide (Nat.le_trans HZ0.out hb1.size)
  have HZ2 := hide hb2.size
  rw [hw2] at t0 t1 h0 h1 h2 h3
  go_wp2_with fail
  rw [← hw2]
  rw [← hw2] at t0 t1 h0 h1 h2 h3
  clear hw2 t0 t1
  refine (all_ok n (.slice va vl vc) (.slice ia il ic) e w2 hg.tab.le).mono ?_
  rintro x w3 ⟨rfl, hb3⟩
  have c0 := below_cell hb3 h0
  have c1 := below_cell hb3 h1
  have c2 := below_cell hb3 h2
  have c3 := below_cell hb3 h3
  have hB3 := bcat2 hBw2 hb3
  go_wp2_with fail
  clear c0 c1 c2 c3
  refine (greatest_ok n e (.slice va vl vc) (.slice ia il ic) zs w3 (hGA2.below hb3) (hT.below hB3) h24).mono ?_
  rintro x w4 ⟨r4, P, rfl, hS4, hI4, hb4⟩
  have hB4 := bcat2 hB3 hb4
  have hR4 := blk_below hR2 (bcat2 hb3 hb4)
  have HG := hide (fun s (h : s ∈ grtA n P) => grtA_bs h)
  have hS4 : SlU w4 r4 (grtA n P) := hS4
  have HI4 := hide hI4
  have HT4 := hide (hT.below hB4)
  have HR4 := hide hR4
  generalize hgs : grtA n P = gs at *
  have HGS := hide hgs
  clear hgs hI4 hR4 h0 h1 h2 h3
  obtain ⟨ya, ycap, yb, yo, rfl, y1, y2, y3, y4, y5⟩ := hS4
  have hyl : gs.length ≤ 9223372036854775807 := by unfold maxLen at y5; omega
  have HY1 := hide y1
  have HY2 := hide y2
  clear y1 y2 y5
  have hn := hg.tab.le
  have HA0 := hide (show bs (fun _ => true) n = bs (fun x => (gs.take 0).all fun s => s.testBit x) n by simp)
  rw [HA0.out]
  go_wp2
  go_loopw [6, 23] (fun c i wr => ∃ k : Nat, k ≤ gs.length ∧ i = .int .i64 k ∧ c = .int .u64 (bs (fun x => (gs.take k).all fun s => s.testBit x) n : Nat) ∧ wr = w4) (fun _ i _ => gs.length - (intOf i).toNat)
  case atStart => exact ⟨0, Nat.zero_le _, rfl, rfl, rfl⟩
  case round =>
    obtain ⟨k, hk, rfl, rfl, hwr⟩ := hrel
    rw [hwr]
    clear hwr
    by_cases hlt : k < gs.length
    · have hki : (k : Int) < (gs.length : Int) := by omega
      obtain rfl := HY1.out (by omega)
      have cy := HY2.out k hlt
      rw [List.getElem?_eq_getElem hlt, Option.getD_some] at cy
      obtain ⟨p, hp, hse⟩ := HG.out gs[k] (List.getElem_mem hlt)
      rw [hse] at cy
      have hand := and_bs (fun x => (gs.take k).all fun s => s.testBit x) p hn
      have HE := hide (show bs (fun x => ((gs.take k).all fun s => s.testBit x) && p x) n = bs (fun x => (gs.take (k + 1)).all fun s => s.testBit x) n from bs_ext fun x hx => by
        rw [List.take_succ_eq_append_getElem hlt, List.all_append]
        simp [hse, bs_bit, hx])
      generalize bs (fun x => ((gs.take k).all fun s => s.testBit x) && p x) n = Z9 at *
      generalize bs (fun x => (gs.take k).all fun s => s.testBit x) n = X9 at *
      generalize bs p n = Y9 at *
      clear hse
      go_wp2
      go_roundw
      case rel => exact ⟨k + 1, by omega, by go_num, by rw [HE.out], trivial⟩
      case measure => simp [intOf]; omega
    · have hki : ¬ (k : Int) < (gs.length : Int) := by omega
      have hgt : gs.take k = gs := List.take_of_length_le (by omega)
      rw [hgt]
      clear hgt
      have HL := hide (list_at n w.heap.size (fun x => gs.all fun s => s.testBit x) w4 hn HT4.out hB4.size)
      generalize bs (fun x => gs.all fun s => s.testBit x) n = C9 at *
      obtain ⟨_, y0, y1, fy0, fy1, s0, s1⟩ := Two.mk' HR4.out
      clear y0 y1 fy0 fy1 s0 s1
      go_wp2_with fail
      refine HL.out.mono ?_
      rintro x w5 ⟨r5, rfl, hr5, hb5⟩
      obtain ⟨_, y0, y1, fy0, fy1, s0, s1⟩ := Two.mk' (blk_below HR4.out hb5)
      have hB5 := bcat2 hB4 hb5
      go_wp2
      exact bodyPost_ret (v := .tuple #[r5, .agg #[.int .i64 0, .int .i64 0]]) (by simp [results, Tryd.results17, go_sem, y0, y1]) rfl ⟨_, P, rfl, HI4.out, by rw [HGS.out]; exact hr5, hB5⟩
end Go.Proofs.YtelglfegpfhbpaaDoor
