/- What package sub's All answers. -/
import Derived.Test.YtelglfegpfhbpaaDoorSt6
import Derived.Test.YtelglfegpfhbpaaDoorSg3
import Derived.Test.YtelglfegpfhbpaaDoorSg4
import Derived.Test.YtelglfegpfhbpaaDoorSg7
import Derived.Test.YtelglfegpfhbpaaDoorCen
import Derived.Maps.AppendAt
namespace Go.Proofs.YtelglfegpfhbpaaDoor
open Go Go.RowKit

theorem own_slice' {w : World} {base n : Nat} {e : TypeId} {v : Value} {xs : List Value} (h : w.ownsRow base e 1 v n xs) : ∃ a cap, v = .slice a n cap := by
  rcases h.2 with ⟨rfl, rfl⟩ | ⟨g, cap, cur, rfl, _⟩
  · exact ⟨none, 0, rfl⟩
  · exact ⟨_, cap, rfl⟩
theorem und25b : Tryd.prog.underlying 25 = some (.slice 22) := by kernel_rfl
theorem info22b : (Tryd.prog.info? 22).map (fun i => (i.zero, i.size, i.bytes)) = some (some (.slice none 0 0), 1, 24) := by kernel_rfl
set_option maxRecDepth 100000 in
set_option maxHeartbeats 4000000 in
theorem all_bad (N c i : Int) (v : Value) (w : World) (HCK : Hid (∀ W, Below w.heap.size w W → Calls Tryd.prog 73 #[.agg #[.int .i64 N, v]] W fun x W' => x = .returned (.tuple #[.agg #[.int .i64 0, .slice none 0 0, .int .i64 0, .slice none 0 0], .agg #[.int .i64 c, .int .i64 i]]) ∧ Below W.heap.size W W')) (hc : c ≠ 0) :
    Calls Tryd.prog 15 #[.agg #[.int .i64 N, v]] w fun x w' => x = .returned (.tuple #[.slice none 0 0, .agg #[.int .i64 c, .int .i64 i]]) ∧ Below w.heap.size w w' := by
  obtain ⟨w0, BG⟩ := Beg.new w N v
  obtain ⟨c0, c1, _, _⟩ := BG.box.two
  have hcb : (c != 0) = true := by simpa using hc
  rw [BG.eq] at c0 c1
  go_enter Tryd.func15, Tryd.ntmps15
  go_wp2_with fail
  rw [← BG.eq]
  refine (HCK.out w0 BG.bel).mono ?_
  rintro x w1 ⟨rfl, hb1⟩
  clear c0 c1
  obtain ⟨w2, hw2⟩ : ∃ w2, w2 = (w1.alloc (.cells #[.int .i64 0, .slice none 0 0, .int .i64 0, .slice none 0 0] 76)).alloc (.cells #[.int .i64 c, .int .i64 i] 27) := ⟨_, rfl⟩
  have hB1 : Below w0.heap.size w0 w2 := by rw [hw2]; exact bcat2 hb1 ((balloc w1 _).alloc (by simp) _)
  have hF1 : Blk w2 (w1.heap.size + 1) 27 [.int .i64 c, .int .i64 i] := by
    rw [hw2]
    have := blk0 (w := w1.alloc (.cells #[.int .i64 0, .slice none 0 0, .int .i64 0, .slice none 0 0] 76)) (T := 27) (.int .i64 c) (.int .i64 i)
    rwa [World.size_alloc] at this
  have hR1 := blk_below BG.res hB1
  have hBw := bcat BG.bel hB1 BG.bel.size
  obtain ⟨y0, y1, fy0, fy1⟩ := hR1.two
  obtain ⟨t0, t1, _, _⟩ := hF1.two
  rw [hw2] at t0 t1
  go_wp2_with fail
  rw [← hw2]
  rw [← hw2] at t0 t1
  clear hw2
  go_region
  all_goals (
    go_wp2
    obtain ⟨hR6, hB6⟩ := put2 hR1 hBw (by omega) c i
    have hB7 := bdrew hB6
    have hR7 : Blk ((w2.setCell ⟨w.heap.size + 1, 0, none⟩ (.int .i64 c)).setCell ⟨w.heap.size + 1, 1, none⟩ (.int .i64 i)).drew (w.heap.size + 1) 27 [.int .i64 c, .int .i64 i] := hR6
    generalize ((w2.setCell ⟨w.heap.size + 1, 0, none⟩ (.int .i64 c)).setCell ⟨w.heap.size + 1, 1, none⟩ (.int .i64 i)).drew = W at hR7 hB7 ⊢
    obtain ⟨z0, z1, _, _⟩ := hR7.two
    exact bodyPost_ret (v := .tuple #[.slice none 0 0, .agg #[.int .i64 c, .int .i64 i]]) (by simp [results, Tryd.results15, go_sem, z0, z1]) rfl ⟨rfl, hB7⟩)

set_option maxRecDepth 100000 in
set_option maxHeartbeats 4000000 in
theorem all_good (n e : Nat) (v : Value) (zs : List Int) (w : World) (hv : Sl w v zs) (hg : IsGrp n zs e) (hT : Tab w) (h24 : n ≤ 24) :
    Calls Tryd.prog 15 #[.agg #[.int .i64 n, v]] w fun x w' => ∃ (r1 : Option Addr) (r2 r3 : Nat) (P : List (Nat → Bool)) (ms : List (List Int)), x = .returned (.tuple #[.slice r1 r2 r3, .agg #[.int .i64 0, .int .i64 0]]) ∧ (∃ k, P.length ≤ k ∧ SInv n zs e P k 0) ∧ ms.Perm (P.map fun p => li (lst n p)) ∧ srt ms ∧ (∀ W' : World, (∀ b, w.heap.size ≤ b → b < w'.heap.size → W'.heap[b]? = w'.heap[b]?) → w'.heap.size ≤ W'.heap.size → SlL W' (.slice r1 r2 r3) ms) ∧ Below w.heap.size w w' := by
  obtain ⟨va, vl, vc, rfl⟩ := hv.isSlice
  obtain ⟨w0, BG⟩ := Beg.new w n (.slice va vl vc)
  have hv0 := hv.below BG.bel
  obtain ⟨c0, c1, _, _⟩ := BG.box.two
  have HCK := hide (osml_good n e (.slice va vl vc) zs w0 hv0 hg h24)
  have HZ0 := hide (show w.heap.size + 2 ≤ w0.heap.size by rw [BG.eq]; simp)
  rw [BG.eq] at c0 c1
  go_enter Tryd.func15, Tryd.ntmps15
  go_wp2_with fail
  rw [← BG.eq]
  refine HCK.out.mono ?_
  rintro x w1 ⟨iv9, rfl, hSI, hb1⟩
  obtain ⟨ia, il, ic, rfl⟩ := hSI.sl.isSlice
  clear c0 c1 HCK
  obtain ⟨w2, hw2⟩ : ∃ w2, w2 = (w1.alloc (.cells #[.int .i64 n, (.slice va vl vc), .int .i64 e, (.slice ia il ic)] 76)).alloc (.cells #[.int .i64 0, .int .i64 0] 27) := ⟨_, rfl⟩
  have hb2 : Below w1.heap.size w1 w2 := by rw [hw2]; exact (balloc w1 _).alloc (by simp) _
  have hB1 : Below w0.heap.size w0 w2 := bcat2 hb1 hb2
  have hF1 : Blk w2 (w1.heap.size + 1) 27 [.int .i64 0, .int .i64 0] := by
    rw [hw2]
    have := blk0 (w := w1.alloc (.cells #[.int .i64 n, (.slice va vl vc), .int .i64 e, (.slice ia il ic)] 76)) (T := 27) (.int .i64 0) (.int .i64 0)
    rwa [World.size_alloc] at this
  have hH2 : Blk w2 w1.heap.size 76 [.int .i64 n, (.slice va vl vc), .int .i64 e, (.slice ia il ic)] := by
    rw [hw2]; exact (blk4 _ _ _ _).alloc _
  have hBw2 := bcat BG.bel hB1 BG.bel.size
  have hR2 := blk_below BG.res hB1
  have hT2 := hT.below hBw2
  have hGA2 : GA w2 n (.slice va vl vc) e (.slice ia il ic) zs := ⟨hg, hv.below hBw2, (hSI.below hb2).sl⟩
  obtain ⟨t0, t1, _, _⟩ := hF1.two
  obtain ⟨_, h0, h1, h2, h3, _⟩ := Four.mk' hH2
  have hx2 := blk_below BG.box hB1
  have HZ1 := hide (Nat.le_trans HZ0.out hb1.size)
  have HZ2 := hide hb2.size
  rw [hw2] at t0 t1 h0 h1 h2 h3
  go_wp2_with fail
  rw [← hw2]
  rw [← hw2] at t0 t1 h0 h1 h2 h3
  clear hw2 t0 t1
  refine (subgroups_ok n e (.slice va vl vc) (.slice ia il ic) zs w2 hGA2 hT2 h24).mono ?_
  rintro x w4 ⟨r4, P, rfl, hrow4, hI4, hb4⟩
  have hB4 := bcat2 hBw2 hb4
  have hR4 := blk_below hR2 hb4
  have h04 : 0 < w4.heap.size := Nat.lt_of_lt_of_le hT.lt hB4.size
  have hPl : P.length ≤ 16777216 := by
    obtain ⟨k, _, h⟩ := hI4
    exact h.len h24
  have hPp : 0 < P.length := by
    obtain ⟨k, _, h⟩ := hI4
    have := List.length_pos_of_mem h.one
    rwa [bits_len] at this
  obtain ⟨i0, hi, hz0, hz1, hz2⟩ := info_parts info22b
  have hS4 : SlU w4 r4 (bits n P) := SlU.of_own (by rw [bits_len]) hrow4 h04
  have HI4 := hide hI4
  have HT4 := hide (hT.below hB4)
  have HR4 := hide hR4
  have hn := hg.tab.le
  clear hI4 hR4 h0 h1 h2 h3 hrow4
  obtain ⟨ya, ycap, yb, yo, hr4, y1, y2, y3, y4, y5⟩ := hS4
  rw [bits_len] at hr4 y1 y2 y4
  subst hr4
  have HY1 := hide y1
  have HY2 := hide (fun j (hj : j < P.length) => show w4.cell? ⟨yb, yo + j, none⟩ = some (.int .u64 (bs P[j] n : Nat)) by
    rw [y2 j hj]; simp [bits, hj])
  clear y1 y2 y5
  go_wp2
  go_loopw [6, 21] (fun r i wr => ∃ (k : Nat) (vs : List Value), k ≤ P.length ∧ i = .int .i64 k ∧ wr.ownsRow w4.heap.size 22 1 r vs.length vs ∧ Lsts wr w4.heap.size r vs ((P.take k).map fun p => li (lst n p)) ∧ Below w4.heap.size w4 wr) (fun _ i _ => P.length - (intOf i).toNat)
  case atStart => exact ⟨0, [], Nat.zero_le _, rfl, World.ownsRow_nil _ _ _ _, ⟨by simp, fun t x l h1 _ => by simp at h1⟩, Below.refl _ _⟩
  case round =>
    obtain ⟨k, vs, hk, rfl, hrow, hls, hB⟩ := hrel
    have hvl1 : vs.length ≤ k := by rw [hls.1, List.length_map, List.length_take]; omega
    have hvl2 : k ≤ vs.length := by rw [hls.1, List.length_map, List.length_take]; omega
    obtain ⟨ra, rcap, rfl⟩ := own_slice' hrow
    by_cases hlt : k < P.length
    · have hki : (k : Int) < (P.length : Int) := by omega
      obtain rfl := HY1.out (by omega)
      have cy := below_cell hB (HY2.out k hlt)
      have hb9 := list_ok n P[k] wr hn (HT4.out.below hB)
      have HST := hide (show ((P.take (k + 1)).map fun p => li (lst n p)) = ((P.take k).map fun p => li (lst n p)) ++ [li (lst n P[k])] by
        rw [List.take_succ_eq_append_getElem hlt, List.map_append]; rfl)
      have HB9 := hide hb9
      clear hb9
      have hl60 : (li (lst n P[k])).length ≤ 60 := by rw [show (li (lst n P[k])).length = (lst n P[k]).length by simp [li]]; exact Nat.le_trans (lst_len _ _) hn
      generalize li (lst n P[k]) = lj at *
      generalize bs P[k] n = s9 at *
      go_wp2_with fail
      refine HB9.out.mono ?_
      rintro e3 w5 ⟨r9, rfl, hr9, hb5⟩
      have hB5 := bcat2 hB hb5
      have hrow5 := own_keep2 hrow (fun g _ h2 => hb5.block g h2)
      have hls5 : Lsts w5 w4.heap.size (.slice ra vs.length rcap) vs ((P.take k).map fun p => li (lst n p)) := hls.keep hb5.size (fun g _ h2 _ => hb5.block g h2) (.inl rfl)
      have hown2 : ∀ g, (Value.slice ra vs.length rcap).ownBlock = some g → g < wr.heap.size := fun g hg => by
        rcases hrow.2 with ⟨h1, _⟩ | ⟨g', cap, cur, h1, _, hh9, _⟩
        · rw [h1] at hg; simp [Value.ownBlock] at hg
        · rw [h1] at hg
          simp [Value.ownBlock] at hg
          subst hg
          exact (Array.getElem?_eq_some_iff.1 hh9).1
      obtain ⟨qa, qcap, qb, qo, rfl, hq, hq1, hq2, hq3, hq4⟩ := hr9
      have hs5 := hb5.size
      have hsB := hB.size
      have HQ := hide hq
      clear hrow hls hb5 hq
      go_wp2_with (first
        | (at_builtin; refine wpList_append_own_at _ rfl _ _ 25 rfl w4.heap.size 22 i0 (.slice none 0 0) 1 24 und25b hi hz0 hz1 hz2 rfl (by decide) _ _ _ rfl (World.ownsRow.alloc hrow5 _) ⟨w5.heap.size, 0, none⟩ 1 1 [.slice qa lj.length qcap] rfl rfl ?c1 ?c2 ?c3 ?c4 ?c5 ?_))
      case c1 => exact cell_one_new _ _ _
      case c2 => simp [Value.oneCell']
      case c3 => unfold maxLen; omega
      case c4 => omega
      case c5 => simp; omega
      intro v' w6 hown' hgrow hnil hloc
      obtain ⟨ra', rcap', rfl⟩ := own_slice' hown'
      have hB6 : Below w4.heap.size w4 w6 := (hB5.alloc hB5.size _).grown hgrow (by simp; omega) (fun t e => by have := owns_ge hrow5 t e; omega)
      have hbl : ∀ g, g < w5.heap.size → (Value.slice ra vs.length rcap).ownBlock ≠ some g → w6.heap[g]? = w5.heap[g]? := fun g h1 h2 => (hgrow.block g (by simp; omega) (fun e => h2 e.symm)).trans (Below.block (balloc w5 _) g h1)
      have hs6 : w5.heap.size < w6.heap.size := by have := hgrow.size; simp at this; omega
      have hlo : (Value.slice ra' (vs.length + 1) rcap').ownBlock = (Value.slice ra vs.length rcap).ownBlock ∨ ∀ g, (Value.slice ra' (vs.length + 1) rcap').ownBlock = some g → w5.heap.size ≤ g := by
        rcases hloc with h | h
        · exact .inl h
        · right; intro g hg; rw [h] at hg; simp at hg; omega
      have hls6 := (hls5.keep (r' := .slice ra' (vs.length + 1) rcap') (by omega) (fun g _ h2 h3 => hbl g h2 h3) hlo).snoc (x := .slice qa lj.length qcap) (l := lj) ⟨qa, qcap, qb, qo, rfl, HQ.out.of_eq (hbl qb hq1 (fun e => by have := hown2 _ e; omega)), by omega, hq2, hq3, by omega, fun g hg e => by
        subst e
        rcases hlo with h | h
        · have := hown2 _ (h ▸ hg); omega
        · have := h _ hg; omega⟩
      have hrow6 : w6.ownsRow w4.heap.size 22 1 (.slice ra' (vs.length + 1) rcap') (vs ++ [Value.slice qa lj.length qcap]).length (vs ++ [Value.slice qa lj.length qcap]) := by simpa using hown'
      clear hown' hgrow hloc hlo hbl hrow5 hls5 hB5
      go_wp2
      go_roundw
      case rel => exact ⟨k + 1, _, by omega, by go_num, hrow6, by rw [HST.out]; exact hls6, hB6⟩
      case measure => simp [intOf]; omega
    · have hki : ¬ (k : Int) < (P.length : Int) := by omega
      have hkP : P.take k = P := List.take_of_length_le (by omega)
      rw [hkP] at hls
      obtain ⟨g, rfl⟩ : ∃ g, ra = some ⟨g, 0, none⟩ := by
        rcases hrow.2 with ⟨h1, h2⟩ | ⟨g', cap, cur, h1, _⟩
        · omega
        · injection h1 with h1; exact ⟨g', h1⟩
      have HSO := hide (sort_ok w4.heap.size g rcap vs (P.map fun p => li (lst n p)) wr hrow hls (fun l hl => by
        obtain ⟨p, _, rfl⟩ := List.mem_map.1 hl
        rw [show (li (lst n p)).length = (lst n p).length by simp [li]]
        exact Nat.le_trans (lst_len _ _) hn) (by omega) (by omega))
      clear hkP hrow hls
      go_wp2_with fail
      refine HSO.out.mono ?_
      rintro x w7 ⟨rfl, hb7, ms, hpm, hsr, hsl⟩
      have hB7 := hB4.trans ((hB.trans hb7).mono hB4.size)
      have hR7 := (HR4.out).of_eq ((hB.trans hb7).block _ HR4.out.lt)
      obtain ⟨_, y0, y1, fy0, fy1, s0, s1⟩ := Two.mk' hR7
      have HSL := hide hsl
      have HSR := hide hsr
      have HPM := hide hpm
      have HB7 := hide hB7
      clear hsl hsr hpm hB7 hb7
      go_wp2
      exact bodyPost_ret (v := .tuple #[.slice (some ⟨g, 0, none⟩) vs.length rcap, .agg #[.int .i64 0, .int .i64 0]]) (by simp [results, Tryd.results15, go_sem, y0, y1]) rfl ⟨_, _, _, P, ms, rfl, HI4.out, HPM.out, HSR.out, fun W' h1 h2 => HSL.out W' (fun b h3 h4 => h1 b (Nat.le_trans hB4.size h3) h4) h2, HB7.out⟩
end Go.Proofs.YtelglfegpfhbpaaDoor
