/- What package sub's All answers. What package slices' DeleteFunc answers of sets. What package slices' DeleteFunc answers of sets. What package slices' IndexFunc and DeleteFunc answer of lists: the lists are numbered, and lie where the numbers say. Package prod: what Complements' closure and openedSmall answer. Condition: the library's table of places lies as its text lays it. What package sylow's Core answers: at what is wrong, and at a group and a prime: what is in all conjugates of one of Sylow's subgroups. Condition: the library's table of places lies as its text lays it. What package sylow's Cauchy answers: the list of all things that make as many as p. Condition: the library's table of places lies as its text lays it. Frobenius' theorem, its first half: primes, parts of a thing, and what is a multiple of the prime's power. No condition. Frobenius' theorem: centralisers, a quotient by what commutes with all, conjugates; how many things are, n times, the one. No condition. Frobenius' theorem: of a number that divides how many things a finite group has, so many things are, so many times, the one, as a multiple of it. No condition. What one thing makes has as many things as its order. No condition. A conjugate of a set is normal just where it is the only one; what is in all conjugates of a subgroup of a power of p things is a normal subgroup of such a kind. No condition. A group of a power of p things that moves things: what does not stay is a multiple of p; orbits and what stays. No condition. -/
import Derived.Test.YtgejngpioldhpaaGreatDoorZ4
import Derived.Test.YtgejngpioldhpaaGreatDoorZ9
import Derived.Test.YtgejngpioldhpaaGreatDoorZ3
import Derived.Maps.AppendAt
import Derived.Laws.OwnMore
import Derived.Lib.SliceRun
import Derived.Test.YtgejngpioldhpaaGreatDoorZ7
import Derived.Test.YtgejngpioldhpaaGreatDoorZ1
namespace Go.Proofs.YtgejngpioldhpaaGreatDoor
open Go Go.RowKit

theorem und25b : Tryz.prog.underlying 25 = some (.slice 22) := by kernel_rfl
set_option maxRecDepth 100000 in
set_option maxHeartbeats 4000000 in
theorem all_bad (N c i : Int) (v : Value) (w : World) (HCK : Hid (∀ W, Below w.heap.size w W → Calls Tryz.prog 68 #[.agg #[.int .i64 N, v]] W fun x W' => x = .returned (.tuple #[.agg #[.int .i64 0, .slice none 0 0, .int .i64 0, .slice none 0 0], .agg #[.int .i64 c, .int .i64 i]]) ∧ Below W.heap.size W W')) (hc : c ≠ 0) :
    Calls Tryz.prog 51 #[.agg #[.int .i64 N, v]] w fun x w' => x = .returned (.tuple #[.slice none 0 0, .agg #[.int .i64 c, .int .i64 i]]) ∧ Below w.heap.size w w' := by
  obtain ⟨w0, BG⟩ := Beg.new w N v
  obtain ⟨c0, c1, _, _⟩ := BG.box.two
  have hcb : (c != 0) = true := by simpa using hc
  rw [BG.eq] at c0 c1
  go_enter Tryz.func51, Tryz.ntmps51
  go_wp2_with fail
  rw [← BG.eq]
  refine (HCK.out w0 BG.bel).mono ?_
  rintro x w1 ⟨rfl, hb1⟩
  clear c0 c1
  obtain ⟨w2, hw2⟩ : ∃ w2, w2 = (w1.alloc (.cells #[.int .i64 0, .slice none 0 0, .int .i64 0, .slice none 0 0] 51)).alloc (.cells #[.int .i64 c, .int .i64 i] 27) := ⟨_, rfl⟩
  have hB1 : Below w0.heap.size w0 w2 := by rw [hw2]; exact bcat2 hb1 ((balloc w1 _).alloc (by simp) _)
  have hF1 : Blk w2 (w1.heap.size + 1) 27 [.int .i64 c, .int .i64 i] := by
    rw [hw2]
    have := blk0 (w := w1.alloc (.cells #[.int .i64 0, .slice none 0 0, .int .i64 0, .slice none 0 0] 51)) (T := 27) (.int .i64 c) (.int .i64 i)
    rwa [World.size_alloc] at this
  have hR1 := blk_below BG.res hB1
  have hBw := bcat BG.bel hB1 BG.bel.size
  obtain ⟨y0, y1, fy0, fy1⟩ := hR1.two
  obtain ⟨t0, t1, _, _⟩ := hF1.two
  rw [hw2] at t0 t1
  go_wp2_with fail
  rw [← hw2]
  rw [← hw2] at t0 t1
  clear hw2
  go_region
  all_goals (
    go_wp2
    obtain ⟨hR6, hB6⟩ := put2 hR1 hBw (by omega) c i
    have hB7 := bdrew hB6
    have hR7 : Blk ((w2.setCell ⟨w.heap.size + 1, 0, none⟩ (.int .i64 c)).setCell ⟨w.heap.size + 1, 1, none⟩ (.int .i64 i)).drew (w.heap.size + 1) 27 [.int .i64 c, .int .i64 i] := hR6
    generalize ((w2.setCell ⟨w.heap.size + 1, 0, none⟩ (.int .i64 c)).setCell ⟨w.heap.size + 1, 1, none⟩ (.int .i64 i)).drew = W at hR7 hB7 ⊢
    obtain ⟨z0, z1, _, _⟩ := hR7.two
    exact bodyPost_ret (v := .tuple #[.slice none 0 0, .agg #[.int .i64 c, .int .i64 i]]) (by simp [results, Tryz.results51, go_sem, z0, z1]) rfl ⟨rfl, hB7⟩)

set_option maxRecDepth 100000 in
set_option maxHeartbeats 4000000 in
theorem all_good (n e : Nat) (v : Value) (zs : List Int) (w : World) (hv : Sl w v zs) (hg : IsGrp n zs e) (hT : Tab w) (h24 : n ≤ 24) :
    Calls Tryz.prog 51 #[.agg #[.int .i64 n, v]] w fun x w' => ∃ (r1 : Option Addr) (r2 r3 : Nat) (P : List (Nat → Bool)) (ms : List (List Int)), x = .returned (.tuple #[.slice r1 r2 r3, .agg #[.int .i64 0, .int .i64 0]]) ∧ (∃ k, P.length ≤ k ∧ SInv n zs e P k 0) ∧ ms.Perm (P.map fun p => li (lst n p)) ∧ srt ms ∧ (∃ (B g : Nat) (us : List Value), w.heap.size ≤ B ∧ B ≤ w'.heap.size ∧ r1 = some ⟨g, 0, none⟩ ∧ us.length = r2 ∧ w'.ownsRow B 22 1 (.slice r1 r2 r3) us.length us ∧ Lsts w' B (.slice r1 r2 r3) us ms) ∧ Below w.heap.size w w' := by
  obtain ⟨va, vl, vc, rfl⟩ := hv.isSlice
  obtain ⟨w0, BG⟩ := Beg.new w n (.slice va vl vc)
  have hv0 := hv.below BG.bel
  obtain ⟨c0, c1, _, _⟩ := BG.box.two
  have HCK := hide (osml_good n e (.slice va vl vc) zs w0 hv0 hg h24)
  have HZ0 := hide (show w.heap.size + 2 ≤ w0.heap.size by rw [BG.eq]; simp)
  rw [BG.eq] at c0 c1
  go_enter Tryz.func51, Tryz.ntmps51
  go_wp2_with fail
  rw [← BG.eq]
  refine HCK.out.mono ?_
  rintro x w1 ⟨iv9, rfl, hSI, hb1⟩
  obtain ⟨ia, il, ic, rfl⟩ := hSI.sl.isSlice
  clear c0 c1 HCK
  obtain ⟨w2, hw2⟩ : ∃ w2, w2 = (w1.alloc (.cells #[.int .i64 n, (.slice va vl vc), .int .i64 e, (.slice ia il ic)] 51)).alloc (.cells #[.int .i64 0, .int .i64 0] 27) := ⟨_, rfl⟩
  have hb2 : Below w1.heap.size w1 w2 := by rw [hw2]; exact (balloc w1 _).alloc (by simp) _
  have hB1 : Below w0.heap.size w0 w2 := bcat2 hb1 hb2
  have hF1 : Blk w2 (w1.heap.size + 1) 27 [.int .i64 0, .int .i64 0] := by
    rw [hw2]
    have := blk0 (w := w1.alloc (.cells #[.int .i64 n, (.slice va vl vc), .int .i64 e, (.slice ia il ic)] 51)) (T := 27) (.int .i64 0) (.int .i64 0)
    rwa [World.size_alloc] at this
  have hH2 : Blk w2 w1.heap.size 51 [.int .i64 n, (.slice va vl vc), .int .i64 e, (.slice ia il ic)] := by
    rw [hw2]; exact (blk4 _ _ _ _).alloc _
  have hBw2 := bcat BG.bel hB1 BG.bel.size
  have hR2 := blk_below BG.res hB1
  have hT2 := hT.below hBw2
  have hGA2 : GA w2 n (.slice va vl vc) e (.slice ia il ic) zs := ⟨hg, hv.below hBw2, (hSI.below hb2).sl⟩
  obtain ⟨t0, t1, _, _⟩ := hF1.two
  obtain ⟨_, h0, h1, h2, h3, _⟩ := Four.mk' hH2
  have hx2 := blk_below BG.box hB1
  have HZ1 := hide (Nat.le_trans HZ0.out hb1.size)
  have HZ2 := hide hb2.size
  rw [hw2] at t0 t1 h0 h1 h2 h3
  go_wp2_with fail
  rw [← hw2]
  rw [← hw2] at t0 t1 h0 h1 h2 h3
  clear hw2 t0 t1
  refine (subgroups_ok n e (.slice va vl vc) (.slice ia il ic) zs w2 hGA2 hT2 h24).mono ?_
  rintro x w4 ⟨r4, P, rfl, hrow4, hI4, hb4⟩
  have hB4 := bcat2 hBw2 hb4
  have hR4 := blk_below hR2 hb4
  have h04 : 0 < w4.heap.size := Nat.lt_of_lt_of_le hT.lt hB4.size
  have hPl : P.length ≤ 16777216 := by
    obtain ⟨k, _, h⟩ := hI4
    exact h.len h24
  have hPp : 0 < P.length := by
    obtain ⟨k, _, h⟩ := hI4
    have := List.length_pos_of_mem h.one
    rwa [bits_len] at this
  obtain ⟨i0, hi, hz0, hz1, hz2⟩ := info_parts info22b
  have hS4 : SlU w4 r4 (bits n P) := SlU.of_own (by rw [bits_len]) hrow4 h04
  have HI4 := hide hI4
  have HT4 := hide (hT.below hB4)
  have HR4 := hide hR4
  have hn := hg.tab.le
  clear hI4 hR4 h0 h1 h2 h3 hrow4
  obtain ⟨ya, ycap, yb, yo, hr4, y1, y2, y3, y4, y5⟩ := hS4
  rw [bits_len] at hr4 y1 y2 y4
  subst hr4
  have HY1 := hide y1
  have HY2 := hide (fun j (hj : j < P.length) => show w4.cell? ⟨yb, yo + j, none⟩ = some (.int .u64 (bs P[j] n : Nat)) by
    rw [y2 j hj]; simp [bits, hj])
  clear y1 y2 y5
  go_wp2
  go_loopw [6, 21] (fun r i wr => ∃ (k : Nat) (vs : List Value), k ≤ P.length ∧ i = .int .i64 k ∧ wr.ownsRow w4.heap.size 22 1 r vs.length vs ∧ Lsts wr w4.heap.size r vs ((P.take k).map fun p => li (lst n p)) ∧ Below w4.heap.size w4 wr) (fun _ i _ => P.length - (intOf i).toNat)
  case atStart => exact ⟨0, [], Nat.zero_le _, rfl, World.ownsRow_nil _ _ _ _, ⟨by simp, fun t x l h1 _ => by simp at h1⟩, Below.refl _ _⟩
  case round =>
    obtain ⟨k, vs, hk, rfl, hrow, hls, hB⟩ := hrel
    have hvl1 : vs.length ≤ k := by rw [hls.1, List.length_map, List.length_take]; omega
    have hvl2 : k ≤ vs.length := by rw [hls.1, List.length_map, List.length_take]; omega
    obtain ⟨ra, rcap, rfl⟩ := own_slice' hrow
    by_cases hlt : k < P.length
    · have hki : (k : Int) < (P.length : Int) := by omega
      obtain rfl := HY1.out (by omega)
      have cy := below_cell hB (HY2.out k hlt)
      have hb9 := list_ok n P[k] wr hn (HT4.out.below hB)
      have HST := hide (show ((P.take (k + 1)).map fun p => li (lst n p)) = ((P.take k).map fun p => li (lst n p)) ++ [li (lst n P[k])] by
        rw [List.take_succ_eq_append_getElem hlt, List.map_append]; rfl)
      have HB9 := hide hb9
      clear hb9
      have hl60 : (li (lst n P[k])).length ≤ 60 := by rw [show (li (lst n P[k])).length = (lst n P[k]).length by simp [li]]; exact Nat.le_trans (lst_len _ _) hn
      generalize li (lst n P[k]) = lj at *
      generalize bs P[k] n = s9 at *
      go_wp2_with fail
      refine HB9.out.mono ?_
      rintro e3 w5 ⟨r9, rfl, hr9, hb5⟩
      have hB5 := bcat2 hB hb5
      have hrow5 := own_keep2 hrow (fun g _ h2 => hb5.block g h2)
      have hls5 : Lsts w5 w4.heap.size (.slice ra vs.length rcap) vs ((P.take k).map fun p => li (lst n p)) := hls.keep hb5.size (fun g _ h2 _ => hb5.block g h2) (.inl rfl)
      have hown2 : ∀ g, (Value.slice ra vs.length rcap).ownBlock = some g → g < wr.heap.size := fun g hg => by
        rcases hrow.2 with ⟨h1, _⟩ | ⟨g', cap, cur, h1, _, hh9, _⟩
        · rw [h1] at hg; simp [Value.ownBlock] at hg
        · rw [h1] at hg
          simp [Value.ownBlock] at hg
          subst hg
          exact (Array.getElem?_eq_some_iff.1 hh9).1
      obtain ⟨qa, qcap, qb, qo, rfl, hq, hq1, hq2, hq3, hq4⟩ := hr9
      have hs5 := hb5.size
      have hsB := hB.size
      have HQ := hide hq
      clear hrow hls hb5 hq
      go_wp2_with (first
        | (at_builtin; refine wpList_append_own_at _ rfl _ _ 25 rfl w4.heap.size 22 i0 (.slice none 0 0) 1 24 und25b hi hz0 hz1 hz2 rfl (by decide) _ _ _ rfl (World.ownsRow.alloc hrow5 _) ⟨w5.heap.size, 0, none⟩ 1 1 [.slice qa lj.length qcap] rfl rfl ?c1 ?c2 ?c3 ?c4 ?c5 ?_))
      case c1 => exact cell_one_new _ _ _
      case c2 => simp [Value.oneCell']
      case c3 => unfold maxLen; omega
      case c4 => omega
      case c5 => simp; omega
      intro v' w6 hown' hgrow hnil hloc
      obtain ⟨ra', rcap', rfl⟩ := own_slice' hown'
      have hB6 : Below w4.heap.size w4 w6 := (hB5.alloc hB5.size _).grown hgrow (by simp; omega) (fun t e => by have := owns_ge hrow5 t e; omega)
      have hbl : ∀ g, g < w5.heap.size → (Value.slice ra vs.length rcap).ownBlock ≠ some g → w6.heap[g]? = w5.heap[g]? := fun g h1 h2 => (hgrow.block g (by simp; omega) (fun e => h2 e.symm)).trans (Below.block (balloc w5 _) g h1)
      have hs6 : w5.heap.size < w6.heap.size := by have := hgrow.size; simp at this; omega
      have hlo : (Value.slice ra' (vs.length + 1) rcap').ownBlock = (Value.slice ra vs.length rcap).ownBlock ∨ ∀ g, (Value.slice ra' (vs.length + 1) rcap').ownBlock = some g → w5.heap.size ≤ g := by
        rcases hloc with h | h
        · exact .inl h
        · right; intro g hg; rw [h] at hg; simp at hg; omega
      have hls6 := (hls5.keep (r' := .slice ra' (vs.length + 1) rcap') (by omega) (fun g _ h2 h3 => hbl g h2 h3) hlo).snoc (x := .slice qa lj.length qcap) (l := lj) ⟨qa, qcap, qb, qo, rfl, HQ.out.of_eq (hbl qb hq1 (fun e => by have := hown2 _ e; omega)), by omega, hq2, hq3, by omega, fun g hg e => by
        subst e
        rcases hlo with h | h
        · have := hown2 _ (h ▸ hg); omega
        · have := h _ hg; omega⟩
      have hrow6 : w6.ownsRow w4.heap.size 22 1 (.slice ra' (vs.length + 1) rcap') (vs ++ [Value.slice qa lj.length qcap]).length (vs ++ [Value.slice qa lj.length qcap]) := by simpa using hown'
      clear hown' hgrow hloc hlo hbl hrow5 hls5 hB5
      go_wp2
      go_roundw
      case rel => exact ⟨k + 1, _, by omega, by go_num, hrow6, by rw [HST.out]; exact hls6, hB6⟩
      case measure => simp [intOf]; omega
    · have hki : ¬ (k : Int) < (P.length : Int) := by omega
      have hkP : P.take k = P := List.take_of_length_le (by omega)
      rw [hkP] at hls
      obtain ⟨g, rfl⟩ : ∃ g, ra = some ⟨g, 0, none⟩ := by
        rcases hrow.2 with ⟨h1, h2⟩ | ⟨g', cap, cur, h1, _⟩
        · omega
        · injection h1 with h1; exact ⟨g', h1⟩
      have HSO := hide (sort_ok w4.heap.size g rcap vs (P.map fun p => li (lst n p)) wr hrow hls (fun l hl => by
        obtain ⟨p, _, rfl⟩ := List.mem_map.1 hl
        rw [show (li (lst n p)).length = (lst n p).length by simp [li]]
        exact Nat.le_trans (lst_len _ _) hn) (by omega) (by omega))
      clear hkP hrow hls
      go_wp2_with fail
      refine HSO.out.mono ?_
      rintro x w7 ⟨rfl, hb7, ms, hpm, hsr, us9, hus, hor, hsl⟩
      have hB7 := hB4.trans ((hB.trans hb7).mono hB4.size)
      have hR7 := (HR4.out).of_eq ((hB.trans hb7).block _ HR4.out.lt)
      obtain ⟨_, y0, y1, fy0, fy1, s0, s1⟩ := Two.mk' hR7
      have HSL := hide hsl
      have HOR := hide hor
      have HZ7 := hide (Nat.le_trans hB.size hb7.size)
      clear hor
      have HSR := hide hsr
      have HPM := hide hpm
      have HB7 := hide hB7
      clear hsl hsr hpm hB7 hb7
      go_wp2
      exact bodyPost_ret (v := .tuple #[.slice (some ⟨g, 0, none⟩) vs.length rcap, .agg #[.int .i64 0, .int .i64 0]]) (by simp [results, Tryz.results51, go_sem, y0, y1]) rfl ⟨_, _, _, P, ms, rfl, HI4.out, HPM.out, HSR.out, ⟨w4.heap.size, g, us9, hB4.size, HZ7.out, rfl, hus, by rw [hus]; exact HOR.out, HSL.out⟩, HB7.out⟩
end Go.Proofs.YtgejngpioldhpaaGreatDoor

namespace Go.Proofs.YtgejngpioldhpaaGreatDoor
open Go Go.RowKit

theorem zero82 (w : World) : (zeroValue 55).run Tryz.prog w = .ok (.int .u64 0) w := by kernel_rfl
/-- A slice of numbers, as values. -/
def uv (xs : List Nat) : List Value := xs.map fun (s : Nat) => Value.int .u64 (s : Int)
theorem uv_len (xs : List Nat) : (uv xs).length = xs.length := by simp [uv]
theorem uv_set (xs : List Nat) (i s : Nat) : (uv xs).set i (.int .u64 (s : Int)) = uv (xs.set i s) := by simp [uv, List.map_set]
theorem uv_cell {w : World} {base g n cap : Nat} {xs : List Nat} (h : w.ownsRow base 55 1 (.slice (some ⟨g, 0, none⟩) n cap) n (uv xs)) {j : Nat} (hj : j < xs.length) : w.cell? ⟨g, j, none⟩ = some (.int .u64 (xs[j]?.getD 0 : Nat)) := by
  have h3 := h.cells (g := g) rfl j (.int .u64 (xs[j]?.getD 0 : Nat)) (by simp [uv, hj])
  rw [show (⟨g, 0, none⟩ : Addr).add j = ⟨g, j, none⟩ by unfold Addr.add; split <;> simp_all] at h3
  exact h3
/-- Where i of the first j are kept, and lie ahead. -/
structure Del (xs L : List Nat) (t : Nat → Bool) (i j : Nat) : Prop where
  len : L.length = xs.length
  ij : i < j
  jl : j ≤ xs.length
  kept : L.take i = (xs.take j).filter fun s => !t s
  rest : ∀ b, j ≤ b → L[b]?.getD 0 = xs[b]?.getD 0
theorem Del.start {xs : List Nat} {t : Nat → Bool} (h : xs.findIdx t < xs.length) : Del xs xs t (xs.findIdx t) (xs.findIdx t + 1) := by
  refine ⟨rfl, by omega, by omega, ?_, fun _ _ => rfl⟩
  have h1 : ∀ b, b < xs.findIdx t → t (xs[b]?.getD 0) = false := fun b hb => by
    have := List.not_of_lt_findIdx hb
    rw [List.getElem?_eq_getElem (by omega)]
    simpa using this
  rw [List.take_succ_eq_append_getElem h, List.filter_append, List.filter_cons, if_neg (by simp [List.findIdx_getElem (w := h)]), List.filter_nil, List.append_nil, List.filter_eq_self.2]
  intro s hs
  obtain ⟨b, hb, rfl⟩ := List.mem_iff_getElem.1 hs
  rw [List.length_take] at hb
  have := h1 b (by omega)
  rw [List.getElem?_eq_getElem (by omega)] at this
  rw [List.getElem_take]
  simpa using this
theorem Del.drop {xs L : List Nat} {t : Nat → Bool} {i j : Nat} (h : Del xs L t i j) (hj : j < xs.length) (ht : t (xs[j]?.getD 0) = true) : Del xs L t i (j + 1) := by
  obtain ⟨h1, h2, h3, h4, h5⟩ := h
  refine ⟨h1, by omega, by omega, ?_, fun b hb => h5 b (by omega)⟩
  rw [List.getElem?_eq_getElem hj] at ht
  rw [h4, List.take_succ_eq_append_getElem hj, List.filter_append, List.filter_cons, if_neg (by simpa using ht), List.filter_nil, List.append_nil]
theorem Del.keep {xs L : List Nat} {t : Nat → Bool} {i j : Nat} (h : Del xs L t i j) (hj : j < xs.length) (ht : t (xs[j]?.getD 0) = false) : Del xs (L.set i (xs[j]?.getD 0)) t (i + 1) (j + 1) := by
  obtain ⟨h1, h2, h3, h4, h5⟩ := h
  refine ⟨by rw [List.length_set]; exact h1, by omega, by omega, ?_, fun b hb => ?_⟩
  · rw [List.getElem?_eq_getElem hj] at ht ⊢
    rw [List.take_succ_eq_append_getElem hj, List.filter_append, List.filter_cons, if_pos (by simpa using ht), List.filter_nil, ← h4]
    rw [List.take_succ_eq_append_getElem (by rw [List.length_set]; omega), List.take_set, List.set_eq_of_length_le (by rw [List.length_take]; omega)]
    simp
  · rw [List.getElem?_set_ne (by omega)]
    exact h5 b (by omega)
theorem Del.fin {xs L : List Nat} {t : Nat → Bool} {i j : Nat} (h : Del xs L t i j) (hj : xs.length ≤ j) : L.take i = xs.filter fun s => !t s := by
  rw [h.kept, List.take_of_length_le hj]
end Go.Proofs.YtgejngpioldhpaaGreatDoor

namespace Go.Proofs.YtgejngpioldhpaaGreatDoor
open Go Go.RowKit

theorem setCells_cell (g : Nat) : ∀ (vs : List Value) (o : Nat) (w : World) (j : Nat), j < o → (w.setCells g o vs).cell? ⟨g, j, none⟩ = w.cell? ⟨g, j, none⟩
  | [], _, _, _, _ => rfl
  | v :: vs, o, w, j, h => by
    show ((w.setCell ⟨g, o, none⟩ v).setCells g (o + 1) vs).cell? ⟨g, j, none⟩ = w.cell? ⟨g, j, none⟩
    rw [setCells_cell g vs (o + 1) _ j (by omega)]
    exact World.cell?_setCell_other w ⟨g, o, none⟩ ⟨g, j, none⟩ v (fun e => by injection e with _ e; omega)
theorem setCells_below {B g : Nat} {a : World} (hg : B ≤ g) : ∀ (vs : List Value) (o : Nat) (w : World), Below B a w → Below B a (w.setCells g o vs)
  | [], _, _, h => h
  | v :: vs, o, _, h => setCells_below hg vs (o + 1) _ (h.setCell (p := ⟨g, o, none⟩) hg v)
end Go.Proofs.YtgejngpioldhpaaGreatDoor

namespace Go.Proofs.YtgejngpioldhpaaGreatDoor
open Go Go.RowKit

theorem und25d : Tryz.prog.underlying 25 = some (.slice 22) := by kernel_rfl
theorem zero22d (w : World) : (zeroValue 22).run Tryz.prog w = .ok (.slice none 0 0) w := by kernel_rfl
/-- Numbered lists, as values. -/
def ev (A : Nat → Option Addr) (Ln C : Nat → Nat) (xs : List Nat) : List Value := xs.map fun s => Value.slice (A s) (Ln s) (C s)
theorem ev_len (A : Nat → Option Addr) (Ln C : Nat → Nat) (xs : List Nat) : (ev A Ln C xs).length = xs.length := by simp [ev]
theorem ev_set (A : Nat → Option Addr) (Ln C : Nat → Nat) (xs : List Nat) (i s : Nat) : (ev A Ln C xs).set i (.slice (A s) (Ln s) (C s)) = ev A Ln C (xs.set i s) := by simp [ev, List.map_set]
theorem ev_cell {A : Nat → Option Addr} {Ln C : Nat → Nat} {w : World} {base g n cap : Nat} {xs : List Nat} (h : w.ownsRow base 22 1 (.slice (some ⟨g, 0, none⟩) n cap) n (ev A Ln C xs)) {j : Nat} (hj : j < xs.length) : w.cell? ⟨g, j, none⟩ = some (.slice (A (xs[j]?.getD 0)) (Ln (xs[j]?.getD 0)) (C (xs[j]?.getD 0))) := by
  have h3 := h.cells (g := g) rfl j (.slice (A (xs[j]?.getD 0)) (Ln (xs[j]?.getD 0)) (C (xs[j]?.getD 0))) (by simp [ev, hj])
  rw [show (⟨g, 0, none⟩ : Addr).add j = ⟨g, j, none⟩ by unfold Addr.add; split <;> simp_all] at h3
  exact h3
/-- A slice of numbered lists. -/
def SlE (w : World) (v : Value) (A : Nat → Option Addr) (Ln C : Nat → Nat) (xs : List Nat) : Prop := ∃ a cap pb po, v = .slice a xs.length cap ∧ (0 < xs.length → a = some ⟨pb, po, none⟩) ∧ (∀ j, j < xs.length → w.cell? ⟨pb, po + j, none⟩ = some (.slice (A (xs[j]?.getD 0)) (Ln (xs[j]?.getD 0)) (C (xs[j]?.getD 0)))) ∧ pb < w.heap.size ∧ xs.length ≤ cap ∧ cap ≤ maxLen
theorem SlE.below {A : Nat → Option Addr} {Ln C : Nat → Nat} {w w' : World} {v : Value} {xs : List Nat} (h : SlE w v A Ln C xs) (hb : Below w.heap.size w w') : SlE w' v A Ln C xs := by
  obtain ⟨a, cap, pb, po, rfl, h1, h2, h3, h4, h5⟩ := h
  exact ⟨a, cap, pb, po, rfl, h1, fun j hj => below_cell hb (h2 j hj), Nat.lt_of_lt_of_le h3 hb.size, h4, h5⟩
theorem SlE.of_own {A : Nat → Option Addr} {Ln C : Nat → Nat} {w : World} {base k : Nat} {v : Value} {xs : List Nat} (hk : k = xs.length) (h : w.ownsRow base 22 1 v k (ev A Ln C xs)) (h0 : 0 < w.heap.size) : SlE w v A Ln C xs := by
  subst hk
  rcases h.2 with ⟨rfl, hz⟩ | ⟨g, cap, cur, rfl, _, hh, h1, h2, _⟩
  · exact ⟨none, 0, 0, 0, by rw [hz], fun h => by omega, fun j hj => by omega, h0, by omega, by unfold maxLen; omega⟩
  · refine ⟨some ⟨g, 0, none⟩, cap, g, 0, rfl, fun _ => rfl, fun j hj => ?_, (Array.getElem?_eq_some_iff.1 hh).1, h1, h2⟩
    rw [Nat.zero_add]; exact ev_cell h hj
/-- All blocks that there were, but g, are as they were. -/
structure Kp (w W : World) (base g : Nat) : Prop where
  bel : Below base w W
  blk : ∀ b, b < w.heap.size → b ≠ g → W.heap[b]? = w.heap[b]?
theorem Kp.on {w W W' : World} {base g : Nat} (h : Kp w W base g) (hbs : base ≤ w.heap.size) (hb : Below W.heap.size W W') : Kp w W' base g :=
  ⟨h.bel.trans (hb.mono (Nat.le_trans hbs h.bel.size)), fun b h1 h2 => (hb.block b (Nat.lt_of_lt_of_le h1 h.bel.size)).trans (h.blk b h1 h2)⟩
theorem Kp.put {w W : World} {base g a : Nat} (h : Kp w W base g) (hg : base ≤ g) (x : Value) : Kp w (W.setCell ⟨g, a, none⟩ x) base g :=
  ⟨h.bel.setCell (p := ⟨g, a, none⟩) (by simpa using hg) x, fun b h1 h2 => (Below.heap_setCell _ _ _ b (by simpa using h2)).trans (h.blk b h1 h2)⟩
theorem Kp.puts {w : World} {base g : Nat} (hg : base ≤ g) : ∀ (vs : List Value) (o : Nat) (W : World), Kp w W base g → Kp w (W.setCells g o vs) base g
  | [], _, _, h => h
  | v :: vs, o, _, h => Kp.puts hg vs (o + 1) _ (h.put hg (a := o) v)
set_option maxRecDepth 100000 in
set_option maxHeartbeats 2000000 in
theorem indexL_ok (k : Nat) (caps : Array Value) (v : Value) (A : Nat → Option Addr) (Ln C : Nat → Nat) (xs : List Nat) (t : Nat → Bool) (w : World) (hv : SlE w v A Ln C xs)
    (hcall : ∀ (x : Value) W, Sem.run Tryz.prog (callFunc k (#[x] ++ caps)) W = .ok (.enter k (#[x] ++ caps)) W)
    (hp : ∀ (W : World) (s : Nat), Below w.heap.size w W → s ∈ xs → Calls Tryz.prog k (#[.slice (A s) (Ln s) (C s)] ++ caps) W fun e w' => e = .returned (.bool (t s)) ∧ Below W.heap.size W w') :
    Calls Tryz.prog 53 #[v, .func (.func k) #[] caps] w fun x w' => x = .returned (.int .i64 (idxI xs t)) ∧ Below w.heap.size w w' := by
  obtain ⟨va, vc, vb, vo, rfl, v1, v2, v3, v4, v5⟩ := hv
  have hm1 : xs.length ≤ 9223372036854775807 := by unfold maxLen at v5; omega
  have HV := hide v2
  have HV1 := hide v1
  have HP := hide hp
  clear v1 v2 v5 hp
  go_enter Tryz.func53, Tryz.ntmps53
  go_wp2
  go_loopw [8] (fun i wr => ∃ j : Nat, j ≤ xs.length ∧ i = .int .i64 j ∧ (∀ b, b < j → t (xs[b]?.getD 0) = false) ∧ Below w.heap.size w wr) (fun i _ => xs.length - (intOf i).toNat)
  case atStart => exact ⟨0, Nat.zero_le _, rfl, fun b hb => by omega, Below.refl _ _⟩
  case round =>
    obtain ⟨j, hj, rfl, hno, hB⟩ := hrel
    have HNO := hide hno
    clear hno
    by_cases hlt : j < xs.length
    · have hji : (j : Int) < (xs.length : Int) := by omega
      obtain rfl := HV1.out (by omega)
      have cy := below_cell hB (HV.out j hlt)
      obtain ⟨s, hs⟩ : ∃ s, xs[j]?.getD 0 = s := ⟨_, rfl⟩
      have hmem : s ∈ xs := by rw [← hs, List.getElem?_eq_getElem hlt]; exact List.getElem_mem hlt
      have HS := hide hs
      rw [hs] at cy
      clear hs
      have HK := hide (HP.out wr s hB hmem)
      cases hts : t s with
      | true =>
        rw [hts] at HK
        have HW := hide (idxI_at hlt (by rw [HS.out]; exact hts) HNO.out)
        go_wp2_with fail
        refine HK.out.mono ?_
        rintro x w1 ⟨rfl, hb1⟩
        go_wp2
        go_ret
        exact ⟨by rw [HW.out]; rfl, bcat2 hB hb1⟩
      | false =>
        rw [hts] at HK
        go_wp2_with fail
        refine HK.out.mono ?_
        rintro x w1 ⟨rfl, hb1⟩
        go_wp2
        go_roundw
        case rel => exact ⟨j + 1, by omega, by go_num, fun b hb => by
          by_cases e9 : b = j
          · subst e9; rw [HS.out]; exact hts
          · exact HNO.out b (by omega), bcat2 hB hb1⟩
        case measure => simp [intOf]; omega
    · have hji : ¬ (j : Int) < (xs.length : Int) := by omega
      have HW := hide (idxI_no (xs := xs) (t := t) (fun b hb => HNO.out b (by omega)))
      go_wp2
      go_ret
      exact ⟨by rw [HW.out]; rfl, hB⟩
set_option maxRecDepth 100000 in
set_option maxHeartbeats 4000000 in
theorem deleteL_ok (k base g : Nat) (caps : Array Value) (vc : Nat) (A : Nat → Option Addr) (Ln C : Nat → Nat) (xs : List Nat) (t : Nat → Bool) (w : World) (h0 : 0 < base) (hbs : base ≤ w.heap.size) (hrow : w.ownsRow base 22 1 (.slice (some ⟨g, 0, none⟩) xs.length vc) xs.length (ev A Ln C xs))
    (hcall : ∀ (x : Value) W, Sem.run Tryz.prog (callFunc k (#[x] ++ caps)) W = .ok (.enter k (#[x] ++ caps)) W)
    (hp : ∀ (W : World) (s : Nat), Kp w W base g → s ∈ xs → Calls Tryz.prog k (#[.slice (A s) (Ln s) (C s)] ++ caps) W fun e w' => e = .returned (.bool (t s)) ∧ Below W.heap.size W w') :
    Calls Tryz.prog 27 #[.slice (some ⟨g, 0, none⟩) xs.length vc, .func (.func k) #[] caps] w fun x w' => ∃ r, x = .returned r ∧ SlE w' r A Ln C (xs.filter fun s => !t s) ∧ Kp w w' base g := by
  have hsl := SlE.of_own rfl hrow (by omega)
  have HI := hide (indexL_ok k caps _ A Ln C xs t w hsl hcall (fun W s h hs => hp W s ⟨h.mono hbs, fun b hb _ => h.block b hb⟩ hs))
  have HP := hide hp
  have HRW := hide hrow
  clear hp
  by_cases hany : xs.findIdx t < xs.length
  · have hix : idxI xs t = (xs.findIdx t : Int) := by unfold idxI; rw [if_pos hany]
    rw [hix] at HI
    clear hix
    have hgb := owns_ge hrow g rfl
    have hD0 := Del.start hany
    have hm1 : xs.length ≤ 9223372036854775807 := by
      obtain ⟨_, _, _, _, _, _, _, _, h4, h5⟩ := hsl
      unfold maxLen at h5; omega
    have hne : ¬ ((xs.findIdx t : Nat) : Int) = -1 := by omega
    have hneb : (((xs.findIdx t : Nat) : Int) == -1) = false := by rw [beq_eq_false_iff_ne]; exact hne
    generalize xs.findIdx t = i0 at *
    clear hrow hsl
    go_enter Tryz.func27, Tryz.ntmps27
    go_wp2_with fail
    refine HI.out.mono ?_
    rintro x w1 ⟨rfl, hb1⟩
    have hr1 : w1.ownsRow base 22 1 (.slice (some ⟨g, 0, none⟩) xs.length vc) xs.length (ev A Ln C xs) := own_keep2 HRW.out (fun b _ h2 => hb1.block b h2)
    have hB1 : Kp w w1 base g := ⟨hb1.mono hbs, fun b hb _ => hb1.block b hb⟩
    go_wp2
    go_loopw [5, 6] (fun i j wr => ∃ (a b : Nat) (L : List Nat), i = .int .i64 a ∧ j = .int .i64 b ∧ Del xs L t a b ∧ (∀ x, x ∈ L → x ∈ xs) ∧ wr.ownsRow base 22 1 (.slice (some ⟨g, 0, none⟩) xs.length vc) xs.length (ev A Ln C L) ∧ Kp w wr base g) (fun _ j _ => xs.length - (intOf j).toNat)
    case atStart => exact ⟨i0, i0 + 1, xs, rfl, by go_num, hD0, fun _ h => h, hr1, hB1⟩
    case round =>
      clear hr1 hB1 hD0
      obtain ⟨a, b, L, rfl, rfl, hD, hLx, hr, hB⟩ := hrel
      have hDl := hD.len
      have hij := hD.ij
      have hjl := hD.jl
      by_cases hlt : b < xs.length
      · have hbi : (b : Int) < (xs.length : Int) := by omega
        have hai : (a : Int) < (xs.length : Int) := by omega
        have cb := ev_cell hr (j := b) (by omega)
        rw [hD.rest b (Nat.le_refl _)] at cb
        obtain ⟨s, hs⟩ : ∃ s, xs[b]?.getD 0 = s := ⟨_, rfl⟩
        have HS := hide hs
        rw [hs] at cb
        clear hs
        have hsx : s ∈ xs := by rw [← HS.out, List.getElem?_eq_getElem hlt]; exact List.getElem_mem hlt
        have HK := hide (HP.out wr s hB hsx)
        cases hts : t s with
        | true =>
          rw [hts] at HK
          have HD := hide (hD.drop hlt (by rw [HS.out]; exact hts))
          clear hDl
          go_wp2_with fail
          refine HK.out.mono ?_
          rintro x w2 ⟨rfl, hb2⟩
          have hr2 := own_keep2 hr (fun g _ h2 => hb2.block g h2)
          have hB2 := hB.on hbs hb2
          go_wp2
          go_roundw
          case rel => exact ⟨a, b + 1, L, rfl, by go_num, HD.out, hLx, hr2, hB2⟩
          case measure => simp [intOf]; omega
        | false =>
          rw [hts] at HK
          have HD := hide (hD.keep hlt (by rw [HS.out]; exact hts))
          rw [HS.out] at HD
          have ca0 := ev_cell hr (j := a) (by omega)
          have hDL := hide hDl
          clear hDl
          go_wp2_with fail
          refine HK.out.mono ?_
          rintro x w2 ⟨rfl, hb2⟩
          have hr2 := own_keep2 hr (fun g _ h2 => hb2.block g h2)
          have hB2 := hB.on hbs hb2
          have ca := below_cell hb2 ca0
          have fa := hr2.frozenAt a
          obtain ⟨hr3, hg3⟩ := hr2.stored a (.slice (A s) (Ln s) (C s))
          rw [ev_set] at hr3
          have hB3 := hB2.put hgb (a := a) (.slice (A s) (Ln s) (C s))
          have hLs : ∀ x, x ∈ L.set a s → x ∈ xs := fun x hx => by
            rcases List.mem_or_eq_of_mem_set hx with h | h
            · exact hLx x h
            · exact h ▸ hsx
          clear ca0
          go_wp2
          go_roundw
          case rel => exact ⟨a + 1, b + 1, _, by go_num, by go_num, HD.out, hLs, hr3, hB3⟩
          case measure => simp [intOf]; omega
      · have hbi : ¬ (b : Int) < (xs.length : Int) := by omega
        have hal : a < xs.length := by omega
        obtain ⟨m9, hm9⟩ : ∃ m9, xs.length = a + (m9 + 1) := ⟨xs.length - a - 1, by omega⟩
        have HFN := hide (hD.fin (by omega))
        have hLa : (L.take a).length = a := by rw [List.length_take]; omega
        have hvc : xs.length ≤ vc ∧ vc ≤ maxLen := by
          rcases hr.2 with ⟨h1, _⟩ | ⟨g', cap', cur, h1, _, _, h2, h3, _⟩
          · cases h1
          · injection h1 with _ _ h1
            subst h1
            exact ⟨h2, h3⟩
        have hvc1 := hvc.1
        have hcl : ∀ ty, (Builtin.clear_ #[25] ty #[.slice (some ⟨g, a, none⟩) (m9 + 1) (vc - a)]).run Tryz.prog wr = .ok (.tuple #[]) (wr.setCells g a (List.replicate (m9 + 1) (.slice none 0 0))) := fun ty =>
          Lib.run_clear_slice wr 25 22 ty (.slice none 0 0) und25d zero22d rfl rfl g a (m9 + 1) (vc - a) (by omega)
            (fun j hj => by rw [ev_cell hr (j := a + j) (by omega)]; rfl) (fun j _ => hr.frozenAt (a + j))
        have hB9 := Kp.puts hgb (List.replicate (m9 + 1) (.slice none 0 0)) a wr hB
        have hS9 : SlE (wr.setCells g a (List.replicate (m9 + 1) (.slice none 0 0))) (.slice (some ⟨g, 0, none⟩) a vc) A Ln C (L.take a) := by
          have hgl : g < wr.heap.size := World.block_lt_of_cell? wr ⟨g, 0, none⟩ (ev_cell hr (j := 0) (by omega))
          refine ⟨some ⟨g, 0, none⟩, vc, g, 0, by rw [hLa], fun _ => rfl, fun j hj => ?_, Nat.lt_of_lt_of_le hgl (setCells_below (B := 0) (a := wr) (Nat.zero_le _) _ a wr ⟨rfl, rfl, rfl, Nat.le_refl _, fun _ h => by omega⟩).size, by rw [hLa]; omega, hvc.2⟩
          rw [hLa] at hj
          rw [Nat.zero_add, setCells_cell g _ a wr j hj, ev_cell hr (j := j) (by omega), List.getElem?_take_of_lt hj]
        rw [HFN.out] at hS9
        have hai : (a : Int) ≤ (xs.length : Int) := by omega
        go_wp2
        go_ret
        exact ⟨_, rfl, hS9, hB9⟩
  · have hix : idxI xs t = -1 := by unfold idxI; rw [if_neg hany]
    rw [hix] at HI
    have hfl : (xs.filter fun s => !t s) = xs := by
      rw [List.filter_eq_self]
      intro s hs
      cases hts : t s with
      | false => rfl
      | true => exact absurd (List.findIdx_lt_length_of_exists ⟨s, hs, hts⟩) hany
    rw [hfl]
    clear hix hfl hany
    go_enter Tryz.func27, Tryz.ntmps27
    go_wp2_with fail
    refine HI.out.mono ?_
    rintro x w1 ⟨rfl, hb1⟩
    have hs1 := hsl.below hb1
    clear hsl hrow
    go_wp2
    go_ret
    exact ⟨_, rfl, hs1, ⟨hb1.mono hbs, fun b hb _ => hb1.block b hb⟩⟩
end Go.Proofs.YtgejngpioldhpaaGreatDoor

namespace Go.Proofs.YtgejngpioldhpaaGreatDoor
open Go Go.RowKit

theorem call28 (x a b : Value) (W : World) : Sem.run Tryz.prog (callFunc 28 (#[x] ++ #[a, b])) W = .ok (.enter 28 (#[x] ++ #[a, b])) W := by kernel_rfl
theorem pset_bs9 {n : Nat} {r : Nat → Bool} : bs (pset (li (lst n r))) n = bs r n := bs_ext fun _ ha => pset_lst ha
set_option maxRecDepth 100000 in
set_option maxHeartbeats 4000000 in
theorem cpl1_ok (n e hb sb : Nat) (v1 : Option Addr) (v2 v3 : Nat) (u1 : Option Addr) (u2 u3 : Nat) (m1 : Option Addr) (m2 m3 : Nat) (zs : List Int) (q r p : Nat → Bool) (w : World) (hG : GA w n (.slice v1 v2 v3) e (.slice u1 u2 u3) zs) (hT : Tab w) (hH : Blk w hb 51 [.int .i64 n, .slice v1 v2 v3, .int .i64 e, .slice u1 u2 u3]) (hS : Boxed w sb 55 (.int .u64 (bs q n : Nat))) (hm : Sl w (.slice m1 m2 m3) (li (lst n r))) (hp : ∀ a, a < n → (p a = true ↔ Mkd n zs e (fun a => q a || r a) a)) :
    Calls Tryz.prog 28 (#[.slice m1 m2 m3] ++ #[.pointer (some ⟨hb, 0, none⟩), .pointer (some ⟨sb, 0, none⟩)]) w fun x w' => x = .returned (.bool (!cmpB n e q r p)) ∧ Below w.heap.size w w' := by
  have hn := hG.le
  have HO := hide (fun W (h : Below w.heap.size w W) => pset_bs9 (n := n) (r := r) ▸ of_set n (.slice m1 m2 m3) (li (lst n r)) W hn (hm.below h) (lst_fault n r))
  have HA := hide (fun W => all_ok n (.slice v1 v2 v3) (.slice u1 u2 u3) e W hn)
  have HC := hide (fun W (h : Below w.heap.size w W) => completes_ok n v1 v2 v3 u1 u2 u3 zs e q r p W (hG.below h) (hT.below h) hp)
  have hSt : ∀ W, Below w.heap.size w W → (Below w.heap.size w W ∧ W.cell? ⟨hb, 0, none⟩ = some (.int .i64 n) ∧ W.cell? ⟨hb, 1, none⟩ = some (.slice v1 v2 v3) ∧ W.cell? ⟨hb, 2, none⟩ = some (.int .i64 e) ∧ W.cell? ⟨hb, 3, none⟩ = some (.slice u1 u2 u3) ∧ W.cell? ⟨sb, 0, none⟩ = some (.int .u64 (bs q n : Nat))) := fun W h => ⟨h, (blk_below hH h).cell 0, (blk_below hH h).cell 1, (blk_below hH h).cell 2, (blk_below hH h).cell 3, (Boxed.below hS h).cell⟩
  clear hG hT hm hp
  generalize cmpB n e q r p = D at *
  generalize bs q n = s1 at *
  generalize bs r n = s2 at *
  generalize bs (fun _ => true) n = s3 at *
  have hS0 := hSt _ (bdrew (Below.refl _ w))
  clear hH hS
  go_enter Tryz.func28, Tryz.ntmps28
  go_wp2_with fail
  go_region_held3 (fun W => Below w.heap.size w W ∧ W.cell? ⟨hb, 0, none⟩ = some (.int .i64 n) ∧ W.cell? ⟨hb, 1, none⟩ = some (.slice v1 v2 v3) ∧ W.cell? ⟨hb, 2, none⟩ = some (.int .i64 e) ∧ W.cell? ⟨hb, 3, none⟩ = some (.slice u1 u2 u3) ∧ W.cell? ⟨sb, 0, none⟩ = some (.int .u64 (s1 : Nat)))
    (first | exact hS0 | assumption | exact hSt _ (bcat2 (And.left ‹_›) hl3) | exact hSt _ (bcat2 (And.left ‹_›) hl2) | exact hSt _ (bcat2 (And.left ‹_›) hl1))
    (first
      | (go_at_call 26; refine (HO.out _ (And.left ‹_›)).mono ?_; rintro e1 U1 ⟨rfl, hl1⟩)
      | (go_at_call 30; refine (HA.out _).mono ?_; rintro e2 U2 ⟨rfl, hl2⟩)
      | (go_at_call 29; refine (HC.out _ (And.left ‹_›)).mono ?_; rintro e3 U3 ⟨rfl, hl3⟩; have hU3 := bcat2 (And.left ‹_›) hl3))
  all_goals (
    go_wp2
    go_ret
    exact ⟨rfl, hU3⟩)

set_option maxRecDepth 100000 in
set_option maxHeartbeats 4000000 in
theorem opens_bad (N c i : Int) (v : Value) (w : World) (HCK : Hid (∀ W, Below w.heap.size w W → Calls Tryz.prog 51 #[.agg #[.int .i64 N, v]] W fun x W' => x = .returned (.tuple #[.slice none 0 0, .agg #[.int .i64 c, .int .i64 i]]) ∧ Below W.heap.size W W')) (hc : c ≠ 0) :
    Calls Tryz.prog 25 #[.agg #[.int .i64 N, v]] w fun x w' => x = .returned (.tuple #[.agg #[.int .i64 0, .slice none 0 0, .int .i64 0, .slice none 0 0], .slice none 0 0, .agg #[.int .i64 c, .int .i64 i]]) ∧ Below w.heap.size w w' := by
  obtain ⟨w0, BG⟩ := Beg4.new w N v
  obtain ⟨c0, c1, _, _⟩ := BG.box.two
  have hcb : (c != 0) = true := by simpa using hc
  rw [BG.eq] at c0 c1
  go_enter Tryz.func25, Tryz.ntmps25
  go_wp2_with fail
  rw [← BG.eq]
  refine (HCK.out _ BG.bel).mono ?_
  rintro x w1 ⟨rfl, hb1⟩
  clear c0 c1
  obtain ⟨w2, hw2⟩ : ∃ w2, w2 = w1.alloc (.cells #[.int .i64 c, .int .i64 i] 27) := ⟨_, rfl⟩
  have hB1 : Below w0.heap.size w0 w2 := by rw [hw2]; exact bcat2 hb1 (balloc w1 _)
  have hF1 : Blk w2 w1.heap.size 27 [.int .i64 c, .int .i64 i] := by
    rw [hw2]
    exact blk0 (w := w1) (T := 27) (.int .i64 c) (.int .i64 i)
  obtain ⟨hG1, g0, g1, g2, g3, gf0, gf1, gf2, gf3, gs0, gs1, gs2, gs3⟩ := Four.mk' (blk_below BG.grp hB1)
  have hR1 := blk_below BG.res hB1
  have hBw := bcat BG.bel hB1 BG.bel.size
  obtain ⟨y0, y1, fy0, fy1⟩ := hR1.two
  obtain ⟨t0, t1, _, _⟩ := hF1.two
  rw [hw2] at t0 t1
  go_wp2_with fail
  rw [← hw2]
  rw [← hw2] at t0 t1
  clear hw2
  go_region
  all_goals (
    go_wp2
    obtain ⟨hR6, hB6⟩ := put2 hR1 hBw (by omega) c i
    have hB7 := bdrew hB6
    have hR7 : Blk ((w2.setCell ⟨w.heap.size + 1 + 1, 0, none⟩ (.int .i64 c)).setCell ⟨w.heap.size + 1 + 1, 1, none⟩ (.int .i64 i)).drew (w.heap.size + 1 + 1) 27 [.int .i64 c, .int .i64 i] := hR6
    have hG7 : Blk ((w2.setCell ⟨w.heap.size + 1 + 1, 0, none⟩ (.int .i64 c)).setCell ⟨w.heap.size + 1 + 1, 1, none⟩ (.int .i64 i)).drew (w.heap.size + 1) 51 [.int .i64 0, .slice none 0 0, .int .i64 0, .slice none 0 0] :=
      (hG1.other (p := ⟨w.heap.size + 1 + 1, 0, none⟩) (by simp) (.int .i64 c)).other (p := ⟨w.heap.size + 1 + 1, 1, none⟩) (by simp) (.int .i64 i)
    generalize ((w2.setCell ⟨w.heap.size + 1 + 1, 0, none⟩ (.int .i64 c)).setCell ⟨w.heap.size + 1 + 1, 1, none⟩ (.int .i64 i)).drew = W at hR7 hB7 hG7 ⊢
    obtain ⟨z0, z1, _, _⟩ := hR7.two
    obtain ⟨_, q0, q1, q2, q3, _⟩ := Four.mk' hG7
    exact bodyPost_ret (v := .tuple #[.agg #[.int .i64 0, .slice none 0 0, .int .i64 0, .slice none 0 0], .slice none 0 0, .agg #[.int .i64 c, .int .i64 i]]) (by simp [results, Tryz.results25, go_sem, z0, z1, q0, q1, q2, q3]) rfl ⟨rfl, hB7⟩)
set_option maxRecDepth 100000 in
set_option maxHeartbeats 4000000 in
theorem opens_good (n e : Nat) (v : Value) (zs : List Int) (w : World) (hv : Sl w v zs) (hg : IsGrp n zs e) (hT : Tab w) (h24 : n ≤ 24) :
    Calls Tryz.prog 25 #[.agg #[.int .i64 n, v]] w fun x w' => ∃ (u : Value) (g r2 r3 B : Nat) (P : List (Nat → Bool)) (ms : List (List Int)) (us : List Value), x = .returned (.tuple #[.agg #[.int .i64 n, v, .int .i64 e, u], .slice (some ⟨g, 0, none⟩) r2 r3, .agg #[.int .i64 0, .int .i64 0]]) ∧ (∃ k, P.length ≤ k ∧ SInv n zs e P k 0) ∧ ms.Perm (P.map fun p => li (lst n p)) ∧ srt ms ∧ w.heap.size ≤ B ∧ B ≤ w'.heap.size ∧ us.length = r2 ∧ w'.ownsRow B 22 1 (.slice (some ⟨g, 0, none⟩) r2 r3) us.length us ∧ Lsts w' B (.slice (some ⟨g, 0, none⟩) r2 r3) us ms ∧ SlF w.heap.size w' u (li ((List.range n).map (iv n zs e))) ∧ (∃ b, g < b ∧ SlF b w' u (li ((List.range n).map (iv n zs e)))) ∧ Below w.heap.size w w' := by
  obtain ⟨va, vl, vc, rfl⟩ := hv.isSlice
  obtain ⟨w0, BG⟩ := Beg4.new w n (.slice va vl vc)
  have hv0 := hv.below BG.bel
  have hT0 := hT.below BG.bel
  obtain ⟨c0, c1, _, _⟩ := BG.box.two
  have HAL := hide (all_good n e (.slice va vl vc) zs w0 hv0 hg hT0 h24)
  rw [BG.eq] at c0 c1
  go_enter Tryz.func25, Tryz.ntmps25
  go_wp2_with fail
  rw [← BG.eq]
  refine HAL.out.mono ?_
  rintro x w1 ⟨r1, r2, r3, P, ms, rfl, hSI, hpm, hsr, ⟨B, g, us, hB0, hB1', rfl, hul, hrow, hls⟩, hb1⟩
  have hgw : g < w1.heap.size := by
    rcases hrow.2 with ⟨h1, _⟩ | ⟨g', cap, cur, h1, _, hh9, _⟩
    · cases h1
    · injection h1 with h1
      injection h1 with h1
      injection h1 with h1
      subst h1
      exact (Array.getElem?_eq_some_iff.1 hh9).1
  have HSI := hide hSI
  have HPM := hide hpm
  have HSR := hide hsr
  have HRW := hide hrow
  have HLS := hide hls
  clear c0 c1 HAL hSI hpm hsr hrow hls
  obtain ⟨w2, hw2⟩ : ∃ w2, w2 = w1.alloc (.cells #[.int .i64 0, .int .i64 0] 27) := ⟨_, rfl⟩
  have hb12 : Below w1.heap.size w1 w2 := by rw [hw2]; exact balloc w1 _
  have hF2 : Blk w2 w1.heap.size 27 [.int .i64 0, .int .i64 0] := by rw [hw2]; exact blk0 (w := w1) (T := 27) (.int .i64 0) (.int .i64 0)
  have hs2 : w2.heap.size = w1.heap.size + 1 := by rw [hw2]; simp
  have hB02 := bcat2 hb1 hb12
  obtain ⟨t0, t1, _, _⟩ := hF2.two
  obtain ⟨k0, k1, _, _⟩ := (blk_below BG.box hB02).two
  have HOP := hide (opened_good n e (.slice va vl vc) zs w2 (hv0.below hB02) hg)
  rw [hw2] at t0 t1 k0 k1
  go_wp2_with fail
  rw [← hw2]
  refine HOP.out.mono ?_
  rintro x w3 ⟨u9, rfl, hGA, hb3⟩
  obtain ⟨ia, il, ic, rfl⟩ := hGA.sl.isSlice
  clear t0 t1 k0 k1 HOP hw2
  obtain ⟨w4, hw4⟩ : ∃ w4, w4 = w3.alloc (.cells #[.int .i64 n, .slice va vl vc, .int .i64 e, .slice ia il ic] 51) := ⟨_, rfl⟩
  have hb34 : Below w3.heap.size w3 w4 := by rw [hw4]; exact balloc w3 _
  have hH4 : Blk w4 w3.heap.size 51 [.int .i64 n, .slice va vl vc, .int .i64 e, .slice ia il ic] := by rw [hw4]; exact blk4 _ _ _ _
  have hF4 := blk_below hF2 (bcat2 hb3 hb34)
  have hb14 := bcat2 hb12 (bcat2 hb3 hb34)
  have hs3 := hb3.size
  obtain ⟨f0, f1, ff0, ff1⟩ := hF4.two
  obtain ⟨hF5, hb15⟩ := put2 hF4 hb14 (Nat.le_refl _) 0 0
  have hH5 := (hH4.other (p := ⟨w1.heap.size, 0, none⟩) (by show w3.heap.size ≠ w1.heap.size; omega) (.int .i64 0)).other (p := ⟨w1.heap.size, 1, none⟩) (by show w3.heap.size ≠ w1.heap.size; omega) (.int .i64 0)
  have hB05 := bcat2 hb1 hb15
  have hG5 := blk_below BG.grp hB05
  have hR5 := blk_below BG.res hB05
  have hBw5 := bcat BG.bel hB05 BG.bel.size
  have hGA5 : SlF (w1.heap.size + 1) ((w4.setCell ⟨w1.heap.size, 0, none⟩ (.int .i64 0)).setCell ⟨w1.heap.size, 1, none⟩ (.int .i64 0)) (.slice ia il ic) (li ((List.range n).map (iv n zs e))) :=
    ((hGA.below hb34).mono (by omega)).keep (fun b h1 _ => (Below.heap_setCell _ _ _ b (by show b ≠ w1.heap.size; omega)).trans (Below.heap_setCell _ _ _ b (by show b ≠ w1.heap.size; omega))) (by simp [World.setCell])
  rw [hw4] at f0 f1 ff0 ff1
  go_wp2_with fail
  rw [← hw4]
  clear f0 f1 ff0 ff1 hw4
  generalize (w4.setCell ⟨w1.heap.size, 0, none⟩ (.int .i64 0)).setCell ⟨w1.heap.size, 1, none⟩ (.int .i64 0) = w5 at *
  obtain ⟨W, hW, hG8, hR8, hB8, hS8, hK8⟩ := put6 (W := w5) hG5 hR5 hBw5 (.int .i64 n) (.slice va vl vc) (.int .i64 e) (.slice ia il ic) (.int .i64 0) (.int .i64 0)
  have hz9 : w.heap.size + 3 ≤ w1.heap.size := by rw [← BG.size]; exact hb1.size
  have hz5 := hb15.size
  have hk1 : ∀ b, w0.heap.size ≤ b → b < w1.heap.size → W.heap[b]? = w1.heap[b]? := fun b h1 h2 => (hK8 b (by rw [← BG.size]; exact h1)).trans (hb15.block b h2)
  have hrow9 := own_keep2 (W' := W.drew) HRW.out (fun b h1 h2 => hk1 b (Nat.le_trans hB0 h1) h2)
  have hW5 : W.heap.size = w5.heap.size := hS8
  have hls9 := HLS.out.keep (W' := W.drew) (r' := .slice (some ⟨g, 0, none⟩) r2 r3) (by show w1.heap.size ≤ W.heap.size; omega) (fun b h1 h2 _ => hk1 b (Nat.le_trans hB0 h1) h2) (.inl rfl)
  have hGA9 : SlF (w1.heap.size + 1) W.drew (.slice ia il ic) (li ((List.range n).map (iv n zs e))) := hGA5.keep (fun b h1 _ => hK8 b (by omega)) (by show w5.heap.size ≤ W.heap.size; omega)
  obtain ⟨_, h0, h1, h2, h3, hh⟩ := Four.mk' hH5
  obtain ⟨_, g0, g1, g2, g3, gf0, gf1, gf2, gf3, _, _, _, _⟩ := Four.mk' hG5
  obtain ⟨y0, y1, fy0, fy1⟩ := hR5.two
  obtain ⟨f0, f1, _, _⟩ := hF5.two
  obtain ⟨z0, z1, _, _⟩ := hR8.two
  obtain ⟨_, q0, q1, q2, q3, _⟩ := Four.mk' hG8
  have HFin := hide (show ∃ (u : Value) (g9 r2' r3' B : Nat) (P : List (Nat → Bool)) (ms : List (List Int)) (us : List Value), (Ending.returned (.tuple #[.agg #[.int .i64 n, .slice va vl vc, .int .i64 e, .slice ia il ic], .slice (some ⟨g, 0, none⟩) r2 r3, .agg #[.int .i64 0, .int .i64 0]])) = .returned (.tuple #[.agg #[.int .i64 n, .slice va vl vc, .int .i64 e, u], .slice (some ⟨g9, 0, none⟩) r2' r3', .agg #[.int .i64 0, .int .i64 0]]) ∧ (∃ k, P.length ≤ k ∧ SInv n zs e P k 0) ∧ ms.Perm (P.map fun p => li (lst n p)) ∧ srt ms ∧ w.heap.size ≤ B ∧ B ≤ W.drew.heap.size ∧ us.length = r2' ∧ W.drew.ownsRow B 22 1 (.slice (some ⟨g9, 0, none⟩) r2' r3') us.length us ∧ Lsts W.drew B (.slice (some ⟨g9, 0, none⟩) r2' r3') us ms ∧ SlF w.heap.size W.drew u (li ((List.range n).map (iv n zs e))) ∧ (∃ b, g9 < b ∧ SlF b W.drew u (li ((List.range n).map (iv n zs e)))) ∧ Below w.heap.size w W.drew from
    ⟨_, g, r2, r3, B, P, ms, us, rfl, HSI.out, HPM.out, HSR.out, by have := BG.size; omega, by show B ≤ W.heap.size; omega, hul, hrow9, hls9, hGA9.mono (by omega), ⟨w1.heap.size + 1, by omega, hGA9⟩, bdrew hB8⟩)
  clear hrow9 hls9 hGA9 hGA5 hk1 hF5 hH5 hG5 hR5
  go_region
  all_goals (
    go_wp2
    rw [← hW]
    exact bodyPost_ret (v := .tuple #[.agg #[.int .i64 n, .slice va vl vc, .int .i64 e, .slice ia il ic], .slice (some ⟨g, 0, none⟩) r2 r3, .agg #[.int .i64 0, .int .i64 0]]) (by simp [results, Tryz.results25, go_sem, z0, z1, q0, q1, q2, q3]) rfl HFin.out)
end Go.Proofs.YtgejngpioldhpaaGreatDoor

namespace Go.Proofs.YtgejngpioldhpaaGreatDoor
open Go Go.RowKit Go.Maps

/-- What is in all conjugates by some things. -/
def cin (n : Nat) (zs : List Int) (e : Nat) (s : Nat → Bool) (A : List Nat) (x : Nat) : Bool := A.all fun a => cjq n zs e s a x
theorem cin_snoc (n : Nat) (zs : List Int) (e : Nat) (s : Nat → Bool) (A : List Nat) (a : Nat) : cin n zs e s (A ++ [a]) = fun x => cin n zs e s A x && cjq n zs e s a x := by
  funext x
  simp [cin]
end Go.Proofs.YtgejngpioldhpaaGreatDoor

namespace Go.Proofs.YtgejngpioldhpaaGreatDoor
open Go Go.RowKit

/-- How many things one thing makes. -/
noncomputable def mk1 (n : Nat) (zs : List Int) (e a : Nat) : Nat → Bool := (mkd_ex' n zs e (fun y => decide (y = a))).choose
theorem mk1_iff (n : Nat) (zs : List Int) (e a : Nat) : ∀ x, x < n → (mk1 n zs e a x = true ↔ Mkd n zs e (fun y => decide (y = a)) x) := (mkd_ex' n zs e (fun y => decide (y = a))).choose_spec
end Go.Proofs.YtgejngpioldhpaaGreatDoor

namespace Go.Proofs.YtgejngpioldhpaaGreatDoor.Fin

def Pr (p : Nat) : Prop := 2 ≤ p ∧ ∀ d, d ∣ p → d = 1 ∨ d = p
theorem pr_exists {n : Nat} (hn : 2 ≤ n) : ∃ p, Pr p ∧ p ∣ n := by
  obtain ⟨d, hd, ⟨h2, hdn⟩, hmin⟩ := least_pos (P := fun d => 2 ≤ d ∧ d ∣ n) n (by omega) ⟨hn, Nat.dvd_refl n⟩
  refine ⟨d, ⟨h2, fun c hc => ?_⟩, hdn⟩
  have h0 : c ≠ 0 := fun h => by rw [h] at hc; have := Nat.eq_zero_of_zero_dvd hc; omega
  have hle := Nat.le_of_dvd hd hc
  rcases Nat.lt_or_ge c 2 with h | h
  · exact .inl (by omega)
  · rcases Nat.lt_or_ge c d with h3 | h3
    · exact absurd ⟨h, Nat.dvd_trans hc hdn⟩ (hmin c (by omega) h3)
    · exact .inr (by omega)
theorem pr_cop {p c : Nat} (hp : Pr p) (h : ¬ p ∣ c) : Nat.Coprime p c := by
  rcases hp.2 (Nat.gcd p c) (Nat.gcd_dvd_left p c) with h1 | h1
  · exact h1
  · exact absurd (by rw [← h1]; exact Nat.gcd_dvd_right p c) h
theorem pr_split {p : Nat} (hp : Pr p) : ∀ n, 0 < n → ∃ k s, n = p ^ k * s ∧ ¬ p ∣ s := by
  intro n
  induction n using Nat.strongRecOn with
  | _ n ih =>
    intro hn
    rcases Classical.em (p ∣ n) with ⟨c, hc⟩ | h
    · have hc0 : 0 < c := by
        rcases Nat.eq_zero_or_pos c with h | h
        · subst h; simp at hc; omega
        · exact h
      have hlt : c < n := by
        rw [hc]
        have : 2 * c ≤ p * c := Nat.mul_le_mul_right c hp.1
        omega
      obtain ⟨k, s, h1, h2⟩ := ih c hlt hc0
      exact ⟨k + 1, s, by rw [hc, h1, Nat.pow_succ, Nat.mul_comm (p ^ k) p, Nat.mul_assoc], h2⟩
    · exact ⟨0, n, by simp, h⟩
theorem pr_pow_dvd {p k d : Nat} (hp : Pr p) (h : d ∣ p ^ (k + 1)) (h2 : ¬ d ∣ p ^ k) : d = p ^ (k + 1) := by
  obtain ⟨c, hc⟩ := h
  have hp0 : 0 < p := by have := hp.1; omega
  have hpos : 0 < p ^ (k + 1) := Nat.pow_pos hp0
  rcases Classical.em (p ∣ c) with ⟨c', hc'⟩ | hn
  · exfalso
    apply h2
    refine ⟨c', ?_⟩
    have h3 : p * p ^ k = p * (d * c') := by rw [← Nat.pow_succ', hc, hc']; rw [← Nat.mul_assoc, ← Nat.mul_assoc, Nat.mul_comm d p]
    exact Nat.eq_of_mul_eq_mul_left hp0 h3
  · have h3 : Nat.Coprime (p ^ (k + 1)) c := Nat.Coprime.pow_left _ (pr_cop hp hn)
    have h4 : c ∣ 1 := by
      rw [← h3]
      exact Nat.dvd_gcd ⟨d, by rw [hc, Nat.mul_comm]⟩ (Nat.dvd_refl c)
    have h5 : c = 1 := Nat.eq_one_of_dvd_one h4
    rw [hc, h5, Nat.mul_one]
theorem inv_mod {s q : Nat} (hq : 0 < q) (h : Nat.Coprime s q) (c : Nat) : ∃ i, i < q ∧ (s * i) % q = c % q := by
  refine meets (n := q) (f := fun i => (s * i) % q) (fun i _ => Nat.mod_lt _ hq) (fun i j hi hj hij => ?_) (Nat.mod_lt c hq)
  have key : ∀ i j, i < q → j < q → i ≤ j → (s * i) % q = (s * j) % q → i = j := fun i j hi hj hle he => by
    have h1 : q ∣ s * (j - i) := by
      rw [Nat.mul_sub]
      exact Nat.dvd_of_mod_eq_zero (Nat.sub_mod_eq_zero_of_mod_eq he.symm)
    have h2 : q ∣ j - i := Nat.Coprime.dvd_of_dvd_mul_left h.symm h1
    rcases Nat.eq_zero_or_pos (j - i) with h0 | h0
    · omega
    · have := Nat.le_of_dvd h0 h2
      omega
  rcases Nat.le_total i j with hl | hl
  · exact key i j hi hj hl hij
  · exact (key j i hj hi hl hij.symm).symm

/-- The numbers of which one takes a thing's parts. -/
structure Parts (p k s q a b : Nat) : Prop where
  pr : Pr p
  cop : ¬ p ∣ s
  s0 : 0 < s
  hq : q = p ^ (k + 1)
  sa : s ∣ a
  aq : a % q = 1 % q
  qb : q ∣ b
  bs : b % s = 1 % s
theorem Parts.mk' {p k s : Nat} (hp : Pr p) (hs : ¬ p ∣ s) (h0 : 0 < s) : ∃ q a b, Parts p k s q a b := by
  have hp0 : 0 < p := by have := hp.1; omega
  have hc : Nat.Coprime (p ^ (k + 1)) s := Nat.Coprime.pow_left _ (pr_cop hp hs)
  obtain ⟨i, _, hi⟩ := inv_mod (s := s) (q := p ^ (k + 1)) (Nat.pow_pos hp0) hc.symm 1
  obtain ⟨j, _, hj⟩ := inv_mod (s := p ^ (k + 1)) (q := s) h0 hc 1
  exact ⟨p ^ (k + 1), s * i, p ^ (k + 1) * j, hp, hs, h0, rfl, ⟨i, rfl⟩, hi, ⟨j, rfl⟩, hj⟩
variable {p k s q a b : Nat}
theorem Parts.q0 (h : Parts p k s q a b) : 0 < q := by rw [h.hq]; exact Nat.pow_pos (by have := h.pr.1; omega)
theorem Parts.q2 (h : Parts p k s q a b) : 2 ≤ q := by
  rw [h.hq, Nat.pow_succ]
  have h1 : 1 ≤ p ^ k := Nat.pow_pos (by have := h.pr.1; omega)
  have := h.pr.1
  calc 2 ≤ 1 * p := by omega
    _ ≤ p ^ k * p := Nat.mul_le_mul_right p h1
theorem Parts.cqs (h : Parts p k s q a b) : Nat.Coprime q s := by rw [h.hq]; exact Nat.Coprime.pow_left _ (pr_cop h.pr h.cop)
theorem Parts.qp (h : Parts p k s q a b) : q = p ^ k * p := by rw [h.hq, Nat.pow_succ]
theorem Parts.sum (h : Parts p k s q a b) : ∃ t, a + b = 1 + q * s * t := by
  have h2 := h.q2
  have ha : 1 ≤ a := by
    rcases Nat.eq_zero_or_pos a with h0 | h0
    · have := h.aq; rw [h0, Nat.zero_mod, Nat.mod_eq_of_lt (by omega)] at this; omega
    · exact h0
  have h3 : q ∣ a + b - 1 := by
    apply Nat.dvd_of_mod_eq_zero
    apply Nat.sub_mod_eq_zero_of_mod_eq
    obtain ⟨j, hj⟩ := h.qb
    rw [hj, Nat.add_mul_mod_self_left]; exact h.aq
  have h4 : s ∣ a + b - 1 := by
    apply Nat.dvd_of_mod_eq_zero
    apply Nat.sub_mod_eq_zero_of_mod_eq
    obtain ⟨i, hi⟩ := h.sa
    rw [hi, Nat.add_comm, Nat.add_mul_mod_self_left]; exact h.bs
  obtain ⟨t, ht⟩ := Nat.Coprime.mul_dvd_of_dvd_of_dvd h.cqs h3 h4
  exact ⟨t, by omega⟩

variable {l : List Nat} {m : Nat → Nat → Nat} {e : Nat}
theorem po_z (h : Fg l m e) {x : Nat} (hx : x ∈ l) {n : Nat} (hn : po m e x n = e) (t : Nat) : po m e x (n * t) = e := by rw [← po_mul h hx, hn, po_e h]
theorem po_z' (h : Fg l m e) {x : Nat} (hx : x ∈ l) {n j : Nat} (hn : po m e x n = e) (hj : n ∣ j) : po m e x j = e := by obtain ⟨t, rfl⟩ := hj; exact po_z h hx hn t
theorem po_off (h : Fg l m e) {x : Nat} (hx : x ∈ l) {n : Nat} (hn : po m e x n = e) (i t : Nat) : po m e x (i + n * t) = po m e x i := by rw [po_add h hx, po_z h hx hn, h.right _ (po_mem h hx i)]
/-- What is taken away: so many times p it is the one, and not without p. -/
def AA (l : List Nat) (m : Nat → Nat → Nat) (e q n s : Nat) : List Nat := l.filter fun x => decide (po m e x (q * s) = e) && !decide (po m e x (n * s) = e)
theorem AA_iff {n x : Nat} : x ∈ AA l m e q n s ↔ x ∈ l ∧ po m e x (q * s) = e ∧ ¬ po m e x (n * s) = e := by
  unfold AA
  rw [List.mem_filter]
  simp
/-- The part whose order is the prime's power. -/
theorem part_ord (h : Fg l m e) (P : Parts p k s q a b) {x : Nat} (hA : x ∈ AA l m e q (p ^ k) s) : ∀ i, po m e (po m e x a) i = e ↔ q ∣ i := by
  obtain ⟨hx, h1, h2⟩ := AA_iff.1 hA
  have hy := po_mem h hx a
  obtain ⟨d, hd, ho⟩ := order h hy
  have hdq : d ∣ q := (ho q).1 (by
    rw [po_mul h hx]
    obtain ⟨i, hi⟩ := P.sa
    exact po_z' h hx h1 ⟨i, by rw [hi]; simp [Nat.mul_comm, Nat.mul_left_comm]⟩)
  have hnk : ¬ d ∣ p ^ k := fun hc => by
    apply h2
    have h3 := (ho _).2 hc
    obtain ⟨t, ht⟩ := P.sum
    have h4 : x = po m e x (a + b) := by rw [ht, po_off h hx h1, po_one h hx]
    have h5 : po m e x (p ^ k * s) = po m e (po m e x (a + b)) (p ^ k * s) := by rw [← h4]
    rw [h5, po_add h hx, po_prod h (po_mem h hx a) (po_mem h hx b) (po_pow_com h hx a b), po_z' h hy h3 ⟨s, rfl⟩, po_mul h hx, h.left _ (po_mem h hx _)]
    obtain ⟨j, hj⟩ := P.qb
    exact po_z' h hx h1 ⟨j * p ^ k, by rw [hj]; grind⟩
  rw [P.hq] at hdq ⊢
  have := pr_pow_dvd P.pr hdq hnk
  rw [← this]; exact ho

theorem rel_iff (h : Fg l m e) (P : Parts p k s q a b) {x y : Nat} (hx : x ∈ l) (h1 : po m e x (q * s) = e) :
    ((List.range (p ^ k)).any (fun i => decide (po m e x (1 + p * s * i) = y))) = true ↔ ∃ t, po m e x (1 + p * s * t) = y := by
  have hk : 0 < p ^ k := Nat.pow_pos (by have := P.pr.1; omega)
  simp only [List.any_eq_true, List.mem_range, decide_eq_true_eq]
  constructor
  · rintro ⟨i, _, hi⟩; exact ⟨i, hi⟩
  · rintro ⟨t, ht⟩
    refine ⟨t % p ^ k, Nat.mod_lt _ hk, ?_⟩
    rw [← ht]
    have : 1 + p * s * t = (1 + p * s * (t % p ^ k)) + q * s * (t / p ^ k) := by
      have h3 := Nat.div_add_mod t (p ^ k)
      rw [P.qp]
      generalize t / p ^ k = u at *
      generalize t % p ^ k = v at *
      rw [← h3]
      grind
    rw [this, po_off h hx h1]
theorem cop_u (P : Parts p k s q a b) (t : Nat) : Nat.Coprime (1 + p * s * t) (p ^ k) := by
  have : ¬ p ∣ 1 + p * s * t := fun hc => by
    have h1 : p ∣ p * s * t := ⟨s * t, by rw [Nat.mul_assoc]⟩
    have h2 := (Nat.dvd_add_iff_left h1).2 hc
    have := Nat.le_of_dvd (by omega) h2
    have := P.pr.1
    omega
  exact (Nat.Coprime.pow_left k (pr_cop P.pr this)).symm
theorem half_one (h : Fg l m e) (P : Parts p k s q a b) : p ^ k ∣ (AA l m e q (p ^ k) s).length := by
  have hk : 0 < p ^ k := Nat.pow_pos (by have := P.pr.1; omega)
  have hA : ∀ x, x ∈ AA l m e q (p ^ k) s → x ∈ l ∧ po m e x (q * s) = e ∧ ¬ po m e x (p ^ k * s) = e := fun x hx => AA_iff.1 hx
  have htr : ∀ x y z, x ∈ l → (∃ t, po m e x (1 + p * s * t) = y) → (∃ t, po m e y (1 + p * s * t) = z) → ∃ t, po m e x (1 + p * s * t) = z := fun x y z hx ⟨t, h1⟩ ⟨u, h2⟩ => by
    refine ⟨t + u + p * s * t * u, ?_⟩
    rw [← h2, ← h1, po_mul h hx]
    congr 1
    grind
  have hsy : ∀ x y, x ∈ l → po m e x (q * s) = e → (∃ t, po m e x (1 + p * s * t) = y) → ∃ t, po m e y (1 + p * s * t) = x := fun x y hx h1 ⟨t, ht⟩ => by
    obtain ⟨u, _, hu⟩ := inv_mod hk (cop_u P t) (p ^ k - t % p ^ k)
    have h0 : (t + (1 + p * s * t) * u) % p ^ k = 0 := by
      rw [Nat.add_mod, hu, ← Nat.add_mod]
      have h3 := Nat.div_add_mod t (p ^ k)
      have h4 := Nat.mod_lt t hk
      have : t + (p ^ k - t % p ^ k) = p ^ k * (t / p ^ k + 1) := by rw [Nat.mul_add, Nat.mul_one]; omega
      rw [this, Nat.mul_mod_right]
    obtain ⟨v, hv⟩ := Nat.dvd_of_mod_eq_zero h0
    refine ⟨u, ?_⟩
    rw [← ht, po_mul h hx]
    have : (1 + p * s * t) * (1 + p * s * u) = 1 + q * s * v := by
      have h5 : (1 + p * s * t) * (1 + p * s * u) = 1 + p * s * (t + (1 + p * s * t) * u) := by grind
      rw [h5, hv, P.qp]
      grind
    rw [this, po_off h hx h1, po_one h hx]
  refine part_dvd _ (fun x y => (List.range (p ^ k)).any (fun i => decide (po m e x (1 + p * s * i) = y))) _ _ (Nat.le_refl _) (fun x hx => ?_) (fun x y z hx hy _ hxy => ?_) (fun x hx => ?_)
  · obtain ⟨hl, h1, _⟩ := hA x hx
    exact (rel_iff h P hl h1).2 ⟨0, by rw [Nat.mul_zero, Nat.add_zero, po_one h hl]⟩
  · obtain ⟨hl, h1, _⟩ := hA x hx
    obtain ⟨hl', h1', _⟩ := hA y hy
    have hxy := (rel_iff h P hl h1).1 hxy
    show _ = _
    rw [Bool.eq_iff_iff, rel_iff h P hl h1, rel_iff h P hl' h1']
    exact ⟨fun hz => htr y x z hl' (hsy x y hl h1 hxy) hz, fun hz => htr x y z hl hxy hz⟩
  · obtain ⟨hl, h1, h2⟩ := hA x hx
    have ho := part_ord h P hx
    have key : ∀ i j, i < p ^ k → j < p ^ k → i ≤ j → po m e x (1 + p * s * i) = po m e x (1 + p * s * j) → i = j := fun i j hi hj hle he => by
      have h3 := po_back h hl (Nat.add_le_add_left (Nat.mul_le_mul_left _ hle) 1) he
      have h4 : 1 + p * s * j - (1 + p * s * i) = p * (s * (j - i)) := by rw [Nat.add_sub_add_left, ← Nat.mul_sub, Nat.mul_assoc]
      rw [h4] at h3
      have h5 := (ho (p * (s * (j - i)))).1 (by rw [po_mul h hl]; exact po_z' h hl h3 ⟨a, by rw [Nat.mul_comm]⟩)
      rw [P.qp, Nat.mul_comm (p ^ k) p] at h5
      have h6 : p ^ k ∣ s * (j - i) := Nat.dvd_of_mul_dvd_mul_left (by have := P.pr.1; omega) h5
      have h7 : p ^ k ∣ j - i := Nat.Coprime.dvd_of_dvd_mul_left (Nat.Coprime.pow_left k (pr_cop P.pr P.cop)) h6
      rcases Nat.eq_zero_or_pos (j - i) with h0 | h0
      · omega
      · have := Nat.le_of_dvd h0 h7
        omega
    have := bij_len (l1 := List.range (p ^ k)) (l2 := (AA l m e q (p ^ k) s).filter fun y => (List.range (p ^ k)).any (fun i => decide (po m e x (1 + p * s * i) = y))) (fun i => po m e x (1 + p * s * i)) List.nodup_range ((h.nd.filter _).filter _) (fun i _ => by
        refine List.mem_filter.2 ⟨AA_iff.2 ⟨po_mem h hl _, ?_, ?_⟩, (rel_iff h P hl h1).2 ⟨i, rfl⟩⟩
        · rw [po_mul h hl]; exact po_z' h hl h1 ⟨1 + p * s * i, by rw [Nat.mul_comm]⟩
        · rw [po_mul h hl]
          have : (1 + p * s * i) * (p ^ k * s) = p ^ k * s + q * s * (s * i) := by rw [P.qp]; grind
          rw [this, po_off h hl h1]; exact h2) (fun i j hi hj hij => by
        rw [List.mem_range] at hi hj
        rcases Nat.le_total i j with hle | hle
        · exact key i j hi hj hle hij
        · exact (key j i hj hi hle hij.symm).symm) (fun y hy => by
        obtain ⟨_, h4⟩ := List.mem_filter.1 hy
        simp only [List.any_eq_true, decide_eq_true_eq] at h4
        exact h4)
    rw [List.length_range] at this
    exact ⟨1, by rw [Nat.mul_one]; exact this.symm⟩
end Go.Proofs.YtgejngpioldhpaaGreatDoor.Fin

namespace Go.Proofs.YtgejngpioldhpaaGreatDoor.Fin
variable {l : List Nat} {m : Nat → Nat → Nat} {e : Nat}

/-- What commutes with a thing. -/
def cent (l : List Nat) (m : Nat → Nat → Nat) (y : Nat) : List Nat := l.filter fun c => decide (m c y = m y c)
theorem cent_iff {y c : Nat} : c ∈ cent l m y ↔ c ∈ l ∧ m c y = m y c := by
  unfold cent; rw [List.mem_filter, decide_eq_true_eq]
theorem cent_fg (h : Fg l m e) {y : Nat} (hy : y ∈ l) : Fg (cent l m y) m e := by
  refine sub_fg h (h.nd.filter _) (fun x hx => (cent_iff.1 hx).1) (cent_iff.2 ⟨h.one, by rw [h.left y hy, h.right y hy]⟩) (fun a b ha hb => ?_)
  obtain ⟨ha1, ha2⟩ := cent_iff.1 ha
  obtain ⟨hb1, hb2⟩ := cent_iff.1 hb
  exact cent_iff.2 ⟨h.cl _ _ ha1 hb1, by rw [h.ass _ _ _ ha1 hb1 hy, hb2, ← h.ass _ _ _ ha1 hy hb1, ha2, h.ass _ _ _ hy ha1 hb1]⟩

/-- The coset of the powers of y. -/
def inco (m : Nat → Nat → Nat) (e y q x c : Nat) : Bool := (List.range q).any fun i => decide (m x (po m e y i) = c)
def rep (l : List Nat) (m : Nat → Nat → Nat) (e y q x : Nat) : Nat := ((l.filter fun c => inco m e y q x c).head?).getD 0
structure Cen (l : List Nat) (m : Nat → Nat → Nat) (e y q : Nat) : Prop where
  fg : Fg l m e
  hy : y ∈ l
  com : ∀ c, c ∈ l → m c y = m y c
  q0 : 0 < q
  ho : ∀ i, po m e y i = e ↔ q ∣ i
variable {y q : Nat}
theorem inco_iff (H : Cen l m e y q) {x c : Nat} : inco m e y q x c = true ↔ ∃ i, m x (po m e y i) = c := by
  unfold inco
  simp only [List.any_eq_true, List.mem_range, decide_eq_true_eq]
  constructor
  · rintro ⟨i, _, hi⟩; exact ⟨i, hi⟩
  · rintro ⟨i, hi⟩
    refine ⟨i % q, Nat.mod_lt _ H.q0, ?_⟩
    rw [← hi]
    have h1 : po m e y i = po m e y (i % q + q * (i / q)) := by congr 1; have := Nat.div_add_mod i q; omega
    rw [h1, po_off H.fg H.hy ((H.ho q).2 ⟨1, by simp⟩)]
theorem inco_refl (H : Cen l m e y q) {x : Nat} (hx : x ∈ l) : inco m e y q x x = true := (inco_iff H).2 ⟨0, H.fg.right x hx⟩
theorem inco_symm (H : Cen l m e y q) {x c : Nat} (hx : x ∈ l) (h : inco m e y q x c = true) : inco m e y q c x = true := by
  obtain ⟨i, hi⟩ := (inco_iff H).1 h
  have hq := H.q0
  refine (inco_iff H).2 ⟨q * i - i, ?_⟩
  have hle : i ≤ q * i := Nat.le_mul_of_pos_left i hq
  rw [← hi, H.fg.ass _ _ _ hx (po_mem H.fg H.hy _) (po_mem H.fg H.hy _), ← po_add H.fg H.hy, show i + (q * i - i) = q * i by omega, (H.ho _).2 ⟨i, rfl⟩, H.fg.right x hx]
theorem inco_trans (H : Cen l m e y q) {x c d : Nat} (hx : x ∈ l) (h : inco m e y q x c = true) (k : inco m e y q c d = true) : inco m e y q x d = true := by
  obtain ⟨i, hi⟩ := (inco_iff H).1 h
  obtain ⟨j, hj⟩ := (inco_iff H).1 k
  exact (inco_iff H).2 ⟨i + j, by rw [po_add H.fg H.hy, ← H.fg.ass _ _ _ hx (po_mem H.fg H.hy _) (po_mem H.fg H.hy _), hi, hj]⟩
theorem rep_spec (H : Cen l m e y q) {x : Nat} (hx : x ∈ l) : rep l m e y q x ∈ l ∧ inco m e y q x (rep l m e y q x) = true := by
  have hm : x ∈ l.filter fun c => inco m e y q x c := List.mem_filter.2 ⟨hx, inco_refl H hx⟩
  unfold rep
  cases hf : l.filter fun c => inco m e y q x c with
  | nil => rw [hf] at hm; cases hm
  | cons c t =>
    have : c ∈ l.filter fun c => inco m e y q x c := by rw [hf]; simp
    obtain ⟨h1, h2⟩ := List.mem_filter.1 this
    exact ⟨h1, h2⟩
theorem rep_eq (H : Cen l m e y q) {x c : Nat} (hx : x ∈ l) (hc : c ∈ l) (h : inco m e y q x c = true) : rep l m e y q x = rep l m e y q c := by
  unfold rep
  rw [filter_eq (q := fun d => inco m e y q c d)]
  intro d _
  rw [Bool.eq_iff_iff]
  exact ⟨fun k => inco_trans H hc (inco_symm H hx h) k, fun k => inco_trans H hx h k⟩
theorem rep_iff (H : Cen l m e y q) {x c : Nat} (hx : x ∈ l) (hc : c ∈ l) : rep l m e y q x = rep l m e y q c ↔ inco m e y q x c = true := by
  refine ⟨fun h => ?_, rep_eq H hx hc⟩
  have h1 := (rep_spec H hx).2
  have h2 := (rep_spec H hc).2
  rw [h] at h1
  exact inco_trans H hx h1 (inco_symm H hc h2)
theorem rep_rep (H : Cen l m e y q) {x : Nat} (hx : x ∈ l) : rep l m e y q (rep l m e y q x) = rep l m e y q x := (rep_eq H hx (rep_spec H hx).1 (rep_spec H hx).2).symm
theorem com_pow (H : Cen l m e y q) {c : Nat} (hc : c ∈ l) (i : Nat) : m c (po m e y i) = m (po m e y i) c := (po_com H.fg H.hy hc (H.com c hc).symm i).symm
theorem rep_mul (H : Cen l m e y q) {a b : Nat} (ha : a ∈ l) (hb : b ∈ l) : rep l m e y q (m (rep l m e y q a) (rep l m e y q b)) = rep l m e y q (m a b) := by
  obtain ⟨ra, ia⟩ := rep_spec H ha
  obtain ⟨rb, ib⟩ := rep_spec H hb
  obtain ⟨i, hi⟩ := (inco_iff H).1 ia
  obtain ⟨j, hj⟩ := (inco_iff H).1 ib
  have pi := po_mem H.fg H.hy i
  have pj := po_mem H.fg H.hy j
  refine (rep_eq H (H.fg.cl _ _ ha hb) (H.fg.cl _ _ ra rb) ((inco_iff H).2 ⟨i + j, ?_⟩)).symm
  rw [← hi, ← hj, po_add H.fg H.hy, H.fg.ass _ _ _ ha hb (H.fg.cl _ _ pi pj), ← H.fg.ass _ _ _ hb pi pj, com_pow H hb i, H.fg.ass _ _ _ pi hb pj, ← H.fg.ass _ _ _ ha pi (H.fg.cl _ _ hb pj)]

/-- The quotient. -/
def quo (l : List Nat) (m : Nat → Nat → Nat) (e y q : Nat) : List Nat := l.filter fun x => decide (rep l m e y q x = x)
def mq (l : List Nat) (m : Nat → Nat → Nat) (e y q : Nat) (a b : Nat) : Nat := rep l m e y q (m a b)
theorem quo_iff {x : Nat} : x ∈ quo l m e y q ↔ x ∈ l ∧ rep l m e y q x = x := by unfold quo; rw [List.mem_filter, decide_eq_true_eq]
theorem rep_quo (H : Cen l m e y q) {x : Nat} (hx : x ∈ l) : rep l m e y q x ∈ quo l m e y q := quo_iff.2 ⟨(rep_spec H hx).1, rep_rep H hx⟩
theorem quo_fg (H : Cen l m e y q) : Fg (quo l m e y q) (mq l m e y q) (rep l m e y q e) := by
  refine ⟨H.fg.nd.filter _, rep_quo H H.fg.one, fun a b ha hb => ?_, fun a b c ha hb hc => ?_, fun a ha => ?_, fun a ha => ?_, fun a ha => ?_⟩
  · exact rep_quo H (H.fg.cl _ _ (quo_iff.1 ha).1 (quo_iff.1 hb).1)
  · obtain ⟨ha, ea⟩ := quo_iff.1 ha
    obtain ⟨hb, eb⟩ := quo_iff.1 hb
    obtain ⟨hc, ec⟩ := quo_iff.1 hc
    have h1 := rep_mul H (H.fg.cl _ _ ha hb) hc
    have h2 := rep_mul H ha (H.fg.cl _ _ hb hc)
    rw [ec] at h1
    rw [ea] at h2
    unfold mq
    rw [h1, h2, H.fg.ass _ _ _ ha hb hc]
  · obtain ⟨ha, ea⟩ := quo_iff.1 ha
    have h1 := rep_mul H H.fg.one ha
    rw [ea, H.fg.left a ha, ea] at h1
    exact h1
  · obtain ⟨ha, ea⟩ := quo_iff.1 ha
    have h1 := rep_mul H ha H.fg.one
    rw [ea, H.fg.right a ha, ea] at h1
    exact h1
  · obtain ⟨ha, ea⟩ := quo_iff.1 ha
    obtain ⟨b, hb, h1, h2⟩ := H.fg.inv a ha
    refine ⟨rep l m e y q b, rep_quo H hb, ?_, ?_⟩
    · have := rep_mul H ha hb
      rw [ea, h1] at this
      exact this
    · have := rep_mul H hb ha
      rw [ea, h2] at this
      exact this
theorem po_quo (H : Cen l m e y q) {x : Nat} (hx : x ∈ l) : ∀ k, po (mq l m e y q) (rep l m e y q e) (rep l m e y q x) k = rep l m e y q (po m e x k)
  | 0 => rfl
  | k + 1 => by
    show mq l m e y q (po (mq l m e y q) (rep l m e y q e) (rep l m e y q x) k) (rep l m e y q x) = _
    rw [po_quo H hx k]
    exact rep_mul H (po_mem H.fg hx k) hx
theorem quo_len (H : Cen l m e y q) : l.length = (quo l m e y q).length * q := by
  refine fib_len (rep l m e y q) q _ _ (H.fg.nd.filter _) (fun x hx => rep_quo H hx) (fun k hk => ?_)
  obtain ⟨hk1, hk2⟩ := quo_iff.1 hk
  have := bij_len (l1 := List.range q) (l2 := l.filter fun x => decide (rep l m e y q x = k)) (fun i => m k (po m e y i)) List.nodup_range (H.fg.nd.filter _) (fun i _ => by
      have hm := H.fg.cl _ _ hk1 (po_mem H.fg H.hy i)
      refine List.mem_filter.2 ⟨hm, ?_⟩
      rw [decide_eq_true_eq, ← rep_eq H hk1 hm ((inco_iff H).2 ⟨i, rfl⟩), hk2]) (fun i j hi hj hij => by
      rw [List.mem_range] at hi hj
      have h1 := H.fg.can hk1 (po_mem H.fg H.hy i) (po_mem H.fg H.hy j) hij
      have key : ∀ i j, i < q → j < q → i ≤ j → po m e y i = po m e y j → i = j := fun i j hi hj hle he => by
        have h1 := (H.ho _).1 (po_back H.fg H.hy hle he)
        rcases Nat.eq_zero_or_pos (j - i) with h0 | h0
        · omega
        · have := Nat.le_of_dvd h0 h1
          omega
      rcases Nat.le_total i j with hl | hl
      · exact key i j hi hj hl h1
      · exact (key j i hj hi hl h1.symm).symm) (fun x hx => by
      obtain ⟨hx1, hx2⟩ := List.mem_filter.1 hx
      rw [decide_eq_true_eq] at hx2
      have h3 := (rep_iff H hk1 hx1).1 (by rw [hk2, hx2])
      unfold inco at h3
      simp only [List.any_eq_true, decide_eq_true_eq] at h3
      exact h3)
  rw [List.length_range] at this
  exact this.symm
theorem quo_cnt (H : Cen l m e y q) {s : Nat} (hs : Nat.Coprime s q) : cnt l m e s = cnt (quo l m e y q) (mq l m e y q) (rep l m e y q e) s := by
  unfold cnt
  refine bij_len (rep l m e y q) (H.fg.nd.filter _) ((H.fg.nd.filter _).filter _) (fun z hz => ?_) (fun z w hz hw hzw => ?_) (fun x hx => ?_)
  · obtain ⟨hz1, hz2⟩ := List.mem_filter.1 hz
    rw [decide_eq_true_eq] at hz2
    exact List.mem_filter.2 ⟨rep_quo H hz1, by rw [decide_eq_true_eq, po_quo H hz1, hz2]⟩
  · obtain ⟨hz1, hz2⟩ := List.mem_filter.1 hz
    obtain ⟨hw1, hw2⟩ := List.mem_filter.1 hw
    rw [decide_eq_true_eq] at hz2 hw2
    obtain ⟨i, hi⟩ := (inco_iff H).1 ((rep_iff H hz1 hw1).1 hzw)
    have pi := po_mem H.fg H.hy i
    rw [← hi, po_prod H.fg hz1 pi (com_pow H hz1 i), hz2, po_mul H.fg H.hy, H.fg.left _ (po_mem H.fg H.hy _), H.ho] at hw2
    have h3 : q ∣ i := Nat.Coprime.dvd_of_dvd_mul_right hs.symm hw2
    rw [← hi, (H.ho i).2 h3, H.fg.right z hz1]
  · obtain ⟨hx1, hx2⟩ := List.mem_filter.1 hx
    obtain ⟨hx3, hx4⟩ := quo_iff.1 hx1
    rw [decide_eq_true_eq] at hx2
    have h5 := po_quo H hx3 s
    rw [hx4, hx2] at h5
    obtain ⟨j, hj⟩ := (inco_iff H).1 ((rep_iff H H.fg.one (po_mem H.fg hx3 s)).1 h5)
    rw [H.fg.left _ (po_mem H.fg H.hy j)] at hj
    obtain ⟨i, _, hi⟩ := inv_mod H.q0 hs (q - j % q)
    have pi := po_mem H.fg H.hy i
    refine ⟨m x (po m e y i), List.mem_filter.2 ⟨H.fg.cl _ _ hx3 pi, ?_⟩, ?_⟩
    · rw [decide_eq_true_eq, po_prod H.fg hx3 pi (com_pow H hx3 i), ← hj, po_mul H.fg H.hy, ← po_add H.fg H.hy, H.ho]
      apply Nat.dvd_of_mod_eq_zero
      rw [Nat.mul_comm i s, Nat.add_mod, hi, ← Nat.add_mod]
      have h3 := Nat.div_add_mod j q
      have h4 := Nat.mod_lt j H.q0
      have : j + (q - j % q) = q * (j / q + 1) := by rw [Nat.mul_add, Nat.mul_one]; omega
      rw [this, Nat.mul_mod_right]
    · rw [← rep_eq H hx3 (H.fg.cl _ _ hx3 pi) ((inco_iff H).2 ⟨i, rfl⟩), hx4]
end Go.Proofs.YtgejngpioldhpaaGreatDoor.Fin

namespace Go.Proofs.YtgejngpioldhpaaGreatDoor.Fin
variable {l : List Nat} {m : Nat → Nat → Nat} {e : Nat}

/-- Conjugated by g: g x = x' g. -/
theorem con_mk (h : Fg l m e) {g gi x : Nat} (hg : g ∈ l) (hi : gi ∈ l) (h1 : m gi g = e) (hx : x ∈ l) : m g x = m (m (m g x) gi) g := by
  rw [h.ass _ _ _ (h.cl _ _ hg hx) hi hg, h1, h.right _ (h.cl _ _ hg hx)]
theorem con_e (h : Fg l m e) {g x x' : Nat} (hg : g ∈ l) (hx : x ∈ l) (hx' : x' ∈ l) (hc : m g x = m x' g) (i : Nat) : po m e x i = e ↔ po m e x' i = e := by
  have h1 := po_conj h hg hx hx' hc i
  constructor
  · intro h2
    rw [h2, h.right g hg] at h1
    exact h.canR hg (po_mem h hx' i) h.one (by rw [← h1, h.left g hg])
  · intro h2
    rw [h2, h.left g hg] at h1
    exact h.can hg (po_mem h hx i) h.one (by rw [h1, h.right g hg])
theorem con_back (h : Fg l m e) {g gi x x' : Nat} (hg : g ∈ l) (hi : gi ∈ l) (h1 : m gi g = e) (h2 : m g gi = e) (hx : x ∈ l) (hx' : x' ∈ l) (hc : m g x = m x' g) : m gi x' = m x gi := by
  have h3 : m (m gi (m g x)) gi = m (m gi (m x' g)) gi := by rw [hc]
  rw [← h.ass _ _ _ hi hg hx, h1, h.left x hx, ← h.ass _ _ _ hi hx' hg, h.ass _ _ _ (h.cl _ _ hi hx') hg hi, h2, h.right _ (h.cl _ _ hi hx')] at h3
  exact h3.symm
theorem con_trans (h : Fg l m e) {g k x y z : Nat} (hg : g ∈ l) (hk : k ∈ l) (hx : x ∈ l) (hy : y ∈ l) (hz : z ∈ l) (h1 : m g x = m y g) (h2 : m k y = m z k) : m (m k g) x = m z (m k g) := by
  rw [h.ass _ _ _ hk hg hx, h1, ← h.ass _ _ _ hk hy hg, h2, h.ass _ _ _ hz hk hg]
def con (l : List Nat) (m : Nat → Nat → Nat) (x y : Nat) : Bool := l.any fun g => decide (m g x = m y g)
theorem con_iff {x y : Nat} : con l m x y = true ↔ ∃ g, g ∈ l ∧ m g x = m y g := by unfold con; simp
theorem con_refl (h : Fg l m e) {x : Nat} (hx : x ∈ l) : con l m x x = true := con_iff.2 ⟨e, h.one, by rw [h.left x hx, h.right x hx]⟩
theorem con_symm (h : Fg l m e) {x y : Nat} (hx : x ∈ l) (hy : y ∈ l) (hc : con l m x y = true) : con l m y x = true := by
  obtain ⟨g, hg, h1⟩ := con_iff.1 hc
  obtain ⟨gi, hi, h2, h3⟩ := h.inv g hg
  exact con_iff.2 ⟨gi, hi, con_back h hg hi h3 h2 hx hy h1⟩
theorem con_tr (h : Fg l m e) {x y z : Nat} (hx : x ∈ l) (hy : y ∈ l) (hz : z ∈ l) (h1 : con l m x y = true) (h2 : con l m y z = true) : con l m x z = true := by
  obtain ⟨g, hg, h1⟩ := con_iff.1 h1
  obtain ⟨k, hk, h2⟩ := con_iff.1 h2
  exact con_iff.2 ⟨m k g, h.cl _ _ hk hg, con_trans h hg hk hx hy hz h1 h2⟩
theorem con_same (h : Fg l m e) {x y z : Nat} (hx : x ∈ l) (hy : y ∈ l) (hz : z ∈ l) (h1 : con l m x y = true) : con l m x z = con l m y z := by
  rw [Bool.eq_iff_iff]
  exact ⟨fun k => con_tr h hy hx hz (con_symm h hx hy h1) k, fun k => con_tr h hx hy hz h1 k⟩
/-- All that a thing is conjugate to. -/
def cls (l : List Nat) (m : Nat → Nat → Nat) (y : Nat) : List Nat := l.filter fun z => con l m y z
theorem cls_len (h : Fg l m e) {y : Nat} (hy : y ∈ l) : l.length = (cls l m y).length * (cent l m y).length := by
  have hiv : ∀ g, g ∈ l → m g (po m e g (l.length - 1)) = e ∧ m (po m e g (l.length - 1)) g = e := fun g hg => by
    have hp := h.pos
    have h1 := po_len h hg
    constructor
    · have : po m e g l.length = m (po m e g 1) (po m e g (l.length - 1)) := by rw [← po_add h hg]; congr 1; omega
      rw [po_one h hg] at this
      rw [← this]; exact h1
    · have : po m e g l.length = m (po m e g (l.length - 1)) (po m e g 1) := by rw [← po_add h hg]; congr 1; omega
      rw [po_one h hg] at this
      rw [← this]; exact h1
  have hpm : ∀ g, g ∈ l → po m e g (l.length - 1) ∈ l := fun g hg => po_mem h hg _
  refine fib_len (fun g => m (m g y) (po m e g (l.length - 1))) _ _ _ (h.nd.filter _) (fun g hg => ?_) (fun k hk => ?_)
  · exact List.mem_filter.2 ⟨h.cl _ _ (h.cl _ _ hg hy) (hpm g hg), con_iff.2 ⟨g, hg, con_mk h hg (hpm g hg) (hiv g hg).2 hy⟩⟩
  · obtain ⟨hk1, hk2⟩ := List.mem_filter.1 hk
    obtain ⟨g, hg, hgk⟩ := con_iff.1 hk2
    have fib : ∀ f, f ∈ l → (m (m f y) (po m e f (l.length - 1)) = k ↔ m f y = m k f) := fun f hf => by
      have h1 := con_mk h hf (hpm f hf) (hiv f hf).2 hy
      have hm := h.cl _ _ (h.cl _ _ hf hy) (hpm f hf)
      exact ⟨fun h2 => by rw [h2] at h1; exact h1, fun h2 => h.canR hf hm hk1 (by rw [← h1, h2])⟩
    symm
    refine bij_len (m g) ((h.nd).filter _) (h.nd.filter _) (fun c hc => ?_) (fun a b ha hb hab => ?_) (fun f hf => ?_)
    · obtain ⟨hc1, hc2⟩ := cent_iff.1 hc
      have hm := h.cl _ _ hg hc1
      refine List.mem_filter.2 ⟨hm, ?_⟩
      rw [decide_eq_true_eq, fib _ hm, h.ass _ _ _ hg hc1 hy, hc2, ← h.ass _ _ _ hg hy hc1, hgk, h.ass _ _ _ hk1 hg hc1]
    · exact h.can hg (cent_iff.1 ha).1 (cent_iff.1 hb).1 hab
    · obtain ⟨hf1, hf2⟩ := List.mem_filter.1 hf
      rw [decide_eq_true_eq, fib f hf1] at hf2
      obtain ⟨gi, hi, h2, h3⟩ := h.inv g hg
      have hb := con_back h hg hi h3 h2 hy hk1 hgk
      refine ⟨m gi f, cent_iff.2 ⟨h.cl _ _ hi hf1, ?_⟩, ?_⟩
      · rw [h.ass _ _ _ hi hf1 hy, hf2, ← h.ass _ _ _ hi hk1 hf1, hb, h.ass _ _ _ hy hi hf1]
      · rw [← h.ass _ _ _ hg hi hf1, h2, h.left f hf1]

variable {p k s q a b : Nat}
/-- Things of A with a given part, and what commutes with the part. -/
theorem part_cnt (h : Fg l m e) (P : Parts p k s q a b) {x : Nat} (hA : x ∈ AA l m e q (p ^ k) s) :
    ((AA l m e q (p ^ k) s).filter fun z => decide (po m e z a = po m e x a)).length = cnt (cent l m (po m e x a)) m e s := by
  obtain ⟨hx, h1, h2⟩ := AA_iff.1 hA
  have ho := part_ord h P hA
  have hy := po_mem h hx a
  generalize po m e x a = y at *
  obtain ⟨t, ht⟩ := P.sum
  have hq1 : po m e y q = e := (ho q).2 (Nat.dvd_refl q)
  unfold cnt
  refine bij_len (fun z => po m e z b) ((h.nd.filter _).filter _) ((h.nd.filter _).filter _) (fun z hz => ?_) (fun z w hz hw hzw => ?_) (fun z hz => ?_)
  · obtain ⟨hz1, hz2⟩ := List.mem_filter.1 hz
    rw [decide_eq_true_eq] at hz2
    obtain ⟨hzl, hz3, _⟩ := AA_iff.1 hz1
    refine List.mem_filter.2 ⟨cent_iff.2 ⟨po_mem h hzl b, by rw [← hz2]; exact po_pow_com h hzl b a⟩, ?_⟩
    rw [decide_eq_true_eq, po_mul h hzl]
    obtain ⟨j, hj⟩ := P.qb
    exact po_z' h hzl hz3 ⟨j, by rw [hj]; grind⟩
  · obtain ⟨hz1, hz2⟩ := List.mem_filter.1 hz
    obtain ⟨hw1, hw2⟩ := List.mem_filter.1 hw
    rw [decide_eq_true_eq] at hz2 hw2
    obtain ⟨hzl, hz3, _⟩ := AA_iff.1 hz1
    obtain ⟨hwl, hw3, _⟩ := AA_iff.1 hw1
    have ez : z = po m e z (a + b) := by rw [ht, po_off h hzl hz3, po_one h hzl]
    have ew : w = po m e w (a + b) := by rw [ht, po_off h hwl hw3, po_one h hwl]
    rw [po_add h hzl, hz2] at ez
    rw [po_add h hwl, hw2] at ew
    have hzw' : po m e z b = po m e w b := hzw
    rw [ez, ew, hzw']
  · obtain ⟨hz1, hz2⟩ := List.mem_filter.1 hz
    rw [decide_eq_true_eq] at hz2
    obtain ⟨hzl, hzc⟩ := cent_iff.1 hz1
    have hm := h.cl _ _ hy hzl
    have hpr : ∀ i, po m e (m y z) i = m (po m e y i) (po m e z i) := po_prod h hy hzl hzc.symm
    obtain ⟨i, hi⟩ := P.sa
    obtain ⟨j, hj⟩ := P.qb
    have ya : po m e y a = y := by
      have h3 := Nat.div_add_mod a q
      rw [P.aq, Nat.mod_eq_of_lt (by have := P.q2; omega)] at h3
      rw [← h3, Nat.add_comm, po_off h hy hq1, po_one h hy]
    have za : po m e z a = e := po_z' h hzl hz2 ⟨i, hi⟩
    have yb : po m e y b = e := po_z' h hy hq1 ⟨j, hj⟩
    have zb : po m e z b = z := by
      have h3 := Nat.div_add_mod b s
      rw [P.bs] at h3
      rcases Nat.lt_or_ge 1 s with h4 | h4
      · rw [Nat.mod_eq_of_lt h4] at h3
        rw [← h3, Nat.add_comm, po_off h hzl hz2, po_one h hzl]
      · have hs1 : s = 1 := by have := P.s0; omega
        rw [hs1, po_one h hzl] at hz2
        rw [hz2, po_e h]
    refine ⟨m y z, List.mem_filter.2 ⟨AA_iff.2 ⟨hm, ?_, ?_⟩, ?_⟩, ?_⟩
    · rw [hpr, po_z' h hy hq1 ⟨s, rfl⟩, po_z' h hzl hz2 ⟨q, Nat.mul_comm q s⟩, h.left e h.one]
    · rw [hpr, po_z' h hzl hz2 ⟨p ^ k, Nat.mul_comm _ s⟩, h.right _ (po_mem h hy _), ho, P.qp]
      intro hc
      have h5 : p ∣ s := Nat.dvd_of_mul_dvd_mul_left (Nat.pow_pos (by have := P.pr.1; omega)) hc
      exact P.cop h5
    · rw [decide_eq_true_eq, hpr, ya, za, h.right y hy]
    · show po m e (m y z) b = z
      rw [hpr, yb, zb, h.left z hzl]
theorem half_two (h : Fg l m e) (P : Parts p k s q a b) (hsN : s ∣ l.length)
    (IH : ∀ (l' : List Nat) (m' : Nat → Nat → Nat) (e' : Nat), Fg l' m' e' → l'.length < l.length → ∀ n, n ∣ l'.length → n ∣ cnt l' m' e' n) : s ∣ (AA l m e q (p ^ k) s).length := by
  have hA : ∀ x, x ∈ AA l m e q (p ^ k) s → x ∈ l ∧ po m e x (q * s) = e ∧ ¬ po m e x (p ^ k * s) = e := fun x hx => AA_iff.1 hx
  have hyl : ∀ x, x ∈ AA l m e q (p ^ k) s → po m e x a ∈ l := fun x hx => po_mem h (hA x hx).1 a
  refine part_dvd _ (fun x z => con l m (po m e x a) (po m e z a)) _ _ (Nat.le_refl _) (fun x hx => con_refl h (hyl x hx)) (fun x y z hx hy hz hxy => con_same h (hyl x hx) (hyl y hy) (hyl z hz) hxy) (fun x hx => ?_)
  have hy := hyl x hx
  have hpc := part_cnt h P hx
  have ho := part_ord h P hx
  have hX : ((AA l m e q (p ^ k) s).filter fun z => con l m (po m e x a) (po m e z a)).length = (cls l m (po m e x a)).length * cnt (cent l m (po m e x a)) m e s := by
    rw [← hpc]
    refine fib_len (fun z => po m e z a) _ _ _ (h.nd.filter _) (fun z hz => ?_) (fun c hc => ?_)
    · obtain ⟨hz1, hz2⟩ := List.mem_filter.1 hz
      exact List.mem_filter.2 ⟨hyl z hz1, hz2⟩
    · obtain ⟨hc1, hc2⟩ := List.mem_filter.1 hc
      rw [List.filter_filter, filter_eq (q := fun z => decide (po m e z a = c))]
      · obtain ⟨g, hg, hgc⟩ := con_iff.1 hc2
        obtain ⟨gi, hi, h2, h3⟩ := h.inv g hg
        have hb := con_back h hg hi h3 h2 hy hc1 hgc
        have step : ∀ g gi u v, g ∈ l → gi ∈ l → m gi g = e → u ∈ l → v ∈ l → m g u = m v g → ∀ z, z ∈ (AA l m e q (p ^ k) s).filter (fun z => decide (po m e z a = u)) → m (m g z) gi ∈ (AA l m e q (p ^ k) s).filter (fun z => decide (po m e z a = v)) := fun g gi u v hg hi h3 hu hv huv z hz => by
          obtain ⟨hz1, hz2⟩ := List.mem_filter.1 hz
          rw [decide_eq_true_eq] at hz2
          obtain ⟨hzl, h4, h5⟩ := hA z hz1
          have hm := h.cl _ _ (h.cl _ _ hg hzl) hi
          have hcz := con_mk h hg hi h3 hzl
          refine List.mem_filter.2 ⟨AA_iff.2 ⟨hm, (con_e h hg hzl hm hcz _).1 h4, fun h6 => h5 ((con_e h hg hzl hm hcz _).2 h6)⟩, ?_⟩
          rw [decide_eq_true_eq]
          have h7 := po_conj h hg hzl hm hcz a
          rw [hz2, huv] at h7
          exact (h.canR hg hv (po_mem h hm a) h7).symm
        refine (bij_len (fun z => m (m g z) gi) ((h.nd.filter _).filter _) ((h.nd.filter _).filter _) (step g gi _ c hg hi h3 hy hc1 hgc) (fun z w hz hw hzw => ?_) (fun z hz => ?_)).symm
        · obtain ⟨hz1, _⟩ := List.mem_filter.1 hz
          obtain ⟨hw1, _⟩ := List.mem_filter.1 hw
          have e1 := h.canR hi (h.cl _ _ hg (hA z hz1).1) (h.cl _ _ hg (hA w hw1).1) hzw
          exact h.can hg (hA z hz1).1 (hA w hw1).1 e1
        · refine ⟨m (m gi z) g, step gi g c _ hi hg h2 hc1 hy hb z hz, ?_⟩
          have hzl := (hA z (List.mem_filter.1 hz).1).1
          show m (m g (m (m gi z) g)) gi = z
          rw [← h.ass _ _ _ hg (h.cl _ _ hi hzl) hg, ← h.ass _ _ _ hg hi hzl, h2, h.left z hzl, h.ass _ _ _ hzl hg hi, h2, h.right z hzl]
      · intro z _
        by_cases e1 : po m e z a = c
        · simp [e1, hc2]
        · simp [e1]
  rw [hX]
  have hcls := cls_len h hy
  have hH : Cen (cent l m (po m e x a)) m e (po m e x a) q := ⟨cent_fg h hy, cent_iff.2 ⟨hy, rfl⟩, fun c hc => (cent_iff.1 hc).2, P.q0, ho⟩
  have hql := quo_len hH
  have hqc := quo_cnt hH P.cqs.symm
  have hqf := quo_fg hH
  rw [hqc]
  generalize quo (cent l m (po m e x a)) m e (po m e x a) q = L at *
  generalize mq (cent l m (po m e x a)) m e (po m e x a) q = mm at *
  generalize rep (cent l m (po m e x a)) m e (po m e x a) q e = ee at *
  have hlt : L.length < l.length := by
    have h1 := hqf.pos
    have h2 := P.q2
    have h3 : L.length * 2 ≤ L.length * q := Nat.mul_le_mul_left _ h2
    have h4 : (cent l m (po m e x a)).length ≤ l.length := List.length_filter_le _ _
    omega
  have hd := IH L mm ee hqf hlt (Nat.gcd s L.length) (Nat.gcd_dvd_right _ _)
  rw [← cnt_gcd hqf] at hd
  rw [hcls, hql, ← Nat.mul_assoc] at hsN
  have h5 : s ∣ (cls l m (po m e x a)).length * L.length := Nat.Coprime.dvd_of_dvd_mul_right P.cqs.symm hsN
  have h6 : s ∣ (cls l m (po m e x a)).length * Nat.gcd s L.length := by
    rw [← Nat.gcd_mul_left]
    exact Nat.dvd_gcd ⟨_, Nat.mul_comm _ _⟩ h5
  exact Nat.dvd_trans h6 (Nat.mul_dvd_mul_left _ hd)

/-- FROBENIUS. -/
theorem frob : ∀ (N : Nat) (l : List Nat) (m : Nat → Nat → Nat) (e : Nat), Fg l m e → l.length = N → ∀ n, n ∣ N → n ∣ cnt l m e n := by
  intro N
  induction N using Nat.strongRecOn with
  | _ N ih =>
    intro l m e h hN
    have IH : ∀ (l' : List Nat) (m' : Nat → Nat → Nat) (e' : Nat), Fg l' m' e' → l'.length < l.length → ∀ n, n ∣ l'.length → n ∣ cnt l' m' e' n := fun l' m' e' h' hlt n hn => ih l'.length (by omega) l' m' e' h' rfl n hn
    have hpos := h.pos
    have down : ∀ r n, n ∣ N → N - n ≤ r → n ∣ cnt l m e n := by
      intro r
      induction r with
      | zero =>
        intro n hn hr
        have : n = N := by have := Nat.le_of_dvd (by omega) hn; omega
        subst this
        have : cnt l m e n = n := by
          unfold cnt
          rw [List.filter_eq_self.2 (fun x hx => by rw [decide_eq_true_eq, ← hN]; exact po_len h hx), hN]
        rw [this]; exact Nat.dvd_refl n
      | succ r ihr =>
        intro n hn hr
        obtain ⟨c, hc⟩ := id hn
        have hn0 : 0 < n := by
          rcases Nat.eq_zero_or_pos n with h0 | h0
          · subst h0; simp at hc; omega
          · exact h0
        rcases Nat.lt_or_ge c 2 with h2 | h2
        · have : c = 1 := by
            rcases Nat.eq_zero_or_pos c with h0 | h0
            · subst h0; simp at hc; omega
            · omega
          subst this
          exact ihr n hn (by omega)
        · obtain ⟨p, hp, hpc⟩ := pr_exists h2
          obtain ⟨k, s, hks, hs⟩ := pr_split hp n hn0
          have hs0 : 0 < s := by
            rcases Nat.eq_zero_or_pos s with h0 | h0
            · subst h0; simp at hs
            · exact h0
          obtain ⟨q, a, b, P⟩ := Parts.mk' (k := k) hp hs hs0
          have hnp : q * s = n * p := by rw [P.qp, hks]; grind
          have hd : n * p ∣ N := by rw [hc]; exact Nat.mul_dvd_mul_left n hpc
          have hgt : n < n * p := by
            have := hp.1
            calc n = n * 1 := by omega
              _ < n * p := Nat.mul_lt_mul_of_pos_left (by omega) hn0
          have hle := Nat.le_of_dvd (by omega) hd
          have h3 := ihr (n * p) hd (by omega)
          have h4 : n ∣ cnt l m e (n * p) := Nat.dvd_trans ⟨p, rfl⟩ h3
          have h5 : cnt l m e (n * p) = cnt l m e n + (AA l m e q (p ^ k) s).length := by
            unfold cnt AA
            rw [split_len (fun x => decide (po m e x n = e)) (l.filter fun x => decide (po m e x (n * p) = e)), List.filter_filter, List.filter_filter]
            congr 2
            · apply filter_eq
              intro x hx
              by_cases e1 : po m e x n = e
              · simp [e1, po_z h hx e1 p]
              · simp [e1]
            · apply filter_eq
              intro x _
              rw [hnp, ← hks, Bool.and_comm]
          have h6 : n ∣ (AA l m e q (p ^ k) s).length := by
            rw [hks]
            exact Nat.Coprime.mul_dvd_of_dvd_of_dvd (Nat.Coprime.pow_left k (pr_cop hp hs)) (half_one h P) (half_two h P (by rw [hN]; exact Nat.dvd_trans ⟨p ^ k, by rw [hks, Nat.mul_comm]⟩ hn) IH)
          rw [h5] at h4
          exact (Nat.dvd_add_iff_left h6).2 h4
    intro n hn
    exact down N n hn (by omega)
end Go.Proofs.YtgejngpioldhpaaGreatDoor.Fin

namespace Go.Proofs.YtgejngpioldhpaaGreatDoor

theorem po_pw (n : Nat) (zs : List Int) (e a : Nat) : ∀ k, Fin.po (tm n zs) e a k = pw n zs e a k
  | 0 => rfl
  | k + 1 => by
    show tm n zs (Fin.po (tm n zs) e a k) a = tm n zs (pw n zs e a k) a
    rw [po_pw n zs e a k]
theorem ord_iff {n e : Nat} {zs : List Int} (g : IsGrp n zs e) {a : Nat} (ha : a < n) (i : Nat) : Fin.po (tm n zs) e a i = e ↔ ordN n zs e a ∣ i := by
  rw [po_pw]
  refine ⟨fun h => ord_dvd g ha h, ?_⟩
  rintro ⟨q, rfl⟩
  exact pw_ord_mul g ha q
/-- What one thing makes: its powers. -/
theorem mk1_len {n e : Nat} {zs : List Int} (g : IsGrp n zs e) {a : Nat} (ha : a < n) : (lst n (mk1 n zs e a)).length = ordN n zs e a := by
  have hF := Fin.cyc_fg (grp_fg g) (List.mem_range.2 ha) (ord_pos (n := n) (zs := zs) (e := e) a) (ord_iff g ha)
  have hnd1 : (lst n (mk1 n zs e a)).Nodup := List.nodup_range.sublist List.filter_sublist
  have hmem : ∀ x, x ∈ lst n (mk1 n zs e a) ↔ x ∈ (List.range (ordN n zs e a)).map (Fin.po (tm n zs) e a) := fun x => by
    rw [mem_lst]
    constructor
    · rintro ⟨hx, h1⟩
      exact Fin.Gen.least (P := fun x => x ∈ (List.range (ordN n zs e a)).map (Fin.po (tm n zs) e a)) ⟨hF.1.one, fun y z _ _ hy hz => hF.1.cl y z hy hz⟩ (fun y _ hy => by
        have hy : y = a := of_decide_eq_true hy
        rw [hy]
        by_cases h1 : ordN n zs e a = 1
        · have h2 := (ord_iff g ha 1).2 (by rw [h1]; exact Nat.dvd_refl 1)
          have h3 : Fin.po (tm n zs) e a 1 = a := g.left a ha
          rw [h3] at h2
          exact List.mem_map.2 ⟨0, List.mem_range.2 (by omega), h2.symm⟩
        · have h2 := ord_pos (n := n) (zs := zs) (e := e) a
          exact List.mem_map.2 ⟨1, List.mem_range.2 (by omega), g.left a ha⟩) ((mk1_iff n zs e a x hx).1 h1)
    · intro hx
      have hxl := List.mem_range.1 (hF.2 x hx)
      refine ⟨hxl, (mk1_iff n zs e a x hxl).2 ?_⟩
      obtain ⟨i, _, rfl⟩ := List.mem_map.1 hx
      exact Fin.Sg.pow (grp_fg g) (Fin.Gen.sg _) (List.mem_range.2 ha) (Fin.Gen.base (List.mem_range.2 ha) (by simp)) i
  have h1 := nodup_len _ _ hnd1 (fun z hz => (hmem z).1 hz)
  have h2 := nodup_len _ _ hF.1.nd (fun z hz => (hmem z).2 hz)
  rw [List.length_map, List.length_range] at h1 h2
  omega
theorem prime_of {p : Nat} (hpr : primeB p = true) : 2 ≤ p ∧ ∀ d, d ∣ p → d = 1 ∨ d = p := by
  have h := of_decide_eq_true hpr
  have h2 : 2 ≤ p := by omega
  refine ⟨h2, fun d hd => ?_⟩
  have h3 := Nat.le_of_dvd (by omega) hd
  have h4 : d ≠ 0 := fun e => by subst e; have := Nat.eq_zero_of_zero_dvd hd; omega
  by_cases h5 : d = 1
  · exact .inl h5
  · by_cases h6 : d = p
    · exact .inr h6
    · exact absurd (Nat.mod_eq_zero_of_dvd hd) (by have := h.2.2 d (by simp; omega) (by omega); simpa using this)
end Go.Proofs.YtgejngpioldhpaaGreatDoor

namespace Go.Proofs.YtgejngpioldhpaaGreatDoor

theorem nrmq_iff {n e : Nat} {zs : List Int} {q : Nat → Bool} : nrmq n zs e q = true ↔ ∀ a, a < n → bs (cjq n zs e q a) n = bs q n := by
  unfold nrmq
  rw [decide_eq_true_eq]
  constructor
  · intro h a ha
    have := bs_inj h a ha
    unfold norq at this
    exact of_decide_eq_true this
  · intro h
    exact bs_ext fun a ha => by unfold norq; exact decide_eq_true (h a ha)
theorem cjq_twice {n e : Nat} {zs : List Int} {q : Nat → Bool} (g : IsGrp n zs e) {a b : Nat} (ha : a < n) (hb : b < n) : bs (cjq n zs e (cjq n zs e q a) b) n = bs (cjq n zs e q (tm n zs a b)) n := by
  have F := grp_fg g
  have V := grp_iv g
  have ha' := List.mem_range.2 ha
  have hb' := List.mem_range.2 hb
  refine bs_ext fun y _ => ?_
  rw [Bool.eq_iff_iff, cjq_iff, cjq_iff]
  constructor
  · rintro ⟨x, hx, h1, rfl⟩
    obtain ⟨z, hz, h2, rfl⟩ := cjq_iff.1 h1
    exact ⟨z, hz, h2, (Fin.cj_cj F V hz ha' hb').symm⟩
  · rintro ⟨z, hz, h2, rfl⟩
    exact ⟨Fin.cj (tm n zs) (iv n zs e) z a, Fin.cj_mem F V hz ha', cjq_iff.2 ⟨z, hz, h2, rfl⟩, Fin.cj_cj F V hz ha' hb'⟩
theorem one_conj {n e : Nat} {zs : List Int} {s : Nat → Bool} (g : IsGrp n zs e) {c : Nat} (hc : c < n) : nrmq n zs e (cjq n zs e s c) = true ↔ ∀ a, a < n → bs (cjq n zs e s a) n = bs (cjq n zs e s c) n := by
  have F := grp_fg g
  have V := grp_iv g
  rw [nrmq_iff]
  constructor
  · intro h a ha
    have hc' := List.mem_range.2 hc
    have ha' := List.mem_range.2 ha
    have hi := (V c hc').1
    have hb : tm n zs (iv n zs e c) a < n := List.mem_range.1 (F.cl _ _ hi ha')
    have h1 := h _ hb
    rw [cjq_twice g hc hb, ← F.ass _ _ _ hc' hi ha', (V c hc').2.1, F.left a ha'] at h1
    exact h1
  · intro h b hb
    rw [cjq_twice g hc hb]
    exact h _ (tm_lt g.tab hc hb)
theorem alone_iff {f : Nat → Nat} {n c : Nat} {A : List Nat} (hA : ∀ a, a ∈ A → a < n) (hnd : (A.map f).Nodup) (hall : ∀ a, a < n → f a ∈ A.map f) (hc : c ∈ A) : (∀ a, a < n → f a = f c) ↔ A.length = 1 := by
  constructor
  · intro h
    match A, hA, hnd, hc with
    | [a], _, _, _ => rfl
    | a :: b :: A, hA, hnd, _ =>
      rw [List.map_cons, List.map_cons, List.nodup_cons] at hnd
      exact absurd (by rw [h a (hA a (by simp)), ← h b (hA b (by simp))]; simp) hnd.1
  · intro h a ha
    match A, h, hc with
    | [d], _, hc =>
      have h1 := hall a ha
      rw [List.map_cons, List.map_nil, List.mem_singleton] at h1
      rw [List.mem_singleton.1 hc, h1]
theorem cin_iff {n e : Nat} {zs : List Int} {s : Nat → Bool} {A : List Nat} (hA : ∀ a, a ∈ A → a < n) (hall : ∀ a, a < n → bs (cjq n zs e s a) n ∈ A.map fun a => bs (cjq n zs e s a) n) {x : Nat} (hx : x < n) : cin n zs e s A x = true ↔ ∀ a, a < n → cjq n zs e s a x = true := by
  unfold cin
  rw [List.all_eq_true]
  constructor
  · intro h a ha
    obtain ⟨b, hb, h1⟩ := List.mem_map.1 (hall a ha)
    rw [← bs_inj h1 x hx]
    exact h b hb
  · intro h a ha
    exact h a (hA a ha)
theorem cin_nrm {n e : Nat} {zs : List Int} {s : Nat → Bool} {A : List Nat} (g : IsGrp n zs e) (hA : ∀ a, a ∈ A → a < n) (hall : ∀ a, a < n → bs (cjq n zs e s a) n ∈ A.map fun a => bs (cjq n zs e s a) n) : nrmq n zs e (cin n zs e s A) = true := by
  have F := grp_fg g
  have V := grp_iv g
  rw [nrmq_iff]
  intro b hb
  have hb' := List.mem_range.2 hb
  have hi := (V b hb').1
  have hil := List.mem_range.1 hi
  refine bs_ext fun y hy => ?_
  rw [Bool.eq_iff_iff, cin_iff hA hall hy]
  constructor
  · intro h a ha
    obtain ⟨x, hx, h1, rfl⟩ := cjq_iff.1 h
    have ha' := List.mem_range.2 ha
    have hai : tm n zs a (iv n zs e b) < n := tm_lt g.tab ha hil
    have h2 := (cin_iff hA hall (List.mem_range.1 hx)).1 h1 _ hai
    have h3 := bs_inj (cjq_twice (q := s) g hai hb) _ hy
    rw [F.ass _ _ _ ha' hi hb', (V b hb').2.2, F.right a ha'] at h3
    rw [← h3]
    exact cjq_iff.2 ⟨x, hx, h2, rfl⟩
  · intro h
    have hy' := List.mem_range.2 hy
    have hm := Fin.cj_mem F V hy' hi
    refine cjq_iff.2 ⟨_, hm, (cin_iff hA hall (List.mem_range.1 hm)).2 fun a ha => ?_, (Fin.cj_back F V hy' hb').2⟩
    have ha' := List.mem_range.2 ha
    have hab : tm n zs a b < n := tm_lt g.tab ha hb
    have h3 := bs_inj (cjq_twice (q := s) g hab hil) _ (List.mem_range.1 hm)
    rw [F.ass _ _ _ ha' hb' hi, (V b hb').2.1, F.right a ha'] at h3
    rw [← h3]
    exact cjq_iff.2 ⟨y, hy', h _ hab, rfl⟩
theorem cin_sub {n e : Nat} {zs : List Int} {s : Nat → Bool} {A : List Nat} (g : IsGrp n zs e) (hs : subT n zs e s = true) (hA : ∀ a, a ∈ A → a < n) (hall : ∀ a, a < n → bs (cjq n zs e s a) n ∈ A.map fun a => bs (cjq n zs e s a) n) : subT n zs e (cin n zs e s A) = true := by
  have F := grp_fg g
  have V := grp_iv g
  have S := subT_iff.1 hs
  refine subT_iff.2 ⟨(cin_iff hA hall g.elt).2 fun a ha => cjq_iff.2 ⟨e, F.one, S.one, Fin.cj_one F V (List.mem_range.2 ha)⟩, fun x y hx hy h1 h2 => ?_⟩
  have h1 := (cin_iff hA hall (List.mem_range.1 hx)).1 h1
  have h2 := (cin_iff hA hall (List.mem_range.1 hy)).1 h2
  refine (cin_iff hA hall (tm_lt g.tab (List.mem_range.1 hx) (List.mem_range.1 hy))).2 fun a ha => ?_
  obtain ⟨u, hu, k1, rfl⟩ := cjq_iff.1 (h1 a ha)
  obtain ⟨v, hv, k2, rfl⟩ := cjq_iff.1 (h2 a ha)
  exact cjq_iff.2 ⟨tm n zs u v, F.cl _ _ hu hv, S.mul u v hu hv k1 k2, Fin.cj_mul F V hu hv (List.mem_range.2 ha)⟩
theorem dvd_pw {p : Nat} (hp : 2 ≤ p ∧ ∀ d, d ∣ p → d = 1 ∨ d = p) : ∀ (k d : Nat), d ∣ p ^ k → isPw d p
  | 0, d, h => ⟨0, Nat.dvd_one.1 h⟩
  | k + 1, d, h => by
    by_cases hd : p ∣ d
    · obtain ⟨c, rfl⟩ := hd
      rw [Nat.pow_succ, Nat.mul_comm (p ^ k)] at h
      obtain ⟨j, hj⟩ := dvd_pw hp k c (Nat.dvd_of_mul_dvd_mul_left (by omega) h)
      exact ⟨j + 1, by rw [hj, Nat.pow_succ, Nat.mul_comm]⟩
    · have hco : Nat.Coprime d p := by
        rcases hp.2 _ (Nat.gcd_dvd_right d p) with h1 | h1
        · exact h1
        · exact absurd (h1 ▸ Nat.gcd_dvd_left d p) hd
      rw [Nat.pow_succ] at h
      exact dvd_pw hp k d (hco.dvd_of_dvd_mul_right h)
theorem cin_pw {n e p : Nat} {zs : List Int} {s : Nat → Bool} {A : List Nat} (g : IsGrp n zs e) (hpr : primeB p = true) (hgr : Grown n zs e p s) (hA : ∀ a, a ∈ A → a < n) (hall : ∀ a, a < n → bs (cjq n zs e s a) n ∈ A.map fun a => bs (cjq n zs e s a) n) : isPw (lst n (cin n zs e s A)).length p := by
  have F := grp_fg g
  have V := grp_iv g
  have F1 : Fin.Fg (lst n s) (tm n zs) e := Fin.sg_fg F (subT_iff.1 hgr.sub)
  have F2 : Fin.Fg (lst n (cin n zs e s A)) (tm n zs) e := Fin.sg_fg F (subT_iff.1 (cin_sub g hgr.sub hA hall))
  have h := Fin.lagr F1 F2 (fun x hx => by
    obtain ⟨hxn, h1⟩ := mem_lst.1 hx
    obtain ⟨u, hu, k1, k2⟩ := cjq_iff.1 ((cin_iff hA hall hxn).1 h1 e g.elt)
    rw [Fin.cj_id F V hu] at k2
    rw [← k2]
    exact mem_lst.2 ⟨List.mem_range.1 hu, k1⟩)
  obtain ⟨k, hk⟩ := hgr.pow
  rw [hk] at h
  exact dvd_pw (prime_of hpr) k _ h
end Go.Proofs.YtgejngpioldhpaaGreatDoor

namespace Go.Proofs.YtgejngpioldhpaaGreatDoor
namespace Fin
variable {P X : List Nat} {m t : Nat → Nat → Nat} {e : Nat}
/-- A group that moves the things of a list. -/
structure Mv (P X : List Nat) (m : Nat → Nat → Nat) (e : Nat) (t : Nat → Nat → Nat) : Prop where
  mem : ∀ c x, c ∈ X → x ∈ P → t c x ∈ X
  one : ∀ c, c ∈ X → t c e = c
  mul : ∀ c x y, c ∈ X → x ∈ P → y ∈ P → t (t c x) y = t c (m x y)
def fixB (P : List Nat) (t : Nat → Nat → Nat) (c : Nat) : Bool := P.all fun x => decide (t c x = c)
def orbB (P : List Nat) (t : Nat → Nat → Nat) (c d : Nat) : Bool := P.any fun x => decide (t c x = d)
theorem orbB_iff {c d : Nat} : orbB P t c d = true ↔ ∃ x, x ∈ P ∧ t c x = d := by unfold orbB; simp
theorem fixB_iff {c : Nat} : fixB P t c = true ↔ ∀ x, x ∈ P → t c x = c := by unfold fixB; simp
theorem orb_back (F : Fg P m e) (M : Mv P X m e t) {c x : Nat} (hc : c ∈ X) (hx : x ∈ P) : ∃ y, y ∈ P ∧ t (t c x) y = c := by
  obtain ⟨y, hy, h1, _⟩ := F.inv x hx
  exact ⟨y, hy, by rw [M.mul c x y hc hx hy, h1, M.one c hc]⟩
theorem orb_same (F : Fg P m e) (M : Mv P X m e t) {c d z : Nat} (hc : c ∈ X) (hd : d ∈ X) (h : orbB P t c d = true) : orbB P t c z = orbB P t d z := by
  obtain ⟨x, hx, rfl⟩ := orbB_iff.1 h
  rw [Bool.eq_iff_iff, orbB_iff, orbB_iff]
  obtain ⟨y, hy, hb⟩ := orb_back F M hc hx
  constructor
  · rintro ⟨u, hu, rfl⟩
    exact ⟨m y u, F.cl _ _ hy hu, by rw [← M.mul _ _ _ hd hy hu, hb]⟩
  · rintro ⟨u, hu, rfl⟩
    exact ⟨m x u, F.cl _ _ hx hu, (M.mul _ _ _ hc hx hu).symm⟩
theorem orb_len (F : Fg P m e) (M : Mv P X m e t) (hX : X.Nodup) {c : Nat} (hc : c ∈ X) : P.length = (X.filter (orbB P t c)).length * (P.filter fun x => decide (t c x = c)).length := by
  refine fib_len (fun x => t c x) _ _ _ (hX.filter _) (fun x hx => List.mem_filter.2 ⟨M.mem c x hc hx, orbB_iff.2 ⟨x, hx, rfl⟩⟩) (fun k hk => ?_)
  obtain ⟨hk1, hk2⟩ := List.mem_filter.1 hk
  obtain ⟨x, hx, rfl⟩ := orbB_iff.1 hk2
  symm
  refine bij_len (fun y => m y x) (F.nd.filter _) (F.nd.filter _) (fun y hy => ?_) (fun y z hy hz h => F.canR hx (List.mem_filter.1 hy).1 (List.mem_filter.1 hz).1 h) (fun z hz => ?_)
  · obtain ⟨h1, h2⟩ := List.mem_filter.1 hy
    refine List.mem_filter.2 ⟨F.cl _ _ h1 hx, decide_eq_true ?_⟩
    rw [← M.mul c y x hc h1 hx, of_decide_eq_true h2]
  · obtain ⟨h1, h2⟩ := List.mem_filter.1 hz
    obtain ⟨y, hy, i1, i2⟩ := F.inv x hx
    refine ⟨m z y, List.mem_filter.2 ⟨F.cl _ _ h1 hy, decide_eq_true ?_⟩, ?_⟩
    · rw [← M.mul c z y hc h1 hy, of_decide_eq_true h2, M.mul c x y hc hx hy, i1, M.one c hc]
    · show m (m z y) x = z
      rw [F.ass _ _ _ h1 hy hx, i2, F.right z h1]
theorem fix_dvd {p : Nat} (hp : 2 ≤ p ∧ ∀ d, d ∣ p → d = 1 ∨ d = p) (F : Fg P m e) (M : Mv P X m e t) (hX : X.Nodup) (hP : isPw P.length p) : p ∣ (X.filter fun c => !fixB P t c).length := by
  obtain ⟨k, hk⟩ := hP
  refine part_dvd p (orbB P t) _ _ (Nat.le_refl _) (fun c hc => ?_) (fun c d z hc hd hz h => ?_) (fun c hc => ?_)
  · exact orbB_iff.2 ⟨e, F.one, M.one c (List.mem_filter.1 hc).1⟩
  · exact orb_same F M (List.mem_filter.1 hc).1 (List.mem_filter.1 hd).1 h
  · obtain ⟨h1, h2⟩ := List.mem_filter.1 hc
    have hsame : (X.filter fun c => !fixB P t c).filter (orbB P t c) = X.filter (orbB P t c) := by
      rw [List.filter_filter]
      refine filter_eq fun z hz => ?_
      cases ho : orbB P t c z with
      | false => simp
      | true =>
        have hno : fixB P t z = false := by
          rw [Bool.eq_false_iff]
          intro hf
          obtain ⟨x, hx, hxz⟩ := orbB_iff.1 ho
          obtain ⟨y, hy, hb⟩ := orb_back F M h1 hx
          rw [hxz, fixB_iff.1 hf y hy] at hb
          rw [hb] at hf
          simp [hf] at h2
        simp [hno]
    rw [hsame]
    have hl := orb_len F M hX h1
    have hd : (X.filter (orbB P t c)).length ∣ p ^ k := hk ▸ ⟨_, hl⟩
    obtain ⟨j, hj⟩ := dvd_pw hp k _ hd
    cases j with
    | zero =>
      exfalso
      have hfx : fixB P t c = true := fixB_iff.2 fun x hx => by
        have m1 : c ∈ X.filter (orbB P t c) := List.mem_filter.2 ⟨h1, orbB_iff.2 ⟨e, F.one, M.one c h1⟩⟩
        have m2 : t c x ∈ X.filter (orbB P t c) := List.mem_filter.2 ⟨M.mem c x h1 hx, orbB_iff.2 ⟨x, hx, rfl⟩⟩
        obtain ⟨d, hd1⟩ := List.length_eq_one_iff.1 hj
        rw [hd1, List.mem_singleton] at m1 m2
        exact m2.trans m1.symm
      simp [hfx] at h2
    | succ j => rw [hj, Nat.pow_succ]; exact ⟨p ^ j, Nat.mul_comm _ _⟩
theorem fix_mod {p : Nat} (hp : 2 ≤ p ∧ ∀ d, d ∣ p → d = 1 ∨ d = p) (F : Fg P m e) (M : Mv P X m e t) (hX : X.Nodup) (hP : isPw P.length p) : X.length % p = (X.filter (fixB P t)).length % p := by
  obtain ⟨c, hc⟩ := fix_dvd hp F M hX hP
  rw [split_len (fixB P t) X, hc, Nat.add_mul_mod_self_left]
end Fin
end Go.Proofs.YtgejngpioldhpaaGreatDoor
