/- Package series' listed: a series of sets as lists. Conditions: the library's table of places lies as its text lays it; what the function that is handed over answers. Package series' Derived, Lower, ends and Nilpotent. Condition: the library's table of places lies as its text lays it. Package series' Nilpotent; the example of the laws of series: of the square's group the commutators make two things. Condition: the library's table of places lies as its text lays it. What the document's Span, Stays, Commutator, Lists and SameGroup, and listsAs of the laws, answer. The law's falling series: what it answers. Conditions: what the series' sets are like, and that they fall. Package series' upper: the normal subgroups, from the one on, of what has all its commutators in the last one; Upper. Condition: the library's table of places lies as its text lays it. -/
import Derived.Test.YtolbpjjjoafkkaaDoorZ6
import Derived.Test.YtolbpjjjoafkkaaDoorZ7
import Derived.Test.YtolbpjjjoafkkaaDoorZ3
import Derived.Deep.AppendLies
namespace Go.Proofs.YtolbpjjjoafkkaaDoor
open Go Go.RowKit

def sls (n : Nat) (f : Nat → Nat → Bool) (k : Nat) : List (List Int) := (List.range k).map fun i => li (lst n (f i))
theorem sls_len (n : Nat) (f : Nat → Nat → Bool) (k : Nat) : (sls n f k).length = k := by simp [sls]
theorem sls_at {n : Nat} {f : Nat → Nat → Bool} {k i : Nat} (h : i < k) : (sls n f k)[i]?.getD [] = li (lst n (f i)) := by simp [sls, h]
theorem sls_up (n : Nat) (f : Nat → Nat → Bool) (k : Nat) : sls n f (k + 1) = sls n f k ++ [li (lst n (f k))] := by simp [sls, List.range_succ]
/-- A row of lists, read. -/
theorem Rws.of_own {w : World} {base B g c : Nat} {vs : List Value} {rs : List (List Int)} (h : w.ownsRow base 22 1 (.slice (some ⟨g, 0, none⟩) vs.length c) vs.length vs) (hl : Lsts w B (.slice (some ⟨g, 0, none⟩) vs.length c) vs rs) : Rws w g rs := fun j hj => by
  have hju : j < vs.length := by have := hl.1; omega
  obtain ⟨a, cap, pb, po, h1, h2, h3, h4, h5, _⟩ := hl.2 j vs[j] rs[j] (List.getElem?_eq_getElem hju) (List.getElem?_eq_getElem hj)
  have hc := h.cells (g := g) rfl j _ (List.getElem?_eq_getElem hju)
  rw [show (⟨g, 0, none⟩ : Addr).add j = ⟨g, j, none⟩ by unfold Addr.add; split <;> simp_all] at hc
  rw [List.getElem?_eq_getElem hj, Option.getD_some]
  rw [h1] at hc
  exact ⟨a, cap, hc, ⟨a, cap, pb, po, rfl, h2, h3, h4, h5⟩⟩
set_option maxRecDepth 100000 in
set_option maxHeartbeats 4000000 in
theorem listed_bad (N : Int) (v f : Value) (zs : List Int) (w : World) (hv : Sl w v zs) (hc : (gfault N zs).1 ≠ 0) :
    Calls Tryd.prog 75 #[.agg #[.int .i64 N, v], f] w fun x w' => x = .returned (.tuple #[.slice none 0 0, .agg #[.int .i64 (gfault N zs).1, .int .i64 (gfault N zs).2]]) ∧ Below w.heap.size w w' := by
  obtain ⟨w0, BG⟩ := Beg.new w N v
  have hv0 := hv.below BG.bel
  obtain ⟨c0, c1, _, _⟩ := BG.box.two
  have hck := opened_bad N v zs w0 hv0 hc
  obtain ⟨c, i, hci⟩ : ∃ c i, gfault N zs = (c, i) := ⟨_, _, rfl⟩
  rw [hci] at hck hc ⊢
  simp only at hc hck
  have HCK := hide hck
  clear hck hci
  have hcb : (c != 0) = true := by simpa using hc
  rw [BG.eq] at c0 c1
  go_enter Tryd.func75, Tryd.ntmps75
  go_wp2_with fail
  rw [← BG.eq]
  refine HCK.out.mono ?_
  rintro x w1 ⟨rfl, hb1⟩
  clear c0 c1
  obtain ⟨w2, hw2⟩ : ∃ w2, w2 = (w1.alloc (.cells #[.int .i64 0, .slice none 0 0, .int .i64 0, .slice none 0 0] 64)).alloc (.cells #[.int .i64 c, .int .i64 i] 27) := ⟨_, rfl⟩
  have hB1 : Below w0.heap.size w0 w2 := by rw [hw2]; exact bcat2 hb1 ((balloc w1 _).alloc (by simp) _)
  have hF1 : Blk w2 (w1.heap.size + 1) 27 [.int .i64 c, .int .i64 i] := by
    rw [hw2]
    have := blk0 (w := w1.alloc (.cells #[.int .i64 0, .slice none 0 0, .int .i64 0, .slice none 0 0] 64)) (T := 27) (.int .i64 c) (.int .i64 i)
    rwa [World.size_alloc] at this
  have hR1 := blk_below BG.res hB1
  have hBw := bcat BG.bel hB1 BG.bel.size
  obtain ⟨y0, y1, fy0, fy1⟩ := hR1.two
  obtain ⟨t0, t1, _, _⟩ := hF1.two
  rw [hw2] at t0 t1
  go_wp2_with fail
  rw [← hw2]
  rw [← hw2] at t0 t1
  clear hw2
  go_region
  all_goals (
    go_wp2
    obtain ⟨hR6, hB6⟩ := put2 hR1 hBw (by omega) c i
    have hB7 := bdrew hB6
    have hR7 : Blk ((w2.setCell ⟨w.heap.size + 1, 0, none⟩ (.int .i64 c)).setCell ⟨w.heap.size + 1, 1, none⟩ (.int .i64 i)).drew (w.heap.size + 1) 27 [.int .i64 c, .int .i64 i] := hR6
    generalize ((w2.setCell ⟨w.heap.size + 1, 0, none⟩ (.int .i64 c)).setCell ⟨w.heap.size + 1, 1, none⟩ (.int .i64 i)).drew = W at hR7 hB7 ⊢
    obtain ⟨z0, z1, _, _⟩ := hR7.two
    exact bodyPost_ret (v := .tuple #[.slice none 0 0, .agg #[.int .i64 c, .int .i64 i]]) (by simp [results, Tryd.results75, go_sem, z0, z1]) rfl ⟨rfl, hB7⟩)
/-- What listed answers. -/
def LisA (w' : World) (n : Nat) (nx : (Nat → Bool) → Nat → Bool) (I : (Nat → Bool) → Prop) (M : (Nat → Bool) → Nat) (q0 : Nat → Bool) (x : Value) : Prop := ∃ K g c : Nat, x = .slice (some ⟨g, 0, none⟩) (K + 1) c ∧ Stp n nx I M q0 K ∧ bs (itr nx q0 (K + 1)) n = bs (itr nx q0 K) n ∧ Rws w' g (sls n (itr nx q0) (K + 1)) ∧ SlL w' (.slice (some ⟨g, 0, none⟩) (K + 1) c) (sls n (itr nx q0) (K + 1))
set_option maxRecDepth 100000 in
set_option maxHeartbeats 4000000 in
theorem listed_good (n e k : Nat) (v : Value) (zs : List Int) (nx : (Nat → Bool) → Nat → Bool) (I : (Nat → Bool) → Prop) (M : (Nat → Bool) → Nat) (q0 : Nat → Bool) (w : World) (hv : Sl w v zs) (hg : IsGrp n zs e) (hT : Tab w)
    (hcall : ∀ x W, Sem.run Tryd.prog (callFunc k #[x]) W = .ok (.enter k #[x]) W)
    (hof : ∀ (W : World) (u : Value), Below w.heap.size w W → GA W n v e u zs → Calls Tryd.prog k #[.agg #[.int .i64 n, v, .int .i64 e, u]] W fun x W' => ∃ y, x = .returned y ∧ SerA W W' n nx I M q0 y ∧ Below W.heap.size W W') :
    Calls Tryd.prog 75 #[.agg #[.int .i64 n, v], .func (.func k) #[] #[]] w fun x w' => ∃ y, x = .returned (.tuple #[y, .agg #[.int .i64 0, .int .i64 0]]) ∧ LisA w' n nx I M q0 y ∧ Below w.heap.size w w' := by
  obtain ⟨va, vl, vc, rfl⟩ := hv.isSlice
  obtain ⟨i0, hi, hz0, hz1, hz2⟩ := info_parts info22b
  have HOF := hide hof
  clear hof
  obtain ⟨w0, BG⟩ := Beg.new w n (.slice va vl vc)
  have hv0 := hv.below BG.bel
  obtain ⟨c0, c1, _, _⟩ := BG.box.two
  have HCK := hide (opened_good n e (.slice va vl vc) zs w0 hv0 hg)
  have HZ0 := hide (show w.heap.size + 2 ≤ w0.heap.size by rw [BG.eq]; simp)
  rw [BG.eq] at c0 c1
  go_enter Tryd.func75, Tryd.ntmps75
  go_wp2_with fail
  rw [← BG.eq]
  refine HCK.out.mono ?_
  rintro x w1 ⟨iv9, rfl, hSI, hb1⟩
  obtain ⟨ia, il, ic, rfl⟩ := hSI.sl.isSlice
  clear c0 c1 HCK
  obtain ⟨w2, hw2⟩ : ∃ w2, w2 = (w1.alloc (.cells #[.int .i64 n, (.slice va vl vc), .int .i64 e, (.slice ia il ic)] 64)).alloc (.cells #[.int .i64 0, .int .i64 0] 27) := ⟨_, rfl⟩
  have hb2 : Below w1.heap.size w1 w2 := by rw [hw2]; exact (balloc w1 _).alloc (by simp) _
  have hB1 : Below w0.heap.size w0 w2 := bcat2 hb1 hb2
  have hF1 : Blk w2 (w1.heap.size + 1) 27 [.int .i64 0, .int .i64 0] := by
    rw [hw2]
    have := blk0 (w := w1.alloc (.cells #[.int .i64 n, (.slice va vl vc), .int .i64 e, (.slice ia il ic)] 64)) (T := 27) (.int .i64 0) (.int .i64 0)
    rwa [World.size_alloc] at this
  have hH2 : Blk w2 w1.heap.size 64 [.int .i64 n, (.slice va vl vc), .int .i64 e, (.slice ia il ic)] := by
    rw [hw2]; exact (blk4 _ _ _ _).alloc _
  have hBw2 := bcat BG.bel hB1 BG.bel.size
  have hR2 := blk_below BG.res hB1
  have hT2 := hT.below hBw2
  have hGA2 : GA w2 n (.slice va vl vc) e (.slice ia il ic) zs := ⟨hg, hv.below hBw2, (hSI.below hb2).sl⟩
  obtain ⟨t0, t1, _, _⟩ := hF1.two
  obtain ⟨_, h0, h1, h2, h3, _⟩ := Four.mk' hH2
  have HZ1 := hide (Nat.le_trans HZ0.out hb1.size)
  have HZ2 := hide hb2.size
  rw [hw2] at t0 t1 h0 h1 h2 h3
  have hn := hg.tab.le
  go_wp2_with fail
  rw [← hw2]
  clear hw2 t0 t1 h0 h1 h2 h3
  refine (HOF.out _ _ hBw2 hGA2).mono ?_
  rintro x w3 ⟨y, rfl, ⟨K, g, c, rfl, HST, HEND, hrow3⟩, hb3⟩
  have HS := hide HST
  have HE := hide HEND
  have hBw3 := bcat2 hBw2 hb3
  have hR3 := blk_below hR2 hb3
  have hT3 := hT2.below hb3
  have hK := HST.meas
  have HC3 := hide (fun i (h : i < K + 1) => (show w3.cell? ⟨g, i, none⟩ = some (.int .u64 (bs (itr nx q0 i) n)) by
    have hc := hrow3.cells (g := g) rfl i _ (sets_at h)
    rwa [show (⟨g, 0, none⟩ : Addr).add i = ⟨g, i, none⟩ by unfold Addr.add; split <;> simp_all] at hc))
  clear HST HEND hrow3 HOF hcall
  have HLS := hide (fun W (p : Nat → Bool) (h : Below w3.heap.size w3 W) => list_ok n p W hn (hT3.below h))
  go_wp2_with fail
  go_loopw [8, 24] (fun ls iv wr => ∃ (i : Nat) (a : Option Addr) (cp : Nat) (vs : List Value), i ≤ K + 1 ∧ iv = .int .i64 i ∧ ls = .slice a vs.length cp ∧ wr.ownsRow w3.heap.size 22 1 (.slice a vs.length cp) vs.length vs ∧ Lsts wr w3.heap.size (.slice a vs.length cp) vs (sls n (itr nx q0) i) ∧ Below w3.heap.size w3 wr) (fun _ iv _ => K + 1 - (intOf iv).toNat)
  case atStart => exact ⟨0, none, 0, [], Nat.zero_le _, rfl, rfl, World.ownsRow_nil _ _ _ _, ⟨by simp [sls], fun t x l h1 _ => by simp at h1⟩, Below.refl _ _⟩
  case round =>
    obtain ⟨i, ra, rcap, vs, hiK, rfl, rfl, hrow, hls, hB⟩ := hrel
    have HVL := hide (show vs.length = i by rw [hls.1, sls_len])
    have hv61 : vs.length ≤ 61 := by rw [HVL.out]; omega
    by_cases hlt : i < K + 1
    · have hci := below_cell hB (HC3.out i hlt)
      have HB9 := hide (HLS.out wr (itr nx q0 i) hB)
      have HST := hide (sls_up n (itr nx q0) i)
      have hl60 : (li (lst n (itr nx q0 i))).length ≤ 60 := by rw [li_len]; exact Nat.le_trans (lst_len _ _) hn
      generalize li (lst n (itr nx q0 i)) = lj at *
      generalize bs (itr nx q0 i) n = s9 at *
      have hii : (i : Int) < (K : Int) + 1 := by omega
      go_wp2_with fail
      clear hci
      refine HB9.out.mono ?_
      rintro x w5 ⟨r9, rfl, hr9, hb5⟩
      have hB5 := bcat2 hB hb5
      have hrow5 := own_keep2 hrow (fun g _ h2 => hb5.block g h2)
      have hls5 : Lsts w5 w3.heap.size (.slice ra vs.length rcap) vs (sls n (itr nx q0) i) := hls.keep hb5.size (fun g _ h2 _ => hb5.block g h2) (.inl rfl)
      have hown2 : ∀ g, (Value.slice ra vs.length rcap).ownBlock = some g → g < wr.heap.size := fun g hg => (hrow.lt g hg).2
      obtain ⟨qa, qcap, qb, qo, rfl, hq, hq1, hq2, hq3, hq4⟩ := hr9
      have hs5 := hb5.size
      have hs3 := hB.size
      have HQ := hide hq
      clear hrow hls hb5 hq hB
      go_wp2_with (first
        | (at_builtin; refine wpList_append_own_at _ rfl _ _ 25 rfl w3.heap.size 22 i0 (.slice none 0 0) 1 24 und38s hi hz0 hz1 hz2 rfl (by decide) _ _ _ rfl (World.ownsRow.alloc hrow5 _) ⟨w5.heap.size, 0, none⟩ 1 1 [.slice qa lj.length qcap] rfl rfl ?c1 ?c2 ?c3 ?c4 ?c5 ?_))
      case c1 => exact cell_one_new _ _ _
      case c2 => simp [Value.oneCell']
      case c3 => unfold maxLen; omega
      case c4 => omega
      case c5 => simp; omega
      intro v' w8 hown' hgrow hnil hloc
      obtain ⟨ra', rcap', rfl⟩ := own_slice' hown'
      have hB8 : Below w3.heap.size w3 w8 := (hB5.alloc (by omega) _).grown hgrow (by simp; omega) (fun t e => by have := owns_ge hrow5 t e; omega)
      have hbl : ∀ g, g < w5.heap.size → (Value.slice ra vs.length rcap).ownBlock ≠ some g → w8.heap[g]? = w5.heap[g]? := fun g h1 h2 => (hgrow.block g (by simp; omega) (fun e => h2 e.symm)).trans (Below.block (balloc w5 _) g h1)
      have hs8 : w5.heap.size < w8.heap.size := by have := hgrow.size; simp at this; omega
      have hlo : (Value.slice ra' (vs.length + 1) rcap').ownBlock = (Value.slice ra vs.length rcap).ownBlock ∨ ∀ g, (Value.slice ra' (vs.length + 1) rcap').ownBlock = some g → w5.heap.size ≤ g := by
        rcases hloc with h | h
        · exact .inl h
        · right; intro g hg; rw [h] at hg; simp at hg; omega
      have hls8 := (hls5.keep (r' := .slice ra' (vs.length + 1) rcap') (by omega) (fun g _ h2 h3 => hbl g h2 h3) hlo).snoc (x := .slice qa lj.length qcap) (l := lj) ⟨qa, qcap, qb, qo, rfl, HQ.out.of_eq (hbl qb hq1 (fun e => by have := hown2 _ e; omega)), by omega, hq2, hq3, by omega, fun g hg e => by
        subst e
        rcases hlo with h | h
        · have := hown2 _ (h ▸ hg); omega
        · have := h _ hg; omega⟩
      have hrow8 : w8.ownsRow w3.heap.size 22 1 (.slice ra' (vs ++ [Value.slice qa lj.length qcap]).length rcap') (vs ++ [Value.slice qa lj.length qcap]).length (vs ++ [Value.slice qa lj.length qcap]) := by simpa using hown'
      have hls9 : Lsts w8 w3.heap.size (.slice ra' (vs ++ [Value.slice qa lj.length qcap]).length rcap') (vs ++ [Value.slice qa lj.length qcap]) (sls n (itr nx q0) (i + 1)) := by
        rw [HST.out]
        simpa using hls8
      clear hown' hgrow hloc hlo hbl hrow5 hls5 hB5 hls8
      go_wp2
      go_roundw
      case rel => exact ⟨i + 1, ra', rcap', _, by omega, by go_num, by simp, hrow8, hls9, hB8⟩
      case measure => simp [intOf]; omega
    · have hik : i = K + 1 := by omega
      subst hik
      have hii : ¬ (((K + 1 : Nat) : Int) < (K : Int) + 1) := by omega
      obtain ⟨g9, rfl⟩ : ∃ g9, ra = some ⟨g9, 0, none⟩ := by
        rcases hrow.2 with ⟨h1, h2⟩ | ⟨g', cap, cur, h1, _⟩
        · have := HVL.out; omega
        · injection h1 with h1; exact ⟨g', h1⟩
      have HRW := hide (Rws.of_own hrow hls)
      have HSL := hide (SlL.of_own hrow hls (Nat.lt_of_lt_of_le hT3.lt hB.size))
      rw [HVL.out] at HSL
      rw [HVL.out]
      have hBz := bcat2 hBw3 hB
      obtain ⟨_, y0, y1, fy0, fy1, s0, s1⟩ := Two.mk' (blk_below hR3 hB)
      clear hrow hls
      go_wp2
      exact bodyPost_ret (v := .tuple #[.slice (some ⟨g9, 0, none⟩) (K + 1) rcap, .agg #[.int .i64 0, .int .i64 0]]) (by simp [results, Tryd.results75, go_sem, y0, y1]) rfl ⟨_, rfl, ⟨K, g9, rcap, rfl, HS.out, HE.out, HRW.out, HSL.out⟩, hBz⟩
end Go.Proofs.YtolbpjjjoafkkaaDoor

namespace Go.Proofs.YtolbpjjjoafkkaaDoor
open Go Go.RowKit

theorem LisA.below {w w' : World} {n : Nat} {nx : (Nat → Bool) → Nat → Bool} {I : (Nat → Bool) → Prop} {M : (Nat → Bool) → Nat} {q0 : Nat → Bool} {y : Value} (h : LisA w n nx I M q0 y) (hb : Below w.heap.size w w') : LisA w' n nx I M q0 y := by
  obtain ⟨K, g, c, h1, h2, h3, h4, h5⟩ := h
  exact ⟨K, g, c, h1, h2, h3, h4.below hb, h5.below hb⟩
theorem call76 (x : Value) (W : World) : Sem.run Tryd.prog (callFunc 76 #[x]) W = .ok (.enter 76 #[x]) W := by kernel_rfl
theorem call77 (x : Value) (W : World) : Sem.run Tryd.prog (callFunc 77 #[x]) W = .ok (.enter 77 #[x]) W := by kernel_rfl
set_option maxRecDepth 100000 in
set_option maxHeartbeats 2000000 in
theorem sder_bad (N : Int) (v : Value) (zs : List Int) (w : World) (hv : Sl w v zs) (hc : (gfault N zs).1 ≠ 0) :
    Calls Tryd.prog 35 #[.agg #[.int .i64 N, v]] w fun x w' => x = .returned (.tuple #[.slice none 0 0, .agg #[.int .i64 (gfault N zs).1, .int .i64 (gfault N zs).2]]) ∧ Below w.heap.size w w' := by
  obtain ⟨w0, BG⟩ := Beg.new w N v
  obtain ⟨c0, c1, _, _⟩ := BG.box.two
  have hck := fun f => listed_bad N v f zs w0 (hv.below BG.bel) hc
  obtain ⟨c, i, hci⟩ : ∃ c i, gfault N zs = (c, i) := ⟨_, _, rfl⟩
  rw [hci] at hck hc ⊢
  simp only at hc hck
  have HCK := hide hck
  clear hck hci
  rw [BG.eq] at c0 c1
  go_enter Tryd.func35, Tryd.ntmps35
  go_wp2_with fail
  rw [← BG.eq]
  refine (HCK.out _).mono ?_
  rintro x w1 ⟨rfl, hb1⟩
  clear c0 c1
  have hR1 := blk_below BG.res hb1
  have hBw := bcat BG.bel hb1 BG.bel.size
  obtain ⟨y0, y1, fy0, fy1⟩ := hR1.two
  obtain ⟨hR6, hB6⟩ := put2 hR1 hBw (by omega) c i
  obtain ⟨z0, z1, _, _⟩ := hR6.two
  go_wp2
  exact bodyPost_ret (v := .tuple #[.slice none 0 0, .agg #[.int .i64 c, .int .i64 i]]) (by simp [results, Tryd.results35, go_sem, z0, z1]) rfl ⟨rfl, hB6⟩
set_option maxRecDepth 100000 in
set_option maxHeartbeats 2000000 in
theorem sder_good (n e : Nat) (v : Value) (zs : List Int) (w : World) (hv : Sl w v zs) (hg : IsGrp n zs e) (hT : Tab w) :
    Calls Tryd.prog 35 #[.agg #[.int .i64 n, v]] w fun x w' => ∃ y, x = .returned (.tuple #[y, .agg #[.int .i64 0, .int .i64 0]]) ∧ LisA w' n (fun q => cmb n zs e q q) (fun q => Fin.Sg (List.range n) (tm n zs) e (fun a => q a = true)) (fun q => (lst n q).length) (fun _ => true) y ∧ Below w.heap.size w w' := by
  obtain ⟨w0, BG⟩ := Beg.new w n v
  obtain ⟨c0, c1, _, _⟩ := BG.box.two
  have HCK := hide (listed_good n e 76 v zs (fun q => cmb n zs e q q) (fun q => Fin.Sg (List.range n) (tm n zs) e (fun a => q a = true)) (fun q => (lst n q).length) (fun _ => true) w0 (hv.below BG.bel) hg (hT.below BG.bel) (fun x W => call76 x W) (fun W u h hG => derived_ok n v u zs e W hG ((hT.below BG.bel).below h)))
  rw [BG.eq] at c0 c1
  go_enter Tryd.func35, Tryd.ntmps35
  go_wp2_with fail
  rw [← BG.eq]
  refine HCK.out.mono ?_
  rintro x w1 ⟨y, rfl, hl, hb1⟩
  clear c0 c1
  have hR1 := blk_below BG.res hb1
  have hBw := bcat BG.bel hb1 BG.bel.size
  obtain ⟨_, y0, y1, fy0, fy1, s0, s1⟩ := Two.mk' hR1
  go_wp2
  exact bodyPost_ret (v := .tuple #[y, .agg #[.int .i64 0, .int .i64 0]]) (by simp [results, Tryd.results35, go_sem, y0, y1]) rfl ⟨y, rfl, hl, hBw⟩
set_option maxRecDepth 100000 in
set_option maxHeartbeats 2000000 in
theorem slow_bad (N : Int) (v : Value) (zs : List Int) (w : World) (hv : Sl w v zs) (hc : (gfault N zs).1 ≠ 0) :
    Calls Tryd.prog 36 #[.agg #[.int .i64 N, v]] w fun x w' => x = .returned (.tuple #[.slice none 0 0, .agg #[.int .i64 (gfault N zs).1, .int .i64 (gfault N zs).2]]) ∧ Below w.heap.size w w' := by
  obtain ⟨w0, BG⟩ := Beg.new w N v
  obtain ⟨c0, c1, _, _⟩ := BG.box.two
  have hck := fun f => listed_bad N v f zs w0 (hv.below BG.bel) hc
  obtain ⟨c, i, hci⟩ : ∃ c i, gfault N zs = (c, i) := ⟨_, _, rfl⟩
  rw [hci] at hck hc ⊢
  simp only at hc hck
  have HCK := hide hck
  clear hck hci
  rw [BG.eq] at c0 c1
  go_enter Tryd.func36, Tryd.ntmps36
  go_wp2_with fail
  rw [← BG.eq]
  refine (HCK.out _).mono ?_
  rintro x w1 ⟨rfl, hb1⟩
  clear c0 c1
  have hR1 := blk_below BG.res hb1
  have hBw := bcat BG.bel hb1 BG.bel.size
  obtain ⟨y0, y1, fy0, fy1⟩ := hR1.two
  obtain ⟨hR6, hB6⟩ := put2 hR1 hBw (by omega) c i
  obtain ⟨z0, z1, _, _⟩ := hR6.two
  go_wp2
  exact bodyPost_ret (v := .tuple #[.slice none 0 0, .agg #[.int .i64 c, .int .i64 i]]) (by simp [results, Tryd.results36, go_sem, z0, z1]) rfl ⟨rfl, hB6⟩
set_option maxRecDepth 100000 in
set_option maxHeartbeats 2000000 in
theorem slow_good (n e : Nat) (v : Value) (zs : List Int) (w : World) (hv : Sl w v zs) (hg : IsGrp n zs e) (hT : Tab w) :
    Calls Tryd.prog 36 #[.agg #[.int .i64 n, v]] w fun x w' => ∃ y, x = .returned (.tuple #[y, .agg #[.int .i64 0, .int .i64 0]]) ∧ LisA w' n (fun q => cmb n zs e q fun _ => true) (Nsg n zs e) (fun q => (lst n q).length) (fun _ => true) y ∧ Below w.heap.size w w' := by
  obtain ⟨w0, BG⟩ := Beg.new w n v
  obtain ⟨c0, c1, _, _⟩ := BG.box.two
  have HCK := hide (listed_good n e 77 v zs (fun q => cmb n zs e q fun _ => true) (Nsg n zs e) (fun q => (lst n q).length) (fun _ => true) w0 (hv.below BG.bel) hg (hT.below BG.bel) (fun x W => call77 x W) (fun W u h hG => lower_ok n v u zs e W hG ((hT.below BG.bel).below h)))
  rw [BG.eq] at c0 c1
  go_enter Tryd.func36, Tryd.ntmps36
  go_wp2_with fail
  rw [← BG.eq]
  refine HCK.out.mono ?_
  rintro x w1 ⟨y, rfl, hl, hb1⟩
  clear c0 c1
  have hR1 := blk_below BG.res hb1
  have hBw := bcat BG.bel hb1 BG.bel.size
  obtain ⟨_, y0, y1, fy0, fy1, s0, s1⟩ := Two.mk' hR1
  go_wp2
  exact bodyPost_ret (v := .tuple #[y, .agg #[.int .i64 0, .int .i64 0]]) (by simp [results, Tryd.results36, go_sem, y0, y1]) rfl ⟨y, rfl, hl, hBw⟩
set_option maxRecDepth 100000 in
set_option maxHeartbeats 2000000 in
theorem ends_bad (c i : Int) (w : World) (hc : c ≠ 0) :
    Calls Tryd.prog 79 #[.slice none 0 0, .agg #[.int .i64 c, .int .i64 i]] w fun x w' => x = .returned (.tuple #[.bool false, .agg #[.int .i64 c, .int .i64 i]]) ∧ Below w.heap.size w w' := by
  have hcb : (c != 0) = true := by simpa using hc
  obtain ⟨w0, hw0⟩ : ∃ w0, w0 = (w.alloc (.cells #[.int .i64 c, .int .i64 i] 27)).alloc (.cells #[.int .i64 0, .int .i64 0] 27) := ⟨_, rfl⟩
  have hB0 : Below w.heap.size w w0 := by rw [hw0]; exact (balloc w _).alloc (by simp) _
  have hX0 : Blk w0 w.heap.size 27 [.int .i64 c, .int .i64 i] := by rw [hw0]; exact (blk0 (w := w) (T := 27) _ _).alloc _
  have hR0 : Blk w0 (w.heap.size + 1) 27 [.int .i64 0, .int .i64 0] := by
    rw [hw0]
    have := blk0 (w := w.alloc (.cells #[.int .i64 c, .int .i64 i] 27)) (T := 27) (.int .i64 0) (.int .i64 0)
    rwa [World.size_alloc] at this
  obtain ⟨c0, c1, _, _⟩ := hX0.two
  obtain ⟨y0, y1, fy0, fy1⟩ := hR0.two
  rw [hw0] at c0 c1 y0 y1
  go_enter Tryd.func79, Tryd.ntmps79
  go_wp2_with fail
  rw [← hw0]
  rw [← hw0] at c0 c1 y0 y1
  clear hw0
  go_region
  all_goals (
    go_wp2
    obtain ⟨hR6, hB6⟩ := put2 hR0 hB0 (by omega) c i
    have hB7 := bdrew hB6
    have hR7 : Blk ((w0.setCell ⟨w.heap.size + 1, 0, none⟩ (.int .i64 c)).setCell ⟨w.heap.size + 1, 1, none⟩ (.int .i64 i)).drew (w.heap.size + 1) 27 [.int .i64 c, .int .i64 i] := hR6
    generalize ((w0.setCell ⟨w.heap.size + 1, 0, none⟩ (.int .i64 c)).setCell ⟨w.heap.size + 1, 1, none⟩ (.int .i64 i)).drew = W at hR7 hB7 ⊢
    obtain ⟨z0, z1, _, _⟩ := hR7.two
    exact bodyPost_ret (v := .tuple #[.bool false, .agg #[.int .i64 c, .int .i64 i]]) (by simp [results, Tryd.results79, go_sem, z0, z1]) rfl ⟨rfl, hB7⟩)
set_option maxRecDepth 100000 in
set_option maxHeartbeats 2000000 in
theorem ends_good (g K c : Nat) (rs : List (List Int)) (w : World) (hR : Rws w g rs) (hl : rs.length = K + 1) (hK : K ≤ 60) :
    Calls Tryd.prog 79 #[.slice (some ⟨g, 0, none⟩) (K + 1) c, .agg #[.int .i64 0, .int .i64 0]] w fun x w' => x = .returned (.tuple #[.bool (((rs[K]?.getD []).length : Int) == 1), .agg #[.int .i64 0, .int .i64 0]]) ∧ Below w.heap.size w w' := by
  obtain ⟨w0, hw0⟩ : ∃ w0, w0 = (w.alloc (.cells #[.int .i64 0, .int .i64 0] 27)).alloc (.cells #[.int .i64 0, .int .i64 0] 27) := ⟨_, rfl⟩
  have hB0 : Below w.heap.size w w0 := by rw [hw0]; exact (balloc w _).alloc (by simp) _
  have hX0 : Blk w0 w.heap.size 27 [.int .i64 0, .int .i64 0] := by rw [hw0]; exact (blk0 (w := w) (T := 27) _ _).alloc _
  have hR0 : Blk w0 (w.heap.size + 1) 27 [.int .i64 0, .int .i64 0] := by
    rw [hw0]
    have := blk0 (w := w.alloc (.cells #[.int .i64 0, .int .i64 0] 27)) (T := 27) (.int .i64 0) (.int .i64 0)
    rwa [World.size_alloc] at this
  obtain ⟨a, cp, hc, _⟩ := (hR.below hB0) K (by omega)
  obtain ⟨c0, c1, _, _⟩ := hX0.two
  obtain ⟨_, y0, y1, fy0, fy1, s0, s1⟩ := Two.mk' hR0
  have hk1 : (((K + 1 : Nat) : Int) - 1) = (K : Int) := by omega
  generalize (rs[K]?.getD []).length = L9 at *
  rw [hw0] at c0 c1 hc y0 y1 fy0 fy1 s0 s1
  go_enter Tryd.func79, Tryd.ntmps79
  go_wp2
  rw [← hw0] at y0 y1 ⊢
  exact bodyPost_ret (v := .tuple #[.bool ((L9 : Int) == 1), .agg #[.int .i64 0, .int .i64 0]]) (by simp [results, Tryd.results79, go_sem, y0, y1]) rfl ⟨rfl, hB0⟩
end Go.Proofs.YtolbpjjjoafkkaaDoor

namespace Go.Proofs.YtolbpjjjoafkkaaDoor
open Go Go.RowKit

/-- How the lower series goes, and whether it ends with the one. -/
def NilA (n : Nat) (zs : List Int) (e : Nat) (b : Bool) : Prop := ∃ K : Nat, Stp n (fun q => cmb n zs e q fun _ => true) (Nsg n zs e) (fun q => (lst n q).length) (fun _ => true) K ∧ bs (itr (fun q => cmb n zs e q fun _ => true) (fun _ => true) (K + 1)) n = bs (itr (fun q => cmb n zs e q fun _ => true) (fun _ => true) K) n ∧ (b = true ↔ (lst n (itr (fun q => cmb n zs e q fun _ => true) (fun _ => true) K)).length = 1)
set_option maxRecDepth 100000 in
set_option maxHeartbeats 2000000 in
theorem nil_good (n e : Nat) (v : Value) (zs : List Int) (w : World) (hv : Sl w v zs) (hg : IsGrp n zs e) (hT : Tab w) :
    Calls Tryd.prog 39 #[.agg #[.int .i64 n, v]] w fun x w' => ∃ b, x = .returned (.tuple #[.bool b, .agg #[.int .i64 0, .int .i64 0]]) ∧ NilA n zs e b ∧ Below w.heap.size w w' := by
  obtain ⟨w0, BG⟩ := Beg.new w n v
  obtain ⟨c0, c1, _, _⟩ := BG.box.two
  have HCK := hide (slow_good n e v zs w0 (hv.below BG.bel) hg (hT.below BG.bel))
  rw [BG.eq] at c0 c1
  go_enter Tryd.func39, Tryd.ntmps39
  go_wp2_with fail
  rw [← BG.eq]
  refine HCK.out.mono ?_
  rintro x w1 ⟨y, rfl, ⟨K, g, c, rfl, hst, hend, hR, _⟩, hb1⟩
  clear c0 c1
  have hm := hst.meas
  have hS := sls_at (n := n) (f := itr (fun q => cmb n zs e q fun _ => true) (fun _ => true)) (k := K + 1) (i := K) (by omega)
  have HN := hide (show NilA n zs e (((lst n (itr (fun q => cmb n zs e q fun _ => true) (fun _ => true) K)).length : Int) == 1) from ⟨K, hst, hend, by rw [beq_iff_eq]; omega⟩)
  have HEN := hide (ends_good g K c _ w1 hR (sls_len _ _ _) (by omega))
  rw [hS, li_len] at HEN
  clear hst hend hS
  generalize (((lst n (itr (fun q => cmb n zs e q fun _ => true) (fun _ => true) K)).length : Int) == 1) = b at *
  go_wp2_with fail
  refine HEN.out.mono ?_
  rintro x w2 ⟨rfl, hb2⟩
  have hbb := bcat2 hb1 hb2
  have hR1 := blk_below BG.res hbb
  have hBw := bcat BG.bel hbb BG.bel.size
  obtain ⟨_, y0, y1, fy0, fy1, s0, s1⟩ := Two.mk' hR1
  go_wp2
  exact bodyPost_ret (v := .tuple #[.bool b, .agg #[.int .i64 0, .int .i64 0]]) (by simp [results, Tryd.results39, go_sem, y0, y1]) rfl ⟨b, rfl, HN.out, hBw⟩
set_option maxRecDepth 100000 in
set_option maxHeartbeats 2000000 in
theorem nil_bad (N : Int) (v : Value) (zs : List Int) (w : World) (hv : Sl w v zs) (hc : (gfault N zs).1 ≠ 0) :
    Calls Tryd.prog 39 #[.agg #[.int .i64 N, v]] w fun x w' => x = .returned (.tuple #[.bool false, .agg #[.int .i64 (gfault N zs).1, .int .i64 (gfault N zs).2]]) ∧ Below w.heap.size w w' := by
  obtain ⟨w0, BG⟩ := Beg.new w N v
  obtain ⟨c0, c1, _, _⟩ := BG.box.two
  have hck := slow_bad N v zs w0 (hv.below BG.bel) hc
  obtain ⟨c, i, hci⟩ : ∃ c i, gfault N zs = (c, i) := ⟨_, _, rfl⟩
  rw [hci] at hck hc ⊢
  simp only at hc hck
  have HCK := hide hck
  clear hck hci
  rw [BG.eq] at c0 c1
  go_enter Tryd.func39, Tryd.ntmps39
  go_wp2_with fail
  rw [← BG.eq]
  refine HCK.out.mono ?_
  rintro x w1 ⟨rfl, hb1⟩
  clear c0 c1
  go_wp2_with fail
  refine (ends_bad c i w1 hc).mono ?_
  rintro x w2 ⟨rfl, hb2⟩
  have hbb := bcat2 hb1 hb2
  have hR1 := blk_below BG.res hbb
  have hBw := bcat BG.bel hbb BG.bel.size
  obtain ⟨y0, y1, fy0, fy1⟩ := hR1.two
  obtain ⟨hR6, hB6⟩ := put2 hR1 hBw (by omega) c i
  obtain ⟨z0, z1, _, _⟩ := hR6.two
  go_wp2
  exact bodyPost_ret (v := .tuple #[.bool false, .agg #[.int .i64 c, .int .i64 i]]) (by simp [results, Tryd.results39, go_sem, z0, z1]) rfl ⟨rfl, hB6⟩
/-- The square's commutators. -/
theorem sq_cm : ∀ a, a < 8 → ∀ b, b < 8 → Fin.cm (tm 8 sqT) (iv 8 sqT 0) a b = 0 ∨ Fin.cm (tm 8 sqT) (iv 8 sqT 0) a b = 2 := by decide +kernel
theorem sq_cm2 : ∃ a, a < 8 ∧ ∃ b, b < 8 ∧ Fin.cm (tm 8 sqT) (iv 8 sqT 0) a b = 2 := by decide +kernel
theorem sq_cm3 : ∀ a, a < 8 → ∀ b, b < 8 → (a = 0 ∨ a = 2) → (b = 0 ∨ b = 2) → Fin.cm (tm 8 sqT) (iv 8 sqT 0) a b = 0 := by decide +kernel
theorem sq_sg : ∀ a, a < 8 → ∀ b, b < 8 → (a = 0 ∨ a = 2) → (b = 0 ∨ b = 2) → (tm 8 sqT a b = 0 ∨ tm 8 sqT a b = 2) := by decide +kernel
theorem sq_one : tm 8 sqT 0 0 = 0 := by decide +kernel
theorem sq_d1 {x : Nat} (hx : x < 8) : cmb 8 sqT 0 (fun _ => true) (fun _ => true) x = true ↔ (x = 0 ∨ x = 2) := by
  constructor
  · exact fun h => cmb_in (P := fun x => x = 0 ∨ x = 2) ⟨.inl rfl, fun a b ha hb h1 h2 => sq_sg a (List.mem_range.1 ha) b (List.mem_range.1 hb) h1 h2⟩ (fun a b ha hb _ _ => sq_cm a ha b hb) hx h
  · rintro (rfl | rfl)
    · exact (cmb_sg sqT_grp).one
    · obtain ⟨a, ha, b, hb, h⟩ := sq_cm2
      have := cmb_base (q := fun _ => true) (r := fun _ => true) sqT_grp ha hb rfl rfl
      rwa [h] at this
theorem sq_d2 {q : Nat → Bool} (hq : ∀ x, x < 8 → q x = true → (x = 0 ∨ x = 2)) {x : Nat} (hx : x < 8) : cmb 8 sqT 0 q q x = true ↔ x = 0 := by
  constructor
  · exact fun h => cmb_in (P := fun x => x = 0) ⟨rfl, fun a b _ _ h1 h2 => by rw [h1, h2]; exact sq_one⟩ (fun a b ha hb h1 h2 => sq_cm3 a ha b hb (hq a ha h1) (hq b hb h2)) hx h
  · rintro rfl
    exact (cmb_sg sqT_grp).one
theorem sq_series {I : (Nat → Bool) → Prop} {M : (Nat → Bool) → Nat} {K : Nat} (h : Stp 8 (fun q => cmb 8 sqT 0 q q) I M (fun _ => true) K) (hend : bs (itr (fun q => cmb 8 sqT 0 q q) (fun _ => true) (K + 1)) 8 = bs (itr (fun q => cmb 8 sqT 0 q q) (fun _ => true) K) 8) : K = 2 ∧ li (lst 8 (itr (fun q => cmb 8 sqT 0 q q) (fun _ => true) 1)) = [0, 2] := by
  have d1 : ∀ x, x < 8 → (itr (fun q => cmb 8 sqT 0 q q) (fun _ => true) 1 x = true ↔ (x = 0 ∨ x = 2)) := fun x hx => sq_d1 hx
  have d2 : ∀ x, x < 8 → (itr (fun q => cmb 8 sqT 0 q q) (fun _ => true) 2 x = true ↔ x = 0) := fun x hx => sq_d2 (fun x hx h => (d1 x hx).1 h) hx
  have d3 : ∀ x, x < 8 → (itr (fun q => cmb 8 sqT 0 q q) (fun _ => true) 3 x = true ↔ x = 0) := fun x hx => sq_d2 (fun x hx h => .inl ((d2 x hx).1 h)) hx
  refine ⟨?_, ?_⟩
  · match K, h, hend with
    | 0, _, hend =>
      have := bs_inj hend 1 (by omega)
      have h1 : itr (fun q => cmb 8 sqT 0 q q) (fun _ => true) 1 1 = true := this
      have := (d1 1 (by omega)).1 h1
      omega
    | 1, _, hend =>
      have h1 : itr (fun q => cmb 8 sqT 0 q q) (fun _ => true) 2 2 = itr (fun q => cmb 8 sqT 0 q q) (fun _ => true) 1 2 := bs_inj hend 2 (by omega)
      rw [(d1 2 (by omega)).2 (.inr rfl)] at h1
      have := (d2 2 (by omega)).1 h1
      omega
    | 2, _, _ => rfl
    | K + 3, h, _ =>
      exact absurd (bs_ext fun x hx => by rw [Bool.eq_iff_iff, d3 x hx, d2 x hx]) (h.go 2 (by omega))
  · rw [lst_congr (q := fun x => decide (x = 0 ∨ x = 2)) fun x hx => by rw [Bool.eq_iff_iff, d1 x hx, decide_eq_true_eq]]
    decide
set_option maxRecDepth 100000 in
set_option maxHeartbeats 2000000 in
theorem seriesBegun_any (w : World) (hT : Tab w) : Calls Tryd.prog 41 #[] w fun x w' => x = .returned (.bool true) ∧ Below w.heap.size w w' := by
  go_enter Tryd.func41, Tryd.ntmps41
  go_wp2_with fail
  refine (square_ok w).mono ?_
  rintro x w1 ⟨r, rfl, hrow, hb1⟩
  have h01 : 0 < w1.heap.size := Nat.lt_of_lt_of_le hT.lt hb1.size
  go_wp2_with fail
  refine (sder_good 8 0 r sqT w1 (row_sl hrow h01) sqT_grp (hT.below hb1)).mono ?_
  rintro x w2 ⟨y, rfl, ⟨K, g, c, rfl, hst, hend, hR, _⟩, hb2⟩
  obtain ⟨rfl, h02⟩ := sq_series hst hend
  have hs1 := sls_at (n := 8) (f := itr (fun q => cmb 8 sqT 0 q q) (fun _ => true)) (k := 3) (i := 1) (by omega)
  rw [h02] at hs1
  obtain ⟨a, cp, hc, hS⟩ := hR 1 (by rw [sls_len]; omega)
  rw [hs1] at hc hS
  clear hst hend hR h02 hs1
  have hb3 := balloc w2 (.cells #[.int .i64 0, .int .i64 0] 27)
  have hF3 := blk0 (w := w2) (T := 27) (.int .i64 0) (.int .i64 0)
  obtain ⟨t0, t1, _, _⟩ := hF3.two
  have hc3 := below_cell hb3 hc
  have hb4 : Below w2.heap.size w2 ((w2.alloc (.cells #[.int .i64 0, .int .i64 0] 27)).alloc (.cells #[.int .i64 0, .int .i64 2] 3)) := hb3.alloc hb3.size _
  have hL4 : Blk ((w2.alloc (.cells #[.int .i64 0, .int .i64 0] 27)).alloc (.cells #[.int .i64 0, .int .i64 2] 3)) (w2.heap.size + 1) 3 (([0, 2] : List Int).map (Value.int .i64)) := by
    have := blk0 (w := w2.alloc (.cells #[.int .i64 0, .int .i64 0] 27)) (T := 3) (.int .i64 0) (.int .i64 2)
    rwa [World.size_alloc] at this
  have hS4 := Sl.of_blk (n := 2) hL4 rfl (by simp)
  go_wp2_with fail
  generalize (w2.alloc (.cells #[.int .i64 0, .int .i64 0] 27)).alloc (.cells #[.int .i64 0, .int .i64 2] 3) = w4 at *
  refine (ints_any _ _ [0, 2] [0, 2] w4 (hS.below hb4) hS4).mono ?_
  rintro x w5 ⟨rfl, hb5⟩
  rw [show decide (([0, 2] : List Int) = ([0, 2] : List Int)) = true from rfl]
  go_wp2
  go_ret
  exact ⟨rfl, bcat2 (bcat2 (bcat2 hb1 hb2) hb4) hb5⟩
end Go.Proofs.YtolbpjjjoafkkaaDoor

namespace Go.Proofs.YtolbpjjjoafkkaaDoor
open Go Go.RowKit

set_option maxRecDepth 100000 in
set_option maxHeartbeats 2000000 in
theorem stays_ok (n : Nat) (w : World) (hn : n ≤ 60) :
    Calls Tryd.prog 81 #[.int .i64 n] w fun x w' => ∃ r, x = .returned r ∧ Row w' w.heap.size r (li (List.range n)) ∧ Below w.heap.size w w' := by
  obtain ⟨i0, hi, hz0, hz1, hz2⟩ := info_parts info3b
  go_enter Tryd.func81, Tryd.ntmps81
  go_wp2
  go_loopw [3, 4] (fun r i wr => ∃ k : Nat, k ≤ n ∧ i = .int .i64 k ∧ Row wr w.heap.size r (li (List.range k)) ∧ Below w.heap.size w wr) (fun _ i _ => n - (intOf i).toNat)
  case atStart => exact ⟨0, Nat.zero_le _, rfl, nil_row _ _, Below.refl _ _⟩
  case round =>
    obtain ⟨k, hk, rfl, hrow, hB⟩ := hrel
    obtain ⟨r, rfl⟩ : ∃ r, r = u3 := ⟨_, rfl⟩
    have hBs := hB.size
    by_cases hlt : k < n
    · have HLL := hide (show (li (List.range k)).length ≤ 60 by simp [li]; omega)
      have HE := hide (range_snoc k)
      have hown : wr.ownsRow w.heap.size 3 1 r (li (List.range k)).length ((li (List.range k)).map (Value.int .i64)) := hrow
      clear hrow
      generalize li (List.range k) = xs at *
      go_wp2_with (first
        | (at_builtin; refine wpList_append_own _ rfl _ _ 22 rfl w.heap.size 3 i0 (.int .i64 0) 1 8 under22b hi hz0 hz1 hz2 rfl (by decide) _ _ _ rfl (World.ownsRow.alloc hown _) ⟨wr.heap.size, 0, none⟩ 1 1 [.int .i64 k] rfl rfl ?c1 ?c2 ?c3 ?c4 ?c5 ?_))
      case c1 => exact cell_one_new _ _ _
      case c2 => simp [Value.oneCell']
      case c3 => unfold maxLen; have := HLL.out; omega
      case c4 => have := HLL.out; omega
      case c5 => simp; omega
      intro v' w2 hown' hgrow _
      obtain ⟨g', cap', rfl⟩ := ownsRow_succ hown'
      have hB2 : Below w.heap.size w w2 := (hB.alloc hBs _).grown hgrow (by simp; omega) (fun t e => owns_ge hown t e)
      have hrow2 : Row w2 w.heap.size (.slice (some ⟨g', 0, none⟩) (xs.length + 1) cap') (li (List.range (k + 1))) := by
        unfold Row
        rw [HE.out]
        simpa using hown'
      clear hown' hgrow hown
      go_wp2
      go_roundw
      case rel => exact ⟨k + 1, by omega, by go_num, hrow2, hB2⟩
      case measure => simp [intOf]; omega
    · have hkk : k = n := by omega
      subst hkk
      go_wp2
      go_ret
      exact ⟨_, rfl, hrow, hB⟩
set_option maxRecDepth 100000 in
set_option maxHeartbeats 4000000 in
theorem rcm_ok (n e a b : Nat) (v : Value) (zs : List Int) (w : World) (g : IsGrp n zs e) (hv : Sl w v zs) (ha : a < n) (hb : b < n) :
    Calls Tryd.prog 82 #[.agg #[.int .i64 n, v], .int .i64 a, .int .i64 b] w fun x w' => x = .returned (.int .i64 (Fin.cm (tm n zs) (iv n zs e) a b)) ∧ Below w.heap.size w w' := by
  have hB0 : Below w.heap.size w (w.alloc (.cells #[.int .i64 n, v] 24)) := balloc w _
  have hX0 : BoxG (w.alloc (.cells #[.int .i64 n, v] 24)) w.heap.size n v := blk0 _ _
  obtain ⟨w0, hw0⟩ : ∃ w0, w0 = w.alloc (.cells #[.int .i64 n, v] 24) := ⟨_, rfl⟩
  rw [← hw0] at hB0 hX0
  have hv0 := hv.below hB0
  obtain ⟨c0, c1, _, _⟩ := hX0.two
  obtain ⟨hia, _, _, _⟩ := iv_spec g ha
  obtain ⟨hib, _, _, _⟩ := iv_spec g hb
  have hab := tm_lt g.tab ha hb
  have hii := tm_lt g.tab hia hib
  show Calls Tryd.prog 82 _ w fun x w' => x = .returned (.int .i64 (tm n zs (tm n zs (iv n zs e a) (iv n zs e b)) (tm n zs a b))) ∧ Below w.heap.size w w'
  have HI := hide (fun W x (h : Below w0.heap.size w0 W) (hx : x < n) => Iiv_ok n x e v zs W g (hv0.below h) hx)
  have HM := hide (fun W x y (h : Below w0.heap.size w0 W) (hx : x < n) (hy : y < n) => M_ok n v zs x y W g.tab (hv0.below h) hx hy)
  have hS : ∀ W, Below w0.heap.size w0 W → (Below w0.heap.size w0 W ∧ W.cell? ⟨w.heap.size, 0, none⟩ = some (.int .i64 n) ∧ W.cell? ⟨w.heap.size, 1, none⟩ = some v) := fun W h => ⟨h, below_cell h c0, below_cell h c1⟩
  have hS0 := hS _ (bdrew (Below.refl _ w0))
  clear c0 c1
  go_enter Tryd.func82, Tryd.ntmps82
  go_wp2_with fail
  rw [← hw0]
  clear hw0
  go_region_held3 (fun W => Below w0.heap.size w0 W ∧ W.cell? ⟨w.heap.size, 0, none⟩ = some (.int .i64 n) ∧ W.cell? ⟨w.heap.size, 1, none⟩ = some v)
    (first | exact hS0 | assumption | exact hS _ (bcat2 (And.left ‹_›) hl1))
    (first
      | (go_at_call 64; refine (HI.out _ _ (And.left ‹_›) (by assumption)).mono ?_; rintro e1 U1 ⟨rfl, hl1⟩)
      | (go_at_call 65; refine (HM.out _ _ _ (And.left ‹_›) (by assumption) (by assumption)).mono ?_; rintro e1 U1 ⟨rfl, hl1⟩))
  all_goals (
    have hB9 := And.left ‹Below w0.heap.size w0 U1 ∧ _›
    clear hS hS0
    go_wp2
    go_ret
    exact ⟨rfl, bcat2 hB0 hB9⟩)
set_option maxRecDepth 100000 in
set_option maxHeartbeats 4000000 in
theorem sameGroup_any (N M : Int) (u v : Value) (xs ys : List Int) (w : World) (hu : Sl w u xs) (hv : Sl w v ys) :
    Calls Tryd.prog 42 #[.agg #[.int .i64 N, u], .agg #[.int .i64 M, v]] w fun e w' => e = .returned (.bool (decide (N = M) && decide (xs = ys))) ∧ Below w.heap.size w w' := by
  obtain ⟨w0, hw0⟩ : ∃ w0, w0 = (w.alloc (.cells #[.int .i64 N, u] 24)).alloc (.cells #[.int .i64 M, v] 24) := ⟨_, rfl⟩
  have hB0 : Below w.heap.size w w0 := by rw [hw0]; exact (balloc w _).alloc (by simp) _
  have hg0 : BoxG w0 w.heap.size N u := by rw [hw0]; exact (blk0 _ _).alloc _
  have hg1 : BoxG w0 (w.heap.size + 1) M v := by
    rw [hw0]
    have : Blk ((w.alloc (.cells #[.int .i64 N, u] 24)).alloc (.cells #[.int .i64 M, v] 24)) (w.alloc (.cells #[.int .i64 N, u] 24)).heap.size 24 [.int .i64 M, v] := blk0 _ _
    rw [World.size_alloc] at this; exact this
  obtain ⟨k0, k1, _, _⟩ := hg0.two
  obtain ⟨l0, l1, _, _⟩ := hg1.two
  have HI := hide (ints_any u v xs ys w0 (hu.below hB0) (hv.below hB0))
  rw [hw0] at k0 k1 l0 l1
  by_cases h : N = M
  · subst h
    have hb : (N == N) = true := by simp
    go_enter Tryd.func42, Tryd.ntmps42
    go_wp2_with fail
    rw [← hw0]
    refine HI.out.mono ?_
    rintro x w1 ⟨rfl, hb1⟩
    have hB1 := bcat hB0 hb1 hB0.size
    clear k0 k1 l0 l1 hw0
    go_wp2
    go_ret
    exact ⟨retB (by simp), hB1⟩
  · have hb : (N == M) = false := by simpa using h
    go_enter Tryd.func42, Tryd.ntmps42
    go_wp2
    rw [← hw0]
    go_ret
    exact ⟨retB (by simp [h]), hB0⟩
set_option maxRecDepth 100000 in
set_option maxHeartbeats 2000000 in
theorem lists_any (v u : Value) (rs ts : List (List Int)) (w : World) (hv : SlL w v rs) (hu : SlL w u ts) :
    Calls Tryd.prog 80 #[v, u] w fun x w' => x = .returned (.bool (decide (rs = ts))) ∧ Below w.heap.size w w' := by
  obtain ⟨va, vc, vb, vo, rfl, v1, v2, v3, v4, v5⟩ := hv
  obtain ⟨ua, uc, ub, uo, rfl, u1, u2, u3, u4, u5⟩ := hu
  have hm1 : rs.length ≤ 9223372036854775807 := by unfold maxLen at v5; omega
  have hm2 : ts.length ≤ 9223372036854775807 := by unfold maxLen at u5; omega
  have HV := hide v2
  have HU := hide u2
  clear v2 u2 v5 u5
  by_cases hlen : rs.length = ts.length
  · have HLEN := hide hlen
    rw [hlen] at v1 v4 hm1 ⊢
    clear hlen
    go_enter Tryd.func80, Tryd.ntmps80
    go_wp2
    go_loopw [5] (fun i wr => ∃ k : Nat, k ≤ ts.length ∧ i = .int .i64 k ∧ (∀ t, t < k → rs[t]?.getD [] = ts[t]?.getD []) ∧ Below w.heap.size w wr) (fun i _ => ts.length - (intOf i).toNat)
    case atStart => exact ⟨0, Nat.zero_le _, rfl, fun t ht => by omega, Below.refl _ _⟩
    case round =>
      obtain ⟨k, hk, rfl, hno, hB⟩ := hrel
      have HNO := hide hno
      clear hno
      by_cases hlt : k < ts.length
      · obtain rfl := v1 (by omega)
        obtain rfl := u1 (by omega)
        obtain ⟨x, hx, hsx⟩ := HV.out k (by rw [HLEN.out]; exact hlt)
        obtain ⟨y, hy, hsy⟩ := HU.out k (by omega)
        obtain ⟨x1, x2, x3, rfl⟩ := hsx.isSlice
        obtain ⟨y1, y2, y3, rfl⟩ := hsy.isSlice
        have hx := below_cell hB hx
        have hy := below_cell hB hy
        have hki : (k : Int) < (ts.length : Int) := by omega
        have HI := hide (fun W (h : Below wr.heap.size wr W) => ints_any (.slice x1 x2 x3) (.slice y1 y2 y3) (rs[k]?.getD []) (ts[k]?.getD []) W ((hsx.below hB).below h) ((hsy.below hB).below h))
        have hS : ∀ W, Below wr.heap.size wr W → (Below wr.heap.size wr W ∧ W.cell? ⟨vb, vo + k, none⟩ = some (.slice x1 x2 x3) ∧ W.cell? ⟨ub, uo + k, none⟩ = some (.slice y1 y2 y3)) := fun W h => ⟨h, below_cell h hx, below_cell h hy⟩
        have hS0 := hS _ (bdrew (Below.refl _ wr))
        clear hx hy hsx hsy
        by_cases he : rs[k]?.getD [] = ts[k]?.getD []
        · rw [decide_eq_true he] at HI
          have HE := hide he
          clear he
          go_wp2_with fail
          go_region_held3 (fun W => Below wr.heap.size wr W ∧ W.cell? ⟨vb, vo + k, none⟩ = some (.slice x1 x2 x3) ∧ W.cell? ⟨ub, uo + k, none⟩ = some (.slice y1 y2 y3))
            (first | exact hS0 | assumption | exact hS _ (bcat2 (And.left ‹_›) hl1))
            (first | (go_at_call 23; refine (HI.out _ (And.left ‹_›)).mono ?_; rintro e1 U1 ⟨rfl, hl1⟩))
          all_goals (
            have hB9 := And.left ‹Below wr.heap.size wr U1 ∧ _›
            go_wp2
            go_roundw
            case rel => exact ⟨k + 1, by omega, by go_num, fun t ht => by
              by_cases e9 : t = k
              · subst e9; exact HE.out
              · exact HNO.out t (by omega), bcat2 hB hB9⟩
            case measure => simp [intOf]; omega)
        · rw [decide_eq_false he] at HI
          have HD := hide (show decide (rs = ts) = false from decide_eq_false (fun e => he (by rw [e])))
          clear he
          go_wp2_with fail
          go_region_held3 (fun W => Below wr.heap.size wr W ∧ W.cell? ⟨vb, vo + k, none⟩ = some (.slice x1 x2 x3) ∧ W.cell? ⟨ub, uo + k, none⟩ = some (.slice y1 y2 y3))
            (first | exact hS0 | assumption | exact hS _ (bcat2 (And.left ‹_›) hl1))
            (first | (go_at_call 23; refine (HI.out _ (And.left ‹_›)).mono ?_; rintro e1 U1 ⟨rfl, hl1⟩))
          all_goals (
            have hB9 := And.left ‹Below wr.heap.size wr U1 ∧ _›
            go_wp2
            go_ret
            exact ⟨by rw [HD.out]; rfl, bcat2 hB hB9⟩)
      · have HD := hide (show decide (rs = ts) = true from decide_eq_true (List.ext_getElem HLEN.out fun t h1 h2 => by
          have := HNO.out t (by have := HLEN.out; omega)
          rw [List.getElem?_eq_getElem h1, List.getElem?_eq_getElem h2] at this
          exact this))
        go_wp2
        go_ret
        exact ⟨by rw [HD.out]; rfl, hB⟩
  · have hli : ¬ ((rs.length : Nat) : Int) = ((ts.length : Nat) : Int) := by omega
    have HD := hide (show decide (rs = ts) = false from decide_eq_false (fun e => hlen (by rw [e])))
    go_enter Tryd.func80, Tryd.ntmps80
    go_wp2
    go_ret
    exact ⟨by rw [HD.out]; rfl, Below.refl _ _⟩
set_option maxRecDepth 100000 in
set_option maxHeartbeats 8000000 in
theorem lsas_good (k : Nat) (caps : Array Value) (sv : Value) (xs ys : List (List Int)) (w : World) (hs : SlL w sv xs)
    (hcall : ∀ W, Sem.run Tryd.prog (callFunc k caps) W = .ok (.enter k caps) W)
    (hk : ∀ W, Below w.heap.size w W → Calls Tryd.prog k caps W fun x w' => ∃ r, x = .returned r ∧ SlL w' r ys ∧ Below W.heap.size W w') :
    Calls Tryd.prog 43 #[sv, .agg #[.int .i64 0, .int .i64 0], .agg #[.int .i64 0, .int .i64 0], .func (.func k) #[] caps] w fun x w' => x = .returned (.bool (decide (xs = ys))) ∧ Below w.heap.size w w' := by
  have hF1 : Blk ((w.alloc (.cells #[.int .i64 0, .int .i64 0] 27)).alloc (.cells #[.int .i64 0, .int .i64 0] 27)) w.heap.size 27 [.int .i64 0, .int .i64 0] := (blk0 _ _).alloc _
  have hF2 := blk0 (w := w.alloc (.cells #[.int .i64 0, .int .i64 0] 27)) (T := 27) (.int .i64 0) (.int .i64 0)
  rw [World.size_alloc] at hF2
  have hb : Below w.heap.size w ((w.alloc (.cells #[.int .i64 0, .int .i64 0] 27)).alloc (.cells #[.int .i64 0, .int .i64 0] 27)) := (balloc w _).alloc (by simp) _
  obtain ⟨f0, f1, _, _⟩ := hF1.two
  obtain ⟨g0, g1, _, _⟩ := hF2.two
  have HK := hide hk
  clear hk
  go_enter Tryd.func43, Tryd.ntmps43
  go_wp2_with fail
  generalize (w.alloc (.cells #[.int .i64 0, .int .i64 0] 27)).alloc (.cells #[.int .i64 0, .int .i64 0] 27) = w0 at *
  refine (HK.out w0 hb).mono ?_
  rintro x w1 ⟨r, rfl, hr, hb1⟩
  go_wp2_with fail
  refine (lists_any sv r xs ys w1 (hs.below (bcat2 hb hb1)) hr).mono ?_
  rintro x w2 ⟨rfl, hb2⟩
  go_wp2
  go_ret
  exact ⟨rfl, bcat2 (bcat2 hb hb1) hb2⟩
set_option maxRecDepth 100000 in
set_option maxHeartbeats 8000000 in
theorem lsas_nil (k : Nat) (caps : Array Value) (c i : Int) (r : Value) (w : World) (_h0 : 0 < w.heap.size) (hr : SlL w r []) (hc : c ≠ 0) :
    Calls Tryd.prog 43 #[r, .agg #[.int .i64 c, .int .i64 i], .agg #[.int .i64 c, .int .i64 i], .func (.func k) #[] caps] w fun x w' => x = .returned (.bool true) ∧ Below w.heap.size w w' := by
  obtain ⟨ra, rc, _, _, rfl, _, _, _, _, _⟩ := hr
  have hcb : (c != 0) = true := by simpa using hc
  have hF1 : Blk ((w.alloc (.cells #[.int .i64 c, .int .i64 i] 27)).alloc (.cells #[.int .i64 c, .int .i64 i] 27)) w.heap.size 27 [.int .i64 c, .int .i64 i] := (blk0 _ _).alloc _
  have hF2 := blk0 (w := w.alloc (.cells #[.int .i64 c, .int .i64 i] 27)) (T := 27) (.int .i64 c) (.int .i64 i)
  rw [World.size_alloc] at hF2
  have hb : Below w.heap.size w ((w.alloc (.cells #[.int .i64 c, .int .i64 i] 27)).alloc (.cells #[.int .i64 c, .int .i64 i] 27)) := (balloc w _).alloc (by simp) _
  obtain ⟨f0, f1, _, _⟩ := hF1.two
  obtain ⟨g0, g1, _, _⟩ := hF2.two
  show Calls Tryd.prog 43 #[.slice ra 0 rc, .agg #[.int .i64 c, .int .i64 i], .agg #[.int .i64 c, .int .i64 i], .func (.func k) #[] caps] w _
  go_enter Tryd.func43, Tryd.ntmps43
  go_wp2
  go_ret
  exact ⟨rfl, hb⟩
theorem under72b : Tryd.prog.underlying 110 = some (.slice 4) := by kernel_rfl
theorem callSp (a : Int) (x : Value) (W : World) : Sem.run Tryd.prog (callFunc 111 (#[.int .i64 a] ++ #[x])) W = .ok (.enter 111 (#[.int .i64 a] ++ #[x])) W := by kernel_rfl
set_option maxRecDepth 100000 in
theorem spn1_ok (n a xb ib : Nat) (p : Nat → Bool) (w : World) (ha : a < n) (hx : Boxed w xb 110 (.slice (some ⟨ib, 0, none⟩) n n)) (hb : Blk w ib 4 ((bm n p).map Value.bool)) :
    Calls Tryd.prog 111 (#[.int .i64 a] ++ #[.pointer (some ⟨xb, 0, none⟩)]) w fun y w' => y = .returned (.bool (p a)) ∧ Below w.heap.size w w' := by
  show Calls Tryd.prog 111 #[.int .i64 a, .pointer (some ⟨xb, 0, none⟩)] w _
  have c0 := hx.cell
  have c1 := hb.bool (y := a) (by rw [bm_len]; exact ha)
  rw [bm_get ha] at c1
  have hai : (a : Int) < (n : Int) := by omega
  go_enter Tryd.func111, Tryd.ntmps111
  go_wp2
  go_ret
  exact ⟨rfl, Below.refl _ _⟩
/-- How the search's memory stands. -/
structure SpS (w wr : World) (n : Nat) (v : Value) (xb : Nat) (p : Nat → Bool) : Prop where
  box : BoxG wr w.heap.size n v
  blk : Blk wr (w.heap.size + 1) 4 ((bm n p).map Value.bool)
  ind : Boxed wr xb 110 (.slice (some ⟨w.heap.size + 1, 0, none⟩) n n)
  bel : Below w.heap.size w wr
  xlt : w.heap.size + 1 < xb
theorem SpS.below {w wr W : World} {n xb : Nat} {v : Value} {p : Nat → Bool} (h : SpS w wr n v xb p) (hb : Below wr.heap.size wr W) : SpS w W n v xb p :=
  ⟨blk_below h.box hb, blk_below h.blk hb, Boxed.below h.ind hb, bcat h.bel hb h.bel.size, h.xlt⟩
theorem SpS.put {w wr : World} {n xb y : Nat} {v : Value} {p : Nat → Bool} (h : SpS w wr n v xb p) : SpS w (wr.setCell ⟨w.heap.size + 1, y, none⟩ (.bool true)) n v xb (fun a => p a || decide (a = y)) :=
  ⟨h.box.other (p := ⟨w.heap.size + 1, y, none⟩) (by simp) _, by rw [← bm_set]; exact h.blk.setBool y true, (Below.heap_setCell _ _ _ xb (by have := h.xlt; simp; omega)).trans h.ind, h.bel.setCell (p := ⟨w.heap.size + 1, y, none⟩) (by simp) _, h.xlt⟩
theorem SpS.drew {w wr : World} {n xb : Nat} {v : Value} {p : Nat → Bool} (h : SpS w wr n v xb p) : SpS w wr.drew n v xb p := ⟨h.box, h.blk, h.ind, bdrew h.bel, h.xlt⟩
theorem SpS.drewN {w wr : World} {n xb : Nat} {v : Value} {p : Nat → Bool} (h : SpS w wr n v xb p) (k : Nat) : SpS w (wr.drewN k) n v xb p := ⟨h.box, h.blk, h.ind, bdrewN h.bel k, h.xlt⟩
theorem SpS.cells {w wr : World} {n xb : Nat} {v : Value} {p : Nat → Bool} (h : SpS w wr n v xb p) : wr.cell? ⟨w.heap.size, 0, none⟩ = some (.int .i64 n) ∧ wr.cell? ⟨w.heap.size, 1, none⟩ = some v ∧ wr.cell? ⟨xb, 0, none⟩ = some (.slice (some ⟨w.heap.size + 1, 0, none⟩) n n) := ⟨h.box.two.1, h.box.two.2.1, h.ind.cell⟩
theorem SpS.bit {w wr : World} {n xb y : Nat} {v : Value} {p : Nat → Bool} (h : SpS w wr n v xb p) (hy : y < n) : wr.cell? ⟨w.heap.size + 1, y, none⟩ = some (.bool (p y)) ∧ wr.frozen? ⟨w.heap.size + 1, y, none⟩ = false := by
  refine ⟨?_, h.blk.frozen y⟩
  have := h.blk.bool (y := y) (by rw [bm_len]; exact hy)
  rwa [bm_get hy] at this
set_option maxRecDepth 100000 in
set_option maxHeartbeats 40000000 in
theorem span_ok (n e : Nat) (v u : Value) (zs : List Int) (xs : List Nat) (p : Nat → Bool) (w : World) (hv : Sl w v zs) (hg : IsGrp n zs e) (hu : Sl w u (li xs)) (hx : ∀ x, x ∈ xs → x < n) (hxl : xs.length ≤ 100000) (hp : ∀ a, a < n → (p a = true ↔ Mkd n zs e (fun a => decide (a ∈ xs)) a)) :
    Calls Tryd.prog 83 #[.agg #[.int .i64 n, v], u] w fun x w' => ∃ r, x = .returned r ∧ Row w' w.heap.size r (li (lst n p)) ∧ Below w.heap.size w w' := by
  obtain ⟨i0, hi, hz0, hz1, hz2⟩ := info_parts info4b
  have hn := hg.tab.le
  have hpos := hg.tab.pos
  have hB0 : Below w.heap.size w (w.alloc (.cells #[.int .i64 n, v] 24)) := balloc w _
  have hX0 : BoxG (w.alloc (.cells #[.int .i64 n, v] 24)) w.heap.size n v := blk0 _ _
  obtain ⟨c0, c1, _, _⟩ := hX0.two
  obtain ⟨ua, ucap, upb, upo, rfl, hur, hup, huq, hum⟩ := id hu
  rw [li_len] at huq ⊢
  have HUR := hide hur
  have HUL := hide (li_len xs)
  have HX := hide hx
  have HP := hide hp
  clear hur hx hp hum
  go_enter Tryd.func83, Tryd.ntmps83
  go_wp2_with (first
    | (at_make; refine wpList_make_full _ rfl _ _ 110 rfl (w.heap.size + 1) 4 i0 (.bool false) 1 under72b hi hz0 hz1 _ _ _ _ n rfl rfl rfl rfl (by rw [hz2]; omega) (by unfold maxLen; omega) (by simp) ?_))
  intro w2 hown hgr
  have hM2 : Blk w2 (w.heap.size + 1) 4 ((bm n fun _ => false).map Value.bool) := by
    have := Blk.of_owns hown
    rw [made_rep] at this
    rw [bm_none, List.map_replicate]; exact this
  have hB2 : Below w.heap.size w w2 := hB0.grown hgr hB0.size (by simp)
  have hX2 := hX0.grown hgr (by simp)
  clear hown hgr c0 c1 hX0 hB0
  have hB3 := hB2.alloc hB2.size (.cells #[.slice (some ⟨w.heap.size + 1, 0, none⟩) n n] 110)
  have hX3 := hX2.alloc (.cells #[.slice (some ⟨w.heap.size + 1, 0, none⟩) n n] 110)
  have hM3 := hM2.alloc (.cells #[.slice (some ⟨w.heap.size + 1, 0, none⟩) n n] 110)
  have hI3 := Boxed.new w2 110 (.slice (some ⟨w.heap.size + 1, 0, none⟩) n n)
  have hs2 := hM2.lt
  have hQ3 : SpS w (w2.alloc (.cells #[.slice (some ⟨w.heap.size + 1, 0, none⟩) n n] 110)) n v w2.heap.size (fun _ => false) := ⟨hX3, hM3, hI3, hB3, hs2⟩
  obtain ⟨c0, c1, c2⟩ := hQ3.cells
  have HE := hide (fun W (h : Below w.heap.size w W) => E_ok n v zs W hg.tab (hv.below h))
  rw [hg.one] at HE
  have HM := hide (fun W a b (h : Below w.heap.size w W) (ha : a < n) (hb : b < n) => M_ok n v zs a b W hg.tab (hv.below h) ha hb)
  have helt := hg.elt
  have hei : (e : Int) < (n : Int) := by omega
  go_wp2_with fail
  clear hB3 hX3 hM3 hI3 hM2 hX2 hB2 c0 c1 c2
  generalize w2.alloc (.cells #[.slice (some ⟨w.heap.size + 1, 0, none⟩) n n] 110) = w3 at *
  generalize w2.heap.size = xb at *
  have hS : ∀ U, Below w3.heap.size w3 U → (Below w.heap.size w U ∧ U.cell? ⟨w.heap.size, 0, none⟩ = some (.int .i64 n) ∧ U.cell? ⟨w.heap.size, 1, none⟩ = some v ∧ U.cell? ⟨xb, 0, none⟩ = some (.slice (some ⟨w.heap.size + 1, 0, none⟩) n n)) := fun U hU => ⟨(hQ3.below hU).bel, (hQ3.below hU).cells⟩
  have hS3 : ∀ U, Below w3.heap.size w3 U → (Below w.heap.size w (U.setCell ⟨w.heap.size + 1, e, none⟩ (.bool true)) ∧ (U.setCell ⟨w.heap.size + 1, e, none⟩ (.bool true)).cell? ⟨w.heap.size, 0, none⟩ = some (.int .i64 n) ∧ (U.setCell ⟨w.heap.size + 1, e, none⟩ (.bool true)).cell? ⟨w.heap.size, 1, none⟩ = some v ∧ (U.setCell ⟨w.heap.size + 1, e, none⟩ (.bool true)).cell? ⟨xb, 0, none⟩ = some (.slice (some ⟨w.heap.size + 1, 0, none⟩) n n)) := fun U hU => ⟨((hQ3.below hU).put (y := e)).bel, ((hQ3.below hU).put (y := e)).cells⟩
  have hS0 := hS _ (bdrew (Below.refl _ w3))
  go_region_held3 (fun U => Below w.heap.size w U ∧ U.cell? ⟨w.heap.size, 0, none⟩ = some (.int .i64 n) ∧ U.cell? ⟨w.heap.size, 1, none⟩ = some v ∧ U.cell? ⟨xb, 0, none⟩ = some (.slice (some ⟨w.heap.size + 1, 0, none⟩) n n))
    (first | exact hS0 | assumption | exact hS _ hl2 | exact hS3 _ hl2)
    (first | (go_at_call 63; refine (HE.out _ (And.left ‹_›)).mono ?_; rintro e9 V1 ⟨rfl, hl1⟩; have hl2 := undrew' hl1; have hc1 := ((hQ3.below hl2).bit (y := e) helt).1; have hf1 := ((hQ3.below hl2).bit (y := e) helt).2))
  have hP9 := ((hQ3.below hl2).put (y := e))
  clear hS hS3 hS0 hc1 hf1
  generalize V1.setCell ⟨w.heap.size + 1, e, none⟩ (.bool true) = w4 at *
  go_wp2
  go_loopw [6] (fun i wr => ∃ k : Nat, k ≤ xs.length ∧ i = .int .i64 k ∧ SpS w wr n v xb (fun a => decide (a = e) || decide (a ∈ xs.take k))) (fun i _ => xs.length - (intOf i).toNat)
  case atStart => exact ⟨0, Nat.zero_le _, rfl, by simpa using hP9⟩
  case round =>
    obtain ⟨k, hk, rfl, hSk⟩ := hrel
    clear hP9 hl1 hl2
    obtain ⟨c0, c1, c2⟩ := hSk.cells
    by_cases hlt : k < xs.length
    · have hck := (HUR.out.below hSk.bel hup).cell k (by rw [HUL.out]; exact hlt)
      rw [li_get hlt] at hck
      obtain rfl := HUR.out.at_ (by rw [HUL.out]; omega)
      obtain ⟨x, hxe⟩ : ∃ x, xs[k] = x := ⟨_, rfl⟩
      have hxn : x < n := by rw [← hxe]; exact HX.out _ (List.getElem_mem hlt)
      have HSN := hide (show (fun a => (decide (a = e) || decide (a ∈ xs.take k)) || decide (a = x)) = fun a => decide (a = e) || decide (a ∈ xs.take (k + 1)) by
        funext a
        rw [← hxe]
        simp only [List.take_succ_eq_append_getElem hlt, List.mem_append, List.mem_singleton, Bool.decide_or, Bool.or_assoc])
      rw [hxe] at hck
      clear hxe
      have hxi : (x : Int) < (n : Int) := by omega
      obtain ⟨b0, b1⟩ := hSk.bit hxn
      have hP := (hSk.put (y := x)).drew
      rw [HSN.out] at hP
      go_wp2_with fail
      go_region
      all_goals (
        clear c0 c1 c2 hck b0 b1
        go_wp2
        go_roundw
        case rel => exact ⟨k + 1, by omega, by go_num, hP⟩
        case measure => simp [intOf]; omega)
    · have hkn : k = xs.length := by omega
      subst hkn
      rw [List.take_length] at hSk
      have hst : ∀ q' : Nat → Bool, (∀ a, q' a = (decide (a = e) || decide (a ∈ xs))) → Spn n zs e (fun a => decide (a ∈ xs)) q' q' false 0 0 := fun q' hq => Spn.start (by rw [hq]; simp) (fun a _ h => by rw [hq]; simp at h; simp [h]) (fun a ha h => by
        rw [hq] at h
        simp only [Bool.or_eq_true, decide_eq_true_eq] at h
        rcases h with rfl | h
        · exact (Fin.Gen.sg _).one
        · exact Fin.Gen.base (List.mem_range.2 ha) (by simpa using h))
      have hst0 := hst _ (fun a => rfl)
      clear hst
      generalize (fun a => decide (a = e) || decide (a ∈ xs)) = q0 at hSk hst0
      go_wp2
      go_loopw [7] (fun s7 wr => ∃ (ag : Bool) (q : Nat → Bool), s7 = .bool ag ∧ SpS w wr n v xb q ∧ Spn n zs e (fun a => decide (a ∈ xs)) q q false 0 0 ∧ (ag = false → ∀ a, a < n → (q a = true ↔ Mkd n zs e (fun a => decide (a ∈ xs)) a))) (fun s7 wr => if boolOf s7 then cntB (w.heap.size + 1) wr + 1 else 0)
      case atStart => exact ⟨true, q0, rfl, hSk, hst0, fun h => by cases h⟩
      case round =>
        obtain ⟨ag, q, rfl, hZ0, hN0, hfin⟩ := hrel
        have HCN := hide (cntB_blk hZ0.blk)
        clear c0 c1 c2
        cases ag with
        | false =>
          have HFI := hide (hfin rfl)
          have hlq : lst n q = lst n p := lst_congr fun a ha => by rw [Bool.eq_iff_iff, HFI.out a ha, HP.out a ha]
          obtain ⟨c0, c1, c2⟩ := hZ0.cells
          go_wp2_with fail
          have HTH := hide (rthose_ok n 111 v #[.pointer (some ⟨xb, 0, none⟩)] q wr hn (fun a W => callSp a _ W) (fun W a hW ha => spn1_ok n a xb (w.heap.size + 1) q W ha (hZ0.below hW).ind (hZ0.below hW).blk))
          rw [hlq] at HTH
          refine HTH.out.mono ?_
          rintro x w9 ⟨r, rfl, hr, hb9⟩
          go_wp2
          go_ret
          exact ⟨_, rfl, owns_mono hr hZ0.bel.size, bcat hZ0.bel hb9 hZ0.bel.size⟩
        | true =>
          clear hfin
          go_wp2
          go_loopw [7, 8] (fun s7 s8 wx => ∃ (ag' : Bool) (q' : Nat → Bool) (a : Nat), a ≤ n ∧ s7 = .bool ag' ∧ s8 = .int .i64 a ∧ SpS w wx n v xb q' ∧ Spn n zs e (fun a => decide (a ∈ xs)) q q' ag' a 0) (fun _ s8 _ => n - (intOf s8).toNat)
          case atStart => exact ⟨false, q, 0, by omega, rfl, rfl, hZ0, hN0⟩
          case round =>
            obtain ⟨ag', q', a, ha, rfl, rfl, hZ, hN⟩ := hrel
            obtain ⟨c0, c1, c2⟩ := hZ.cells
            by_cases hla : a < n
            · have hai : (a : Int) < (n : Int) := by omega
              go_wp2
              clear c0 c1 c2
              go_loopw [7, 9] (fun s7 s9 wx => ∃ (ag' : Bool) (q' : Nat → Bool) (b : Nat), b ≤ n ∧ s7 = .bool ag' ∧ s9 = .int .i64 b ∧ SpS w wx n v xb q' ∧ Spn n zs e (fun a => decide (a ∈ xs)) q q' ag' a b) (fun _ s9 _ => n - (intOf s9).toNat)
              case atStart => exact ⟨ag', q', 0, by omega, rfl, rfl, hZ, hN⟩
              case round =>
                clear hZ hN
                obtain ⟨ag', q', b, hb, rfl, rfl, hZ, hN⟩ := hrel
                obtain ⟨c0, c1, c2⟩ := hZ.cells
                by_cases hlb : b < n
                · have hbi : (b : Int) < (n : Int) := by omega
                  obtain ⟨ba, bf1⟩ := hZ.bit hla
                  obtain ⟨bb, bf2⟩ := hZ.bit hlb
                  cases hqa : q' a with
                  | false =>
                    rw [hqa] at ba
                    go_wp2_with fail
                    go_quiet (fail)
                    have hZq := hZ.drewN nq
                    have hNq := hN.skip (fun h1 h2 => by rw [hqa] at h1; cases h1)
                    clear c0 c1 c2 ba bb bf1 bf2
                    generalize wr.drewN nq = wq at *
                    go_wp2
                    go_roundw
                    case rel => exact ⟨ag', q', b + 1, by omega, rfl, by go_num, hZq, hNq⟩
                    case measure => simp [intOf]; omega
                  | true =>
                    rw [hqa] at ba
                    cases hqb : q' b with
                    | false =>
                      rw [hqb] at bb
                      go_wp2_with fail
                      go_quiet (fail)
                      have hZq := hZ.drewN nq
                      have hNq := hN.skip (fun h1 h2 => by rw [hqb] at h2; cases h2)
                      clear c0 c1 c2 ba bb bf1 bf2
                      generalize wr.drewN nq = wq at *
                      go_wp2
                      go_roundw
                      case rel => exact ⟨ag', q', b + 1, by omega, rfl, by go_num, hZq, hNq⟩
                      case measure => simp [intOf]; omega
                    | true =>
                      rw [hqb] at bb
                      have htn := tm_lt hg.tab hla hlb
                      have HMt := hide (fun W (h : Below w.heap.size w W) => HM.out W a b h hla hlb)
                      cases hqt : q' (tm n zs a b) with
                      | true =>
                        have hNs := hN.skip (fun _ _ => hqt)
                        generalize tm n zs a b = t at *
                        have hti : (t : Int) < (n : Int) := by omega
                        obtain ⟨t0, _⟩ := hZ.bit htn
                        rw [hqt] at t0
                        have hS : ∀ W, Below wr.heap.size wr W → (Below wr.heap.size wr W ∧ W.cell? ⟨w.heap.size, 0, none⟩ = some (.int .i64 n) ∧ W.cell? ⟨w.heap.size, 1, none⟩ = some v ∧ W.cell? ⟨xb, 0, none⟩ = some (.slice (some ⟨w.heap.size + 1, 0, none⟩) n n) ∧ W.cell? ⟨w.heap.size + 1, a, none⟩ = some (.bool true) ∧ W.cell? ⟨w.heap.size + 1, b, none⟩ = some (.bool true) ∧ W.cell? ⟨w.heap.size + 1, t, none⟩ = some (.bool true)) := fun W h => by
                          obtain ⟨x0, x1, x2⟩ := (hZ.below h).cells
                          exact ⟨h, x0, x1, x2, below_cell h ba, below_cell h bb, below_cell h t0⟩
                        have hS0 := hS _ (bdrew (Below.refl _ wr))
                        go_wp2_with fail
                        go_region_held3 (fun W => Below wr.heap.size wr W ∧ W.cell? ⟨w.heap.size, 0, none⟩ = some (.int .i64 n) ∧ W.cell? ⟨w.heap.size, 1, none⟩ = some v ∧ W.cell? ⟨xb, 0, none⟩ = some (.slice (some ⟨w.heap.size + 1, 0, none⟩) n n) ∧ W.cell? ⟨w.heap.size + 1, a, none⟩ = some (.bool true) ∧ W.cell? ⟨w.heap.size + 1, b, none⟩ = some (.bool true) ∧ W.cell? ⟨w.heap.size + 1, t, none⟩ = some (.bool true))
                          (first | exact hS0 | assumption | exact hS _ (bcat2 (And.left ‹_›) hl1))
                          (first | (go_at_call 65; refine (HMt.out _ (bcat hZ.bel (And.left ‹_›) hZ.bel.size)).mono ?_; rintro e1 U1 ⟨rfl, hl1⟩))
                        have hBU := And.left ‹Below wr.heap.size wr U1 ∧ _›
                        have hZU := hZ.below hBU
                        clear hS hS0 hl1 c0 c1 c2 ba bb bf1 bf2 t0
                        all_goals (
                          go_wp2
                          go_roundw
                          case rel => exact ⟨ag', q', b + 1, by omega, rfl, by go_num, hZU, hNs⟩
                          case measure => simp [intOf]; omega)
                      | false =>
                        have hNh := hN.hit hg hla hlb hqa hqb hqt
                        generalize tm n zs a b = t at *
                        have hti : (t : Int) < (n : Int) := by omega
                        obtain ⟨t0, _⟩ := hZ.bit htn
                        rw [hqt] at t0
                        have hS : ∀ W, Below wr.heap.size wr W → (Below wr.heap.size wr W ∧ W.cell? ⟨w.heap.size, 0, none⟩ = some (.int .i64 n) ∧ W.cell? ⟨w.heap.size, 1, none⟩ = some v ∧ W.cell? ⟨xb, 0, none⟩ = some (.slice (some ⟨w.heap.size + 1, 0, none⟩) n n) ∧ W.cell? ⟨w.heap.size + 1, a, none⟩ = some (.bool true) ∧ W.cell? ⟨w.heap.size + 1, b, none⟩ = some (.bool true) ∧ W.cell? ⟨w.heap.size + 1, t, none⟩ = some (.bool false)) := fun W h => by
                          obtain ⟨x0, x1, x2⟩ := (hZ.below h).cells
                          exact ⟨h, x0, x1, x2, below_cell h ba, below_cell h bb, below_cell h t0⟩
                        have hS0 := hS _ (bdrew (Below.refl _ wr))
                        go_wp2_with fail
                        go_region_held3 (fun W => Below wr.heap.size wr W ∧ W.cell? ⟨w.heap.size, 0, none⟩ = some (.int .i64 n) ∧ W.cell? ⟨w.heap.size, 1, none⟩ = some v ∧ W.cell? ⟨xb, 0, none⟩ = some (.slice (some ⟨w.heap.size + 1, 0, none⟩) n n) ∧ W.cell? ⟨w.heap.size + 1, a, none⟩ = some (.bool true) ∧ W.cell? ⟨w.heap.size + 1, b, none⟩ = some (.bool true) ∧ W.cell? ⟨w.heap.size + 1, t, none⟩ = some (.bool false))
                          (first | exact hS0 | assumption | exact hS _ (bcat2 (And.left ‹_›) hl1))
                          (first | (go_at_call 65; refine (HMt.out _ (bcat hZ.bel (And.left ‹_›) hZ.bel.size)).mono ?_; rintro e1 U1 ⟨rfl, hl1⟩))
                        have hBU := And.left ‹Below wr.heap.size wr U1 ∧ _›
                        have hZU := hZ.below hBU
                        clear hS hS0 hl1 c0 c1 c2 ba bb bf1 bf2 t0
                        obtain ⟨c0, c1, c2⟩ := hZU.cells
                        go_wp2_with fail
                        clear c0 c1 c2
                        have hS : ∀ U, Below U1.heap.size U1 U → (Below w.heap.size w U ∧ U.cell? ⟨w.heap.size, 0, none⟩ = some (.int .i64 n) ∧ U.cell? ⟨w.heap.size, 1, none⟩ = some v ∧ U.cell? ⟨xb, 0, none⟩ = some (.slice (some ⟨w.heap.size + 1, 0, none⟩) n n)) := fun U hU => ⟨(hZU.below hU).bel, (hZU.below hU).cells⟩
                        have hS3 : ∀ U, Below U1.heap.size U1 U → (Below w.heap.size w (U.setCell ⟨w.heap.size + 1, t, none⟩ (.bool true)) ∧ (U.setCell ⟨w.heap.size + 1, t, none⟩ (.bool true)).cell? ⟨w.heap.size, 0, none⟩ = some (.int .i64 n) ∧ (U.setCell ⟨w.heap.size + 1, t, none⟩ (.bool true)).cell? ⟨w.heap.size, 1, none⟩ = some v ∧ (U.setCell ⟨w.heap.size + 1, t, none⟩ (.bool true)).cell? ⟨xb, 0, none⟩ = some (.slice (some ⟨w.heap.size + 1, 0, none⟩) n n)) := fun U hU => ⟨((hZU.below hU).put (y := t)).bel, ((hZU.below hU).put (y := t)).cells⟩
                        have hS0 := hS _ (bdrew (Below.refl _ U1))
                        go_region_held3 (fun U => Below w.heap.size w U ∧ U.cell? ⟨w.heap.size, 0, none⟩ = some (.int .i64 n) ∧ U.cell? ⟨w.heap.size, 1, none⟩ = some v ∧ U.cell? ⟨xb, 0, none⟩ = some (.slice (some ⟨w.heap.size + 1, 0, none⟩) n n))
                          (first | exact hS0 | assumption | exact hS _ hl2 | exact hS3 _ hl2)
                          (first | (go_at_call 65; refine (HMt.out _ (And.left ‹_›)).mono ?_; rintro e9 V1 ⟨rfl, hl1⟩; have hl2 := undrew' hl1; have hc1 := ((hZU.below hl2).bit (y := t) htn).1; have hf1 := ((hZU.below hl2).bit (y := t) htn).2))
                        have hP9 := ((hZU.below hl2).put (y := t))
                        clear hS hS3 hS0 hc1 hf1
                        generalize V1.setCell ⟨w.heap.size + 1, t, none⟩ (.bool true) = wv at *
                        go_wp2
                        go_roundw
                        case rel => exact ⟨true, _, b + 1, by omega, rfl, by go_num, hP9, hNh⟩
                        case measure => simp [intOf]; omega
                · have hNr := hN.row (by omega)
                  have hbn : b = n := by omega
                  subst hbn
                  clear hN
                  go_wp2
                  go_roundw
                  case rel => exact ⟨ag', q', a + 1, by omega, rfl, by go_num, hZ, hNr⟩
                  case measure => simp [intOf]; omega
            · have hst9 := Spn.start hN.one hN.base hN.made
              have HMO := hide hN.more
              have HFN : Hid (ag' = false → ∀ x, x < n → (q' x = true ↔ Mkd n zs e (fun a => decide (a ∈ xs)) x)) := fun hag => by subst hag; exact hN.fin (by omega)
              have HC9 := hide (cntB_blk hZ.blk)
              go_wp2
              go_roundw
              case rel => exact ⟨ag', q', rfl, hZ, hst9, HFN.out⟩
              case measure =>
                simp only [boolOf, HC9.out, HCN.out]
                cases hag : ag' with
                | false => simp
                | true => have := HMO.out hag; simp; omega
end Go.Proofs.YtolbpjjjoafkkaaDoor

namespace Go.Proofs.YtolbpjjjoafkkaaDoor
open Go Go.RowKit

noncomputable def fl (n : Nat) (zs : List Int) (e : Nat) (b : Bool) (q : Nat → Bool) : Nat → Bool := cmb n zs e q (if b then fun _ => true else q)
def cmL (n : Nat) (zs : List Int) (e : Nat) (xs ys : List Nat) : List Nat := xs.flatMap fun x => ys.map fun y => Fin.cm (tm n zs) (iv n zs e) x y
theorem cmL_dec (n : Nat) (zs : List Int) (e : Nat) (xs ys : List Nat) : (fun a => decide (a ∈ cmL n zs e xs ys)) = cmq n zs e xs ys := by
  funext a
  rw [Bool.eq_iff_iff, decide_eq_true_eq]
  unfold cmL cmq
  simp
theorem cmL_up (n : Nat) (zs : List Int) (e : Nat) (xs ys : List Nat) (x : Nat) : cmL n zs e (xs ++ [x]) ys = cmL n zs e xs ys ++ ys.map fun y => Fin.cm (tm n zs) (iv n zs e) x y := by
  unfold cmL
  simp
theorem cmL_len (n : Nat) (zs : List Int) (e : Nat) (ys : List Nat) : ∀ xs : List Nat, (cmL n zs e xs ys).length = xs.length * ys.length
  | [] => by simp [cmL]
  | x :: xs => by
    have h := cmL_len n zs e ys xs
    unfold cmL at h ⊢
    rw [List.flatMap_cons, List.length_append, h, List.length_map, List.length_cons, Nat.add_mul]
    omega
theorem cmL_lt {n e : Nat} {zs : List Int} (g : IsGrp n zs e) {xs ys : List Nat} (hx : ∀ x, x ∈ xs → x < n) (hy : ∀ y, y ∈ ys → y < n) : ∀ a, a ∈ cmL n zs e xs ys → a < n := fun a ha => by
  unfold cmL at ha
  obtain ⟨x, h1, h2⟩ := List.mem_flatMap.1 ha
  obtain ⟨y, h3, rfl⟩ := List.mem_map.1 h2
  exact cm_lt g (hx x h1) (hy y h3)
theorem lst_all (n : Nat) : lst n (fun _ => true) = List.range n := by
  unfold lst
  exact List.filter_eq_self.2 (fun _ _ => rfl)
theorem li_same {n : Nat} {p q : Nat → Bool} : li (lst n p) = li (lst n q) ↔ bs p n = bs q n := by
  constructor
  · intro h
    have h1 := lst_inj.1 (li_inj h)
    exact bs_ext fun a ha => by rw [Bool.eq_iff_iff]; exact h1 a ha
  · intro h
    rw [lst_congr (bs_inj h)]
theorem li_app (xs ys : List Nat) : li (xs ++ ys) = li xs ++ li ys := by simp [li]
theorem row_up {w w' : World} {B : Nat} {v : Value} {zs : List Int} (h : Row w B v zs) (hb : Below w.heap.size w w') : Row w' B v zs := own_keep2 h (fun g _ h2 => hb.block g h2)
theorem row_slf {w : World} {B : Nat} {v : Value} {xs : List Int} (h : Row w B v xs) (h0 : 0 < xs.length) : ∃ g c, v = .slice (some ⟨g, 0, none⟩) xs.length c ∧ SlF B w (.slice (some ⟨g, 0, none⟩) xs.length c) xs := by
  rcases h.2 with ⟨_, h2⟩ | ⟨g, cap, cur, h1, _⟩
  · omega
  · subst h1
    exact ⟨g, cap, rfl, SlF.of_own rfl h⟩
theorem sg_pos {n e : Nat} {q : Nat → Bool} (he : e < n) (h : q e = true) : 0 < (li (lst n q)).length := by
  rw [li_len]
  exact List.length_pos_of_mem (mem_lst.2 ⟨he, h⟩)
set_option maxRecDepth 100000 in
set_option maxHeartbeats 8000000 in
theorem fallF_ok (n e : Nat) (v : Value) (zs : List Int) (I : (Nat → Bool) → Prop) (w : World) (hv : Sl w v zs) (hg : IsGrp n zs e) (hI0 : I (fun _ => true)) (hI : ∀ q, I q → bs (fl n zs e false q) n ≠ bs q n → I (fl n zs e false q) ∧ (lst n (fl n zs e false q)).length < (lst n q).length) :
    Calls Tryd.prog 45 #[.agg #[.int .i64 n, v], .bool false] w fun x w' => ∃ K y, x = .returned y ∧ Stp n (fl n zs e false) I (fun q => (lst n q).length) (fun _ => true) K ∧ bs (itr (fl n zs e false) (fun _ => true) (K + 1)) n = bs (itr (fl n zs e false) (fun _ => true) K) n ∧ SlL w' y (sls n (itr (fl n zs e false) (fun _ => true)) (K + 1)) ∧ Below w.heap.size w w' := by
  have hn := hg.tab.le
  obtain ⟨i0, hi, hz0, hz1, hz2⟩ := info_parts info22b
  obtain ⟨i3, hi3, hy0, hy1, hy2⟩ := info_parts info3b
  have HI := hide hI
  clear hI
  obtain ⟨w0, hw0⟩ : ∃ w0, w0 = w.alloc (.cells #[.int .i64 n, v] 24) := ⟨_, rfl⟩
  have hB0 : Below w.heap.size w w0 := by rw [hw0]; exact balloc w _
  have hX0 : BoxG w0 w.heap.size n v := by rw [hw0]; exact blk0 (w := w) (T := 24) _ _
  have hpos9 : 0 < w0.heap.size := by rw [hw0]; simp
  obtain ⟨c0, c1, _, _⟩ := hX0.two
  rw [hw0] at c0 c1
  go_enter Tryd.func45, Tryd.ntmps45
  go_wp2_with fail
  rw [← hw0]
  clear c0 c1 hw0
  refine (stays_ok n _ hn).mono ?_
  rintro x w1 ⟨sv, rfl, hsr, hb1⟩
  rw [← lst_all] at hsr
  have hpos1 : 0 < w1.heap.size := Nat.lt_of_lt_of_le hpos9 hb1.size
  have hs1 := row_sl hsr hpos1
  obtain ⟨sg1, sc1, rfl, hsf1⟩ := row_slf hsr (sg_pos hg.elt rfl)
  have hsl1 := hsf1.sl
  obtain ⟨qa, qcap, qb, qo, hqe, hq, hq1, hq2, hq3, hq4⟩ := hsf1
  rw [hqe] at hsl1 ⊢
  have hrow0 : (w1.alloc (.cells #[.slice qa (li (lst n fun _ => true)).length qcap] 22)).ownsRow w0.heap.size 22 1 (.slice (some ⟨w1.heap.size, 0, none⟩) 1 1) 1 [.slice qa (li (lst n fun _ => true)).length qcap] := World.ownsRow_lit (e := 22) (size := 1) w1 #[.slice qa (li (lst n fun _ => true)).length qcap] 1 hb1.size (by unfold maxLen; omega) rfl
  have hbA := balloc w1 (.cells #[.slice qa (li (lst n fun _ => true)).length qcap] 22)
  have hls0 : Lsts (w1.alloc (.cells #[.slice qa (li (lst n fun _ => true)).length qcap] 22)) w0.heap.size (.slice (some ⟨w1.heap.size, 0, none⟩) 1 1) [.slice qa (li (lst n fun _ => true)).length qcap] (sls n (itr (fl n zs e false) (fun _ => true)) 1) := by
    refine ⟨by simp [sls], fun t x l h1 h2 => ?_⟩
    match t, h1, h2 with
    | 0, h1, h2 =>
      simp [sls, itr] at h1 h2
      subst h1 h2
      exact ⟨qa, qcap, qb, qo, by simp, hq.below hbA hq1, by simp; omega, hq2, hq3, hq4, fun g hg => by simp [Value.ownBlock] at hg; omega⟩
  have hslA := hsl1.below hbA
  have hBA := bcat2 hb1 hbA
  have HLN := hide (li_len (lst n fun _ => true))
  generalize hL1 : (li (lst n fun _ => true)).length = L1 at *
  clear hsr hs1 hsl1 hq hq1 hq2 hq3 hq4 hbA hqe
  go_wp2_with fail
  generalize w1.alloc (.cells #[.slice qa L1 qcap] 22) = wA at *
  go_loopw [5, 6] (fun s5 s6 wr => ∃ (i : Nat) (sa : Option Addr) (sc : Nat) (oa : Option Addr) (oc : Nat) (vs : List Value), s5 = .slice sa (li (lst n (itr (fl n zs e false) (fun _ => true) i))).length sc ∧ s6 = .slice oa vs.length oc ∧ Hid (Stp n (fl n zs e false) I (fun q => (lst n q).length) (fun _ => true) i) ∧ Sl wr (.slice sa (li (lst n (itr (fl n zs e false) (fun _ => true) i))).length sc) (li (lst n (itr (fl n zs e false) (fun _ => true) i))) ∧ wr.ownsRow w0.heap.size 22 1 (.slice oa vs.length oc) vs.length vs ∧ Lsts wr w0.heap.size (.slice oa vs.length oc) vs (sls n (itr (fl n zs e false) (fun _ => true)) (i + 1)) ∧ Below w0.heap.size w0 wr) (fun _ s6 _ => 70 - lenOf s6)
  case atStart => exact ⟨0, qa, qcap, some ⟨w1.heap.size, 0, none⟩, 1, [.slice qa L1 qcap], by rw [show itr (fl n zs e false) (fun _ => true) 0 = (fun _ => true) from rfl, hL1], rfl, hide ⟨fun i h => by omega, fun i h => by rw [show i = 0 by omega]; exact hI0, by show (lst n fun _ => true).length + 0 ≤ 60; rw [lst_all, List.length_range]; omega⟩, by rw [show itr (fl n zs e false) (fun _ => true) 0 = (fun _ => true) from rfl, hL1]; exact hslA, hrow0, hls0, hBA⟩
  case round =>
    clear hrow0 hls0 hBA hslA hI0 hL1 HLN hb1 hpos1
    obtain ⟨i, sa, sc, oa, oc, vs, rfl, rfl, HS, hsl, hrow, hls, hB⟩ := hrel
    have hm := HS.out.meas
    have HUP := hide (show itr (fl n zs e false) (fun _ => true) (i + 1) = cmb n zs e (itr (fl n zs e false) (fun _ => true) i) (itr (fl n zs e false) (fun _ => true) i) from rfl)
    have hXr := blk_below hX0 hB
    obtain ⟨c0, c1, _, _⟩ := hXr.two
    have hpr : 0 < wr.heap.size := Nat.lt_of_lt_of_le hpos9 hB.size
    obtain ⟨w4, hw4⟩ : ∃ w4, w4 = wr := ⟨_, rfl⟩
    have hb4 : Below wr.heap.size wr w4 := by rw [hw4]; exact Below.refl _ _
    have hm4 : Sl w4 (.slice sa (li (lst n (itr (fl n zs e false) (fun _ => true) i))).length sc) (li (lst n (itr (fl n zs e false) (fun _ => true) i))) := by rw [hw4]; exact hsl
    rw [← hw4]
    clear c0 c1 hw4
    obtain ⟨xs, hxs⟩ : ∃ xs, xs = lst n (itr (fl n zs e false) (fun _ => true) i) := ⟨_, rfl⟩
    have HXS := hide hxs
    rw [← hxs] at hsl hm ⊢
    have HYS := HXS
    have hyl : xs.length ≤ 60 := by rw [hxs]; exact Nat.le_trans (lst_len _ _) hn
    have HYN := hide (show ∀ y, y ∈ xs → y < n from fun y h => by rw [hxs] at h; exact (mem_lst.1 h).1)
    rw [← hxs] at hm4
    have hxl : xs.length ≤ 60 := by rw [hxs]; exact Nat.le_trans (lst_len _ _) hn
    have HXN := hide (show ∀ x, x ∈ xs → x < n from fun x h => by rw [hxs] at h; exact (mem_lst.1 h).1)
    clear hxs
    have hsl4 := hsl.below hb4
    have hB4 := bcat2 hB hb4
    have hX4 := blk_below hX0 hB4
    have hrow4 := own_keep2 hrow (fun g _ h2 => hb4.block g h2)
    have hls4 : Lsts w4 w0.heap.size (.slice oa vs.length oc) vs (sls n (itr (fl n zs e false) (fun _ => true)) (i + 1)) := hls.keep hb4.size (fun g _ h2 _ => hb4.block g h2) (.inl rfl)
    clear hsl hrow hls hXr
    obtain ⟨sa', sc', sb, so, hse, hsr, hsp, hsq, hsm⟩ := id hsl4
    obtain ⟨ma', mc', mb, mo, hme, hmr4, hmp, hmq, hmm⟩ := id hm4
    have HLX := hide (li_len xs)
    have HLY := hide (li_len xs)
    have HSR := hide hsr
    have HMR := hide hmr4
    injection hse with hse1 hse2 hse3
    subst hse1 hse3
    injection hme with hme1 hme2 hme3
    subst hme1 hme3
    clear hsr hmr4 hse2 hme2
    rw [HLX.out] at hsl4 hsq ⊢
    rw [HLY.out] at hm4 hmq
    try rw [HLY.out]
    go_wp2_with fail
    go_loopw [8, 9] (fun cv i9 wr => ∃ (k : Nat) (ca : Option Addr) (cc : Nat), k ≤ xs.length ∧ i9 = .int .i64 k ∧ cv = .slice ca (li (cmL n zs e (xs.take k) xs)).length cc ∧ Row wr w4.heap.size (.slice ca (li (cmL n zs e (xs.take k) xs)).length cc) (li (cmL n zs e (xs.take k) xs)) ∧ Below w4.heap.size w4 wr) (fun _ i9 _ => xs.length - (intOf i9).toNat)
    case atStart => exact ⟨0, none, 0, Nat.zero_le _, rfl, rfl, nil_row _ _, Below.refl _ _⟩
    case round =>
      obtain ⟨k, ca, cc, hk, rfl, rfl, hrc, hb⟩ := hrel
      by_cases hlt : k < xs.length
      · have hki : (k : Int) < (xs.length : Int) := by omega
        have hck := (HSR.out.below hb hsp).cell k (by rw [HLX.out]; exact hlt)
        rw [li_get hlt] at hck
        obtain rfl := HSR.out.at_ (by rw [HLX.out]; omega)
        obtain ⟨x, hxe⟩ : ∃ x, xs[k] = x := ⟨_, rfl⟩
        have hxn : x < n := by rw [← hxe]; exact HXN.out _ (List.getElem_mem hlt)
        have hsn : xs.take (k + 1) = xs.take k ++ [x] := by rw [List.take_succ_eq_append_getElem hlt, hxe]
        rw [hxe] at hck
        have HSN := hide hsn
        have HXE := hide hxe
        clear hxe hsn
        have HLC := hide (show (cmL n zs e (xs.take k) xs).length ≤ 3600 by
          rw [cmL_len]
          have h1 : (xs.take k).length ≤ 60 := by rw [List.length_take]; omega
          exact Nat.mul_le_mul h1 hyl)
        generalize hcs : cmL n zs e (xs.take k) xs = cs at *
        have HCS := hide hcs
        clear hcs
        go_wp2_with fail
        go_loopw [8, 10] (fun cv i9 wr => ∃ (j : Nat) (ca : Option Addr) (cc : Nat), j ≤ xs.length ∧ i9 = .int .i64 j ∧ cv = .slice ca (li (cs ++ (xs.take j).map fun y => Fin.cm (tm n zs) (iv n zs e) x y)).length cc ∧ Row wr w4.heap.size (.slice ca (li (cs ++ (xs.take j).map fun y => Fin.cm (tm n zs) (iv n zs e) x y)).length cc) (li (cs ++ (xs.take j).map fun y => Fin.cm (tm n zs) (iv n zs e) x y)) ∧ Below w4.heap.size w4 wr) (fun _ i9 _ => xs.length - (intOf i9).toNat)
        case atStart => exact ⟨0, ca, cc, Nat.zero_le _, rfl, by simp, by simpa using hrc, hb⟩
        case round =>
          clear hrc hb hck
          obtain ⟨j, ca, cc, hj, rfl, rfl, hrc, hb⟩ := hrel
          by_cases hltj : j < xs.length
          · have hji : (j : Int) < (xs.length : Int) := by omega
            have hck := (HSR.out.below hb hsp).cell k (by rw [HLX.out]; exact hlt)
            rw [li_get hlt, HXE.out] at hck
            have hck4 := HSR.out.cell k (by rw [HLX.out]; exact hlt)
            rw [li_get hlt, HXE.out] at hck4
            have hcj := (HMR.out.below hb hmp).cell j (by rw [HLY.out]; exact hltj)
            rw [li_get hltj] at hcj
            have hcj4 := HMR.out.cell j (by rw [HLY.out]; exact hltj)
            rw [li_get hltj] at hcj4
            have hma := HMR.out.at_ (by rw [HLY.out]; omega)
            injection hma with hma
            injection hma with hma1 hma2
            subst hma1 hma2
            obtain ⟨y, hye⟩ : ∃ y, xs[j] = y := ⟨_, rfl⟩
            have hyn : y < n := by rw [← hye]; exact HYN.out _ (List.getElem_mem hltj)
            have hsj : xs.take (j + 1) = xs.take j ++ [y] := by rw [List.take_succ_eq_append_getElem hltj, hye]
            rw [hye] at hcj hcj4
            have HSJ := hide (show li (cs ++ (xs.take (j + 1)).map fun y => Fin.cm (tm n zs) (iv n zs e) x y) = li (cs ++ (xs.take j).map fun y => Fin.cm (tm n zs) (iv n zs e) x y) ++ [((Fin.cm (tm n zs) (iv n zs e) x y : Nat) : Int)] by
              rw [hsj, List.map_append, ← List.append_assoc, li_app]
              rfl)
            have HLC2 := hide (show (li (cs ++ (xs.take j).map fun y => Fin.cm (tm n zs) (iv n zs e) x y)).length ≤ 3660 by
              rw [li_len, List.length_append, List.length_map, List.length_take]
              have := HLC.out
              omega)
            clear hye hsj
            have hXb := blk_below hX4 hb
            obtain ⟨c0, c1, _, _⟩ := hXb.two
            have HCM := hide (fun W (h : Below w4.heap.size w4 W) => rcm_ok n e x y v zs W hg (hv.below (bcat2 (bcat2 hB0 hB4) h)) hxn hyn)
            generalize Fin.cm (tm n zs) (iv n zs e) x y = t at *
            generalize li (cs ++ (xs.take j).map fun y => Fin.cm (tm n zs) (iv n zs e) x y) = lc at *
            have hown : wr.ownsRow w4.heap.size 3 1 (.slice ca lc.length cc) lc.length (lc.map (Value.int .i64)) := hrc
            have hs4 := hb.size
            obtain ⟨d0, d1, _, _⟩ := hX4.two
            have hS : ∀ W, Below w4.heap.size w4 W → (Below w4.heap.size w4 W ∧ W.cell? ⟨w.heap.size, 0, none⟩ = some (.int .i64 n) ∧ W.cell? ⟨w.heap.size, 1, none⟩ = some v ∧ W.cell? ⟨sb, so + k, none⟩ = some (.int .i64 x) ∧ W.cell? ⟨sb, so + j, none⟩ = some (.int .i64 y)) := fun W h => ⟨h, below_cell h d0, below_cell h d1, below_cell h hck4, below_cell h hcj4⟩
            have hS0 := hS _ (bdrew hb)
            clear hck4 hcj4 d0 d1
            go_wp2_with fail
            clear c0 c1 hck hcj
            go_region_held3 (fun W => Below w4.heap.size w4 W ∧ W.cell? ⟨w.heap.size, 0, none⟩ = some (.int .i64 n) ∧ W.cell? ⟨w.heap.size, 1, none⟩ = some v ∧ W.cell? ⟨sb, so + k, none⟩ = some (.int .i64 x) ∧ W.cell? ⟨sb, so + j, none⟩ = some (.int .i64 y))
              (first | exact hS0 | assumption | exact hS _ (bcat2 (And.left ‹_›) hl5) | exact hS _ (bcat2 hU5 (balloc _ _)) | exact hS _ hB9)
              (first
                | (go_at_call 82; refine (HCM.out _ (And.left ‹_›)).mono ?_; rintro e5 U5 ⟨rfl, hl5⟩; have hU5 := bcat2 (And.left ‹_›) hl5; have hr5 := own_keep2 (W := wr) hown (fun g _ h2 => hl5.block g h2); have hs5 := hl5.size)
                | (refine step_append_lies _ rfl _ _ 22 rfl w4.heap.size 3 i3 (.int .i64 0) 1 8 under22b hi3 hy0 hy1 hy2 rfl (by decide) _ _ _ rfl (World.ownsRow.alloc hr5 _) ⟨U5.heap.size, 0, none⟩ 1 1 [.int .i64 t] rfl rfl (cell_one_new _ _ _) (by simp [Value.oneCell']) (by decide) (by unfold maxLen; have := HLC2.out; omega) (by have := HLC2.out; omega) (by have := hU5.size; simp; omega) _ rfl ?_; intro g9 cap9 w9 hown9 hgrow hloc _; have hB9 : Below w4.heap.size w4 w9 := (hU5.alloc hU5.size _).grown hgrow (by have := hU5.size; simp; omega) (fun t e9 => owns_ge hr5 t e9)))
            all_goals (
              have hrow9 : Row w9 w4.heap.size (.slice (some ⟨g9, 0, none⟩) (li (cs ++ (xs.take (j + 1)).map fun y => Fin.cm (tm n zs) (iv n zs e) x y)).length cap9) (li (cs ++ (xs.take (j + 1)).map fun y => Fin.cm (tm n zs) (iv n zs e) x y)) := by
                rw [HSJ.out]
                unfold Row
                simpa using hown9
              clear hown9 hgrow hloc hr5 hown hrc
              go_wp2
              go_roundw
              case rel => exact ⟨j + 1, some ⟨g9, 0, none⟩, cap9, by omega, by go_num, by rw [HSJ.out]; simp, hrow9, hB9⟩
              case measure => simp [intOf]; omega)
          · have hjn : j = xs.length := by omega
            have HE := hide (show cs ++ (xs.take j).map (fun y => Fin.cm (tm n zs) (iv n zs e) x y) = cmL n zs e (xs.take (k + 1)) xs by
              rw [hjn, List.take_length, HSN.out, cmL_up, HCS.out])
            have hji : ¬ (j : Int) < (xs.length : Int) := by omega
            rw [HE.out] at hrc ⊢
            go_wp2
            go_roundw
            case rel => exact ⟨k + 1, ca, cc, by omega, by go_num, rfl, hrc, hb⟩
            case measure => simp [intOf]; omega
      · have hkn : k = xs.length := by omega
        have hki : ¬ (k : Int) < (xs.length : Int) := by omega
        rw [hkn, List.take_length] at hrc ⊢
        have HSP := hide (fun W u (h : Below w4.heap.size w4 W) (hu : Sl W u (li (cmL n zs e xs xs))) => span_ok n e v u zs (cmL n zs e xs xs) (itr (fl n zs e false) (fun _ => true) (i + 1)) W (hv.below (bcat2 (bcat2 hB0 hB4) h)) hg hu (cmL_lt hg HXN.out HYN.out) (by rw [cmL_len]; exact Nat.le_trans (Nat.mul_le_mul hxl hyl) (by omega)) (fun a ha => by rw [cmL_dec, HUP.out, HXS.out]; (try rw [HYS.out]); exact cmb_iff n zs e _ _ a ha))
        have hpb : 0 < wr.heap.size := Nat.lt_of_lt_of_le (Nat.lt_of_lt_of_le hpos9 hB4.size) hb.size
        have hcsl := row_sl hrc hpb
        have hXb := blk_below hX4 hb
        obtain ⟨c0, c1, _, _⟩ := hXb.two
        have hslb := hsl4.below hb
        have hrowb := own_keep2 hrow4 (fun g _ h2 => hb.block g h2)
        have hlsb : Lsts wr w0.heap.size (.slice oa vs.length oc) vs (sls n (itr (fl n zs e false) (fun _ => true)) (i + 1)) := hls4.keep hb.size (fun g _ h2 _ => hb.block g h2) (.inl rfl)
        have hBb := bcat2 hB4 hb
        clear hrc hrow4 hls4
        go_wp2_with fail
        clear c0 c1
        refine (HSP.out _ _ hb hcsl).mono ?_
        rintro x9 w8 ⟨tv, rfl, htr, hb8⟩
        have he9 : itr (fl n zs e false) (fun _ => true) (i + 1) e = true := by rw [HUP.out]; exact (cmb_sg hg).one
        obtain ⟨tg, tc, rfl, htf⟩ := row_slf htr (sg_pos hg.elt he9)
        have htl := htf.sl
        have hsl8 := hslb.below hb8
        have hrow8 := own_keep2 hrowb (fun g _ h2 => hb8.block g h2)
        have hls8 : Lsts w8 w0.heap.size (.slice oa vs.length oc) vs (sls n (itr (fl n zs e false) (fun _ => true)) (i + 1)) := hlsb.keep hb8.size (fun g _ h2 _ => hb8.block g h2) (.inl rfl)
        have hown2 : ∀ g, (Value.slice oa vs.length oc).ownBlock = some g → g < wr.heap.size := fun g hg => (hrowb.lt g hg).2
        have hB8 := bcat2 hBb hb8
        rw [← HLX.out] at hsl8
        have HIN := hide (ints_any _ _ _ _ w8 hsl8 htl)
        clear htr hslb hrowb hlsb htl
        rw [← HLX.out]
        have hl60 : (li (lst n (itr (fl n zs e false) (fun _ => true) (i + 1)))).length ≤ 60 := by rw [li_len]; exact Nat.le_trans (lst_len _ _) hn
        go_wp2_with fail
        refine HIN.out.mono ?_
        rintro x9 w9 ⟨rfl, hb9⟩
        have hB9 := bcat2 hB8 hb9
        have hrow9 := own_keep2 hrow8 (fun g _ h2 => hb9.block g h2)
        have hls9 : Lsts w9 w0.heap.size (.slice oa vs.length oc) vs (sls n (itr (fl n zs e false) (fun _ => true)) (i + 1)) := hls8.keep hb9.size (fun g _ h2 _ => hb9.block g h2) (.inl rfl)
        have hs9 := hb9.size
        have hs8 := hb8.size
        have htf9 := htf.below hb9
        have hz8 := hB9.size
        have hzr := hBb.size
        clear hrow8 hls8 htf
        by_cases heq : bs (itr (fl n zs e false) (fun _ => true) (i + 1)) n = bs (itr (fl n zs e false) (fun _ => true) i) n
        · have HQ := hide heq
          rw [decide_eq_true (show li xs = li (lst n (itr (fl n zs e false) (fun _ => true) (i + 1))) by rw [HXS.out]; exact li_same.2 heq.symm)]
          have HSL := hide (SlL.of_own hrow9 hls9 (by omega))
          clear heq hrow9 hls9 htf9
          go_wp2
          go_ret
          exact ⟨i, _, rfl, HS.out, HQ.out, HSL.out, bcat2 hB0 hB9⟩
        · rw [decide_eq_false (show ¬ li xs = li (lst n (itr (fl n zs e false) (fun _ => true) (i + 1))) by rw [HXS.out]; exact fun h9 => heq (li_same.1 h9).symm)]
          have HS2 : Hid (Stp n (fl n zs e false) I (fun q => (lst n q).length) (fun _ => true) (i + 1)) := hide (by
            have h9 := HI.out _ (HS.out.inv i (Nat.le_refl _)) (show bs (fl n zs e false (itr (fl n zs e false) (fun _ => true) i)) n ≠ _ from heq)
            have h7 := HS.out.meas
            refine ⟨fun t h => ?_, fun t h => ?_, ?_⟩
            · by_cases h1 : t = i
              · rw [h1]; exact heq
              · exact HS.out.go t (by omega)
            · by_cases h1 : t = i + 1
              · rw [h1]; exact h9.1
              · exact HS.out.inv t (by omega)
            · have h8 := h9.2
              show (lst n (fl n zs e false (itr (fl n zs e false) (fun _ => true) i))).length + (i + 1) ≤ 60
              have h7' : (lst n (itr (fl n zs e false) (fun _ => true) i)).length + i ≤ 60 := h7
              omega)
          have HVL := hide (show vs.length = i + 1 by rw [hls9.1, sls_len])
          have hv61 : vs.length ≤ 61 := by rw [HVL.out]; have := HS.out.meas; omega
          have HUPS := hide (sls_up n (itr (fl n zs e false) (fun _ => true)) (i + 1))
          have htl9 := htf9.sl
          obtain ⟨qa9, qcap9, qb9, qo9, hqe9, hq9, hq91, hq92, hq93, hq94⟩ := htf9
          injection hqe9 with hqe91 hqe92 hqe93
          subst hqe91 hqe93
          have HQ9 := hide hq9
          clear heq hq9 hqe92 HIN HSP
          generalize hlj : li (lst n (itr (fl n zs e false) (fun _ => true) (i + 1))) = lj at *
          have HLJ := hide hlj
          clear hlj
          go_wp2_with (first
            | (at_builtin; refine wpList_append_own_at _ rfl _ _ 25 rfl w0.heap.size 22 i0 (.slice none 0 0) 1 24 und38s hi hz0 hz1 hz2 rfl (by decide) _ _ _ rfl (World.ownsRow.alloc hrow9 _) ⟨w9.heap.size, 0, none⟩ 1 1 [.slice (some ⟨tg, 0, none⟩) lj.length tc] rfl rfl ?c1 ?c2 ?c3 ?c4 ?c5 ?_))
          case c1 => exact cell_one_new _ _ _
          case c2 => simp [Value.oneCell']
          case c3 => unfold maxLen; omega
          case c4 => omega
          case c5 => simp; omega
          intro v' wz hown' hgrow hnil hloc
          obtain ⟨ra', rcap', rfl⟩ := own_slice' hown'
          have hBz : Below w0.heap.size w0 wz := (hB9.alloc (by omega) _).grown hgrow (by simp; omega) (fun t e => by have := owns_ge hrow9 t e; omega)
          have hbl : ∀ g, g < w9.heap.size → (Value.slice oa vs.length oc).ownBlock ≠ some g → wz.heap[g]? = w9.heap[g]? := fun g h1 h2 => (hgrow.block g (by simp; omega) (fun e => h2 e.symm)).trans (Below.block (balloc w9 _) g h1)
          have hsz : w9.heap.size < wz.heap.size := by have := hgrow.size; simp at this; omega
          have hlo : (Value.slice ra' (vs.length + 1) rcap').ownBlock = (Value.slice oa vs.length oc).ownBlock ∨ ∀ g, (Value.slice ra' (vs.length + 1) rcap').ownBlock = some g → w9.heap.size ≤ g := by
            rcases hloc with h | h
            · exact .inl h
            · right; intro g hg; rw [h] at hg; simp at hg; omega
          have hrdz := HQ9.out.of_eq (hbl qb9 hq91 (fun e => by have := hown2 _ e; omega))
          have hlsz := (hls9.keep (r' := .slice ra' (vs.length + 1) rcap') (by omega) (fun g _ h2 h3 => hbl g h2 h3) hlo).snoc (x := .slice (some ⟨tg, 0, none⟩) lj.length tc) (l := lj) ⟨some ⟨tg, 0, none⟩, tc, qb9, qo9, rfl, hrdz, by omega, hq92, hq93, by omega, fun g hg e => by
            subst e
            rcases hlo with h | h
            · have := hown2 _ (h ▸ hg); omega
            · have := h _ hg; omega⟩
          have hslz : Sl wz (.slice (some ⟨tg, 0, none⟩) lj.length tc) lj := ⟨some ⟨tg, 0, none⟩, tc, qb9, qo9, rfl, hrdz, by omega, hq92, hq93⟩
          have hrowz : wz.ownsRow w0.heap.size 22 1 (.slice ra' (vs ++ [Value.slice (some ⟨tg, 0, none⟩) lj.length tc]).length rcap') (vs ++ [Value.slice (some ⟨tg, 0, none⟩) lj.length tc]).length (vs ++ [Value.slice (some ⟨tg, 0, none⟩) lj.length tc]) := by simpa using hown'
          have hlsz2 : Lsts wz w0.heap.size (.slice ra' (vs ++ [Value.slice (some ⟨tg, 0, none⟩) lj.length tc]).length rcap') (vs ++ [Value.slice (some ⟨tg, 0, none⟩) lj.length tc]) (sls n (itr (fl n zs e false) (fun _ => true)) (i + 1 + 1)) := by
            rw [HUPS.out]
            simpa using hlsz
          clear hown' hgrow hloc hlo hbl hrow9 hls9 hlsz
          go_wp2
          go_roundw
          case rel => exact ⟨i + 1, some ⟨tg, 0, none⟩, tc, ra', rcap', _, by rw [HLJ.out], by simp, HS2, by rw [HLJ.out]; exact hslz, hrowz, hlsz2, hBz⟩
          case measure => simp [lenOf]; omega
end Go.Proofs.YtolbpjjjoafkkaaDoor

namespace Go.Proofs.YtolbpjjjoafkkaaDoor
open Go Go.RowKit

section
variable {n e : Nat} {zs : List Int} {q : Nat → Bool}
/-- What has all its commutators in a set. -/
def upq (n : Nat) (zs : List Int) (e : Nat) (q : Nat → Bool) (a : Nat) : Bool := (List.range n).all fun b => q (Fin.cm (tm n zs) (iv n zs e) a b)
theorem upq_iff {a : Nat} : upq n zs e q a = true ↔ ∀ b, b < n → q (Fin.cm (tm n zs) (iv n zs e) a b) = true := by
  unfold upq
  rw [List.all_eq_true]
  exact ⟨fun h b hb => h b (List.mem_range.2 hb), fun h b hb => h b (List.mem_range.1 hb)⟩
theorem Nsg.one_alone (g : IsGrp n zs e) : Nsg n zs e (fun a => decide (a = e)) := by
  have F := grp_fg g
  have V := grp_iv g
  refine ⟨subT_iff.1 (one_sub g), fun x a hx ha h => ?_⟩
  have h : x = e := of_decide_eq_true h
  subst h
  exact decide_eq_true (Fin.cj_one F V ha)
theorem cm_mul (g : IsGrp n zs e) {a b c : Nat} (ha : a < n) (hb : b < n) (hc : c < n) : Fin.cm (tm n zs) (iv n zs e) (tm n zs a b) c = tm n zs (Fin.cj (tm n zs) (iv n zs e) (Fin.cm (tm n zs) (iv n zs e) a c) b) (Fin.cm (tm n zs) (iv n zs e) b c) := by
  have F := grp_fg g
  have V := grp_iv g
  have ha' := List.mem_range.2 ha
  have hb' := List.mem_range.2 hb
  have hc' := List.mem_range.2 hc
  have hab := F.cl _ _ ha' hb'
  have m1 := Fin.cm_mem F V ha' hc'
  have m2 := Fin.cm_mem F V hb' hc'
  have m3 := Fin.cj_mem F V m1 hb'
  have m4 := Fin.cm_mem F V hab hc'
  have hcab := F.cl _ _ hc' hab
  refine F.can hcab m4 (F.cl _ _ m3 m2) ?_
  rw [Fin.cm_eq F V hab hc']
  -- c a b (b^-1 [a,c] b) [b,c] = c a [a,c] b [b,c] = a c b [b,c] = a b c
  rw [← F.ass _ _ _ hcab m3 m2, ← F.ass _ _ _ hc' ha' hb', F.ass _ _ _ (F.cl _ _ hc' ha') hb' m3, Fin.cj_eq F V m1 hb', ← F.ass _ _ _ (F.cl _ _ hc' ha') m1 hb', Fin.cm_eq F V ha' hc', F.ass _ _ _ (F.cl _ _ ha' hc') hb' m2, F.ass _ _ _ ha' hc' (F.cl _ _ hb' m2), ← F.ass _ _ _ hc' hb' m2, Fin.cm_eq F V hb' hc', F.ass _ _ _ ha' hb' hc']
theorem Nsg.up (g : IsGrp n zs e) (h : Nsg n zs e q) : Nsg n zs e (upq n zs e q) := by
  have F := grp_fg g
  have V := grp_iv g
  refine ⟨⟨upq_iff.2 fun b hb => ?_, fun x y hx hy h1 h2 => upq_iff.2 fun b hb => ?_⟩, fun x a hx ha h1 => upq_iff.2 fun b hb => ?_⟩
  · have hb' := List.mem_range.2 hb
    rw [(Fin.cm_one F V F.one hb').2 (by rw [F.left b hb', F.right b hb'])]
    exact h.sg.one
  · have hxl := List.mem_range.1 hx
    have hyl := List.mem_range.1 hy
    have hb' := List.mem_range.2 hb
    rw [cm_mul g hxl hyl hb]
    exact h.sg.mul _ _ (Fin.cj_mem F V (Fin.cm_mem F V hx hb') hy) (Fin.cm_mem F V hy hb') (h.nm _ _ (Fin.cm_mem F V hx hb') hy (upq_iff.1 h1 b hb)) (upq_iff.1 h2 b hb)
  · have hb' := List.mem_range.2 hb
    have hi := (V a ha).1
    have hd := Fin.cj_mem F V hb' hi
    have hxl := List.mem_range.1 hx
    have h2 := Fin.cm_cj F V hx hd ha
    rw [(Fin.cj_back F V hb' ha).2] at h2
    rw [← h2]
    exact h.nm _ _ (Fin.cm_mem F V hx hd) ha (upq_iff.1 h1 _ (List.mem_range.1 hd))
theorem up_has (g : IsGrp n zs e) (h : Nsg n zs e q) {x : Nat} (hx : x < n) (h1 : q x = true) : upq n zs e q x = true := upq_iff.2 fun _ hb => h.cm_in g hx hb h1
end
theorem call109 (a : Int) (x y : Value) (W : World) : Sem.run Tryd.prog (callFunc 109 (#[.int .i64 a] ++ #[x, y])) W = .ok (.enter 109 (#[.int .i64 a] ++ #[x, y])) W := by kernel_rfl
theorem call108 (x : Int) (y : Value) (W : World) : Sem.run Tryd.prog (callFunc 108 (#[.int .u64 x] ++ #[y])) W = .ok (.enter 108 (#[.int .u64 x] ++ #[y])) W := by kernel_rfl
theorem call78u (x : Value) (W : World) : Sem.run Tryd.prog (callFunc 78 #[x]) W = .ok (.enter 78 #[x]) W := by kernel_rfl
set_option maxRecDepth 100000 in
set_option maxHeartbeats 2000000 in
theorem up2_ok (n : Nat) (v u : Value) (zs : List Int) (e gb sb a : Nat) (q : Nat → Bool) (w : World) (hG : GA w n v e u zs) (hb : Box4 w gb n e v u) (hs : Boxed w sb 70 (.int .u64 (bs q n))) (ha : a < n) :
    Calls Tryd.prog 109 (#[.int .i64 a] ++ #[.pointer (some ⟨gb, 0, none⟩), .pointer (some ⟨sb, 0, none⟩)]) w fun x w' => x = .returned (.bool (upq n zs e q a)) ∧ Below w.heap.size w w' := by
  show Calls Tryd.prog 109 #[.int .i64 a, .pointer (some ⟨gb, 0, none⟩), .pointer (some ⟨sb, 0, none⟩)] w _
  have hn := hG.le
  have hg := hG.grp
  obtain ⟨c0, c1, c2, c3⟩ := hb.cells
  go_enter Tryd.func109, Tryd.ntmps109
  go_wp2_with fail
  clear c0 c1 c2 c3
  go_loopw [9] (fun i wr => ∃ k : Nat, k ≤ n ∧ i = .int .i64 k ∧ (∀ b, b < k → q (Fin.cm (tm n zs) (iv n zs e) a b) = true) ∧ Below w.heap.size w wr) (fun i _ => n - (intOf i).toNat)
  case atStart => exact ⟨0, Nat.zero_le _, rfl, fun b h => by omega, Below.refl _ _⟩
  case round =>
    obtain ⟨k, hk, rfl, hal, hB⟩ := hrel
    have HAL := hide hal
    clear hal
    by_cases hlt : k < n
    · have hki : (k : Int) < (n : Int) := by omega
      have hGr := hG.below hB
      obtain ⟨c0, c1, c2, c3⟩ := (hb.below hB).cells
      have s0 := (Boxed.below hs hB).cell
      have hct := cm_lt hg ha hlt
      have HCM := hide (fun W (h : Below wr.heap.size wr W) => cmt_ok n v u zs e a k W (hGr.below h) ha hlt)
      have HHA := hide (fun W => has_ok n (Fin.cm (tm n zs) (iv n zs e) a k) q W hn hct)
      have HT := hide (show q (Fin.cm (tm n zs) (iv n zs e) a k) = true → ∀ b, b < k + 1 → q (Fin.cm (tm n zs) (iv n zs e) a b) = true from fun h b hb9 => by
        by_cases h9 : b = k
        · rw [h9]; exact h
        · exact HAL.out b (by omega))
      have HF := hide (show q (Fin.cm (tm n zs) (iv n zs e) a k) = false → upq n zs e q a = false from fun h => by
        rw [Bool.eq_false_iff]
        intro h9
        rw [upq_iff.1 h9 k hlt] at h
        cases h)
      generalize Fin.cm (tm n zs) (iv n zs e) a k = t at *
      generalize bs q n = Q9 at *
      generalize q t = b9 at *
      have hS : ∀ W, Below wr.heap.size wr W → (Below wr.heap.size wr W ∧ W.cell? ⟨gb, 0, none⟩ = some (.int .i64 n) ∧ W.cell? ⟨gb, 1, none⟩ = some v ∧ W.cell? ⟨gb, 2, none⟩ = some (.int .i64 e) ∧ W.cell? ⟨gb, 3, none⟩ = some u ∧ W.cell? ⟨sb, 0, none⟩ = some (.int .u64 Q9)) := fun W h => ⟨h, below_cell h c0, below_cell h c1, below_cell h c2, below_cell h c3, below_cell h s0⟩
      have hS0 := hS _ (bdrew (Below.refl _ wr))
      cases b9 with
      | true =>
        go_wp2_with fail
        clear c0 c1 c2 c3 s0
        go_region_held3 (fun W => Below wr.heap.size wr W ∧ W.cell? ⟨gb, 0, none⟩ = some (.int .i64 n) ∧ W.cell? ⟨gb, 1, none⟩ = some v ∧ W.cell? ⟨gb, 2, none⟩ = some (.int .i64 e) ∧ W.cell? ⟨gb, 3, none⟩ = some u ∧ W.cell? ⟨sb, 0, none⟩ = some (.int .u64 Q9))
          (first | exact hS0 | assumption | exact hS _ (bcat2 (And.left ‹_›) hl1))
          (first
            | (go_at_call 110; refine (HCM.out _ (And.left ‹_›)).mono ?_; rintro e1 W1 ⟨rfl, hl1⟩)
            | (go_at_call 101; refine (HHA.out _).mono ?_; rintro e2 W2 ⟨rfl, rfl⟩))
        all_goals (
          have hB9 := And.left ‹Below wr.heap.size wr W2 ∧ _›
          go_wp2
          go_roundw
          case rel => exact ⟨k + 1, by omega, by go_num, HT.out (by simp), bcat2 hB hB9⟩
          case measure => simp [intOf]; omega)
      | false =>
        go_wp2_with fail
        clear c0 c1 c2 c3 s0
        go_region_held3 (fun W => Below wr.heap.size wr W ∧ W.cell? ⟨gb, 0, none⟩ = some (.int .i64 n) ∧ W.cell? ⟨gb, 1, none⟩ = some v ∧ W.cell? ⟨gb, 2, none⟩ = some (.int .i64 e) ∧ W.cell? ⟨gb, 3, none⟩ = some u ∧ W.cell? ⟨sb, 0, none⟩ = some (.int .u64 Q9))
          (first | exact hS0 | assumption | exact hS _ (bcat2 (And.left ‹_›) hl1))
          (first
            | (go_at_call 110; refine (HCM.out _ (And.left ‹_›)).mono ?_; rintro e1 W1 ⟨rfl, hl1⟩)
            | (go_at_call 101; refine (HHA.out _).mono ?_; rintro e2 W2 ⟨rfl, rfl⟩))
        all_goals (
          have hB9 := And.left ‹Below wr.heap.size wr W2 ∧ _›
          go_wp2
          go_ret
          exact ⟨by rw [HF.out (by simp)] <;> rfl, bcat2 hB hB9⟩)
    · have hki : ¬ (k : Int) < (n : Int) := by omega
      have HU := hide (show upq n zs e q a = true from upq_iff.2 fun b hb9 => HAL.out b (by omega))
      go_wp2
      go_ret
      exact ⟨by rw [HU.out] <;> rfl, hB⟩
set_option maxRecDepth 100000 in
theorem up1_ok (n : Nat) (v u : Value) (zs : List Int) (e gb : Nat) (q : Nat → Bool) (w : World) (hG : GA w n v e u zs) (hb : Box4 w gb n e v u) :
    Calls Tryd.prog 108 (#[.int .u64 (bs q n)] ++ #[.pointer (some ⟨gb, 0, none⟩)]) w fun x w' => x = .returned (.int .u64 (bs (upq n zs e q) n)) ∧ Below w.heap.size w w' := by
  show Calls Tryd.prog 108 #[.int .u64 (bs q n), .pointer (some ⟨gb, 0, none⟩)] w _
  have hn := hG.le
  have hB0 : Below w.heap.size w (w.alloc (.cells #[.int .u64 (bs q n)] 70)) := balloc w _
  have hS0 := Boxed.new w 70 (.int .u64 (bs q n))
  have hX0 := hb.below hB0
  have hG0 := hG.below hB0
  obtain ⟨c0, c1, c2, c3⟩ := hX0.cells
  go_enter Tryd.func108, Tryd.ntmps108
  go_wp2_with fail
  clear c0 c1 c2 c3
  generalize w.alloc (.cells #[.int .u64 (bs q n)] 70) = w0 at *
  refine (those_ok n 109 v u e #[.pointer (some ⟨gb, 0, none⟩), .pointer (some ⟨w.heap.size, 0, none⟩)] (upq n zs e q) w0 hn (fun a W => call109 a _ _ W) (fun W a hW ha => up2_ok n v u zs e gb w.heap.size a q W (hG0.below hW) (hX0.below hW) (Boxed.below hS0 hW) ha)).mono ?_
  rintro x w1 ⟨rfl, hb1⟩
  go_wp2
  go_ret
  exact ⟨rfl, bcat2 hB0 hb1⟩
set_option maxRecDepth 100000 in
theorem upper_ok (n : Nat) (v u : Value) (zs : List Int) (e : Nat) (w : World) (hG : GA w n v e u zs) :
    Calls Tryd.prog 78 #[.agg #[.int .i64 n, v, .int .i64 e, u]] w fun x w' => ∃ y, x = .returned y ∧ SerA w w' n (upq n zs e) (Nsg n zs e) (fun q => n - (lst n q).length) (fun a => decide (a = e)) y ∧ Below w.heap.size w w' := by
  have hg := hG.grp
  have hn := hG.le
  have hB0 : Below w.heap.size w (w.alloc (.cells #[.int .i64 n, v, .int .i64 e, u] 64)) := balloc w _
  have hX0 := Box4.new w n e v u
  obtain ⟨c0, c1, c2, c3⟩ := hX0.cells
  go_enter Tryd.func78, Tryd.ntmps78
  go_wp2_with fail
  clear c0 c1 c2 c3
  have hbx := balloc (w.alloc (.cells #[.int .i64 n, v, .int .i64 e, u] 64)) (.cells #[.int .i64 e] 3)
  have hB1 := bcat2 hB0 hbx
  have hX1 := hX0.below hbx
  have HOF := hide (of_one n (w.heap.size + 1) e ((w.alloc (.cells #[.int .i64 n, v, .int .i64 e, u] 64)).alloc (.cells #[.int .i64 e] 3)) hn hg.elt (by have := cell1 (w.alloc (.cells #[.int .i64 n, v, .int .i64 e, u] 64)) (.int .i64 e) 3; rwa [World.size_alloc] at this))
  generalize (w.alloc (.cells #[.int .i64 n, v, .int .i64 e, u] 64)).alloc (.cells #[.int .i64 e] 3) = w1 at *
  refine HOF.out.mono ?_
  rintro x w2 ⟨rfl, rfl⟩
  go_wp2_with fail
  refine (steps_ok n 108 #[.pointer (some ⟨w.heap.size, 0, none⟩)] (upq n zs e) (Nsg n zs e) (fun q => n - (lst n q).length) (fun a => decide (a = e)) _ (fun x W => call108 x _ W) (fun W q h _ => up1_ok n v u zs e _ q W (hG.below (bcat2 hB1 h)) (hX1.below h)) (Nsg.one_alone hg) (by show n - _ ≤ 60; omega) (fun q h1 h2 => ⟨h1.up hg, by
    have h3 := less_of n (p := q) (q := upq n zs e q) (fun x hx h3 => up_has hg h1 hx h3) (fun h9 => h2 h9.symm)
    have h4 := lst_len n (upq n zs e q)
    show n - _ < n - _
    omega⟩)).mono ?_
  rintro x w3 ⟨K, g, c, rfl, hst, hend, hrow, hb2⟩
  have hrow2 := own_le hrow hB1.size
  have hB2 := bcat2 hB1 hb2
  go_wp2
  go_ret
  exact ⟨_, rfl, ⟨K, g, c, rfl, hst, hend, hrow2⟩, hB2⟩
set_option maxRecDepth 100000 in
set_option maxHeartbeats 2000000 in
theorem sup_bad (N : Int) (v : Value) (zs : List Int) (w : World) (hv : Sl w v zs) (hc : (gfault N zs).1 ≠ 0) :
    Calls Tryd.prog 37 #[.agg #[.int .i64 N, v]] w fun x w' => x = .returned (.tuple #[.slice none 0 0, .agg #[.int .i64 (gfault N zs).1, .int .i64 (gfault N zs).2]]) ∧ Below w.heap.size w w' := by
  obtain ⟨w0, BG⟩ := Beg.new w N v
  obtain ⟨c0, c1, _, _⟩ := BG.box.two
  have hck := fun f => listed_bad N v f zs w0 (hv.below BG.bel) hc
  obtain ⟨c, i, hci⟩ : ∃ c i, gfault N zs = (c, i) := ⟨_, _, rfl⟩
  rw [hci] at hck hc ⊢
  simp only at hc hck
  have HCK := hide hck
  clear hck hci
  rw [BG.eq] at c0 c1
  go_enter Tryd.func37, Tryd.ntmps37
  go_wp2_with fail
  rw [← BG.eq]
  refine (HCK.out _).mono ?_
  rintro x w1 ⟨rfl, hb1⟩
  clear c0 c1
  have hR1 := blk_below BG.res hb1
  have hBw := bcat BG.bel hb1 BG.bel.size
  obtain ⟨y0, y1, fy0, fy1⟩ := hR1.two
  obtain ⟨hR6, hB6⟩ := put2 hR1 hBw (by omega) c i
  obtain ⟨z0, z1, _, _⟩ := hR6.two
  go_wp2
  exact bodyPost_ret (v := .tuple #[.slice none 0 0, .agg #[.int .i64 c, .int .i64 i]]) (by simp [results, Tryd.results37, go_sem, z0, z1]) rfl ⟨rfl, hB6⟩
set_option maxRecDepth 100000 in
set_option maxHeartbeats 2000000 in
theorem sup_good (n e : Nat) (v : Value) (zs : List Int) (w : World) (hv : Sl w v zs) (hg : IsGrp n zs e) (hT : Tab w) :
    Calls Tryd.prog 37 #[.agg #[.int .i64 n, v]] w fun x w' => ∃ y, x = .returned (.tuple #[y, .agg #[.int .i64 0, .int .i64 0]]) ∧ LisA w' n (upq n zs e) (Nsg n zs e) (fun q => n - (lst n q).length) (fun a => decide (a = e)) y ∧ Below w.heap.size w w' := by
  obtain ⟨w0, BG⟩ := Beg.new w n v
  obtain ⟨c0, c1, _, _⟩ := BG.box.two
  have HCK := hide (listed_good n e 78 v zs (upq n zs e) (Nsg n zs e) (fun q => n - (lst n q).length) (fun a => decide (a = e)) w0 (hv.below BG.bel) hg (hT.below BG.bel) (fun x W => call78u x W) (fun W u _ hG => upper_ok n v u zs e W hG))
  rw [BG.eq] at c0 c1
  go_enter Tryd.func37, Tryd.ntmps37
  go_wp2_with fail
  rw [← BG.eq]
  refine HCK.out.mono ?_
  rintro x w1 ⟨y, rfl, hl, hb1⟩
  clear c0 c1
  have hR1 := blk_below BG.res hb1
  have hBw := bcat BG.bel hb1 BG.bel.size
  obtain ⟨_, y0, y1, fy0, fy1, s0, s1⟩ := Two.mk' hR1
  go_wp2
  exact bodyPost_ret (v := .tuple #[y, .agg #[.int .i64 0, .int .i64 0]]) (by simp [results, Tryd.results37, go_sem, y0, y1]) rfl ⟨y, rfl, hl, hBw⟩
end Go.Proofs.YtolbpjjjoafkkaaDoor
