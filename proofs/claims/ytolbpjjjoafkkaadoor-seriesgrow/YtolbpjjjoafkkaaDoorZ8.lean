/- Package series' listed: a series of sets as lists. Conditions: the library's table of places lies as its text lays it; what the function that is handed over answers. Package series' Derived, Lower, ends and Nilpotent. Condition: the library's table of places lies as its text lays it. Package series' Nilpotent; the example of the laws of series: of the square's group the commutators make two things. Condition: the library's table of places lies as its text lays it. Normaliser at a subgroup. Condition: the library's table of places lies as its text lays it. What is nilpotent: a subgroup that is not all is less than its normaliser, and each normal subgroup of more than the one has something of the centre. No condition. The law SeriesGrow: at every table and every list it returns true. Condition: the library's table of places lies as its text lays it. The frame that all rows of this family share: how a table that came in reads. The frame that all rows of this family share: what the listed table gives a walk; how a list of ints that came in reads. -/
import Derived.Test.YtolbpjjjoafkkaaDoorZ6
import Derived.Test.YtolbpjjjoafkkaaDoorZ7
import Derived.Test.YtolbpjjjoafkkaaDoorZ5
import Derived.Test.YtolbpjjjoafkkaaDoorZ3
import Derived.Test.YtolbpjjjoafkkaaDoorRows
import Derived.Test.YtolbpjjjoafkkaaDoorZ1
import Derived.ProofKit
import Derived.OpenShut
import Derived.ChangeOld
import Derived.Below
import Derived.SizedLaws
import Derived.LaidMore
import Derived.Stop.Joined
import Derived.Stop.LaidErr
import Derived.Lib.LaidTab
namespace Go.Proofs.YtolbpjjjoafkkaaDoor
open Go Go.RowKit

def sls (n : Nat) (f : Nat → Nat → Bool) (k : Nat) : List (List Int) := (List.range k).map fun i => li (lst n (f i))
theorem sls_len (n : Nat) (f : Nat → Nat → Bool) (k : Nat) : (sls n f k).length = k := by simp [sls]
theorem sls_at {n : Nat} {f : Nat → Nat → Bool} {k i : Nat} (h : i < k) : (sls n f k)[i]?.getD [] = li (lst n (f i)) := by simp [sls, h]
theorem sls_up (n : Nat) (f : Nat → Nat → Bool) (k : Nat) : sls n f (k + 1) = sls n f k ++ [li (lst n (f k))] := by simp [sls, List.range_succ]
/-- A row of lists, read. -/
theorem Rws.of_own {w : World} {base B g c : Nat} {vs : List Value} {rs : List (List Int)} (h : w.ownsRow base 22 1 (.slice (some ⟨g, 0, none⟩) vs.length c) vs.length vs) (hl : Lsts w B (.slice (some ⟨g, 0, none⟩) vs.length c) vs rs) : Rws w g rs := fun j hj => by
  have hju : j < vs.length := by have := hl.1; omega
  obtain ⟨a, cap, pb, po, h1, h2, h3, h4, h5, _⟩ := hl.2 j vs[j] rs[j] (List.getElem?_eq_getElem hju) (List.getElem?_eq_getElem hj)
  have hc := h.cells (g := g) rfl j _ (List.getElem?_eq_getElem hju)
  rw [show (⟨g, 0, none⟩ : Addr).add j = ⟨g, j, none⟩ by unfold Addr.add; split <;> simp_all] at hc
  rw [List.getElem?_eq_getElem hj, Option.getD_some]
  rw [h1] at hc
  exact ⟨a, cap, hc, ⟨a, cap, pb, po, rfl, h2, h3, h4, h5⟩⟩
set_option maxRecDepth 100000 in
set_option maxHeartbeats 4000000 in
theorem listed_bad (N : Int) (v f : Value) (zs : List Int) (w : World) (hv : Sl w v zs) (hc : (gfault N zs).1 ≠ 0) :
    Calls Tryd.prog 75 #[.agg #[.int .i64 N, v], f] w fun x w' => x = .returned (.tuple #[.slice none 0 0, .agg #[.int .i64 (gfault N zs).1, .int .i64 (gfault N zs).2]]) ∧ Below w.heap.size w w' := by
  obtain ⟨w0, BG⟩ := Beg.new w N v
  have hv0 := hv.below BG.bel
  obtain ⟨c0, c1, _, _⟩ := BG.box.two
  have hck := opened_bad N v zs w0 hv0 hc
  obtain ⟨c, i, hci⟩ : ∃ c i, gfault N zs = (c, i) := ⟨_, _, rfl⟩
  rw [hci] at hck hc ⊢
  simp only at hc hck
  have HCK := hide hck
  clear hck hci
  have hcb : (c != 0) = true := by simpa using hc
  rw [BG.eq] at c0 c1
  go_enter Tryd.func75, Tryd.ntmps75
  go_wp2_with fail
  rw [← BG.eq]
  refine HCK.out.mono ?_
  rintro x w1 ⟨rfl, hb1⟩
  clear c0 c1
  obtain ⟨w2, hw2⟩ : ∃ w2, w2 = (w1.alloc (.cells #[.int .i64 0, .slice none 0 0, .int .i64 0, .slice none 0 0] 64)).alloc (.cells #[.int .i64 c, .int .i64 i] 27) := ⟨_, rfl⟩
  have hB1 : Below w0.heap.size w0 w2 := by rw [hw2]; exact bcat2 hb1 ((balloc w1 _).alloc (by simp) _)
  have hF1 : Blk w2 (w1.heap.size + 1) 27 [.int .i64 c, .int .i64 i] := by
    rw [hw2]
    have := blk0 (w := w1.alloc (.cells #[.int .i64 0, .slice none 0 0, .int .i64 0, .slice none 0 0] 64)) (T := 27) (.int .i64 c) (.int .i64 i)
    rwa [World.size_alloc] at this
  have hR1 := blk_below BG.res hB1
  have hBw := bcat BG.bel hB1 BG.bel.size
  obtain ⟨y0, y1, fy0, fy1⟩ := hR1.two
  obtain ⟨t0, t1, _, _⟩ := hF1.two
  rw [hw2] at t0 t1
  go_wp2_with fail
  rw [← hw2]
  rw [← hw2] at t0 t1
  clear hw2
  go_region
  all_goals (
    go_wp2
    obtain ⟨hR6, hB6⟩ := put2 hR1 hBw (by omega) c i
    have hB7 := bdrew hB6
    have hR7 : Blk ((w2.setCell ⟨w.heap.size + 1, 0, none⟩ (.int .i64 c)).setCell ⟨w.heap.size + 1, 1, none⟩ (.int .i64 i)).drew (w.heap.size + 1) 27 [.int .i64 c, .int .i64 i] := hR6
    generalize ((w2.setCell ⟨w.heap.size + 1, 0, none⟩ (.int .i64 c)).setCell ⟨w.heap.size + 1, 1, none⟩ (.int .i64 i)).drew = W at hR7 hB7 ⊢
    obtain ⟨z0, z1, _, _⟩ := hR7.two
    exact bodyPost_ret (v := .tuple #[.slice none 0 0, .agg #[.int .i64 c, .int .i64 i]]) (by simp [results, Tryd.results75, go_sem, z0, z1]) rfl ⟨rfl, hB7⟩)
/-- What listed answers. -/
def LisA (w' : World) (n : Nat) (nx : (Nat → Bool) → Nat → Bool) (I : (Nat → Bool) → Prop) (M : (Nat → Bool) → Nat) (q0 : Nat → Bool) (x : Value) : Prop := ∃ K g c : Nat, x = .slice (some ⟨g, 0, none⟩) (K + 1) c ∧ Stp n nx I M q0 K ∧ bs (itr nx q0 (K + 1)) n = bs (itr nx q0 K) n ∧ Rws w' g (sls n (itr nx q0) (K + 1))
set_option maxRecDepth 100000 in
set_option maxHeartbeats 4000000 in
theorem listed_good (n e k : Nat) (v : Value) (zs : List Int) (nx : (Nat → Bool) → Nat → Bool) (I : (Nat → Bool) → Prop) (M : (Nat → Bool) → Nat) (q0 : Nat → Bool) (w : World) (hv : Sl w v zs) (hg : IsGrp n zs e) (hT : Tab w)
    (hcall : ∀ x W, Sem.run Tryd.prog (callFunc k #[x]) W = .ok (.enter k #[x]) W)
    (hof : ∀ (W : World) (u : Value), Below w.heap.size w W → GA W n v e u zs → Calls Tryd.prog k #[.agg #[.int .i64 n, v, .int .i64 e, u]] W fun x W' => ∃ y, x = .returned y ∧ SerA W W' n nx I M q0 y ∧ Below W.heap.size W W') :
    Calls Tryd.prog 75 #[.agg #[.int .i64 n, v], .func (.func k) #[] #[]] w fun x w' => ∃ y, x = .returned (.tuple #[y, .agg #[.int .i64 0, .int .i64 0]]) ∧ LisA w' n nx I M q0 y ∧ Below w.heap.size w w' := by
  obtain ⟨va, vl, vc, rfl⟩ := hv.isSlice
  obtain ⟨i0, hi, hz0, hz1, hz2⟩ := info_parts info22b
  have HOF := hide hof
  clear hof
  obtain ⟨w0, BG⟩ := Beg.new w n (.slice va vl vc)
  have hv0 := hv.below BG.bel
  obtain ⟨c0, c1, _, _⟩ := BG.box.two
  have HCK := hide (opened_good n e (.slice va vl vc) zs w0 hv0 hg)
  have HZ0 := hide (show w.heap.size + 2 ≤ w0.heap.size by rw [BG.eq]; simp)
  rw [BG.eq] at c0 c1
  go_enter Tryd.func75, Tryd.ntmps75
  go_wp2_with fail
  rw [← BG.eq]
  refine HCK.out.mono ?_
  rintro x w1 ⟨iv9, rfl, hSI, hb1⟩
  obtain ⟨ia, il, ic, rfl⟩ := hSI.sl.isSlice
  clear c0 c1 HCK
  obtain ⟨w2, hw2⟩ : ∃ w2, w2 = (w1.alloc (.cells #[.int .i64 n, (.slice va vl vc), .int .i64 e, (.slice ia il ic)] 64)).alloc (.cells #[.int .i64 0, .int .i64 0] 27) := ⟨_, rfl⟩
  have hb2 : Below w1.heap.size w1 w2 := by rw [hw2]; exact (balloc w1 _).alloc (by simp) _
  have hB1 : Below w0.heap.size w0 w2 := bcat2 hb1 hb2
  have hF1 : Blk w2 (w1.heap.size + 1) 27 [.int .i64 0, .int .i64 0] := by
    rw [hw2]
    have := blk0 (w := w1.alloc (.cells #[.int .i64 n, (.slice va vl vc), .int .i64 e, (.slice ia il ic)] 64)) (T := 27) (.int .i64 0) (.int .i64 0)
    rwa [World.size_alloc] at this
  have hH2 : Blk w2 w1.heap.size 64 [.int .i64 n, (.slice va vl vc), .int .i64 e, (.slice ia il ic)] := by
    rw [hw2]; exact (blk4 _ _ _ _).alloc _
  have hBw2 := bcat BG.bel hB1 BG.bel.size
  have hR2 := blk_below BG.res hB1
  have hT2 := hT.below hBw2
  have hGA2 : GA w2 n (.slice va vl vc) e (.slice ia il ic) zs := ⟨hg, hv.below hBw2, (hSI.below hb2).sl⟩
  obtain ⟨t0, t1, _, _⟩ := hF1.two
  obtain ⟨_, h0, h1, h2, h3, _⟩ := Four.mk' hH2
  have HZ1 := hide (Nat.le_trans HZ0.out hb1.size)
  have HZ2 := hide hb2.size
  rw [hw2] at t0 t1 h0 h1 h2 h3
  have hn := hg.tab.le
  go_wp2_with fail
  rw [← hw2]
  clear hw2 t0 t1 h0 h1 h2 h3
  refine (HOF.out _ _ hBw2 hGA2).mono ?_
  rintro x w3 ⟨y, rfl, ⟨K, g, c, rfl, HST, HEND, hrow3⟩, hb3⟩
  have HS := hide HST
  have HE := hide HEND
  have hBw3 := bcat2 hBw2 hb3
  have hR3 := blk_below hR2 hb3
  have hT3 := hT2.below hb3
  have hK := HST.meas
  have HC3 := hide (fun i (h : i < K + 1) => (show w3.cell? ⟨g, i, none⟩ = some (.int .u64 (bs (itr nx q0 i) n)) by
    have hc := hrow3.cells (g := g) rfl i _ (sets_at h)
    rwa [show (⟨g, 0, none⟩ : Addr).add i = ⟨g, i, none⟩ by unfold Addr.add; split <;> simp_all] at hc))
  clear HST HEND hrow3 HOF hcall
  have HLS := hide (fun W (p : Nat → Bool) (h : Below w3.heap.size w3 W) => list_ok n p W hn (hT3.below h))
  go_wp2_with fail
  go_loopw [8, 24] (fun ls iv wr => ∃ (i : Nat) (a : Option Addr) (cp : Nat) (vs : List Value), i ≤ K + 1 ∧ iv = .int .i64 i ∧ ls = .slice a vs.length cp ∧ wr.ownsRow w3.heap.size 22 1 (.slice a vs.length cp) vs.length vs ∧ Lsts wr w3.heap.size (.slice a vs.length cp) vs (sls n (itr nx q0) i) ∧ Below w3.heap.size w3 wr) (fun _ iv _ => K + 1 - (intOf iv).toNat)
  case atStart => exact ⟨0, none, 0, [], Nat.zero_le _, rfl, rfl, World.ownsRow_nil _ _ _ _, ⟨by simp [sls], fun t x l h1 _ => by simp at h1⟩, Below.refl _ _⟩
  case round =>
    obtain ⟨i, ra, rcap, vs, hiK, rfl, rfl, hrow, hls, hB⟩ := hrel
    have HVL := hide (show vs.length = i by rw [hls.1, sls_len])
    have hv61 : vs.length ≤ 61 := by rw [HVL.out]; omega
    by_cases hlt : i < K + 1
    · have hci := below_cell hB (HC3.out i hlt)
      have HB9 := hide (HLS.out wr (itr nx q0 i) hB)
      have HST := hide (sls_up n (itr nx q0) i)
      have hl60 : (li (lst n (itr nx q0 i))).length ≤ 60 := by rw [li_len]; exact Nat.le_trans (lst_len _ _) hn
      generalize li (lst n (itr nx q0 i)) = lj at *
      generalize bs (itr nx q0 i) n = s9 at *
      have hii : (i : Int) < (K : Int) + 1 := by omega
      go_wp2_with fail
      clear hci
      refine HB9.out.mono ?_
      rintro x w5 ⟨r9, rfl, hr9, hb5⟩
      have hB5 := bcat2 hB hb5
      have hrow5 := own_keep2 hrow (fun g _ h2 => hb5.block g h2)
      have hls5 : Lsts w5 w3.heap.size (.slice ra vs.length rcap) vs (sls n (itr nx q0) i) := hls.keep hb5.size (fun g _ h2 _ => hb5.block g h2) (.inl rfl)
      have hown2 : ∀ g, (Value.slice ra vs.length rcap).ownBlock = some g → g < wr.heap.size := fun g hg => (hrow.lt g hg).2
      obtain ⟨qa, qcap, qb, qo, rfl, hq, hq1, hq2, hq3, hq4⟩ := hr9
      have hs5 := hb5.size
      have hs3 := hB.size
      have HQ := hide hq
      clear hrow hls hb5 hq hB
      go_wp2_with (first
        | (at_builtin; refine wpList_append_own_at _ rfl _ _ 25 rfl w3.heap.size 22 i0 (.slice none 0 0) 1 24 und38s hi hz0 hz1 hz2 rfl (by decide) _ _ _ rfl (World.ownsRow.alloc hrow5 _) ⟨w5.heap.size, 0, none⟩ 1 1 [.slice qa lj.length qcap] rfl rfl ?c1 ?c2 ?c3 ?c4 ?c5 ?_))
      case c1 => exact cell_one_new _ _ _
      case c2 => simp [Value.oneCell']
      case c3 => unfold maxLen; omega
      case c4 => omega
      case c5 => simp; omega
      intro v' w8 hown' hgrow hnil hloc
      obtain ⟨ra', rcap', rfl⟩ := own_slice' hown'
      have hB8 : Below w3.heap.size w3 w8 := (hB5.alloc (by omega) _).grown hgrow (by simp; omega) (fun t e => by have := owns_ge hrow5 t e; omega)
      have hbl : ∀ g, g < w5.heap.size → (Value.slice ra vs.length rcap).ownBlock ≠ some g → w8.heap[g]? = w5.heap[g]? := fun g h1 h2 => (hgrow.block g (by simp; omega) (fun e => h2 e.symm)).trans (Below.block (balloc w5 _) g h1)
      have hs8 : w5.heap.size < w8.heap.size := by have := hgrow.size; simp at this; omega
      have hlo : (Value.slice ra' (vs.length + 1) rcap').ownBlock = (Value.slice ra vs.length rcap).ownBlock ∨ ∀ g, (Value.slice ra' (vs.length + 1) rcap').ownBlock = some g → w5.heap.size ≤ g := by
        rcases hloc with h | h
        · exact .inl h
        · right; intro g hg; rw [h] at hg; simp at hg; omega
      have hls8 := (hls5.keep (r' := .slice ra' (vs.length + 1) rcap') (by omega) (fun g _ h2 h3 => hbl g h2 h3) hlo).snoc (x := .slice qa lj.length qcap) (l := lj) ⟨qa, qcap, qb, qo, rfl, HQ.out.of_eq (hbl qb hq1 (fun e => by have := hown2 _ e; omega)), by omega, hq2, hq3, by omega, fun g hg e => by
        subst e
        rcases hlo with h | h
        · have := hown2 _ (h ▸ hg); omega
        · have := h _ hg; omega⟩
      have hrow8 : w8.ownsRow w3.heap.size 22 1 (.slice ra' (vs ++ [Value.slice qa lj.length qcap]).length rcap') (vs ++ [Value.slice qa lj.length qcap]).length (vs ++ [Value.slice qa lj.length qcap]) := by simpa using hown'
      have hls9 : Lsts w8 w3.heap.size (.slice ra' (vs ++ [Value.slice qa lj.length qcap]).length rcap') (vs ++ [Value.slice qa lj.length qcap]) (sls n (itr nx q0) (i + 1)) := by
        rw [HST.out]
        simpa using hls8
      clear hown' hgrow hloc hlo hbl hrow5 hls5 hB5 hls8
      go_wp2
      go_roundw
      case rel => exact ⟨i + 1, ra', rcap', _, by omega, by go_num, by simp, hrow8, hls9, hB8⟩
      case measure => simp [intOf]; omega
    · have hik : i = K + 1 := by omega
      subst hik
      have hii : ¬ (((K + 1 : Nat) : Int) < (K : Int) + 1) := by omega
      obtain ⟨g9, rfl⟩ : ∃ g9, ra = some ⟨g9, 0, none⟩ := by
        rcases hrow.2 with ⟨h1, h2⟩ | ⟨g', cap, cur, h1, _⟩
        · have := HVL.out; omega
        · injection h1 with h1; exact ⟨g', h1⟩
      have HRW := hide (Rws.of_own hrow hls)
      rw [HVL.out]
      have hBz := bcat2 hBw3 hB
      obtain ⟨_, y0, y1, fy0, fy1, s0, s1⟩ := Two.mk' (blk_below hR3 hB)
      clear hrow hls
      go_wp2
      exact bodyPost_ret (v := .tuple #[.slice (some ⟨g9, 0, none⟩) (K + 1) rcap, .agg #[.int .i64 0, .int .i64 0]]) (by simp [results, Tryd.results75, go_sem, y0, y1]) rfl ⟨_, rfl, ⟨K, g9, rcap, rfl, HS.out, HE.out, HRW.out⟩, hBz⟩
end Go.Proofs.YtolbpjjjoafkkaaDoor

namespace Go.Proofs.YtolbpjjjoafkkaaDoor
open Go Go.RowKit

theorem LisA.below {w w' : World} {n : Nat} {nx : (Nat → Bool) → Nat → Bool} {I : (Nat → Bool) → Prop} {M : (Nat → Bool) → Nat} {q0 : Nat → Bool} {y : Value} (h : LisA w n nx I M q0 y) (hb : Below w.heap.size w w') : LisA w' n nx I M q0 y := by
  obtain ⟨K, g, c, h1, h2, h3, h4⟩ := h
  exact ⟨K, g, c, h1, h2, h3, h4.below hb⟩
theorem call76 (x : Value) (W : World) : Sem.run Tryd.prog (callFunc 76 #[x]) W = .ok (.enter 76 #[x]) W := by kernel_rfl
theorem call77 (x : Value) (W : World) : Sem.run Tryd.prog (callFunc 77 #[x]) W = .ok (.enter 77 #[x]) W := by kernel_rfl
set_option maxRecDepth 100000 in
set_option maxHeartbeats 2000000 in
theorem sder_bad (N : Int) (v : Value) (zs : List Int) (w : World) (hv : Sl w v zs) (hc : (gfault N zs).1 ≠ 0) :
    Calls Tryd.prog 35 #[.agg #[.int .i64 N, v]] w fun x w' => x = .returned (.tuple #[.slice none 0 0, .agg #[.int .i64 (gfault N zs).1, .int .i64 (gfault N zs).2]]) ∧ Below w.heap.size w w' := by
  obtain ⟨w0, BG⟩ := Beg.new w N v
  obtain ⟨c0, c1, _, _⟩ := BG.box.two
  have hck := fun f => listed_bad N v f zs w0 (hv.below BG.bel) hc
  obtain ⟨c, i, hci⟩ : ∃ c i, gfault N zs = (c, i) := ⟨_, _, rfl⟩
  rw [hci] at hck hc ⊢
  simp only at hc hck
  have HCK := hide hck
  clear hck hci
  rw [BG.eq] at c0 c1
  go_enter Tryd.func35, Tryd.ntmps35
  go_wp2_with fail
  rw [← BG.eq]
  refine (HCK.out _).mono ?_
  rintro x w1 ⟨rfl, hb1⟩
  clear c0 c1
  have hR1 := blk_below BG.res hb1
  have hBw := bcat BG.bel hb1 BG.bel.size
  obtain ⟨y0, y1, fy0, fy1⟩ := hR1.two
  obtain ⟨hR6, hB6⟩ := put2 hR1 hBw (by omega) c i
  obtain ⟨z0, z1, _, _⟩ := hR6.two
  go_wp2
  exact bodyPost_ret (v := .tuple #[.slice none 0 0, .agg #[.int .i64 c, .int .i64 i]]) (by simp [results, Tryd.results35, go_sem, z0, z1]) rfl ⟨rfl, hB6⟩
set_option maxRecDepth 100000 in
set_option maxHeartbeats 2000000 in
theorem sder_good (n e : Nat) (v : Value) (zs : List Int) (w : World) (hv : Sl w v zs) (hg : IsGrp n zs e) (hT : Tab w) :
    Calls Tryd.prog 35 #[.agg #[.int .i64 n, v]] w fun x w' => ∃ y, x = .returned (.tuple #[y, .agg #[.int .i64 0, .int .i64 0]]) ∧ LisA w' n (fun q => cmb n zs e q q) (fun q => Fin.Sg (List.range n) (tm n zs) e (fun a => q a = true)) (fun q => (lst n q).length) (fun _ => true) y ∧ Below w.heap.size w w' := by
  obtain ⟨w0, BG⟩ := Beg.new w n v
  obtain ⟨c0, c1, _, _⟩ := BG.box.two
  have HCK := hide (listed_good n e 76 v zs (fun q => cmb n zs e q q) (fun q => Fin.Sg (List.range n) (tm n zs) e (fun a => q a = true)) (fun q => (lst n q).length) (fun _ => true) w0 (hv.below BG.bel) hg (hT.below BG.bel) (fun x W => call76 x W) (fun W u h hG => derived_ok n v u zs e W hG ((hT.below BG.bel).below h)))
  rw [BG.eq] at c0 c1
  go_enter Tryd.func35, Tryd.ntmps35
  go_wp2_with fail
  rw [← BG.eq]
  refine HCK.out.mono ?_
  rintro x w1 ⟨y, rfl, hl, hb1⟩
  clear c0 c1
  have hR1 := blk_below BG.res hb1
  have hBw := bcat BG.bel hb1 BG.bel.size
  obtain ⟨_, y0, y1, fy0, fy1, s0, s1⟩ := Two.mk' hR1
  go_wp2
  exact bodyPost_ret (v := .tuple #[y, .agg #[.int .i64 0, .int .i64 0]]) (by simp [results, Tryd.results35, go_sem, y0, y1]) rfl ⟨y, rfl, hl, hBw⟩
set_option maxRecDepth 100000 in
set_option maxHeartbeats 2000000 in
theorem slow_bad (N : Int) (v : Value) (zs : List Int) (w : World) (hv : Sl w v zs) (hc : (gfault N zs).1 ≠ 0) :
    Calls Tryd.prog 36 #[.agg #[.int .i64 N, v]] w fun x w' => x = .returned (.tuple #[.slice none 0 0, .agg #[.int .i64 (gfault N zs).1, .int .i64 (gfault N zs).2]]) ∧ Below w.heap.size w w' := by
  obtain ⟨w0, BG⟩ := Beg.new w N v
  obtain ⟨c0, c1, _, _⟩ := BG.box.two
  have hck := fun f => listed_bad N v f zs w0 (hv.below BG.bel) hc
  obtain ⟨c, i, hci⟩ : ∃ c i, gfault N zs = (c, i) := ⟨_, _, rfl⟩
  rw [hci] at hck hc ⊢
  simp only at hc hck
  have HCK := hide hck
  clear hck hci
  rw [BG.eq] at c0 c1
  go_enter Tryd.func36, Tryd.ntmps36
  go_wp2_with fail
  rw [← BG.eq]
  refine (HCK.out _).mono ?_
  rintro x w1 ⟨rfl, hb1⟩
  clear c0 c1
  have hR1 := blk_below BG.res hb1
  have hBw := bcat BG.bel hb1 BG.bel.size
  obtain ⟨y0, y1, fy0, fy1⟩ := hR1.two
  obtain ⟨hR6, hB6⟩ := put2 hR1 hBw (by omega) c i
  obtain ⟨z0, z1, _, _⟩ := hR6.two
  go_wp2
  exact bodyPost_ret (v := .tuple #[.slice none 0 0, .agg #[.int .i64 c, .int .i64 i]]) (by simp [results, Tryd.results36, go_sem, z0, z1]) rfl ⟨rfl, hB6⟩
set_option maxRecDepth 100000 in
set_option maxHeartbeats 2000000 in
theorem slow_good (n e : Nat) (v : Value) (zs : List Int) (w : World) (hv : Sl w v zs) (hg : IsGrp n zs e) (hT : Tab w) :
    Calls Tryd.prog 36 #[.agg #[.int .i64 n, v]] w fun x w' => ∃ y, x = .returned (.tuple #[y, .agg #[.int .i64 0, .int .i64 0]]) ∧ LisA w' n (fun q => cmb n zs e q fun _ => true) (Nsg n zs e) (fun q => (lst n q).length) (fun _ => true) y ∧ Below w.heap.size w w' := by
  obtain ⟨w0, BG⟩ := Beg.new w n v
  obtain ⟨c0, c1, _, _⟩ := BG.box.two
  have HCK := hide (listed_good n e 77 v zs (fun q => cmb n zs e q fun _ => true) (Nsg n zs e) (fun q => (lst n q).length) (fun _ => true) w0 (hv.below BG.bel) hg (hT.below BG.bel) (fun x W => call77 x W) (fun W u h hG => lower_ok n v u zs e W hG ((hT.below BG.bel).below h)))
  rw [BG.eq] at c0 c1
  go_enter Tryd.func36, Tryd.ntmps36
  go_wp2_with fail
  rw [← BG.eq]
  refine HCK.out.mono ?_
  rintro x w1 ⟨y, rfl, hl, hb1⟩
  clear c0 c1
  have hR1 := blk_below BG.res hb1
  have hBw := bcat BG.bel hb1 BG.bel.size
  obtain ⟨_, y0, y1, fy0, fy1, s0, s1⟩ := Two.mk' hR1
  go_wp2
  exact bodyPost_ret (v := .tuple #[y, .agg #[.int .i64 0, .int .i64 0]]) (by simp [results, Tryd.results36, go_sem, y0, y1]) rfl ⟨y, rfl, hl, hBw⟩
set_option maxRecDepth 100000 in
set_option maxHeartbeats 2000000 in
theorem ends_bad (c i : Int) (w : World) (hc : c ≠ 0) :
    Calls Tryd.prog 79 #[.slice none 0 0, .agg #[.int .i64 c, .int .i64 i]] w fun x w' => x = .returned (.tuple #[.bool false, .agg #[.int .i64 c, .int .i64 i]]) ∧ Below w.heap.size w w' := by
  have hcb : (c != 0) = true := by simpa using hc
  obtain ⟨w0, hw0⟩ : ∃ w0, w0 = (w.alloc (.cells #[.int .i64 c, .int .i64 i] 27)).alloc (.cells #[.int .i64 0, .int .i64 0] 27) := ⟨_, rfl⟩
  have hB0 : Below w.heap.size w w0 := by rw [hw0]; exact (balloc w _).alloc (by simp) _
  have hX0 : Blk w0 w.heap.size 27 [.int .i64 c, .int .i64 i] := by rw [hw0]; exact (blk0 (w := w) (T := 27) _ _).alloc _
  have hR0 : Blk w0 (w.heap.size + 1) 27 [.int .i64 0, .int .i64 0] := by
    rw [hw0]
    have := blk0 (w := w.alloc (.cells #[.int .i64 c, .int .i64 i] 27)) (T := 27) (.int .i64 0) (.int .i64 0)
    rwa [World.size_alloc] at this
  obtain ⟨c0, c1, _, _⟩ := hX0.two
  obtain ⟨y0, y1, fy0, fy1⟩ := hR0.two
  rw [hw0] at c0 c1 y0 y1
  go_enter Tryd.func79, Tryd.ntmps79
  go_wp2_with fail
  rw [← hw0]
  rw [← hw0] at c0 c1 y0 y1
  clear hw0
  go_region
  all_goals (
    go_wp2
    obtain ⟨hR6, hB6⟩ := put2 hR0 hB0 (by omega) c i
    have hB7 := bdrew hB6
    have hR7 : Blk ((w0.setCell ⟨w.heap.size + 1, 0, none⟩ (.int .i64 c)).setCell ⟨w.heap.size + 1, 1, none⟩ (.int .i64 i)).drew (w.heap.size + 1) 27 [.int .i64 c, .int .i64 i] := hR6
    generalize ((w0.setCell ⟨w.heap.size + 1, 0, none⟩ (.int .i64 c)).setCell ⟨w.heap.size + 1, 1, none⟩ (.int .i64 i)).drew = W at hR7 hB7 ⊢
    obtain ⟨z0, z1, _, _⟩ := hR7.two
    exact bodyPost_ret (v := .tuple #[.bool false, .agg #[.int .i64 c, .int .i64 i]]) (by simp [results, Tryd.results79, go_sem, z0, z1]) rfl ⟨rfl, hB7⟩)
set_option maxRecDepth 100000 in
set_option maxHeartbeats 2000000 in
theorem ends_good (g K c : Nat) (rs : List (List Int)) (w : World) (hR : Rws w g rs) (hl : rs.length = K + 1) (hK : K ≤ 60) :
    Calls Tryd.prog 79 #[.slice (some ⟨g, 0, none⟩) (K + 1) c, .agg #[.int .i64 0, .int .i64 0]] w fun x w' => x = .returned (.tuple #[.bool (((rs[K]?.getD []).length : Int) == 1), .agg #[.int .i64 0, .int .i64 0]]) ∧ Below w.heap.size w w' := by
  obtain ⟨w0, hw0⟩ : ∃ w0, w0 = (w.alloc (.cells #[.int .i64 0, .int .i64 0] 27)).alloc (.cells #[.int .i64 0, .int .i64 0] 27) := ⟨_, rfl⟩
  have hB0 : Below w.heap.size w w0 := by rw [hw0]; exact (balloc w _).alloc (by simp) _
  have hX0 : Blk w0 w.heap.size 27 [.int .i64 0, .int .i64 0] := by rw [hw0]; exact (blk0 (w := w) (T := 27) _ _).alloc _
  have hR0 : Blk w0 (w.heap.size + 1) 27 [.int .i64 0, .int .i64 0] := by
    rw [hw0]
    have := blk0 (w := w.alloc (.cells #[.int .i64 0, .int .i64 0] 27)) (T := 27) (.int .i64 0) (.int .i64 0)
    rwa [World.size_alloc] at this
  obtain ⟨a, cp, hc, _⟩ := (hR.below hB0) K (by omega)
  obtain ⟨c0, c1, _, _⟩ := hX0.two
  obtain ⟨_, y0, y1, fy0, fy1, s0, s1⟩ := Two.mk' hR0
  have hk1 : (((K + 1 : Nat) : Int) - 1) = (K : Int) := by omega
  generalize (rs[K]?.getD []).length = L9 at *
  rw [hw0] at c0 c1 hc y0 y1 fy0 fy1 s0 s1
  go_enter Tryd.func79, Tryd.ntmps79
  go_wp2
  rw [← hw0] at y0 y1 ⊢
  exact bodyPost_ret (v := .tuple #[.bool ((L9 : Int) == 1), .agg #[.int .i64 0, .int .i64 0]]) (by simp [results, Tryd.results79, go_sem, y0, y1]) rfl ⟨rfl, hB0⟩
end Go.Proofs.YtolbpjjjoafkkaaDoor

namespace Go.Proofs.YtolbpjjjoafkkaaDoor
open Go Go.RowKit

/-- How the lower series goes, and whether it ends with the one. -/
def NilA (n : Nat) (zs : List Int) (e : Nat) (b : Bool) : Prop := ∃ K : Nat, Stp n (fun q => cmb n zs e q fun _ => true) (Nsg n zs e) (fun q => (lst n q).length) (fun _ => true) K ∧ bs (itr (fun q => cmb n zs e q fun _ => true) (fun _ => true) (K + 1)) n = bs (itr (fun q => cmb n zs e q fun _ => true) (fun _ => true) K) n ∧ (b = true ↔ (lst n (itr (fun q => cmb n zs e q fun _ => true) (fun _ => true) K)).length = 1)
set_option maxRecDepth 100000 in
set_option maxHeartbeats 2000000 in
theorem nil_good (n e : Nat) (v : Value) (zs : List Int) (w : World) (hv : Sl w v zs) (hg : IsGrp n zs e) (hT : Tab w) :
    Calls Tryd.prog 39 #[.agg #[.int .i64 n, v]] w fun x w' => ∃ b, x = .returned (.tuple #[.bool b, .agg #[.int .i64 0, .int .i64 0]]) ∧ NilA n zs e b ∧ Below w.heap.size w w' := by
  obtain ⟨w0, BG⟩ := Beg.new w n v
  obtain ⟨c0, c1, _, _⟩ := BG.box.two
  have HCK := hide (slow_good n e v zs w0 (hv.below BG.bel) hg (hT.below BG.bel))
  rw [BG.eq] at c0 c1
  go_enter Tryd.func39, Tryd.ntmps39
  go_wp2_with fail
  rw [← BG.eq]
  refine HCK.out.mono ?_
  rintro x w1 ⟨y, rfl, ⟨K, g, c, rfl, hst, hend, hR⟩, hb1⟩
  clear c0 c1
  have hm := hst.meas
  have hS := sls_at (n := n) (f := itr (fun q => cmb n zs e q fun _ => true) (fun _ => true)) (k := K + 1) (i := K) (by omega)
  have HN := hide (show NilA n zs e (((lst n (itr (fun q => cmb n zs e q fun _ => true) (fun _ => true) K)).length : Int) == 1) from ⟨K, hst, hend, by rw [beq_iff_eq]; omega⟩)
  have HEN := hide (ends_good g K c _ w1 hR (sls_len _ _ _) (by omega))
  rw [hS, li_len] at HEN
  clear hst hend hS
  generalize (((lst n (itr (fun q => cmb n zs e q fun _ => true) (fun _ => true) K)).length : Int) == 1) = b at *
  go_wp2_with fail
  refine HEN.out.mono ?_
  rintro x w2 ⟨rfl, hb2⟩
  have hbb := bcat2 hb1 hb2
  have hR1 := blk_below BG.res hbb
  have hBw := bcat BG.bel hbb BG.bel.size
  obtain ⟨_, y0, y1, fy0, fy1, s0, s1⟩ := Two.mk' hR1
  go_wp2
  exact bodyPost_ret (v := .tuple #[.bool b, .agg #[.int .i64 0, .int .i64 0]]) (by simp [results, Tryd.results39, go_sem, y0, y1]) rfl ⟨b, rfl, HN.out, hBw⟩
set_option maxRecDepth 100000 in
set_option maxHeartbeats 2000000 in
theorem nil_bad (N : Int) (v : Value) (zs : List Int) (w : World) (hv : Sl w v zs) (hc : (gfault N zs).1 ≠ 0) :
    Calls Tryd.prog 39 #[.agg #[.int .i64 N, v]] w fun x w' => x = .returned (.tuple #[.bool false, .agg #[.int .i64 (gfault N zs).1, .int .i64 (gfault N zs).2]]) ∧ Below w.heap.size w w' := by
  obtain ⟨w0, BG⟩ := Beg.new w N v
  obtain ⟨c0, c1, _, _⟩ := BG.box.two
  have hck := slow_bad N v zs w0 (hv.below BG.bel) hc
  obtain ⟨c, i, hci⟩ : ∃ c i, gfault N zs = (c, i) := ⟨_, _, rfl⟩
  rw [hci] at hck hc ⊢
  simp only at hc hck
  have HCK := hide hck
  clear hck hci
  rw [BG.eq] at c0 c1
  go_enter Tryd.func39, Tryd.ntmps39
  go_wp2_with fail
  rw [← BG.eq]
  refine HCK.out.mono ?_
  rintro x w1 ⟨rfl, hb1⟩
  clear c0 c1
  go_wp2_with fail
  refine (ends_bad c i w1 hc).mono ?_
  rintro x w2 ⟨rfl, hb2⟩
  have hbb := bcat2 hb1 hb2
  have hR1 := blk_below BG.res hbb
  have hBw := bcat BG.bel hbb BG.bel.size
  obtain ⟨y0, y1, fy0, fy1⟩ := hR1.two
  obtain ⟨hR6, hB6⟩ := put2 hR1 hBw (by omega) c i
  obtain ⟨z0, z1, _, _⟩ := hR6.two
  go_wp2
  exact bodyPost_ret (v := .tuple #[.bool false, .agg #[.int .i64 c, .int .i64 i]]) (by simp [results, Tryd.results39, go_sem, z0, z1]) rfl ⟨rfl, hB6⟩
/-- The square's commutators. -/
theorem sq_cm : ∀ a, a < 8 → ∀ b, b < 8 → Fin.cm (tm 8 sqT) (iv 8 sqT 0) a b = 0 ∨ Fin.cm (tm 8 sqT) (iv 8 sqT 0) a b = 2 := by decide +kernel
theorem sq_cm2 : ∃ a, a < 8 ∧ ∃ b, b < 8 ∧ Fin.cm (tm 8 sqT) (iv 8 sqT 0) a b = 2 := by decide +kernel
theorem sq_cm3 : ∀ a, a < 8 → ∀ b, b < 8 → (a = 0 ∨ a = 2) → (b = 0 ∨ b = 2) → Fin.cm (tm 8 sqT) (iv 8 sqT 0) a b = 0 := by decide +kernel
theorem sq_sg : ∀ a, a < 8 → ∀ b, b < 8 → (a = 0 ∨ a = 2) → (b = 0 ∨ b = 2) → (tm 8 sqT a b = 0 ∨ tm 8 sqT a b = 2) := by decide +kernel
theorem sq_one : tm 8 sqT 0 0 = 0 := by decide +kernel
theorem sq_d1 {x : Nat} (hx : x < 8) : cmb 8 sqT 0 (fun _ => true) (fun _ => true) x = true ↔ (x = 0 ∨ x = 2) := by
  constructor
  · exact fun h => cmb_in (P := fun x => x = 0 ∨ x = 2) ⟨.inl rfl, fun a b ha hb h1 h2 => sq_sg a (List.mem_range.1 ha) b (List.mem_range.1 hb) h1 h2⟩ (fun a b ha hb _ _ => sq_cm a ha b hb) hx h
  · rintro (rfl | rfl)
    · exact (cmb_sg sqT_grp).one
    · obtain ⟨a, ha, b, hb, h⟩ := sq_cm2
      have := cmb_base (q := fun _ => true) (r := fun _ => true) sqT_grp ha hb rfl rfl
      rwa [h] at this
theorem sq_d2 {q : Nat → Bool} (hq : ∀ x, x < 8 → q x = true → (x = 0 ∨ x = 2)) {x : Nat} (hx : x < 8) : cmb 8 sqT 0 q q x = true ↔ x = 0 := by
  constructor
  · exact fun h => cmb_in (P := fun x => x = 0) ⟨rfl, fun a b _ _ h1 h2 => by rw [h1, h2]; exact sq_one⟩ (fun a b ha hb h1 h2 => sq_cm3 a ha b hb (hq a ha h1) (hq b hb h2)) hx h
  · rintro rfl
    exact (cmb_sg sqT_grp).one
theorem sq_series {I : (Nat → Bool) → Prop} {M : (Nat → Bool) → Nat} {K : Nat} (h : Stp 8 (fun q => cmb 8 sqT 0 q q) I M (fun _ => true) K) (hend : bs (itr (fun q => cmb 8 sqT 0 q q) (fun _ => true) (K + 1)) 8 = bs (itr (fun q => cmb 8 sqT 0 q q) (fun _ => true) K) 8) : K = 2 ∧ li (lst 8 (itr (fun q => cmb 8 sqT 0 q q) (fun _ => true) 1)) = [0, 2] := by
  have d1 : ∀ x, x < 8 → (itr (fun q => cmb 8 sqT 0 q q) (fun _ => true) 1 x = true ↔ (x = 0 ∨ x = 2)) := fun x hx => sq_d1 hx
  have d2 : ∀ x, x < 8 → (itr (fun q => cmb 8 sqT 0 q q) (fun _ => true) 2 x = true ↔ x = 0) := fun x hx => sq_d2 (fun x hx h => (d1 x hx).1 h) hx
  have d3 : ∀ x, x < 8 → (itr (fun q => cmb 8 sqT 0 q q) (fun _ => true) 3 x = true ↔ x = 0) := fun x hx => sq_d2 (fun x hx h => .inl ((d2 x hx).1 h)) hx
  refine ⟨?_, ?_⟩
  · match K, h, hend with
    | 0, _, hend =>
      have := bs_inj hend 1 (by omega)
      have h1 : itr (fun q => cmb 8 sqT 0 q q) (fun _ => true) 1 1 = true := this
      have := (d1 1 (by omega)).1 h1
      omega
    | 1, _, hend =>
      have h1 : itr (fun q => cmb 8 sqT 0 q q) (fun _ => true) 2 2 = itr (fun q => cmb 8 sqT 0 q q) (fun _ => true) 1 2 := bs_inj hend 2 (by omega)
      rw [(d1 2 (by omega)).2 (.inr rfl)] at h1
      have := (d2 2 (by omega)).1 h1
      omega
    | 2, _, _ => rfl
    | K + 3, h, _ =>
      exact absurd (bs_ext fun x hx => by rw [Bool.eq_iff_iff, d3 x hx, d2 x hx]) (h.go 2 (by omega))
  · rw [lst_congr (q := fun x => decide (x = 0 ∨ x = 2)) fun x hx => by rw [Bool.eq_iff_iff, d1 x hx, decide_eq_true_eq]]
    decide
set_option maxRecDepth 100000 in
set_option maxHeartbeats 2000000 in
theorem seriesBegun_any (w : World) (hT : Tab w) : Calls Tryd.prog 41 #[] w fun x w' => x = .returned (.bool true) ∧ Below w.heap.size w w' := by
  go_enter Tryd.func41, Tryd.ntmps41
  go_wp2_with fail
  refine (square_ok w).mono ?_
  rintro x w1 ⟨r, rfl, hrow, hb1⟩
  have h01 : 0 < w1.heap.size := Nat.lt_of_lt_of_le hT.lt hb1.size
  go_wp2_with fail
  refine (sder_good 8 0 r sqT w1 (row_sl hrow h01) sqT_grp (hT.below hb1)).mono ?_
  rintro x w2 ⟨y, rfl, ⟨K, g, c, rfl, hst, hend, hR⟩, hb2⟩
  obtain ⟨rfl, h02⟩ := sq_series hst hend
  have hs1 := sls_at (n := 8) (f := itr (fun q => cmb 8 sqT 0 q q) (fun _ => true)) (k := 3) (i := 1) (by omega)
  rw [h02] at hs1
  obtain ⟨a, cp, hc, hS⟩ := hR 1 (by rw [sls_len]; omega)
  rw [hs1] at hc hS
  clear hst hend hR h02 hs1
  have hb3 := balloc w2 (.cells #[.int .i64 0, .int .i64 0] 27)
  have hF3 := blk0 (w := w2) (T := 27) (.int .i64 0) (.int .i64 0)
  obtain ⟨t0, t1, _, _⟩ := hF3.two
  have hc3 := below_cell hb3 hc
  have hb4 : Below w2.heap.size w2 ((w2.alloc (.cells #[.int .i64 0, .int .i64 0] 27)).alloc (.cells #[.int .i64 0, .int .i64 2] 3)) := hb3.alloc hb3.size _
  have hL4 : Blk ((w2.alloc (.cells #[.int .i64 0, .int .i64 0] 27)).alloc (.cells #[.int .i64 0, .int .i64 2] 3)) (w2.heap.size + 1) 3 (([0, 2] : List Int).map (Value.int .i64)) := by
    have := blk0 (w := w2.alloc (.cells #[.int .i64 0, .int .i64 0] 27)) (T := 3) (.int .i64 0) (.int .i64 2)
    rwa [World.size_alloc] at this
  have hS4 := Sl.of_blk (n := 2) hL4 rfl (by simp)
  go_wp2_with fail
  generalize (w2.alloc (.cells #[.int .i64 0, .int .i64 0] 27)).alloc (.cells #[.int .i64 0, .int .i64 2] 3) = w4 at *
  refine (ints_any _ _ [0, 2] [0, 2] w4 (hS.below hb4) hS4).mono ?_
  rintro x w5 ⟨rfl, hb5⟩
  rw [show decide (([0, 2] : List Int) = ([0, 2] : List Int)) = true from rfl]
  go_wp2
  go_ret
  exact ⟨rfl, bcat2 (bcat2 (bcat2 hb1 hb2) hb4) hb5⟩
end Go.Proofs.YtolbpjjjoafkkaaDoor

namespace Go.Proofs.YtolbpjjjoafkkaaDoor
open Go Go.RowKit

set_option maxRecDepth 100000 in
set_option maxHeartbeats 4000000 in
theorem nor_good (n e : Nat) (v u0 : Value) (zs l0 : List Int) (w : World) (hv : Sl w v zs) (hg : IsGrp n zs e) (hu : Sl w u0 l0) (hT : Tab w) (hc : lfault n l0 = (0, 0)) (hs : subT n zs e (pset l0) = true) :
    Calls Tryd.prog 27 #[.agg #[.int .i64 n, v], u0] w fun x w' => ∃ r, x = .returned (.tuple #[r, .agg #[.int .i64 0, .int .i64 0]]) ∧ SlF w.heap.size w' r (li (lst n (norq n zs e (pset l0)))) ∧ Below w.heap.size w w' := by
  obtain ⟨va, vl, vc, rfl⟩ := hv.isSlice
  obtain ⟨w0, BG⟩ := Beg.new w n (.slice va vl vc)
  have hv0 := hv.below BG.bel
  obtain ⟨c0, c1, _, _⟩ := BG.box.two
  have HCK := hide (osub_good n e (.slice va vl vc) u0 zs l0 w0 hv0 hg (hu.below BG.bel) (hT.below BG.bel) hc hs)
  have HZ0 := hide (show w.heap.size + 2 ≤ w0.heap.size by rw [BG.eq]; simp)
  rw [BG.eq] at c0 c1
  go_enter Tryd.func27, Tryd.ntmps27
  go_wp2_with fail
  rw [← BG.eq]
  refine HCK.out.mono ?_
  rintro x w1 ⟨iv9, rfl, hSI, hb1⟩
  obtain ⟨ia, il, ic, rfl⟩ := hSI.sl.isSlice
  clear c0 c1 HCK
  obtain ⟨w2, hw2⟩ : ∃ w2, w2 = (w1.alloc (.cells #[.int .i64 n, (.slice va vl vc), .int .i64 e, (.slice ia il ic)] 64)).alloc (.cells #[.int .i64 0, .int .i64 0] 27) := ⟨_, rfl⟩
  have hb2 : Below w1.heap.size w1 w2 := by rw [hw2]; exact (balloc w1 _).alloc (by simp) _
  have hB1 : Below w0.heap.size w0 w2 := bcat2 hb1 hb2
  have hF1 : Blk w2 (w1.heap.size + 1) 27 [.int .i64 0, .int .i64 0] := by
    rw [hw2]
    have := blk0 (w := w1.alloc (.cells #[.int .i64 n, (.slice va vl vc), .int .i64 e, (.slice ia il ic)] 64)) (T := 27) (.int .i64 0) (.int .i64 0)
    rwa [World.size_alloc] at this
  have hH2 : Blk w2 w1.heap.size 64 [.int .i64 n, (.slice va vl vc), .int .i64 e, (.slice ia il ic)] := by
    rw [hw2]; exact (blk4 _ _ _ _).alloc _
  have hBw2 := bcat BG.bel hB1 BG.bel.size
  have hR2 := blk_below BG.res hB1
  have hT2 := hT.below hBw2
  have hGA2 : GA w2 n (.slice va vl vc) e (.slice ia il ic) zs := ⟨hg, hv.below hBw2, (hSI.below hb2).sl⟩
  obtain ⟨t0, t1, _, _⟩ := hF1.two
  obtain ⟨_, h0, h1, h2, h3, _⟩ := Four.mk' hH2
  have hx2 := blk_below BG.box hB1
  have HZ1 := hide (Nat.le_trans HZ0.out hb1.size)
  have HZ2 := hide hb2.size
  rw [hw2] at t0 t1 h0 h1 h2 h3
  go_wp2_with fail
  rw [← hw2]
  clear hw2 t0 t1 h0 h1 h2 h3
  refine (norm_ok n _ _ zs e (pset l0) w2 hGA2 hT2).mono ?_
  rintro x w3 ⟨rfl, hb3⟩
  go_wp2_with fail
  refine (list_ok n (norq n zs e (pset l0)) w3 hg.tab.le (hT2.below hb3)).mono ?_
  rintro x w4 ⟨r, rfl, hr, hb4⟩
  have hb5 := bcat2 hb3 hb4
  have hB5 := bcat hBw2 hb5 hBw2.size
  obtain ⟨_, y0, y1, fy0, fy1, s0, s1⟩ := Two.mk' (blk_below hR2 hb5)
  have hr9 := hr.mono (show w.heap.size ≤ w3.heap.size from Nat.le_trans hBw2.size hb3.size)
  go_wp2
  exact bodyPost_ret (v := .tuple #[r, .agg #[.int .i64 0, .int .i64 0]]) (by simp [results, Tryd.results27, go_sem, y0, y1]) rfl ⟨_, rfl, hr9, hB5⟩
theorem nor_lst (n e : Nat) (v u : Value) (zs : List Int) (q : Nat → Bool) (w : World) (hv : Sl w v zs) (hg : IsGrp n zs e) (hu : Sl w u (li (lst n q))) (hT : Tab w) (hs : subT n zs e q = true) :
    Calls Tryd.prog 27 #[.agg #[.int .i64 n, v], u] w fun x w' => ∃ (a : Option Addr) (c : Nat), x = .returned (.tuple #[.slice a (lst n (norq n zs e q)).length c, .agg #[.int .i64 0, .int .i64 0]]) ∧ Sl w' (.slice a (lst n (norq n zs e q)).length c) (li (lst n (norq n zs e q))) ∧ Below w.heap.size w w' := by
  have h := nor_good n e v u zs (li (lst n q)) w hv hg hu hT (lst_fault n q) ((subT_congr hg fun a ha => pset_lst ha).trans hs)
  have h1 : lst n (norq n zs e (pset (li (lst n q)))) = lst n (norq n zs e q) := lst_congr fun a _ => by
    have h1 : lst n (pset (li (lst n q))) = lst n q := lst_pset n q
    have h2 : bs (pset (li (lst n q))) n = bs q n := bs_ext fun a ha => pset_lst ha
    unfold norq cjq
    rw [h1, h2]
  rw [h1] at h
  refine h.mono ?_
  rintro x w1 ⟨r, rfl, hr, hb⟩
  have hr := hr.sl
  obtain ⟨a, c, _, _, rfl, _⟩ := id hr
  rw [li_len] at hr ⊢
  exact ⟨a, c, rfl, hr, hb⟩
end Go.Proofs.YtolbpjjjoafkkaaDoor

namespace Go.Proofs.YtolbpjjjoafkkaaDoor
variable {n e : Nat} {zs : List Int} {s : Nat → Bool}

theorem last_of {P : Nat → Prop} (h0 : P 0) : ∀ K, ¬ P K → ∃ i, i < K ∧ P i ∧ ¬ P (i + 1)
  | 0, h => absurd h0 h
  | K + 1, h => by
    by_cases hK : P K
    · exact ⟨K, by omega, hK, h⟩
    · obtain ⟨i, h1, h2, h3⟩ := last_of h0 K hK
      exact ⟨i, by omega, h2, h3⟩
theorem one_only (g : IsGrp n zs e) {q : Nat → Bool} (he : q e = true) (h1 : (lst n q).length = 1) {x : Nat} (hx : x < n) (hq : q x = true) : x = e := by
  obtain ⟨d, hd⟩ := List.length_eq_one_iff.1 h1
  have m1 : e ∈ lst n q := mem_lst.2 ⟨g.elt, he⟩
  have m2 : x ∈ lst n q := mem_lst.2 ⟨hx, hq⟩
  rw [hd, List.mem_singleton] at m1 m2
  rw [m1, m2]
theorem two_of (g : IsGrp n zs e) {q : Nat → Bool} (he : q e = true) (h1 : (lst n q).length ≠ 1) : ∃ x, x < n ∧ x ≠ e ∧ q x = true := by
  refine Classical.byContradiction fun h => h1 ?_
  have h2 : lst n q = lst n (fun a => decide (a = e)) := lst_congr fun x hx => by
    rw [Bool.eq_iff_iff, decide_eq_true_eq]
    exact ⟨fun h3 => Classical.byContradiction fun h4 => h ⟨x, hx, h4, h3⟩, fun h3 => by rw [h3]; exact he⟩
  rw [h2, one_lst g.elt]
  rfl
theorem more_of (g : IsGrp n zs e) {q : Nat → Bool} (he : q e = true) {x : Nat} (hx : x < n) (hne : x ≠ e) (hq : q x = true) : 1 < (lst n q).length := by
  have h1 := List.length_pos_of_mem (mem_lst.2 ⟨g.elt, he⟩)
  refine Classical.byContradiction fun h => hne (one_only g he (by omega) hx hq)
theorem cm_flip (g : IsGrp n zs e) {a b : Nat} (ha : a < n) (hb : b < n) : tm n zs (Fin.cm (tm n zs) (iv n zs e) a b) (Fin.cm (tm n zs) (iv n zs e) b a) = e := by
  have F := grp_fg g
  have V := grp_iv g
  have ha' := List.mem_range.2 ha
  have hb' := List.mem_range.2 hb
  have c1 := Fin.cm_mem F V ha' hb'
  have c2 := Fin.cm_mem F V hb' ha'
  have hba := F.cl _ _ hb' ha'
  refine F.can hba (F.cl _ _ c1 c2) F.one ?_
  rw [← F.ass _ _ _ hba c1 c2, Fin.cm_eq F V ha' hb', Fin.cm_eq F V hb' ha', F.right _ hba]
theorem cj_cm (g : IsGrp n zs e) {a b : Nat} (ha : a < n) (hb : b < n) : Fin.cj (tm n zs) (iv n zs e) a b = tm n zs a (Fin.cm (tm n zs) (iv n zs e) a b) := by
  have F := grp_fg g
  have V := grp_iv g
  have ha' := List.mem_range.2 ha
  have hcj := Fin.cj_mem F V ha' (List.mem_range.2 hb)
  rw [cm_as g ha hb, ← F.ass _ _ _ ha' (V a ha').1 hcj, (V a ha').2.1, F.left _ hcj]
/-- The lower series. -/
noncomputable abbrev lo (n : Nat) (zs : List Int) (e i : Nat) : Nat → Bool := itr (fun q => cmb n zs e q fun _ => true) (fun _ => true) i
theorem lo_up (g : IsGrp n zs e) {i a b : Nat} (ha : a < n) (hb : b < n) (h : lo n zs e i a = true) : lo n zs e (i + 1) (Fin.cm (tm n zs) (iv n zs e) a b) = true := cmb_base g ha hb h rfl
theorem nil_grows (g : IsGrp n zs e) {K : Nat} (hin : ∀ i, i ≤ K → Nsg n zs e (lo n zs e i)) (hK : (lst n (lo n zs e K)).length = 1) (hs : subT n zs e s = true) (hno : (lst n s).length ≠ n) : (lst n s).length < (lst n (norq n zs e s)).length := by
  have F := grp_fg g
  have V := grp_iv g
  have S := subT_iff.1 hs
  have h0 : ∃ x, x < n ∧ lo n zs e 0 x = true ∧ ¬ s x = true := Classical.byContradiction fun h => hno (by
    have h1 : lst n s = lst n (fun _ => true) := lst_congr fun x hx => by
      rw [Bool.eq_iff_iff]
      exact ⟨fun _ => rfl, fun _ => Classical.byContradiction fun h2 => h ⟨x, hx, rfl, h2⟩⟩
    rw [h1]
    unfold lst
    rw [List.filter_eq_self.2 (fun _ _ => rfl), List.length_range])
  obtain ⟨i, hi, ⟨x, hx, h1, h2⟩, h3⟩ := last_of (P := fun i => ∃ x, x < n ∧ lo n zs e i x = true ∧ ¬ s x = true) h0 K (by
    rintro ⟨x, hx, h1, h2⟩
    rw [one_only g (hin K (Nat.le_refl _)).sg.one hK hx h1] at h2
    exact h2 S.one)
  have hin1 : ∀ y, y < n → lo n zs e (i + 1) y = true → s y = true := fun y hy h4 => Classical.byContradiction fun h5 => h3 ⟨y, hy, h4, h5⟩
  have key : ∀ z, z < n → lo n zs e i z = true → ∀ y, y ∈ List.range n → s y = true → s (Fin.cj (tm n zs) (iv n zs e) y z) = true := fun z hz hl y hy hsy => by
    have hyl := List.mem_range.1 hy
    have c1 := cm_lt g hz hyl
    have c2 := cm_lt g hyl hz
    have h5 := hin1 _ c1 (lo_up g hz hyl hl)
    have h6 : s (Fin.cm (tm n zs) (iv n zs e) y z) = true := S.inv F (List.mem_range.2 c1) (List.mem_range.2 c2) (cm_flip g hz hyl) h5
    rw [cj_cm g hyl hz]
    exact S.mul _ _ hy (List.mem_range.2 c2) hsy h6
  have hx' := List.mem_range.2 hx
  have hL := (hin i (by omega)).sg
  have hxi := hL.inv F hx' (V x hx').1 (V x hx').2.1 h1
  refine (lst_less (fun y hy h4 => (nor_iff y).2 (Fin.nor_sub F V S (List.mem_range.2 hy) h4))).2 ⟨x, hx, (nor_iff x).2 (Fin.nor_of F V hx' (key x hx h1) (key _ (List.mem_range.1 (V x hx').1) hxi)), h2⟩
theorem nil_meets (g : IsGrp n zs e) {K : Nat} {c : Nat → Bool} (hin : ∀ i, i ≤ K → Nsg n zs e (lo n zs e i)) (hK : (lst n (lo n zs e K)).length = 1) (hc : Nsg n zs e c) (hno : (lst n c).length ≠ 1) : 1 < (lst n (fun a => c a && cenq n zs (fun _ => true) a)).length := by
  have F := grp_fg g
  have V := grp_iv g
  obtain ⟨x0, hx0, hne0, hc0⟩ := two_of g hc.sg.one hno
  obtain ⟨i, hi, ⟨x, hx, hne, h1, h2⟩, h3⟩ := last_of (P := fun i => ∃ x, x < n ∧ x ≠ e ∧ c x = true ∧ lo n zs e i x = true) ⟨x0, hx0, hne0, hc0, rfl⟩ K (by
    rintro ⟨x, hx, h1, h2, h3⟩
    exact h1 (one_only g (hin K (Nat.le_refl _)).sg.one hK hx h3))
  have hcen : ∀ x, x < n → (∀ y, y < n → tm n zs x y = tm n zs y x) → cenq n zs (fun _ => true) x = true := fun x _ h => by
    unfold cenq
    rw [List.all_eq_true]
    exact fun y hy => decide_eq_true (h y (mem_lst.1 hy).1)
  refine more_of g ?_ hx hne ?_
  · rw [Bool.and_eq_true]
    exact ⟨hc.sg.one, hcen e g.elt fun y hy => by rw [F.left y (List.mem_range.2 hy), F.right y (List.mem_range.2 hy)]⟩
  · rw [Bool.and_eq_true]
    refine ⟨h1, hcen x hx fun y hy => (Fin.cm_one F V (List.mem_range.2 hx) (List.mem_range.2 hy)).1 ?_⟩
    exact Classical.byContradiction fun h4 => h3 ⟨_, cm_lt g hx hy, h4, hc.cm_in g hx hy h1, lo_up g hx hy h2⟩
theorem clo_nsg (g : IsGrp n zs e) {q p : Nat → Bool} (hp : ∀ a, a < n → (p a = true ↔ Mkd n zs e (cloq n zs e q n) a)) : Nsg n zs e p := by
  have F := grp_fg g
  have V := grp_iv g
  refine ⟨made_sg g hp, fun x a hx ha h => ?_⟩
  have hm := Fin.cj_mem F V hx ha
  exact (hp _ (List.mem_range.1 hm)).2 ((mkd_clo _).2 (Fin.clos_nm F V x a hx ha ((mkd_clo _).1 ((hp x (List.mem_range.1 hx)).1 h))))
end Go.Proofs.YtolbpjjjoafkkaaDoor

namespace Go.Proofs.YtolbpjjjoafkkaaDoor
open Go Go.RowKit

set_option maxRecDepth 100000 in
set_option maxHeartbeats 4000000 in
theorem sgrw_bad (N : Int) (v1 : Option Addr) (v2 v3 : Nat) (u : Value) (zs : List Int) (w : World) (hv : Sl w (.slice v1 v2 v3) zs) (hT : Tab w) (hc : (gfault N zs).1 ≠ 0) :
    Calls Tryd.prog 12 #[.agg #[.int .i64 N, .slice v1 v2 v3], u] w fun e w' => e = .returned (.bool true) ∧ Below w.heap.size w w' := by
  have HNI := hide (fun W (h : Below w.heap.size w W) => nil_bad N (.slice v1 v2 v3) zs W (hv.below h) hc)
  generalize gfault N zs = pf at *
  obtain ⟨c, i⟩ := pf
  simp only at hc HNI
  have hcb : (c != 0) = true := by simpa using hc
  have hB0 : Below w.heap.size w (w.alloc (.cells #[.int .i64 N, .slice v1 v2 v3] 24)) := balloc w _
  have hX0 : BoxG (w.alloc (.cells #[.int .i64 N, .slice v1 v2 v3] 24)) w.heap.size N (.slice v1 v2 v3) := blk0 (w := w) (T := 24) _ _
  go_enter Tryd.func12, Tryd.ntmps12
  go_wp2_with fail
  generalize w.alloc (.cells #[.int .i64 N, .slice v1 v2 v3] 24) = w0 at *
  refine (seriesBegun_any _ (hT.below hB0)).mono ?_
  rintro x w1 ⟨rfl, hb1⟩
  have hB1 := bcat2 hB0 hb1
  have hX1 := blk_below hX0 hb1
  obtain ⟨c0, c1, _, _⟩ := hX1.two
  go_wp2_with fail
  clear c0 c1
  refine (HNI.out _ hB1).mono ?_
  rintro x w2 ⟨rfl, hb2⟩
  obtain ⟨w3, hw3⟩ : ∃ w3, w3 = w2.alloc (.cells #[.int .i64 c, .int .i64 i] 27) := ⟨_, rfl⟩
  have hb3 : Below w2.heap.size w2 w3 := by rw [hw3]; exact balloc w2 _
  have hF3 : Blk w3 w2.heap.size 27 [.int .i64 c, .int .i64 i] := by rw [hw3]; exact blk0 _ _
  have hB3 := bcat2 hB1 (bcat2 hb2 hb3)
  obtain ⟨f0, f1, _, _⟩ := hF3.two
  rw [hw3] at f0 f1
  go_wp2
  rw [← hw3]
  go_ret
  exact ⟨rfl, hB3⟩
set_option maxRecDepth 100000 in
set_option maxHeartbeats 8000000 in
theorem sgrw_good (n e : Nat) (v1 : Option Addr) (v2 v3 : Nat) (u1 : Option Addr) (u2 u3 : Nat) (zs ls : List Int) (w : World) (hv : Sl w (.slice v1 v2 v3) zs) (hu : Sl w (.slice u1 u2 u3) ls) (hg : IsGrp n zs e) (hT : Tab w) :
    Calls Tryd.prog 12 #[.agg #[.int .i64 n, .slice v1 v2 v3], .slice u1 u2 u3] w fun e w' => e = .returned (.bool true) ∧ Below w.heap.size w w' := by
  have hn := hg.tab.le
  have HNI := hide (fun W (h : Below w.heap.size w W) => nil_good n e (.slice v1 v2 v3) zs W (hv.below h) hg (hT.below h))
  have HNR := hide (fun W (u : Value) (q : Nat → Bool) (h : Below w.heap.size w W) (hu : Sl W u (li (lst n q))) (hs : subT n zs e q = true) => nor_lst n e (.slice v1 v2 v3) u zs q W (hv.below h) hg hu (hT.below h) hs)
  have HCE := hide (fun W (h : Below w.heap.size w W) => centre_good n e (.slice v1 v2 v3) zs W (hv.below h) hg (hT.below h))
  have hB0 : Below w.heap.size w (w.alloc (.cells #[.int .i64 n, .slice v1 v2 v3] 24)) := balloc w _
  have hX0 : BoxG (w.alloc (.cells #[.int .i64 n, .slice v1 v2 v3] 24)) w.heap.size n (.slice v1 v2 v3) := blk0 (w := w) (T := 24) _ _
  go_enter Tryd.func12, Tryd.ntmps12
  go_wp2_with fail
  generalize w.alloc (.cells #[.int .i64 n, .slice v1 v2 v3] 24) = w0 at *
  refine (seriesBegun_any _ (hT.below hB0)).mono ?_
  rintro x w1 ⟨rfl, hb1⟩
  have hB1 := bcat2 hB0 hb1
  have hX1 := blk_below hX0 hb1
  obtain ⟨c0, c1, _, _⟩ := hX1.two
  go_wp2_with fail
  clear c0 c1
  refine (HNI.out _ hB1).mono ?_
  rintro x w2 ⟨b, rfl, ⟨K, hst, _, hbK⟩, hb2⟩
  obtain ⟨w3, hw3⟩ : ∃ w3, w3 = w2.alloc (.cells #[.int .i64 0, .int .i64 0] 27) := ⟨_, rfl⟩
  have hb3 : Below w2.heap.size w2 w3 := by rw [hw3]; exact balloc w2 _
  have hF3 : Blk w3 w2.heap.size 27 [.int .i64 0, .int .i64 0] := by rw [hw3]; exact blk0 _ _
  have hB3 := bcat2 hB1 (bcat2 hb2 hb3)
  have hX3 := blk_below hX1 (bcat2 hb2 hb3)
  obtain ⟨c0, c1, _, _⟩ := hX3.two
  obtain ⟨f0, f1, _, _⟩ := hF3.two
  have HBK := hide hbK
  have HIN := hide hst.inv
  clear hbK hst HNI hX0 hX1
  rw [hw3] at c0 c1 f0 f1
  cases b with
  | false =>
    go_wp2
    rw [← hw3]
    go_ret
    exact ⟨rfl, hB3⟩
  | true =>
    have HK := hide (HBK.out.1 rfl)
    clear HBK
    by_cases hlf : (lfault n ls).1 = 0
    · obtain ⟨_, _, h1, _, hl0, _⟩ := sfault_zero (N := n) (zs := zs) (ls := ls) (by rw [sfault_l hg]; exact hlf)
      have h1 := Int.ofNat.inj h1
      subst h1
      clear hlf
      obtain ⟨q, hq⟩ := mkd_ex' n zs e (pset ls)
      obtain ⟨c, hc⟩ := mkd_ex' n zs e (cloq n zs e (pset ls) n)
      have hsq : subT n zs e q = true := subT_iff.2 (made_sg hg hq)
      have HMG := hide (fun W (h : Below w.heap.size w W) => mde_good n e (.slice v1 v2 v3) (.slice u1 u2 u3) zs ls q W (hv.below h) hg (hu.below h) (hT.below h) hl0 hq)
      have HCL := hide (fun W (h : Below w.heap.size w W) => clo_good n e (.slice v1 v2 v3) (.slice u1 u2 u3) zs ls c W (hv.below h) hg (hu.below h) (hT.below h) hl0 hc)
      have HGR := hide (fun h : (lst n q).length ≠ n => nil_grows hg HIN.out HK.out hsq h)
      have HME := hide (fun h : (lst n c).length ≠ 1 => nil_meets hg HIN.out HK.out (clo_nsg hg hc) h)
      clear hq hl0 hc
      go_wp2_with fail
      rw [← hw3] at c0 c1 f0 f1 ⊢
      clear hw3 c0 c1 f0 f1
      refine (HMG.out _ hB3).mono ?_
      rintro x w4 ⟨r, rfl, hr, hb4⟩
      have hr := hr.sl
      obtain ⟨Lr, hLr⟩ : ∃ Lr, Lr = li (lst n q) := ⟨_, rfl⟩
      rw [← hLr] at hr
      obtain ⟨ra, rc, _, _, rfl, _⟩ := id hr
      have HLR := hide hLr
      clear hLr
      have hF4 := blk_below hF3 hb4
      have hX4 := blk_below hX3 hb4
      have hB4 := bcat2 hB3 hb4
      obtain ⟨f0, f1, _, _⟩ := hF4.two
      obtain ⟨c0, c1, _, _⟩ := hX4.two
      have hst := store_same f0 f1
      have HN4 := hide (HNR.out w4 _ q hB4 (by rw [← HLR.out]; exact hr) hsq)
      go_wp2_with fail
      clear c0 c1 f0 f1 hst
      refine HN4.out.mono ?_
      rintro x w5 ⟨na, nc, rfl, _, hb5⟩
      obtain ⟨w6, hw6⟩ : ∃ w6, w6 = w5.alloc (.cells #[.int .i64 0, .int .i64 0] 27) := ⟨_, rfl⟩
      have hb6 : Below w5.heap.size w5 w6 := by rw [hw6]; exact balloc w5 _
      have hG6 : Blk w6 w5.heap.size 27 [.int .i64 0, .int .i64 0] := by rw [hw6]; exact blk0 _ _
      have hX6 := blk_below hX4 (bcat2 hb5 hb6)
      have hB6 := bcat2 hB4 (bcat2 hb5 hb6)
      obtain ⟨c0, c1, _, _⟩ := hX6.two
      rw [hw6] at c0 c1
      go_wp2_with fail
      rw [← hw6]
      clear c0 c1 hw6
      refine (HCL.out _ hB6).mono ?_
      rintro x w7 ⟨r, rfl, hcr, hb7⟩
      have hcr := hcr.sl
      obtain ⟨Lc, hLc⟩ : ∃ Lc, Lc = li (lst n c) := ⟨_, rfl⟩
      rw [← hLc] at hcr
      obtain ⟨ca, cc, _, _, rfl, _⟩ := id hcr
      have HLC := hide hLc
      clear hLc
      obtain ⟨w8, hw8⟩ : ∃ w8, w8 = w7.alloc (.cells #[.int .i64 0, .int .i64 0] 27) := ⟨_, rfl⟩
      have hb8 : Below w7.heap.size w7 w8 := by rw [hw8]; exact balloc w7 _
      have hH8 : Blk w8 w7.heap.size 27 [.int .i64 0, .int .i64 0] := by rw [hw8]; exact blk0 _ _
      have hX8 := blk_below hX6 (bcat2 hb7 hb8)
      have hG8 := blk_below hG6 (bcat2 hb7 hb8)
      have hB8 := bcat2 hB6 (bcat2 hb7 hb8)
      have hcr8 := hcr.below hb8
      obtain ⟨c0, c1, _, _⟩ := hX8.two
      rw [hw8] at c0 c1
      go_wp2_with fail
      rw [← hw8]
      clear c0 c1 hw8
      refine (HCE.out _ hB8).mono ?_
      rintro x w9 ⟨r, rfl, hzr, hb9⟩
      have hzr := hzr.sl
      obtain ⟨Lz, hLz⟩ : ∃ Lz, Lz = li (lst n (cenq n zs fun _ => true)) := ⟨_, rfl⟩
      rw [← hLz] at hzr
      have HLZ := hide hLz
      clear hLz
      obtain ⟨za, zc, _, _, rfl, _⟩ := id hzr
      obtain ⟨wa, hwa⟩ : ∃ wa, wa = w9.alloc (.cells #[.int .i64 0, .int .i64 0] 27) := ⟨_, rfl⟩
      have hba : Below w9.heap.size w9 wa := by rw [hwa]; exact balloc w9 _
      have hIa : Blk wa w9.heap.size 27 [.int .i64 0, .int .i64 0] := by rw [hwa]; exact blk0 _ _
      have hbz := bcat2 hb9 hba
      have hXa := blk_below hX8 hbz
      have hGa := blk_below hG8 hbz
      have hHa := blk_below hH8 hbz
      have hBa := bcat2 hB8 hbz
      have hcra := hcr8.below hbz
      have hzra := hzr.below hba
      have HBO := hide (both_ok _ _ _ _ wa hcra hzra (by rw [HLC.out, li_len]; exact Nat.le_trans (lst_len _ _) hn))
      rw [show (Lc.filter fun a => decide (a ∈ Lz)) = li (lst n fun a => c a && cenq n zs (fun _ => true) a) by rw [HLC.out, HLZ.out, both_li]] at HBO
      have HLL := hide (show (li (lst n fun a => c a && cenq n zs (fun _ => true) a)).length = (lst n fun a => c a && cenq n zs (fun _ => true) a).length from li_len _)
      obtain ⟨c0, c1, _, _⟩ := hXa.two
      obtain ⟨g0, g1, _, _⟩ := hGa.two
      obtain ⟨h0, h1, _, _⟩ := hHa.two
      obtain ⟨i0, i1, _, _⟩ := hIa.two
      have hl1 := lst_len n q
      have hl2 := lst_len n c
      have HRL := hide (show Lr.length = (lst n q).length by rw [HLR.out, li_len])
      have HCLL := hide (show Lc.length = (lst n c).length by rw [HLC.out, li_len])
      have HA := hide (show (Lr.length : Int) = (n : Int) ∨ (¬ (Lr.length : Int) = (n : Int) ∧ (Lr.length : Int) < ((lst n (norq n zs e q)).length : Int)) by
        rw [HRL.out]
        by_cases h9 : (lst n q).length = n
        · left; omega
        · right
          have h8 := HGR.out h9
          omega)
      have HC := hide (show (Lc.length : Int) = 1 ∨ (¬ (Lc.length : Int) = 1 ∧ 1 < ((li (lst n fun a => c a && cenq n zs (fun _ => true) a)).length : Int)) by
        rw [HCLL.out, HLL.out]
        by_cases h9 : (lst n c).length = 1
        · left; omega
        · right
          have h8 := HME.out h9
          omega)
      generalize (lst n (norq n zs e q)).length = Ln at *
      generalize li (lst n fun a => c a && cenq n zs (fun _ => true) a) = Lb at *
      clear hl1 hl2
      rw [hwa] at c0 c1 g0 g1 h0 h1 i0 i1
      rcases HA.out with hA | ⟨hA, hA2⟩ <;> rcases HC.out with hC | ⟨hC, hC2⟩
      · go_wp2
        rw [← hwa]
        go_ret
        exact ⟨by simp, hBa⟩
      · go_wp2_with fail
        rw [← hwa]
        refine HBO.out.mono ?_
        rintro x wb ⟨r, rfl, hrb, hbb⟩
        obtain ⟨ba, bc, rfl⟩ := own_slice hrb
        go_wp2
        go_ret
        exact ⟨by simp, bcat2 hBa hbb⟩
      · go_wp2
        rw [← hwa]
        go_ret
        exact ⟨by simp, hBa⟩
      · go_wp2_with fail
        rw [← hwa]
        refine HBO.out.mono ?_
        rintro x wb ⟨r, rfl, hrb, hbb⟩
        obtain ⟨ba, bc, rfl⟩ := own_slice hrb
        go_wp2
        go_ret
        exact ⟨by simp, bcat2 hBa hbb⟩
    · have HMB := hide (fun W (h : Below w.heap.size w W) => mde_bad n (.slice v1 v2 v3) (.slice u1 u2 u3) zs ls W (hv.below h) (hu.below h) (by rw [sfault_l hg]; exact hlf))
      rw [sfault_l hg] at HMB
      generalize lfault n ls = lf at *
      obtain ⟨fc9, fi9⟩ := lf
      simp only at hlf HMB
      have hcb : (fc9 != 0) = true := by simpa using hlf
      go_wp2_with fail
      rw [← hw3] at c0 c1 f0 f1 ⊢
      clear hw3 c0 c1 f0 f1
      refine (HMB.out _ hB3).mono ?_
      rintro x w7 ⟨rfl, hb7⟩
      have hF7 := blk_below hF3 hb7
      have hlo : w.heap.size ≤ w2.heap.size := by
        have := hB1.size
        have := hb2.size
        omega
      have hBz : Below w.heap.size w ((w7.setCell ⟨w2.heap.size, 0, none⟩ (.int .i64 fc9)).setCell ⟨w2.heap.size, 1, none⟩ (.int .i64 fi9)) := bSet (bSet (bcat2 hB3 hb7) hlo) hlo
      obtain ⟨f0, f1, _, _⟩ := hF7.two
      have hF8 := (hF7.set 0 (.int .i64 fc9)).set 1 (.int .i64 fi9)
      obtain ⟨g0, g1, _, _⟩ := hF8.two
      go_wp2
      go_ret
      exact ⟨rfl, hBz⟩
theorem sgrw_law (N : Int) (v u : Value) (zs ls : List Int) (w : World) (hv : Sl w v zs) (hu : Sl w u ls) (hT : Tab w) :
    Calls Tryd.prog 12 #[.agg #[.int .i64 N, v], u] w fun e w' => e = .returned (.bool true) ∧ Below w.heap.size w w' := by
  obtain ⟨v1, v2, v3, rfl⟩ := hv.isSlice
  obtain ⟨u1, u2, u3, rfl⟩ := hu.isSlice
  by_cases hc : (gfault N zs).1 = 0
  · obtain ⟨n, e, rfl, hg, h0⟩ := gfault_grp hc
    exact sgrw_good n e v1 v2 v3 u1 u2 u3 zs ls w hv hu hg hT
  · exact sgrw_bad N v1 v2 v3 _ zs w hv hT hc
end Go.Proofs.YtolbpjjjoafkkaaDoor

namespace Go.Proofs.YtolbpjjjoafkkaaDoor
open Go.ChangeShapes Go.WideShapes Go.ChangeAt Go.RowKit

theorem own : ownKnob Tryd.prog.godebug = none := by kernel_rfl
theorem laidOut : laidOutB Tryd.prog = true := by kernel_rfl

/-- A slice of ints that reads as zs; where nothing is in it, nothing is told of the memory. -/
def SlA (w : World) (v : Value) (zs : List Int) : Prop := ∃ a cap pb po, v = .slice a zs.length cap ∧ Reads w a pb po zs ∧ (0 < zs.length → pb < w.heap.size) ∧ zs.length ≤ cap ∧ cap ≤ maxLen
theorem SlA.up {w w' : World} {v : Value} {zs : List Int} (h : SlA w v zs) (hb : Below w.heap.size w w') (h0 : 0 < w'.heap.size) : Sl w' v zs := by
  obtain ⟨a, cap, pb, po, hv, hr, hp, h1, h2⟩ := h
  rcases Nat.eq_zero_or_pos zs.length with hz | hz
  · exact ⟨a, cap, 0, 0, hv, ⟨fun h => by omega, fun j hj => by omega⟩, h0, h1, h2⟩
  · exact ⟨a, cap, pb, po, hv, hr.below hb (hp hz), Nat.lt_of_lt_of_le (hp hz) hb.size, h1, h2⟩
theorem SlA.of {w : World} {v : Value} {zs : List Int} (h : Sl w v zs) : SlA w v zs := by
  obtain ⟨a, cap, pb, po, hv, hr, hp, h1, h2⟩ := h
  exact ⟨a, cap, pb, po, hv, hr, fun _ => hp, h1, h2⟩

theorem und24 : ∃ f0 f1 : Field, Tryd.prog.underlying 24 = some (.struct #[f0, f1]) ∧ f0.type = 3 ∧ f1.type = 22 ∧ f0.offset = 0 ∧ f1.offset = 1 := ⟨_, _, Tryd.underlying24, rfl, rfl, rfl, rfl⟩
theorem und3 : Tryd.prog.underlying 3 = some (.int .i64) := by kernel_rfl
theorem und22 : Tryd.prog.underlying 22 = some (.slice 3) := by kernel_rfl
theorem und4 : Tryd.prog.underlying 4 = some .bool := by kernel_rfl

set_option maxRecDepth 100000 in
/-- What is told of a table that came in. -/
theorem open_group {H : Type} {enc : TypeId × Value → H} {W : World} {b0 : Nat} {v : Value} {d : DataW H} {ps : List MemPlace} (hval : Value.okWide Tryd.prog W .any b0 24 v)
    (hd : DataW.Trod enc Tryd.prog W 0 (fun _ => true) true 24 v d ps) :
    ∃ N u zs, v = .agg #[.int .i64 N, u] ∧ SlA W u zs ∧ (Lit.int .i64 N).wf = true ∧ ((d.weights Tryd.prog 24).all (· ≤ reachBytes) = true → zs.length * 8 ≤ 140737488355328) := by
  obtain ⟨f0, f1, hu, ht0, ht1, ho0, ho1⟩ := und24
  obtain ⟨cs, rfl, hsz⟩ := okWide_struct hu hval
  rw [show Tryd.prog.cellsOf 24 = 2 by kernel_rfl] at hsz
  obtain ⟨l⟩ := cs
  match l, hsz with
  | [c0, c1], _ =>
  obtain ⟨fuel, hf⟩ := hd
  obtain ⟨y0, y1, m, hx, _, hy0, hy1⟩ := trod_struct2 hu hf
  rw [ht0, ho0, show Tryd.prog.cellsOf 3 = 1 by kernel_rfl] at hy0
  rw [ht1, ho1, show Tryd.prog.cellsOf 22 = 1 by kernel_rfl] at hy1
  obtain ⟨N, e0, rfl, wN⟩ := DataW.trod_int und3 hy0
  simp [Value.cells] at e0
  subst e0
  simp [Value.cells] at hy1
  rcases open_ints und22 und3 (by kernel_rfl) hy1 with ⟨hcs, _⟩ | ⟨x, l, c, zs, hcs, _, hl, hm, hz, heq, hcell, hwz⟩
  · simp at hcs
    subst hcs
    exact ⟨N, _, [], rfl, ⟨none, 0, 0, 0, rfl, ⟨by simp, by simp⟩, by simp, by simp, by unfold maxLen; omega⟩, wN, fun _ => by simp⟩
  · simp at hcs
    subst hcs
    have hzc : zs.length = c := by simpa using hz
    have hlen : (zs.take l).length = l := by rw [List.length_take]; omega
    refine ⟨N, _, zs.take l, rfl, ?_, wN, fun hw => ?_⟩
    · by_cases hpos : 0 < c
      · obtain ⟨b, o, rfl, hc'⟩ := ints_at hcell (by omega)
        refine ⟨some ⟨b, o, none⟩, c, b, o, by rw [hlen], ⟨fun _ => rfl, fun j hj => ?_⟩, fun _ => World.block_lt_of_cell? W _ (hc' 0 (by omega)), by omega, hm⟩
        rw [hlen] at hj
        rw [hc' j (by omega), List.getElem?_take, if_pos hj, List.getD_eq_getElem?_getD]
      · have : l = 0 := by omega
        subst this
        exact ⟨some x, c, 0, 0, by simp, ⟨by simp, by simp⟩, by simp, by simp, hm⟩
    · have hd : d = .agg [.lit (.int .i64 N), .slice (lits .i64 (zs.take l)) (lits .i64 (zs.drop l))] := by
        have h1 := congrArg Prod.fst hx
        simp only [heq] at h1
        exact h1
      have hw2 := List.all_eq_true.1 hw (((lits (H := H) .i64 (zs.take l)).length + (lits (H := H) .i64 (zs.drop l)).length) * Tryd.prog.bytesOf 3) (by
        rw [hd]; simp [DataW.weights, DataW.weightsEach, hu, ht0, ht1])
      rw [show Tryd.prog.bytesOf 3 = 8 by kernel_rfl] at hw2
      simp only [lits, List.length_map, decide_eq_true_eq] at hw2
      unfold reachBytes at hw2
      omega
end Go.Proofs.YtolbpjjjoafkkaaDoor

namespace Go.Proofs.YtolbpjjjoafkkaaDoor
open Go.ChangeShapes Go.WideShapes Go.ChangeAt Go.RowKit

/-- What the rows list. -/
def laid1 : List (String × DataW Unit) := Rows.sylowQuotientsRow.laid
def tabZ : List Int := Lib.deBruijn64tab.map fun (x : Nat) => (x : Int)
theorem tab_data : (Rows.laid_math_bits_deBruijn64tab : DataW Unit) = Lib.tabData .u8 tabZ := by kernel_rfl
/-- The door's own heap meets the condition. -/
theorem door_met (os : Os) (args : Array Value) : laidMetH Tryd.prog laid1 ((World.doorLaid Tryd.prog 400 os).forCall (fun _ _ => 0) ⟨#[], args, []⟩).memory :=
  laidMetH_of_parts3 (fuel := 8) (laidMet_of_run' 8 (by kernel_rfl) (by kernel_rfl)) (by kernel_rfl) (by kernel_rfl)
theorem tab_of_laid {W : World} (h : laidMetH Tryd.prog laid1 W) : Tab W := by
  rw [MakeChecks.laidMetH_plain _ _ _ (by kernel_rfl)] at h
  have h2 : laidMet Tryd.prog [("math/bits.deBruijn64tab", (Rows.laid_math_bits_deBruijn64tab : DataW Unit))] W := h
  rw [tab_data] at h2
  have hg : Tryd.prog.globalNamed "math/bits.deBruijn64tab" = some 0 := by kernel_rfl
  have hT := Lib.tabIs_of_head hg (t := 114) (e := 5) (n := 64) (by kernel_rfl) (by kernel_rfl) (by kernel_rfl) (by kernel_rfl) (by kernel_rfl) h2
  intro j hj
  have hj' : j < tabZ.length := by simpa [tabZ] using hj
  have hc := hT.cell hg j hj'
  rw [hc]
  simp [tabZ, hj]
set_option maxRecDepth 100000 in
/-- A list of ints that came in: its value, what it reads as, and its size. -/
theorem open_list {H : Type} {enc : TypeId × Value → H} {W : World} {b0 : Nat} {v : Value} {d : DataW H} {ps : List MemPlace} (hval : Value.okWide Tryd.prog W .any b0 22 v)
    (hd : DataW.Trod enc Tryd.prog W 0 (fun _ => true) true 22 v d ps) (h0 : 0 < W.heap.size) :
    ∃ zs, Sl W v zs ∧ ((d.weights Tryd.prog 22).all (· ≤ reachBytes) = true → zs.length * 8 ≤ 140737488355328) := by
  obtain ⟨a, len, cap, rfl⟩ := okWide_slice und22 hval
  obtain ⟨fuel, hf⟩ := hd
  rcases open_ints und22 und3 (by kernel_rfl) hf with ⟨hcs, _⟩ | ⟨x, l, c, zs, hcs, _, hl, hm, hz, heq, hcell, hwz⟩
  · simp [Value.cells] at hcs
    obtain ⟨rfl, rfl, rfl⟩ := hcs
    exact ⟨[], Sl.nil h0, fun _ => by simp⟩
  · simp [Value.cells] at hcs
    obtain ⟨rfl, rfl, rfl⟩ := hcs
    have hzc : zs.length = cap := by simpa using hz
    have hlen : (zs.take len).length = len := by rw [List.length_take]; omega
    refine ⟨zs.take len, ?_, fun hw => ?_⟩
    · by_cases hpos : 0 < cap
      · obtain ⟨b, o, rfl, hc'⟩ := ints_at hcell (by omega)
        refine ⟨some ⟨b, o, none⟩, cap, b, o, by rw [hlen], ⟨fun _ => rfl, fun j hj => ?_⟩, World.block_lt_of_cell? W _ (hc' 0 (by omega)), by omega, hm⟩
        rw [hlen] at hj
        rw [hc' j (by omega), List.getElem?_take, if_pos hj, List.getD_eq_getElem?_getD]
      · have : len = 0 := by omega
        subst this
        exact ⟨some x, cap, 0, 0, by simp, ⟨by simp, by simp⟩, h0, by simp, hm⟩
    · simp only [Prod.mk.injEq] at heq
      have hw2 := List.all_eq_true.1 hw (((lits (H := H) .i64 (zs.take len)).length + (lits (H := H) .i64 (zs.drop len)).length) * Tryd.prog.bytesOf 3) (by
        rw [heq.1]; simp [DataW.weights])
      rw [show Tryd.prog.bytesOf 3 = 8 by kernel_rfl] at hw2
      simp only [lits, List.length_map, decide_eq_true_eq] at hw2
      unfold reachBytes at hw2
      omega
end Go.Proofs.YtolbpjjjoafkkaaDoor
