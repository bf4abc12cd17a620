/- Package series' listed: a series of sets as lists. Conditions: the library's table of places lies as its text lays it; what the function that is handed over answers. Package series' Derived, Lower, ends and Nilpotent. Condition: the library's table of places lies as its text lays it. Package series' Nilpotent; the example of the laws of series: of the square's group the commutators make two things. Condition: the library's table of places lies as its text lays it. Package series' upper: the normal subgroups, from the one on, of what has all its commutators in the last one; Upper. Condition: the library's table of places lies as its text lays it. Normaliser at a subgroup. Condition: the library's table of places lies as its text lays it. What is nilpotent: a subgroup that is not all is less than its normaliser, and each normal subgroup of more than the one has something of the centre. No condition. The sets of the three series are normal, and each derived one is in the lower one at its place; rows of lists, read. No condition. Sylow's theorems about what All answers: each thing whose order is a power of p is in one of them, all have as many things, and how many things have such an order is a multiple of that. No condition. The law SylowHolds: at every table, every number and every list it returns true. Condition: the library's table of places lies as its text lays it. The law SeriesNormal: at every table it returns true. Condition: the library's table of places lies as its text lays it. The frame that all rows of this family share: how a table that came in reads. The frame that all rows of this family share: what the listed table gives a walk; how a list of ints that came in reads. -/
import Derived.Test.YtolbpjjjoafkkaaDoorZ6
import Derived.Test.YtolbpjjjoafkkaaDoorZ7
import Derived.Test.YtolbpjjjoafkkaaDoorZ5
import Derived.Test.YtolbpjjjoafkkaaDoorZ3
import Derived.Deep.DeepCutAuto
import Derived.Test.YtolbpjjjoafkkaaDoorRows
import Derived.Test.YtolbpjjjoafkkaaDoorZ1
import Derived.ProofKit
import Derived.OpenShut
import Derived.ChangeOld
import Derived.Below
import Derived.SizedLaws
import Derived.LaidMore
import Derived.Stop.Joined
import Derived.Stop.LaidErr
import Derived.Lib.LaidTab
namespace Go.Proofs.YtolbpjjjoafkkaaDoor
open Go Go.RowKit

def sls (n : Nat) (f : Nat → Nat → Bool) (k : Nat) : List (List Int) := (List.range k).map fun i => li (lst n (f i))
theorem sls_len (n : Nat) (f : Nat → Nat → Bool) (k : Nat) : (sls n f k).length = k := by simp [sls]
theorem sls_at {n : Nat} {f : Nat → Nat → Bool} {k i : Nat} (h : i < k) : (sls n f k)[i]?.getD [] = li (lst n (f i)) := by simp [sls, h]
theorem sls_up (n : Nat) (f : Nat → Nat → Bool) (k : Nat) : sls n f (k + 1) = sls n f k ++ [li (lst n (f k))] := by simp [sls, List.range_succ]
/-- A row of lists, read. -/
theorem Rws.of_own {w : World} {base B g c : Nat} {vs : List Value} {rs : List (List Int)} (h : w.ownsRow base 22 1 (.slice (some ⟨g, 0, none⟩) vs.length c) vs.length vs) (hl : Lsts w B (.slice (some ⟨g, 0, none⟩) vs.length c) vs rs) : Rws w g rs := fun j hj => by
  have hju : j < vs.length := by have := hl.1; omega
  obtain ⟨a, cap, pb, po, h1, h2, h3, h4, h5, _⟩ := hl.2 j vs[j] rs[j] (List.getElem?_eq_getElem hju) (List.getElem?_eq_getElem hj)
  have hc := h.cells (g := g) rfl j _ (List.getElem?_eq_getElem hju)
  rw [show (⟨g, 0, none⟩ : Addr).add j = ⟨g, j, none⟩ by unfold Addr.add; split <;> simp_all] at hc
  rw [List.getElem?_eq_getElem hj, Option.getD_some]
  rw [h1] at hc
  exact ⟨a, cap, hc, ⟨a, cap, pb, po, rfl, h2, h3, h4, h5⟩⟩
set_option maxRecDepth 100000 in
set_option maxHeartbeats 4000000 in
theorem listed_bad (N : Int) (v f : Value) (zs : List Int) (w : World) (hv : Sl w v zs) (hc : (gfault N zs).1 ≠ 0) :
    Calls Tryd.prog 75 #[.agg #[.int .i64 N, v], f] w fun x w' => x = .returned (.tuple #[.slice none 0 0, .agg #[.int .i64 (gfault N zs).1, .int .i64 (gfault N zs).2]]) ∧ Below w.heap.size w w' := by
  obtain ⟨w0, BG⟩ := Beg.new w N v
  have hv0 := hv.below BG.bel
  obtain ⟨c0, c1, _, _⟩ := BG.box.two
  have hck := opened_bad N v zs w0 hv0 hc
  obtain ⟨c, i, hci⟩ : ∃ c i, gfault N zs = (c, i) := ⟨_, _, rfl⟩
  rw [hci] at hck hc ⊢
  simp only at hc hck
  have HCK := hide hck
  clear hck hci
  have hcb : (c != 0) = true := by simpa using hc
  rw [BG.eq] at c0 c1
  go_enter Tryd.func75, Tryd.ntmps75
  go_wp2_with fail
  rw [← BG.eq]
  refine HCK.out.mono ?_
  rintro x w1 ⟨rfl, hb1⟩
  clear c0 c1
  obtain ⟨w2, hw2⟩ : ∃ w2, w2 = (w1.alloc (.cells #[.int .i64 0, .slice none 0 0, .int .i64 0, .slice none 0 0] 64)).alloc (.cells #[.int .i64 c, .int .i64 i] 27) := ⟨_, rfl⟩
  have hB1 : Below w0.heap.size w0 w2 := by rw [hw2]; exact bcat2 hb1 ((balloc w1 _).alloc (by simp) _)
  have hF1 : Blk w2 (w1.heap.size + 1) 27 [.int .i64 c, .int .i64 i] := by
    rw [hw2]
    have := blk0 (w := w1.alloc (.cells #[.int .i64 0, .slice none 0 0, .int .i64 0, .slice none 0 0] 64)) (T := 27) (.int .i64 c) (.int .i64 i)
    rwa [World.size_alloc] at this
  have hR1 := blk_below BG.res hB1
  have hBw := bcat BG.bel hB1 BG.bel.size
  obtain ⟨y0, y1, fy0, fy1⟩ := hR1.two
  obtain ⟨t0, t1, _, _⟩ := hF1.two
  rw [hw2] at t0 t1
  go_wp2_with fail
  rw [← hw2]
  rw [← hw2] at t0 t1
  clear hw2
  go_region
  all_goals (
    go_wp2
    obtain ⟨hR6, hB6⟩ := put2 hR1 hBw (by omega) c i
    have hB7 := bdrew hB6
    have hR7 : Blk ((w2.setCell ⟨w.heap.size + 1, 0, none⟩ (.int .i64 c)).setCell ⟨w.heap.size + 1, 1, none⟩ (.int .i64 i)).drew (w.heap.size + 1) 27 [.int .i64 c, .int .i64 i] := hR6
    generalize ((w2.setCell ⟨w.heap.size + 1, 0, none⟩ (.int .i64 c)).setCell ⟨w.heap.size + 1, 1, none⟩ (.int .i64 i)).drew = W at hR7 hB7 ⊢
    obtain ⟨z0, z1, _, _⟩ := hR7.two
    exact bodyPost_ret (v := .tuple #[.slice none 0 0, .agg #[.int .i64 c, .int .i64 i]]) (by simp [results, Tryd.results75, go_sem, z0, z1]) rfl ⟨rfl, hB7⟩)
/-- What listed answers. -/
def LisA (w' : World) (n : Nat) (nx : (Nat → Bool) → Nat → Bool) (I : (Nat → Bool) → Prop) (M : (Nat → Bool) → Nat) (q0 : Nat → Bool) (x : Value) : Prop := ∃ K g c : Nat, x = .slice (some ⟨g, 0, none⟩) (K + 1) c ∧ Stp n nx I M q0 K ∧ bs (itr nx q0 (K + 1)) n = bs (itr nx q0 K) n ∧ Rws w' g (sls n (itr nx q0) (K + 1))
set_option maxRecDepth 100000 in
set_option maxHeartbeats 4000000 in
theorem listed_good (n e k : Nat) (v : Value) (zs : List Int) (nx : (Nat → Bool) → Nat → Bool) (I : (Nat → Bool) → Prop) (M : (Nat → Bool) → Nat) (q0 : Nat → Bool) (w : World) (hv : Sl w v zs) (hg : IsGrp n zs e) (hT : Tab w)
    (hcall : ∀ x W, Sem.run Tryd.prog (callFunc k #[x]) W = .ok (.enter k #[x]) W)
    (hof : ∀ (W : World) (u : Value), Below w.heap.size w W → GA W n v e u zs → Calls Tryd.prog k #[.agg #[.int .i64 n, v, .int .i64 e, u]] W fun x W' => ∃ y, x = .returned y ∧ SerA W W' n nx I M q0 y ∧ Below W.heap.size W W') :
    Calls Tryd.prog 75 #[.agg #[.int .i64 n, v], .func (.func k) #[] #[]] w fun x w' => ∃ y, x = .returned (.tuple #[y, .agg #[.int .i64 0, .int .i64 0]]) ∧ LisA w' n nx I M q0 y ∧ Below w.heap.size w w' := by
  obtain ⟨va, vl, vc, rfl⟩ := hv.isSlice
  obtain ⟨i0, hi, hz0, hz1, hz2⟩ := info_parts info22b
  have HOF := hide hof
  clear hof
  obtain ⟨w0, BG⟩ := Beg.new w n (.slice va vl vc)
  have hv0 := hv.below BG.bel
  obtain ⟨c0, c1, _, _⟩ := BG.box.two
  have HCK := hide (opened_good n e (.slice va vl vc) zs w0 hv0 hg)
  have HZ0 := hide (show w.heap.size + 2 ≤ w0.heap.size by rw [BG.eq]; simp)
  rw [BG.eq] at c0 c1
  go_enter Tryd.func75, Tryd.ntmps75
  go_wp2_with fail
  rw [← BG.eq]
  refine HCK.out.mono ?_
  rintro x w1 ⟨iv9, rfl, hSI, hb1⟩
  obtain ⟨ia, il, ic, rfl⟩ := hSI.sl.isSlice
  clear c0 c1 HCK
  obtain ⟨w2, hw2⟩ : ∃ w2, w2 = (w1.alloc (.cells #[.int .i64 n, (.slice va vl vc), .int .i64 e, (.slice ia il ic)] 64)).alloc (.cells #[.int .i64 0, .int .i64 0] 27) := ⟨_, rfl⟩
  have hb2 : Below w1.heap.size w1 w2 := by rw [hw2]; exact (balloc w1 _).alloc (by simp) _
  have hB1 : Below w0.heap.size w0 w2 := bcat2 hb1 hb2
  have hF1 : Blk w2 (w1.heap.size + 1) 27 [.int .i64 0, .int .i64 0] := by
    rw [hw2]
    have := blk0 (w := w1.alloc (.cells #[.int .i64 n, (.slice va vl vc), .int .i64 e, (.slice ia il ic)] 64)) (T := 27) (.int .i64 0) (.int .i64 0)
    rwa [World.size_alloc] at this
  have hH2 : Blk w2 w1.heap.size 64 [.int .i64 n, (.slice va vl vc), .int .i64 e, (.slice ia il ic)] := by
    rw [hw2]; exact (blk4 _ _ _ _).alloc _
  have hBw2 := bcat BG.bel hB1 BG.bel.size
  have hR2 := blk_below BG.res hB1
  have hT2 := hT.below hBw2
  have hGA2 : GA w2 n (.slice va vl vc) e (.slice ia il ic) zs := ⟨hg, hv.below hBw2, (hSI.below hb2).sl⟩
  obtain ⟨t0, t1, _, _⟩ := hF1.two
  obtain ⟨_, h0, h1, h2, h3, _⟩ := Four.mk' hH2
  have HZ1 := hide (Nat.le_trans HZ0.out hb1.size)
  have HZ2 := hide hb2.size
  rw [hw2] at t0 t1 h0 h1 h2 h3
  have hn := hg.tab.le
  go_wp2_with fail
  rw [← hw2]
  clear hw2 t0 t1 h0 h1 h2 h3
  refine (HOF.out _ _ hBw2 hGA2).mono ?_
  rintro x w3 ⟨y, rfl, ⟨K, g, c, rfl, HST, HEND, hrow3⟩, hb3⟩
  have HS := hide HST
  have HE := hide HEND
  have hBw3 := bcat2 hBw2 hb3
  have hR3 := blk_below hR2 hb3
  have hT3 := hT2.below hb3
  have hK := HST.meas
  have HC3 := hide (fun i (h : i < K + 1) => (show w3.cell? ⟨g, i, none⟩ = some (.int .u64 (bs (itr nx q0 i) n)) by
    have hc := hrow3.cells (g := g) rfl i _ (sets_at h)
    rwa [show (⟨g, 0, none⟩ : Addr).add i = ⟨g, i, none⟩ by unfold Addr.add; split <;> simp_all] at hc))
  clear HST HEND hrow3 HOF hcall
  have HLS := hide (fun W (p : Nat → Bool) (h : Below w3.heap.size w3 W) => list_ok n p W hn (hT3.below h))
  go_wp2_with fail
  go_loopw [8, 24] (fun ls iv wr => ∃ (i : Nat) (a : Option Addr) (cp : Nat) (vs : List Value), i ≤ K + 1 ∧ iv = .int .i64 i ∧ ls = .slice a vs.length cp ∧ wr.ownsRow w3.heap.size 22 1 (.slice a vs.length cp) vs.length vs ∧ Lsts wr w3.heap.size (.slice a vs.length cp) vs (sls n (itr nx q0) i) ∧ Below w3.heap.size w3 wr) (fun _ iv _ => K + 1 - (intOf iv).toNat)
  case atStart => exact ⟨0, none, 0, [], Nat.zero_le _, rfl, rfl, World.ownsRow_nil _ _ _ _, ⟨by simp [sls], fun t x l h1 _ => by simp at h1⟩, Below.refl _ _⟩
  case round =>
    obtain ⟨i, ra, rcap, vs, hiK, rfl, rfl, hrow, hls, hB⟩ := hrel
    have HVL := hide (show vs.length = i by rw [hls.1, sls_len])
    have hv61 : vs.length ≤ 61 := by rw [HVL.out]; omega
    by_cases hlt : i < K + 1
    · have hci := below_cell hB (HC3.out i hlt)
      have HB9 := hide (HLS.out wr (itr nx q0 i) hB)
      have HST := hide (sls_up n (itr nx q0) i)
      have hl60 : (li (lst n (itr nx q0 i))).length ≤ 60 := by rw [li_len]; exact Nat.le_trans (lst_len _ _) hn
      generalize li (lst n (itr nx q0 i)) = lj at *
      generalize bs (itr nx q0 i) n = s9 at *
      have hii : (i : Int) < (K : Int) + 1 := by omega
      go_wp2_with fail
      clear hci
      refine HB9.out.mono ?_
      rintro x w5 ⟨r9, rfl, hr9, hb5⟩
      have hB5 := bcat2 hB hb5
      have hrow5 := own_keep2 hrow (fun g _ h2 => hb5.block g h2)
      have hls5 : Lsts w5 w3.heap.size (.slice ra vs.length rcap) vs (sls n (itr nx q0) i) := hls.keep hb5.size (fun g _ h2 _ => hb5.block g h2) (.inl rfl)
      have hown2 : ∀ g, (Value.slice ra vs.length rcap).ownBlock = some g → g < wr.heap.size := fun g hg => (hrow.lt g hg).2
      obtain ⟨qa, qcap, qb, qo, rfl, hq, hq1, hq2, hq3, hq4⟩ := hr9
      have hs5 := hb5.size
      have hs3 := hB.size
      have HQ := hide hq
      clear hrow hls hb5 hq hB
      go_wp2_with (first
        | (at_builtin; refine wpList_append_own_at _ rfl _ _ 25 rfl w3.heap.size 22 i0 (.slice none 0 0) 1 24 und38s hi hz0 hz1 hz2 rfl (by decide) _ _ _ rfl (World.ownsRow.alloc hrow5 _) ⟨w5.heap.size, 0, none⟩ 1 1 [.slice qa lj.length qcap] rfl rfl ?c1 ?c2 ?c3 ?c4 ?c5 ?_))
      case c1 => exact cell_one_new _ _ _
      case c2 => simp [Value.oneCell']
      case c3 => unfold maxLen; omega
      case c4 => omega
      case c5 => simp; omega
      intro v' w8 hown' hgrow hnil hloc
      obtain ⟨ra', rcap', rfl⟩ := own_slice' hown'
      have hB8 : Below w3.heap.size w3 w8 := (hB5.alloc (by omega) _).grown hgrow (by simp; omega) (fun t e => by have := owns_ge hrow5 t e; omega)
      have hbl : ∀ g, g < w5.heap.size → (Value.slice ra vs.length rcap).ownBlock ≠ some g → w8.heap[g]? = w5.heap[g]? := fun g h1 h2 => (hgrow.block g (by simp; omega) (fun e => h2 e.symm)).trans (Below.block (balloc w5 _) g h1)
      have hs8 : w5.heap.size < w8.heap.size := by have := hgrow.size; simp at this; omega
      have hlo : (Value.slice ra' (vs.length + 1) rcap').ownBlock = (Value.slice ra vs.length rcap).ownBlock ∨ ∀ g, (Value.slice ra' (vs.length + 1) rcap').ownBlock = some g → w5.heap.size ≤ g := by
        rcases hloc with h | h
        · exact .inl h
        · right; intro g hg; rw [h] at hg; simp at hg; omega
      have hls8 := (hls5.keep (r' := .slice ra' (vs.length + 1) rcap') (by omega) (fun g _ h2 h3 => hbl g h2 h3) hlo).snoc (x := .slice qa lj.length qcap) (l := lj) ⟨qa, qcap, qb, qo, rfl, HQ.out.of_eq (hbl qb hq1 (fun e => by have := hown2 _ e; omega)), by omega, hq2, hq3, by omega, fun g hg e => by
        subst e
        rcases hlo with h | h
        · have := hown2 _ (h ▸ hg); omega
        · have := h _ hg; omega⟩
      have hrow8 : w8.ownsRow w3.heap.size 22 1 (.slice ra' (vs ++ [Value.slice qa lj.length qcap]).length rcap') (vs ++ [Value.slice qa lj.length qcap]).length (vs ++ [Value.slice qa lj.length qcap]) := by simpa using hown'
      have hls9 : Lsts w8 w3.heap.size (.slice ra' (vs ++ [Value.slice qa lj.length qcap]).length rcap') (vs ++ [Value.slice qa lj.length qcap]) (sls n (itr nx q0) (i + 1)) := by
        rw [HST.out]
        simpa using hls8
      clear hown' hgrow hloc hlo hbl hrow5 hls5 hB5 hls8
      go_wp2
      go_roundw
      case rel => exact ⟨i + 1, ra', rcap', _, by omega, by go_num, by simp, hrow8, hls9, hB8⟩
      case measure => simp [intOf]; omega
    · have hik : i = K + 1 := by omega
      subst hik
      have hii : ¬ (((K + 1 : Nat) : Int) < (K : Int) + 1) := by omega
      obtain ⟨g9, rfl⟩ : ∃ g9, ra = some ⟨g9, 0, none⟩ := by
        rcases hrow.2 with ⟨h1, h2⟩ | ⟨g', cap, cur, h1, _⟩
        · have := HVL.out; omega
        · injection h1 with h1; exact ⟨g', h1⟩
      have HRW := hide (Rws.of_own hrow hls)
      rw [HVL.out]
      have hBz := bcat2 hBw3 hB
      obtain ⟨_, y0, y1, fy0, fy1, s0, s1⟩ := Two.mk' (blk_below hR3 hB)
      clear hrow hls
      go_wp2
      exact bodyPost_ret (v := .tuple #[.slice (some ⟨g9, 0, none⟩) (K + 1) rcap, .agg #[.int .i64 0, .int .i64 0]]) (by simp [results, Tryd.results75, go_sem, y0, y1]) rfl ⟨_, rfl, ⟨K, g9, rcap, rfl, HS.out, HE.out, HRW.out⟩, hBz⟩
end Go.Proofs.YtolbpjjjoafkkaaDoor

namespace Go.Proofs.YtolbpjjjoafkkaaDoor
open Go Go.RowKit

theorem LisA.below {w w' : World} {n : Nat} {nx : (Nat → Bool) → Nat → Bool} {I : (Nat → Bool) → Prop} {M : (Nat → Bool) → Nat} {q0 : Nat → Bool} {y : Value} (h : LisA w n nx I M q0 y) (hb : Below w.heap.size w w') : LisA w' n nx I M q0 y := by
  obtain ⟨K, g, c, h1, h2, h3, h4⟩ := h
  exact ⟨K, g, c, h1, h2, h3, h4.below hb⟩
theorem call76 (x : Value) (W : World) : Sem.run Tryd.prog (callFunc 76 #[x]) W = .ok (.enter 76 #[x]) W := by kernel_rfl
theorem call77 (x : Value) (W : World) : Sem.run Tryd.prog (callFunc 77 #[x]) W = .ok (.enter 77 #[x]) W := by kernel_rfl
set_option maxRecDepth 100000 in
set_option maxHeartbeats 2000000 in
theorem sder_bad (N : Int) (v : Value) (zs : List Int) (w : World) (hv : Sl w v zs) (hc : (gfault N zs).1 ≠ 0) :
    Calls Tryd.prog 35 #[.agg #[.int .i64 N, v]] w fun x w' => x = .returned (.tuple #[.slice none 0 0, .agg #[.int .i64 (gfault N zs).1, .int .i64 (gfault N zs).2]]) ∧ Below w.heap.size w w' := by
  obtain ⟨w0, BG⟩ := Beg.new w N v
  obtain ⟨c0, c1, _, _⟩ := BG.box.two
  have hck := fun f => listed_bad N v f zs w0 (hv.below BG.bel) hc
  obtain ⟨c, i, hci⟩ : ∃ c i, gfault N zs = (c, i) := ⟨_, _, rfl⟩
  rw [hci] at hck hc ⊢
  simp only at hc hck
  have HCK := hide hck
  clear hck hci
  rw [BG.eq] at c0 c1
  go_enter Tryd.func35, Tryd.ntmps35
  go_wp2_with fail
  rw [← BG.eq]
  refine (HCK.out _).mono ?_
  rintro x w1 ⟨rfl, hb1⟩
  clear c0 c1
  have hR1 := blk_below BG.res hb1
  have hBw := bcat BG.bel hb1 BG.bel.size
  obtain ⟨y0, y1, fy0, fy1⟩ := hR1.two
  obtain ⟨hR6, hB6⟩ := put2 hR1 hBw (by omega) c i
  obtain ⟨z0, z1, _, _⟩ := hR6.two
  go_wp2
  exact bodyPost_ret (v := .tuple #[.slice none 0 0, .agg #[.int .i64 c, .int .i64 i]]) (by simp [results, Tryd.results35, go_sem, z0, z1]) rfl ⟨rfl, hB6⟩
set_option maxRecDepth 100000 in
set_option maxHeartbeats 2000000 in
theorem sder_good (n e : Nat) (v : Value) (zs : List Int) (w : World) (hv : Sl w v zs) (hg : IsGrp n zs e) (hT : Tab w) :
    Calls Tryd.prog 35 #[.agg #[.int .i64 n, v]] w fun x w' => ∃ y, x = .returned (.tuple #[y, .agg #[.int .i64 0, .int .i64 0]]) ∧ LisA w' n (fun q => cmb n zs e q q) (fun q => Fin.Sg (List.range n) (tm n zs) e (fun a => q a = true)) (fun q => (lst n q).length) (fun _ => true) y ∧ Below w.heap.size w w' := by
  obtain ⟨w0, BG⟩ := Beg.new w n v
  obtain ⟨c0, c1, _, _⟩ := BG.box.two
  have HCK := hide (listed_good n e 76 v zs (fun q => cmb n zs e q q) (fun q => Fin.Sg (List.range n) (tm n zs) e (fun a => q a = true)) (fun q => (lst n q).length) (fun _ => true) w0 (hv.below BG.bel) hg (hT.below BG.bel) (fun x W => call76 x W) (fun W u h hG => derived_ok n v u zs e W hG ((hT.below BG.bel).below h)))
  rw [BG.eq] at c0 c1
  go_enter Tryd.func35, Tryd.ntmps35
  go_wp2_with fail
  rw [← BG.eq]
  refine HCK.out.mono ?_
  rintro x w1 ⟨y, rfl, hl, hb1⟩
  clear c0 c1
  have hR1 := blk_below BG.res hb1
  have hBw := bcat BG.bel hb1 BG.bel.size
  obtain ⟨_, y0, y1, fy0, fy1, s0, s1⟩ := Two.mk' hR1
  go_wp2
  exact bodyPost_ret (v := .tuple #[y, .agg #[.int .i64 0, .int .i64 0]]) (by simp [results, Tryd.results35, go_sem, y0, y1]) rfl ⟨y, rfl, hl, hBw⟩
set_option maxRecDepth 100000 in
set_option maxHeartbeats 2000000 in
theorem slow_bad (N : Int) (v : Value) (zs : List Int) (w : World) (hv : Sl w v zs) (hc : (gfault N zs).1 ≠ 0) :
    Calls Tryd.prog 36 #[.agg #[.int .i64 N, v]] w fun x w' => x = .returned (.tuple #[.slice none 0 0, .agg #[.int .i64 (gfault N zs).1, .int .i64 (gfault N zs).2]]) ∧ Below w.heap.size w w' := by
  obtain ⟨w0, BG⟩ := Beg.new w N v
  obtain ⟨c0, c1, _, _⟩ := BG.box.two
  have hck := fun f => listed_bad N v f zs w0 (hv.below BG.bel) hc
  obtain ⟨c, i, hci⟩ : ∃ c i, gfault N zs = (c, i) := ⟨_, _, rfl⟩
  rw [hci] at hck hc ⊢
  simp only at hc hck
  have HCK := hide hck
  clear hck hci
  rw [BG.eq] at c0 c1
  go_enter Tryd.func36, Tryd.ntmps36
  go_wp2_with fail
  rw [← BG.eq]
  refine (HCK.out _).mono ?_
  rintro x w1 ⟨rfl, hb1⟩
  clear c0 c1
  have hR1 := blk_below BG.res hb1
  have hBw := bcat BG.bel hb1 BG.bel.size
  obtain ⟨y0, y1, fy0, fy1⟩ := hR1.two
  obtain ⟨hR6, hB6⟩ := put2 hR1 hBw (by omega) c i
  obtain ⟨z0, z1, _, _⟩ := hR6.two
  go_wp2
  exact bodyPost_ret (v := .tuple #[.slice none 0 0, .agg #[.int .i64 c, .int .i64 i]]) (by simp [results, Tryd.results36, go_sem, z0, z1]) rfl ⟨rfl, hB6⟩
set_option maxRecDepth 100000 in
set_option maxHeartbeats 2000000 in
theorem slow_good (n e : Nat) (v : Value) (zs : List Int) (w : World) (hv : Sl w v zs) (hg : IsGrp n zs e) (hT : Tab w) :
    Calls Tryd.prog 36 #[.agg #[.int .i64 n, v]] w fun x w' => ∃ y, x = .returned (.tuple #[y, .agg #[.int .i64 0, .int .i64 0]]) ∧ LisA w' n (fun q => cmb n zs e q fun _ => true) (Nsg n zs e) (fun q => (lst n q).length) (fun _ => true) y ∧ Below w.heap.size w w' := by
  obtain ⟨w0, BG⟩ := Beg.new w n v
  obtain ⟨c0, c1, _, _⟩ := BG.box.two
  have HCK := hide (listed_good n e 77 v zs (fun q => cmb n zs e q fun _ => true) (Nsg n zs e) (fun q => (lst n q).length) (fun _ => true) w0 (hv.below BG.bel) hg (hT.below BG.bel) (fun x W => call77 x W) (fun W u h hG => lower_ok n v u zs e W hG ((hT.below BG.bel).below h)))
  rw [BG.eq] at c0 c1
  go_enter Tryd.func36, Tryd.ntmps36
  go_wp2_with fail
  rw [← BG.eq]
  refine HCK.out.mono ?_
  rintro x w1 ⟨y, rfl, hl, hb1⟩
  clear c0 c1
  have hR1 := blk_below BG.res hb1
  have hBw := bcat BG.bel hb1 BG.bel.size
  obtain ⟨_, y0, y1, fy0, fy1, s0, s1⟩ := Two.mk' hR1
  go_wp2
  exact bodyPost_ret (v := .tuple #[y, .agg #[.int .i64 0, .int .i64 0]]) (by simp [results, Tryd.results36, go_sem, y0, y1]) rfl ⟨y, rfl, hl, hBw⟩
set_option maxRecDepth 100000 in
set_option maxHeartbeats 2000000 in
theorem ends_bad (c i : Int) (w : World) (hc : c ≠ 0) :
    Calls Tryd.prog 79 #[.slice none 0 0, .agg #[.int .i64 c, .int .i64 i]] w fun x w' => x = .returned (.tuple #[.bool false, .agg #[.int .i64 c, .int .i64 i]]) ∧ Below w.heap.size w w' := by
  have hcb : (c != 0) = true := by simpa using hc
  obtain ⟨w0, hw0⟩ : ∃ w0, w0 = (w.alloc (.cells #[.int .i64 c, .int .i64 i] 27)).alloc (.cells #[.int .i64 0, .int .i64 0] 27) := ⟨_, rfl⟩
  have hB0 : Below w.heap.size w w0 := by rw [hw0]; exact (balloc w _).alloc (by simp) _
  have hX0 : Blk w0 w.heap.size 27 [.int .i64 c, .int .i64 i] := by rw [hw0]; exact (blk0 (w := w) (T := 27) _ _).alloc _
  have hR0 : Blk w0 (w.heap.size + 1) 27 [.int .i64 0, .int .i64 0] := by
    rw [hw0]
    have := blk0 (w := w.alloc (.cells #[.int .i64 c, .int .i64 i] 27)) (T := 27) (.int .i64 0) (.int .i64 0)
    rwa [World.size_alloc] at this
  obtain ⟨c0, c1, _, _⟩ := hX0.two
  obtain ⟨y0, y1, fy0, fy1⟩ := hR0.two
  rw [hw0] at c0 c1 y0 y1
  go_enter Tryd.func79, Tryd.ntmps79
  go_wp2_with fail
  rw [← hw0]
  rw [← hw0] at c0 c1 y0 y1
  clear hw0
  go_region
  all_goals (
    go_wp2
    obtain ⟨hR6, hB6⟩ := put2 hR0 hB0 (by omega) c i
    have hB7 := bdrew hB6
    have hR7 : Blk ((w0.setCell ⟨w.heap.size + 1, 0, none⟩ (.int .i64 c)).setCell ⟨w.heap.size + 1, 1, none⟩ (.int .i64 i)).drew (w.heap.size + 1) 27 [.int .i64 c, .int .i64 i] := hR6
    generalize ((w0.setCell ⟨w.heap.size + 1, 0, none⟩ (.int .i64 c)).setCell ⟨w.heap.size + 1, 1, none⟩ (.int .i64 i)).drew = W at hR7 hB7 ⊢
    obtain ⟨z0, z1, _, _⟩ := hR7.two
    exact bodyPost_ret (v := .tuple #[.bool false, .agg #[.int .i64 c, .int .i64 i]]) (by simp [results, Tryd.results79, go_sem, z0, z1]) rfl ⟨rfl, hB7⟩)
set_option maxRecDepth 100000 in
set_option maxHeartbeats 2000000 in
theorem ends_good (g K c : Nat) (rs : List (List Int)) (w : World) (hR : Rws w g rs) (hl : rs.length = K + 1) (hK : K ≤ 60) :
    Calls Tryd.prog 79 #[.slice (some ⟨g, 0, none⟩) (K + 1) c, .agg #[.int .i64 0, .int .i64 0]] w fun x w' => x = .returned (.tuple #[.bool (((rs[K]?.getD []).length : Int) == 1), .agg #[.int .i64 0, .int .i64 0]]) ∧ Below w.heap.size w w' := by
  obtain ⟨w0, hw0⟩ : ∃ w0, w0 = (w.alloc (.cells #[.int .i64 0, .int .i64 0] 27)).alloc (.cells #[.int .i64 0, .int .i64 0] 27) := ⟨_, rfl⟩
  have hB0 : Below w.heap.size w w0 := by rw [hw0]; exact (balloc w _).alloc (by simp) _
  have hX0 : Blk w0 w.heap.size 27 [.int .i64 0, .int .i64 0] := by rw [hw0]; exact (blk0 (w := w) (T := 27) _ _).alloc _
  have hR0 : Blk w0 (w.heap.size + 1) 27 [.int .i64 0, .int .i64 0] := by
    rw [hw0]
    have := blk0 (w := w.alloc (.cells #[.int .i64 0, .int .i64 0] 27)) (T := 27) (.int .i64 0) (.int .i64 0)
    rwa [World.size_alloc] at this
  obtain ⟨a, cp, hc, _⟩ := (hR.below hB0) K (by omega)
  obtain ⟨c0, c1, _, _⟩ := hX0.two
  obtain ⟨_, y0, y1, fy0, fy1, s0, s1⟩ := Two.mk' hR0
  have hk1 : (((K + 1 : Nat) : Int) - 1) = (K : Int) := by omega
  generalize (rs[K]?.getD []).length = L9 at *
  rw [hw0] at c0 c1 hc y0 y1 fy0 fy1 s0 s1
  go_enter Tryd.func79, Tryd.ntmps79
  go_wp2
  rw [← hw0] at y0 y1 ⊢
  exact bodyPost_ret (v := .tuple #[.bool ((L9 : Int) == 1), .agg #[.int .i64 0, .int .i64 0]]) (by simp [results, Tryd.results79, go_sem, y0, y1]) rfl ⟨rfl, hB0⟩
end Go.Proofs.YtolbpjjjoafkkaaDoor

namespace Go.Proofs.YtolbpjjjoafkkaaDoor
open Go Go.RowKit

/-- How the lower series goes, and whether it ends with the one. -/
def NilA (n : Nat) (zs : List Int) (e : Nat) (b : Bool) : Prop := ∃ K : Nat, Stp n (fun q => cmb n zs e q fun _ => true) (Nsg n zs e) (fun q => (lst n q).length) (fun _ => true) K ∧ bs (itr (fun q => cmb n zs e q fun _ => true) (fun _ => true) (K + 1)) n = bs (itr (fun q => cmb n zs e q fun _ => true) (fun _ => true) K) n ∧ (b = true ↔ (lst n (itr (fun q => cmb n zs e q fun _ => true) (fun _ => true) K)).length = 1)
set_option maxRecDepth 100000 in
set_option maxHeartbeats 2000000 in
theorem nil_good (n e : Nat) (v : Value) (zs : List Int) (w : World) (hv : Sl w v zs) (hg : IsGrp n zs e) (hT : Tab w) :
    Calls Tryd.prog 39 #[.agg #[.int .i64 n, v]] w fun x w' => ∃ b, x = .returned (.tuple #[.bool b, .agg #[.int .i64 0, .int .i64 0]]) ∧ NilA n zs e b ∧ Below w.heap.size w w' := by
  obtain ⟨w0, BG⟩ := Beg.new w n v
  obtain ⟨c0, c1, _, _⟩ := BG.box.two
  have HCK := hide (slow_good n e v zs w0 (hv.below BG.bel) hg (hT.below BG.bel))
  rw [BG.eq] at c0 c1
  go_enter Tryd.func39, Tryd.ntmps39
  go_wp2_with fail
  rw [← BG.eq]
  refine HCK.out.mono ?_
  rintro x w1 ⟨y, rfl, ⟨K, g, c, rfl, hst, hend, hR⟩, hb1⟩
  clear c0 c1
  have hm := hst.meas
  have hS := sls_at (n := n) (f := itr (fun q => cmb n zs e q fun _ => true) (fun _ => true)) (k := K + 1) (i := K) (by omega)
  have HN := hide (show NilA n zs e (((lst n (itr (fun q => cmb n zs e q fun _ => true) (fun _ => true) K)).length : Int) == 1) from ⟨K, hst, hend, by rw [beq_iff_eq]; omega⟩)
  have HEN := hide (ends_good g K c _ w1 hR (sls_len _ _ _) (by omega))
  rw [hS, li_len] at HEN
  clear hst hend hS
  generalize (((lst n (itr (fun q => cmb n zs e q fun _ => true) (fun _ => true) K)).length : Int) == 1) = b at *
  go_wp2_with fail
  refine HEN.out.mono ?_
  rintro x w2 ⟨rfl, hb2⟩
  have hbb := bcat2 hb1 hb2
  have hR1 := blk_below BG.res hbb
  have hBw := bcat BG.bel hbb BG.bel.size
  obtain ⟨_, y0, y1, fy0, fy1, s0, s1⟩ := Two.mk' hR1
  go_wp2
  exact bodyPost_ret (v := .tuple #[.bool b, .agg #[.int .i64 0, .int .i64 0]]) (by simp [results, Tryd.results39, go_sem, y0, y1]) rfl ⟨b, rfl, HN.out, hBw⟩
set_option maxRecDepth 100000 in
set_option maxHeartbeats 2000000 in
theorem nil_bad (N : Int) (v : Value) (zs : List Int) (w : World) (hv : Sl w v zs) (hc : (gfault N zs).1 ≠ 0) :
    Calls Tryd.prog 39 #[.agg #[.int .i64 N, v]] w fun x w' => x = .returned (.tuple #[.bool false, .agg #[.int .i64 (gfault N zs).1, .int .i64 (gfault N zs).2]]) ∧ Below w.heap.size w w' := by
  obtain ⟨w0, BG⟩ := Beg.new w N v
  obtain ⟨c0, c1, _, _⟩ := BG.box.two
  have hck := slow_bad N v zs w0 (hv.below BG.bel) hc
  obtain ⟨c, i, hci⟩ : ∃ c i, gfault N zs = (c, i) := ⟨_, _, rfl⟩
  rw [hci] at hck hc ⊢
  simp only at hc hck
  have HCK := hide hck
  clear hck hci
  rw [BG.eq] at c0 c1
  go_enter Tryd.func39, Tryd.ntmps39
  go_wp2_with fail
  rw [← BG.eq]
  refine HCK.out.mono ?_
  rintro x w1 ⟨rfl, hb1⟩
  clear c0 c1
  go_wp2_with fail
  refine (ends_bad c i w1 hc).mono ?_
  rintro x w2 ⟨rfl, hb2⟩
  have hbb := bcat2 hb1 hb2
  have hR1 := blk_below BG.res hbb
  have hBw := bcat BG.bel hbb BG.bel.size
  obtain ⟨y0, y1, fy0, fy1⟩ := hR1.two
  obtain ⟨hR6, hB6⟩ := put2 hR1 hBw (by omega) c i
  obtain ⟨z0, z1, _, _⟩ := hR6.two
  go_wp2
  exact bodyPost_ret (v := .tuple #[.bool false, .agg #[.int .i64 c, .int .i64 i]]) (by simp [results, Tryd.results39, go_sem, z0, z1]) rfl ⟨rfl, hB6⟩
/-- The square's commutators. -/
theorem sq_cm : ∀ a, a < 8 → ∀ b, b < 8 → Fin.cm (tm 8 sqT) (iv 8 sqT 0) a b = 0 ∨ Fin.cm (tm 8 sqT) (iv 8 sqT 0) a b = 2 := by decide +kernel
theorem sq_cm2 : ∃ a, a < 8 ∧ ∃ b, b < 8 ∧ Fin.cm (tm 8 sqT) (iv 8 sqT 0) a b = 2 := by decide +kernel
theorem sq_cm3 : ∀ a, a < 8 → ∀ b, b < 8 → (a = 0 ∨ a = 2) → (b = 0 ∨ b = 2) → Fin.cm (tm 8 sqT) (iv 8 sqT 0) a b = 0 := by decide +kernel
theorem sq_sg : ∀ a, a < 8 → ∀ b, b < 8 → (a = 0 ∨ a = 2) → (b = 0 ∨ b = 2) → (tm 8 sqT a b = 0 ∨ tm 8 sqT a b = 2) := by decide +kernel
theorem sq_one : tm 8 sqT 0 0 = 0 := by decide +kernel
theorem sq_d1 {x : Nat} (hx : x < 8) : cmb 8 sqT 0 (fun _ => true) (fun _ => true) x = true ↔ (x = 0 ∨ x = 2) := by
  constructor
  · exact fun h => cmb_in (P := fun x => x = 0 ∨ x = 2) ⟨.inl rfl, fun a b ha hb h1 h2 => sq_sg a (List.mem_range.1 ha) b (List.mem_range.1 hb) h1 h2⟩ (fun a b ha hb _ _ => sq_cm a ha b hb) hx h
  · rintro (rfl | rfl)
    · exact (cmb_sg sqT_grp).one
    · obtain ⟨a, ha, b, hb, h⟩ := sq_cm2
      have := cmb_base (q := fun _ => true) (r := fun _ => true) sqT_grp ha hb rfl rfl
      rwa [h] at this
theorem sq_d2 {q : Nat → Bool} (hq : ∀ x, x < 8 → q x = true → (x = 0 ∨ x = 2)) {x : Nat} (hx : x < 8) : cmb 8 sqT 0 q q x = true ↔ x = 0 := by
  constructor
  · exact fun h => cmb_in (P := fun x => x = 0) ⟨rfl, fun a b _ _ h1 h2 => by rw [h1, h2]; exact sq_one⟩ (fun a b ha hb h1 h2 => sq_cm3 a ha b hb (hq a ha h1) (hq b hb h2)) hx h
  · rintro rfl
    exact (cmb_sg sqT_grp).one
theorem sq_series {I : (Nat → Bool) → Prop} {M : (Nat → Bool) → Nat} {K : Nat} (h : Stp 8 (fun q => cmb 8 sqT 0 q q) I M (fun _ => true) K) (hend : bs (itr (fun q => cmb 8 sqT 0 q q) (fun _ => true) (K + 1)) 8 = bs (itr (fun q => cmb 8 sqT 0 q q) (fun _ => true) K) 8) : K = 2 ∧ li (lst 8 (itr (fun q => cmb 8 sqT 0 q q) (fun _ => true) 1)) = [0, 2] := by
  have d1 : ∀ x, x < 8 → (itr (fun q => cmb 8 sqT 0 q q) (fun _ => true) 1 x = true ↔ (x = 0 ∨ x = 2)) := fun x hx => sq_d1 hx
  have d2 : ∀ x, x < 8 → (itr (fun q => cmb 8 sqT 0 q q) (fun _ => true) 2 x = true ↔ x = 0) := fun x hx => sq_d2 (fun x hx h => (d1 x hx).1 h) hx
  have d3 : ∀ x, x < 8 → (itr (fun q => cmb 8 sqT 0 q q) (fun _ => true) 3 x = true ↔ x = 0) := fun x hx => sq_d2 (fun x hx h => .inl ((d2 x hx).1 h)) hx
  refine ⟨?_, ?_⟩
  · match K, h, hend with
    | 0, _, hend =>
      have := bs_inj hend 1 (by omega)
      have h1 : itr (fun q => cmb 8 sqT 0 q q) (fun _ => true) 1 1 = true := this
      have := (d1 1 (by omega)).1 h1
      omega
    | 1, _, hend =>
      have h1 : itr (fun q => cmb 8 sqT 0 q q) (fun _ => true) 2 2 = itr (fun q => cmb 8 sqT 0 q q) (fun _ => true) 1 2 := bs_inj hend 2 (by omega)
      rw [(d1 2 (by omega)).2 (.inr rfl)] at h1
      have := (d2 2 (by omega)).1 h1
      omega
    | 2, _, _ => rfl
    | K + 3, h, _ =>
      exact absurd (bs_ext fun x hx => by rw [Bool.eq_iff_iff, d3 x hx, d2 x hx]) (h.go 2 (by omega))
  · rw [lst_congr (q := fun x => decide (x = 0 ∨ x = 2)) fun x hx => by rw [Bool.eq_iff_iff, d1 x hx, decide_eq_true_eq]]
    decide
set_option maxRecDepth 100000 in
set_option maxHeartbeats 2000000 in
theorem seriesBegun_any (w : World) (hT : Tab w) : Calls Tryd.prog 41 #[] w fun x w' => x = .returned (.bool true) ∧ Below w.heap.size w w' := by
  go_enter Tryd.func41, Tryd.ntmps41
  go_wp2_with fail
  refine (square_ok w).mono ?_
  rintro x w1 ⟨r, rfl, hrow, hb1⟩
  have h01 : 0 < w1.heap.size := Nat.lt_of_lt_of_le hT.lt hb1.size
  go_wp2_with fail
  refine (sder_good 8 0 r sqT w1 (row_sl hrow h01) sqT_grp (hT.below hb1)).mono ?_
  rintro x w2 ⟨y, rfl, ⟨K, g, c, rfl, hst, hend, hR⟩, hb2⟩
  obtain ⟨rfl, h02⟩ := sq_series hst hend
  have hs1 := sls_at (n := 8) (f := itr (fun q => cmb 8 sqT 0 q q) (fun _ => true)) (k := 3) (i := 1) (by omega)
  rw [h02] at hs1
  obtain ⟨a, cp, hc, hS⟩ := hR 1 (by rw [sls_len]; omega)
  rw [hs1] at hc hS
  clear hst hend hR h02 hs1
  have hb3 := balloc w2 (.cells #[.int .i64 0, .int .i64 0] 27)
  have hF3 := blk0 (w := w2) (T := 27) (.int .i64 0) (.int .i64 0)
  obtain ⟨t0, t1, _, _⟩ := hF3.two
  have hc3 := below_cell hb3 hc
  have hb4 : Below w2.heap.size w2 ((w2.alloc (.cells #[.int .i64 0, .int .i64 0] 27)).alloc (.cells #[.int .i64 0, .int .i64 2] 3)) := hb3.alloc hb3.size _
  have hL4 : Blk ((w2.alloc (.cells #[.int .i64 0, .int .i64 0] 27)).alloc (.cells #[.int .i64 0, .int .i64 2] 3)) (w2.heap.size + 1) 3 (([0, 2] : List Int).map (Value.int .i64)) := by
    have := blk0 (w := w2.alloc (.cells #[.int .i64 0, .int .i64 0] 27)) (T := 3) (.int .i64 0) (.int .i64 2)
    rwa [World.size_alloc] at this
  have hS4 := Sl.of_blk (n := 2) hL4 rfl (by simp)
  go_wp2_with fail
  generalize (w2.alloc (.cells #[.int .i64 0, .int .i64 0] 27)).alloc (.cells #[.int .i64 0, .int .i64 2] 3) = w4 at *
  refine (ints_any _ _ [0, 2] [0, 2] w4 (hS.below hb4) hS4).mono ?_
  rintro x w5 ⟨rfl, hb5⟩
  rw [show decide (([0, 2] : List Int) = ([0, 2] : List Int)) = true from rfl]
  go_wp2
  go_ret
  exact ⟨rfl, bcat2 (bcat2 (bcat2 hb1 hb2) hb4) hb5⟩
end Go.Proofs.YtolbpjjjoafkkaaDoor

namespace Go.Proofs.YtolbpjjjoafkkaaDoor
open Go Go.RowKit

section
variable {n e : Nat} {zs : List Int} {q : Nat → Bool}
/-- What has all its commutators in a set. -/
def upq (n : Nat) (zs : List Int) (e : Nat) (q : Nat → Bool) (a : Nat) : Bool := (List.range n).all fun b => q (Fin.cm (tm n zs) (iv n zs e) a b)
theorem upq_iff {a : Nat} : upq n zs e q a = true ↔ ∀ b, b < n → q (Fin.cm (tm n zs) (iv n zs e) a b) = true := by
  unfold upq
  rw [List.all_eq_true]
  exact ⟨fun h b hb => h b (List.mem_range.2 hb), fun h b hb => h b (List.mem_range.1 hb)⟩
theorem Nsg.one_alone (g : IsGrp n zs e) : Nsg n zs e (fun a => decide (a = e)) := by
  have F := grp_fg g
  have V := grp_iv g
  refine ⟨subT_iff.1 (one_sub g), fun x a hx ha h => ?_⟩
  have h : x = e := of_decide_eq_true h
  subst h
  exact decide_eq_true (Fin.cj_one F V ha)
theorem cm_mul (g : IsGrp n zs e) {a b c : Nat} (ha : a < n) (hb : b < n) (hc : c < n) : Fin.cm (tm n zs) (iv n zs e) (tm n zs a b) c = tm n zs (Fin.cj (tm n zs) (iv n zs e) (Fin.cm (tm n zs) (iv n zs e) a c) b) (Fin.cm (tm n zs) (iv n zs e) b c) := by
  have F := grp_fg g
  have V := grp_iv g
  have ha' := List.mem_range.2 ha
  have hb' := List.mem_range.2 hb
  have hc' := List.mem_range.2 hc
  have hab := F.cl _ _ ha' hb'
  have m1 := Fin.cm_mem F V ha' hc'
  have m2 := Fin.cm_mem F V hb' hc'
  have m3 := Fin.cj_mem F V m1 hb'
  have m4 := Fin.cm_mem F V hab hc'
  have hcab := F.cl _ _ hc' hab
  refine F.can hcab m4 (F.cl _ _ m3 m2) ?_
  rw [Fin.cm_eq F V hab hc']
  -- c a b (b^-1 [a,c] b) [b,c] = c a [a,c] b [b,c] = a c b [b,c] = a b c
  rw [← F.ass _ _ _ hcab m3 m2, ← F.ass _ _ _ hc' ha' hb', F.ass _ _ _ (F.cl _ _ hc' ha') hb' m3, Fin.cj_eq F V m1 hb', ← F.ass _ _ _ (F.cl _ _ hc' ha') m1 hb', Fin.cm_eq F V ha' hc', F.ass _ _ _ (F.cl _ _ ha' hc') hb' m2, F.ass _ _ _ ha' hc' (F.cl _ _ hb' m2), ← F.ass _ _ _ hc' hb' m2, Fin.cm_eq F V hb' hc', F.ass _ _ _ ha' hb' hc']
theorem Nsg.up (g : IsGrp n zs e) (h : Nsg n zs e q) : Nsg n zs e (upq n zs e q) := by
  have F := grp_fg g
  have V := grp_iv g
  refine ⟨⟨upq_iff.2 fun b hb => ?_, fun x y hx hy h1 h2 => upq_iff.2 fun b hb => ?_⟩, fun x a hx ha h1 => upq_iff.2 fun b hb => ?_⟩
  · have hb' := List.mem_range.2 hb
    rw [(Fin.cm_one F V F.one hb').2 (by rw [F.left b hb', F.right b hb'])]
    exact h.sg.one
  · have hxl := List.mem_range.1 hx
    have hyl := List.mem_range.1 hy
    have hb' := List.mem_range.2 hb
    rw [cm_mul g hxl hyl hb]
    exact h.sg.mul _ _ (Fin.cj_mem F V (Fin.cm_mem F V hx hb') hy) (Fin.cm_mem F V hy hb') (h.nm _ _ (Fin.cm_mem F V hx hb') hy (upq_iff.1 h1 b hb)) (upq_iff.1 h2 b hb)
  · have hb' := List.mem_range.2 hb
    have hi := (V a ha).1
    have hd := Fin.cj_mem F V hb' hi
    have hxl := List.mem_range.1 hx
    have h2 := Fin.cm_cj F V hx hd ha
    rw [(Fin.cj_back F V hb' ha).2] at h2
    rw [← h2]
    exact h.nm _ _ (Fin.cm_mem F V hx hd) ha (upq_iff.1 h1 _ (List.mem_range.1 hd))
theorem up_has (g : IsGrp n zs e) (h : Nsg n zs e q) {x : Nat} (hx : x < n) (h1 : q x = true) : upq n zs e q x = true := upq_iff.2 fun _ hb => h.cm_in g hx hb h1
end
theorem call109 (a : Int) (x y : Value) (W : World) : Sem.run Tryd.prog (callFunc 109 (#[.int .i64 a] ++ #[x, y])) W = .ok (.enter 109 (#[.int .i64 a] ++ #[x, y])) W := by kernel_rfl
theorem call108 (x : Int) (y : Value) (W : World) : Sem.run Tryd.prog (callFunc 108 (#[.int .u64 x] ++ #[y])) W = .ok (.enter 108 (#[.int .u64 x] ++ #[y])) W := by kernel_rfl
theorem call78u (x : Value) (W : World) : Sem.run Tryd.prog (callFunc 78 #[x]) W = .ok (.enter 78 #[x]) W := by kernel_rfl
set_option maxRecDepth 100000 in
set_option maxHeartbeats 2000000 in
theorem up2_ok (n : Nat) (v u : Value) (zs : List Int) (e gb sb a : Nat) (q : Nat → Bool) (w : World) (hG : GA w n v e u zs) (hb : Box4 w gb n e v u) (hs : Boxed w sb 70 (.int .u64 (bs q n))) (ha : a < n) :
    Calls Tryd.prog 109 (#[.int .i64 a] ++ #[.pointer (some ⟨gb, 0, none⟩), .pointer (some ⟨sb, 0, none⟩)]) w fun x w' => x = .returned (.bool (upq n zs e q a)) ∧ Below w.heap.size w w' := by
  show Calls Tryd.prog 109 #[.int .i64 a, .pointer (some ⟨gb, 0, none⟩), .pointer (some ⟨sb, 0, none⟩)] w _
  have hn := hG.le
  have hg := hG.grp
  obtain ⟨c0, c1, c2, c3⟩ := hb.cells
  go_enter Tryd.func109, Tryd.ntmps109
  go_wp2_with fail
  clear c0 c1 c2 c3
  go_loopw [9] (fun i wr => ∃ k : Nat, k ≤ n ∧ i = .int .i64 k ∧ (∀ b, b < k → q (Fin.cm (tm n zs) (iv n zs e) a b) = true) ∧ Below w.heap.size w wr) (fun i _ => n - (intOf i).toNat)
  case atStart => exact ⟨0, Nat.zero_le _, rfl, fun b h => by omega, Below.refl _ _⟩
  case round =>
    obtain ⟨k, hk, rfl, hal, hB⟩ := hrel
    have HAL := hide hal
    clear hal
    by_cases hlt : k < n
    · have hki : (k : Int) < (n : Int) := by omega
      have hGr := hG.below hB
      obtain ⟨c0, c1, c2, c3⟩ := (hb.below hB).cells
      have s0 := (Boxed.below hs hB).cell
      have hct := cm_lt hg ha hlt
      have HCM := hide (fun W (h : Below wr.heap.size wr W) => cmt_ok n v u zs e a k W (hGr.below h) ha hlt)
      have HHA := hide (fun W => has_ok n (Fin.cm (tm n zs) (iv n zs e) a k) q W hn hct)
      have HT := hide (show q (Fin.cm (tm n zs) (iv n zs e) a k) = true → ∀ b, b < k + 1 → q (Fin.cm (tm n zs) (iv n zs e) a b) = true from fun h b hb9 => by
        by_cases h9 : b = k
        · rw [h9]; exact h
        · exact HAL.out b (by omega))
      have HF := hide (show q (Fin.cm (tm n zs) (iv n zs e) a k) = false → upq n zs e q a = false from fun h => by
        rw [Bool.eq_false_iff]
        intro h9
        rw [upq_iff.1 h9 k hlt] at h
        cases h)
      generalize Fin.cm (tm n zs) (iv n zs e) a k = t at *
      generalize bs q n = Q9 at *
      generalize q t = b9 at *
      have hS : ∀ W, Below wr.heap.size wr W → (Below wr.heap.size wr W ∧ W.cell? ⟨gb, 0, none⟩ = some (.int .i64 n) ∧ W.cell? ⟨gb, 1, none⟩ = some v ∧ W.cell? ⟨gb, 2, none⟩ = some (.int .i64 e) ∧ W.cell? ⟨gb, 3, none⟩ = some u ∧ W.cell? ⟨sb, 0, none⟩ = some (.int .u64 Q9)) := fun W h => ⟨h, below_cell h c0, below_cell h c1, below_cell h c2, below_cell h c3, below_cell h s0⟩
      have hS0 := hS _ (bdrew (Below.refl _ wr))
      cases b9 with
      | true =>
        go_wp2_with fail
        clear c0 c1 c2 c3 s0
        go_region_held3 (fun W => Below wr.heap.size wr W ∧ W.cell? ⟨gb, 0, none⟩ = some (.int .i64 n) ∧ W.cell? ⟨gb, 1, none⟩ = some v ∧ W.cell? ⟨gb, 2, none⟩ = some (.int .i64 e) ∧ W.cell? ⟨gb, 3, none⟩ = some u ∧ W.cell? ⟨sb, 0, none⟩ = some (.int .u64 Q9))
          (first | exact hS0 | assumption | exact hS _ (bcat2 (And.left ‹_›) hl1))
          (first
            | (go_at_call 110; refine (HCM.out _ (And.left ‹_›)).mono ?_; rintro e1 W1 ⟨rfl, hl1⟩)
            | (go_at_call 101; refine (HHA.out _).mono ?_; rintro e2 W2 ⟨rfl, rfl⟩))
        all_goals (
          have hB9 := And.left ‹Below wr.heap.size wr W2 ∧ _›
          go_wp2
          go_roundw
          case rel => exact ⟨k + 1, by omega, by go_num, HT.out (by simp), bcat2 hB hB9⟩
          case measure => simp [intOf]; omega)
      | false =>
        go_wp2_with fail
        clear c0 c1 c2 c3 s0
        go_region_held3 (fun W => Below wr.heap.size wr W ∧ W.cell? ⟨gb, 0, none⟩ = some (.int .i64 n) ∧ W.cell? ⟨gb, 1, none⟩ = some v ∧ W.cell? ⟨gb, 2, none⟩ = some (.int .i64 e) ∧ W.cell? ⟨gb, 3, none⟩ = some u ∧ W.cell? ⟨sb, 0, none⟩ = some (.int .u64 Q9))
          (first | exact hS0 | assumption | exact hS _ (bcat2 (And.left ‹_›) hl1))
          (first
            | (go_at_call 110; refine (HCM.out _ (And.left ‹_›)).mono ?_; rintro e1 W1 ⟨rfl, hl1⟩)
            | (go_at_call 101; refine (HHA.out _).mono ?_; rintro e2 W2 ⟨rfl, rfl⟩))
        all_goals (
          have hB9 := And.left ‹Below wr.heap.size wr W2 ∧ _›
          go_wp2
          go_ret
          exact ⟨by rw [HF.out (by simp)] <;> rfl, bcat2 hB hB9⟩)
    · have hki : ¬ (k : Int) < (n : Int) := by omega
      have HU := hide (show upq n zs e q a = true from upq_iff.2 fun b hb9 => HAL.out b (by omega))
      go_wp2
      go_ret
      exact ⟨by rw [HU.out] <;> rfl, hB⟩
set_option maxRecDepth 100000 in
theorem up1_ok (n : Nat) (v u : Value) (zs : List Int) (e gb : Nat) (q : Nat → Bool) (w : World) (hG : GA w n v e u zs) (hb : Box4 w gb n e v u) :
    Calls Tryd.prog 108 (#[.int .u64 (bs q n)] ++ #[.pointer (some ⟨gb, 0, none⟩)]) w fun x w' => x = .returned (.int .u64 (bs (upq n zs e q) n)) ∧ Below w.heap.size w w' := by
  show Calls Tryd.prog 108 #[.int .u64 (bs q n), .pointer (some ⟨gb, 0, none⟩)] w _
  have hn := hG.le
  have hB0 : Below w.heap.size w (w.alloc (.cells #[.int .u64 (bs q n)] 70)) := balloc w _
  have hS0 := Boxed.new w 70 (.int .u64 (bs q n))
  have hX0 := hb.below hB0
  have hG0 := hG.below hB0
  obtain ⟨c0, c1, c2, c3⟩ := hX0.cells
  go_enter Tryd.func108, Tryd.ntmps108
  go_wp2_with fail
  clear c0 c1 c2 c3
  generalize w.alloc (.cells #[.int .u64 (bs q n)] 70) = w0 at *
  refine (those_ok n 109 v u e #[.pointer (some ⟨gb, 0, none⟩), .pointer (some ⟨w.heap.size, 0, none⟩)] (upq n zs e q) w0 hn (fun a W => call109 a _ _ W) (fun W a hW ha => up2_ok n v u zs e gb w.heap.size a q W (hG0.below hW) (hX0.below hW) (Boxed.below hS0 hW) ha)).mono ?_
  rintro x w1 ⟨rfl, hb1⟩
  go_wp2
  go_ret
  exact ⟨rfl, bcat2 hB0 hb1⟩
set_option maxRecDepth 100000 in
theorem upper_ok (n : Nat) (v u : Value) (zs : List Int) (e : Nat) (w : World) (hG : GA w n v e u zs) :
    Calls Tryd.prog 78 #[.agg #[.int .i64 n, v, .int .i64 e, u]] w fun x w' => ∃ y, x = .returned y ∧ SerA w w' n (upq n zs e) (Nsg n zs e) (fun q => n - (lst n q).length) (fun a => decide (a = e)) y ∧ Below w.heap.size w w' := by
  have hg := hG.grp
  have hn := hG.le
  have hB0 : Below w.heap.size w (w.alloc (.cells #[.int .i64 n, v, .int .i64 e, u] 64)) := balloc w _
  have hX0 := Box4.new w n e v u
  obtain ⟨c0, c1, c2, c3⟩ := hX0.cells
  go_enter Tryd.func78, Tryd.ntmps78
  go_wp2_with fail
  clear c0 c1 c2 c3
  have hbx := balloc (w.alloc (.cells #[.int .i64 n, v, .int .i64 e, u] 64)) (.cells #[.int .i64 e] 3)
  have hB1 := bcat2 hB0 hbx
  have hX1 := hX0.below hbx
  have HOF := hide (of_one n (w.heap.size + 1) e ((w.alloc (.cells #[.int .i64 n, v, .int .i64 e, u] 64)).alloc (.cells #[.int .i64 e] 3)) hn hg.elt (by have := cell1 (w.alloc (.cells #[.int .i64 n, v, .int .i64 e, u] 64)) (.int .i64 e) 3; rwa [World.size_alloc] at this))
  generalize (w.alloc (.cells #[.int .i64 n, v, .int .i64 e, u] 64)).alloc (.cells #[.int .i64 e] 3) = w1 at *
  refine HOF.out.mono ?_
  rintro x w2 ⟨rfl, rfl⟩
  go_wp2_with fail
  refine (steps_ok n 108 #[.pointer (some ⟨w.heap.size, 0, none⟩)] (upq n zs e) (Nsg n zs e) (fun q => n - (lst n q).length) (fun a => decide (a = e)) _ (fun x W => call108 x _ W) (fun W q h _ => up1_ok n v u zs e _ q W (hG.below (bcat2 hB1 h)) (hX1.below h)) (Nsg.one_alone hg) (by show n - _ ≤ 60; omega) (fun q h1 h2 => ⟨h1.up hg, by
    have h3 := less_of n (p := q) (q := upq n zs e q) (fun x hx h3 => up_has hg h1 hx h3) (fun h9 => h2 h9.symm)
    have h4 := lst_len n (upq n zs e q)
    show n - _ < n - _
    omega⟩)).mono ?_
  rintro x w3 ⟨K, g, c, rfl, hst, hend, hrow, hb2⟩
  have hrow2 := own_le hrow hB1.size
  have hB2 := bcat2 hB1 hb2
  go_wp2
  go_ret
  exact ⟨_, rfl, ⟨K, g, c, rfl, hst, hend, hrow2⟩, hB2⟩
set_option maxRecDepth 100000 in
set_option maxHeartbeats 2000000 in
theorem sup_bad (N : Int) (v : Value) (zs : List Int) (w : World) (hv : Sl w v zs) (hc : (gfault N zs).1 ≠ 0) :
    Calls Tryd.prog 37 #[.agg #[.int .i64 N, v]] w fun x w' => x = .returned (.tuple #[.slice none 0 0, .agg #[.int .i64 (gfault N zs).1, .int .i64 (gfault N zs).2]]) ∧ Below w.heap.size w w' := by
  obtain ⟨w0, BG⟩ := Beg.new w N v
  obtain ⟨c0, c1, _, _⟩ := BG.box.two
  have hck := fun f => listed_bad N v f zs w0 (hv.below BG.bel) hc
  obtain ⟨c, i, hci⟩ : ∃ c i, gfault N zs = (c, i) := ⟨_, _, rfl⟩
  rw [hci] at hck hc ⊢
  simp only at hc hck
  have HCK := hide hck
  clear hck hci
  rw [BG.eq] at c0 c1
  go_enter Tryd.func37, Tryd.ntmps37
  go_wp2_with fail
  rw [← BG.eq]
  refine (HCK.out _).mono ?_
  rintro x w1 ⟨rfl, hb1⟩
  clear c0 c1
  have hR1 := blk_below BG.res hb1
  have hBw := bcat BG.bel hb1 BG.bel.size
  obtain ⟨y0, y1, fy0, fy1⟩ := hR1.two
  obtain ⟨hR6, hB6⟩ := put2 hR1 hBw (by omega) c i
  obtain ⟨z0, z1, _, _⟩ := hR6.two
  go_wp2
  exact bodyPost_ret (v := .tuple #[.slice none 0 0, .agg #[.int .i64 c, .int .i64 i]]) (by simp [results, Tryd.results37, go_sem, z0, z1]) rfl ⟨rfl, hB6⟩
set_option maxRecDepth 100000 in
set_option maxHeartbeats 2000000 in
theorem sup_good (n e : Nat) (v : Value) (zs : List Int) (w : World) (hv : Sl w v zs) (hg : IsGrp n zs e) (hT : Tab w) :
    Calls Tryd.prog 37 #[.agg #[.int .i64 n, v]] w fun x w' => ∃ y, x = .returned (.tuple #[y, .agg #[.int .i64 0, .int .i64 0]]) ∧ LisA w' n (upq n zs e) (Nsg n zs e) (fun q => n - (lst n q).length) (fun a => decide (a = e)) y ∧ Below w.heap.size w w' := by
  obtain ⟨w0, BG⟩ := Beg.new w n v
  obtain ⟨c0, c1, _, _⟩ := BG.box.two
  have HCK := hide (listed_good n e 78 v zs (upq n zs e) (Nsg n zs e) (fun q => n - (lst n q).length) (fun a => decide (a = e)) w0 (hv.below BG.bel) hg (hT.below BG.bel) (fun x W => call78u x W) (fun W u _ hG => upper_ok n v u zs e W hG))
  rw [BG.eq] at c0 c1
  go_enter Tryd.func37, Tryd.ntmps37
  go_wp2_with fail
  rw [← BG.eq]
  refine HCK.out.mono ?_
  rintro x w1 ⟨y, rfl, hl, hb1⟩
  clear c0 c1
  have hR1 := blk_below BG.res hb1
  have hBw := bcat BG.bel hb1 BG.bel.size
  obtain ⟨_, y0, y1, fy0, fy1, s0, s1⟩ := Two.mk' hR1
  go_wp2
  exact bodyPost_ret (v := .tuple #[y, .agg #[.int .i64 0, .int .i64 0]]) (by simp [results, Tryd.results37, go_sem, y0, y1]) rfl ⟨y, rfl, hl, hBw⟩
end Go.Proofs.YtolbpjjjoafkkaaDoor

namespace Go.Proofs.YtolbpjjjoafkkaaDoor
open Go Go.RowKit

set_option maxRecDepth 100000 in
set_option maxHeartbeats 4000000 in
theorem nor_good (n e : Nat) (v u0 : Value) (zs l0 : List Int) (w : World) (hv : Sl w v zs) (hg : IsGrp n zs e) (hu : Sl w u0 l0) (hT : Tab w) (hc : lfault n l0 = (0, 0)) (hs : subT n zs e (pset l0) = true) :
    Calls Tryd.prog 27 #[.agg #[.int .i64 n, v], u0] w fun x w' => ∃ r, x = .returned (.tuple #[r, .agg #[.int .i64 0, .int .i64 0]]) ∧ SlF w.heap.size w' r (li (lst n (norq n zs e (pset l0)))) ∧ Below w.heap.size w w' := by
  obtain ⟨va, vl, vc, rfl⟩ := hv.isSlice
  obtain ⟨w0, BG⟩ := Beg.new w n (.slice va vl vc)
  have hv0 := hv.below BG.bel
  obtain ⟨c0, c1, _, _⟩ := BG.box.two
  have HCK := hide (osub_good n e (.slice va vl vc) u0 zs l0 w0 hv0 hg (hu.below BG.bel) (hT.below BG.bel) hc hs)
  have HZ0 := hide (show w.heap.size + 2 ≤ w0.heap.size by rw [BG.eq]; simp)
  rw [BG.eq] at c0 c1
  go_enter Tryd.func27, Tryd.ntmps27
  go_wp2_with fail
  rw [← BG.eq]
  refine HCK.out.mono ?_
  rintro x w1 ⟨iv9, rfl, hSI, hb1⟩
  obtain ⟨ia, il, ic, rfl⟩ := hSI.sl.isSlice
  clear c0 c1 HCK
  obtain ⟨w2, hw2⟩ : ∃ w2, w2 = (w1.alloc (.cells #[.int .i64 n, (.slice va vl vc), .int .i64 e, (.slice ia il ic)] 64)).alloc (.cells #[.int .i64 0, .int .i64 0] 27) := ⟨_, rfl⟩
  have hb2 : Below w1.heap.size w1 w2 := by rw [hw2]; exact (balloc w1 _).alloc (by simp) _
  have hB1 : Below w0.heap.size w0 w2 := bcat2 hb1 hb2
  have hF1 : Blk w2 (w1.heap.size + 1) 27 [.int .i64 0, .int .i64 0] := by
    rw [hw2]
    have := blk0 (w := w1.alloc (.cells #[.int .i64 n, (.slice va vl vc), .int .i64 e, (.slice ia il ic)] 64)) (T := 27) (.int .i64 0) (.int .i64 0)
    rwa [World.size_alloc] at this
  have hH2 : Blk w2 w1.heap.size 64 [.int .i64 n, (.slice va vl vc), .int .i64 e, (.slice ia il ic)] := by
    rw [hw2]; exact (blk4 _ _ _ _).alloc _
  have hBw2 := bcat BG.bel hB1 BG.bel.size
  have hR2 := blk_below BG.res hB1
  have hT2 := hT.below hBw2
  have hGA2 : GA w2 n (.slice va vl vc) e (.slice ia il ic) zs := ⟨hg, hv.below hBw2, (hSI.below hb2).sl⟩
  obtain ⟨t0, t1, _, _⟩ := hF1.two
  obtain ⟨_, h0, h1, h2, h3, _⟩ := Four.mk' hH2
  have hx2 := blk_below BG.box hB1
  have HZ1 := hide (Nat.le_trans HZ0.out hb1.size)
  have HZ2 := hide hb2.size
  rw [hw2] at t0 t1 h0 h1 h2 h3
  go_wp2_with fail
  rw [← hw2]
  clear hw2 t0 t1 h0 h1 h2 h3
  refine (norm_ok n _ _ zs e (pset l0) w2 hGA2 hT2).mono ?_
  rintro x w3 ⟨rfl, hb3⟩
  go_wp2_with fail
  refine (list_ok n (norq n zs e (pset l0)) w3 hg.tab.le (hT2.below hb3)).mono ?_
  rintro x w4 ⟨r, rfl, hr, hb4⟩
  have hb5 := bcat2 hb3 hb4
  have hB5 := bcat hBw2 hb5 hBw2.size
  obtain ⟨_, y0, y1, fy0, fy1, s0, s1⟩ := Two.mk' (blk_below hR2 hb5)
  have hr9 := hr.mono (show w.heap.size ≤ w3.heap.size from Nat.le_trans hBw2.size hb3.size)
  go_wp2
  exact bodyPost_ret (v := .tuple #[r, .agg #[.int .i64 0, .int .i64 0]]) (by simp [results, Tryd.results27, go_sem, y0, y1]) rfl ⟨_, rfl, hr9, hB5⟩
theorem nor_lst (n e : Nat) (v u : Value) (zs : List Int) (q : Nat → Bool) (w : World) (hv : Sl w v zs) (hg : IsGrp n zs e) (hu : Sl w u (li (lst n q))) (hT : Tab w) (hs : subT n zs e q = true) :
    Calls Tryd.prog 27 #[.agg #[.int .i64 n, v], u] w fun x w' => ∃ (a : Option Addr) (c : Nat), x = .returned (.tuple #[.slice a (lst n (norq n zs e q)).length c, .agg #[.int .i64 0, .int .i64 0]]) ∧ Sl w' (.slice a (lst n (norq n zs e q)).length c) (li (lst n (norq n zs e q))) ∧ Below w.heap.size w w' := by
  have h := nor_good n e v u zs (li (lst n q)) w hv hg hu hT (lst_fault n q) ((subT_congr hg fun a ha => pset_lst ha).trans hs)
  have h1 : lst n (norq n zs e (pset (li (lst n q)))) = lst n (norq n zs e q) := lst_congr fun a _ => by
    have h1 : lst n (pset (li (lst n q))) = lst n q := lst_pset n q
    have h2 : bs (pset (li (lst n q))) n = bs q n := bs_ext fun a ha => pset_lst ha
    unfold norq cjq
    rw [h1, h2]
  rw [h1] at h
  refine h.mono ?_
  rintro x w1 ⟨r, rfl, hr, hb⟩
  have hr := hr.sl
  obtain ⟨a, c, _, _, rfl, _⟩ := id hr
  rw [li_len] at hr ⊢
  exact ⟨a, c, rfl, hr, hb⟩
end Go.Proofs.YtolbpjjjoafkkaaDoor

namespace Go.Proofs.YtolbpjjjoafkkaaDoor
variable {n e : Nat} {zs : List Int} {s : Nat → Bool}

theorem last_of {P : Nat → Prop} (h0 : P 0) : ∀ K, ¬ P K → ∃ i, i < K ∧ P i ∧ ¬ P (i + 1)
  | 0, h => absurd h0 h
  | K + 1, h => by
    by_cases hK : P K
    · exact ⟨K, by omega, hK, h⟩
    · obtain ⟨i, h1, h2, h3⟩ := last_of h0 K hK
      exact ⟨i, by omega, h2, h3⟩
theorem one_only (g : IsGrp n zs e) {q : Nat → Bool} (he : q e = true) (h1 : (lst n q).length = 1) {x : Nat} (hx : x < n) (hq : q x = true) : x = e := by
  obtain ⟨d, hd⟩ := List.length_eq_one_iff.1 h1
  have m1 : e ∈ lst n q := mem_lst.2 ⟨g.elt, he⟩
  have m2 : x ∈ lst n q := mem_lst.2 ⟨hx, hq⟩
  rw [hd, List.mem_singleton] at m1 m2
  rw [m1, m2]
theorem two_of (g : IsGrp n zs e) {q : Nat → Bool} (he : q e = true) (h1 : (lst n q).length ≠ 1) : ∃ x, x < n ∧ x ≠ e ∧ q x = true := by
  refine Classical.byContradiction fun h => h1 ?_
  have h2 : lst n q = lst n (fun a => decide (a = e)) := lst_congr fun x hx => by
    rw [Bool.eq_iff_iff, decide_eq_true_eq]
    exact ⟨fun h3 => Classical.byContradiction fun h4 => h ⟨x, hx, h4, h3⟩, fun h3 => by rw [h3]; exact he⟩
  rw [h2, one_lst g.elt]
  rfl
theorem more_of (g : IsGrp n zs e) {q : Nat → Bool} (he : q e = true) {x : Nat} (hx : x < n) (hne : x ≠ e) (hq : q x = true) : 1 < (lst n q).length := by
  have h1 := List.length_pos_of_mem (mem_lst.2 ⟨g.elt, he⟩)
  refine Classical.byContradiction fun h => hne (one_only g he (by omega) hx hq)
theorem cm_flip (g : IsGrp n zs e) {a b : Nat} (ha : a < n) (hb : b < n) : tm n zs (Fin.cm (tm n zs) (iv n zs e) a b) (Fin.cm (tm n zs) (iv n zs e) b a) = e := by
  have F := grp_fg g
  have V := grp_iv g
  have ha' := List.mem_range.2 ha
  have hb' := List.mem_range.2 hb
  have c1 := Fin.cm_mem F V ha' hb'
  have c2 := Fin.cm_mem F V hb' ha'
  have hba := F.cl _ _ hb' ha'
  refine F.can hba (F.cl _ _ c1 c2) F.one ?_
  rw [← F.ass _ _ _ hba c1 c2, Fin.cm_eq F V ha' hb', Fin.cm_eq F V hb' ha', F.right _ hba]
theorem cj_cm (g : IsGrp n zs e) {a b : Nat} (ha : a < n) (hb : b < n) : Fin.cj (tm n zs) (iv n zs e) a b = tm n zs a (Fin.cm (tm n zs) (iv n zs e) a b) := by
  have F := grp_fg g
  have V := grp_iv g
  have ha' := List.mem_range.2 ha
  have hcj := Fin.cj_mem F V ha' (List.mem_range.2 hb)
  rw [cm_as g ha hb, ← F.ass _ _ _ ha' (V a ha').1 hcj, (V a ha').2.1, F.left _ hcj]
/-- The lower series. -/
noncomputable abbrev lo (n : Nat) (zs : List Int) (e i : Nat) : Nat → Bool := itr (fun q => cmb n zs e q fun _ => true) (fun _ => true) i
theorem lo_up (g : IsGrp n zs e) {i a b : Nat} (ha : a < n) (hb : b < n) (h : lo n zs e i a = true) : lo n zs e (i + 1) (Fin.cm (tm n zs) (iv n zs e) a b) = true := cmb_base g ha hb h rfl
theorem nil_grows (g : IsGrp n zs e) {K : Nat} (hin : ∀ i, i ≤ K → Nsg n zs e (lo n zs e i)) (hK : (lst n (lo n zs e K)).length = 1) (hs : subT n zs e s = true) (hno : (lst n s).length ≠ n) : (lst n s).length < (lst n (norq n zs e s)).length := by
  have F := grp_fg g
  have V := grp_iv g
  have S := subT_iff.1 hs
  have h0 : ∃ x, x < n ∧ lo n zs e 0 x = true ∧ ¬ s x = true := Classical.byContradiction fun h => hno (by
    have h1 : lst n s = lst n (fun _ => true) := lst_congr fun x hx => by
      rw [Bool.eq_iff_iff]
      exact ⟨fun _ => rfl, fun _ => Classical.byContradiction fun h2 => h ⟨x, hx, rfl, h2⟩⟩
    rw [h1]
    unfold lst
    rw [List.filter_eq_self.2 (fun _ _ => rfl), List.length_range])
  obtain ⟨i, hi, ⟨x, hx, h1, h2⟩, h3⟩ := last_of (P := fun i => ∃ x, x < n ∧ lo n zs e i x = true ∧ ¬ s x = true) h0 K (by
    rintro ⟨x, hx, h1, h2⟩
    rw [one_only g (hin K (Nat.le_refl _)).sg.one hK hx h1] at h2
    exact h2 S.one)
  have hin1 : ∀ y, y < n → lo n zs e (i + 1) y = true → s y = true := fun y hy h4 => Classical.byContradiction fun h5 => h3 ⟨y, hy, h4, h5⟩
  have key : ∀ z, z < n → lo n zs e i z = true → ∀ y, y ∈ List.range n → s y = true → s (Fin.cj (tm n zs) (iv n zs e) y z) = true := fun z hz hl y hy hsy => by
    have hyl := List.mem_range.1 hy
    have c1 := cm_lt g hz hyl
    have c2 := cm_lt g hyl hz
    have h5 := hin1 _ c1 (lo_up g hz hyl hl)
    have h6 : s (Fin.cm (tm n zs) (iv n zs e) y z) = true := S.inv F (List.mem_range.2 c1) (List.mem_range.2 c2) (cm_flip g hz hyl) h5
    rw [cj_cm g hyl hz]
    exact S.mul _ _ hy (List.mem_range.2 c2) hsy h6
  have hx' := List.mem_range.2 hx
  have hL := (hin i (by omega)).sg
  have hxi := hL.inv F hx' (V x hx').1 (V x hx').2.1 h1
  refine (lst_less (fun y hy h4 => (nor_iff y).2 (Fin.nor_sub F V S (List.mem_range.2 hy) h4))).2 ⟨x, hx, (nor_iff x).2 (Fin.nor_of F V hx' (key x hx h1) (key _ (List.mem_range.1 (V x hx').1) hxi)), h2⟩
theorem nil_meets (g : IsGrp n zs e) {K : Nat} {c : Nat → Bool} (hin : ∀ i, i ≤ K → Nsg n zs e (lo n zs e i)) (hK : (lst n (lo n zs e K)).length = 1) (hc : Nsg n zs e c) (hno : (lst n c).length ≠ 1) : 1 < (lst n (fun a => c a && cenq n zs (fun _ => true) a)).length := by
  have F := grp_fg g
  have V := grp_iv g
  obtain ⟨x0, hx0, hne0, hc0⟩ := two_of g hc.sg.one hno
  obtain ⟨i, hi, ⟨x, hx, hne, h1, h2⟩, h3⟩ := last_of (P := fun i => ∃ x, x < n ∧ x ≠ e ∧ c x = true ∧ lo n zs e i x = true) ⟨x0, hx0, hne0, hc0, rfl⟩ K (by
    rintro ⟨x, hx, h1, h2, h3⟩
    exact h1 (one_only g (hin K (Nat.le_refl _)).sg.one hK hx h3))
  have hcen : ∀ x, x < n → (∀ y, y < n → tm n zs x y = tm n zs y x) → cenq n zs (fun _ => true) x = true := fun x _ h => by
    unfold cenq
    rw [List.all_eq_true]
    exact fun y hy => decide_eq_true (h y (mem_lst.1 hy).1)
  refine more_of g ?_ hx hne ?_
  · rw [Bool.and_eq_true]
    exact ⟨hc.sg.one, hcen e g.elt fun y hy => by rw [F.left y (List.mem_range.2 hy), F.right y (List.mem_range.2 hy)]⟩
  · rw [Bool.and_eq_true]
    refine ⟨h1, hcen x hx fun y hy => (Fin.cm_one F V (List.mem_range.2 hx) (List.mem_range.2 hy)).1 ?_⟩
    exact Classical.byContradiction fun h4 => h3 ⟨_, cm_lt g hx hy, h4, hc.cm_in g hx hy h1, lo_up g hx hy h2⟩
theorem clo_nsg (g : IsGrp n zs e) {q p : Nat → Bool} (hp : ∀ a, a < n → (p a = true ↔ Mkd n zs e (cloq n zs e q n) a)) : Nsg n zs e p := by
  have F := grp_fg g
  have V := grp_iv g
  refine ⟨made_sg g hp, fun x a hx ha h => ?_⟩
  have hm := Fin.cj_mem F V hx ha
  exact (hp _ (List.mem_range.1 hm)).2 ((mkd_clo _).2 (Fin.clos_nm F V x a hx ha ((mkd_clo _).1 ((hp x (List.mem_range.1 hx)).1 h))))
end Go.Proofs.YtolbpjjjoafkkaaDoor

namespace Go.Proofs.YtolbpjjjoafkkaaDoor
open Go Go.RowKit

section
variable {n e : Nat} {zs : List Int} {q r : Nat → Bool}
noncomputable abbrev dr (n : Nat) (zs : List Int) (e i : Nat) : Nat → Bool := itr (fun q => cmb n zs e q q) (fun _ => true) i
theorem Nsg.der (g : IsGrp n zs e) (h : Nsg n zs e q) : Nsg n zs e (cmb n zs e q q) := by
  have F := grp_fg g
  have V := grp_iv g
  refine ⟨cmb_sg g, fun x a hx ha h1 => ?_⟩
  have hm := Fin.cj_mem F V hx ha
  refine (cmb_iff n zs e q _ _ (List.mem_range.1 hm)).2 ?_
  refine Fin.gen_nm F V (X := fun y => cmq n zs e (lst n q) (lst n q) y = true) (fun y b hy hb h2 => ?_) x a hx ha ((cmb_iff n zs e q _ x (List.mem_range.1 hx)).1 h1)
  obtain ⟨c, d, hc, hd, h3, h4, rfl⟩ := cmq_iff.1 h2
  have hc' := List.mem_range.2 hc
  have hd' := List.mem_range.2 hd
  rw [Fin.cm_cj F V hc' hd' hb]
  exact cmq_iff.2 ⟨_, _, List.mem_range.1 (Fin.cj_mem F V hc' hb), List.mem_range.1 (Fin.cj_mem F V hd' hb), h.nm c b hc' hb h3, h.nm d b hd' hb h4, rfl⟩
theorem dr_nsg (g : IsGrp n zs e) : ∀ i, Nsg n zs e (dr n zs e i)
  | 0 => Nsg.all
  | i + 1 => (dr_nsg g i).der g
theorem dr_lo (g : IsGrp n zs e) : ∀ i x, x < n → dr n zs e i x = true → lo n zs e i x = true
  | 0, _, _, _ => rfl
  | i + 1, _, hx, h => cmb_in (cmb_sg (q := lo n zs e i) (r := fun _ => true) g) (fun _ _ ha hb h1 _ => cmb_base g ha hb (dr_lo g i _ ha h1) rfl) hx h
theorem cmb_congr {q q' : Nat → Bool} (h : bs q n = bs q' n) : bs (cmb n zs e q r) n = bs (cmb n zs e q' r) n := by
  have h1 : lst n q = lst n q' := lst_congr (bs_inj h)
  refine bs_ext fun a ha => ?_
  have h2 := cmb_iff n zs e q r a ha
  rw [h1] at h2
  rw [Bool.eq_iff_iff]
  exact h2.trans (cmb_iff n zs e q' r a ha).symm
theorem lo_stays {K : Nat} (h : bs (lo n zs e (K + 1)) n = bs (lo n zs e K) n) : ∀ j, bs (lo n zs e (K + j)) n = bs (lo n zs e K) n
  | 0 => rfl
  | j + 1 => (cmb_congr (r := fun _ => true) (lo_stays h j)).trans h
theorem dr_in (g : IsGrp n zs e) {K i k : Nat} (h : bs (lo n zs e (K + 1)) n = bs (lo n zs e K) n) (hk : (K + 1 ≤ i ∧ k = K) ∨ k = i) : ∀ x, x < n → dr n zs e i x = true → lo n zs e k x = true := fun x hx h1 => by
  have h2 := dr_lo g i x hx h1
  rcases hk with ⟨h3, rfl⟩ | rfl
  · have h4 := lo_stays h (i - k)
    rw [show k + (i - k) = i by omega] at h4
    rw [← bs_inj h4 x hx]
    exact h2
  · exact h2
end
/-- The headers of a row of lists. -/
theorem Rws.heads {W : World} {g : Nat} {rs : List (List Int)} (h : Rws W g rs) : ∃ vs : List Value, vs.length = rs.length ∧ (∀ (j : Nat) v, vs[j]? = some v → W.cell? ⟨g, j, none⟩ = some v) ∧ ∀ (j : Nat) v, vs[j]? = some v → ∃ a c, v = .slice a (rs[j]?.getD []).length c ∧ Sl W v (rs[j]?.getD []) := by
  refine ⟨(List.range rs.length).map fun j => (W.cell? ⟨g, j, none⟩).getD undef, by simp, fun j v hj => ?_, fun j v hj => ?_⟩
  all_goals (
    have hjl : j < rs.length := by
      have := (List.getElem?_eq_some_iff.1 hj).1
      simpa using this
    obtain ⟨a, c, h1, h2⟩ := h j hjl
    rw [List.getElem?_map, List.getElem?_range hjl, Option.map_some, h1, Option.getD_some] at hj
    have hj := Option.some.inj hj
    subst hj)
  · exact h1
  · exact ⟨a, c, rfl, h2⟩
/-- Headers of lists of normal subgroups. -/
def Hds (W : World) (n : Nat) (zs : List Int) (e : Nat) (vs : List Value) : Prop := ∀ v, v ∈ vs → ∃ a c q, v = .slice a (lst n q).length c ∧ Sl W (.slice a (lst n q).length c) (li (lst n q)) ∧ Nsg n zs e q
theorem Hds.below {W W' : World} {n e : Nat} {zs : List Int} {vs : List Value} (h : Hds W n zs e vs) (hb : Below W.heap.size W W') : Hds W' n zs e vs := fun v hv => by
  obtain ⟨a, c, q, h1, h2, h3⟩ := h v hv
  exact ⟨a, c, q, h1, h2.below hb, h3⟩
theorem Hds.append {W : World} {n e : Nat} {zs : List Int} {vs us : List Value} (h : Hds W n zs e vs) (k : Hds W n zs e us) : Hds W n zs e (vs ++ us) := fun v hv => by
  rcases List.mem_append.1 hv with h1 | h1
  · exact h v h1
  · exact k v h1
theorem Rws.hds {W : World} {g n e K : Nat} {zs : List Int} {f : Nat → Nat → Bool} (h : Rws W g (sls n f (K + 1))) (hN : ∀ i, i ≤ K → Nsg n zs e (f i)) : ∃ vs : List Value, vs.length = K + 1 ∧ (∀ (j : Nat) v, vs[j]? = some v → W.cell? ((⟨g, 0, none⟩ : Addr).add j) = some v) ∧ (∀ v, v ∈ vs → v.oneCell' = true) ∧ Hds W n zs e vs := by
  obtain ⟨vs, h1, h2, h3⟩ := h.heads
  rw [sls_len] at h1
  have key : ∀ v, v ∈ vs → ∃ a c q, v = .slice a (lst n q).length c ∧ Sl W (.slice a (lst n q).length c) (li (lst n q)) ∧ Nsg n zs e q := fun v hv => by
    obtain ⟨j, hj, rfl⟩ := List.mem_iff_getElem.1 hv
    obtain ⟨a, c, h4, h5⟩ := h3 j _ (List.getElem?_eq_getElem hj)
    rw [sls_at (by omega), li_len] at h4
    rw [sls_at (by omega)] at h5
    rw [h4] at h5
    exact ⟨a, c, _, h4, h5, hN j (by omega)⟩
  refine ⟨vs, h1, fun j v hj => ?_, fun v hv => ?_, key⟩
  · rw [show (⟨g, 0, none⟩ : Addr).add j = ⟨g, j, none⟩ by unfold Addr.add; split <;> simp_all]
    exact h2 j v hj
  · obtain ⟨a, c, q, rfl, _⟩ := key v hv
    simp [Value.oneCell']
/-- What Normal left there. -/
def NR (wr : World) (s11 s12 : Value) (wx : World) : Prop := ∃ b : Nat, s11 = .bool true ∧ s12 = .pointer (some ⟨b, 0, none⟩) ∧ Blk wx b 27 [.int .i64 0, .int .i64 0] ∧ Below wr.heap.size wr wx
theorem nr_new {wr U : World} (hB : Below wr.heap.size wr U) : NR wr (.bool true) (.pointer (some ⟨U.heap.size, 0, none⟩)) (U.alloc (.cells #[.int .i64 0, .int .i64 0] 27)) := ⟨_, rfl, rfl, blk0 _ _, bcat2 hB (balloc _ _)⟩
theorem nr_put {wr U : World} {b : Nat} (hB : Below wr.heap.size wr U) (hp : Blk U b 27 [.int .i64 0, .int .i64 0]) : NR wr (.bool true) (.pointer (some ⟨b, 0, none⟩)) ((U.setCell ⟨b, 0, none⟩ (.int .i64 0)).setCell ⟨b, 1, none⟩ (.int .i64 0)) := by
  obtain ⟨h0, h1, _, _⟩ := hp.two
  rw [store_same h0 h1]
  exact ⟨b, rfl, rfl, hp, hB⟩
end Go.Proofs.YtolbpjjjoafkkaaDoor

namespace Go.Proofs.YtolbpjjjoafkkaaDoor
variable {n e p : Nat} {zs : List Int} {s : Nat → Bool} {A : List Nat} {ms : List (List Int)}

/-- Is the order of a thing a power of p? -/
noncomputable def pwt (n : Nat) (zs : List Int) (e p a : Nat) : Bool := @decide (isPw (ordN n zs e a) p) (Classical.propDecidable _)
theorem pwt_iff {a : Nat} : pwt n zs e p a = true ↔ isPw (ordN n zs e a) p := by unfold pwt; simp
theorem SylA.size (HA : SylA n zs e p s A ms) (g : IsGrp n zs e) {j : Nat} (hj : j < ms.length) : (ms[j]?.getD []).length = (lst n s).length := by
  obtain ⟨a, ha, h⟩ := HA.one hj
  rw [h, li_len, cj_len g (HA.lt a ha)]
theorem SylA.in_one (HA : SylA n zs e p s A ms) {q : Nat → Bool} {a : Nat} (ha : a < n) (h : ∀ x, x < n → q x = true → cjq n zs e s a x = true) : ∃ j b, j < ms.length ∧ b ∈ A ∧ ms[j]?.getD [] = li (lst n (cjq n zs e s b)) ∧ ∀ x, x < n → q x = true → cjq n zs e s b x = true := by
  obtain ⟨b, hb, h1⟩ := List.mem_map.1 (HA.all a ha)
  have h2 : li (lst n (cjq n zs e s b)) ∈ ms := HA.pm.mem_iff.2 (List.mem_map.2 ⟨b, hb, rfl⟩)
  obtain ⟨j, hj, h3⟩ := List.mem_iff_getElem.1 h2
  refine ⟨j, b, hj, hb, by rw [List.getElem?_eq_getElem hj, Option.getD_some, h3], fun x hx hq => ?_⟩
  rw [bs_inj h1 x hx]
  exact h x hx hq
theorem SylA.holds (HA : SylA n zs e p s A ms) (g : IsGrp n zs e) (hpr : primeB p = true) {q : Nat → Bool} (hq : subT n zs e q = true) (hpw : isPw (lst n q).length p) : ∃ j b, j < ms.length ∧ b ∈ A ∧ ms[j]?.getD [] = li (lst n (cjq n zs e s b)) ∧ ∀ x, x < n → q x = true → cjq n zs e s b x = true := by
  obtain ⟨c, a, _, ha, _, h⟩ := syl_in g hpr HA.gr HA.nd HA.hX hq hpw
  exact HA.in_one ha h
theorem SylA.has (HA : SylA n zs e p s A ms) (g : IsGrp n zs e) (hpr : primeB p = true) {a : Nat} (ha : a < n) (h : isPw (ordN n zs e a) p) : ∃ j, j < ms.length ∧ (a : Int) ∈ ms[j]?.getD [] := by
  obtain ⟨j, b, hj, hb, h1, h2⟩ := HA.holds g hpr (q := mk1 n zs e a) (subT_iff.2 (made_sg g (mk1_iff n zs e a))) (by rw [mk1_len g ha]; exact h)
  refine ⟨j, hj, ?_⟩
  rw [h1]
  exact mem_li.2 (mem_lst.2 ⟨ha, h2 a ha ((mk1_iff n zs e a a ha).2 (Fin.Gen.base (List.mem_range.2 ha) (by simp)))⟩)
theorem SylA.cnt (HA : SylA n zs e p s A ms) (g : IsGrp n zs e) (hpr : primeB p = true) : (lst n s).length ∣ (lst n (pwt n zs e p)).length := by
  have hp := prime_of hpr
  obtain ⟨v, hn, hnd⟩ := syl_len g hpr HA.gr HA.nd HA.hX
  obtain ⟨k, hk⟩ := HA.gr.pow
  rw [hk] at hn ⊢
  have hfr := Fin.frob _ _ _ _ (grp_fg g) List.length_range (p ^ k) ⟨_, by rw [Nat.mul_comm]; exact hn⟩
  have hsame : (List.range n).filter (fun x => decide (Fin.po (tm n zs) e x (p ^ k) = e)) = lst n (pwt n zs e p) := Fin.filter_eq fun x hx => by
    have hxl := List.mem_range.1 hx
    rw [Bool.eq_iff_iff, decide_eq_true_eq, pwt_iff, ord_iff g hxl]
    constructor
    · exact fun h => dvd_pw hp k _ h
    · rintro ⟨j, hj⟩
      rw [hj]
      refine pp_dvd hp hnd ?_
      rw [← hn, ← hj, ← mk1_len g hxl]
      exact sub_dvd g (subT_iff.2 (made_sg g (mk1_iff n zs e x)))
  unfold Fin.cnt at hfr
  rw [hsame] at hfr
  exact hfr
theorem lst_up {q : Nat → Bool} {k : Nat} : (lst (k + 1) q).length = (lst k q).length + (if q k = true then 1 else 0) := by
  unfold lst
  rw [List.range_succ, List.filter_append, List.length_append]
  by_cases h : q k = true
  · simp [h]
  · simp [h]
end Go.Proofs.YtolbpjjjoafkkaaDoor

namespace Go.Proofs.YtolbpjjjoafkkaaDoor
open Go Go.RowKit

set_option maxRecDepth 100000 in
set_option maxHeartbeats 8000000 in
theorem shol_bad (N p : Int) (v1 : Option Addr) (v2 v3 : Nat) (u1 : Option Addr) (u2 u3 : Nat) (zs : List Int) (w : World) (hv : Sl w (.slice v1 v2 v3) zs) (hT : Tab w) (hc : (pfault N zs p).1 ≠ 0) :
    Calls Tryd.prog 4 #[.agg #[.int .i64 N, .slice v1 v2 v3], .int .i64 p, .slice u1 u2 u3] w fun e w' => e = .returned (.bool true) ∧ Below w.heap.size w w' := by
  have HOP := hide (fun W (h : Below w.heap.size w W) => sopen_any N p (.slice v1 v2 v3) zs W (hv.below h) hc)
  have HAL := hide (fun W (h : Below w.heap.size w W) => sall_bad N p _ _ (.slice v1 v2 v3) W hc (fun W9 h9 => HOP.out W9 (bcat2 h h9)))
  have HPF := hide (fun W (h : Below w.heap.size w W) => pf_ok N p (.slice v1 v2 v3) zs W (hv.below h))
  generalize pfault N zs p = pf at *
  obtain ⟨c, i⟩ := pf
  simp only at hc HAL HPF
  have hcb : (c != 0) = true := by simpa using hc
  have hB0 : Below w.heap.size w (w.alloc (.cells #[.int .i64 N, .slice v1 v2 v3] 24)) := balloc w _
  have hX0 : BoxG (w.alloc (.cells #[.int .i64 N, .slice v1 v2 v3] 24)) w.heap.size N (.slice v1 v2 v3) := blk0 (w := w) (T := 24) _ _
  go_enter Tryd.func4, Tryd.ntmps4
  go_wp2_with fail
  generalize w.alloc (.cells #[.int .i64 N, .slice v1 v2 v3] 24) = w0 at *
  refine (sylowBegun_any _ (hT.below hB0)).mono ?_
  rintro x w1 ⟨rfl, hb1⟩
  have hB1 := bcat2 hB0 hb1
  have hX1 := blk_below hX0 hb1
  obtain ⟨c0, c1, _, _⟩ := hX1.two
  go_wp2_with fail
  clear c0 c1
  refine (HAL.out _ hB1).mono ?_
  rintro x w2 ⟨rfl, hb2⟩
  obtain ⟨w3, hw3⟩ : ∃ w3, w3 = w2.alloc (.cells #[.int .i64 c, .int .i64 i] 27) := ⟨_, rfl⟩
  have hb3 : Below w2.heap.size w2 w3 := by rw [hw3]; exact balloc w2 _
  have hF3 : Blk w3 w2.heap.size 27 [.int .i64 c, .int .i64 i] := by rw [hw3]; exact blk0 _ _
  have hB3 := bcat2 hB1 (bcat2 hb2 hb3)
  have hX3 := blk_below hX1 (bcat2 hb2 hb3)
  obtain ⟨c0, c1, _, _⟩ := hX3.two
  obtain ⟨f0, f1, _, _⟩ := hF3.two
  rw [hw3] at c0 c1 f0 f1
  go_wp2_with fail
  rw [← hw3]
  clear hw3 c0 c1 f0 f1
  refine (HPF.out _ hB3).mono ?_
  rintro x w6 ⟨rfl, hb6⟩
  have hB6 := bcat2 hB3 hb6
  have hfld : ∀ W, Sem.run Tryd.prog (Instr.field 27 (.agg #[.int .i64 c, .int .i64 i]) 0) W = .ok (.int .i64 c) W := fun W => by kernel_rfl
  go_wp2
  go_ret
  exact ⟨by simp, hB6⟩
theorem all_part {n : Nat} {q r : Nat → Bool} : ((li (lst n q)).all fun a => decide (a ∈ li (lst n r))) = true ↔ ∀ x, x < n → q x = true → r x = true := by
  constructor
  · intro h x hx hq
    have h1 := List.all_eq_true.1 h (x : Int) (mem_li.2 (mem_lst.2 ⟨hx, hq⟩))
    exact (mem_lst.1 (mem_li.1 (of_decide_eq_true h1))).2
  · exact fun h => part_lst h
set_option maxRecDepth 100000 in
set_option maxHeartbeats 8000000 in
theorem shol_good (n e p : Nat) (v1 : Option Addr) (v2 v3 : Nat) (u1 : Option Addr) (u2 u3 : Nat) (zs ls : List Int) (w : World) (hv : Sl w (.slice v1 v2 v3) zs) (hu : Sl w (.slice u1 u2 u3) ls) (hg : IsGrp n zs e) (hT : Tab w) (hpr : primeB p = true) :
    Calls Tryd.prog 4 #[.agg #[.int .i64 n, .slice v1 v2 v3], .int .i64 p, .slice u1 u2 u3] w fun e w' => e = .returned (.bool true) ∧ Below w.heap.size w w' := by
  have hp2 : 2 ≤ p ∧ p ≤ 100 := by
    have := of_decide_eq_true hpr
    omega
  have hn := hg.tab.le
  have HAL := hide (fun W (h : Below w.heap.size w W) => sall_nice n e p (.slice v1 v2 v3) zs W (hv.below h) hg (hT.below h) hpr)
  have HNR := hide (fun W (u : Value) (q : Nat → Bool) (h : Below w.heap.size w W) (hu : Sl W u (li (lst n q))) (hs : subT n zs e q = true) => nor_lst n e (.slice v1 v2 v3) u zs q W (hv.below h) hg hu (hT.below h) hs)
  have hB0 : Below w.heap.size w (w.alloc (.cells #[.int .i64 n, .slice v1 v2 v3] 24)) := balloc w _
  have hX0 : BoxG (w.alloc (.cells #[.int .i64 n, .slice v1 v2 v3] 24)) w.heap.size n (.slice v1 v2 v3) := blk0 (w := w) (T := 24) _ _
  go_enter Tryd.func4, Tryd.ntmps4
  go_wp2_with fail
  generalize w.alloc (.cells #[.int .i64 n, .slice v1 v2 v3] 24) = w0 at *
  refine (sylowBegun_any _ (hT.below hB0)).mono ?_
  rintro x w1 ⟨rfl, hb1⟩
  have hB1 := bcat2 hB0 hb1
  have hX1 := blk_below hX0 hb1
  obtain ⟨c0, c1, _, _⟩ := hX1.two
  go_wp2_with fail
  clear c0 c1
  refine (HAL.out _ hB1).mono ?_
  rintro x w2 ⟨lg, lc, s, A, ms, rfl, HA, hR2, hb2⟩
  have hpos := HA.pos hg.elt
  have hfit := HA.fits
  obtain ⟨w3, hw3⟩ : ∃ w3, w3 = w2.alloc (.cells #[.int .i64 0, .int .i64 0] 27) := ⟨_, rfl⟩
  have hb3 : Below w2.heap.size w2 w3 := by rw [hw3]; exact balloc w2 _
  have hF3 : Blk w3 w2.heap.size 27 [.int .i64 0, .int .i64 0] := by rw [hw3]; exact blk0 _ _
  have hB3 := bcat2 hB1 (bcat2 hb2 hb3)
  have hX3 := blk_below hX1 (bcat2 hb2 hb3)
  have hR3 := hR2.below hb3
  obtain ⟨c, hcA, hms0⟩ := HA.one hpos
  have hcn := HA.lt c hcA
  have hsubc := cj_sg hg HA.gr.sub hcn
  have hnor := syl_nor hg HA.nd HA.hX hcn
  rw [List.length_map, ← HA.len] at hnor
  have HHO := hide (fun (q : Nat → Bool) (hq : subT n zs e q = true) (hpw : isPw (lst n q).length p) => HA.holds hg hpr hq hpw)
  have HONE := hide (fun j (hj : j < ms.length) => HA.one hj)
  obtain ⟨m1, m3, hm0, hmS⟩ := hR3 0 hpos
  rw [hms0] at hm0 hmS
  have HM := hide (fun W (h : Below w3.heap.size w3 W) => HNR.out W _ (cjq n zs e s c) (bcat2 hB3 h) (hmS.below h) hsubc)
  clear HAL HA HNR hR2 hX0 hX1 hmS
  generalize (li (lst n (cjq n zs e s c))).length = Lc at *
  have hnl := lst_len n (norq n zs e (cjq n zs e s c))
  generalize (lst n (norq n zs e (cjq n zs e s c))).length = Ln at *
  have hmul : (Ln : Int) * (ms.length : Int) = (n : Int) := by
    have h9 : ((ms.length * Ln : Nat) : Int) = (n : Int) := by rw [← hnor]
    rw [Int.natCast_mul, Int.mul_comm] at h9
    exact h9
  clear hnor
  obtain ⟨c0, c1, _, _⟩ := hX3.two
  obtain ⟨f0, f1, _, _⟩ := hF3.two
  have hlt : ¬ ((ms.length : Int) < 1) := by omega
  rw [hw3] at c0 c1 f0 f1
  go_wp2_with fail
  rw [← hw3] at c0 c1 f0 f1 ⊢
  clear hw3
  have hS : ∀ W9, Below w3.heap.size w3 W9 → (Below w3.heap.size w3 W9 ∧ W9.cell? ⟨w.heap.size, 0, none⟩ = some (.int .i64 n) ∧ W9.cell? ⟨w.heap.size, 1, none⟩ = some (.slice v1 v2 v3) ∧ W9.cell? ⟨lg, 0, none⟩ = some (.slice m1 Lc m3) ∧ W9.cell? ⟨w2.heap.size, 0, none⟩ = some (.int .i64 0) ∧ W9.cell? ⟨w2.heap.size, 1, none⟩ = some (.int .i64 0)) := fun W9 h => ⟨h, below_cell h c0, below_cell h c1, below_cell h hm0, below_cell h f0, below_cell h f1⟩
  have hS0 := hS _ (bdrew (Below.refl _ w3))
  have hbox := hF3
  go_cut [9] (fun s9 wx => ∃ (a : Option Addr) (cc : Nat), s9 = .slice a Ln cc ∧ Below w3.heap.size w3 wx)
  case first =>
    clear c0 c1 f0 f1 hm0 hF3 hX3 hR3 hmul
    go_region_held3 (fun W9 => Below w3.heap.size w3 W9 ∧ W9.cell? ⟨w.heap.size, 0, none⟩ = some (.int .i64 n) ∧ W9.cell? ⟨w.heap.size, 1, none⟩ = some (.slice v1 v2 v3) ∧ W9.cell? ⟨lg, 0, none⟩ = some (.slice m1 Lc m3) ∧ W9.cell? ⟨w2.heap.size, 0, none⟩ = some (.int .i64 0) ∧ W9.cell? ⟨w2.heap.size, 1, none⟩ = some (.int .i64 0))
      (first | exact hS0 | assumption | exact hS _ (bcat2 (And.left ‹_›) hl5) | (rw [store_same u0 u1]; exact hS _ hU5))
      (first | (go_at_call 27; refine (HM.out _ (And.left ‹_›)).mono ?_; rintro e5 U5 ⟨na, nc, rfl, _, hl5⟩; have hU5 := bcat2 (And.left ‹_›) hl5; have hbu := blk_below hbox hU5; obtain ⟨u0, u1, _, _⟩ := hbu.two))
    all_goals (go_wp2; go_meet)
    all_goals (rw [store_same u0 u1]; exact ⟨na, nc, rfl, hU5⟩)
  case rest =>
    obtain ⟨na, nc, rfl, hbx⟩ := hcut
    have hX6 := blk_below hX3 hbx
    have hF6 := blk_below hF3 hbx
    have hB6 := bcat2 hB3 hbx
    clear c0 c1 f0 f1 hm0 hS hS0 HM hbox
    obtain ⟨c0, c1, _, _⟩ := hX6.two
    obtain ⟨f0, f1, _, _⟩ := hF6.two
    by_cases hlf : (lfault n ls).1 = 0
    · obtain ⟨_, _, h1, _, hl0, _⟩ := sfault_zero (N := n) (zs := zs) (ls := ls) (by rw [sfault_l hg]; exact hlf)
      have h1 := Int.ofNat.inj h1
      subst h1
      clear hlf
      obtain ⟨q, hq⟩ := mkd_ex' n zs e (pset ls)
      have hsq : subT n zs e q = true := subT_iff.2 (made_sg hg hq)
      have HMG := hide (mde_good n e (.slice v1 v2 v3) (.slice u1 u2 u3) zs ls q wc (hv.below hB6) hg (hu.below hB6) (hT.below hB6) hl0 hq)
      clear hq hl0
      have hq1 : 1 ≤ (lst n q).length := (Fin.sg_fg (grp_fg hg) (subT_iff.1 hsq)).pos
      have hq2 := lst_len n q
      go_wp2_with fail
      clear c0 c1 f0 f1
      refine HMG.out.mono ?_
      rintro x w7 ⟨r, rfl, hr, hb7⟩
      have hr := hr.sl
      obtain ⟨Lr, hLr⟩ : ∃ Lr, Lr = li (lst n q) := ⟨_, rfl⟩
      rw [← hLr] at hr
      have hLl : Lr.length = (lst n q).length := by rw [hLr, li_len]
      have HLR := hide hLr
      clear hLr
      obtain ⟨ra, rc, _, _, rfl, _⟩ := id hr
      have hF7 := blk_below hF6 hb7
      have hbx7 := bcat2 hbx hb7
      obtain ⟨f0, f1, _, _⟩ := hF7.two
      have hst := store_same f0 f1
      have HPI := hide (powerIn_ok Lr.length p w7 (by omega) (by omega) hp2.1 hp2.2)
      have HLL := hide hLl
      clear hLl hq1 hq2
      go_wp2_with fail
      clear f0 f1 hst
      refine HPI.out.mono ?_
      rintro x w8 ⟨v, j, rfl, hvj, hnd, hb8⟩
      have hbx8 := bcat2 hbx7 hb8
      have hr8 := hr.below hb8
      by_cases hpw : p ^ j = Lr.length
      · obtain ⟨jj, b, hjj, hbA, hjm, hjs⟩ := HHO.out q hsq ⟨j, by rw [← HLL.out]; exact hpw.symm⟩
        have HJ := hide (all_part.2 hjs)
        rw [← HLR.out, ← hjm] at HJ
        clear hjs hjm
        rw [hpw]
        go_wp2_with fail
        go_loopw [11] (fun iv wr => ∃ i : Nat, i ≤ jj ∧ iv = .int .i64 i ∧ Sl wr (.slice ra Lr.length rc) Lr ∧ Below w3.heap.size w3 wr) (fun iv _ => ms.length - (intOf iv).toNat)
        case atStart => exact ⟨0, Nat.zero_le _, rfl, hr8, hbx8⟩
        case round =>
          clear hr8 hbx8 hr hb8 hb7 hbx7
          obtain ⟨i, hi, rfl, hrr, hbr⟩ := hrel
          have hii : (i : Int) < (ms.length : Int) := by omega
          obtain ⟨a1, a3, ha0, haS⟩ := (hR3.below hbr) i (by omega)
          have HPT := hide (parted_ok _ _ _ _ wr hrr haS)
          have HI := hide (fun h9 : i = jj => (h9 ▸ HJ.out : (Lr.all fun a => decide (a ∈ ms[i]?.getD [])) = true))
          generalize (Lr.all fun a => decide (a ∈ ms[i]?.getD [])) = bb at *
          generalize ms[i]?.getD [] = mt at *
          go_wp2_with fail
          refine HPT.out.mono ?_
          rintro x w9 ⟨rfl, rfl⟩
          cases bb with
          | true =>
            go_wp2
            go_ret
            exact ⟨rfl, bcat2 hB3 hbr⟩
          | false =>
            have hlj : i < jj := by
              rcases Nat.lt_or_eq_of_le hi with h9 | h9
              · exact h9
              · have := HI.out h9; cases this
            go_wp2
            go_roundw
            case rel => exact ⟨i + 1, by omega, by go_num, hrr, hbr⟩
            case measure => simp [intOf]; omega
      · have hne : (((p ^ j : Nat) : Int) != (Lr.length : Int)) = true := by
          have : ¬ ((p ^ j : Nat) : Int) = (Lr.length : Int) := by omega
          simpa using this
        generalize ((p ^ j : Nat) : Int) = m9 at *
        go_wp2
        go_ret
        exact ⟨rfl, bcat2 hB3 hbx8⟩
    · have HMB := hide (mde_bad n (.slice v1 v2 v3) (.slice u1 u2 u3) zs ls wc (hv.below hB6) (hu.below hB6) (by rw [sfault_l hg]; exact hlf))
      rw [sfault_l hg] at HMB
      generalize lfault n ls = lf at *
      obtain ⟨fc9, fi9⟩ := lf
      simp only at hlf HMB
      have hcb : (fc9 != 0) = true := by simpa using hlf
      go_wp2_with fail
      clear c0 c1 f0 f1
      refine HMB.out.mono ?_
      rintro x w7 ⟨rfl, hb7⟩
      have hF7 := blk_below hF6 hb7
      have hlo : w.heap.size ≤ w2.heap.size := by
        have := hB1.size
        have := hb2.size
        omega
      have hBz : Below w.heap.size w ((w7.setCell ⟨w2.heap.size, 0, none⟩ (.int .i64 fc9)).setCell ⟨w2.heap.size, 1, none⟩ (.int .i64 fi9)) := bSet (bSet (bcat2 hB6 hb7) hlo) hlo
      obtain ⟨f0, f1, _, _⟩ := hF7.two
      have hF8 := (hF7.set 0 (.int .i64 fc9)).set 1 (.int .i64 fi9)
      obtain ⟨g0, g1, _, _⟩ := hF8.two
      go_wp2
      go_ret
      exact ⟨rfl, hBz⟩
theorem shol_law (N p : Int) (v u : Value) (zs ls : List Int) (w : World) (hv : Sl w v zs) (hu : Sl w u ls) (hT : Tab w) :
    Calls Tryd.prog 4 #[.agg #[.int .i64 N, v], .int .i64 p, u] w fun e w' => e = .returned (.bool true) ∧ Below w.heap.size w w' := by
  obtain ⟨v1, v2, v3, rfl⟩ := hv.isSlice
  obtain ⟨u1, u2, u3, rfl⟩ := hu.isSlice
  by_cases hc : (pfault N zs p).1 = 0
  · obtain ⟨h1, hpr⟩ := pfault_good hc
    obtain ⟨n, e, rfl, hg, h0⟩ := gfault_grp h1
    have hb := of_decide_eq_true hpr
    obtain ⟨q, rfl⟩ : ∃ q : Nat, p = q := ⟨p.toNat, by omega⟩
    exact shol_good n e q v1 v2 v3 u1 u2 u3 zs ls w hv hu hg hT hpr
  · exact shol_bad N p v1 v2 v3 u1 u2 u3 zs w hv hT hc
end Go.Proofs.YtolbpjjjoafkkaaDoor

namespace Go.Proofs.YtolbpjjjoafkkaaDoor
open Go Go.RowKit

set_option maxRecDepth 100000 in
set_option maxHeartbeats 4000000 in
theorem snrm_bad (N : Int) (v1 : Option Addr) (v2 v3 : Nat) (zs : List Int) (w : World) (hv : Sl w (.slice v1 v2 v3) zs) (hT : Tab w) (hc : (gfault N zs).1 ≠ 0) :
    Calls Tryd.prog 11 #[.agg #[.int .i64 N, .slice v1 v2 v3]] w fun e w' => e = .returned (.bool true) ∧ Below w.heap.size w w' := by
  have HD := hide (fun W (h : Below w.heap.size w W) => sder_bad N (.slice v1 v2 v3) zs W (hv.below h) hc)
  have HL := hide (fun W (h : Below w.heap.size w W) => slow_bad N (.slice v1 v2 v3) zs W (hv.below h) hc)
  have HU := hide (fun W (h : Below w.heap.size w W) => sup_bad N (.slice v1 v2 v3) zs W (hv.below h) hc)
  have HF := hide (fun W (h : Below w.heap.size w W) => groupFault_any N (.slice v1 v2 v3) zs W (hv.below h))
  generalize gfault N zs = pf at *
  obtain ⟨c, i⟩ := pf
  simp only at hc HD HL HU HF
  have hcb : (c != 0) = true := by simpa using hc
  have hB0 : Below w.heap.size w (w.alloc (.cells #[.int .i64 N, .slice v1 v2 v3] 24)) := balloc w _
  have hX0 : BoxG (w.alloc (.cells #[.int .i64 N, .slice v1 v2 v3] 24)) w.heap.size N (.slice v1 v2 v3) := blk0 (w := w) (T := 24) _ _
  go_enter Tryd.func11, Tryd.ntmps11
  go_wp2_with fail
  generalize w.alloc (.cells #[.int .i64 N, .slice v1 v2 v3] 24) = w0 at *
  refine (seriesBegun_any _ (hT.below hB0)).mono ?_
  rintro x w1 ⟨rfl, hb1⟩
  have hB1 := bcat2 hB0 hb1
  have hX1 := blk_below hX0 hb1
  obtain ⟨c0, c1, _, _⟩ := hX1.two
  go_wp2_with fail
  clear c0 c1
  refine (HD.out _ hB1).mono ?_
  rintro x w2 ⟨rfl, hb2⟩
  obtain ⟨w3, hw3⟩ : ∃ w3, w3 = w2.alloc (.cells #[.int .i64 c, .int .i64 i] 27) := ⟨_, rfl⟩
  have hb3 : Below w2.heap.size w2 w3 := by rw [hw3]; exact balloc w2 _
  have hF3 : Blk w3 w2.heap.size 27 [.int .i64 c, .int .i64 i] := by rw [hw3]; exact blk0 _ _
  have hB3 := bcat2 hB1 (bcat2 hb2 hb3)
  have hX3 := blk_below hX1 (bcat2 hb2 hb3)
  obtain ⟨c0, c1, _, _⟩ := hX3.two
  rw [hw3] at c0 c1
  go_wp2_with fail
  rw [← hw3]
  clear hw3 c0 c1
  refine (HL.out _ hB3).mono ?_
  rintro x w4 ⟨rfl, hb4⟩
  obtain ⟨w5, hw5⟩ : ∃ w5, w5 = w4.alloc (.cells #[.int .i64 c, .int .i64 i] 27) := ⟨_, rfl⟩
  have hb5 : Below w4.heap.size w4 w5 := by rw [hw5]; exact balloc w4 _
  have hB5 := bcat2 hB3 (bcat2 hb4 hb5)
  have hX5 := blk_below hX3 (bcat2 hb4 hb5)
  have hF5 := blk_below hF3 (bcat2 hb4 hb5)
  obtain ⟨c0, c1, _, _⟩ := hX5.two
  rw [hw5] at c0 c1
  go_wp2_with fail
  rw [← hw5]
  clear hw5 c0 c1
  refine (HU.out _ hB5).mono ?_
  rintro x w6 ⟨rfl, hb6⟩
  obtain ⟨w7, hw7⟩ : ∃ w7, w7 = w6.alloc (.cells #[.int .i64 c, .int .i64 i] 27) := ⟨_, rfl⟩
  have hb7 : Below w6.heap.size w6 w7 := by rw [hw7]; exact balloc w6 _
  have hB7 := bcat2 hB5 (bcat2 hb6 hb7)
  have hX7 := blk_below hX5 (bcat2 hb6 hb7)
  have hF7 := blk_below hF5 (bcat2 hb6 hb7)
  obtain ⟨c0, c1, _, _⟩ := hX7.two
  obtain ⟨f0, f1, _, _⟩ := hF7.two
  rw [hw7] at c0 c1 f0 f1
  go_wp2_with fail
  rw [← hw7]
  clear hw7 c0 c1 f0 f1
  refine (HF.out _ hB7).mono ?_
  rintro x w8 ⟨rfl, hb8⟩
  have hfld : ∀ W, Sem.run Tryd.prog (Instr.field 27 (.agg #[.int .i64 c, .int .i64 i]) 0) W = .ok (.int .i64 c) W := fun W => by kernel_rfl
  go_wp2
  go_ret
  exact ⟨by simp, bcat2 hB7 hb8⟩
theorem own_form {w : World} {B n : Nat} {t : TypeId} {v : Value} {xs : List Value} (h : w.ownsRow B t 1 v n xs) (hn : 0 < n) : ∃ g c, v = .slice (some ⟨g, 0, none⟩) n c := by
  rcases h.2 with ⟨_, h2⟩ | ⟨g, cap, cur, h1, _⟩
  · omega
  · exact ⟨g, cap, h1⟩
set_option maxRecDepth 100000 in
set_option maxHeartbeats 8000000 in
theorem snrm_good (n e : Nat) (v1 : Option Addr) (v2 v3 : Nat) (zs : List Int) (w : World) (hv : Sl w (.slice v1 v2 v3) zs) (hg : IsGrp n zs e) (hT : Tab w) :
    Calls Tryd.prog 11 #[.agg #[.int .i64 n, .slice v1 v2 v3]] w fun e w' => e = .returned (.bool true) ∧ Below w.heap.size w w' := by
  have hn := hg.tab.le
  obtain ⟨i0, hi, hz0, hz1, hz2⟩ := info_parts info22b
  have HD := hide (fun W (h : Below w.heap.size w W) => sder_good n e (.slice v1 v2 v3) zs W (hv.below h) hg (hT.below h))
  have HL := hide (fun W (h : Below w.heap.size w W) => slow_good n e (.slice v1 v2 v3) zs W (hv.below h) hg (hT.below h))
  have HU := hide (fun W (h : Below w.heap.size w W) => sup_good n e (.slice v1 v2 v3) zs W (hv.below h) hg (hT.below h))
  have HNR := hide (fun W (u : Value) (q : Nat → Bool) (h : Below w.heap.size w W) (hu : Sl W u (li (lst n q))) (hs : Nsg n zs e q) => (show Calls Tryd.prog 33 #[.agg #[.int .i64 n, .slice v1 v2 v3], u] W fun x w' => x = .returned (.tuple #[.bool true, .agg #[.int .i64 0, .int .i64 0]]) ∧ Below W.heap.size W w' by
    have h9 := nrm_lst n e (.slice v1 v2 v3) u zs q W (hv.below h) hg hu (hT.below h) (subT_iff.2 hs.sg)
    rwa [(nrm_iff hg).2 hs.nm] at h9))
  have hB0 : Below w.heap.size w (w.alloc (.cells #[.int .i64 n, .slice v1 v2 v3] 24)) := balloc w _
  have hX0 : BoxG (w.alloc (.cells #[.int .i64 n, .slice v1 v2 v3] 24)) w.heap.size n (.slice v1 v2 v3) := blk0 (w := w) (T := 24) _ _
  go_enter Tryd.func11, Tryd.ntmps11
  go_wp2_with fail
  generalize w.alloc (.cells #[.int .i64 n, .slice v1 v2 v3] 24) = w0 at *
  refine (seriesBegun_any _ (hT.below hB0)).mono ?_
  rintro x w1 ⟨rfl, hb1⟩
  have hB1 := bcat2 hB0 hb1
  have hX1 := blk_below hX0 hb1
  obtain ⟨c0, c1, _, _⟩ := hX1.two
  go_wp2_with fail
  clear c0 c1
  refine (HD.out _ hB1).mono ?_
  rintro x w2 ⟨y, rfl, ⟨KD, gd, cd, rfl, hstd, _, hRd⟩, hb2⟩
  obtain ⟨w3, hw3⟩ : ∃ w3, w3 = w2.alloc (.cells #[.int .i64 0, .int .i64 0] 27) := ⟨_, rfl⟩
  have hb3 : Below w2.heap.size w2 w3 := by rw [hw3]; exact balloc w2 _
  have hF3 : Blk w3 w2.heap.size 27 [.int .i64 0, .int .i64 0] := by rw [hw3]; exact blk0 _ _
  have hB3 := bcat2 hB1 (bcat2 hb2 hb3)
  have hX3 := blk_below hX1 (bcat2 hb2 hb3)
  have hRd3 := hRd.below hb3
  have hmd := hstd.meas
  clear hRd hstd HD
  obtain ⟨c0, c1, _, _⟩ := hX3.two
  rw [hw3] at c0 c1
  go_wp2_with fail
  rw [← hw3]
  clear hw3 c0 c1
  refine (HL.out _ hB3).mono ?_
  rintro x w4 ⟨y, rfl, ⟨KL, gl, cl, rfl, hstl, hendl, hRl⟩, hb4⟩
  obtain ⟨w5, hw5⟩ : ∃ w5, w5 = w4.alloc (.cells #[.int .i64 0, .int .i64 0] 27) := ⟨_, rfl⟩
  have hb5 : Below w4.heap.size w4 w5 := by rw [hw5]; exact balloc w4 _
  have hG5 : Blk w5 w4.heap.size 27 [.int .i64 0, .int .i64 0] := by rw [hw5]; exact blk0 _ _
  have hB5 := bcat2 hB3 (bcat2 hb4 hb5)
  have hX5 := blk_below hX3 (bcat2 hb4 hb5)
  have hF5 := blk_below hF3 (bcat2 hb4 hb5)
  have hRd5 := hRd3.below (bcat2 hb4 hb5)
  have hRl5 := hRl.below hb5
  have hml := hstl.meas
  have HIL := hide hstl.inv
  have HEL := hide hendl
  clear hRl hstl hendl HL
  obtain ⟨c0, c1, _, _⟩ := hX5.two
  rw [hw5] at c0 c1
  go_wp2_with fail
  rw [← hw5]
  clear hw5 c0 c1
  refine (HU.out _ hB5).mono ?_
  rintro x w6 ⟨y, rfl, ⟨KU, gu, cu, rfl, hstu, _, hRu⟩, hb6⟩
  obtain ⟨w7, hw7⟩ : ∃ w7, w7 = w6.alloc (.cells #[.int .i64 0, .int .i64 0] 27) := ⟨_, rfl⟩
  have hb7 : Below w6.heap.size w6 w7 := by rw [hw7]; exact balloc w6 _
  have hH7 : Blk w7 w6.heap.size 27 [.int .i64 0, .int .i64 0] := by rw [hw7]; exact blk0 _ _
  have hB7 := bcat2 hB5 (bcat2 hb6 hb7)
  have hX7 := blk_below hX5 (bcat2 hb6 hb7)
  have hF7 := blk_below hF5 (bcat2 hb6 hb7)
  have hG7 := blk_below hG5 (bcat2 hb6 hb7)
  have hRd7 := hRd5.below (bcat2 hb6 hb7)
  have hRl7 := hRl5.below (bcat2 hb6 hb7)
  have hRu7 := hRu.below hb7
  have hmu := hstu.meas
  obtain ⟨vd, hvd1, hvd2, hvd3, hvd4⟩ := hRd7.hds (fun i _ => dr_nsg hg i)
  obtain ⟨vl, hvl1, hvl2, hvl3, hvl4⟩ := hRl7.hds HIL.out
  obtain ⟨vu, hvu1, hvu2, hvu3, hvu4⟩ := hRu7.hds hstu.inv
  have HDS := hide (hvd4.append (hvl4.append hvu4))
  clear hRu hstu HU hRd3 hRd5 hRl5 hRu7 hvd4 hvl4 hvu4 HIL
  obtain ⟨c0, c1, _, _⟩ := hX7.two
  obtain ⟨f0, f1, _, _⟩ := hF7.two
  obtain ⟨g0, g1, _, _⟩ := hG7.two
  obtain ⟨h0, h1, _, _⟩ := hH7.two
  have hKD : KD ≤ 60 := by omega
  have hKL : KL ≤ 60 := by omega
  have hKU : KU ≤ 60 := by
    have h9 : KU ≤ (fun q : Nat → Bool => n - (lst n q).length) (itr (upq n zs e) (fun a => decide (a = e)) KU) + KU := Nat.le_add_left _ _
    omega
  clear hmd hml hmu
  obtain ⟨B7, hB7e⟩ : ∃ B7, B7 = w7.heap.size := ⟨_, rfl⟩
  have HB7 := hide hB7e
  clear hB7e
  rw [hw7] at c0 c1 f0 f1 g0 g1 h0 h1
  go_wp2_with (first
    | (at_builtin; refine wpList_append_own_at _ rfl _ _ 25 rfl B7 22 i0 (.slice none 0 0) 1 24 und38s hi hz0 hz1 hz2 rfl (by decide) _ 0 [] rfl (World.ownsRow_nil _ _ _ _) ⟨gd, 0, none⟩ (KD + 1) cd vd rfl (by omega) ?c1 ?c2 ?c3 ?c4 ?c5 ?_))
  case c1 => rw [← hw7]; exact hvd2
  case c2 => exact hvd3
  case c3 => unfold maxLen; omega
  case c4 => omega
  case c5 => rw [← hw7, HB7.out]; exact Nat.le_refl _
  intro va wa hra hga _ _
  rw [← hw7] at hga
  clear hw7 c0 c1 f0 f1 g0 g1 h0 h1
  have hBa : Below w7.heap.size w7 wa := (Below.refl _ _).grown hga (Nat.le_refl _) (fun t e => by simp [Value.ownBlock] at e)
  have hwa := hBa.size
  go_wp2_with (first
    | (at_builtin; refine wpList_append_own_at _ rfl _ _ 25 rfl B7 22 i0 (.slice none 0 0) 1 24 und38s hi hz0 hz1 hz2 rfl (by decide) va (KD + 1) vd rfl hra ⟨gl, 0, none⟩ (KL + 1) cl vl rfl (by omega) ?c1 ?c2 ?c3 ?c4 ?c5 ?_))
  case c1 => exact fun j u h => below_cell hBa (hvl2 j u h)
  case c2 => exact hvl3
  case c3 => unfold maxLen; omega
  case c4 => omega
  case c5 => rw [HB7.out]; exact hBa.size
  intro vb wb hrb hgb _ _
  have hBb : Below w7.heap.size w7 wb := hBa.grown hgb hBa.size (fun t e => by rw [← HB7.out]; exact owns_ge hra t e)
  have hwb := hBb.size
  go_wp2_with (first
    | (at_builtin; refine wpList_append_own_at _ rfl _ _ 25 rfl B7 22 i0 (.slice none 0 0) 1 24 und38s hi hz0 hz1 hz2 rfl (by decide) vb (KD + 1 + (KL + 1)) (vd ++ vl) rfl hrb ⟨gu, 0, none⟩ (KU + 1) cu vu rfl (by omega) ?c1 ?c2 ?c3 ?c4 ?c5 ?_))
  case c1 => exact fun j u h => below_cell hBb (hvu2 j u h)
  case c2 => exact hvu3
  case c3 => unfold maxLen; omega
  case c4 => omega
  case c5 => rw [HB7.out]; exact hBb.size
  intro vc wk hrc hgc _ _
  have hBk : Below w7.heap.size w7 wk := hBb.grown hgc hBb.size (fun t e => by rw [← HB7.out]; exact owns_ge hrb t e)
  obtain ⟨gk, ck, rfl⟩ := own_form hrc (by omega)
  have HCC := hide (fun j u (h : (vd ++ (vl ++ vu))[j]? = some u) => (show wk.cell? ⟨gk, j, none⟩ = some u by
    have hc := hrc.cells (g := gk) rfl j u h
    rwa [show (⟨gk, 0, none⟩ : Addr).add j = ⟨gk, j, none⟩ by unfold Addr.add; split <;> simp_all] at hc))
  have HLN := hide (show (vd ++ (vl ++ vu)).length = KD + 1 + (KL + 1) + (KU + 1) by have := hrc.1; omega)
  have HDK := hide (HDS.out.below hBk)
  have hT183 : KD + 1 + (KL + 1) + (KU + 1) ≤ 183 := by omega
  have hXk := blk_below hX7 hBk
  have hBwk := bcat2 hB7 hBk
  have hRdk := hRd7.below hBk
  have hRlk := hRl7.below hBk
  clear hrc hgc hrb hgb hra hga hBa hBb hwa hwb HDS hvd1 hvd2 hvd3 hvl1 hvl2 hvl3 hvu1 hvu2 hvu3 hF3 hF5 hF7 hG5 hG7 hH7 hX0 hX1 hX3 hX5 hX7 hRd7 hRl7 HB7
  generalize KD + 1 + (KL + 1) + (KU + 1) = T at *
  generalize vd ++ (vl ++ vu) = vs at *
  go_wp2_with fail
  go_loopw [10] (fun iv wr => ∃ i : Nat, i ≤ T ∧ iv = .int .i64 i ∧ Below wk.heap.size wk wr) (fun iv _ => T - (intOf iv).toNat)
  case atStart => exact ⟨0, Nat.zero_le _, rfl, Below.refl _ _⟩
  case round =>
    obtain ⟨i, hiT, rfl, hbr⟩ := hrel
    by_cases hlt : i < T
    · have hiv : i < vs.length := by rw [HLN.out]; exact hlt
      obtain ⟨a, c, q, hve, hS1, hN⟩ := HDK.out vs[i] (List.getElem_mem hiv)
      have hci := below_cell hbr (HCC.out i _ ((List.getElem?_eq_getElem hiv).trans (congrArg some hve)))
      have hXr := blk_below hXk hbr
      obtain ⟨c0, c1, _, _⟩ := hXr.two
      have HM := hide (fun W (h : Below wr.heap.size wr W) => HNR.out W _ q (bcat2 hBwk (bcat2 hbr h)) ((hS1.below hbr).below h) hN)
      have hii : (i : Int) < (T : Int) := by omega
      clear hS1 hN hve
      generalize (lst n q).length = Lq at *
      have hS : ∀ W9, Below wr.heap.size wr W9 → (Below wr.heap.size wr W9 ∧ W9.cell? ⟨w.heap.size, 0, none⟩ = some (.int .i64 n) ∧ W9.cell? ⟨w.heap.size, 1, none⟩ = some (.slice v1 v2 v3) ∧ W9.cell? ⟨gk, i, none⟩ = some (.slice a Lq c)) := fun W9 h => ⟨h, below_cell h c0, below_cell h c1, below_cell h hci⟩
      have hS0 := hS _ (bdrew (Below.refl _ wr))
      go_wp2_with fail
      go_cut [11, 12] (fun s11 s12 wx => NR wr s11 s12 wx)
      case first =>
        clear c0 c1 hci
        go_region_held3 (fun W9 => Below wr.heap.size wr W9 ∧ W9.cell? ⟨w.heap.size, 0, none⟩ = some (.int .i64 n) ∧ W9.cell? ⟨w.heap.size, 1, none⟩ = some (.slice v1 v2 v3) ∧ W9.cell? ⟨gk, i, none⟩ = some (.slice a Lq c))
          (first | exact hS0 | assumption | exact hS _ (bcat2 (And.left ‹_›) hl5) | exact hS _ (bcat2 (And.left ‹_›) (balloc _ _)) | exact hS _ (bcat2 hU5 (balloc _ _)) | (obtain ⟨k0, k1, _, _⟩ := pA.two; rw [store_same k0 k1]; exact hS _ hU5) | (obtain ⟨k0, k1, _, _⟩ := pC.two; rw [store_same k0 k1]; exact hS _ hU5))
          (first
            | (go_at_call 33; refine (HM.out _ (And.left ‹_›)).mono ?_; rintro e5 U5 ⟨rfl, hl5⟩; have hU5 := bcat2 (And.left ‹_›) hl5; (first | (with_reducible have pA := mkA hl5) | (with_reducible have pA := mkA (undA hl5)) | skip); (try (obtain ⟨_, _, _, _⟩ := pA.two))))
        all_goals (go_wp2; go_meet)
        all_goals (first
          | exact nr_new hU5
          | exact nr_put hU5 pA)
      case rest =>
        obtain ⟨b, rfl, rfl, hp, hbx⟩ := hcut
        obtain ⟨p0, p1, _, _⟩ := hp.two
        clear c0 c1 hci hS hS0 HM
        go_wp2
        go_roundw
        case rel => exact ⟨i + 1, by omega, by go_num, bcat2 hbr hbx⟩
        case measure => simp [intOf]; omega
    · have hii : ¬ (i : Int) < (T : Int) := by omega
      have hRdr := hRdk.below hbr
      have hRlr := hRlk.below hbr
      have hBwr := bcat2 hBwk hbr
      clear HCC HLN HDK HNR hRdk hRlk hXk
      go_wp2_with fail
      generalize wr = wq at *
      go_loopw [13] (fun iv wr => ∃ i : Nat, i ≤ KD + 1 ∧ iv = .int .i64 i ∧ Below wq.heap.size wq wr) (fun iv _ => KD + 1 - (intOf iv).toNat)
      case atStart => exact ⟨0, Nat.zero_le _, rfl, Below.refl _ _⟩
      case round =>
        clear hii hiT hlt
        obtain ⟨i, hiD, rfl, hbr⟩ := hrel
        by_cases hltd : i < KD + 1
        · have hid : (i : Int) < (KD : Int) + 1 := by omega
          obtain ⟨k9, hk9, hkk⟩ : ∃ k9, k9 ≤ KL ∧ ((KL + 1 ≤ i ∧ k9 = KL) ∨ k9 = i) := by
            by_cases h9 : KL + 1 ≤ i
            · exact ⟨KL, Nat.le_refl _, .inl ⟨h9, rfl⟩⟩
            · exact ⟨i, by omega, .inr rfl⟩
          have HDI := hide (dr_in hg HEL.out hkk)
          obtain ⟨da, dc, hdc, hdS⟩ := (hRdr.below hbr) i (by rw [sls_len]; omega)
          obtain ⟨la, lc, hlc, hlS⟩ := (hRlr.below hbr) k9 (by rw [sls_len]; omega)
          rw [sls_at (by omega)] at hdc hdS hlc hlS
          have HPT := hide (fun W (h : Below wr.heap.size wr W) => parted_ok _ _ _ _ W (hdS.below h) (hlS.below h))
          rw [all_part.2 HDI.out] at HPT
          clear hdS hlS HDI
          generalize (li (lst n (itr (fun q => cmb n zs e q q) (fun _ => true) i))).length = La at *
          generalize (li (lst n (itr (fun q => cmb n zs e q fun _ => true) (fun _ => true) k9))).length = Lb at *
          have hS : ∀ W9, Below wr.heap.size wr W9 → (Below wr.heap.size wr W9 ∧ W9.cell? ⟨gd, i, none⟩ = some (.slice da La dc) ∧ W9.cell? ⟨gl, k9, none⟩ = some (.slice la Lb lc)) := fun W9 h => ⟨h, below_cell h hdc, below_cell h hlc⟩
          have hS0 := hS _ (bdrew (Below.refl _ wr))
          by_cases hkl : KL + 1 ≤ i
          · have hk9e : k9 = KL := by rcases hkk with ⟨_, h9⟩ | h9 <;> omega
            subst hk9e
            have hki : (k9 : Int) + 1 ≤ (i : Int) := by omega
            have hk1 : (((k9 + 1 : Nat) : Int) - 1) = (k9 : Int) := by omega
            have hk2 : (0 : Int) ≤ (k9 : Int) := by omega
            have hk3 : (k9 : Int) < (k9 : Int) + 1 := by omega
            go_wp2_with fail
            clear hdc hlc
            go_region_held3 (fun W9 => Below wr.heap.size wr W9 ∧ W9.cell? ⟨gd, i, none⟩ = some (.slice da La dc) ∧ W9.cell? ⟨gl, k9, none⟩ = some (.slice la Lb lc))
              (first | exact hS0 | assumption)
              (first | (go_at_call 29; refine (HPT.out _ (And.left ‹_›)).mono ?_; rintro e5 U5 ⟨rfl, rfl⟩))
            all_goals (
              have hB9 := hS0.1
              go_wp2
              go_roundw
              case rel => exact ⟨i + 1, by omega, by go_num, bcat2 hbr hB9⟩
              case measure => simp [intOf]; omega)
          · have hk9e : k9 = i := by rcases hkk with ⟨h8, _⟩ | h9 <;> omega
            subst hk9e
            have hki : ¬ (KL : Int) + 1 ≤ (k9 : Int) := by omega
            have hkj : (k9 : Int) < (KL : Int) + 1 := by omega
            go_wp2_with fail
            clear hdc hlc
            go_region_held3 (fun W9 => Below wr.heap.size wr W9 ∧ W9.cell? ⟨gd, k9, none⟩ = some (.slice da La dc) ∧ W9.cell? ⟨gl, k9, none⟩ = some (.slice la Lb lc))
              (first | exact hS0 | assumption)
              (first | (go_at_call 29; refine (HPT.out _ (And.left ‹_›)).mono ?_; rintro e5 U5 ⟨rfl, rfl⟩))
            all_goals (
              have hB9 := hS0.1
              go_wp2
              go_roundw
              case rel => exact ⟨k9 + 1, by omega, by go_num, bcat2 hbr hB9⟩
              case measure => simp [intOf]; omega)
        · have hid : ¬ (i : Int) < (KD : Int) + 1 := by omega
          go_wp2
          go_ret
          exact ⟨rfl, bcat2 hBwr hbr⟩
theorem snrm_law (N : Int) (v : Value) (zs : List Int) (w : World) (hv : Sl w v zs) (hT : Tab w) :
    Calls Tryd.prog 11 #[.agg #[.int .i64 N, v]] w fun e w' => e = .returned (.bool true) ∧ Below w.heap.size w w' := by
  obtain ⟨v1, v2, v3, rfl⟩ := hv.isSlice
  by_cases hc : (gfault N zs).1 = 0
  · obtain ⟨n, e, rfl, hg, h0⟩ := gfault_grp hc
    exact snrm_good n e v1 v2 v3 zs w hv hg hT
  · exact snrm_bad N v1 v2 v3 zs w hv hT hc
end Go.Proofs.YtolbpjjjoafkkaaDoor

namespace Go.Proofs.YtolbpjjjoafkkaaDoor
open Go.ChangeShapes Go.WideShapes Go.ChangeAt Go.RowKit

theorem own : ownKnob Tryd.prog.godebug = none := by kernel_rfl
theorem laidOut : laidOutB Tryd.prog = true := by kernel_rfl

/-- A slice of ints that reads as zs; where nothing is in it, nothing is told of the memory. -/
def SlA (w : World) (v : Value) (zs : List Int) : Prop := ∃ a cap pb po, v = .slice a zs.length cap ∧ Reads w a pb po zs ∧ (0 < zs.length → pb < w.heap.size) ∧ zs.length ≤ cap ∧ cap ≤ maxLen
theorem SlA.up {w w' : World} {v : Value} {zs : List Int} (h : SlA w v zs) (hb : Below w.heap.size w w') (h0 : 0 < w'.heap.size) : Sl w' v zs := by
  obtain ⟨a, cap, pb, po, hv, hr, hp, h1, h2⟩ := h
  rcases Nat.eq_zero_or_pos zs.length with hz | hz
  · exact ⟨a, cap, 0, 0, hv, ⟨fun h => by omega, fun j hj => by omega⟩, h0, h1, h2⟩
  · exact ⟨a, cap, pb, po, hv, hr.below hb (hp hz), Nat.lt_of_lt_of_le (hp hz) hb.size, h1, h2⟩
theorem SlA.of {w : World} {v : Value} {zs : List Int} (h : Sl w v zs) : SlA w v zs := by
  obtain ⟨a, cap, pb, po, hv, hr, hp, h1, h2⟩ := h
  exact ⟨a, cap, pb, po, hv, hr, fun _ => hp, h1, h2⟩

theorem und24 : ∃ f0 f1 : Field, Tryd.prog.underlying 24 = some (.struct #[f0, f1]) ∧ f0.type = 3 ∧ f1.type = 22 ∧ f0.offset = 0 ∧ f1.offset = 1 := ⟨_, _, Tryd.underlying24, rfl, rfl, rfl, rfl⟩
theorem und3 : Tryd.prog.underlying 3 = some (.int .i64) := by kernel_rfl
theorem und22 : Tryd.prog.underlying 22 = some (.slice 3) := by kernel_rfl
theorem und4 : Tryd.prog.underlying 4 = some .bool := by kernel_rfl

set_option maxRecDepth 100000 in
/-- What is told of a table that came in. -/
theorem open_group {H : Type} {enc : TypeId × Value → H} {W : World} {b0 : Nat} {v : Value} {d : DataW H} {ps : List MemPlace} (hval : Value.okWide Tryd.prog W .any b0 24 v)
    (hd : DataW.Trod enc Tryd.prog W 0 (fun _ => true) true 24 v d ps) :
    ∃ N u zs, v = .agg #[.int .i64 N, u] ∧ SlA W u zs ∧ (Lit.int .i64 N).wf = true ∧ ((d.weights Tryd.prog 24).all (· ≤ reachBytes) = true → zs.length * 8 ≤ 140737488355328) := by
  obtain ⟨f0, f1, hu, ht0, ht1, ho0, ho1⟩ := und24
  obtain ⟨cs, rfl, hsz⟩ := okWide_struct hu hval
  rw [show Tryd.prog.cellsOf 24 = 2 by kernel_rfl] at hsz
  obtain ⟨l⟩ := cs
  match l, hsz with
  | [c0, c1], _ =>
  obtain ⟨fuel, hf⟩ := hd
  obtain ⟨y0, y1, m, hx, _, hy0, hy1⟩ := trod_struct2 hu hf
  rw [ht0, ho0, show Tryd.prog.cellsOf 3 = 1 by kernel_rfl] at hy0
  rw [ht1, ho1, show Tryd.prog.cellsOf 22 = 1 by kernel_rfl] at hy1
  obtain ⟨N, e0, rfl, wN⟩ := DataW.trod_int und3 hy0
  simp [Value.cells] at e0
  subst e0
  simp [Value.cells] at hy1
  rcases open_ints und22 und3 (by kernel_rfl) hy1 with ⟨hcs, _⟩ | ⟨x, l, c, zs, hcs, _, hl, hm, hz, heq, hcell, hwz⟩
  · simp at hcs
    subst hcs
    exact ⟨N, _, [], rfl, ⟨none, 0, 0, 0, rfl, ⟨by simp, by simp⟩, by simp, by simp, by unfold maxLen; omega⟩, wN, fun _ => by simp⟩
  · simp at hcs
    subst hcs
    have hzc : zs.length = c := by simpa using hz
    have hlen : (zs.take l).length = l := by rw [List.length_take]; omega
    refine ⟨N, _, zs.take l, rfl, ?_, wN, fun hw => ?_⟩
    · by_cases hpos : 0 < c
      · obtain ⟨b, o, rfl, hc'⟩ := ints_at hcell (by omega)
        refine ⟨some ⟨b, o, none⟩, c, b, o, by rw [hlen], ⟨fun _ => rfl, fun j hj => ?_⟩, fun _ => World.block_lt_of_cell? W _ (hc' 0 (by omega)), by omega, hm⟩
        rw [hlen] at hj
        rw [hc' j (by omega), List.getElem?_take, if_pos hj, List.getD_eq_getElem?_getD]
      · have : l = 0 := by omega
        subst this
        exact ⟨some x, c, 0, 0, by simp, ⟨by simp, by simp⟩, by simp, by simp, hm⟩
    · have hd : d = .agg [.lit (.int .i64 N), .slice (lits .i64 (zs.take l)) (lits .i64 (zs.drop l))] := by
        have h1 := congrArg Prod.fst hx
        simp only [heq] at h1
        exact h1
      have hw2 := List.all_eq_true.1 hw (((lits (H := H) .i64 (zs.take l)).length + (lits (H := H) .i64 (zs.drop l)).length) * Tryd.prog.bytesOf 3) (by
        rw [hd]; simp [DataW.weights, DataW.weightsEach, hu, ht0, ht1])
      rw [show Tryd.prog.bytesOf 3 = 8 by kernel_rfl] at hw2
      simp only [lits, List.length_map, decide_eq_true_eq] at hw2
      unfold reachBytes at hw2
      omega
end Go.Proofs.YtolbpjjjoafkkaaDoor

namespace Go.Proofs.YtolbpjjjoafkkaaDoor
open Go.ChangeShapes Go.WideShapes Go.ChangeAt Go.RowKit

/-- What the rows list. -/
def laid1 : List (String × DataW Unit) := Rows.sylowQuotientsRow.laid
def tabZ : List Int := Lib.deBruijn64tab.map fun (x : Nat) => (x : Int)
theorem tab_data : (Rows.laid_math_bits_deBruijn64tab : DataW Unit) = Lib.tabData .u8 tabZ := by kernel_rfl
/-- The door's own heap meets the condition. -/
theorem door_met (os : Os) (args : Array Value) : laidMetH Tryd.prog laid1 ((World.doorLaid Tryd.prog 400 os).forCall (fun _ _ => 0) ⟨#[], args, []⟩).memory :=
  laidMetH_of_parts3 (fuel := 8) (laidMet_of_run' 8 (by kernel_rfl) (by kernel_rfl)) (by kernel_rfl) (by kernel_rfl)
theorem tab_of_laid {W : World} (h : laidMetH Tryd.prog laid1 W) : Tab W := by
  rw [MakeChecks.laidMetH_plain _ _ _ (by kernel_rfl)] at h
  have h2 : laidMet Tryd.prog [("math/bits.deBruijn64tab", (Rows.laid_math_bits_deBruijn64tab : DataW Unit))] W := h
  rw [tab_data] at h2
  have hg : Tryd.prog.globalNamed "math/bits.deBruijn64tab" = some 0 := by kernel_rfl
  have hT := Lib.tabIs_of_head hg (t := 114) (e := 5) (n := 64) (by kernel_rfl) (by kernel_rfl) (by kernel_rfl) (by kernel_rfl) (by kernel_rfl) h2
  intro j hj
  have hj' : j < tabZ.length := by simpa [tabZ] using hj
  have hc := hT.cell hg j hj'
  rw [hc]
  simp [tabZ, hj]
set_option maxRecDepth 100000 in
/-- A list of ints that came in: its value, what it reads as, and its size. -/
theorem open_list {H : Type} {enc : TypeId × Value → H} {W : World} {b0 : Nat} {v : Value} {d : DataW H} {ps : List MemPlace} (hval : Value.okWide Tryd.prog W .any b0 22 v)
    (hd : DataW.Trod enc Tryd.prog W 0 (fun _ => true) true 22 v d ps) (h0 : 0 < W.heap.size) :
    ∃ zs, Sl W v zs ∧ ((d.weights Tryd.prog 22).all (· ≤ reachBytes) = true → zs.length * 8 ≤ 140737488355328) := by
  obtain ⟨a, len, cap, rfl⟩ := okWide_slice und22 hval
  obtain ⟨fuel, hf⟩ := hd
  rcases open_ints und22 und3 (by kernel_rfl) hf with ⟨hcs, _⟩ | ⟨x, l, c, zs, hcs, _, hl, hm, hz, heq, hcell, hwz⟩
  · simp [Value.cells] at hcs
    obtain ⟨rfl, rfl, rfl⟩ := hcs
    exact ⟨[], Sl.nil h0, fun _ => by simp⟩
  · simp [Value.cells] at hcs
    obtain ⟨rfl, rfl, rfl⟩ := hcs
    have hzc : zs.length = cap := by simpa using hz
    have hlen : (zs.take len).length = len := by rw [List.length_take]; omega
    refine ⟨zs.take len, ?_, fun hw => ?_⟩
    · by_cases hpos : 0 < cap
      · obtain ⟨b, o, rfl, hc'⟩ := ints_at hcell (by omega)
        refine ⟨some ⟨b, o, none⟩, cap, b, o, by rw [hlen], ⟨fun _ => rfl, fun j hj => ?_⟩, World.block_lt_of_cell? W _ (hc' 0 (by omega)), by omega, hm⟩
        rw [hlen] at hj
        rw [hc' j (by omega), List.getElem?_take, if_pos hj, List.getD_eq_getElem?_getD]
      · have : len = 0 := by omega
        subst this
        exact ⟨some x, cap, 0, 0, by simp, ⟨by simp, by simp⟩, h0, by simp, hm⟩
    · simp only [Prod.mk.injEq] at heq
      have hw2 := List.all_eq_true.1 hw (((lits (H := H) .i64 (zs.take len)).length + (lits (H := H) .i64 (zs.drop len)).length) * Tryd.prog.bytesOf 3) (by
        rw [heq.1]; simp [DataW.weights])
      rw [show Tryd.prog.bytesOf 3 = 8 by kernel_rfl] at hw2
      simp only [lits, List.length_map, decide_eq_true_eq] at hw2
      unfold reachBytes at hw2
      omega
end Go.Proofs.YtolbpjjjoafkkaaDoor
