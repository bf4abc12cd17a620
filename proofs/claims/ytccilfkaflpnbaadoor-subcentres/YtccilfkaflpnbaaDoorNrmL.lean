/- What the law SubNormal answers: true, at every table and every list. -/
import Derived.Test.YtccilfkaflpnbaaDoorNrmW
namespace Go.Proofs.YtccilfkaflpnbaaDoor
open Go Go.RowKit

set_option maxRecDepth 100000 in
set_option maxHeartbeats 8000000 in
theorem las_nil (k : Nat) (caps : Array Value) (c i : Int) (r : Value) (w : World) (_h0 : 0 < w.heap.size) (hr : Sl w r []) (hc : c ≠ 0) :
    Calls Tryd.prog 32 #[r, .agg #[.int .i64 c, .int .i64 i], .agg #[.int .i64 c, .int .i64 i], .func (.func k) #[] caps] w fun x w' => x = .returned (.bool true) ∧ Below w.heap.size w w' := by
  obtain ⟨ra, rc, _, _, rfl, _, _, _, _⟩ := hr
  have hcb : (c != 0) = true := by simpa using hc
  have hF1 : Blk ((w.alloc (.cells #[.int .i64 c, .int .i64 i] 27)).alloc (.cells #[.int .i64 c, .int .i64 i] 27)) w.heap.size 27 [.int .i64 c, .int .i64 i] := (blk0 _ _).alloc _
  have hF2 := blk0 (w := w.alloc (.cells #[.int .i64 c, .int .i64 i] 27)) (T := 27) (.int .i64 c) (.int .i64 i)
  rw [World.size_alloc] at hF2
  have hb : Below w.heap.size w ((w.alloc (.cells #[.int .i64 c, .int .i64 i] 27)).alloc (.cells #[.int .i64 c, .int .i64 i] 27)) := (balloc w _).alloc (by simp) _
  obtain ⟨f0, f1, _, _⟩ := hF1.two
  obtain ⟨g0, g1, _, _⟩ := hF2.two
  show Calls Tryd.prog 32 #[.slice ra 0 rc, .agg #[.int .i64 c, .int .i64 i], .agg #[.int .i64 c, .int .i64 i], .func (.func k) #[] caps] w _
  go_enter Tryd.func32, Tryd.ntmps32
  go_wp2
  go_ret
  exact ⟨rfl, hb⟩
theorem nrl_eq {n e : Nat} {zs : List Int} {q : Nat → Bool} : lst n (nrl n zs e (lst n q)) = lst n (norq n zs e q) := by
  refine lst_congr fun a _ => ?_
  unfold nrl norq
  rw [Bool.eq_iff_iff, decide_eq_true_eq, decide_eq_true_eq]
  constructor
  · intro h
    exact bs_ext fun y hy => by rw [Bool.eq_iff_iff]; exact lst_inj.1 (li_inj h) y hy
  · intro h
    exact congrArg li (lst_inj.2 fun y hy => by rw [← Bool.eq_iff_iff]; exact bs_inj h y hy)
theorem crl_eq {n e : Nat} {zs : List Int} {q : Nat → Bool} (g : IsGrp n zs e) : lst n (crl n zs e (lst n q)) = lst n (corq n zs e q n) := by
  refine lst_congr fun y hy => ?_
  rw [Bool.eq_iff_iff, cor_iff g hy]
  unfold crl Fin.Core
  simp only [List.all_eq_true, decide_eq_true_eq, mem_lst]
  exact ⟨fun h a ha => (h a ha).2, fun h a ha => ⟨rcj_lt g hy (List.mem_range.1 ha), h a ha⟩⟩
theorem clo_eq {n e : Nat} {zs : List Int} {q : Nat → Bool} : (fun a => decide (a ∈ cjs n zs e (lst n q) n)) = cloq n zs e q n := by
  funext y
  rw [Bool.eq_iff_iff, decide_eq_true_eq, mem_cjs, clo_iff]
  unfold Fin.Conj
  simp only [mem_lst, List.mem_range]
  exact ⟨fun ⟨a, x, h1, ⟨h2, h3⟩, h4⟩ => ⟨x, a, h2, h1, h3, h4⟩, fun ⟨x, a, h1, h2, h3, h4⟩ => ⟨a, x, h2, ⟨h1, h3⟩, h4⟩⟩
theorem isn_eq {n e : Nat} {zs : List Int} {q : Nat → Bool} (g : IsGrp n zs e) : isn n zs e (lst n q) = nrmq n zs e q := by
  rw [Bool.eq_iff_iff, isn_iff, nrm_iff g]
  unfold Fin.Nm
  simp only [mem_lst, List.mem_range]
  exact ⟨fun h x a hx ha hq => (h a ha x ⟨hx, hq⟩).2, fun h a ha x hx => ⟨rcj_lt g hx.1 ha, h x a hx.1 ha hx.2⟩⟩

theorem normal_law (N : Int) (v u : Value) (zs l : List Int) (w : World) (hv : Sl w v zs) (hu : Sl w u l) (hT : Tab w) (hz : zs.length * 8 ≤ 140737488355328) (hl8 : l.length * 8 ≤ 140737488355328) :
    Calls Tryd.prog 5 #[.agg #[.int .i64 N, v], u] w fun e w' => e = .returned (.bool true) ∧ Below w.heap.size w w' := by
  obtain ⟨v1, v2, v3, rfl⟩ := hv.isSlice
  obtain ⟨u1, u2, u3, rfl⟩ := hu.isSlice
  have h0 := hT.lt
  have HU := hide (fun W (h : Below w.heap.size w W) => rsub_any N (.slice v1 v2 v3) (.slice u1 u2 u3) zs l W (hv.below h) (hu.below h))
  have HS := hide (fun W (h : Below w.heap.size w W) => rset_any N (.slice v1 v2 v3) (.slice u1 u2 u3) zs l W (hv.below h) (hu.below h))
  have at0 : ∀ W : World, Below w.heap.size w W → 0 < W.heap.size := fun W h => Nat.lt_of_lt_of_le h0 h.size
  by_cases hs : (sfault N zs l).1 = 0
  · obtain ⟨n, e, rfl, hg, hl0, hs0⟩ := sfault_zero hs
    have hli := set_lst (show (lfault n l).1 = 0 by rw [hl0])
    have hxm : ∀ x, x ∈ lst n (pset l) → x < n := fun x hx => (mem_lst.1 hx).1
    have hxl : (lst n (pset l)).length ≤ 60 := Nat.le_trans (lst_len _ _) hg.tab.le
    obtain ⟨p, hp⟩ := mkd_test n zs e (cloq n zs e (pset l) n)
    have hu9 : ∀ W, Below w.heap.size w W → Sl W (.slice u1 u2 u3) (li (lst n (pset l))) := fun W h => by rw [← hli]; exact hu.below h
    have HK := hide (fun W x m (h : Below w.heap.size w W) (h1 : Sl W x zs) (h2 : Sl W m l) => ans_good (at0 W h) (clo_good n e x m zs l p W h1 hg h2 (hT.below h) hl0 hp))
    have HL3 := hide (fun W r gb lb (h : Below w.heap.size w W) (hX : BoxG W gb n (.slice v1 v2 v3)) (hL : Boxed W lb 22 (.slice u1 u2 u3)) (hr : Sl W r (li (lst n p))) => las_good 54 #[.pointer (some ⟨gb, 0, none⟩), .pointer (some ⟨lb, 0, none⟩)] r (li (lst n p)) (li (lst n p)) W hr (fun W => call54 _ _ W) (fun W' hW => cl54_ok n e gb lb (.slice v1 v2 v3) (.slice u1 u2 u3) zs (lst n (pset l)) p W' hg (hv.below (bcat2 h hW)) (blk_below hX hW) (Boxed.below hL hW) (hu9 W' (bcat2 h hW)) hxm hxl (by rw [clo_eq]; exact hp)))
    rw [show decide (li (lst n p) = li (lst n p)) = true by simp] at HL3
    rw [hs0] at HS
    by_cases hc : (ufault n zs l).1 = 0
    · have hsb : subT n zs e (pset l) = true := by
        rw [ufault_u hg hl0] at hc
        by_cases h9 : subT n zs e (pset l) = true
        · exact h9
        · rw [if_neg h9] at hc; simp at hc
      rw [show ufault n zs l = (0, 0) by rw [ufault_u hg hl0, if_pos hsb]] at HU
      have HN := hide (fun W x m (h : Below w.heap.size w W) (h1 : Sl W x zs) (h2 : Sl W m l) => ans_good (at0 W h) (nor_good n e x m zs l W h1 hg h2 (hT.below h) hl0 hsb))
      have HI := hide (fun W x m (h : Below w.heap.size w W) (h1 : Sl W x zs) (h2 : Sl W m l) => nrm_good n e x m zs l W h1 hg h2 (hT.below h) hl0 hsb)
      have HC := hide (fun W x m (h : Below w.heap.size w W) (h1 : Sl W x zs) (h2 : Sl W m l) => ans_good (at0 W h) (core_good n e x m zs l W h1 hg h2 (hT.below h) hl0 hsb))
      have HM := hide (fun (_ : (0 : Int) = 0) W (h : Below w.heap.size w W) => isnorm_ok n e (.slice v1 v2 v3) (.slice u1 u2 u3) zs (lst n (pset l)) W (hv.below h) hg (hu9 W h) hxm (by omega))
      rw [isn_eq hg] at HM
      have HL1 := hide (fun W r gb lb (h : Below w.heap.size w W) (hX : BoxG W gb n (.slice v1 v2 v3)) (hL : Boxed W lb 22 (.slice u1 u2 u3)) (hr : Sl W r (li (lst n (norq n zs e (pset l))))) => las_good 47 #[.pointer (some ⟨gb, 0, none⟩), .pointer (some ⟨lb, 0, none⟩)] r (li (lst n (norq n zs e (pset l)))) (li (lst n (nrl n zs e (lst n (pset l))))) W hr (fun W => call47 _ _ W) (fun W' hW => cl47_ok n e gb lb (.slice v1 v2 v3) (.slice u1 u2 u3) zs (lst n (pset l)) W' hg (hv.below (bcat2 h hW)) (blk_below hX hW) (Boxed.below hL hW) (hu9 W' (bcat2 h hW)) hxm))
      rw [show decide (li (lst n (norq n zs e (pset l))) = li (lst n (nrl n zs e (lst n (pset l))))) = true by simp [nrl_eq]] at HL1
      have HL2 := hide (fun W r gb lb (h : Below w.heap.size w W) (hX : BoxG W gb n (.slice v1 v2 v3)) (hL : Boxed W lb 22 (.slice u1 u2 u3)) (hr : Sl W r (li (lst n (corq n zs e (pset l) n)))) => las_good 50 #[.pointer (some ⟨gb, 0, none⟩), .pointer (some ⟨lb, 0, none⟩)] r (li (lst n (corq n zs e (pset l) n))) (li (lst n (crl n zs e (lst n (pset l))))) W hr (fun W => call50 _ _ W) (fun W' hW => cl50_ok n e gb lb (.slice v1 v2 v3) (.slice u1 u2 u3) zs (lst n (pset l)) W' hg (hv.below (bcat2 h hW)) (blk_below hX hW) (Boxed.below hL hW) (hu9 W' (bcat2 h hW))))
      rw [show decide (li (lst n (corq n zs e (pset l) n)) = li (lst n (crl n zs e (lst n (pset l))))) = true by simp [crl_eq hg]] at HL2
      exact normal_walk n v1 v2 v3 u1 u2 u3 zs l w hv hu hT hz hl8 0 0 0 0 (nrmq n zs e (pset l)) _ _ _ (.inl rfl) HN HI HC HK HU HS HM HL1 HL2 HL3
    · have HN := hide (fun W x m (h : Below w.heap.size w W) (h1 : Sl W x zs) (h2 : Sl W m l) => ans_bad (at0 W h) (nor_bad n x m zs l W h1 h2 (hT.below h) hc))
      have HI := hide (fun W x m (h : Below w.heap.size w W) (h1 : Sl W x zs) (h2 : Sl W m l) => nrm_bad n x m zs l W h1 h2 (hT.below h) hc)
      have HC := hide (fun W x m (h : Below w.heap.size w W) (h1 : Sl W x zs) (h2 : Sl W m l) => ans_bad (at0 W h) (core_bad n x m zs l W h1 h2 (hT.below h) hc))
      exact normal_walk n v1 v2 v3 u1 u2 u3 zs l w hv hu hT hz hl8 _ _ 0 0 false _ _ _ (.inr rfl) HN HI HC HK HU HS (hide fun h => absurd h hc) (hide fun W r gb lb h _ _ hr => las_nil 47 _ _ _ r W (at0 W h) hr hc) (hide fun W r gb lb h _ _ hr => las_nil 50 _ _ _ r W (at0 W h) hr hc) HL3
  · have hc : (ufault N zs l).1 ≠ 0 := by rw [ufault_s hs]; exact hs
    have HN := hide (fun W x m (h : Below w.heap.size w W) (h1 : Sl W x zs) (h2 : Sl W m l) => ans_bad (at0 W h) (nor_bad N x m zs l W h1 h2 (hT.below h) hc))
    have HI := hide (fun W x m (h : Below w.heap.size w W) (h1 : Sl W x zs) (h2 : Sl W m l) => nrm_bad N x m zs l W h1 h2 (hT.below h) hc)
    have HC := hide (fun W x m (h : Below w.heap.size w W) (h1 : Sl W x zs) (h2 : Sl W m l) => ans_bad (at0 W h) (core_bad N x m zs l W h1 h2 (hT.below h) hc))
    have HK := hide (fun W x m (h : Below w.heap.size w W) (h1 : Sl W x zs) (h2 : Sl W m l) => ans_bad (at0 W h) (clo_bad N x m zs l W h1 h2 hs))
    exact normal_walk N v1 v2 v3 u1 u2 u3 zs l w hv hu hT hz hl8 _ _ _ _ false _ _ _ (.inr rfl) HN HI HC HK HU HS (hide fun h => absurd h hc) (hide fun W r gb lb h _ _ hr => las_nil 47 _ _ _ r W (at0 W h) hr hc) (hide fun W r gb lb h _ _ hr => las_nil 50 _ _ _ r W (at0 W h) hr hc) (hide fun W r gb lb h _ _ hr => las_nil 54 _ _ _ r W (at0 W h) hr hs)
end Go.Proofs.YtccilfkaflpnbaaDoor
