/- What the law SubCentres answers: true, at every table and every two lists. -/
import Derived.Test.YtccilfkaflpnbaaDoorCtsW
namespace Go.Proofs.YtccilfkaflpnbaaDoor
open Go Go.RowKit

theorem row_frs {B : Nat} {W : World} {v : Value} {zs : List Int} (h : Row W B v zs) (h0 : 0 < W.heap.size) : Frs B W v zs := ⟨h0, fun _ hk hs => row_sl (row_keep h hk) (Nat.lt_of_lt_of_le h0 hs)⟩
theorem centres_law (N : Int) (v u m : Value) (zs l k : List Int) (w : World) (hv : Sl w v zs) (hu : Sl w u l) (hm : Sl w m k) (hT : Tab w) (hz : zs.length * 8 ≤ 140737488355328) (hl8 : l.length * 8 ≤ 140737488355328) (hk8 : k.length * 8 ≤ 140737488355328) :
    Calls Tryd.prog 4 #[.agg #[.int .i64 N, v], u, m] w fun e w' => e = .returned (.bool true) ∧ Below w.heap.size w w' := by
  obtain ⟨v1, v2, v3, rfl⟩ := hv.isSlice
  obtain ⟨u1, u2, u3, rfl⟩ := hu.isSlice
  obtain ⟨m1, m2, m3, rfl⟩ := hm.isSlice
  have h0 := hT.lt
  have at0 : ∀ W : World, Below w.heap.size w W → 0 < W.heap.size := fun W h => Nat.lt_of_lt_of_le h0 h.size
  have HS := hide (fun W (h : Below w.heap.size w W) => rset_any N (.slice v1 v2 v3) (.slice u1 u2 u3) zs l W (hv.below h) (hu.below h))
  have HG := hide (fun W (h : Below w.heap.size w W) => groupFault_any N (.slice v1 v2 v3) zs W (hv.below h))
  by_cases hgf : (gfault N zs).1 = 0
  · obtain ⟨n, e, rfl, hg, hgf0⟩ := gfault_grp hgf
    have hn := hg.tab.le
    rw [hgf0] at HG
    rw [sfault_l hg] at HS
    have HZ := hide (fun W x (h : Below w.heap.size w W) (h1 : Sl W x zs) => ans_good (at0 W h) (centre_good n e x zs W h1 hg (hT.below h)))
    have HM := hide (fun W (h : Below w.heap.size w W) => rlist_any n (.slice v1 v2 v3) (.slice m1 m2 m3) k W hn (hm.below h))
    have HTH : Hid ((0 : Int) = 0 → ∀ W, Below w.heap.size w W → Calls Tryd.prog 22 #[.agg #[.int .i64 n, .slice v1 v2 v3], .func (.func 35) #[] #[]] W fun e W' => ∃ r1 r2 r3, e = .returned (.slice r1 r2 r3) ∧ Frs W.heap.size W' (.slice r1 r2 r3) (li (lst n fun _ => true)) ∧ Below W.heap.size W W') := hide (fun _ W h => by
      refine (rthose_ok n 35 (.slice v1 v2 v3) #[] (fun _ => true) W hn (fun a W => call35 a W) (fun W a _ _ => cl35_ok a W)).mono ?_
      rintro x w' ⟨r, rfl, hr, hb⟩
      have h9 := Nat.lt_of_lt_of_le (at0 W h) hb.size
      obtain ⟨a, l, c, rfl⟩ := (row_sl hr h9).isSlice
      exact ⟨a, l, c, rfl, row_frs hr h9, hb⟩)
    have hall : ∀ x, x ∈ lst n (fun _ => true) → x < n := fun x hx => (mem_lst.1 hx).1
    have HL2 := hide (fun W r gb cb ab av (h : Below w.heap.size w W) (hX : BoxG W gb n (.slice v1 v2 v3)) (hC : Boxed W cb 47 (.func (.func 29) #[] #[.pointer (some ⟨gb, 0, none⟩)])) (hA : Boxed W ab 22 av) (hs : (0 : Int) = 0 → Sl W av (li (lst n fun _ => true))) (hr : Sl W r (li (lst n (cenq n zs fun _ => true)))) => las_good 36 #[.pointer (some ⟨gb, 0, none⟩), .pointer (some ⟨cb, 0, none⟩), .pointer (some ⟨ab, 0, none⟩)] r (li (lst n (cenq n zs fun _ => true))) (li (lst n (cml n zs (lst n fun _ => true)))) W hr (fun W => call36 _ _ _ W) (fun W' hW => cl36_ok n gb cb ab (.slice v1 v2 v3) av zs (lst n fun _ => true) W' hg.tab (hv.below (bcat2 h hW)) (blk_below hX hW) (Boxed.below hC hW) (Boxed.below hA hW) ((hs rfl).below hW) hall))
    rw [show decide (li (lst n (cenq n zs fun _ => true)) = li (lst n (cml n zs (lst n fun _ => true)))) = true from decide_eq_true rfl] at HL2
    by_cases hl : (lfault n l).1 = 0
    · have hl0 := (lfault_zero hl).1
      rw [hl0] at HS
      have hli := set_lst hl
      have hxm : ∀ x, x ∈ lst n (pset l) → x < n := fun x hx => (mem_lst.1 hx).1
      have hxl : (lst n (pset l)).length ≤ 60 := Nat.le_trans (lst_len _ _) hn
      have hu9 : ∀ W, Below w.heap.size w W → Sl W (.slice u1 u2 u3) (li (lst n (pset l))) := fun W h => by rw [← hli]; exact hu.below h
      have HA := hide (fun W x m (h : Below w.heap.size w W) (h1 : Sl W x zs) (h2 : Sl W m l) => ans_good (at0 W h) (central_good n e x m zs l W h1 hg h2 (hT.below h) hl0))
      have HL1 := hide (fun W r gb cb lb (h : Below w.heap.size w W) (hX : BoxG W gb n (.slice v1 v2 v3)) (hC : Boxed W cb 47 (.func (.func 29) #[] #[.pointer (some ⟨gb, 0, none⟩)])) (hL : Boxed W lb 22 (.slice u1 u2 u3)) (hr : Sl W r (li (lst n (cenq n zs (pset l))))) => las_good 33 #[.pointer (some ⟨gb, 0, none⟩), .pointer (some ⟨cb, 0, none⟩), .pointer (some ⟨lb, 0, none⟩)] r (li (lst n (cenq n zs (pset l)))) (li (lst n (cml n zs (lst n (pset l))))) W hr (fun W => call33 _ _ _ W) (fun W' hW => cl33_ok n gb cb lb (.slice v1 v2 v3) (.slice u1 u2 u3) zs (lst n (pset l)) W' hg.tab (hv.below (bcat2 h hW)) (blk_below hX hW) (Boxed.below hC hW) (Boxed.below hL hW) (hu9 W' (bcat2 h hW)) hxm))
      rw [show decide (li (lst n (cenq n zs (pset l))) = li (lst n (cml n zs (lst n (pset l))))) = true from decide_eq_true rfl] at HL1
      by_cases hk : (lfault n k).1 = 0
      · have hk0 := (lfault_zero hk).1
        rw [hk0] at HM
        have hki := set_lst hk
        have hkm : ∀ x, x ∈ lst n (pset k) → x < n := fun x hx => (mem_lst.1 hx).1
        have hkl : (lst n (pset k)).length ≤ 60 := Nat.le_trans (lst_len _ _) hn
        have hm9 : ∀ W, Below w.heap.size w W → Sl W (.slice m1 m2 m3) (li (lst n (pset k))) := fun W h => by rw [← hki]; exact hm.below h
        obtain ⟨p, hp⟩ := mkd_test n zs e (cmq n zs e (lst n (pset l)) (lst n (pset k)))
        have HD := hide (fun W x y z (h : Below w.heap.size w W) (h1 : Sl W x zs) (h2 : Sl W y l) (h3 : Sl W z k) => ans_good (at0 W h) (comm_good n e x y z zs l k p W h1 hg h2 (hT.below h) hl0 h3 hk0 hp))
        have HL3 := hide (fun W r gb lb kb (h : Below w.heap.size w W) (hX : BoxG W gb n (.slice v1 v2 v3)) (hL : Boxed W lb 22 (.slice u1 u2 u3)) (hK : Boxed W kb 22 (.slice m1 m2 m3)) (hr : Sl W r (li (lst n p))) => las_good 39 #[.pointer (some ⟨lb, 0, none⟩), .pointer (some ⟨kb, 0, none⟩), .pointer (some ⟨gb, 0, none⟩)] r (li (lst n p)) (li (lst n p)) W hr (fun W => call39 _ _ _ W) (fun W' hW => cl39_ok n e gb lb kb (.slice v1 v2 v3) (.slice u1 u2 u3) (.slice m1 m2 m3) zs (lst n (pset l)) (lst n (pset k)) p W' hg (hv.below (bcat2 h hW)) (blk_below hX hW) (Boxed.below hL hW) (hu9 W' (bcat2 h hW)) (Boxed.below hK hW) (hm9 W' (bcat2 h hW)) hxm hkm hxl hkl (by rw [cms_eq]; exact hp)))
        rw [show decide (li (lst n p) = li (lst n p)) = true by simp] at HL3
        exact centres_walk n v1 v2 v3 u1 u2 u3 m1 m2 m3 zs l k w hv hu hm hT hz hl8 hk8 0 0 0 0 0 0 _ _ _ (li (lst n fun _ => true)) (fun h => absurd rfl h) (fun h => absurd rfl h) (fun h => absurd rfl h) HA HZ HD HS HG (hide fun _ => HM.out) HTH HL1 HL2 HL3
      · have HD := hide (fun W x y z (h : Below w.heap.size w W) (h1 : Sl W x zs) (h2 : Sl W y l) (h3 : Sl W z k) => ans_bad (at0 W h) (commx_good n e x y z zs l k W h1 hg h2 (hT.below h) hl0 h3 hk))
        exact centres_walk n v1 v2 v3 u1 u2 u3 m1 m2 m3 zs l k w hv hu hm hT hz hl8 hk8 0 0 0 0 _ _ _ _ _ (li (lst n fun _ => true)) (fun h => absurd rfl h) (fun h => absurd rfl h) (fun h => absurd rfl h) HA HZ HD HS HG (hide fun _ => HM.out) HTH HL1 HL2 (hide fun W r gb lb kb h _ _ _ hr => las_nil 39 _ _ _ r W (at0 W h) hr hk)
    · have hsf : (sfault n zs l).1 ≠ 0 := by rw [sfault_l hg]; exact hl
      have HA := hide (fun W x m (h : Below w.heap.size w W) (h1 : Sl W x zs) (h2 : Sl W m l) => ans_bad (at0 W h) (central_bad n x m zs l W h1 h2 hsf))
      have HD := hide (fun W x y z (h : Below w.heap.size w W) (h1 : Sl W x zs) (h2 : Sl W y l) (_ : Sl W z k) => ans_bad (at0 W h) (comm_bad n x y z zs l W h1 h2 hsf))
      rw [sfault_l hg] at HA HD
      exact centres_walk n v1 v2 v3 u1 u2 u3 m1 m2 m3 zs l k w hv hu hm hT hz hl8 hk8 _ _ 0 0 _ _ _ _ _ (li (lst n fun _ => true)) (fun h => absurd rfl h) (fun _ => ⟨rfl, rfl⟩) (fun h => absurd rfl h) HA HZ HD HS HG (hide fun h => absurd h hl) HTH (hide fun W r gb cb lb h _ _ _ hr => las_nil 33 _ _ _ r W (at0 W h) hr hl) HL2 (hide fun W r gb lb kb h _ _ _ hr => las_nil 39 _ _ _ r W (at0 W h) hr hl)
  · have hsf : (sfault N zs l).1 ≠ 0 := by rw [sfault_g hgf]; exact hgf
    have HA := hide (fun W x m (h : Below w.heap.size w W) (h1 : Sl W x zs) (h2 : Sl W m l) => ans_bad (at0 W h) (central_bad N x m zs l W h1 h2 hsf))
    have HZ := hide (fun W x (h : Below w.heap.size w W) (h1 : Sl W x zs) => ans_bad (at0 W h) (centre_bad N x zs W h1 hgf))
    have HD := hide (fun W x y z (h : Below w.heap.size w W) (h1 : Sl W x zs) (h2 : Sl W y l) (_ : Sl W z k) => ans_bad (at0 W h) (comm_bad N x y z zs l W h1 h2 hsf))
    exact centres_walk N v1 v2 v3 u1 u2 u3 m1 m2 m3 zs l k w hv hu hm hT hz hl8 hk8 _ _ _ _ _ _ _ _ _ [] (fun _ => hsf) (fun _ => ⟨rfl, rfl⟩) (fun _ => rfl) HA HZ HD HS HG (hide fun h => absurd h hsf) (hide fun h => absurd h hgf) (hide fun W r gb cb lb h _ _ _ hr => las_nil 33 _ _ _ r W (at0 W h) hr hsf) (hide fun W r gb cb ab av h _ _ _ _ hr => las_nil 36 _ _ _ r W (at0 W h) hr hgf) (hide fun W r gb lb kb h _ _ _ hr => las_nil 39 _ _ _ r W (at0 W h) hr hsf)
end Go.Proofs.YtccilfkaflpnbaaDoor
