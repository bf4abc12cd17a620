/- The law's rising series: what it answers. No condition but the group. The law's rising series: what it answers. No condition but the group. The law's falling series with all: what it answers. Conditions: what the series' sets are like, and that they fall. Package series' Solvable; the closures of the law SeriesGo; how far a series goes is settled. Condition: the library's table of places lies as its text lays it. The law SeriesGo: at every table it returns true. Condition: the library's table of places lies as its text lays it. The frame that all rows of this family share: how a table that came in reads. The frame that all rows of this family share: what the listed table gives a walk; how a list of ints that came in reads. -/
import Derived.Test.YtolbpjjjoafkkaaDoorZ8
import Derived.Test.YtolbpjjjoafkkaaDoorRows
import Derived.Test.YtolbpjjjoafkkaaDoorZ1
import Derived.ProofKit
import Derived.OpenShut
import Derived.ChangeOld
import Derived.Below
import Derived.SizedLaws
import Derived.LaidMore
import Derived.Stop.Joined
import Derived.Stop.LaidErr
import Derived.Lib.LaidTab
namespace Go.Proofs.YtolbpjjjoafkkaaDoor
open Go Go.RowKit

/-- The lists that lie in a slice of slices, none of them in the block X. -/
def LstX (W : World) (B X : Nat) (r : Value) (vs : List Value) (ls : List (List Int)) : Prop := vs.length = ls.length ∧ ∀ (t : Nat) (x : Value) (l : List Int), vs[t]? = some x → ls[t]? = some l → ∃ a cap pb po, x = .slice a l.length cap ∧ Reads W a pb po l ∧ pb < W.heap.size ∧ l.length ≤ cap ∧ cap ≤ maxLen ∧ B ≤ pb ∧ pb ≠ X ∧ ∀ g, r.ownBlock = some g → pb ≠ g
theorem LstX.lsts {W : World} {B X : Nat} {r : Value} {vs : List Value} {ls : List (List Int)} (h : LstX W B X r vs ls) : Lsts W B r vs ls := ⟨h.1, fun t x l h1 h2 => by
  obtain ⟨a, cap, pb, po, h3, h4, h5, h6, h7, h8, _, h9⟩ := h.2 t x l h1 h2
  exact ⟨a, cap, pb, po, h3, h4, h5, h6, h7, h8, h9⟩⟩
theorem LstX.keep {W W' : World} {B X : Nat} {r r' : Value} {vs : List Value} {ls : List (List Int)} (h : LstX W B X r vs ls) (hs : W.heap.size ≤ W'.heap.size) (hk : ∀ g, B ≤ g → g < W.heap.size → g ≠ X → r.ownBlock ≠ some g → W'.heap[g]? = W.heap[g]?) (hr : r'.ownBlock = r.ownBlock ∨ ∀ g, r'.ownBlock = some g → W.heap.size ≤ g) : LstX W' B X r' vs ls := by
  refine ⟨h.1, fun t x l h1 h2 => ?_⟩
  obtain ⟨a, cap, pb, po, rfl, h3, h4, h5, h6, h7, hX, h8⟩ := h.2 t x l h1 h2
  refine ⟨a, cap, pb, po, rfl, h3.of_eq (hk pb h7 h4 hX (fun e => h8 pb e rfl)), Nat.lt_of_lt_of_le h4 hs, h5, h6, h7, hX, fun g hg => ?_⟩
  rcases hr with hr | hr
  · exact h8 g (by rw [← hr]; exact hg)
  · have := hr g hg; omega
theorem LstX.snoc {W : World} {B X : Nat} {r : Value} {vs : List Value} {ls : List (List Int)} {x : Value} {l : List Int} (h : LstX W B X r vs ls) (hx : ∃ a cap pb po, x = Value.slice a l.length cap ∧ Reads W a pb po l ∧ pb < W.heap.size ∧ l.length ≤ cap ∧ cap ≤ maxLen ∧ B ≤ pb ∧ pb ≠ X ∧ ∀ g, r.ownBlock = some g → pb ≠ g) : LstX W B X r (vs ++ [x]) (ls ++ [l]) := by
  refine ⟨by simp [h.1], fun t y m h1 h2 => ?_⟩
  by_cases ht : t < vs.length
  · rw [List.getElem?_append_left ht] at h1
    rw [List.getElem?_append_left (by rw [← h.1]; exact ht)] at h2
    exact h.2 t y m h1 h2
  · have hv : t = vs.length := by
      have := (List.getElem?_eq_some_iff.1 h1).1
      simp at this; omega
    subst hv
    rw [List.getElem?_append_right (Nat.le_refl _)] at h1
    rw [List.getElem?_append_right (by rw [h.1]; exact Nat.le_refl _), h.1] at h2
    simp at h1 h2
    subst h1 h2
    exact hx
theorem call84 (a : Int) (x y : Value) (W : World) : Sem.run Tryd.prog (callFunc 84 (#[.int .i64 a] ++ #[x, y])) W = .ok (.enter 84 (#[.int .i64 a] ++ #[x, y])) W := by kernel_rfl
theorem dec_lst {n t : Nat} {q : Nat → Bool} (ht : t < n) : decide ((t : Int) ∈ li (lst n q)) = q t := by
  rw [Bool.eq_iff_iff, decide_eq_true_eq, mem_li, mem_lst]
  exact ⟨fun h => h.2, fun h => ⟨ht, h⟩⟩
set_option maxRecDepth 100000 in
set_option maxHeartbeats 2000000 in
theorem ris1_ok (n e gb sb a : Nat) (v sv : Value) (zs : List Int) (q : Nat → Bool) (w : World) (hv : Sl w v zs) (hg : IsGrp n zs e) (hb : BoxG w gb n v) (hs : Boxed w sb 22 sv) (hsl : Sl w sv (li (lst n q))) (ha : a < n) :
    Calls Tryd.prog 84 (#[.int .i64 a] ++ #[.pointer (some ⟨gb, 0, none⟩), .pointer (some ⟨sb, 0, none⟩)]) w fun x w' => x = .returned (.bool (upq n zs e q a)) ∧ Below w.heap.size w w' := by
  show Calls Tryd.prog 84 #[.int .i64 a, .pointer (some ⟨gb, 0, none⟩), .pointer (some ⟨sb, 0, none⟩)] w _
  have hn := hg.tab.le
  obtain ⟨s1, s2, s3, rfl⟩ := hsl.isSlice
  go_enter Tryd.func84, Tryd.ntmps84
  go_wp2_with fail
  go_loopw [5] (fun i wr => ∃ k : Nat, k ≤ n ∧ i = .int .i64 k ∧ (∀ b, b < k → q (Fin.cm (tm n zs) (iv n zs e) a b) = true) ∧ Below w.heap.size w wr) (fun i _ => n - (intOf i).toNat)
  case atStart => exact ⟨0, Nat.zero_le _, rfl, fun b h => by omega, Below.refl _ _⟩
  case round =>
    obtain ⟨k, hk, rfl, hal, hB⟩ := hrel
    have HAL := hide hal
    clear hal
    have hbr := blk_below hb hB
    obtain ⟨c0, c1, _, _⟩ := hbr.two
    by_cases hlt : k < n
    · have hki : (k : Int) < (n : Int) := by omega
      have s0 := (Boxed.below hs hB).cell
      have hct := cm_lt hg ha hlt
      have HCM := hide (fun W (h : Below wr.heap.size wr W) => rcm_ok n e a k v zs W hg (hv.below (bcat2 hB h)) ha hlt)
      have HHA := hide (fun W (h : Below wr.heap.size wr W) => rhas_ok (.slice s1 s2 s3) (li (lst n q)) (Fin.cm (tm n zs) (iv n zs e) a k : Nat) W (hsl.below (bcat2 hB h)))
      rw [dec_lst hct] at HHA
      have HT := hide (show q (Fin.cm (tm n zs) (iv n zs e) a k) = true → ∀ b, b < k + 1 → q (Fin.cm (tm n zs) (iv n zs e) a b) = true from fun h b hb9 => by
        by_cases h9 : b = k
        · rw [h9]; exact h
        · exact HAL.out b (by omega))
      have HF := hide (show q (Fin.cm (tm n zs) (iv n zs e) a k) = false → upq n zs e q a = false from fun h => by
        rw [Bool.eq_false_iff]
        intro h9
        rw [upq_iff.1 h9 k hlt] at h
        cases h)
      generalize Fin.cm (tm n zs) (iv n zs e) a k = t at *
      generalize q t = b9 at *
      have hS : ∀ W, Below wr.heap.size wr W → (Below wr.heap.size wr W ∧ W.cell? ⟨gb, 0, none⟩ = some (.int .i64 n) ∧ W.cell? ⟨gb, 1, none⟩ = some v ∧ W.cell? ⟨sb, 0, none⟩ = some (.slice s1 s2 s3)) := fun W h => ⟨h, below_cell h c0, below_cell h c1, below_cell h s0⟩
      have hS0 := hS _ (bdrew (Below.refl _ wr))
      cases b9 with
      | true =>
        go_wp2_with fail
        clear c0 c1 s0
        go_region_held3 (fun W => Below wr.heap.size wr W ∧ W.cell? ⟨gb, 0, none⟩ = some (.int .i64 n) ∧ W.cell? ⟨gb, 1, none⟩ = some v ∧ W.cell? ⟨sb, 0, none⟩ = some (.slice s1 s2 s3))
          (first | exact hS0 | assumption | exact hS _ (bcat2 (And.left ‹_›) hl1))
          (first
            | (go_at_call 82; refine (HCM.out _ (And.left ‹_›)).mono ?_; rintro e1 W1 ⟨rfl, hl1⟩)
            | (go_at_call 26; refine (HHA.out _ (And.left ‹_›)).mono ?_; rintro e2 W2 ⟨rfl, rfl⟩))
        all_goals (
          have hB9 := And.left ‹Below wr.heap.size wr W2 ∧ _›
          go_wp2
          go_roundw
          case rel => exact ⟨k + 1, by omega, by go_num, HT.out (by simp), bcat2 hB hB9⟩
          case measure => simp [intOf]; omega)
      | false =>
        go_wp2_with fail
        clear c0 c1 s0
        go_region_held3 (fun W => Below wr.heap.size wr W ∧ W.cell? ⟨gb, 0, none⟩ = some (.int .i64 n) ∧ W.cell? ⟨gb, 1, none⟩ = some v ∧ W.cell? ⟨sb, 0, none⟩ = some (.slice s1 s2 s3))
          (first | exact hS0 | assumption | exact hS _ (bcat2 (And.left ‹_›) hl1))
          (first
            | (go_at_call 82; refine (HCM.out _ (And.left ‹_›)).mono ?_; rintro e1 W1 ⟨rfl, hl1⟩)
            | (go_at_call 26; refine (HHA.out _ (And.left ‹_›)).mono ?_; rintro e2 W2 ⟨rfl, rfl⟩))
        all_goals (
          have hB9 := And.left ‹Below wr.heap.size wr W2 ∧ _›
          go_wp2
          go_ret
          exact ⟨by rw [HF.out (by simp)] <;> rfl, bcat2 hB hB9⟩)
    · have hki : ¬ (k : Int) < (n : Int) := by omega
      have HU := hide (show upq n zs e q a = true from upq_iff.2 fun b hb9 => HAL.out b (by omega))
      go_wp2
      go_ret
      exact ⟨by rw [HU.out] <;> rfl, hB⟩
end Go.Proofs.YtolbpjjjoafkkaaDoor

namespace Go.Proofs.YtolbpjjjoafkkaaDoor
open Go Go.RowKit

set_option maxRecDepth 100000 in
set_option maxHeartbeats 8000000 in
theorem rise_ok (n e : Nat) (v : Value) (zs : List Int) (w : World) (hv : Sl w v zs) (hg : IsGrp n zs e) :
    Calls Tryd.prog 48 #[.agg #[.int .i64 n, v]] w fun x w' => ∃ K y, x = .returned y ∧ Stp n (upq n zs e) (Nsg n zs e) (fun q => n - (lst n q).length) (fun a => decide (a = e)) K ∧ bs (itr (upq n zs e) (fun a => decide (a = e)) (K + 1)) n = bs (itr (upq n zs e) (fun a => decide (a = e)) K) n ∧ SlL w' y (sls n (itr (upq n zs e) (fun a => decide (a = e))) (K + 1)) ∧ Below w.heap.size w w' := by
  have hn := hg.tab.le
  obtain ⟨i0, hi, hz0, hz1, hz2⟩ := info_parts info22b
  obtain ⟨w0, hw0⟩ : ∃ w0, w0 = w.alloc (.cells #[.int .i64 n, v] 24) := ⟨_, rfl⟩
  have hB0 : Below w.heap.size w w0 := by rw [hw0]; exact balloc w _
  have hX0 : BoxG w0 w.heap.size n v := by rw [hw0]; exact blk0 (w := w) (T := 24) _ _
  have hpos9 : 0 < w0.heap.size := by rw [hw0]; simp
  obtain ⟨c0, c1, _, _⟩ := hX0.two
  have HEO := hide (E_ok n v zs w0 hg.tab (hv.below hB0))
  rw [hg.one] at HEO
  rw [hw0] at c0 c1
  go_enter Tryd.func48, Tryd.ntmps48
  go_wp2_with fail
  rw [← hw0]
  clear c0 c1 hw0
  refine HEO.out.mono ?_
  rintro x w1 ⟨rfl, hb1⟩
  have h1l : li (lst n fun a => decide (a = e)) = [(e : Int)] := by rw [one_lst hg.elt]; rfl
  obtain ⟨wA, hwA⟩ : ∃ wA, wA = (w1.alloc (.cells #[.int .i64 e] 3)).alloc (.cells #[.slice (some ⟨w1.heap.size, 0, none⟩) 1 1] 22) := ⟨_, rfl⟩
  have hbA : Below w1.heap.size w1 wA := by rw [hwA]; exact (balloc w1 _).alloc (by simp) _
  have hzA : wA.heap.size = w1.heap.size + 2 := by rw [hwA]; simp
  have hSB : Boxed wA (w1.heap.size + 1) 22 (.slice (some ⟨w1.heap.size, 0, none⟩) 1 1) := by
    rw [hwA]
    have := Boxed.new (w1.alloc (.cells #[.int .i64 e] 3)) 22 (.slice (some ⟨w1.heap.size, 0, none⟩) 1 1)
    rwa [World.size_alloc] at this
  have hRd : Reads wA (some ⟨w1.heap.size, 0, none⟩) w1.heap.size 0 [(e : Int)] := ⟨fun _ => rfl, fun k hk => by
    have : k = 0 := by simp at hk; omega
    subst this
    rw [hwA]
    exact below_cell (balloc _ _) (cell1 w1 (.int .i64 e) 3)⟩
  have hrow0 : (wA.alloc (.cells #[.slice (some ⟨w1.heap.size, 0, none⟩) 1 1] 22)).ownsRow (w1.heap.size + 2) 22 1 (.slice (some ⟨w1.heap.size + 2, 0, none⟩) 1 1) 1 [.slice (some ⟨w1.heap.size, 0, none⟩) 1 1] := by
    have := World.ownsRow_lit (base := w1.heap.size + 2) (e := 22) (size := 1) wA #[.slice (some ⟨w1.heap.size, 0, none⟩) 1 1] 1 (by omega) (by unfold maxLen; omega) rfl
    rwa [hzA] at this
  have hbB := balloc wA (.cells #[.slice (some ⟨w1.heap.size, 0, none⟩) 1 1] 22)
  have hls0 : LstX (wA.alloc (.cells #[.slice (some ⟨w1.heap.size, 0, none⟩) 1 1] 22)) w1.heap.size (w1.heap.size + 1) (.slice (some ⟨w1.heap.size + 2, 0, none⟩) 1 1) [.slice (some ⟨w1.heap.size, 0, none⟩) 1 1] (sls n (itr (upq n zs e) (fun a => decide (a = e))) 1) := by
    refine ⟨by simp [sls], fun t x l h1 h2 => ?_⟩
    match t, h1, h2 with
    | 0, h1, h2 =>
      simp [sls, itr, h1l] at h1 h2
      subst h1 h2
      exact ⟨some ⟨w1.heap.size, 0, none⟩, 1, w1.heap.size, 0, rfl, hRd.below hbB (by omega), by simp; omega, by simp, by unfold maxLen; omega, Nat.le_refl _, by omega, fun g hg => by simp [Value.ownBlock] at hg; omega⟩
  have hSBB := Boxed.below hSB hbB
  have hRdB := hRd.below hbB (by omega)
  have hBB := bcat2 hb1 (bcat2 hbA hbB)
  have hzB : (wA.alloc (.cells #[.slice (some ⟨w1.heap.size, 0, none⟩) 1 1] 22)).heap.size = w1.heap.size + 3 := by simp [hzA]
  have t0 := hSB.cell
  rw [hwA] at t0
  go_wp2_with fail
  rw [← hwA]
  clear t0 hRd hSB hbB
  have hw1s := hb1.size
  clear hbA hwA
  generalize w1.heap.size = B1 at *
  generalize wA.alloc (.cells #[.slice (some ⟨B1, 0, none⟩) 1 1] 22) = wB at *
  go_loopw [4] (fun s4 wr => ∃ (i : Nat) (sa : Option Addr) (sc sb so : Nat) (oa : Option Addr) (oc : Nat) (vs : List Value), s4 = .slice oa vs.length oc ∧ Hid (Stp n (upq n zs e) (Nsg n zs e) (fun q => n - (lst n q).length) (fun a => decide (a = e)) i) ∧ Boxed wr (B1 + 1) 22 (.slice sa (li (lst n (itr (upq n zs e) (fun a => decide (a = e)) i))).length sc) ∧ Reads wr sa sb so (li (lst n (itr (upq n zs e) (fun a => decide (a = e)) i))) ∧ sb < wr.heap.size ∧ (li (lst n (itr (upq n zs e) (fun a => decide (a = e)) i))).length ≤ sc ∧ sc ≤ maxLen ∧ sb ≠ B1 + 1 ∧ wr.ownsRow (B1 + 2) 22 1 (.slice oa vs.length oc) vs.length vs ∧ LstX wr B1 (B1 + 1) (.slice oa vs.length oc) vs (sls n (itr (upq n zs e) (fun a => decide (a = e))) (i + 1)) ∧ Below w0.heap.size w0 wr ∧ B1 + 3 ≤ wr.heap.size) (fun s4 _ => 70 - lenOf s4)
  case atStart =>
    have hl1 : (lst n fun a => decide (a = e)).length = 1 := by rw [one_lst hg.elt]; rfl
    exact ⟨0, some ⟨B1, 0, none⟩, 1, B1, 0, some ⟨B1 + 2, 0, none⟩, 1, [.slice (some ⟨B1, 0, none⟩) 1 1], rfl, hide ⟨fun i h => by omega, fun i h => by rw [show i = 0 by omega]; exact Nsg.one_alone hg, by show n - _ + 0 ≤ 60; omega⟩, by rw [show itr (upq n zs e) (fun a => decide (a = e)) 0 = (fun a => decide (a = e)) from rfl, h1l]; exact hSBB, by rw [show itr (upq n zs e) (fun a => decide (a = e)) 0 = (fun a => decide (a = e)) from rfl, h1l]; exact hRdB, by omega, by rw [show itr (upq n zs e) (fun a => decide (a = e)) 0 = (fun a => decide (a = e)) from rfl, h1l]; simp, by unfold maxLen; omega, by omega, hrow0, hls0, hBB, by omega⟩
  case round =>
    clear hrow0 hls0 hSBB hRdB hBB hzB hzA h1l HEO
    obtain ⟨i, sa, sc, sb, so, oa, oc, vs, rfl, HS, hSB, hRd, hsb, hsl1, hsl2, hsx, hrow, hls, hB, hzz⟩ := hrel
    have hm := HS.out.meas
    have HNX := hide (show itr (upq n zs e) (fun a => decide (a = e)) (i + 1) = upq n zs e (itr (upq n zs e) (fun a => decide (a = e)) i) from rfl)
    have hsl : Sl wr (.slice sa (li (lst n (itr (upq n zs e) (fun a => decide (a = e)) i))).length sc) (li (lst n (itr (upq n zs e) (fun a => decide (a = e)) i))) := ⟨sa, sc, sb, so, rfl, hRd, hsb, hsl1, hsl2⟩
    have hXr := blk_below hX0 hB
    have HTH := hide (rthose_ok n 84 v #[.pointer (some ⟨w.heap.size, 0, none⟩), .pointer (some ⟨B1 + 1, 0, none⟩)] (upq n zs e (itr (upq n zs e) (fun a => decide (a = e)) i)) wr hn (fun a W => call84 a _ _ W) (fun W a hW ha => ris1_ok n e w.heap.size (B1 + 1) a v _ zs (itr (upq n zs e) (fun a => decide (a = e)) i) W (hv.below (bcat2 (bcat2 hB0 hB) hW)) hg (blk_below hXr hW) (Boxed.below hSB hW) (hsl.below hW) ha))
    rw [← HNX.out] at HTH
    have he9 : itr (upq n zs e) (fun a => decide (a = e)) (i + 1) e = true := ((HS.out.inv i (Nat.le_refl _)).up hg).sg.one
    obtain ⟨c0, c1, _, _⟩ := hXr.two
    go_wp2_with fail
    clear c0 c1
    refine HTH.out.mono ?_
    rintro x9 w8 ⟨tv, rfl, htr, hb8⟩
    obtain ⟨tg, tc, rfl, htf⟩ := row_slf htr (sg_pos hg.elt he9)
    have htl := htf.sl
    have hsl8 := hsl.below hb8
    have hSB8 := Boxed.below hSB hb8
    have hrow8 := own_keep2 hrow (fun g _ h2 => hb8.block g h2)
    have hls8 : LstX w8 B1 (B1 + 1) (.slice oa vs.length oc) vs (sls n (itr (upq n zs e) (fun a => decide (a = e))) (i + 1)) := hls.keep hb8.size (fun g _ h2 _ _ => hb8.block g h2) (.inl rfl)
    have hown2 : ∀ g, (Value.slice oa vs.length oc).ownBlock = some g → g < wr.heap.size := fun g hg => (hrow.lt g hg).2
    have hB8 := bcat2 hB hb8
    have HIN := hide (ints_any _ _ _ _ w8 hsl8 htl)
    have hs8 := hb8.size
    have HLQ := hide (show (li (lst n (itr (upq n zs e) (fun a => decide (a = e)) i))).length ≤ 60 by rw [li_len]; exact Nat.le_trans (lst_len _ _) hn)
    have hl60 : (li (lst n (itr (upq n zs e) (fun a => decide (a = e)) (i + 1)))).length ≤ 60 := by rw [li_len]; exact Nat.le_trans (lst_len _ _) hn
    have t0 := hSB8.cell
    clear htr hrow hls hsl hRd hSB HTH hXr
    go_wp2_with fail
    clear t0
    refine HIN.out.mono ?_
    rintro x9 w9 ⟨rfl, hb9⟩
    have hB9 := bcat2 hB8 hb9
    have hSB9 := Boxed.below hSB8 hb9
    have hrow9 := own_keep2 hrow8 (fun g _ h2 => hb9.block g h2)
    have hls9 : LstX w9 B1 (B1 + 1) (.slice oa vs.length oc) vs (sls n (itr (upq n zs e) (fun a => decide (a = e))) (i + 1)) := hls8.keep hb9.size (fun g _ h2 _ _ => hb9.block g h2) (.inl rfl)
    have hs9 := hb9.size
    have htf9 := htf.below hb9
    clear hrow8 hls8 htf hSB8 htl hsl8
    by_cases heq : bs (itr (upq n zs e) (fun a => decide (a = e)) (i + 1)) n = bs (itr (upq n zs e) (fun a => decide (a = e)) i) n
    · have HQ := hide heq
      rw [decide_eq_true (show li (lst n (itr (upq n zs e) (fun a => decide (a = e)) i)) = li (lst n (itr (upq n zs e) (fun a => decide (a = e)) (i + 1))) from li_same.2 heq.symm)]
      have HSL := hide (SlL.of_own hrow9 hls9.lsts (by omega))
      clear heq hrow9 hls9 htf9
      go_wp2
      go_ret
      exact ⟨i, _, rfl, HS.out, HQ.out, HSL.out, bcat2 hB0 hB9⟩
    · rw [decide_eq_false (show ¬ li (lst n (itr (upq n zs e) (fun a => decide (a = e)) i)) = li (lst n (itr (upq n zs e) (fun a => decide (a = e)) (i + 1))) from fun h9 => heq (li_same.1 h9).symm)]
      have HS2 : Hid (Stp n (upq n zs e) (Nsg n zs e) (fun q => n - (lst n q).length) (fun a => decide (a = e)) (i + 1)) := hide (by
        have hI := HS.out.inv i (Nat.le_refl _)
        have h3 := less_of n (p := (itr (upq n zs e) (fun a => decide (a = e)) i)) (q := upq n zs e (itr (upq n zs e) (fun a => decide (a = e)) i)) (fun x hx h3 => up_has hg hI hx h3) (fun h9 => heq h9.symm)
        have h4 := lst_len n (upq n zs e (itr (upq n zs e) (fun a => decide (a = e)) i))
        have h7 : n - (lst n (itr (upq n zs e) (fun a => decide (a = e)) i)).length + i ≤ 60 := HS.out.meas
        refine ⟨fun t h => ?_, fun t h => ?_, ?_⟩
        · by_cases h1 : t = i
          · rw [h1]; exact heq
          · exact HS.out.go t (by omega)
        · by_cases h1 : t = i + 1
          · rw [h1]; exact hI.up hg
          · exact HS.out.inv t (by omega)
        · show n - (lst n (upq n zs e (itr (upq n zs e) (fun a => decide (a = e)) i))).length + (i + 1) ≤ 60
          omega)
      have HVL := hide (show vs.length = i + 1 by rw [hls9.1, sls_len])
      have hv61 : vs.length ≤ 61 := by
        rw [HVL.out]
        have h7 : n - (lst n (itr (upq n zs e) (fun a => decide (a = e)) i)).length + i ≤ 60 := HS.out.meas
        omega
      have HUPS := hide (sls_up n (itr (upq n zs e) (fun a => decide (a = e))) (i + 1))
      obtain ⟨qa9, qcap9, qb9, qo9, hqe9, hq9, hq91, hq92, hq93, hq94⟩ := htf9
      injection hqe9 with hqe91 hqe92 hqe93
      subst hqe91 hqe93
      have HQ9 := hide hq9
      have f0 := hSB9.cell
      have ff := hSB9.frozen
      clear heq hq9 hqe92 HIN hm
      generalize hlj : li (lst n (itr (upq n zs e) (fun a => decide (a = e)) (i + 1))) = lj at *
      have HLJ := hide hlj
      clear hlj
      -- the box holds the new one
      obtain ⟨w10, hw10⟩ : ∃ w10, w10 = w9.setCell ⟨B1 + 1, 0, none⟩ (.slice (some ⟨tg, 0, none⟩) lj.length tc) := ⟨_, rfl⟩
      have hz10 : w10.heap.size = w9.heap.size := by rw [hw10, size_set]
      have hk10 : ∀ g, g ≠ B1 + 1 → w10.heap[g]? = w9.heap[g]? := fun g hne => by rw [hw10]; exact Below.heap_setCell _ _ _ g hne
      have hSB10 : Boxed w10 (B1 + 1) 22 (.slice (some ⟨tg, 0, none⟩) lj.length tc) := by rw [hw10]; exact hSB9.set _
      have hB10 : Below w0.heap.size w0 w10 := by rw [hw10]; exact bSet hB9 (by omega)
      have hrow10 := own_keep2 (W' := w10) hrow9 (fun g h1 _ => hk10 g (by omega))
      have hls10 : LstX w10 B1 (B1 + 1) (.slice oa vs.length oc) vs (sls n (itr (upq n zs e) (fun a => decide (a = e))) (i + 1)) := hls9.keep (by omega) (fun g _ _ h3 _ => hk10 g h3) (.inl rfl)
      have hrd10 := HQ9.out.of_eq (hk10 qb9 (by omega))
      have t0 := hSB10.cell
      rw [hw10] at t0
      clear hrow9 hls9 hSB9
      have hrowS : (w9.setCell ⟨B1 + 1, 0, none⟩ (.slice (some ⟨tg, 0, none⟩) lj.length tc)).ownsRow (B1 + 2) 22 1 (.slice oa vs.length oc) vs.length vs := by rw [← hw10]; exact hrow10
      go_wp2_with (first
        | (at_builtin; refine wpList_append_own_at _ rfl _ _ 25 rfl (B1 + 2) 22 i0 (.slice none 0 0) 1 24 und38s hi hz0 hz1 hz2 rfl (by decide) _ _ _ rfl (World.ownsRow.alloc hrowS _) ⟨w9.heap.size, 0, none⟩ 1 1 [.slice (some ⟨tg, 0, none⟩) lj.length tc] rfl rfl ?c1 ?c2 ?c3 ?c4 ?c5 ?_))
      case c1 =>
        intro j u h
        have := cell_one_new (w9.setCell ⟨B1 + 1, 0, none⟩ (.slice (some ⟨tg, 0, none⟩) lj.length tc)) (.slice (some ⟨tg, 0, none⟩) lj.length tc) 22 j u h
        rwa [size_set] at this
      case c2 => simp [Value.oneCell']
      case c3 => unfold maxLen; omega
      case c4 => omega
      case c5 => simp; omega
      intro v' wz hown' hgrow hnil hloc
      rw [← hw10] at hgrow
      obtain ⟨ra', rcap', rfl⟩ := own_slice' hown'
      have hBz : Below w0.heap.size w0 wz := (hB10.alloc (by omega) _).grown hgrow (by simp; omega) (fun t e => by have := owns_ge hrow10 t e; omega)
      have hbl : ∀ g, g < w10.heap.size → (Value.slice oa vs.length oc).ownBlock ≠ some g → wz.heap[g]? = w10.heap[g]? := fun g h1 h2 => (hgrow.block g (by simp; omega) (fun e => h2 e.symm)).trans (Below.block (balloc w10 _) g h1)
      have hsz : w10.heap.size < wz.heap.size := by have := hgrow.size; simp at this; omega
      have hlo : (Value.slice ra' (vs.length + 1) rcap').ownBlock = (Value.slice oa vs.length oc).ownBlock ∨ ∀ g, (Value.slice ra' (vs.length + 1) rcap').ownBlock = some g → w10.heap.size ≤ g := by
        rcases hloc with h | h
        · exact .inl h
        · right; intro g hg; rw [h] at hg; simp at hg; omega
      have hrdz := hrd10.of_eq (hbl qb9 (by omega) (fun e => by have := hown2 _ e; omega))
      have hSBz : Boxed wz (B1 + 1) 22 (.slice (some ⟨tg, 0, none⟩) lj.length tc) := (hbl (B1 + 1) (by omega) (fun e => by have := owns_ge hrow10 _ e; omega)).trans hSB10
      have hlsz := (hls10.keep (r' := .slice ra' (vs.length + 1) rcap') (by omega) (fun g _ h2 _ h3 => hbl g h2 h3) hlo).snoc (x := .slice (some ⟨tg, 0, none⟩) lj.length tc) (l := lj) ⟨some ⟨tg, 0, none⟩, tc, qb9, qo9, rfl, hrdz, by omega, hq92, hq93, by omega, by omega, fun g hg e => by
        subst e
        rcases hlo with h | h
        · have := hown2 _ (h ▸ hg); omega
        · have := h _ hg; omega⟩
      have hrowz : wz.ownsRow (B1 + 2) 22 1 (.slice ra' (vs ++ [Value.slice (some ⟨tg, 0, none⟩) lj.length tc]).length rcap') (vs ++ [Value.slice (some ⟨tg, 0, none⟩) lj.length tc]).length (vs ++ [Value.slice (some ⟨tg, 0, none⟩) lj.length tc]) := by simpa using hown'
      have hlsz2 : LstX wz B1 (B1 + 1) (.slice ra' (vs ++ [Value.slice (some ⟨tg, 0, none⟩) lj.length tc]).length rcap') (vs ++ [Value.slice (some ⟨tg, 0, none⟩) lj.length tc]) (sls n (itr (upq n zs e) (fun a => decide (a = e))) (i + 1 + 1)) := by
        rw [HUPS.out]
        simpa using hlsz
      clear hown' hgrow hloc hlo hbl hrow10 hls10 hlsz hrowS t0 f0 ff hw10
      go_wp2
      go_roundw
      case rel => exact ⟨i + 1, some ⟨tg, 0, none⟩, tc, qb9, qo9, ra', rcap', _, by simp, HS2, by rw [HLJ.out]; exact hSBz, by rw [HLJ.out]; exact hrdz, by omega, by rw [HLJ.out]; exact hq92, hq93, by omega, hrowz, hlsz2, hBz, by omega⟩
      case measure => simp [lenOf]; omega
end Go.Proofs.YtolbpjjjoafkkaaDoor

namespace Go.Proofs.YtolbpjjjoafkkaaDoor
open Go Go.RowKit

set_option maxRecDepth 100000 in
set_option maxHeartbeats 8000000 in
theorem fallT_ok (n e : Nat) (v : Value) (zs : List Int) (I : (Nat → Bool) → Prop) (w : World) (hv : Sl w v zs) (hg : IsGrp n zs e) (hI0 : I (fun _ => true)) (hI : ∀ q, I q → bs (fl n zs e true q) n ≠ bs q n → I (fl n zs e true q) ∧ (lst n (fl n zs e true q)).length < (lst n q).length) :
    Calls Tryd.prog 45 #[.agg #[.int .i64 n, v], .bool true] w fun x w' => ∃ K y, x = .returned y ∧ Stp n (fl n zs e true) I (fun q => (lst n q).length) (fun _ => true) K ∧ bs (itr (fl n zs e true) (fun _ => true) (K + 1)) n = bs (itr (fl n zs e true) (fun _ => true) K) n ∧ SlL w' y (sls n (itr (fl n zs e true) (fun _ => true)) (K + 1)) ∧ Below w.heap.size w w' := by
  have hn := hg.tab.le
  obtain ⟨i0, hi, hz0, hz1, hz2⟩ := info_parts info22b
  obtain ⟨i3, hi3, hy0, hy1, hy2⟩ := info_parts info3b
  have HI := hide hI
  clear hI
  obtain ⟨w0, hw0⟩ : ∃ w0, w0 = w.alloc (.cells #[.int .i64 n, v] 24) := ⟨_, rfl⟩
  have hB0 : Below w.heap.size w w0 := by rw [hw0]; exact balloc w _
  have hX0 : BoxG w0 w.heap.size n v := by rw [hw0]; exact blk0 (w := w) (T := 24) _ _
  have hpos9 : 0 < w0.heap.size := by rw [hw0]; simp
  obtain ⟨c0, c1, _, _⟩ := hX0.two
  rw [hw0] at c0 c1
  go_enter Tryd.func45, Tryd.ntmps45
  go_wp2_with fail
  rw [← hw0]
  clear c0 c1 hw0
  refine (stays_ok n _ hn).mono ?_
  rintro x w1 ⟨sv, rfl, hsr, hb1⟩
  rw [← lst_all] at hsr
  have hpos1 : 0 < w1.heap.size := Nat.lt_of_lt_of_le hpos9 hb1.size
  have hs1 := row_sl hsr hpos1
  obtain ⟨sg1, sc1, rfl, hsf1⟩ := row_slf hsr (sg_pos hg.elt rfl)
  have hsl1 := hsf1.sl
  obtain ⟨qa, qcap, qb, qo, hqe, hq, hq1, hq2, hq3, hq4⟩ := hsf1
  rw [hqe] at hsl1 ⊢
  have hrow0 : (w1.alloc (.cells #[.slice qa (li (lst n fun _ => true)).length qcap] 22)).ownsRow w0.heap.size 22 1 (.slice (some ⟨w1.heap.size, 0, none⟩) 1 1) 1 [.slice qa (li (lst n fun _ => true)).length qcap] := World.ownsRow_lit (e := 22) (size := 1) w1 #[.slice qa (li (lst n fun _ => true)).length qcap] 1 hb1.size (by unfold maxLen; omega) rfl
  have hbA := balloc w1 (.cells #[.slice qa (li (lst n fun _ => true)).length qcap] 22)
  have hls0 : Lsts (w1.alloc (.cells #[.slice qa (li (lst n fun _ => true)).length qcap] 22)) w0.heap.size (.slice (some ⟨w1.heap.size, 0, none⟩) 1 1) [.slice qa (li (lst n fun _ => true)).length qcap] (sls n (itr (fl n zs e true) (fun _ => true)) 1) := by
    refine ⟨by simp [sls], fun t x l h1 h2 => ?_⟩
    match t, h1, h2 with
    | 0, h1, h2 =>
      simp [sls, itr] at h1 h2
      subst h1 h2
      exact ⟨qa, qcap, qb, qo, by simp, hq.below hbA hq1, by simp; omega, hq2, hq3, hq4, fun g hg => by simp [Value.ownBlock] at hg; omega⟩
  have hslA := hsl1.below hbA
  have hBA := bcat2 hb1 hbA
  have HLN := hide (li_len (lst n fun _ => true))
  generalize hL1 : (li (lst n fun _ => true)).length = L1 at *
  clear hsr hs1 hsl1 hq hq1 hq2 hq3 hq4 hbA hqe
  go_wp2_with fail
  generalize w1.alloc (.cells #[.slice qa L1 qcap] 22) = wA at *
  go_loopw [5, 6] (fun s5 s6 wr => ∃ (i : Nat) (sa : Option Addr) (sc : Nat) (oa : Option Addr) (oc : Nat) (vs : List Value), s5 = .slice sa (li (lst n (itr (fl n zs e true) (fun _ => true) i))).length sc ∧ s6 = .slice oa vs.length oc ∧ Hid (Stp n (fl n zs e true) I (fun q => (lst n q).length) (fun _ => true) i) ∧ Sl wr (.slice sa (li (lst n (itr (fl n zs e true) (fun _ => true) i))).length sc) (li (lst n (itr (fl n zs e true) (fun _ => true) i))) ∧ wr.ownsRow w0.heap.size 22 1 (.slice oa vs.length oc) vs.length vs ∧ Lsts wr w0.heap.size (.slice oa vs.length oc) vs (sls n (itr (fl n zs e true) (fun _ => true)) (i + 1)) ∧ Below w0.heap.size w0 wr) (fun _ s6 _ => 70 - lenOf s6)
  case atStart => exact ⟨0, qa, qcap, some ⟨w1.heap.size, 0, none⟩, 1, [.slice qa L1 qcap], by rw [show itr (fl n zs e true) (fun _ => true) 0 = (fun _ => true) from rfl, hL1], rfl, hide ⟨fun i h => by omega, fun i h => by rw [show i = 0 by omega]; exact hI0, by show (lst n fun _ => true).length + 0 ≤ 60; rw [lst_all, List.length_range]; omega⟩, by rw [show itr (fl n zs e true) (fun _ => true) 0 = (fun _ => true) from rfl, hL1]; exact hslA, hrow0, hls0, hBA⟩
  case round =>
    clear hrow0 hls0 hBA hslA hI0 hL1 HLN hb1 hpos1
    obtain ⟨i, sa, sc, oa, oc, vs, rfl, rfl, HS, hsl, hrow, hls, hB⟩ := hrel
    have hm := HS.out.meas
    have HUP := hide (show itr (fl n zs e true) (fun _ => true) (i + 1) = cmb n zs e (itr (fl n zs e true) (fun _ => true) i) (fun _ => true) from rfl)
    have hXr := blk_below hX0 hB
    obtain ⟨c0, c1, _, _⟩ := hXr.two
    have hpr : 0 < wr.heap.size := Nat.lt_of_lt_of_le hpos9 hB.size
    go_wp2_with fail
    clear c0 c1
    refine (stays_ok n _ hn).mono ?_
    rintro x w4 ⟨mv, rfl, hmr, hb4⟩
    rw [← lst_all] at hmr
    obtain ⟨mg, mc, rfl, hmf⟩ := row_slf hmr (sg_pos hg.elt rfl)
    have hm4 := hmf.sl
    clear hmr hmf
    generalize (some (⟨mg, 0, none⟩ : Addr)) = ma at hm4 ⊢
    obtain ⟨xs, hxs⟩ : ∃ xs, xs = lst n (itr (fl n zs e true) (fun _ => true) i) := ⟨_, rfl⟩
    have HXS := hide hxs
    rw [← hxs] at hsl hm ⊢
    obtain ⟨ys, hys⟩ : ∃ ys, ys = lst n (fun _ => true) := ⟨_, rfl⟩
    have HYS := hide hys
    have hyl : ys.length ≤ 60 := by rw [hys]; exact Nat.le_trans (lst_len _ _) hn
    have HYN := hide (show ∀ y, y ∈ ys → y < n from fun y h => by rw [hys] at h; exact (mem_lst.1 h).1)
    rw [← hys] at hm4 ⊢
    clear hys
    have hxl : xs.length ≤ 60 := by rw [hxs]; exact Nat.le_trans (lst_len _ _) hn
    have HXN := hide (show ∀ x, x ∈ xs → x < n from fun x h => by rw [hxs] at h; exact (mem_lst.1 h).1)
    clear hxs
    have hsl4 := hsl.below hb4
    have hB4 := bcat2 hB hb4
    have hX4 := blk_below hX0 hB4
    have hrow4 := own_keep2 hrow (fun g _ h2 => hb4.block g h2)
    have hls4 : Lsts w4 w0.heap.size (.slice oa vs.length oc) vs (sls n (itr (fl n zs e true) (fun _ => true)) (i + 1)) := hls.keep hb4.size (fun g _ h2 _ => hb4.block g h2) (.inl rfl)
    clear hsl hrow hls hXr
    obtain ⟨sa', sc', sb, so, hse, hsr, hsp, hsq, hsm⟩ := id hsl4
    obtain ⟨ma', mc', mb, mo, hme, hmr4, hmp, hmq, hmm⟩ := id hm4
    have HLX := hide (li_len xs)
    have HLY := hide (li_len ys)
    have HSR := hide hsr
    have HMR := hide hmr4
    injection hse with hse1 hse2 hse3
    subst hse1 hse3
    injection hme with hme1 hme2 hme3
    subst hme1 hme3
    clear hsr hmr4 hse2 hme2
    rw [HLX.out] at hsl4 hsq ⊢
    rw [HLY.out] at hm4 hmq
    try rw [HLY.out]
    go_wp2_with fail
    go_loopw [8, 9] (fun cv i9 wr => ∃ (k : Nat) (ca : Option Addr) (cc : Nat), k ≤ xs.length ∧ i9 = .int .i64 k ∧ cv = .slice ca (li (cmL n zs e (xs.take k) ys)).length cc ∧ Row wr w4.heap.size (.slice ca (li (cmL n zs e (xs.take k) ys)).length cc) (li (cmL n zs e (xs.take k) ys)) ∧ Below w4.heap.size w4 wr) (fun _ i9 _ => xs.length - (intOf i9).toNat)
    case atStart => exact ⟨0, none, 0, Nat.zero_le _, rfl, rfl, nil_row _ _, Below.refl _ _⟩
    case round =>
      obtain ⟨k, ca, cc, hk, rfl, rfl, hrc, hb⟩ := hrel
      by_cases hlt : k < xs.length
      · have hki : (k : Int) < (xs.length : Int) := by omega
        have hck := (HSR.out.below hb hsp).cell k (by rw [HLX.out]; exact hlt)
        rw [li_get hlt] at hck
        obtain rfl := HSR.out.at_ (by rw [HLX.out]; omega)
        obtain ⟨x, hxe⟩ : ∃ x, xs[k] = x := ⟨_, rfl⟩
        have hxn : x < n := by rw [← hxe]; exact HXN.out _ (List.getElem_mem hlt)
        have hsn : xs.take (k + 1) = xs.take k ++ [x] := by rw [List.take_succ_eq_append_getElem hlt, hxe]
        rw [hxe] at hck
        have HSN := hide hsn
        have HXE := hide hxe
        clear hxe hsn
        have HLC := hide (show (cmL n zs e (xs.take k) ys).length ≤ 3600 by
          rw [cmL_len]
          have h1 : (xs.take k).length ≤ 60 := by rw [List.length_take]; omega
          exact Nat.mul_le_mul h1 hyl)
        generalize hcs : cmL n zs e (xs.take k) ys = cs at *
        have HCS := hide hcs
        clear hcs
        go_wp2_with fail
        go_loopw [8, 10] (fun cv i9 wr => ∃ (j : Nat) (ca : Option Addr) (cc : Nat), j ≤ ys.length ∧ i9 = .int .i64 j ∧ cv = .slice ca (li (cs ++ (ys.take j).map fun y => Fin.cm (tm n zs) (iv n zs e) x y)).length cc ∧ Row wr w4.heap.size (.slice ca (li (cs ++ (ys.take j).map fun y => Fin.cm (tm n zs) (iv n zs e) x y)).length cc) (li (cs ++ (ys.take j).map fun y => Fin.cm (tm n zs) (iv n zs e) x y)) ∧ Below w4.heap.size w4 wr) (fun _ i9 _ => ys.length - (intOf i9).toNat)
        case atStart => exact ⟨0, ca, cc, Nat.zero_le _, rfl, by simp, by simpa using hrc, hb⟩
        case round =>
          clear hrc hb hck
          obtain ⟨j, ca, cc, hj, rfl, rfl, hrc, hb⟩ := hrel
          by_cases hltj : j < ys.length
          · have hji : (j : Int) < (ys.length : Int) := by omega
            have hck := (HSR.out.below hb hsp).cell k (by rw [HLX.out]; exact hlt)
            rw [li_get hlt, HXE.out] at hck
            have hck4 := HSR.out.cell k (by rw [HLX.out]; exact hlt)
            rw [li_get hlt, HXE.out] at hck4
            have hcj := (HMR.out.below hb hmp).cell j (by rw [HLY.out]; exact hltj)
            rw [li_get hltj] at hcj
            have hcj4 := HMR.out.cell j (by rw [HLY.out]; exact hltj)
            rw [li_get hltj] at hcj4
            obtain rfl := HMR.out.at_ (by rw [HLY.out]; omega)
            obtain ⟨y, hye⟩ : ∃ y, ys[j] = y := ⟨_, rfl⟩
            have hyn : y < n := by rw [← hye]; exact HYN.out _ (List.getElem_mem hltj)
            have hsj : ys.take (j + 1) = ys.take j ++ [y] := by rw [List.take_succ_eq_append_getElem hltj, hye]
            rw [hye] at hcj hcj4
            have HSJ := hide (show li (cs ++ (ys.take (j + 1)).map fun y => Fin.cm (tm n zs) (iv n zs e) x y) = li (cs ++ (ys.take j).map fun y => Fin.cm (tm n zs) (iv n zs e) x y) ++ [((Fin.cm (tm n zs) (iv n zs e) x y : Nat) : Int)] by
              rw [hsj, List.map_append, ← List.append_assoc, li_app]
              rfl)
            have HLC2 := hide (show (li (cs ++ (ys.take j).map fun y => Fin.cm (tm n zs) (iv n zs e) x y)).length ≤ 3660 by
              rw [li_len, List.length_append, List.length_map, List.length_take]
              have := HLC.out
              omega)
            clear hye hsj
            have hXb := blk_below hX4 hb
            obtain ⟨c0, c1, _, _⟩ := hXb.two
            have HCM := hide (fun W (h : Below w4.heap.size w4 W) => rcm_ok n e x y v zs W hg (hv.below (bcat2 (bcat2 hB0 hB4) h)) hxn hyn)
            generalize Fin.cm (tm n zs) (iv n zs e) x y = t at *
            generalize li (cs ++ (ys.take j).map fun y => Fin.cm (tm n zs) (iv n zs e) x y) = lc at *
            have hown : wr.ownsRow w4.heap.size 3 1 (.slice ca lc.length cc) lc.length (lc.map (Value.int .i64)) := hrc
            have hs4 := hb.size
            obtain ⟨d0, d1, _, _⟩ := hX4.two
            have hS : ∀ W, Below w4.heap.size w4 W → (Below w4.heap.size w4 W ∧ W.cell? ⟨w.heap.size, 0, none⟩ = some (.int .i64 n) ∧ W.cell? ⟨w.heap.size, 1, none⟩ = some v ∧ W.cell? ⟨sb, so + k, none⟩ = some (.int .i64 x) ∧ W.cell? ⟨mb, mo + j, none⟩ = some (.int .i64 y)) := fun W h => ⟨h, below_cell h d0, below_cell h d1, below_cell h hck4, below_cell h hcj4⟩
            have hS0 := hS _ (bdrew hb)
            clear hck4 hcj4 d0 d1
            go_wp2_with fail
            clear c0 c1 hck hcj
            go_region_held3 (fun W => Below w4.heap.size w4 W ∧ W.cell? ⟨w.heap.size, 0, none⟩ = some (.int .i64 n) ∧ W.cell? ⟨w.heap.size, 1, none⟩ = some v ∧ W.cell? ⟨sb, so + k, none⟩ = some (.int .i64 x) ∧ W.cell? ⟨mb, mo + j, none⟩ = some (.int .i64 y))
              (first | exact hS0 | assumption | exact hS _ (bcat2 (And.left ‹_›) hl5) | exact hS _ (bcat2 hU5 (balloc _ _)) | exact hS _ hB9)
              (first
                | (go_at_call 82; refine (HCM.out _ (And.left ‹_›)).mono ?_; rintro e5 U5 ⟨rfl, hl5⟩; have hU5 := bcat2 (And.left ‹_›) hl5; have hr5 := own_keep2 (W := wr) hown (fun g _ h2 => hl5.block g h2); have hs5 := hl5.size)
                | (refine step_append_lies _ rfl _ _ 22 rfl w4.heap.size 3 i3 (.int .i64 0) 1 8 under22b hi3 hy0 hy1 hy2 rfl (by decide) _ _ _ rfl (World.ownsRow.alloc hr5 _) ⟨U5.heap.size, 0, none⟩ 1 1 [.int .i64 t] rfl rfl (cell_one_new _ _ _) (by simp [Value.oneCell']) (by decide) (by unfold maxLen; have := HLC2.out; omega) (by have := HLC2.out; omega) (by have := hU5.size; simp; omega) _ rfl ?_; intro g9 cap9 w9 hown9 hgrow hloc _; have hB9 : Below w4.heap.size w4 w9 := (hU5.alloc hU5.size _).grown hgrow (by have := hU5.size; simp; omega) (fun t e9 => owns_ge hr5 t e9)))
            all_goals (
              have hrow9 : Row w9 w4.heap.size (.slice (some ⟨g9, 0, none⟩) (li (cs ++ (ys.take (j + 1)).map fun y => Fin.cm (tm n zs) (iv n zs e) x y)).length cap9) (li (cs ++ (ys.take (j + 1)).map fun y => Fin.cm (tm n zs) (iv n zs e) x y)) := by
                rw [HSJ.out]
                unfold Row
                simpa using hown9
              clear hown9 hgrow hloc hr5 hown hrc
              go_wp2
              go_roundw
              case rel => exact ⟨j + 1, some ⟨g9, 0, none⟩, cap9, by omega, by go_num, by rw [HSJ.out]; simp, hrow9, hB9⟩
              case measure => simp [intOf]; omega)
          · have hjn : j = ys.length := by omega
            have HE := hide (show cs ++ (ys.take j).map (fun y => Fin.cm (tm n zs) (iv n zs e) x y) = cmL n zs e (xs.take (k + 1)) ys by
              rw [hjn, List.take_length, HSN.out, cmL_up, HCS.out])
            have hji : ¬ (j : Int) < (ys.length : Int) := by omega
            rw [HE.out] at hrc ⊢
            go_wp2
            go_roundw
            case rel => exact ⟨k + 1, ca, cc, by omega, by go_num, rfl, hrc, hb⟩
            case measure => simp [intOf]; omega
      · have hkn : k = xs.length := by omega
        have hki : ¬ (k : Int) < (xs.length : Int) := by omega
        rw [hkn, List.take_length] at hrc ⊢
        have HSP := hide (fun W u (h : Below w4.heap.size w4 W) (hu : Sl W u (li (cmL n zs e xs ys))) => span_ok n e v u zs (cmL n zs e xs ys) (itr (fl n zs e true) (fun _ => true) (i + 1)) W (hv.below (bcat2 (bcat2 hB0 hB4) h)) hg hu (cmL_lt hg HXN.out HYN.out) (by rw [cmL_len]; exact Nat.le_trans (Nat.mul_le_mul hxl hyl) (by omega)) (fun a ha => by rw [cmL_dec, HUP.out, HXS.out]; (try rw [HYS.out]); exact cmb_iff n zs e _ _ a ha))
        have hpb : 0 < wr.heap.size := Nat.lt_of_lt_of_le (Nat.lt_of_lt_of_le hpos9 hB4.size) hb.size
        have hcsl := row_sl hrc hpb
        have hXb := blk_below hX4 hb
        obtain ⟨c0, c1, _, _⟩ := hXb.two
        have hslb := hsl4.below hb
        have hrowb := own_keep2 hrow4 (fun g _ h2 => hb.block g h2)
        have hlsb : Lsts wr w0.heap.size (.slice oa vs.length oc) vs (sls n (itr (fl n zs e true) (fun _ => true)) (i + 1)) := hls4.keep hb.size (fun g _ h2 _ => hb.block g h2) (.inl rfl)
        have hBb := bcat2 hB4 hb
        clear hrc hrow4 hls4
        go_wp2_with fail
        clear c0 c1
        refine (HSP.out _ _ hb hcsl).mono ?_
        rintro x9 w8 ⟨tv, rfl, htr, hb8⟩
        have he9 : itr (fl n zs e true) (fun _ => true) (i + 1) e = true := by rw [HUP.out]; exact (cmb_sg hg).one
        obtain ⟨tg, tc, rfl, htf⟩ := row_slf htr (sg_pos hg.elt he9)
        have htl := htf.sl
        have hsl8 := hslb.below hb8
        have hrow8 := own_keep2 hrowb (fun g _ h2 => hb8.block g h2)
        have hls8 : Lsts w8 w0.heap.size (.slice oa vs.length oc) vs (sls n (itr (fl n zs e true) (fun _ => true)) (i + 1)) := hlsb.keep hb8.size (fun g _ h2 _ => hb8.block g h2) (.inl rfl)
        have hown2 : ∀ g, (Value.slice oa vs.length oc).ownBlock = some g → g < wr.heap.size := fun g hg => (hrowb.lt g hg).2
        have hB8 := bcat2 hBb hb8
        rw [← HLX.out] at hsl8
        have HIN := hide (ints_any _ _ _ _ w8 hsl8 htl)
        clear htr hslb hrowb hlsb htl
        rw [← HLX.out]
        have hl60 : (li (lst n (itr (fl n zs e true) (fun _ => true) (i + 1)))).length ≤ 60 := by rw [li_len]; exact Nat.le_trans (lst_len _ _) hn
        go_wp2_with fail
        refine HIN.out.mono ?_
        rintro x9 w9 ⟨rfl, hb9⟩
        have hB9 := bcat2 hB8 hb9
        have hrow9 := own_keep2 hrow8 (fun g _ h2 => hb9.block g h2)
        have hls9 : Lsts w9 w0.heap.size (.slice oa vs.length oc) vs (sls n (itr (fl n zs e true) (fun _ => true)) (i + 1)) := hls8.keep hb9.size (fun g _ h2 _ => hb9.block g h2) (.inl rfl)
        have hs9 := hb9.size
        have hs8 := hb8.size
        have htf9 := htf.below hb9
        have hz8 := hB9.size
        have hzr := hBb.size
        clear hrow8 hls8 htf
        by_cases heq : bs (itr (fl n zs e true) (fun _ => true) (i + 1)) n = bs (itr (fl n zs e true) (fun _ => true) i) n
        · have HQ := hide heq
          rw [decide_eq_true (show li xs = li (lst n (itr (fl n zs e true) (fun _ => true) (i + 1))) by rw [HXS.out]; exact li_same.2 heq.symm)]
          have HSL := hide (SlL.of_own hrow9 hls9 (by omega))
          clear heq hrow9 hls9 htf9
          go_wp2
          go_ret
          exact ⟨i, _, rfl, HS.out, HQ.out, HSL.out, bcat2 hB0 hB9⟩
        · rw [decide_eq_false (show ¬ li xs = li (lst n (itr (fl n zs e true) (fun _ => true) (i + 1))) by rw [HXS.out]; exact fun h9 => heq (li_same.1 h9).symm)]
          have HS2 : Hid (Stp n (fl n zs e true) I (fun q => (lst n q).length) (fun _ => true) (i + 1)) := hide (by
            have h9 := HI.out _ (HS.out.inv i (Nat.le_refl _)) (show bs (fl n zs e true (itr (fl n zs e true) (fun _ => true) i)) n ≠ _ from heq)
            have h7 := HS.out.meas
            refine ⟨fun t h => ?_, fun t h => ?_, ?_⟩
            · by_cases h1 : t = i
              · rw [h1]; exact heq
              · exact HS.out.go t (by omega)
            · by_cases h1 : t = i + 1
              · rw [h1]; exact h9.1
              · exact HS.out.inv t (by omega)
            · have h8 := h9.2
              show (lst n (fl n zs e true (itr (fl n zs e true) (fun _ => true) i))).length + (i + 1) ≤ 60
              have h7' : (lst n (itr (fl n zs e true) (fun _ => true) i)).length + i ≤ 60 := h7
              omega)
          have HVL := hide (show vs.length = i + 1 by rw [hls9.1, sls_len])
          have hv61 : vs.length ≤ 61 := by rw [HVL.out]; have := HS.out.meas; omega
          have HUPS := hide (sls_up n (itr (fl n zs e true) (fun _ => true)) (i + 1))
          have htl9 := htf9.sl
          obtain ⟨qa9, qcap9, qb9, qo9, hqe9, hq9, hq91, hq92, hq93, hq94⟩ := htf9
          injection hqe9 with hqe91 hqe92 hqe93
          subst hqe91 hqe93
          have HQ9 := hide hq9
          clear heq hq9 hqe92 HIN HSP
          generalize hlj : li (lst n (itr (fl n zs e true) (fun _ => true) (i + 1))) = lj at *
          have HLJ := hide hlj
          clear hlj
          go_wp2_with (first
            | (at_builtin; refine wpList_append_own_at _ rfl _ _ 25 rfl w0.heap.size 22 i0 (.slice none 0 0) 1 24 und38s hi hz0 hz1 hz2 rfl (by decide) _ _ _ rfl (World.ownsRow.alloc hrow9 _) ⟨w9.heap.size, 0, none⟩ 1 1 [.slice (some ⟨tg, 0, none⟩) lj.length tc] rfl rfl ?c1 ?c2 ?c3 ?c4 ?c5 ?_))
          case c1 => exact cell_one_new _ _ _
          case c2 => simp [Value.oneCell']
          case c3 => unfold maxLen; omega
          case c4 => omega
          case c5 => simp; omega
          intro v' wz hown' hgrow hnil hloc
          obtain ⟨ra', rcap', rfl⟩ := own_slice' hown'
          have hBz : Below w0.heap.size w0 wz := (hB9.alloc (by omega) _).grown hgrow (by simp; omega) (fun t e => by have := owns_ge hrow9 t e; omega)
          have hbl : ∀ g, g < w9.heap.size → (Value.slice oa vs.length oc).ownBlock ≠ some g → wz.heap[g]? = w9.heap[g]? := fun g h1 h2 => (hgrow.block g (by simp; omega) (fun e => h2 e.symm)).trans (Below.block (balloc w9 _) g h1)
          have hsz : w9.heap.size < wz.heap.size := by have := hgrow.size; simp at this; omega
          have hlo : (Value.slice ra' (vs.length + 1) rcap').ownBlock = (Value.slice oa vs.length oc).ownBlock ∨ ∀ g, (Value.slice ra' (vs.length + 1) rcap').ownBlock = some g → w9.heap.size ≤ g := by
            rcases hloc with h | h
            · exact .inl h
            · right; intro g hg; rw [h] at hg; simp at hg; omega
          have hrdz := HQ9.out.of_eq (hbl qb9 hq91 (fun e => by have := hown2 _ e; omega))
          have hlsz := (hls9.keep (r' := .slice ra' (vs.length + 1) rcap') (by omega) (fun g _ h2 h3 => hbl g h2 h3) hlo).snoc (x := .slice (some ⟨tg, 0, none⟩) lj.length tc) (l := lj) ⟨some ⟨tg, 0, none⟩, tc, qb9, qo9, rfl, hrdz, by omega, hq92, hq93, by omega, fun g hg e => by
            subst e
            rcases hlo with h | h
            · have := hown2 _ (h ▸ hg); omega
            · have := h _ hg; omega⟩
          have hslz : Sl wz (.slice (some ⟨tg, 0, none⟩) lj.length tc) lj := ⟨some ⟨tg, 0, none⟩, tc, qb9, qo9, rfl, hrdz, by omega, hq92, hq93⟩
          have hrowz : wz.ownsRow w0.heap.size 22 1 (.slice ra' (vs ++ [Value.slice (some ⟨tg, 0, none⟩) lj.length tc]).length rcap') (vs ++ [Value.slice (some ⟨tg, 0, none⟩) lj.length tc]).length (vs ++ [Value.slice (some ⟨tg, 0, none⟩) lj.length tc]) := by simpa using hown'
          have hlsz2 : Lsts wz w0.heap.size (.slice ra' (vs ++ [Value.slice (some ⟨tg, 0, none⟩) lj.length tc]).length rcap') (vs ++ [Value.slice (some ⟨tg, 0, none⟩) lj.length tc]) (sls n (itr (fl n zs e true) (fun _ => true)) (i + 1 + 1)) := by
            rw [HUPS.out]
            simpa using hlsz
          clear hown' hgrow hloc hlo hbl hrow9 hls9 hlsz
          go_wp2
          go_roundw
          case rel => exact ⟨i + 1, some ⟨tg, 0, none⟩, tc, ra', rcap', _, by rw [HLJ.out], by simp, HS2, by rw [HLJ.out]; exact hslz, hrowz, hlsz2, hBz⟩
          case measure => simp [lenOf]; omega
end Go.Proofs.YtolbpjjjoafkkaaDoor

namespace Go.Proofs.YtolbpjjjoafkkaaDoor
open Go Go.RowKit

/-- How the derived series goes, and whether it ends with the one. -/
def SolA (n : Nat) (zs : List Int) (e : Nat) (b : Bool) : Prop := ∃ K : Nat, Stp n (fun q => cmb n zs e q q) (fun q => Fin.Sg (List.range n) (tm n zs) e (fun a => q a = true)) (fun q => (lst n q).length) (fun _ => true) K ∧ bs (itr (fun q => cmb n zs e q q) (fun _ => true) (K + 1)) n = bs (itr (fun q => cmb n zs e q q) (fun _ => true) K) n ∧ (b = true ↔ (lst n (itr (fun q => cmb n zs e q q) (fun _ => true) K)).length = 1)
theorem stp_only {n : Nat} {nx : (Nat → Bool) → Nat → Bool} {I J : (Nat → Bool) → Prop} {M L : (Nat → Bool) → Nat} {q : Nat → Bool} {K H : Nat} (h1 : Stp n nx I M q K) (e1 : bs (itr nx q (K + 1)) n = bs (itr nx q K) n) (h2 : Stp n nx J L q H) (e2 : bs (itr nx q (H + 1)) n = bs (itr nx q H) n) : K = H := by
  rcases Nat.lt_trichotomy K H with h | h | h
  · exact absurd e1 (h2.go K h)
  · exact h
  · exact absurd e2 (h1.go H h)
theorem fl_false (n : Nat) (zs : List Int) (e : Nat) : fl n zs e false = fun q => cmb n zs e q q := rfl
theorem fl_true (n : Nat) (zs : List Int) (e : Nat) : fl n zs e true = fun q => cmb n zs e q fun _ => true := rfl
theorem call44 (x : Value) (W : World) : Sem.run Tryd.prog (callFunc 44 #[x]) W = .ok (.enter 44 #[x]) W := by kernel_rfl
theorem call46 (x : Value) (W : World) : Sem.run Tryd.prog (callFunc 46 #[x]) W = .ok (.enter 46 #[x]) W := by kernel_rfl
theorem call47 (x : Value) (W : World) : Sem.run Tryd.prog (callFunc 47 #[x]) W = .ok (.enter 47 #[x]) W := by kernel_rfl
set_option maxRecDepth 100000 in
set_option maxHeartbeats 2000000 in
theorem sol_good (n e : Nat) (v : Value) (zs : List Int) (w : World) (hv : Sl w v zs) (hg : IsGrp n zs e) (hT : Tab w) :
    Calls Tryd.prog 38 #[.agg #[.int .i64 n, v]] w fun x w' => ∃ b, x = .returned (.tuple #[.bool b, .agg #[.int .i64 0, .int .i64 0]]) ∧ SolA n zs e b ∧ Below w.heap.size w w' := by
  obtain ⟨w0, BG⟩ := Beg.new w n v
  obtain ⟨c0, c1, _, _⟩ := BG.box.two
  have HCK := hide (sder_good n e v zs w0 (hv.below BG.bel) hg (hT.below BG.bel))
  rw [BG.eq] at c0 c1
  go_enter Tryd.func38, Tryd.ntmps38
  go_wp2_with fail
  rw [← BG.eq]
  refine HCK.out.mono ?_
  rintro x w1 ⟨y, rfl, ⟨K, g, c, rfl, hst, hend, hR, _⟩, hb1⟩
  clear c0 c1
  have hm := hst.meas
  have hS := sls_at (n := n) (f := itr (fun q => cmb n zs e q q) (fun _ => true)) (k := K + 1) (i := K) (by omega)
  have HN := hide (show SolA n zs e (((lst n (itr (fun q => cmb n zs e q q) (fun _ => true) K)).length : Int) == 1) from ⟨K, hst, hend, by rw [beq_iff_eq]; omega⟩)
  have HEN := hide (ends_good g K c _ w1 hR (sls_len _ _ _) (by omega))
  rw [hS, li_len] at HEN
  clear hst hend hS
  generalize (((lst n (itr (fun q => cmb n zs e q q) (fun _ => true) K)).length : Int) == 1) = b at *
  go_wp2_with fail
  refine HEN.out.mono ?_
  rintro x w2 ⟨rfl, hb2⟩
  have hbb := bcat2 hb1 hb2
  have hR1 := blk_below BG.res hbb
  have hBw := bcat BG.bel hbb BG.bel.size
  obtain ⟨_, y0, y1, fy0, fy1, s0, s1⟩ := Two.mk' hR1
  go_wp2
  exact bodyPost_ret (v := .tuple #[.bool b, .agg #[.int .i64 0, .int .i64 0]]) (by simp [results, Tryd.results38, go_sem, y0, y1]) rfl ⟨b, rfl, HN.out, hBw⟩
set_option maxRecDepth 100000 in
set_option maxHeartbeats 2000000 in
theorem sol_bad (N : Int) (v : Value) (zs : List Int) (w : World) (hv : Sl w v zs) (hc : (gfault N zs).1 ≠ 0) :
    Calls Tryd.prog 38 #[.agg #[.int .i64 N, v]] w fun x w' => x = .returned (.tuple #[.bool false, .agg #[.int .i64 (gfault N zs).1, .int .i64 (gfault N zs).2]]) ∧ Below w.heap.size w w' := by
  obtain ⟨w0, BG⟩ := Beg.new w N v
  obtain ⟨c0, c1, _, _⟩ := BG.box.two
  have hck := sder_bad N v zs w0 (hv.below BG.bel) hc
  obtain ⟨c, i, hci⟩ : ∃ c i, gfault N zs = (c, i) := ⟨_, _, rfl⟩
  rw [hci] at hck hc ⊢
  simp only at hc hck
  have HCK := hide hck
  clear hck hci
  rw [BG.eq] at c0 c1
  go_enter Tryd.func38, Tryd.ntmps38
  go_wp2_with fail
  rw [← BG.eq]
  refine HCK.out.mono ?_
  rintro x w1 ⟨rfl, hb1⟩
  clear c0 c1
  go_wp2_with fail
  refine (ends_bad c i w1 hc).mono ?_
  rintro x w2 ⟨rfl, hb2⟩
  have hbb := bcat2 hb1 hb2
  have hR1 := blk_below BG.res hbb
  have hBw := bcat BG.bel hbb BG.bel.size
  obtain ⟨y0, y1, fy0, fy1⟩ := hR1.two
  obtain ⟨hR6, hB6⟩ := put2 hR1 hBw (by omega) c i
  obtain ⟨z0, z1, _, _⟩ := hR6.two
  go_wp2
  exact bodyPost_ret (v := .tuple #[.bool false, .agg #[.int .i64 c, .int .i64 i]]) (by simp [results, Tryd.results38, go_sem, z0, z1]) rfl ⟨rfl, hB6⟩
set_option maxRecDepth 100000 in
theorem sgo1_ok (n e gb K : Nat) (v : Value) (zs : List Int) {I : (Nat → Bool) → Prop} {M : (Nat → Bool) → Nat} (w : World) (hv : Sl w v zs) (hg : IsGrp n zs e) (hb : BoxG w gb n v) (h1 : Stp n (fun q => cmb n zs e q q) I M (fun _ => true) K) (e1 : bs (itr (fun q => cmb n zs e q q) (fun _ => true) (K + 1)) n = bs (itr (fun q => cmb n zs e q q) (fun _ => true) K) n) :
    Calls Tryd.prog 44 #[.pointer (some ⟨gb, 0, none⟩)] w fun x w' => ∃ r, x = .returned r ∧ SlL w' r (sls n (itr (fun q => cmb n zs e q q) (fun _ => true)) (K + 1)) ∧ Below w.heap.size w w' := by
  have HF := hide (fallF_ok n e v zs (fun q => Fin.Sg (List.range n) (tm n zs) e (fun a => q a = true)) w hv hg Nsg.all.sg (fun q h1 h2 => ⟨cmb_sg hg, less_of n (fun x hx h3 => der_in hg h1 hx h3) h2⟩))
  obtain ⟨c0, c1, _, _⟩ := hb.two
  have HK := hide (fun K' (h2 : Stp n (fun q => cmb n zs e q q) (fun q => Fin.Sg (List.range n) (tm n zs) e (fun a => q a = true)) (fun q => (lst n q).length) (fun _ => true) K') (e2 : bs (itr (fun q => cmb n zs e q q) (fun _ => true) (K' + 1)) n = bs (itr (fun q => cmb n zs e q q) (fun _ => true) K') n) => stp_only h1 e1 h2 e2)
  clear h1 e1
  go_enter Tryd.func44, Tryd.ntmps44
  go_wp2_with fail
  refine HF.out.mono ?_
  rintro x w1 ⟨K', y, rfl, hst, hend, hsl, hb1⟩
  obtain rfl := HK.out K' hst hend
  clear hst hend
  go_wp2
  go_ret
  exact ⟨_, rfl, hsl, hb1⟩
set_option maxRecDepth 100000 in
theorem sgo2_ok (n e gb K : Nat) (v : Value) (zs : List Int) {I : (Nat → Bool) → Prop} {M : (Nat → Bool) → Nat} (w : World) (hv : Sl w v zs) (hg : IsGrp n zs e) (hb : BoxG w gb n v) (h1 : Stp n (fun q => cmb n zs e q fun _ => true) I M (fun _ => true) K) (e1 : bs (itr (fun q => cmb n zs e q fun _ => true) (fun _ => true) (K + 1)) n = bs (itr (fun q => cmb n zs e q fun _ => true) (fun _ => true) K) n) :
    Calls Tryd.prog 46 #[.pointer (some ⟨gb, 0, none⟩)] w fun x w' => ∃ r, x = .returned r ∧ SlL w' r (sls n (itr (fun q => cmb n zs e q fun _ => true) (fun _ => true)) (K + 1)) ∧ Below w.heap.size w w' := by
  have HF := hide (fallT_ok n e v zs (Nsg n zs e) w hv hg Nsg.all (fun q h1 h2 => ⟨h1.low hg, less_of n (fun x hx h3 => low_in hg h1 hx h3) h2⟩))
  obtain ⟨c0, c1, _, _⟩ := hb.two
  have HK := hide (fun K' (h2 : Stp n (fun q => cmb n zs e q fun _ => true) (Nsg n zs e) (fun q => (lst n q).length) (fun _ => true) K') (e2 : bs (itr (fun q => cmb n zs e q fun _ => true) (fun _ => true) (K' + 1)) n = bs (itr (fun q => cmb n zs e q fun _ => true) (fun _ => true) K') n) => stp_only h1 e1 h2 e2)
  clear h1 e1
  go_enter Tryd.func46, Tryd.ntmps46
  go_wp2_with fail
  refine HF.out.mono ?_
  rintro x w1 ⟨K', y, rfl, hst, hend, hsl, hb1⟩
  obtain rfl := HK.out K' hst hend
  clear hst hend
  go_wp2
  go_ret
  exact ⟨_, rfl, hsl, hb1⟩
set_option maxRecDepth 100000 in
theorem sgo3_ok (n e gb K : Nat) (v : Value) (zs : List Int) {I : (Nat → Bool) → Prop} {M : (Nat → Bool) → Nat} (w : World) (hv : Sl w v zs) (hg : IsGrp n zs e) (hb : BoxG w gb n v) (h1 : Stp n (upq n zs e) I M (fun a => decide (a = e)) K) (e1 : bs (itr (upq n zs e) (fun a => decide (a = e)) (K + 1)) n = bs (itr (upq n zs e) (fun a => decide (a = e)) K) n) :
    Calls Tryd.prog 47 #[.pointer (some ⟨gb, 0, none⟩)] w fun x w' => ∃ r, x = .returned r ∧ SlL w' r (sls n (itr (upq n zs e) (fun a => decide (a = e))) (K + 1)) ∧ Below w.heap.size w w' := by
  have HF := hide (rise_ok n e v zs w hv hg)
  obtain ⟨c0, c1, _, _⟩ := hb.two
  have HK := hide (fun K' (h2 : Stp n (upq n zs e) (Nsg n zs e) (fun q => n - (lst n q).length) (fun a => decide (a = e)) K') (e2 : bs (itr (upq n zs e) (fun a => decide (a = e)) (K' + 1)) n = bs (itr (upq n zs e) (fun a => decide (a = e)) K') n) => stp_only h1 e1 h2 e2)
  clear h1 e1
  go_enter Tryd.func47, Tryd.ntmps47
  go_wp2_with fail
  refine HF.out.mono ?_
  rintro x w1 ⟨K', y, rfl, hst, hend, hsl, hb1⟩
  obtain rfl := HK.out K' hst hend
  clear hst hend
  go_wp2
  go_ret
  exact ⟨_, rfl, hsl, hb1⟩
end Go.Proofs.YtolbpjjjoafkkaaDoor

namespace Go.Proofs.YtolbpjjjoafkkaaDoor
open Go Go.RowKit

set_option maxRecDepth 100000 in
set_option maxHeartbeats 8000000 in
theorem sgo_bad (N : Int) (v1 : Option Addr) (v2 v3 : Nat) (zs : List Int) (w : World) (hv : Sl w (.slice v1 v2 v3) zs) (hT : Tab w) (hz : zs.length * 8 ≤ 140737488355328) (hc : (gfault N zs).1 ≠ 0) :
    Calls Tryd.prog 8 #[.agg #[.int .i64 N, .slice v1 v2 v3]] w fun e w' => e = .returned (.bool true) ∧ Below w.heap.size w w' := by
  have HOW := hide (fun W (h : Below w.heap.size w W) => ownGroup_any N (.slice v1 v2 v3) zs W (hv.below h) hz)
  have HD := hide (fun W u (hu : Sl W u zs) => sder_bad N u zs W hu hc)
  have HL := hide (fun W u (hu : Sl W u zs) => slow_bad N u zs W hu hc)
  have HU := hide (fun W u (hu : Sl W u zs) => sup_bad N u zs W hu hc)
  have HSO := hide (fun W u (hu : Sl W u zs) => sol_bad N u zs W hu hc)
  have HNI := hide (fun W u (hu : Sl W u zs) => nil_bad N u zs W hu hc)
  have HGF := hide (fun W (h : Below w.heap.size w W) => groupFault_any N (.slice v1 v2 v3) zs W (hv.below h))
  generalize gfault N zs = pf at *
  obtain ⟨c, i⟩ := pf
  simp only at hc HD HL HU HSO HNI HGF
  have hcb : (c != 0) = true := by simpa using hc
  have hB0 : Below w.heap.size w (w.alloc (.cells #[.int .i64 N, .slice v1 v2 v3] 24)) := balloc w _
  have hX0 : BoxG (w.alloc (.cells #[.int .i64 N, .slice v1 v2 v3] 24)) w.heap.size N (.slice v1 v2 v3) := blk0 (w := w) (T := 24) _ _
  obtain ⟨c0, c1, _, _⟩ := hX0.two
  go_enter Tryd.func8, Tryd.ntmps8
  go_wp2_with fail
  clear c0 c1
  generalize w.alloc (.cells #[.int .i64 N, .slice v1 v2 v3] 24) = w0 at *
  refine (HOW.out _ hB0).mono ?_
  rintro x w1 ⟨u, rfl, hu, hb1⟩
  obtain ⟨u1, u2, u3, rfl⟩ := hu.isSlice
  obtain ⟨w2, hw2⟩ : ∃ W, W = w1.alloc (.cells #[.int .i64 N, .slice u1 u2 u3] 24) := ⟨_, rfl⟩
  have hb2 : Below w1.heap.size w1 w2 := by rw [hw2]; exact balloc w1 _
  have hG2 : Blk w2 w1.heap.size 24 [.int .i64 N, .slice u1 u2 u3] := by rw [hw2]; exact blk0 _ _
  have hu2 := hu.below hb2
  have hB2 := bcat2 hB0 (bcat2 hb1 hb2)
  have hX2 := blk_below hX0 (bcat2 hb1 hb2)
  obtain ⟨g0, g1, _, _⟩ := hG2.two
  rw [hw2] at g0 g1
  go_wp2_with fail
  rw [← hw2]
  clear hw2 g0 g1 hu
  refine (HD.out _ _ hu2).mono ?_
  rintro x w3 ⟨rfl, hb3⟩
  obtain ⟨w4, hw4⟩ : ∃ W, W = w3.alloc (.cells #[.int .i64 c, .int .i64 i] 27) := ⟨_, rfl⟩
  have hb4 : Below w3.heap.size w3 w4 := by rw [hw4]; exact balloc w3 _
  have hF4 : Blk w4 w3.heap.size 27 [.int .i64 c, .int .i64 i] := by rw [hw4]; exact blk0 _ _
  have hu4 := hu2.below (bcat2 hb3 hb4)
  have hB4 := bcat2 hB2 (bcat2 hb3 hb4)
  have hX4 := blk_below hX2 (bcat2 hb3 hb4)
  have hG4 := blk_below hG2 (bcat2 hb3 hb4)
  obtain ⟨g0, g1, _, _⟩ := hG4.two
  rw [hw4] at g0 g1
  go_wp2_with fail
  rw [← hw4]
  clear hw4 g0 g1
  refine (HL.out _ _ hu4).mono ?_
  rintro x w5 ⟨rfl, hb5⟩
  obtain ⟨w6, hw6⟩ : ∃ W, W = w5.alloc (.cells #[.int .i64 c, .int .i64 i] 27) := ⟨_, rfl⟩
  have hb6 : Below w5.heap.size w5 w6 := by rw [hw6]; exact balloc w5 _
  have hF6 : Blk w6 w5.heap.size 27 [.int .i64 c, .int .i64 i] := by rw [hw6]; exact blk0 _ _
  have hu6 := hu4.below (bcat2 hb5 hb6)
  have hB6 := bcat2 hB4 (bcat2 hb5 hb6)
  have hX6 := blk_below hX4 (bcat2 hb5 hb6)
  have hG6 := blk_below hG4 (bcat2 hb5 hb6)
  have hF4_6 := blk_below hF4 (bcat2 hb5 hb6)
  obtain ⟨g0, g1, _, _⟩ := hG6.two
  rw [hw6] at g0 g1
  go_wp2_with fail
  rw [← hw6]
  clear hw6 g0 g1
  refine (HU.out _ _ hu6).mono ?_
  rintro x w7 ⟨rfl, hb7⟩
  obtain ⟨w8, hw8⟩ : ∃ W, W = w7.alloc (.cells #[.int .i64 c, .int .i64 i] 27) := ⟨_, rfl⟩
  have hb8 : Below w7.heap.size w7 w8 := by rw [hw8]; exact balloc w7 _
  have hF8 : Blk w8 w7.heap.size 27 [.int .i64 c, .int .i64 i] := by rw [hw8]; exact blk0 _ _
  have hu8 := hu6.below (bcat2 hb7 hb8)
  have hB8 := bcat2 hB6 (bcat2 hb7 hb8)
  have hX8 := blk_below hX6 (bcat2 hb7 hb8)
  have hG8 := blk_below hG6 (bcat2 hb7 hb8)
  have hF4_8 := blk_below hF4_6 (bcat2 hb7 hb8)
  have hF6_8 := blk_below hF6 (bcat2 hb7 hb8)
  obtain ⟨g0, g1, _, _⟩ := hG8.two
  rw [hw8] at g0 g1
  go_wp2_with fail
  rw [← hw8]
  clear hw8 g0 g1
  refine (HSO.out _ _ hu8).mono ?_
  rintro x w9 ⟨rfl, hb9⟩
  obtain ⟨w10, hw10⟩ : ∃ W, W = w9.alloc (.cells #[.int .i64 c, .int .i64 i] 27) := ⟨_, rfl⟩
  have hb10 : Below w9.heap.size w9 w10 := by rw [hw10]; exact balloc w9 _
  have hF10 : Blk w10 w9.heap.size 27 [.int .i64 c, .int .i64 i] := by rw [hw10]; exact blk0 _ _
  have hu10 := hu8.below (bcat2 hb9 hb10)
  have hB10 := bcat2 hB8 (bcat2 hb9 hb10)
  have hX10 := blk_below hX8 (bcat2 hb9 hb10)
  have hG10 := blk_below hG8 (bcat2 hb9 hb10)
  have hF4_10 := blk_below hF4_8 (bcat2 hb9 hb10)
  have hF6_10 := blk_below hF6_8 (bcat2 hb9 hb10)
  have hF8_10 := blk_below hF8 (bcat2 hb9 hb10)
  obtain ⟨g0, g1, _, _⟩ := hG10.two
  rw [hw10] at g0 g1
  go_wp2_with fail
  rw [← hw10]
  clear hw10 g0 g1
  refine (HNI.out _ _ hu10).mono ?_
  rintro x w11 ⟨rfl, hb11⟩
  obtain ⟨w12, hw12⟩ : ∃ W, W = w11.alloc (.cells #[.int .i64 c, .int .i64 i] 27) := ⟨_, rfl⟩
  have hb12 : Below w11.heap.size w11 w12 := by rw [hw12]; exact balloc w11 _
  have hF12 : Blk w12 w11.heap.size 27 [.int .i64 c, .int .i64 i] := by rw [hw12]; exact blk0 _ _
  have hu12 := hu10.below (bcat2 hb11 hb12)
  have hB12 := bcat2 hB10 (bcat2 hb11 hb12)
  have hX12 := blk_below hX10 (bcat2 hb11 hb12)
  have hG12 := blk_below hG10 (bcat2 hb11 hb12)
  have hF4_12 := blk_below hF4_10 (bcat2 hb11 hb12)
  have hF6_12 := blk_below hF6_10 (bcat2 hb11 hb12)
  have hF8_12 := blk_below hF8_10 (bcat2 hb11 hb12)
  have hF10_12 := blk_below hF10 (bcat2 hb11 hb12)
  obtain ⟨g0, g1, _, _⟩ := hG12.two
  obtain ⟨x0, x1, _, _⟩ := hX12.two
  rw [hw12] at g0 g1 x0 x1
  go_wp2_with fail
  rw [← hw12]
  clear hw12 g0 g1 x0 x1
  refine (HGF.out _ hB12).mono ?_
  rintro x w13 ⟨rfl, hb13⟩
  obtain ⟨w14, hw14⟩ : ∃ W, W = w13.alloc (.cells #[.int .i64 c, .int .i64 i] 27) := ⟨_, rfl⟩
  have hb14 : Below w13.heap.size w13 w14 := by rw [hw14]; exact balloc w13 _
  have hF14 : Blk w14 w13.heap.size 27 [.int .i64 c, .int .i64 i] := by rw [hw14]; exact blk0 _ _
  have hbz := bcat2 hb13 hb14
  have hB14 := bcat2 hB12 hbz
  go_wp2_with fail
  rw [← hw14]
  clear hw14
  refine (seriesBegun_any _ (hT.below hB14)).mono ?_
  rintro x w15 ⟨rfl, hb15⟩
  have hby := bcat2 hbz hb15
  have hB15 := bcat2 hB14 hb15
  have hX15 := blk_below hX12 hby
  have hG15 := blk_below hG12 hby
  have hu15 := hu12.below hby
  have hv15 := hv.below hB15
  obtain ⟨x0, x1, _, _⟩ := hX15.two
  obtain ⟨g0, g1, _, _⟩ := hG15.two
  have HSG := hide (sameGroup_any N N (.slice u1 u2 u3) (.slice v1 v2 v3) zs zs w15 hu15 hv15)
  rw [decide_eq_true rfl, decide_eq_true rfl] at HSG
  go_wp2_with fail
  clear x0 x1 g0 g1
  refine HSG.out.mono ?_
  rintro x w16 ⟨rfl, hb16⟩
  have hbx := bcat2 hby hb16
  have hB16 := bcat2 hB15 hb16
  have hZ4 := blk_below hF4_12 hbx
  obtain ⟨z4a, z4b, _, _⟩ := hZ4.two
  have hZ6 := blk_below hF6_12 hbx
  obtain ⟨z6a, z6b, _, _⟩ := hZ6.two
  have hZ8 := blk_below hF8_12 hbx
  obtain ⟨z8a, z8b, _, _⟩ := hZ8.two
  have hZ10 := blk_below hF10_12 hbx
  obtain ⟨z10a, z10b, _, _⟩ := hZ10.two
  have hZ12 := blk_below hF12 hbx
  obtain ⟨z12a, z12b, _, _⟩ := hZ12.two
  have hZ14 := blk_below hF14 (bcat2 hb15 hb16)
  obtain ⟨z14a, z14b, _, _⟩ := hZ14.two
  have hX16 := blk_below hX12 hbx
  have hp16 : 0 < w16.heap.size := Nat.lt_of_lt_of_le hT.lt hB16.size
  go_wp2_with fail
  refine (lsas_nil 44 _ c i (.slice none 0 0) w16 hp16 ⟨none, 0, 0, 0, rfl, by simp, by simp, hp16, by simp, by unfold maxLen; omega⟩ hc).mono ?_
  rintro x w17 ⟨rfl, hb17⟩
  clear z4a z4b z6a z6b z8a z8b z14a z14b
  have hZ4 := blk_below hZ4 hb17
  obtain ⟨z4a, z4b, _, _⟩ := hZ4.two
  have hZ6 := blk_below hZ6 hb17
  obtain ⟨z6a, z6b, _, _⟩ := hZ6.two
  have hZ8 := blk_below hZ8 hb17
  obtain ⟨z8a, z8b, _, _⟩ := hZ8.two
  have hZ14 := blk_below hZ14 hb17
  obtain ⟨z14a, z14b, _, _⟩ := hZ14.two
  have hX17 := blk_below hX16 hb17
  have hB17 := bcat2 hB16 hb17
  have hp17 : 0 < w17.heap.size := Nat.lt_of_lt_of_le hp16 hb17.size
  go_wp2_with fail
  refine (lsas_nil 46 _ c i (.slice none 0 0) w17 hp17 ⟨none, 0, 0, 0, rfl, by simp, by simp, hp17, by simp, by unfold maxLen; omega⟩ hc).mono ?_
  rintro x w18 ⟨rfl, hb18⟩
  clear z4a z4b z6a z6b z8a z8b z14a z14b
  have hZ4 := blk_below hZ4 hb18
  obtain ⟨z4a, z4b, _, _⟩ := hZ4.two
  have hZ6 := blk_below hZ6 hb18
  obtain ⟨z6a, z6b, _, _⟩ := hZ6.two
  have hZ8 := blk_below hZ8 hb18
  obtain ⟨z8a, z8b, _, _⟩ := hZ8.two
  have hZ14 := blk_below hZ14 hb18
  obtain ⟨z14a, z14b, _, _⟩ := hZ14.two
  have hX18 := blk_below hX17 hb18
  have hB18 := bcat2 hB17 hb18
  have hp18 : 0 < w18.heap.size := Nat.lt_of_lt_of_le hp17 hb18.size
  go_wp2_with fail
  refine (lsas_nil 47 _ c i (.slice none 0 0) w18 hp18 ⟨none, 0, 0, 0, rfl, by simp, by simp, hp18, by simp, by unfold maxLen; omega⟩ hc).mono ?_
  rintro x w19 ⟨rfl, hb19⟩
  clear z4a z4b z6a z6b z8a z8b z14a z14b
  have hZ4 := blk_below hZ4 hb19
  obtain ⟨z4a, z4b, _, _⟩ := hZ4.two
  have hZ6 := blk_below hZ6 hb19
  obtain ⟨z6a, z6b, _, _⟩ := hZ6.two
  have hZ8 := blk_below hZ8 hb19
  obtain ⟨z8a, z8b, _, _⟩ := hZ8.two
  have hZ14 := blk_below hZ14 hb19
  obtain ⟨z14a, z14b, _, _⟩ := hZ14.two
  have hX19 := blk_below hX18 hb19
  have hB19 := bcat2 hB18 hb19
  go_wp2
  go_ret
  exact ⟨by simp, hB19⟩
set_option maxRecDepth 100000 in
set_option maxHeartbeats 8000000 in
theorem sgo_good (n e : Nat) (v1 : Option Addr) (v2 v3 : Nat) (zs : List Int) (w : World) (hv : Sl w (.slice v1 v2 v3) zs) (hg : IsGrp n zs e) (hT : Tab w) (hz : zs.length * 8 ≤ 140737488355328) :
    Calls Tryd.prog 8 #[.agg #[.int .i64 n, .slice v1 v2 v3]] w fun e w' => e = .returned (.bool true) ∧ Below w.heap.size w w' := by
  have HOW := hide (fun W (h : Below w.heap.size w W) => ownGroup_any n (.slice v1 v2 v3) zs W (hv.below h) hz)
  have HD := hide (fun W u (h : Below w.heap.size w W) (hu : Sl W u zs) => sder_good n e u zs W hu hg (hT.below h))
  have HL := hide (fun W u (h : Below w.heap.size w W) (hu : Sl W u zs) => slow_good n e u zs W hu hg (hT.below h))
  have HU := hide (fun W u (h : Below w.heap.size w W) (hu : Sl W u zs) => sup_good n e u zs W hu hg (hT.below h))
  have HSO := hide (fun W u (h : Below w.heap.size w W) (hu : Sl W u zs) => sol_good n e u zs W hu hg (hT.below h))
  have HNI := hide (fun W u (h : Below w.heap.size w W) (hu : Sl W u zs) => nil_good n e u zs W hu hg (hT.below h))
  have HGF := hide (fun W (h : Below w.heap.size w W) => groupFault_any n (.slice v1 v2 v3) zs W (hv.below h))
  rw [gfault_of_grp hg] at HGF
  have hB0 : Below w.heap.size w (w.alloc (.cells #[.int .i64 n, .slice v1 v2 v3] 24)) := balloc w _
  have hX0 : BoxG (w.alloc (.cells #[.int .i64 n, .slice v1 v2 v3] 24)) w.heap.size n (.slice v1 v2 v3) := blk0 (w := w) (T := 24) _ _
  obtain ⟨c0, c1, _, _⟩ := hX0.two
  go_enter Tryd.func8, Tryd.ntmps8
  go_wp2_with fail
  clear c0 c1
  generalize w.alloc (.cells #[.int .i64 n, .slice v1 v2 v3] 24) = w0 at *
  refine (HOW.out _ hB0).mono ?_
  rintro x w1 ⟨u, rfl, hu, hb1⟩
  obtain ⟨u1, u2, u3, rfl⟩ := hu.isSlice
  obtain ⟨w2, hw2⟩ : ∃ W, W = w1.alloc (.cells #[.int .i64 n, .slice u1 u2 u3] 24) := ⟨_, rfl⟩
  have hb2 : Below w1.heap.size w1 w2 := by rw [hw2]; exact balloc w1 _
  have hG2 : Blk w2 w1.heap.size 24 [.int .i64 n, .slice u1 u2 u3] := by rw [hw2]; exact blk0 _ _
  have hu2 := hu.below hb2
  have hB2 := bcat2 hB0 (bcat2 hb1 hb2)
  have hX2 := blk_below hX0 (bcat2 hb1 hb2)
  obtain ⟨g0, g1, _, _⟩ := hG2.two
  rw [hw2] at g0 g1
  go_wp2_with fail
  rw [← hw2]
  clear hw2 g0 g1 hu
  refine (HD.out _ _ hB2 hu2).mono ?_
  rintro x w3 ⟨y, rfl, ⟨KD, gd, cd, rfl, hstd, hendd, hRd, hLd⟩, hb3⟩
  obtain ⟨w4, hw4⟩ : ∃ W, W = w3.alloc (.cells #[.int .i64 0, .int .i64 0] 27) := ⟨_, rfl⟩
  have hb4 : Below w3.heap.size w3 w4 := by rw [hw4]; exact balloc w3 _
  have hF4 : Blk w4 w3.heap.size 27 [.int .i64 0, .int .i64 0] := by rw [hw4]; exact blk0 _ _
  have hu4 := hu2.below (bcat2 hb3 hb4)
  have hB4 := bcat2 hB2 (bcat2 hb3 hb4)
  have hX4 := blk_below hX2 (bcat2 hb3 hb4)
  have hG4 := blk_below hG2 (bcat2 hb3 hb4)
  have hRd_4 := hRd.below hb4
  have hLd_4 := hLd.below hb4
  obtain ⟨g0, g1, _, _⟩ := hG4.two
  rw [hw4] at g0 g1
  go_wp2_with fail
  rw [← hw4]
  clear hw4 g0 g1
  refine (HL.out _ _ hB4 hu4).mono ?_
  rintro x w5 ⟨y, rfl, ⟨KL, gl, cl, rfl, hstl, hendl, hRl, hLl⟩, hb5⟩
  obtain ⟨w6, hw6⟩ : ∃ W, W = w5.alloc (.cells #[.int .i64 0, .int .i64 0] 27) := ⟨_, rfl⟩
  have hb6 : Below w5.heap.size w5 w6 := by rw [hw6]; exact balloc w5 _
  have hF6 : Blk w6 w5.heap.size 27 [.int .i64 0, .int .i64 0] := by rw [hw6]; exact blk0 _ _
  have hu6 := hu4.below (bcat2 hb5 hb6)
  have hB6 := bcat2 hB4 (bcat2 hb5 hb6)
  have hX6 := blk_below hX4 (bcat2 hb5 hb6)
  have hG6 := blk_below hG4 (bcat2 hb5 hb6)
  have hF4_6 := blk_below hF4 (bcat2 hb5 hb6)
  have hRd_6 := hRd_4.below (bcat2 hb5 hb6)
  have hLd_6 := hLd_4.below (bcat2 hb5 hb6)
  have hRl_6 := hRl.below hb6
  have hLl_6 := hLl.below hb6
  obtain ⟨g0, g1, _, _⟩ := hG6.two
  rw [hw6] at g0 g1
  go_wp2_with fail
  rw [← hw6]
  clear hw6 g0 g1
  refine (HU.out _ _ hB6 hu6).mono ?_
  rintro x w7 ⟨y, rfl, ⟨KU, gu, cu, rfl, hstu, hendu, hRu, hLu⟩, hb7⟩
  obtain ⟨w8, hw8⟩ : ∃ W, W = w7.alloc (.cells #[.int .i64 0, .int .i64 0] 27) := ⟨_, rfl⟩
  have hb8 : Below w7.heap.size w7 w8 := by rw [hw8]; exact balloc w7 _
  have hF8 : Blk w8 w7.heap.size 27 [.int .i64 0, .int .i64 0] := by rw [hw8]; exact blk0 _ _
  have hu8 := hu6.below (bcat2 hb7 hb8)
  have hB8 := bcat2 hB6 (bcat2 hb7 hb8)
  have hX8 := blk_below hX6 (bcat2 hb7 hb8)
  have hG8 := blk_below hG6 (bcat2 hb7 hb8)
  have hF4_8 := blk_below hF4_6 (bcat2 hb7 hb8)
  have hF6_8 := blk_below hF6 (bcat2 hb7 hb8)
  have hRd_8 := hRd_6.below (bcat2 hb7 hb8)
  have hLd_8 := hLd_6.below (bcat2 hb7 hb8)
  have hRl_8 := hRl_6.below (bcat2 hb7 hb8)
  have hLl_8 := hLl_6.below (bcat2 hb7 hb8)
  have hRu_8 := hRu.below hb8
  have hLu_8 := hLu.below hb8
  obtain ⟨g0, g1, _, _⟩ := hG8.two
  rw [hw8] at g0 g1
  go_wp2_with fail
  rw [← hw8]
  clear hw8 g0 g1
  refine (HSO.out _ _ hB8 hu8).mono ?_
  rintro x w9 ⟨bS, rfl, ⟨KS, hsts, hends, hbS⟩, hb9⟩
  obtain ⟨w10, hw10⟩ : ∃ W, W = w9.alloc (.cells #[.int .i64 0, .int .i64 0] 27) := ⟨_, rfl⟩
  have hb10 : Below w9.heap.size w9 w10 := by rw [hw10]; exact balloc w9 _
  have hF10 : Blk w10 w9.heap.size 27 [.int .i64 0, .int .i64 0] := by rw [hw10]; exact blk0 _ _
  have hu10 := hu8.below (bcat2 hb9 hb10)
  have hB10 := bcat2 hB8 (bcat2 hb9 hb10)
  have hX10 := blk_below hX8 (bcat2 hb9 hb10)
  have hG10 := blk_below hG8 (bcat2 hb9 hb10)
  have hF4_10 := blk_below hF4_8 (bcat2 hb9 hb10)
  have hF6_10 := blk_below hF6_8 (bcat2 hb9 hb10)
  have hF8_10 := blk_below hF8 (bcat2 hb9 hb10)
  have hRd_10 := hRd_8.below (bcat2 hb9 hb10)
  have hLd_10 := hLd_8.below (bcat2 hb9 hb10)
  have hRl_10 := hRl_8.below (bcat2 hb9 hb10)
  have hLl_10 := hLl_8.below (bcat2 hb9 hb10)
  have hRu_10 := hRu_8.below (bcat2 hb9 hb10)
  have hLu_10 := hLu_8.below (bcat2 hb9 hb10)
  obtain ⟨g0, g1, _, _⟩ := hG10.two
  rw [hw10] at g0 g1
  go_wp2_with fail
  rw [← hw10]
  clear hw10 g0 g1
  refine (HNI.out _ _ hB10 hu10).mono ?_
  rintro x w11 ⟨bN, rfl, ⟨KN, hstn, hendn, hbN⟩, hb11⟩
  obtain ⟨w12, hw12⟩ : ∃ W, W = w11.alloc (.cells #[.int .i64 0, .int .i64 0] 27) := ⟨_, rfl⟩
  have hb12 : Below w11.heap.size w11 w12 := by rw [hw12]; exact balloc w11 _
  have hF12 : Blk w12 w11.heap.size 27 [.int .i64 0, .int .i64 0] := by rw [hw12]; exact blk0 _ _
  have hu12 := hu10.below (bcat2 hb11 hb12)
  have hB12 := bcat2 hB10 (bcat2 hb11 hb12)
  have hX12 := blk_below hX10 (bcat2 hb11 hb12)
  have hG12 := blk_below hG10 (bcat2 hb11 hb12)
  have hF4_12 := blk_below hF4_10 (bcat2 hb11 hb12)
  have hF6_12 := blk_below hF6_10 (bcat2 hb11 hb12)
  have hF8_12 := blk_below hF8_10 (bcat2 hb11 hb12)
  have hF10_12 := blk_below hF10 (bcat2 hb11 hb12)
  have hRd_12 := hRd_10.below (bcat2 hb11 hb12)
  have hLd_12 := hLd_10.below (bcat2 hb11 hb12)
  have hRl_12 := hRl_10.below (bcat2 hb11 hb12)
  have hLl_12 := hLl_10.below (bcat2 hb11 hb12)
  have hRu_12 := hRu_10.below (bcat2 hb11 hb12)
  have hLu_12 := hLu_10.below (bcat2 hb11 hb12)
  obtain ⟨g0, g1, _, _⟩ := hG12.two
  obtain ⟨x0, x1, _, _⟩ := hX12.two
  rw [hw12] at g0 g1 x0 x1
  go_wp2_with fail
  rw [← hw12]
  clear hw12 g0 g1 x0 x1
  refine (HGF.out _ hB12).mono ?_
  rintro x w13 ⟨rfl, hb13⟩
  obtain ⟨w14, hw14⟩ : ∃ W, W = w13.alloc (.cells #[.int .i64 0, .int .i64 0] 27) := ⟨_, rfl⟩
  have hb14 : Below w13.heap.size w13 w14 := by rw [hw14]; exact balloc w13 _
  have hF14 : Blk w14 w13.heap.size 27 [.int .i64 0, .int .i64 0] := by rw [hw14]; exact blk0 _ _
  have hbz := bcat2 hb13 hb14
  have hB14 := bcat2 hB12 hbz
  go_wp2_with fail
  rw [← hw14]
  clear hw14
  refine (seriesBegun_any _ (hT.below hB14)).mono ?_
  rintro x w15 ⟨rfl, hb15⟩
  have hby := bcat2 hbz hb15
  have hB15 := bcat2 hB14 hb15
  have hX15 := blk_below hX12 hby
  have hG15 := blk_below hG12 hby
  have hu15 := hu12.below hby
  have hv15 := hv.below hB15
  obtain ⟨x0, x1, _, _⟩ := hX15.two
  obtain ⟨g0, g1, _, _⟩ := hG15.two
  have HSG := hide (sameGroup_any n n (.slice u1 u2 u3) (.slice v1 v2 v3) zs zs w15 hu15 hv15)
  rw [decide_eq_true rfl, decide_eq_true rfl] at HSG
  go_wp2_with fail
  clear x0 x1 g0 g1
  refine HSG.out.mono ?_
  rintro x w16 ⟨rfl, hb16⟩
  have hbx := bcat2 hby hb16
  have hB16 := bcat2 hB15 hb16
  have hZ4 := blk_below hF4_12 hbx
  obtain ⟨z4a, z4b, _, _⟩ := hZ4.two
  have hZ6 := blk_below hF6_12 hbx
  obtain ⟨z6a, z6b, _, _⟩ := hZ6.two
  have hZ8 := blk_below hF8_12 hbx
  obtain ⟨z8a, z8b, _, _⟩ := hZ8.two
  have hZ10 := blk_below hF10_12 hbx
  obtain ⟨z10a, z10b, _, _⟩ := hZ10.two
  have hZ12 := blk_below hF12 hbx
  obtain ⟨z12a, z12b, _, _⟩ := hZ12.two
  have hZ14 := blk_below hF14 (bcat2 hb15 hb16)
  obtain ⟨z14a, z14b, _, _⟩ := hZ14.two
  have hX16 := blk_below hX12 hbx
  have hRd_16 := hRd_12.below hbx
  have hLd_16 := hLd_12.below hbx
  have hRl_16 := hRl_12.below hbx
  have hLl_16 := hLl_12.below hbx
  have hRu_16 := hRu_12.below hbx
  have hLu_16 := hLu_12.below hbx
  have h1 := stp_only hsts hends hstd hendd
  subst h1
  have h2 := stp_only hstn hendn hstl hendl
  subst h2
  have HKD := hide hstd.meas
  have HKL := hide hstl.meas
  obtain ⟨da, dc, _, _⟩ := hRd_16 KS (by rw [sls_len]; omega)
  have HBS := hide (show bS = (((li (lst n (itr (fun q => cmb n zs e q q) (fun _ => true) KS))).length : Int) == 1) by
    rw [Bool.eq_iff_iff, hbS, beq_iff_eq, li_len]
    omega)
  have HBN := hide (show bN = (((li (lst n (itr (fun q => cmb n zs e q fun _ => true) (fun _ => true) KN))).length : Int) == 1) by
    rw [Bool.eq_iff_iff, hbN, beq_iff_eq, li_len]
    omega)
  have HC1 := hide (fun W (h : Below w.heap.size w W) (hb : BoxG W w.heap.size n (.slice v1 v2 v3)) => sgo1_ok n e w.heap.size KS (.slice v1 v2 v3) zs W (hv.below h) hg hb hstd hendd)
  have HC2 := hide (fun W (h : Below w.heap.size w W) (hb : BoxG W w.heap.size n (.slice v1 v2 v3)) => sgo2_ok n e w.heap.size KN (.slice v1 v2 v3) zs W (hv.below h) hg hb hstl hendl)
  have HC3 := hide (fun W (h : Below w.heap.size w W) (hb : BoxG W w.heap.size n (.slice v1 v2 v3)) => sgo3_ok n e w.heap.size KU (.slice v1 v2 v3) zs W (hv.below h) hg hb hstu hendu)
  clear hsts hends hstn hendn hstd hendd hstl hendl hstu hendu hbS hbN
  have H43a := hide (lsas_good 44 #[.pointer (some ⟨w.heap.size, 0, none⟩)] _ _ _ w16 hLd_16 (fun W => call44 _ W) (fun W h => HC1.out W (bcat2 hB16 h) (blk_below hX16 h)))
  rw [decide_eq_true rfl] at H43a
  go_wp2_with fail
  refine H43a.out.mono ?_
  rintro x w17 ⟨rfl, hb17⟩
  clear z4a z4b z6a z6b z8a z8b z14a z14b
  have hZ4 := blk_below hZ4 hb17
  obtain ⟨z4a, z4b, _, _⟩ := hZ4.two
  have hZ6 := blk_below hZ6 hb17
  obtain ⟨z6a, z6b, _, _⟩ := hZ6.two
  have hZ8 := blk_below hZ8 hb17
  obtain ⟨z8a, z8b, _, _⟩ := hZ8.two
  have hZ14 := blk_below hZ14 hb17
  obtain ⟨z14a, z14b, _, _⟩ := hZ14.two
  have hX17 := blk_below hX16 hb17
  have hB17 := bcat2 hB16 hb17
  have hRd_17 := hRd_16.below hb17
  have hRl_17 := hRl_16.below hb17
  have hLl_17 := hLl_16.below hb17
  have hLu_17 := hLu_16.below hb17
  have H43b := hide (lsas_good 46 #[.pointer (some ⟨w.heap.size, 0, none⟩)] _ _ _ w17 hLl_17 (fun W => call46 _ W) (fun W h => HC2.out W (bcat2 hB17 h) (blk_below hX17 h)))
  rw [decide_eq_true rfl] at H43b
  go_wp2_with fail
  refine H43b.out.mono ?_
  rintro x w18 ⟨rfl, hb18⟩
  clear z4a z4b z6a z6b z8a z8b z14a z14b
  have hZ4 := blk_below hZ4 hb18
  obtain ⟨z4a, z4b, _, _⟩ := hZ4.two
  have hZ6 := blk_below hZ6 hb18
  obtain ⟨z6a, z6b, _, _⟩ := hZ6.two
  have hZ8 := blk_below hZ8 hb18
  obtain ⟨z8a, z8b, _, _⟩ := hZ8.two
  have hZ14 := blk_below hZ14 hb18
  obtain ⟨z14a, z14b, _, _⟩ := hZ14.two
  have hX18 := blk_below hX17 hb18
  have hB18 := bcat2 hB17 hb18
  have hRd_18 := hRd_17.below hb18
  have hRl_18 := hRl_17.below hb18
  have hLu_18 := hLu_17.below hb18
  have H43c := hide (lsas_good 47 #[.pointer (some ⟨w.heap.size, 0, none⟩)] _ _ _ w18 hLu_18 (fun W => call47 _ W) (fun W h => HC3.out W (bcat2 hB18 h) (blk_below hX18 h)))
  rw [decide_eq_true rfl] at H43c
  go_wp2_with fail
  refine H43c.out.mono ?_
  rintro x w19 ⟨rfl, hb19⟩
  clear z4a z4b z6a z6b z8a z8b z14a z14b
  have hZ4 := blk_below hZ4 hb19
  obtain ⟨z4a, z4b, _, _⟩ := hZ4.two
  have hZ6 := blk_below hZ6 hb19
  obtain ⟨z6a, z6b, _, _⟩ := hZ6.two
  have hZ8 := blk_below hZ8 hb19
  obtain ⟨z8a, z8b, _, _⟩ := hZ8.two
  have hZ14 := blk_below hZ14 hb19
  obtain ⟨z14a, z14b, _, _⟩ := hZ14.two
  have hX19 := blk_below hX18 hb19
  have hB19 := bcat2 hB18 hb19
  have hRd_19 := hRd_18.below hb19
  have hRl_19 := hRl_18.below hb19
  obtain ⟨da, dc, hdc, _⟩ := hRd_19 KS (by rw [sls_len]; omega)
  obtain ⟨la, lc, hlc, _⟩ := hRl_19 KN (by rw [sls_len]; omega)
  rw [sls_at (by omega)] at hdc hlc
  rw [HBS.out, HBN.out]
  have hkd : KS ≤ 60 := by have := HKD.out; omega
  have hkl : KN ≤ 60 := by have := HKL.out; omega
  have hk1 : (((KS + 1 : Nat) : Int) - 1) = (KS : Int) := by omega
  have hk2 : (((KN + 1 : Nat) : Int) - 1) = (KN : Int) := by omega
  generalize (li (lst n (itr (fun q => cmb n zs e q q) (fun _ => true) KS))).length = LD at *
  generalize (li (lst n (itr (fun q => cmb n zs e q fun _ => true) (fun _ => true) KN))).length = LL at *
  go_wp2
  go_ret
  exact ⟨by simp, hB19⟩
theorem sgo_law (N : Int) (v : Value) (zs : List Int) (w : World) (hv : Sl w v zs) (hT : Tab w) (hz : zs.length * 8 ≤ 140737488355328) :
    Calls Tryd.prog 8 #[.agg #[.int .i64 N, v]] w fun e w' => e = .returned (.bool true) ∧ Below w.heap.size w w' := by
  obtain ⟨v1, v2, v3, rfl⟩ := hv.isSlice
  by_cases hc : (gfault N zs).1 = 0
  · obtain ⟨n, e, rfl, hg, h0⟩ := gfault_grp hc
    exact sgo_good n e v1 v2 v3 zs w hv hg hT hz
  · exact sgo_bad N v1 v2 v3 zs w hv hT hz hc
end Go.Proofs.YtolbpjjjoafkkaaDoor

namespace Go.Proofs.YtolbpjjjoafkkaaDoor
open Go.ChangeShapes Go.WideShapes Go.ChangeAt Go.RowKit

theorem own : ownKnob Tryd.prog.godebug = none := by kernel_rfl
theorem laidOut : laidOutB Tryd.prog = true := by kernel_rfl

/-- A slice of ints that reads as zs; where nothing is in it, nothing is told of the memory. -/
def SlA (w : World) (v : Value) (zs : List Int) : Prop := ∃ a cap pb po, v = .slice a zs.length cap ∧ Reads w a pb po zs ∧ (0 < zs.length → pb < w.heap.size) ∧ zs.length ≤ cap ∧ cap ≤ maxLen
theorem SlA.up {w w' : World} {v : Value} {zs : List Int} (h : SlA w v zs) (hb : Below w.heap.size w w') (h0 : 0 < w'.heap.size) : Sl w' v zs := by
  obtain ⟨a, cap, pb, po, hv, hr, hp, h1, h2⟩ := h
  rcases Nat.eq_zero_or_pos zs.length with hz | hz
  · exact ⟨a, cap, 0, 0, hv, ⟨fun h => by omega, fun j hj => by omega⟩, h0, h1, h2⟩
  · exact ⟨a, cap, pb, po, hv, hr.below hb (hp hz), Nat.lt_of_lt_of_le (hp hz) hb.size, h1, h2⟩
theorem SlA.of {w : World} {v : Value} {zs : List Int} (h : Sl w v zs) : SlA w v zs := by
  obtain ⟨a, cap, pb, po, hv, hr, hp, h1, h2⟩ := h
  exact ⟨a, cap, pb, po, hv, hr, fun _ => hp, h1, h2⟩

theorem und24 : ∃ f0 f1 : Field, Tryd.prog.underlying 24 = some (.struct #[f0, f1]) ∧ f0.type = 3 ∧ f1.type = 22 ∧ f0.offset = 0 ∧ f1.offset = 1 := ⟨_, _, Tryd.underlying24, rfl, rfl, rfl, rfl⟩
theorem und3 : Tryd.prog.underlying 3 = some (.int .i64) := by kernel_rfl
theorem und22 : Tryd.prog.underlying 22 = some (.slice 3) := by kernel_rfl
theorem und4 : Tryd.prog.underlying 4 = some .bool := by kernel_rfl

set_option maxRecDepth 100000 in
/-- What is told of a table that came in. -/
theorem open_group {H : Type} {enc : TypeId × Value → H} {W : World} {b0 : Nat} {v : Value} {d : DataW H} {ps : List MemPlace} (hval : Value.okWide Tryd.prog W .any b0 24 v)
    (hd : DataW.Trod enc Tryd.prog W 0 (fun _ => true) true 24 v d ps) :
    ∃ N u zs, v = .agg #[.int .i64 N, u] ∧ SlA W u zs ∧ (Lit.int .i64 N).wf = true ∧ ((d.weights Tryd.prog 24).all (· ≤ reachBytes) = true → zs.length * 8 ≤ 140737488355328) := by
  obtain ⟨f0, f1, hu, ht0, ht1, ho0, ho1⟩ := und24
  obtain ⟨cs, rfl, hsz⟩ := okWide_struct hu hval
  rw [show Tryd.prog.cellsOf 24 = 2 by kernel_rfl] at hsz
  obtain ⟨l⟩ := cs
  match l, hsz with
  | [c0, c1], _ =>
  obtain ⟨fuel, hf⟩ := hd
  obtain ⟨y0, y1, m, hx, _, hy0, hy1⟩ := trod_struct2 hu hf
  rw [ht0, ho0, show Tryd.prog.cellsOf 3 = 1 by kernel_rfl] at hy0
  rw [ht1, ho1, show Tryd.prog.cellsOf 22 = 1 by kernel_rfl] at hy1
  obtain ⟨N, e0, rfl, wN⟩ := DataW.trod_int und3 hy0
  simp [Value.cells] at e0
  subst e0
  simp [Value.cells] at hy1
  rcases open_ints und22 und3 (by kernel_rfl) hy1 with ⟨hcs, _⟩ | ⟨x, l, c, zs, hcs, _, hl, hm, hz, heq, hcell, hwz⟩
  · simp at hcs
    subst hcs
    exact ⟨N, _, [], rfl, ⟨none, 0, 0, 0, rfl, ⟨by simp, by simp⟩, by simp, by simp, by unfold maxLen; omega⟩, wN, fun _ => by simp⟩
  · simp at hcs
    subst hcs
    have hzc : zs.length = c := by simpa using hz
    have hlen : (zs.take l).length = l := by rw [List.length_take]; omega
    refine ⟨N, _, zs.take l, rfl, ?_, wN, fun hw => ?_⟩
    · by_cases hpos : 0 < c
      · obtain ⟨b, o, rfl, hc'⟩ := ints_at hcell (by omega)
        refine ⟨some ⟨b, o, none⟩, c, b, o, by rw [hlen], ⟨fun _ => rfl, fun j hj => ?_⟩, fun _ => World.block_lt_of_cell? W _ (hc' 0 (by omega)), by omega, hm⟩
        rw [hlen] at hj
        rw [hc' j (by omega), List.getElem?_take, if_pos hj, List.getD_eq_getElem?_getD]
      · have : l = 0 := by omega
        subst this
        exact ⟨some x, c, 0, 0, by simp, ⟨by simp, by simp⟩, by simp, by simp, hm⟩
    · have hd : d = .agg [.lit (.int .i64 N), .slice (lits .i64 (zs.take l)) (lits .i64 (zs.drop l))] := by
        have h1 := congrArg Prod.fst hx
        simp only [heq] at h1
        exact h1
      have hw2 := List.all_eq_true.1 hw (((lits (H := H) .i64 (zs.take l)).length + (lits (H := H) .i64 (zs.drop l)).length) * Tryd.prog.bytesOf 3) (by
        rw [hd]; simp [DataW.weights, DataW.weightsEach, hu, ht0, ht1])
      rw [show Tryd.prog.bytesOf 3 = 8 by kernel_rfl] at hw2
      simp only [lits, List.length_map, decide_eq_true_eq] at hw2
      unfold reachBytes at hw2
      omega
end Go.Proofs.YtolbpjjjoafkkaaDoor

namespace Go.Proofs.YtolbpjjjoafkkaaDoor
open Go.ChangeShapes Go.WideShapes Go.ChangeAt Go.RowKit

/-- What the rows list. -/
def laid1 : List (String × DataW Unit) := Rows.sylowQuotientsRow.laid
def tabZ : List Int := Lib.deBruijn64tab.map fun (x : Nat) => (x : Int)
theorem tab_data : (Rows.laid_math_bits_deBruijn64tab : DataW Unit) = Lib.tabData .u8 tabZ := by kernel_rfl
/-- The door's own heap meets the condition. -/
theorem door_met (os : Os) (args : Array Value) : laidMetH Tryd.prog laid1 ((World.doorLaid Tryd.prog 400 os).forCall (fun _ _ => 0) ⟨#[], args, []⟩).memory :=
  laidMetH_of_parts3 (fuel := 8) (laidMet_of_run' 8 (by kernel_rfl) (by kernel_rfl)) (by kernel_rfl) (by kernel_rfl)
theorem tab_of_laid {W : World} (h : laidMetH Tryd.prog laid1 W) : Tab W := by
  rw [MakeChecks.laidMetH_plain _ _ _ (by kernel_rfl)] at h
  have h2 : laidMet Tryd.prog [("math/bits.deBruijn64tab", (Rows.laid_math_bits_deBruijn64tab : DataW Unit))] W := h
  rw [tab_data] at h2
  have hg : Tryd.prog.globalNamed "math/bits.deBruijn64tab" = some 0 := by kernel_rfl
  have hT := Lib.tabIs_of_head hg (t := 114) (e := 5) (n := 64) (by kernel_rfl) (by kernel_rfl) (by kernel_rfl) (by kernel_rfl) (by kernel_rfl) h2
  intro j hj
  have hj' : j < tabZ.length := by simpa [tabZ] using hj
  have hc := hT.cell hg j hj'
  rw [hc]
  simp [tabZ, hj]
set_option maxRecDepth 100000 in
/-- A list of ints that came in: its value, what it reads as, and its size. -/
theorem open_list {H : Type} {enc : TypeId × Value → H} {W : World} {b0 : Nat} {v : Value} {d : DataW H} {ps : List MemPlace} (hval : Value.okWide Tryd.prog W .any b0 22 v)
    (hd : DataW.Trod enc Tryd.prog W 0 (fun _ => true) true 22 v d ps) (h0 : 0 < W.heap.size) :
    ∃ zs, Sl W v zs ∧ ((d.weights Tryd.prog 22).all (· ≤ reachBytes) = true → zs.length * 8 ≤ 140737488355328) := by
  obtain ⟨a, len, cap, rfl⟩ := okWide_slice und22 hval
  obtain ⟨fuel, hf⟩ := hd
  rcases open_ints und22 und3 (by kernel_rfl) hf with ⟨hcs, _⟩ | ⟨x, l, c, zs, hcs, _, hl, hm, hz, heq, hcell, hwz⟩
  · simp [Value.cells] at hcs
    obtain ⟨rfl, rfl, rfl⟩ := hcs
    exact ⟨[], Sl.nil h0, fun _ => by simp⟩
  · simp [Value.cells] at hcs
    obtain ⟨rfl, rfl, rfl⟩ := hcs
    have hzc : zs.length = cap := by simpa using hz
    have hlen : (zs.take len).length = len := by rw [List.length_take]; omega
    refine ⟨zs.take len, ?_, fun hw => ?_⟩
    · by_cases hpos : 0 < cap
      · obtain ⟨b, o, rfl, hc'⟩ := ints_at hcell (by omega)
        refine ⟨some ⟨b, o, none⟩, cap, b, o, by rw [hlen], ⟨fun _ => rfl, fun j hj => ?_⟩, World.block_lt_of_cell? W _ (hc' 0 (by omega)), by omega, hm⟩
        rw [hlen] at hj
        rw [hc' j (by omega), List.getElem?_take, if_pos hj, List.getD_eq_getElem?_getD]
      · have : len = 0 := by omega
        subst this
        exact ⟨some x, cap, 0, 0, by simp, ⟨by simp, by simp⟩, h0, by simp, hm⟩
    · simp only [Prod.mk.injEq] at heq
      have hw2 := List.all_eq_true.1 hw (((lits (H := H) .i64 (zs.take len)).length + (lits (H := H) .i64 (zs.drop len)).length) * Tryd.prog.bytesOf 3) (by
        rw [heq.1]; simp [DataW.weights])
      rw [show Tryd.prog.bytesOf 3 = 8 by kernel_rfl] at hw2
      simp only [lits, List.length_map, decide_eq_true_eq] at hw2
      unfold reachBytes at hw2
      omega
end Go.Proofs.YtolbpjjjoafkkaaDoor
