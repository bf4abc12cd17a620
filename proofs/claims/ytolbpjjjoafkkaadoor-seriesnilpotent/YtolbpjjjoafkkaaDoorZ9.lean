/- The law's rising series: what it answers. No condition but the group. The law's rising series: what it answers. No condition but the group. The law's falling series with all: what it answers. Conditions: what the series' sets are like, and that they fall. Package series' Solvable; the closures of the law SeriesGo; how far a series goes is settled. Condition: the library's table of places lies as its text lays it. Normaliser at a subgroup. Condition: the library's table of places lies as its text lays it. What is nilpotent: a subgroup that is not all is less than its normaliser, and each normal subgroup of more than the one has something of the centre. No condition. The sets of the three series are normal, and each derived one is in the lower one at its place; rows of lists, read. No condition. Sylow's theorems about what All answers: each thing whose order is a power of p is in one of them, all have as many things, and how many things have such an order is a multiple of that. No condition. What is nilpotent: its lower and upper series go as far, it is solvable, and each of Sylow's subgroups is normal; and where each of Sylow's subgroups is normal, it is nilpotent. No condition. A group is nilpotent just where each of Sylow's subgroups is normal. No condition. Where each of Sylow's subgroups is normal, a group is nilpotent: its upper series ends with all. No condition. -/
import Derived.Test.YtolbpjjjoafkkaaDoorZ8
import Derived.Test.YtolbpjjjoafkkaaDoorZ5
import Derived.Test.YtolbpjjjoafkkaaDoorZ3
import Derived.Test.YtolbpjjjoafkkaaDoorZ7
namespace Go.Proofs.YtolbpjjjoafkkaaDoor
open Go Go.RowKit

/-- The lists that lie in a slice of slices, none of them in the block X. -/
def LstX (W : World) (B X : Nat) (r : Value) (vs : List Value) (ls : List (List Int)) : Prop := vs.length = ls.length ∧ ∀ (t : Nat) (x : Value) (l : List Int), vs[t]? = some x → ls[t]? = some l → ∃ a cap pb po, x = .slice a l.length cap ∧ Reads W a pb po l ∧ pb < W.heap.size ∧ l.length ≤ cap ∧ cap ≤ maxLen ∧ B ≤ pb ∧ pb ≠ X ∧ ∀ g, r.ownBlock = some g → pb ≠ g
theorem LstX.lsts {W : World} {B X : Nat} {r : Value} {vs : List Value} {ls : List (List Int)} (h : LstX W B X r vs ls) : Lsts W B r vs ls := ⟨h.1, fun t x l h1 h2 => by
  obtain ⟨a, cap, pb, po, h3, h4, h5, h6, h7, h8, _, h9⟩ := h.2 t x l h1 h2
  exact ⟨a, cap, pb, po, h3, h4, h5, h6, h7, h8, h9⟩⟩
theorem LstX.keep {W W' : World} {B X : Nat} {r r' : Value} {vs : List Value} {ls : List (List Int)} (h : LstX W B X r vs ls) (hs : W.heap.size ≤ W'.heap.size) (hk : ∀ g, B ≤ g → g < W.heap.size → g ≠ X → r.ownBlock ≠ some g → W'.heap[g]? = W.heap[g]?) (hr : r'.ownBlock = r.ownBlock ∨ ∀ g, r'.ownBlock = some g → W.heap.size ≤ g) : LstX W' B X r' vs ls := by
  refine ⟨h.1, fun t x l h1 h2 => ?_⟩
  obtain ⟨a, cap, pb, po, rfl, h3, h4, h5, h6, h7, hX, h8⟩ := h.2 t x l h1 h2
  refine ⟨a, cap, pb, po, rfl, h3.of_eq (hk pb h7 h4 hX (fun e => h8 pb e rfl)), Nat.lt_of_lt_of_le h4 hs, h5, h6, h7, hX, fun g hg => ?_⟩
  rcases hr with hr | hr
  · exact h8 g (by rw [← hr]; exact hg)
  · have := hr g hg; omega
theorem LstX.snoc {W : World} {B X : Nat} {r : Value} {vs : List Value} {ls : List (List Int)} {x : Value} {l : List Int} (h : LstX W B X r vs ls) (hx : ∃ a cap pb po, x = Value.slice a l.length cap ∧ Reads W a pb po l ∧ pb < W.heap.size ∧ l.length ≤ cap ∧ cap ≤ maxLen ∧ B ≤ pb ∧ pb ≠ X ∧ ∀ g, r.ownBlock = some g → pb ≠ g) : LstX W B X r (vs ++ [x]) (ls ++ [l]) := by
  refine ⟨by simp [h.1], fun t y m h1 h2 => ?_⟩
  by_cases ht : t < vs.length
  · rw [List.getElem?_append_left ht] at h1
    rw [List.getElem?_append_left (by rw [← h.1]; exact ht)] at h2
    exact h.2 t y m h1 h2
  · have hv : t = vs.length := by
      have := (List.getElem?_eq_some_iff.1 h1).1
      simp at this; omega
    subst hv
    rw [List.getElem?_append_right (Nat.le_refl _)] at h1
    rw [List.getElem?_append_right (by rw [h.1]; exact Nat.le_refl _), h.1] at h2
    simp at h1 h2
    subst h1 h2
    exact hx
theorem call84 (a : Int) (x y : Value) (W : World) : Sem.run Tryd.prog (callFunc 84 (#[.int .i64 a] ++ #[x, y])) W = .ok (.enter 84 (#[.int .i64 a] ++ #[x, y])) W := by kernel_rfl
theorem dec_lst {n t : Nat} {q : Nat → Bool} (ht : t < n) : decide ((t : Int) ∈ li (lst n q)) = q t := by
  rw [Bool.eq_iff_iff, decide_eq_true_eq, mem_li, mem_lst]
  exact ⟨fun h => h.2, fun h => ⟨ht, h⟩⟩
set_option maxRecDepth 100000 in
set_option maxHeartbeats 2000000 in
theorem ris1_ok (n e gb sb a : Nat) (v sv : Value) (zs : List Int) (q : Nat → Bool) (w : World) (hv : Sl w v zs) (hg : IsGrp n zs e) (hb : BoxG w gb n v) (hs : Boxed w sb 22 sv) (hsl : Sl w sv (li (lst n q))) (ha : a < n) :
    Calls Tryd.prog 84 (#[.int .i64 a] ++ #[.pointer (some ⟨gb, 0, none⟩), .pointer (some ⟨sb, 0, none⟩)]) w fun x w' => x = .returned (.bool (upq n zs e q a)) ∧ Below w.heap.size w w' := by
  show Calls Tryd.prog 84 #[.int .i64 a, .pointer (some ⟨gb, 0, none⟩), .pointer (some ⟨sb, 0, none⟩)] w _
  have hn := hg.tab.le
  obtain ⟨s1, s2, s3, rfl⟩ := hsl.isSlice
  go_enter Tryd.func84, Tryd.ntmps84
  go_wp2_with fail
  go_loopw [5] (fun i wr => ∃ k : Nat, k ≤ n ∧ i = .int .i64 k ∧ (∀ b, b < k → q (Fin.cm (tm n zs) (iv n zs e) a b) = true) ∧ Below w.heap.size w wr) (fun i _ => n - (intOf i).toNat)
  case atStart => exact ⟨0, Nat.zero_le _, rfl, fun b h => by omega, Below.refl _ _⟩
  case round =>
    obtain ⟨k, hk, rfl, hal, hB⟩ := hrel
    have HAL := hide hal
    clear hal
    have hbr := blk_below hb hB
    obtain ⟨c0, c1, _, _⟩ := hbr.two
    by_cases hlt : k < n
    · have hki : (k : Int) < (n : Int) := by omega
      have s0 := (Boxed.below hs hB).cell
      have hct := cm_lt hg ha hlt
      have HCM := hide (fun W (h : Below wr.heap.size wr W) => rcm_ok n e a k v zs W hg (hv.below (bcat2 hB h)) ha hlt)
      have HHA := hide (fun W (h : Below wr.heap.size wr W) => rhas_ok (.slice s1 s2 s3) (li (lst n q)) (Fin.cm (tm n zs) (iv n zs e) a k : Nat) W (hsl.below (bcat2 hB h)))
      rw [dec_lst hct] at HHA
      have HT := hide (show q (Fin.cm (tm n zs) (iv n zs e) a k) = true → ∀ b, b < k + 1 → q (Fin.cm (tm n zs) (iv n zs e) a b) = true from fun h b hb9 => by
        by_cases h9 : b = k
        · rw [h9]; exact h
        · exact HAL.out b (by omega))
      have HF := hide (show q (Fin.cm (tm n zs) (iv n zs e) a k) = false → upq n zs e q a = false from fun h => by
        rw [Bool.eq_false_iff]
        intro h9
        rw [upq_iff.1 h9 k hlt] at h
        cases h)
      generalize Fin.cm (tm n zs) (iv n zs e) a k = t at *
      generalize q t = b9 at *
      have hS : ∀ W, Below wr.heap.size wr W → (Below wr.heap.size wr W ∧ W.cell? ⟨gb, 0, none⟩ = some (.int .i64 n) ∧ W.cell? ⟨gb, 1, none⟩ = some v ∧ W.cell? ⟨sb, 0, none⟩ = some (.slice s1 s2 s3)) := fun W h => ⟨h, below_cell h c0, below_cell h c1, below_cell h s0⟩
      have hS0 := hS _ (bdrew (Below.refl _ wr))
      cases b9 with
      | true =>
        go_wp2_with fail
        clear c0 c1 s0
        go_region_held3 (fun W => Below wr.heap.size wr W ∧ W.cell? ⟨gb, 0, none⟩ = some (.int .i64 n) ∧ W.cell? ⟨gb, 1, none⟩ = some v ∧ W.cell? ⟨sb, 0, none⟩ = some (.slice s1 s2 s3))
          (first | exact hS0 | assumption | exact hS _ (bcat2 (And.left ‹_›) hl1))
          (first
            | (go_at_call 82; refine (HCM.out _ (And.left ‹_›)).mono ?_; rintro e1 W1 ⟨rfl, hl1⟩)
            | (go_at_call 26; refine (HHA.out _ (And.left ‹_›)).mono ?_; rintro e2 W2 ⟨rfl, rfl⟩))
        all_goals (
          have hB9 := And.left ‹Below wr.heap.size wr W2 ∧ _›
          go_wp2
          go_roundw
          case rel => exact ⟨k + 1, by omega, by go_num, HT.out (by simp), bcat2 hB hB9⟩
          case measure => simp [intOf]; omega)
      | false =>
        go_wp2_with fail
        clear c0 c1 s0
        go_region_held3 (fun W => Below wr.heap.size wr W ∧ W.cell? ⟨gb, 0, none⟩ = some (.int .i64 n) ∧ W.cell? ⟨gb, 1, none⟩ = some v ∧ W.cell? ⟨sb, 0, none⟩ = some (.slice s1 s2 s3))
          (first | exact hS0 | assumption | exact hS _ (bcat2 (And.left ‹_›) hl1))
          (first
            | (go_at_call 82; refine (HCM.out _ (And.left ‹_›)).mono ?_; rintro e1 W1 ⟨rfl, hl1⟩)
            | (go_at_call 26; refine (HHA.out _ (And.left ‹_›)).mono ?_; rintro e2 W2 ⟨rfl, rfl⟩))
        all_goals (
          have hB9 := And.left ‹Below wr.heap.size wr W2 ∧ _›
          go_wp2
          go_ret
          exact ⟨by rw [HF.out (by simp)] <;> rfl, bcat2 hB hB9⟩)
    · have hki : ¬ (k : Int) < (n : Int) := by omega
      have HU := hide (show upq n zs e q a = true from upq_iff.2 fun b hb9 => HAL.out b (by omega))
      go_wp2
      go_ret
      exact ⟨by rw [HU.out] <;> rfl, hB⟩
end Go.Proofs.YtolbpjjjoafkkaaDoor

namespace Go.Proofs.YtolbpjjjoafkkaaDoor
open Go Go.RowKit

set_option maxRecDepth 100000 in
set_option maxHeartbeats 8000000 in
theorem rise_ok (n e : Nat) (v : Value) (zs : List Int) (w : World) (hv : Sl w v zs) (hg : IsGrp n zs e) :
    Calls Tryd.prog 48 #[.agg #[.int .i64 n, v]] w fun x w' => ∃ K y, x = .returned y ∧ Stp n (upq n zs e) (Nsg n zs e) (fun q => n - (lst n q).length) (fun a => decide (a = e)) K ∧ bs (itr (upq n zs e) (fun a => decide (a = e)) (K + 1)) n = bs (itr (upq n zs e) (fun a => decide (a = e)) K) n ∧ SlL w' y (sls n (itr (upq n zs e) (fun a => decide (a = e))) (K + 1)) ∧ Below w.heap.size w w' := by
  have hn := hg.tab.le
  obtain ⟨i0, hi, hz0, hz1, hz2⟩ := info_parts info22b
  obtain ⟨w0, hw0⟩ : ∃ w0, w0 = w.alloc (.cells #[.int .i64 n, v] 24) := ⟨_, rfl⟩
  have hB0 : Below w.heap.size w w0 := by rw [hw0]; exact balloc w _
  have hX0 : BoxG w0 w.heap.size n v := by rw [hw0]; exact blk0 (w := w) (T := 24) _ _
  have hpos9 : 0 < w0.heap.size := by rw [hw0]; simp
  obtain ⟨c0, c1, _, _⟩ := hX0.two
  have HEO := hide (E_ok n v zs w0 hg.tab (hv.below hB0))
  rw [hg.one] at HEO
  rw [hw0] at c0 c1
  go_enter Tryd.func48, Tryd.ntmps48
  go_wp2_with fail
  rw [← hw0]
  clear c0 c1 hw0
  refine HEO.out.mono ?_
  rintro x w1 ⟨rfl, hb1⟩
  have h1l : li (lst n fun a => decide (a = e)) = [(e : Int)] := by rw [one_lst hg.elt]; rfl
  obtain ⟨wA, hwA⟩ : ∃ wA, wA = (w1.alloc (.cells #[.int .i64 e] 3)).alloc (.cells #[.slice (some ⟨w1.heap.size, 0, none⟩) 1 1] 22) := ⟨_, rfl⟩
  have hbA : Below w1.heap.size w1 wA := by rw [hwA]; exact (balloc w1 _).alloc (by simp) _
  have hzA : wA.heap.size = w1.heap.size + 2 := by rw [hwA]; simp
  have hSB : Boxed wA (w1.heap.size + 1) 22 (.slice (some ⟨w1.heap.size, 0, none⟩) 1 1) := by
    rw [hwA]
    have := Boxed.new (w1.alloc (.cells #[.int .i64 e] 3)) 22 (.slice (some ⟨w1.heap.size, 0, none⟩) 1 1)
    rwa [World.size_alloc] at this
  have hRd : Reads wA (some ⟨w1.heap.size, 0, none⟩) w1.heap.size 0 [(e : Int)] := ⟨fun _ => rfl, fun k hk => by
    have : k = 0 := by simp at hk; omega
    subst this
    rw [hwA]
    exact below_cell (balloc _ _) (cell1 w1 (.int .i64 e) 3)⟩
  have hrow0 : (wA.alloc (.cells #[.slice (some ⟨w1.heap.size, 0, none⟩) 1 1] 22)).ownsRow (w1.heap.size + 2) 22 1 (.slice (some ⟨w1.heap.size + 2, 0, none⟩) 1 1) 1 [.slice (some ⟨w1.heap.size, 0, none⟩) 1 1] := by
    have := World.ownsRow_lit (base := w1.heap.size + 2) (e := 22) (size := 1) wA #[.slice (some ⟨w1.heap.size, 0, none⟩) 1 1] 1 (by omega) (by unfold maxLen; omega) rfl
    rwa [hzA] at this
  have hbB := balloc wA (.cells #[.slice (some ⟨w1.heap.size, 0, none⟩) 1 1] 22)
  have hls0 : LstX (wA.alloc (.cells #[.slice (some ⟨w1.heap.size, 0, none⟩) 1 1] 22)) w1.heap.size (w1.heap.size + 1) (.slice (some ⟨w1.heap.size + 2, 0, none⟩) 1 1) [.slice (some ⟨w1.heap.size, 0, none⟩) 1 1] (sls n (itr (upq n zs e) (fun a => decide (a = e))) 1) := by
    refine ⟨by simp [sls], fun t x l h1 h2 => ?_⟩
    match t, h1, h2 with
    | 0, h1, h2 =>
      simp [sls, itr, h1l] at h1 h2
      subst h1 h2
      exact ⟨some ⟨w1.heap.size, 0, none⟩, 1, w1.heap.size, 0, rfl, hRd.below hbB (by omega), by simp; omega, by simp, by unfold maxLen; omega, Nat.le_refl _, by omega, fun g hg => by simp [Value.ownBlock] at hg; omega⟩
  have hSBB := Boxed.below hSB hbB
  have hRdB := hRd.below hbB (by omega)
  have hBB := bcat2 hb1 (bcat2 hbA hbB)
  have hzB : (wA.alloc (.cells #[.slice (some ⟨w1.heap.size, 0, none⟩) 1 1] 22)).heap.size = w1.heap.size + 3 := by simp [hzA]
  have t0 := hSB.cell
  rw [hwA] at t0
  go_wp2_with fail
  rw [← hwA]
  clear t0 hRd hSB hbB
  have hw1s := hb1.size
  clear hbA hwA
  generalize w1.heap.size = B1 at *
  generalize wA.alloc (.cells #[.slice (some ⟨B1, 0, none⟩) 1 1] 22) = wB at *
  go_loopw [4] (fun s4 wr => ∃ (i : Nat) (sa : Option Addr) (sc sb so : Nat) (oa : Option Addr) (oc : Nat) (vs : List Value), s4 = .slice oa vs.length oc ∧ Hid (Stp n (upq n zs e) (Nsg n zs e) (fun q => n - (lst n q).length) (fun a => decide (a = e)) i) ∧ Boxed wr (B1 + 1) 22 (.slice sa (li (lst n (itr (upq n zs e) (fun a => decide (a = e)) i))).length sc) ∧ Reads wr sa sb so (li (lst n (itr (upq n zs e) (fun a => decide (a = e)) i))) ∧ sb < wr.heap.size ∧ (li (lst n (itr (upq n zs e) (fun a => decide (a = e)) i))).length ≤ sc ∧ sc ≤ maxLen ∧ sb ≠ B1 + 1 ∧ wr.ownsRow (B1 + 2) 22 1 (.slice oa vs.length oc) vs.length vs ∧ LstX wr B1 (B1 + 1) (.slice oa vs.length oc) vs (sls n (itr (upq n zs e) (fun a => decide (a = e))) (i + 1)) ∧ Below w0.heap.size w0 wr ∧ B1 + 3 ≤ wr.heap.size) (fun s4 _ => 70 - lenOf s4)
  case atStart =>
    have hl1 : (lst n fun a => decide (a = e)).length = 1 := by rw [one_lst hg.elt]; rfl
    exact ⟨0, some ⟨B1, 0, none⟩, 1, B1, 0, some ⟨B1 + 2, 0, none⟩, 1, [.slice (some ⟨B1, 0, none⟩) 1 1], rfl, hide ⟨fun i h => by omega, fun i h => by rw [show i = 0 by omega]; exact Nsg.one_alone hg, by show n - _ + 0 ≤ 60; omega⟩, by rw [show itr (upq n zs e) (fun a => decide (a = e)) 0 = (fun a => decide (a = e)) from rfl, h1l]; exact hSBB, by rw [show itr (upq n zs e) (fun a => decide (a = e)) 0 = (fun a => decide (a = e)) from rfl, h1l]; exact hRdB, by omega, by rw [show itr (upq n zs e) (fun a => decide (a = e)) 0 = (fun a => decide (a = e)) from rfl, h1l]; simp, by unfold maxLen; omega, by omega, hrow0, hls0, hBB, by omega⟩
  case round =>
    clear hrow0 hls0 hSBB hRdB hBB hzB hzA h1l HEO
    obtain ⟨i, sa, sc, sb, so, oa, oc, vs, rfl, HS, hSB, hRd, hsb, hsl1, hsl2, hsx, hrow, hls, hB, hzz⟩ := hrel
    have hm := HS.out.meas
    have HNX := hide (show itr (upq n zs e) (fun a => decide (a = e)) (i + 1) = upq n zs e (itr (upq n zs e) (fun a => decide (a = e)) i) from rfl)
    have hsl : Sl wr (.slice sa (li (lst n (itr (upq n zs e) (fun a => decide (a = e)) i))).length sc) (li (lst n (itr (upq n zs e) (fun a => decide (a = e)) i))) := ⟨sa, sc, sb, so, rfl, hRd, hsb, hsl1, hsl2⟩
    have hXr := blk_below hX0 hB
    have HTH := hide (rthose_ok n 84 v #[.pointer (some ⟨w.heap.size, 0, none⟩), .pointer (some ⟨B1 + 1, 0, none⟩)] (upq n zs e (itr (upq n zs e) (fun a => decide (a = e)) i)) wr hn (fun a W => call84 a _ _ W) (fun W a hW ha => ris1_ok n e w.heap.size (B1 + 1) a v _ zs (itr (upq n zs e) (fun a => decide (a = e)) i) W (hv.below (bcat2 (bcat2 hB0 hB) hW)) hg (blk_below hXr hW) (Boxed.below hSB hW) (hsl.below hW) ha))
    rw [← HNX.out] at HTH
    have he9 : itr (upq n zs e) (fun a => decide (a = e)) (i + 1) e = true := ((HS.out.inv i (Nat.le_refl _)).up hg).sg.one
    obtain ⟨c0, c1, _, _⟩ := hXr.two
    go_wp2_with fail
    clear c0 c1
    refine HTH.out.mono ?_
    rintro x9 w8 ⟨tv, rfl, htr, hb8⟩
    obtain ⟨tg, tc, rfl, htf⟩ := row_slf htr (sg_pos hg.elt he9)
    have htl := htf.sl
    have hsl8 := hsl.below hb8
    have hSB8 := Boxed.below hSB hb8
    have hrow8 := own_keep2 hrow (fun g _ h2 => hb8.block g h2)
    have hls8 : LstX w8 B1 (B1 + 1) (.slice oa vs.length oc) vs (sls n (itr (upq n zs e) (fun a => decide (a = e))) (i + 1)) := hls.keep hb8.size (fun g _ h2 _ _ => hb8.block g h2) (.inl rfl)
    have hown2 : ∀ g, (Value.slice oa vs.length oc).ownBlock = some g → g < wr.heap.size := fun g hg => (hrow.lt g hg).2
    have hB8 := bcat2 hB hb8
    have HIN := hide (ints_any _ _ _ _ w8 hsl8 htl)
    have hs8 := hb8.size
    have HLQ := hide (show (li (lst n (itr (upq n zs e) (fun a => decide (a = e)) i))).length ≤ 60 by rw [li_len]; exact Nat.le_trans (lst_len _ _) hn)
    have hl60 : (li (lst n (itr (upq n zs e) (fun a => decide (a = e)) (i + 1)))).length ≤ 60 := by rw [li_len]; exact Nat.le_trans (lst_len _ _) hn
    have t0 := hSB8.cell
    clear htr hrow hls hsl hRd hSB HTH hXr
    go_wp2_with fail
    clear t0
    refine HIN.out.mono ?_
    rintro x9 w9 ⟨rfl, hb9⟩
    have hB9 := bcat2 hB8 hb9
    have hSB9 := Boxed.below hSB8 hb9
    have hrow9 := own_keep2 hrow8 (fun g _ h2 => hb9.block g h2)
    have hls9 : LstX w9 B1 (B1 + 1) (.slice oa vs.length oc) vs (sls n (itr (upq n zs e) (fun a => decide (a = e))) (i + 1)) := hls8.keep hb9.size (fun g _ h2 _ _ => hb9.block g h2) (.inl rfl)
    have hs9 := hb9.size
    have htf9 := htf.below hb9
    clear hrow8 hls8 htf hSB8 htl hsl8
    by_cases heq : bs (itr (upq n zs e) (fun a => decide (a = e)) (i + 1)) n = bs (itr (upq n zs e) (fun a => decide (a = e)) i) n
    · have HQ := hide heq
      rw [decide_eq_true (show li (lst n (itr (upq n zs e) (fun a => decide (a = e)) i)) = li (lst n (itr (upq n zs e) (fun a => decide (a = e)) (i + 1))) from li_same.2 heq.symm)]
      have HSL := hide (SlL.of_own hrow9 hls9.lsts (by omega))
      clear heq hrow9 hls9 htf9
      go_wp2
      go_ret
      exact ⟨i, _, rfl, HS.out, HQ.out, HSL.out, bcat2 hB0 hB9⟩
    · rw [decide_eq_false (show ¬ li (lst n (itr (upq n zs e) (fun a => decide (a = e)) i)) = li (lst n (itr (upq n zs e) (fun a => decide (a = e)) (i + 1))) from fun h9 => heq (li_same.1 h9).symm)]
      have HS2 : Hid (Stp n (upq n zs e) (Nsg n zs e) (fun q => n - (lst n q).length) (fun a => decide (a = e)) (i + 1)) := hide (by
        have hI := HS.out.inv i (Nat.le_refl _)
        have h3 := less_of n (p := (itr (upq n zs e) (fun a => decide (a = e)) i)) (q := upq n zs e (itr (upq n zs e) (fun a => decide (a = e)) i)) (fun x hx h3 => up_has hg hI hx h3) (fun h9 => heq h9.symm)
        have h4 := lst_len n (upq n zs e (itr (upq n zs e) (fun a => decide (a = e)) i))
        have h7 : n - (lst n (itr (upq n zs e) (fun a => decide (a = e)) i)).length + i ≤ 60 := HS.out.meas
        refine ⟨fun t h => ?_, fun t h => ?_, ?_⟩
        · by_cases h1 : t = i
          · rw [h1]; exact heq
          · exact HS.out.go t (by omega)
        · by_cases h1 : t = i + 1
          · rw [h1]; exact hI.up hg
          · exact HS.out.inv t (by omega)
        · show n - (lst n (upq n zs e (itr (upq n zs e) (fun a => decide (a = e)) i))).length + (i + 1) ≤ 60
          omega)
      have HVL := hide (show vs.length = i + 1 by rw [hls9.1, sls_len])
      have hv61 : vs.length ≤ 61 := by
        rw [HVL.out]
        have h7 : n - (lst n (itr (upq n zs e) (fun a => decide (a = e)) i)).length + i ≤ 60 := HS.out.meas
        omega
      have HUPS := hide (sls_up n (itr (upq n zs e) (fun a => decide (a = e))) (i + 1))
      obtain ⟨qa9, qcap9, qb9, qo9, hqe9, hq9, hq91, hq92, hq93, hq94⟩ := htf9
      injection hqe9 with hqe91 hqe92 hqe93
      subst hqe91 hqe93
      have HQ9 := hide hq9
      have f0 := hSB9.cell
      have ff := hSB9.frozen
      clear heq hq9 hqe92 HIN hm
      generalize hlj : li (lst n (itr (upq n zs e) (fun a => decide (a = e)) (i + 1))) = lj at *
      have HLJ := hide hlj
      clear hlj
      -- the box holds the new one
      obtain ⟨w10, hw10⟩ : ∃ w10, w10 = w9.setCell ⟨B1 + 1, 0, none⟩ (.slice (some ⟨tg, 0, none⟩) lj.length tc) := ⟨_, rfl⟩
      have hz10 : w10.heap.size = w9.heap.size := by rw [hw10, size_set]
      have hk10 : ∀ g, g ≠ B1 + 1 → w10.heap[g]? = w9.heap[g]? := fun g hne => by rw [hw10]; exact Below.heap_setCell _ _ _ g hne
      have hSB10 : Boxed w10 (B1 + 1) 22 (.slice (some ⟨tg, 0, none⟩) lj.length tc) := by rw [hw10]; exact hSB9.set _
      have hB10 : Below w0.heap.size w0 w10 := by rw [hw10]; exact bSet hB9 (by omega)
      have hrow10 := own_keep2 (W' := w10) hrow9 (fun g h1 _ => hk10 g (by omega))
      have hls10 : LstX w10 B1 (B1 + 1) (.slice oa vs.length oc) vs (sls n (itr (upq n zs e) (fun a => decide (a = e))) (i + 1)) := hls9.keep (by omega) (fun g _ _ h3 _ => hk10 g h3) (.inl rfl)
      have hrd10 := HQ9.out.of_eq (hk10 qb9 (by omega))
      have t0 := hSB10.cell
      rw [hw10] at t0
      clear hrow9 hls9 hSB9
      have hrowS : (w9.setCell ⟨B1 + 1, 0, none⟩ (.slice (some ⟨tg, 0, none⟩) lj.length tc)).ownsRow (B1 + 2) 22 1 (.slice oa vs.length oc) vs.length vs := by rw [← hw10]; exact hrow10
      go_wp2_with (first
        | (at_builtin; refine wpList_append_own_at _ rfl _ _ 25 rfl (B1 + 2) 22 i0 (.slice none 0 0) 1 24 und38s hi hz0 hz1 hz2 rfl (by decide) _ _ _ rfl (World.ownsRow.alloc hrowS _) ⟨w9.heap.size, 0, none⟩ 1 1 [.slice (some ⟨tg, 0, none⟩) lj.length tc] rfl rfl ?c1 ?c2 ?c3 ?c4 ?c5 ?_))
      case c1 =>
        intro j u h
        have := cell_one_new (w9.setCell ⟨B1 + 1, 0, none⟩ (.slice (some ⟨tg, 0, none⟩) lj.length tc)) (.slice (some ⟨tg, 0, none⟩) lj.length tc) 22 j u h
        rwa [size_set] at this
      case c2 => simp [Value.oneCell']
      case c3 => unfold maxLen; omega
      case c4 => omega
      case c5 => simp; omega
      intro v' wz hown' hgrow hnil hloc
      rw [← hw10] at hgrow
      obtain ⟨ra', rcap', rfl⟩ := own_slice' hown'
      have hBz : Below w0.heap.size w0 wz := (hB10.alloc (by omega) _).grown hgrow (by simp; omega) (fun t e => by have := owns_ge hrow10 t e; omega)
      have hbl : ∀ g, g < w10.heap.size → (Value.slice oa vs.length oc).ownBlock ≠ some g → wz.heap[g]? = w10.heap[g]? := fun g h1 h2 => (hgrow.block g (by simp; omega) (fun e => h2 e.symm)).trans (Below.block (balloc w10 _) g h1)
      have hsz : w10.heap.size < wz.heap.size := by have := hgrow.size; simp at this; omega
      have hlo : (Value.slice ra' (vs.length + 1) rcap').ownBlock = (Value.slice oa vs.length oc).ownBlock ∨ ∀ g, (Value.slice ra' (vs.length + 1) rcap').ownBlock = some g → w10.heap.size ≤ g := by
        rcases hloc with h | h
        · exact .inl h
        · right; intro g hg; rw [h] at hg; simp at hg; omega
      have hrdz := hrd10.of_eq (hbl qb9 (by omega) (fun e => by have := hown2 _ e; omega))
      have hSBz : Boxed wz (B1 + 1) 22 (.slice (some ⟨tg, 0, none⟩) lj.length tc) := (hbl (B1 + 1) (by omega) (fun e => by have := owns_ge hrow10 _ e; omega)).trans hSB10
      have hlsz := (hls10.keep (r' := .slice ra' (vs.length + 1) rcap') (by omega) (fun g _ h2 _ h3 => hbl g h2 h3) hlo).snoc (x := .slice (some ⟨tg, 0, none⟩) lj.length tc) (l := lj) ⟨some ⟨tg, 0, none⟩, tc, qb9, qo9, rfl, hrdz, by omega, hq92, hq93, by omega, by omega, fun g hg e => by
        subst e
        rcases hlo with h | h
        · have := hown2 _ (h ▸ hg); omega
        · have := h _ hg; omega⟩
      have hrowz : wz.ownsRow (B1 + 2) 22 1 (.slice ra' (vs ++ [Value.slice (some ⟨tg, 0, none⟩) lj.length tc]).length rcap') (vs ++ [Value.slice (some ⟨tg, 0, none⟩) lj.length tc]).length (vs ++ [Value.slice (some ⟨tg, 0, none⟩) lj.length tc]) := by simpa using hown'
      have hlsz2 : LstX wz B1 (B1 + 1) (.slice ra' (vs ++ [Value.slice (some ⟨tg, 0, none⟩) lj.length tc]).length rcap') (vs ++ [Value.slice (some ⟨tg, 0, none⟩) lj.length tc]) (sls n (itr (upq n zs e) (fun a => decide (a = e))) (i + 1 + 1)) := by
        rw [HUPS.out]
        simpa using hlsz
      clear hown' hgrow hloc hlo hbl hrow10 hls10 hlsz hrowS t0 f0 ff hw10
      go_wp2
      go_roundw
      case rel => exact ⟨i + 1, some ⟨tg, 0, none⟩, tc, qb9, qo9, ra', rcap', _, by simp, HS2, by rw [HLJ.out]; exact hSBz, by rw [HLJ.out]; exact hrdz, by omega, by rw [HLJ.out]; exact hq92, hq93, by omega, hrowz, hlsz2, hBz, by omega⟩
      case measure => simp [lenOf]; omega
end Go.Proofs.YtolbpjjjoafkkaaDoor

namespace Go.Proofs.YtolbpjjjoafkkaaDoor
open Go Go.RowKit

set_option maxRecDepth 100000 in
set_option maxHeartbeats 8000000 in
theorem fallT_ok (n e : Nat) (v : Value) (zs : List Int) (I : (Nat → Bool) → Prop) (w : World) (hv : Sl w v zs) (hg : IsGrp n zs e) (hI0 : I (fun _ => true)) (hI : ∀ q, I q → bs (fl n zs e true q) n ≠ bs q n → I (fl n zs e true q) ∧ (lst n (fl n zs e true q)).length < (lst n q).length) :
    Calls Tryd.prog 45 #[.agg #[.int .i64 n, v], .bool true] w fun x w' => ∃ K y, x = .returned y ∧ Stp n (fl n zs e true) I (fun q => (lst n q).length) (fun _ => true) K ∧ bs (itr (fl n zs e true) (fun _ => true) (K + 1)) n = bs (itr (fl n zs e true) (fun _ => true) K) n ∧ SlL w' y (sls n (itr (fl n zs e true) (fun _ => true)) (K + 1)) ∧ Below w.heap.size w w' := by
  have hn := hg.tab.le
  obtain ⟨i0, hi, hz0, hz1, hz2⟩ := info_parts info22b
  obtain ⟨i3, hi3, hy0, hy1, hy2⟩ := info_parts info3b
  have HI := hide hI
  clear hI
  obtain ⟨w0, hw0⟩ : ∃ w0, w0 = w.alloc (.cells #[.int .i64 n, v] 24) := ⟨_, rfl⟩
  have hB0 : Below w.heap.size w w0 := by rw [hw0]; exact balloc w _
  have hX0 : BoxG w0 w.heap.size n v := by rw [hw0]; exact blk0 (w := w) (T := 24) _ _
  have hpos9 : 0 < w0.heap.size := by rw [hw0]; simp
  obtain ⟨c0, c1, _, _⟩ := hX0.two
  rw [hw0] at c0 c1
  go_enter Tryd.func45, Tryd.ntmps45
  go_wp2_with fail
  rw [← hw0]
  clear c0 c1 hw0
  refine (stays_ok n _ hn).mono ?_
  rintro x w1 ⟨sv, rfl, hsr, hb1⟩
  rw [← lst_all] at hsr
  have hpos1 : 0 < w1.heap.size := Nat.lt_of_lt_of_le hpos9 hb1.size
  have hs1 := row_sl hsr hpos1
  obtain ⟨sg1, sc1, rfl, hsf1⟩ := row_slf hsr (sg_pos hg.elt rfl)
  have hsl1 := hsf1.sl
  obtain ⟨qa, qcap, qb, qo, hqe, hq, hq1, hq2, hq3, hq4⟩ := hsf1
  rw [hqe] at hsl1 ⊢
  have hrow0 : (w1.alloc (.cells #[.slice qa (li (lst n fun _ => true)).length qcap] 22)).ownsRow w0.heap.size 22 1 (.slice (some ⟨w1.heap.size, 0, none⟩) 1 1) 1 [.slice qa (li (lst n fun _ => true)).length qcap] := World.ownsRow_lit (e := 22) (size := 1) w1 #[.slice qa (li (lst n fun _ => true)).length qcap] 1 hb1.size (by unfold maxLen; omega) rfl
  have hbA := balloc w1 (.cells #[.slice qa (li (lst n fun _ => true)).length qcap] 22)
  have hls0 : Lsts (w1.alloc (.cells #[.slice qa (li (lst n fun _ => true)).length qcap] 22)) w0.heap.size (.slice (some ⟨w1.heap.size, 0, none⟩) 1 1) [.slice qa (li (lst n fun _ => true)).length qcap] (sls n (itr (fl n zs e true) (fun _ => true)) 1) := by
    refine ⟨by simp [sls], fun t x l h1 h2 => ?_⟩
    match t, h1, h2 with
    | 0, h1, h2 =>
      simp [sls, itr] at h1 h2
      subst h1 h2
      exact ⟨qa, qcap, qb, qo, by simp, hq.below hbA hq1, by simp; omega, hq2, hq3, hq4, fun g hg => by simp [Value.ownBlock] at hg; omega⟩
  have hslA := hsl1.below hbA
  have hBA := bcat2 hb1 hbA
  have HLN := hide (li_len (lst n fun _ => true))
  generalize hL1 : (li (lst n fun _ => true)).length = L1 at *
  clear hsr hs1 hsl1 hq hq1 hq2 hq3 hq4 hbA hqe
  go_wp2_with fail
  generalize w1.alloc (.cells #[.slice qa L1 qcap] 22) = wA at *
  go_loopw [5, 6] (fun s5 s6 wr => ∃ (i : Nat) (sa : Option Addr) (sc : Nat) (oa : Option Addr) (oc : Nat) (vs : List Value), s5 = .slice sa (li (lst n (itr (fl n zs e true) (fun _ => true) i))).length sc ∧ s6 = .slice oa vs.length oc ∧ Hid (Stp n (fl n zs e true) I (fun q => (lst n q).length) (fun _ => true) i) ∧ Sl wr (.slice sa (li (lst n (itr (fl n zs e true) (fun _ => true) i))).length sc) (li (lst n (itr (fl n zs e true) (fun _ => true) i))) ∧ wr.ownsRow w0.heap.size 22 1 (.slice oa vs.length oc) vs.length vs ∧ Lsts wr w0.heap.size (.slice oa vs.length oc) vs (sls n (itr (fl n zs e true) (fun _ => true)) (i + 1)) ∧ Below w0.heap.size w0 wr) (fun _ s6 _ => 70 - lenOf s6)
  case atStart => exact ⟨0, qa, qcap, some ⟨w1.heap.size, 0, none⟩, 1, [.slice qa L1 qcap], by rw [show itr (fl n zs e true) (fun _ => true) 0 = (fun _ => true) from rfl, hL1], rfl, hide ⟨fun i h => by omega, fun i h => by rw [show i = 0 by omega]; exact hI0, by show (lst n fun _ => true).length + 0 ≤ 60; rw [lst_all, List.length_range]; omega⟩, by rw [show itr (fl n zs e true) (fun _ => true) 0 = (fun _ => true) from rfl, hL1]; exact hslA, hrow0, hls0, hBA⟩
  case round =>
    clear hrow0 hls0 hBA hslA hI0 hL1 HLN hb1 hpos1
    obtain ⟨i, sa, sc, oa, oc, vs, rfl, rfl, HS, hsl, hrow, hls, hB⟩ := hrel
    have hm := HS.out.meas
    have HUP := hide (show itr (fl n zs e true) (fun _ => true) (i + 1) = cmb n zs e (itr (fl n zs e true) (fun _ => true) i) (fun _ => true) from rfl)
    have hXr := blk_below hX0 hB
    obtain ⟨c0, c1, _, _⟩ := hXr.two
    have hpr : 0 < wr.heap.size := Nat.lt_of_lt_of_le hpos9 hB.size
    go_wp2_with fail
    clear c0 c1
    refine (stays_ok n _ hn).mono ?_
    rintro x w4 ⟨mv, rfl, hmr, hb4⟩
    rw [← lst_all] at hmr
    obtain ⟨mg, mc, rfl, hmf⟩ := row_slf hmr (sg_pos hg.elt rfl)
    have hm4 := hmf.sl
    clear hmr hmf
    generalize (some (⟨mg, 0, none⟩ : Addr)) = ma at hm4 ⊢
    obtain ⟨xs, hxs⟩ : ∃ xs, xs = lst n (itr (fl n zs e true) (fun _ => true) i) := ⟨_, rfl⟩
    have HXS := hide hxs
    rw [← hxs] at hsl hm ⊢
    obtain ⟨ys, hys⟩ : ∃ ys, ys = lst n (fun _ => true) := ⟨_, rfl⟩
    have HYS := hide hys
    have hyl : ys.length ≤ 60 := by rw [hys]; exact Nat.le_trans (lst_len _ _) hn
    have HYN := hide (show ∀ y, y ∈ ys → y < n from fun y h => by rw [hys] at h; exact (mem_lst.1 h).1)
    rw [← hys] at hm4 ⊢
    clear hys
    have hxl : xs.length ≤ 60 := by rw [hxs]; exact Nat.le_trans (lst_len _ _) hn
    have HXN := hide (show ∀ x, x ∈ xs → x < n from fun x h => by rw [hxs] at h; exact (mem_lst.1 h).1)
    clear hxs
    have hsl4 := hsl.below hb4
    have hB4 := bcat2 hB hb4
    have hX4 := blk_below hX0 hB4
    have hrow4 := own_keep2 hrow (fun g _ h2 => hb4.block g h2)
    have hls4 : Lsts w4 w0.heap.size (.slice oa vs.length oc) vs (sls n (itr (fl n zs e true) (fun _ => true)) (i + 1)) := hls.keep hb4.size (fun g _ h2 _ => hb4.block g h2) (.inl rfl)
    clear hsl hrow hls hXr
    obtain ⟨sa', sc', sb, so, hse, hsr, hsp, hsq, hsm⟩ := id hsl4
    obtain ⟨ma', mc', mb, mo, hme, hmr4, hmp, hmq, hmm⟩ := id hm4
    have HLX := hide (li_len xs)
    have HLY := hide (li_len ys)
    have HSR := hide hsr
    have HMR := hide hmr4
    injection hse with hse1 hse2 hse3
    subst hse1 hse3
    injection hme with hme1 hme2 hme3
    subst hme1 hme3
    clear hsr hmr4 hse2 hme2
    rw [HLX.out] at hsl4 hsq ⊢
    rw [HLY.out] at hm4 hmq
    try rw [HLY.out]
    go_wp2_with fail
    go_loopw [8, 9] (fun cv i9 wr => ∃ (k : Nat) (ca : Option Addr) (cc : Nat), k ≤ xs.length ∧ i9 = .int .i64 k ∧ cv = .slice ca (li (cmL n zs e (xs.take k) ys)).length cc ∧ Row wr w4.heap.size (.slice ca (li (cmL n zs e (xs.take k) ys)).length cc) (li (cmL n zs e (xs.take k) ys)) ∧ Below w4.heap.size w4 wr) (fun _ i9 _ => xs.length - (intOf i9).toNat)
    case atStart => exact ⟨0, none, 0, Nat.zero_le _, rfl, rfl, nil_row _ _, Below.refl _ _⟩
    case round =>
      obtain ⟨k, ca, cc, hk, rfl, rfl, hrc, hb⟩ := hrel
      by_cases hlt : k < xs.length
      · have hki : (k : Int) < (xs.length : Int) := by omega
        have hck := (HSR.out.below hb hsp).cell k (by rw [HLX.out]; exact hlt)
        rw [li_get hlt] at hck
        obtain rfl := HSR.out.at_ (by rw [HLX.out]; omega)
        obtain ⟨x, hxe⟩ : ∃ x, xs[k] = x := ⟨_, rfl⟩
        have hxn : x < n := by rw [← hxe]; exact HXN.out _ (List.getElem_mem hlt)
        have hsn : xs.take (k + 1) = xs.take k ++ [x] := by rw [List.take_succ_eq_append_getElem hlt, hxe]
        rw [hxe] at hck
        have HSN := hide hsn
        have HXE := hide hxe
        clear hxe hsn
        have HLC := hide (show (cmL n zs e (xs.take k) ys).length ≤ 3600 by
          rw [cmL_len]
          have h1 : (xs.take k).length ≤ 60 := by rw [List.length_take]; omega
          exact Nat.mul_le_mul h1 hyl)
        generalize hcs : cmL n zs e (xs.take k) ys = cs at *
        have HCS := hide hcs
        clear hcs
        go_wp2_with fail
        go_loopw [8, 10] (fun cv i9 wr => ∃ (j : Nat) (ca : Option Addr) (cc : Nat), j ≤ ys.length ∧ i9 = .int .i64 j ∧ cv = .slice ca (li (cs ++ (ys.take j).map fun y => Fin.cm (tm n zs) (iv n zs e) x y)).length cc ∧ Row wr w4.heap.size (.slice ca (li (cs ++ (ys.take j).map fun y => Fin.cm (tm n zs) (iv n zs e) x y)).length cc) (li (cs ++ (ys.take j).map fun y => Fin.cm (tm n zs) (iv n zs e) x y)) ∧ Below w4.heap.size w4 wr) (fun _ i9 _ => ys.length - (intOf i9).toNat)
        case atStart => exact ⟨0, ca, cc, Nat.zero_le _, rfl, by simp, by simpa using hrc, hb⟩
        case round =>
          clear hrc hb hck
          obtain ⟨j, ca, cc, hj, rfl, rfl, hrc, hb⟩ := hrel
          by_cases hltj : j < ys.length
          · have hji : (j : Int) < (ys.length : Int) := by omega
            have hck := (HSR.out.below hb hsp).cell k (by rw [HLX.out]; exact hlt)
            rw [li_get hlt, HXE.out] at hck
            have hck4 := HSR.out.cell k (by rw [HLX.out]; exact hlt)
            rw [li_get hlt, HXE.out] at hck4
            have hcj := (HMR.out.below hb hmp).cell j (by rw [HLY.out]; exact hltj)
            rw [li_get hltj] at hcj
            have hcj4 := HMR.out.cell j (by rw [HLY.out]; exact hltj)
            rw [li_get hltj] at hcj4
            obtain rfl := HMR.out.at_ (by rw [HLY.out]; omega)
            obtain ⟨y, hye⟩ : ∃ y, ys[j] = y := ⟨_, rfl⟩
            have hyn : y < n := by rw [← hye]; exact HYN.out _ (List.getElem_mem hltj)
            have hsj : ys.take (j + 1) = ys.take j ++ [y] := by rw [List.take_succ_eq_append_getElem hltj, hye]
            rw [hye] at hcj hcj4
            have HSJ := hide (show li (cs ++ (ys.take (j + 1)).map fun y => Fin.cm (tm n zs) (iv n zs e) x y) = li (cs ++ (ys.take j).map fun y => Fin.cm (tm n zs) (iv n zs e) x y) ++ [((Fin.cm (tm n zs) (iv n zs e) x y : Nat) : Int)] by
              rw [hsj, List.map_append, ← List.append_assoc, li_app]
              rfl)
            have HLC2 := hide (show (li (cs ++ (ys.take j).map fun y => Fin.cm (tm n zs) (iv n zs e) x y)).length ≤ 3660 by
              rw [li_len, List.length_append, List.length_map, List.length_take]
              have := HLC.out
              omega)
            clear hye hsj
            have hXb := blk_below hX4 hb
            obtain ⟨c0, c1, _, _⟩ := hXb.two
            have HCM := hide (fun W (h : Below w4.heap.size w4 W) => rcm_ok n e x y v zs W hg (hv.below (bcat2 (bcat2 hB0 hB4) h)) hxn hyn)
            generalize Fin.cm (tm n zs) (iv n zs e) x y = t at *
            generalize li (cs ++ (ys.take j).map fun y => Fin.cm (tm n zs) (iv n zs e) x y) = lc at *
            have hown : wr.ownsRow w4.heap.size 3 1 (.slice ca lc.length cc) lc.length (lc.map (Value.int .i64)) := hrc
            have hs4 := hb.size
            obtain ⟨d0, d1, _, _⟩ := hX4.two
            have hS : ∀ W, Below w4.heap.size w4 W → (Below w4.heap.size w4 W ∧ W.cell? ⟨w.heap.size, 0, none⟩ = some (.int .i64 n) ∧ W.cell? ⟨w.heap.size, 1, none⟩ = some v ∧ W.cell? ⟨sb, so + k, none⟩ = some (.int .i64 x) ∧ W.cell? ⟨mb, mo + j, none⟩ = some (.int .i64 y)) := fun W h => ⟨h, below_cell h d0, below_cell h d1, below_cell h hck4, below_cell h hcj4⟩
            have hS0 := hS _ (bdrew hb)
            clear hck4 hcj4 d0 d1
            go_wp2_with fail
            clear c0 c1 hck hcj
            go_region_held3 (fun W => Below w4.heap.size w4 W ∧ W.cell? ⟨w.heap.size, 0, none⟩ = some (.int .i64 n) ∧ W.cell? ⟨w.heap.size, 1, none⟩ = some v ∧ W.cell? ⟨sb, so + k, none⟩ = some (.int .i64 x) ∧ W.cell? ⟨mb, mo + j, none⟩ = some (.int .i64 y))
              (first | exact hS0 | assumption | exact hS _ (bcat2 (And.left ‹_›) hl5) | exact hS _ (bcat2 hU5 (balloc _ _)) | exact hS _ hB9)
              (first
                | (go_at_call 82; refine (HCM.out _ (And.left ‹_›)).mono ?_; rintro e5 U5 ⟨rfl, hl5⟩; have hU5 := bcat2 (And.left ‹_›) hl5; have hr5 := own_keep2 (W := wr) hown (fun g _ h2 => hl5.block g h2); have hs5 := hl5.size)
                | (refine step_append_lies _ rfl _ _ 22 rfl w4.heap.size 3 i3 (.int .i64 0) 1 8 under22b hi3 hy0 hy1 hy2 rfl (by decide) _ _ _ rfl (World.ownsRow.alloc hr5 _) ⟨U5.heap.size, 0, none⟩ 1 1 [.int .i64 t] rfl rfl (cell_one_new _ _ _) (by simp [Value.oneCell']) (by decide) (by unfold maxLen; have := HLC2.out; omega) (by have := HLC2.out; omega) (by have := hU5.size; simp; omega) _ rfl ?_; intro g9 cap9 w9 hown9 hgrow hloc _; have hB9 : Below w4.heap.size w4 w9 := (hU5.alloc hU5.size _).grown hgrow (by have := hU5.size; simp; omega) (fun t e9 => owns_ge hr5 t e9)))
            all_goals (
              have hrow9 : Row w9 w4.heap.size (.slice (some ⟨g9, 0, none⟩) (li (cs ++ (ys.take (j + 1)).map fun y => Fin.cm (tm n zs) (iv n zs e) x y)).length cap9) (li (cs ++ (ys.take (j + 1)).map fun y => Fin.cm (tm n zs) (iv n zs e) x y)) := by
                rw [HSJ.out]
                unfold Row
                simpa using hown9
              clear hown9 hgrow hloc hr5 hown hrc
              go_wp2
              go_roundw
              case rel => exact ⟨j + 1, some ⟨g9, 0, none⟩, cap9, by omega, by go_num, by rw [HSJ.out]; simp, hrow9, hB9⟩
              case measure => simp [intOf]; omega)
          · have hjn : j = ys.length := by omega
            have HE := hide (show cs ++ (ys.take j).map (fun y => Fin.cm (tm n zs) (iv n zs e) x y) = cmL n zs e (xs.take (k + 1)) ys by
              rw [hjn, List.take_length, HSN.out, cmL_up, HCS.out])
            have hji : ¬ (j : Int) < (ys.length : Int) := by omega
            rw [HE.out] at hrc ⊢
            go_wp2
            go_roundw
            case rel => exact ⟨k + 1, ca, cc, by omega, by go_num, rfl, hrc, hb⟩
            case measure => simp [intOf]; omega
      · have hkn : k = xs.length := by omega
        have hki : ¬ (k : Int) < (xs.length : Int) := by omega
        rw [hkn, List.take_length] at hrc ⊢
        have HSP := hide (fun W u (h : Below w4.heap.size w4 W) (hu : Sl W u (li (cmL n zs e xs ys))) => span_ok n e v u zs (cmL n zs e xs ys) (itr (fl n zs e true) (fun _ => true) (i + 1)) W (hv.below (bcat2 (bcat2 hB0 hB4) h)) hg hu (cmL_lt hg HXN.out HYN.out) (by rw [cmL_len]; exact Nat.le_trans (Nat.mul_le_mul hxl hyl) (by omega)) (fun a ha => by rw [cmL_dec, HUP.out, HXS.out]; (try rw [HYS.out]); exact cmb_iff n zs e _ _ a ha))
        have hpb : 0 < wr.heap.size := Nat.lt_of_lt_of_le (Nat.lt_of_lt_of_le hpos9 hB4.size) hb.size
        have hcsl := row_sl hrc hpb
        have hXb := blk_below hX4 hb
        obtain ⟨c0, c1, _, _⟩ := hXb.two
        have hslb := hsl4.below hb
        have hrowb := own_keep2 hrow4 (fun g _ h2 => hb.block g h2)
        have hlsb : Lsts wr w0.heap.size (.slice oa vs.length oc) vs (sls n (itr (fl n zs e true) (fun _ => true)) (i + 1)) := hls4.keep hb.size (fun g _ h2 _ => hb.block g h2) (.inl rfl)
        have hBb := bcat2 hB4 hb
        clear hrc hrow4 hls4
        go_wp2_with fail
        clear c0 c1
        refine (HSP.out _ _ hb hcsl).mono ?_
        rintro x9 w8 ⟨tv, rfl, htr, hb8⟩
        have he9 : itr (fl n zs e true) (fun _ => true) (i + 1) e = true := by rw [HUP.out]; exact (cmb_sg hg).one
        obtain ⟨tg, tc, rfl, htf⟩ := row_slf htr (sg_pos hg.elt he9)
        have htl := htf.sl
        have hsl8 := hslb.below hb8
        have hrow8 := own_keep2 hrowb (fun g _ h2 => hb8.block g h2)
        have hls8 : Lsts w8 w0.heap.size (.slice oa vs.length oc) vs (sls n (itr (fl n zs e true) (fun _ => true)) (i + 1)) := hlsb.keep hb8.size (fun g _ h2 _ => hb8.block g h2) (.inl rfl)
        have hown2 : ∀ g, (Value.slice oa vs.length oc).ownBlock = some g → g < wr.heap.size := fun g hg => (hrowb.lt g hg).2
        have hB8 := bcat2 hBb hb8
        rw [← HLX.out] at hsl8
        have HIN := hide (ints_any _ _ _ _ w8 hsl8 htl)
        clear htr hslb hrowb hlsb htl
        rw [← HLX.out]
        have hl60 : (li (lst n (itr (fl n zs e true) (fun _ => true) (i + 1)))).length ≤ 60 := by rw [li_len]; exact Nat.le_trans (lst_len _ _) hn
        go_wp2_with fail
        refine HIN.out.mono ?_
        rintro x9 w9 ⟨rfl, hb9⟩
        have hB9 := bcat2 hB8 hb9
        have hrow9 := own_keep2 hrow8 (fun g _ h2 => hb9.block g h2)
        have hls9 : Lsts w9 w0.heap.size (.slice oa vs.length oc) vs (sls n (itr (fl n zs e true) (fun _ => true)) (i + 1)) := hls8.keep hb9.size (fun g _ h2 _ => hb9.block g h2) (.inl rfl)
        have hs9 := hb9.size
        have hs8 := hb8.size
        have htf9 := htf.below hb9
        have hz8 := hB9.size
        have hzr := hBb.size
        clear hrow8 hls8 htf
        by_cases heq : bs (itr (fl n zs e true) (fun _ => true) (i + 1)) n = bs (itr (fl n zs e true) (fun _ => true) i) n
        · have HQ := hide heq
          rw [decide_eq_true (show li xs = li (lst n (itr (fl n zs e true) (fun _ => true) (i + 1))) by rw [HXS.out]; exact li_same.2 heq.symm)]
          have HSL := hide (SlL.of_own hrow9 hls9 (by omega))
          clear heq hrow9 hls9 htf9
          go_wp2
          go_ret
          exact ⟨i, _, rfl, HS.out, HQ.out, HSL.out, bcat2 hB0 hB9⟩
        · rw [decide_eq_false (show ¬ li xs = li (lst n (itr (fl n zs e true) (fun _ => true) (i + 1))) by rw [HXS.out]; exact fun h9 => heq (li_same.1 h9).symm)]
          have HS2 : Hid (Stp n (fl n zs e true) I (fun q => (lst n q).length) (fun _ => true) (i + 1)) := hide (by
            have h9 := HI.out _ (HS.out.inv i (Nat.le_refl _)) (show bs (fl n zs e true (itr (fl n zs e true) (fun _ => true) i)) n ≠ _ from heq)
            have h7 := HS.out.meas
            refine ⟨fun t h => ?_, fun t h => ?_, ?_⟩
            · by_cases h1 : t = i
              · rw [h1]; exact heq
              · exact HS.out.go t (by omega)
            · by_cases h1 : t = i + 1
              · rw [h1]; exact h9.1
              · exact HS.out.inv t (by omega)
            · have h8 := h9.2
              show (lst n (fl n zs e true (itr (fl n zs e true) (fun _ => true) i))).length + (i + 1) ≤ 60
              have h7' : (lst n (itr (fl n zs e true) (fun _ => true) i)).length + i ≤ 60 := h7
              omega)
          have HVL := hide (show vs.length = i + 1 by rw [hls9.1, sls_len])
          have hv61 : vs.length ≤ 61 := by rw [HVL.out]; have := HS.out.meas; omega
          have HUPS := hide (sls_up n (itr (fl n zs e true) (fun _ => true)) (i + 1))
          have htl9 := htf9.sl
          obtain ⟨qa9, qcap9, qb9, qo9, hqe9, hq9, hq91, hq92, hq93, hq94⟩ := htf9
          injection hqe9 with hqe91 hqe92 hqe93
          subst hqe91 hqe93
          have HQ9 := hide hq9
          clear heq hq9 hqe92 HIN HSP
          generalize hlj : li (lst n (itr (fl n zs e true) (fun _ => true) (i + 1))) = lj at *
          have HLJ := hide hlj
          clear hlj
          go_wp2_with (first
            | (at_builtin; refine wpList_append_own_at _ rfl _ _ 25 rfl w0.heap.size 22 i0 (.slice none 0 0) 1 24 und38s hi hz0 hz1 hz2 rfl (by decide) _ _ _ rfl (World.ownsRow.alloc hrow9 _) ⟨w9.heap.size, 0, none⟩ 1 1 [.slice (some ⟨tg, 0, none⟩) lj.length tc] rfl rfl ?c1 ?c2 ?c3 ?c4 ?c5 ?_))
          case c1 => exact cell_one_new _ _ _
          case c2 => simp [Value.oneCell']
          case c3 => unfold maxLen; omega
          case c4 => omega
          case c5 => simp; omega
          intro v' wz hown' hgrow hnil hloc
          obtain ⟨ra', rcap', rfl⟩ := own_slice' hown'
          have hBz : Below w0.heap.size w0 wz := (hB9.alloc (by omega) _).grown hgrow (by simp; omega) (fun t e => by have := owns_ge hrow9 t e; omega)
          have hbl : ∀ g, g < w9.heap.size → (Value.slice oa vs.length oc).ownBlock ≠ some g → wz.heap[g]? = w9.heap[g]? := fun g h1 h2 => (hgrow.block g (by simp; omega) (fun e => h2 e.symm)).trans (Below.block (balloc w9 _) g h1)
          have hsz : w9.heap.size < wz.heap.size := by have := hgrow.size; simp at this; omega
          have hlo : (Value.slice ra' (vs.length + 1) rcap').ownBlock = (Value.slice oa vs.length oc).ownBlock ∨ ∀ g, (Value.slice ra' (vs.length + 1) rcap').ownBlock = some g → w9.heap.size ≤ g := by
            rcases hloc with h | h
            · exact .inl h
            · right; intro g hg; rw [h] at hg; simp at hg; omega
          have hrdz := HQ9.out.of_eq (hbl qb9 hq91 (fun e => by have := hown2 _ e; omega))
          have hlsz := (hls9.keep (r' := .slice ra' (vs.length + 1) rcap') (by omega) (fun g _ h2 h3 => hbl g h2 h3) hlo).snoc (x := .slice (some ⟨tg, 0, none⟩) lj.length tc) (l := lj) ⟨some ⟨tg, 0, none⟩, tc, qb9, qo9, rfl, hrdz, by omega, hq92, hq93, by omega, fun g hg e => by
            subst e
            rcases hlo with h | h
            · have := hown2 _ (h ▸ hg); omega
            · have := h _ hg; omega⟩
          have hslz : Sl wz (.slice (some ⟨tg, 0, none⟩) lj.length tc) lj := ⟨some ⟨tg, 0, none⟩, tc, qb9, qo9, rfl, hrdz, by omega, hq92, hq93⟩
          have hrowz : wz.ownsRow w0.heap.size 22 1 (.slice ra' (vs ++ [Value.slice (some ⟨tg, 0, none⟩) lj.length tc]).length rcap') (vs ++ [Value.slice (some ⟨tg, 0, none⟩) lj.length tc]).length (vs ++ [Value.slice (some ⟨tg, 0, none⟩) lj.length tc]) := by simpa using hown'
          have hlsz2 : Lsts wz w0.heap.size (.slice ra' (vs ++ [Value.slice (some ⟨tg, 0, none⟩) lj.length tc]).length rcap') (vs ++ [Value.slice (some ⟨tg, 0, none⟩) lj.length tc]) (sls n (itr (fl n zs e true) (fun _ => true)) (i + 1 + 1)) := by
            rw [HUPS.out]
            simpa using hlsz
          clear hown' hgrow hloc hlo hbl hrow9 hls9 hlsz
          go_wp2
          go_roundw
          case rel => exact ⟨i + 1, some ⟨tg, 0, none⟩, tc, ra', rcap', _, by rw [HLJ.out], by simp, HS2, by rw [HLJ.out]; exact hslz, hrowz, hlsz2, hBz⟩
          case measure => simp [lenOf]; omega
end Go.Proofs.YtolbpjjjoafkkaaDoor

namespace Go.Proofs.YtolbpjjjoafkkaaDoor
open Go Go.RowKit

/-- How the derived series goes, and whether it ends with the one. -/
def SolA (n : Nat) (zs : List Int) (e : Nat) (b : Bool) : Prop := ∃ K : Nat, Stp n (fun q => cmb n zs e q q) (fun q => Fin.Sg (List.range n) (tm n zs) e (fun a => q a = true)) (fun q => (lst n q).length) (fun _ => true) K ∧ bs (itr (fun q => cmb n zs e q q) (fun _ => true) (K + 1)) n = bs (itr (fun q => cmb n zs e q q) (fun _ => true) K) n ∧ (b = true ↔ (lst n (itr (fun q => cmb n zs e q q) (fun _ => true) K)).length = 1)
theorem stp_only {n : Nat} {nx : (Nat → Bool) → Nat → Bool} {I J : (Nat → Bool) → Prop} {M L : (Nat → Bool) → Nat} {q : Nat → Bool} {K H : Nat} (h1 : Stp n nx I M q K) (e1 : bs (itr nx q (K + 1)) n = bs (itr nx q K) n) (h2 : Stp n nx J L q H) (e2 : bs (itr nx q (H + 1)) n = bs (itr nx q H) n) : K = H := by
  rcases Nat.lt_trichotomy K H with h | h | h
  · exact absurd e1 (h2.go K h)
  · exact h
  · exact absurd e2 (h1.go H h)
theorem fl_false (n : Nat) (zs : List Int) (e : Nat) : fl n zs e false = fun q => cmb n zs e q q := rfl
theorem fl_true (n : Nat) (zs : List Int) (e : Nat) : fl n zs e true = fun q => cmb n zs e q fun _ => true := rfl
theorem call44 (x : Value) (W : World) : Sem.run Tryd.prog (callFunc 44 #[x]) W = .ok (.enter 44 #[x]) W := by kernel_rfl
theorem call46 (x : Value) (W : World) : Sem.run Tryd.prog (callFunc 46 #[x]) W = .ok (.enter 46 #[x]) W := by kernel_rfl
theorem call47 (x : Value) (W : World) : Sem.run Tryd.prog (callFunc 47 #[x]) W = .ok (.enter 47 #[x]) W := by kernel_rfl
set_option maxRecDepth 100000 in
set_option maxHeartbeats 2000000 in
theorem sol_good (n e : Nat) (v : Value) (zs : List Int) (w : World) (hv : Sl w v zs) (hg : IsGrp n zs e) (hT : Tab w) :
    Calls Tryd.prog 38 #[.agg #[.int .i64 n, v]] w fun x w' => ∃ b, x = .returned (.tuple #[.bool b, .agg #[.int .i64 0, .int .i64 0]]) ∧ SolA n zs e b ∧ Below w.heap.size w w' := by
  obtain ⟨w0, BG⟩ := Beg.new w n v
  obtain ⟨c0, c1, _, _⟩ := BG.box.two
  have HCK := hide (sder_good n e v zs w0 (hv.below BG.bel) hg (hT.below BG.bel))
  rw [BG.eq] at c0 c1
  go_enter Tryd.func38, Tryd.ntmps38
  go_wp2_with fail
  rw [← BG.eq]
  refine HCK.out.mono ?_
  rintro x w1 ⟨y, rfl, ⟨K, g, c, rfl, hst, hend, hR, _⟩, hb1⟩
  clear c0 c1
  have hm := hst.meas
  have hS := sls_at (n := n) (f := itr (fun q => cmb n zs e q q) (fun _ => true)) (k := K + 1) (i := K) (by omega)
  have HN := hide (show SolA n zs e (((lst n (itr (fun q => cmb n zs e q q) (fun _ => true) K)).length : Int) == 1) from ⟨K, hst, hend, by rw [beq_iff_eq]; omega⟩)
  have HEN := hide (ends_good g K c _ w1 hR (sls_len _ _ _) (by omega))
  rw [hS, li_len] at HEN
  clear hst hend hS
  generalize (((lst n (itr (fun q => cmb n zs e q q) (fun _ => true) K)).length : Int) == 1) = b at *
  go_wp2_with fail
  refine HEN.out.mono ?_
  rintro x w2 ⟨rfl, hb2⟩
  have hbb := bcat2 hb1 hb2
  have hR1 := blk_below BG.res hbb
  have hBw := bcat BG.bel hbb BG.bel.size
  obtain ⟨_, y0, y1, fy0, fy1, s0, s1⟩ := Two.mk' hR1
  go_wp2
  exact bodyPost_ret (v := .tuple #[.bool b, .agg #[.int .i64 0, .int .i64 0]]) (by simp [results, Tryd.results38, go_sem, y0, y1]) rfl ⟨b, rfl, HN.out, hBw⟩
set_option maxRecDepth 100000 in
set_option maxHeartbeats 2000000 in
theorem sol_bad (N : Int) (v : Value) (zs : List Int) (w : World) (hv : Sl w v zs) (hc : (gfault N zs).1 ≠ 0) :
    Calls Tryd.prog 38 #[.agg #[.int .i64 N, v]] w fun x w' => x = .returned (.tuple #[.bool false, .agg #[.int .i64 (gfault N zs).1, .int .i64 (gfault N zs).2]]) ∧ Below w.heap.size w w' := by
  obtain ⟨w0, BG⟩ := Beg.new w N v
  obtain ⟨c0, c1, _, _⟩ := BG.box.two
  have hck := sder_bad N v zs w0 (hv.below BG.bel) hc
  obtain ⟨c, i, hci⟩ : ∃ c i, gfault N zs = (c, i) := ⟨_, _, rfl⟩
  rw [hci] at hck hc ⊢
  simp only at hc hck
  have HCK := hide hck
  clear hck hci
  rw [BG.eq] at c0 c1
  go_enter Tryd.func38, Tryd.ntmps38
  go_wp2_with fail
  rw [← BG.eq]
  refine HCK.out.mono ?_
  rintro x w1 ⟨rfl, hb1⟩
  clear c0 c1
  go_wp2_with fail
  refine (ends_bad c i w1 hc).mono ?_
  rintro x w2 ⟨rfl, hb2⟩
  have hbb := bcat2 hb1 hb2
  have hR1 := blk_below BG.res hbb
  have hBw := bcat BG.bel hbb BG.bel.size
  obtain ⟨y0, y1, fy0, fy1⟩ := hR1.two
  obtain ⟨hR6, hB6⟩ := put2 hR1 hBw (by omega) c i
  obtain ⟨z0, z1, _, _⟩ := hR6.two
  go_wp2
  exact bodyPost_ret (v := .tuple #[.bool false, .agg #[.int .i64 c, .int .i64 i]]) (by simp [results, Tryd.results38, go_sem, z0, z1]) rfl ⟨rfl, hB6⟩
set_option maxRecDepth 100000 in
theorem sgo1_ok (n e gb K : Nat) (v : Value) (zs : List Int) {I : (Nat → Bool) → Prop} {M : (Nat → Bool) → Nat} (w : World) (hv : Sl w v zs) (hg : IsGrp n zs e) (hb : BoxG w gb n v) (h1 : Stp n (fun q => cmb n zs e q q) I M (fun _ => true) K) (e1 : bs (itr (fun q => cmb n zs e q q) (fun _ => true) (K + 1)) n = bs (itr (fun q => cmb n zs e q q) (fun _ => true) K) n) :
    Calls Tryd.prog 44 #[.pointer (some ⟨gb, 0, none⟩)] w fun x w' => ∃ r, x = .returned r ∧ SlL w' r (sls n (itr (fun q => cmb n zs e q q) (fun _ => true)) (K + 1)) ∧ Below w.heap.size w w' := by
  have HF := hide (fallF_ok n e v zs (fun q => Fin.Sg (List.range n) (tm n zs) e (fun a => q a = true)) w hv hg Nsg.all.sg (fun q h1 h2 => ⟨cmb_sg hg, less_of n (fun x hx h3 => der_in hg h1 hx h3) h2⟩))
  obtain ⟨c0, c1, _, _⟩ := hb.two
  have HK := hide (fun K' (h2 : Stp n (fun q => cmb n zs e q q) (fun q => Fin.Sg (List.range n) (tm n zs) e (fun a => q a = true)) (fun q => (lst n q).length) (fun _ => true) K') (e2 : bs (itr (fun q => cmb n zs e q q) (fun _ => true) (K' + 1)) n = bs (itr (fun q => cmb n zs e q q) (fun _ => true) K') n) => stp_only h1 e1 h2 e2)
  clear h1 e1
  go_enter Tryd.func44, Tryd.ntmps44
  go_wp2_with fail
  refine HF.out.mono ?_
  rintro x w1 ⟨K', y, rfl, hst, hend, hsl, hb1⟩
  obtain rfl := HK.out K' hst hend
  clear hst hend
  go_wp2
  go_ret
  exact ⟨_, rfl, hsl, hb1⟩
set_option maxRecDepth 100000 in
theorem sgo2_ok (n e gb K : Nat) (v : Value) (zs : List Int) {I : (Nat → Bool) → Prop} {M : (Nat → Bool) → Nat} (w : World) (hv : Sl w v zs) (hg : IsGrp n zs e) (hb : BoxG w gb n v) (h1 : Stp n (fun q => cmb n zs e q fun _ => true) I M (fun _ => true) K) (e1 : bs (itr (fun q => cmb n zs e q fun _ => true) (fun _ => true) (K + 1)) n = bs (itr (fun q => cmb n zs e q fun _ => true) (fun _ => true) K) n) :
    Calls Tryd.prog 46 #[.pointer (some ⟨gb, 0, none⟩)] w fun x w' => ∃ r, x = .returned r ∧ SlL w' r (sls n (itr (fun q => cmb n zs e q fun _ => true) (fun _ => true)) (K + 1)) ∧ Below w.heap.size w w' := by
  have HF := hide (fallT_ok n e v zs (Nsg n zs e) w hv hg Nsg.all (fun q h1 h2 => ⟨h1.low hg, less_of n (fun x hx h3 => low_in hg h1 hx h3) h2⟩))
  obtain ⟨c0, c1, _, _⟩ := hb.two
  have HK := hide (fun K' (h2 : Stp n (fun q => cmb n zs e q fun _ => true) (Nsg n zs e) (fun q => (lst n q).length) (fun _ => true) K') (e2 : bs (itr (fun q => cmb n zs e q fun _ => true) (fun _ => true) (K' + 1)) n = bs (itr (fun q => cmb n zs e q fun _ => true) (fun _ => true) K') n) => stp_only h1 e1 h2 e2)
  clear h1 e1
  go_enter Tryd.func46, Tryd.ntmps46
  go_wp2_with fail
  refine HF.out.mono ?_
  rintro x w1 ⟨K', y, rfl, hst, hend, hsl, hb1⟩
  obtain rfl := HK.out K' hst hend
  clear hst hend
  go_wp2
  go_ret
  exact ⟨_, rfl, hsl, hb1⟩
set_option maxRecDepth 100000 in
theorem sgo3_ok (n e gb K : Nat) (v : Value) (zs : List Int) {I : (Nat → Bool) → Prop} {M : (Nat → Bool) → Nat} (w : World) (hv : Sl w v zs) (hg : IsGrp n zs e) (hb : BoxG w gb n v) (h1 : Stp n (upq n zs e) I M (fun a => decide (a = e)) K) (e1 : bs (itr (upq n zs e) (fun a => decide (a = e)) (K + 1)) n = bs (itr (upq n zs e) (fun a => decide (a = e)) K) n) :
    Calls Tryd.prog 47 #[.pointer (some ⟨gb, 0, none⟩)] w fun x w' => ∃ r, x = .returned r ∧ SlL w' r (sls n (itr (upq n zs e) (fun a => decide (a = e))) (K + 1)) ∧ Below w.heap.size w w' := by
  have HF := hide (rise_ok n e v zs w hv hg)
  obtain ⟨c0, c1, _, _⟩ := hb.two
  have HK := hide (fun K' (h2 : Stp n (upq n zs e) (Nsg n zs e) (fun q => n - (lst n q).length) (fun a => decide (a = e)) K') (e2 : bs (itr (upq n zs e) (fun a => decide (a = e)) (K' + 1)) n = bs (itr (upq n zs e) (fun a => decide (a = e)) K') n) => stp_only h1 e1 h2 e2)
  clear h1 e1
  go_enter Tryd.func47, Tryd.ntmps47
  go_wp2_with fail
  refine HF.out.mono ?_
  rintro x w1 ⟨K', y, rfl, hst, hend, hsl, hb1⟩
  obtain rfl := HK.out K' hst hend
  clear hst hend
  go_wp2
  go_ret
  exact ⟨_, rfl, hsl, hb1⟩
end Go.Proofs.YtolbpjjjoafkkaaDoor

namespace Go.Proofs.YtolbpjjjoafkkaaDoor
open Go Go.RowKit

set_option maxRecDepth 100000 in
set_option maxHeartbeats 4000000 in
theorem nor_good (n e : Nat) (v u0 : Value) (zs l0 : List Int) (w : World) (hv : Sl w v zs) (hg : IsGrp n zs e) (hu : Sl w u0 l0) (hT : Tab w) (hc : lfault n l0 = (0, 0)) (hs : subT n zs e (pset l0) = true) :
    Calls Tryd.prog 27 #[.agg #[.int .i64 n, v], u0] w fun x w' => ∃ r, x = .returned (.tuple #[r, .agg #[.int .i64 0, .int .i64 0]]) ∧ SlF w.heap.size w' r (li (lst n (norq n zs e (pset l0)))) ∧ Below w.heap.size w w' := by
  obtain ⟨va, vl, vc, rfl⟩ := hv.isSlice
  obtain ⟨w0, BG⟩ := Beg.new w n (.slice va vl vc)
  have hv0 := hv.below BG.bel
  obtain ⟨c0, c1, _, _⟩ := BG.box.two
  have HCK := hide (osub_good n e (.slice va vl vc) u0 zs l0 w0 hv0 hg (hu.below BG.bel) (hT.below BG.bel) hc hs)
  have HZ0 := hide (show w.heap.size + 2 ≤ w0.heap.size by rw [BG.eq]; simp)
  rw [BG.eq] at c0 c1
  go_enter Tryd.func27, Tryd.ntmps27
  go_wp2_with fail
  rw [← BG.eq]
  refine HCK.out.mono ?_
  rintro x w1 ⟨iv9, rfl, hSI, hb1⟩
  obtain ⟨ia, il, ic, rfl⟩ := hSI.sl.isSlice
  clear c0 c1 HCK
  obtain ⟨w2, hw2⟩ : ∃ w2, w2 = (w1.alloc (.cells #[.int .i64 n, (.slice va vl vc), .int .i64 e, (.slice ia il ic)] 64)).alloc (.cells #[.int .i64 0, .int .i64 0] 27) := ⟨_, rfl⟩
  have hb2 : Below w1.heap.size w1 w2 := by rw [hw2]; exact (balloc w1 _).alloc (by simp) _
  have hB1 : Below w0.heap.size w0 w2 := bcat2 hb1 hb2
  have hF1 : Blk w2 (w1.heap.size + 1) 27 [.int .i64 0, .int .i64 0] := by
    rw [hw2]
    have := blk0 (w := w1.alloc (.cells #[.int .i64 n, (.slice va vl vc), .int .i64 e, (.slice ia il ic)] 64)) (T := 27) (.int .i64 0) (.int .i64 0)
    rwa [World.size_alloc] at this
  have hH2 : Blk w2 w1.heap.size 64 [.int .i64 n, (.slice va vl vc), .int .i64 e, (.slice ia il ic)] := by
    rw [hw2]; exact (blk4 _ _ _ _).alloc _
  have hBw2 := bcat BG.bel hB1 BG.bel.size
  have hR2 := blk_below BG.res hB1
  have hT2 := hT.below hBw2
  have hGA2 : GA w2 n (.slice va vl vc) e (.slice ia il ic) zs := ⟨hg, hv.below hBw2, (hSI.below hb2).sl⟩
  obtain ⟨t0, t1, _, _⟩ := hF1.two
  obtain ⟨_, h0, h1, h2, h3, _⟩ := Four.mk' hH2
  have hx2 := blk_below BG.box hB1
  have HZ1 := hide (Nat.le_trans HZ0.out hb1.size)
  have HZ2 := hide hb2.size
  rw [hw2] at t0 t1 h0 h1 h2 h3
  go_wp2_with fail
  rw [← hw2]
  clear hw2 t0 t1 h0 h1 h2 h3
  refine (norm_ok n _ _ zs e (pset l0) w2 hGA2 hT2).mono ?_
  rintro x w3 ⟨rfl, hb3⟩
  go_wp2_with fail
  refine (list_ok n (norq n zs e (pset l0)) w3 hg.tab.le (hT2.below hb3)).mono ?_
  rintro x w4 ⟨r, rfl, hr, hb4⟩
  have hb5 := bcat2 hb3 hb4
  have hB5 := bcat hBw2 hb5 hBw2.size
  obtain ⟨_, y0, y1, fy0, fy1, s0, s1⟩ := Two.mk' (blk_below hR2 hb5)
  have hr9 := hr.mono (show w.heap.size ≤ w3.heap.size from Nat.le_trans hBw2.size hb3.size)
  go_wp2
  exact bodyPost_ret (v := .tuple #[r, .agg #[.int .i64 0, .int .i64 0]]) (by simp [results, Tryd.results27, go_sem, y0, y1]) rfl ⟨_, rfl, hr9, hB5⟩
theorem nor_lst (n e : Nat) (v u : Value) (zs : List Int) (q : Nat → Bool) (w : World) (hv : Sl w v zs) (hg : IsGrp n zs e) (hu : Sl w u (li (lst n q))) (hT : Tab w) (hs : subT n zs e q = true) :
    Calls Tryd.prog 27 #[.agg #[.int .i64 n, v], u] w fun x w' => ∃ (a : Option Addr) (c : Nat), x = .returned (.tuple #[.slice a (lst n (norq n zs e q)).length c, .agg #[.int .i64 0, .int .i64 0]]) ∧ Sl w' (.slice a (lst n (norq n zs e q)).length c) (li (lst n (norq n zs e q))) ∧ Below w.heap.size w w' := by
  have h := nor_good n e v u zs (li (lst n q)) w hv hg hu hT (lst_fault n q) ((subT_congr hg fun a ha => pset_lst ha).trans hs)
  have h1 : lst n (norq n zs e (pset (li (lst n q)))) = lst n (norq n zs e q) := lst_congr fun a _ => by
    have h1 : lst n (pset (li (lst n q))) = lst n q := lst_pset n q
    have h2 : bs (pset (li (lst n q))) n = bs q n := bs_ext fun a ha => pset_lst ha
    unfold norq cjq
    rw [h1, h2]
  rw [h1] at h
  refine h.mono ?_
  rintro x w1 ⟨r, rfl, hr, hb⟩
  have hr := hr.sl
  obtain ⟨a, c, _, _, rfl, _⟩ := id hr
  rw [li_len] at hr ⊢
  exact ⟨a, c, rfl, hr, hb⟩
end Go.Proofs.YtolbpjjjoafkkaaDoor

namespace Go.Proofs.YtolbpjjjoafkkaaDoor
variable {n e : Nat} {zs : List Int} {s : Nat → Bool}

theorem last_of {P : Nat → Prop} (h0 : P 0) : ∀ K, ¬ P K → ∃ i, i < K ∧ P i ∧ ¬ P (i + 1)
  | 0, h => absurd h0 h
  | K + 1, h => by
    by_cases hK : P K
    · exact ⟨K, by omega, hK, h⟩
    · obtain ⟨i, h1, h2, h3⟩ := last_of h0 K hK
      exact ⟨i, by omega, h2, h3⟩
theorem one_only (g : IsGrp n zs e) {q : Nat → Bool} (he : q e = true) (h1 : (lst n q).length = 1) {x : Nat} (hx : x < n) (hq : q x = true) : x = e := by
  obtain ⟨d, hd⟩ := List.length_eq_one_iff.1 h1
  have m1 : e ∈ lst n q := mem_lst.2 ⟨g.elt, he⟩
  have m2 : x ∈ lst n q := mem_lst.2 ⟨hx, hq⟩
  rw [hd, List.mem_singleton] at m1 m2
  rw [m1, m2]
theorem two_of (g : IsGrp n zs e) {q : Nat → Bool} (he : q e = true) (h1 : (lst n q).length ≠ 1) : ∃ x, x < n ∧ x ≠ e ∧ q x = true := by
  refine Classical.byContradiction fun h => h1 ?_
  have h2 : lst n q = lst n (fun a => decide (a = e)) := lst_congr fun x hx => by
    rw [Bool.eq_iff_iff, decide_eq_true_eq]
    exact ⟨fun h3 => Classical.byContradiction fun h4 => h ⟨x, hx, h4, h3⟩, fun h3 => by rw [h3]; exact he⟩
  rw [h2, one_lst g.elt]
  rfl
theorem more_of (g : IsGrp n zs e) {q : Nat → Bool} (he : q e = true) {x : Nat} (hx : x < n) (hne : x ≠ e) (hq : q x = true) : 1 < (lst n q).length := by
  have h1 := List.length_pos_of_mem (mem_lst.2 ⟨g.elt, he⟩)
  refine Classical.byContradiction fun h => hne (one_only g he (by omega) hx hq)
theorem cm_flip (g : IsGrp n zs e) {a b : Nat} (ha : a < n) (hb : b < n) : tm n zs (Fin.cm (tm n zs) (iv n zs e) a b) (Fin.cm (tm n zs) (iv n zs e) b a) = e := by
  have F := grp_fg g
  have V := grp_iv g
  have ha' := List.mem_range.2 ha
  have hb' := List.mem_range.2 hb
  have c1 := Fin.cm_mem F V ha' hb'
  have c2 := Fin.cm_mem F V hb' ha'
  have hba := F.cl _ _ hb' ha'
  refine F.can hba (F.cl _ _ c1 c2) F.one ?_
  rw [← F.ass _ _ _ hba c1 c2, Fin.cm_eq F V ha' hb', Fin.cm_eq F V hb' ha', F.right _ hba]
theorem cj_cm (g : IsGrp n zs e) {a b : Nat} (ha : a < n) (hb : b < n) : Fin.cj (tm n zs) (iv n zs e) a b = tm n zs a (Fin.cm (tm n zs) (iv n zs e) a b) := by
  have F := grp_fg g
  have V := grp_iv g
  have ha' := List.mem_range.2 ha
  have hcj := Fin.cj_mem F V ha' (List.mem_range.2 hb)
  rw [cm_as g ha hb, ← F.ass _ _ _ ha' (V a ha').1 hcj, (V a ha').2.1, F.left _ hcj]
/-- The lower series. -/
noncomputable abbrev lo (n : Nat) (zs : List Int) (e i : Nat) : Nat → Bool := itr (fun q => cmb n zs e q fun _ => true) (fun _ => true) i
theorem lo_up (g : IsGrp n zs e) {i a b : Nat} (ha : a < n) (hb : b < n) (h : lo n zs e i a = true) : lo n zs e (i + 1) (Fin.cm (tm n zs) (iv n zs e) a b) = true := cmb_base g ha hb h rfl
theorem nil_grows (g : IsGrp n zs e) {K : Nat} (hin : ∀ i, i ≤ K → Nsg n zs e (lo n zs e i)) (hK : (lst n (lo n zs e K)).length = 1) (hs : subT n zs e s = true) (hno : (lst n s).length ≠ n) : (lst n s).length < (lst n (norq n zs e s)).length := by
  have F := grp_fg g
  have V := grp_iv g
  have S := subT_iff.1 hs
  have h0 : ∃ x, x < n ∧ lo n zs e 0 x = true ∧ ¬ s x = true := Classical.byContradiction fun h => hno (by
    have h1 : lst n s = lst n (fun _ => true) := lst_congr fun x hx => by
      rw [Bool.eq_iff_iff]
      exact ⟨fun _ => rfl, fun _ => Classical.byContradiction fun h2 => h ⟨x, hx, rfl, h2⟩⟩
    rw [h1]
    unfold lst
    rw [List.filter_eq_self.2 (fun _ _ => rfl), List.length_range])
  obtain ⟨i, hi, ⟨x, hx, h1, h2⟩, h3⟩ := last_of (P := fun i => ∃ x, x < n ∧ lo n zs e i x = true ∧ ¬ s x = true) h0 K (by
    rintro ⟨x, hx, h1, h2⟩
    rw [one_only g (hin K (Nat.le_refl _)).sg.one hK hx h1] at h2
    exact h2 S.one)
  have hin1 : ∀ y, y < n → lo n zs e (i + 1) y = true → s y = true := fun y hy h4 => Classical.byContradiction fun h5 => h3 ⟨y, hy, h4, h5⟩
  have key : ∀ z, z < n → lo n zs e i z = true → ∀ y, y ∈ List.range n → s y = true → s (Fin.cj (tm n zs) (iv n zs e) y z) = true := fun z hz hl y hy hsy => by
    have hyl := List.mem_range.1 hy
    have c1 := cm_lt g hz hyl
    have c2 := cm_lt g hyl hz
    have h5 := hin1 _ c1 (lo_up g hz hyl hl)
    have h6 : s (Fin.cm (tm n zs) (iv n zs e) y z) = true := S.inv F (List.mem_range.2 c1) (List.mem_range.2 c2) (cm_flip g hz hyl) h5
    rw [cj_cm g hyl hz]
    exact S.mul _ _ hy (List.mem_range.2 c2) hsy h6
  have hx' := List.mem_range.2 hx
  have hL := (hin i (by omega)).sg
  have hxi := hL.inv F hx' (V x hx').1 (V x hx').2.1 h1
  refine (lst_less (fun y hy h4 => (nor_iff y).2 (Fin.nor_sub F V S (List.mem_range.2 hy) h4))).2 ⟨x, hx, (nor_iff x).2 (Fin.nor_of F V hx' (key x hx h1) (key _ (List.mem_range.1 (V x hx').1) hxi)), h2⟩
theorem nil_meets (g : IsGrp n zs e) {K : Nat} {c : Nat → Bool} (hin : ∀ i, i ≤ K → Nsg n zs e (lo n zs e i)) (hK : (lst n (lo n zs e K)).length = 1) (hc : Nsg n zs e c) (hno : (lst n c).length ≠ 1) : 1 < (lst n (fun a => c a && cenq n zs (fun _ => true) a)).length := by
  have F := grp_fg g
  have V := grp_iv g
  obtain ⟨x0, hx0, hne0, hc0⟩ := two_of g hc.sg.one hno
  obtain ⟨i, hi, ⟨x, hx, hne, h1, h2⟩, h3⟩ := last_of (P := fun i => ∃ x, x < n ∧ x ≠ e ∧ c x = true ∧ lo n zs e i x = true) ⟨x0, hx0, hne0, hc0, rfl⟩ K (by
    rintro ⟨x, hx, h1, h2, h3⟩
    exact h1 (one_only g (hin K (Nat.le_refl _)).sg.one hK hx h3))
  have hcen : ∀ x, x < n → (∀ y, y < n → tm n zs x y = tm n zs y x) → cenq n zs (fun _ => true) x = true := fun x _ h => by
    unfold cenq
    rw [List.all_eq_true]
    exact fun y hy => decide_eq_true (h y (mem_lst.1 hy).1)
  refine more_of g ?_ hx hne ?_
  · rw [Bool.and_eq_true]
    exact ⟨hc.sg.one, hcen e g.elt fun y hy => by rw [F.left y (List.mem_range.2 hy), F.right y (List.mem_range.2 hy)]⟩
  · rw [Bool.and_eq_true]
    refine ⟨h1, hcen x hx fun y hy => (Fin.cm_one F V (List.mem_range.2 hx) (List.mem_range.2 hy)).1 ?_⟩
    exact Classical.byContradiction fun h4 => h3 ⟨_, cm_lt g hx hy, h4, hc.cm_in g hx hy h1, lo_up g hx hy h2⟩
theorem clo_nsg (g : IsGrp n zs e) {q p : Nat → Bool} (hp : ∀ a, a < n → (p a = true ↔ Mkd n zs e (cloq n zs e q n) a)) : Nsg n zs e p := by
  have F := grp_fg g
  have V := grp_iv g
  refine ⟨made_sg g hp, fun x a hx ha h => ?_⟩
  have hm := Fin.cj_mem F V hx ha
  exact (hp _ (List.mem_range.1 hm)).2 ((mkd_clo _).2 (Fin.clos_nm F V x a hx ha ((mkd_clo _).1 ((hp x (List.mem_range.1 hx)).1 h))))
end Go.Proofs.YtolbpjjjoafkkaaDoor

namespace Go.Proofs.YtolbpjjjoafkkaaDoor
open Go Go.RowKit

section
variable {n e : Nat} {zs : List Int} {q r : Nat → Bool}
noncomputable abbrev dr (n : Nat) (zs : List Int) (e i : Nat) : Nat → Bool := itr (fun q => cmb n zs e q q) (fun _ => true) i
theorem Nsg.der (g : IsGrp n zs e) (h : Nsg n zs e q) : Nsg n zs e (cmb n zs e q q) := by
  have F := grp_fg g
  have V := grp_iv g
  refine ⟨cmb_sg g, fun x a hx ha h1 => ?_⟩
  have hm := Fin.cj_mem F V hx ha
  refine (cmb_iff n zs e q _ _ (List.mem_range.1 hm)).2 ?_
  refine Fin.gen_nm F V (X := fun y => cmq n zs e (lst n q) (lst n q) y = true) (fun y b hy hb h2 => ?_) x a hx ha ((cmb_iff n zs e q _ x (List.mem_range.1 hx)).1 h1)
  obtain ⟨c, d, hc, hd, h3, h4, rfl⟩ := cmq_iff.1 h2
  have hc' := List.mem_range.2 hc
  have hd' := List.mem_range.2 hd
  rw [Fin.cm_cj F V hc' hd' hb]
  exact cmq_iff.2 ⟨_, _, List.mem_range.1 (Fin.cj_mem F V hc' hb), List.mem_range.1 (Fin.cj_mem F V hd' hb), h.nm c b hc' hb h3, h.nm d b hd' hb h4, rfl⟩
theorem dr_nsg (g : IsGrp n zs e) : ∀ i, Nsg n zs e (dr n zs e i)
  | 0 => Nsg.all
  | i + 1 => (dr_nsg g i).der g
theorem dr_lo (g : IsGrp n zs e) : ∀ i x, x < n → dr n zs e i x = true → lo n zs e i x = true
  | 0, _, _, _ => rfl
  | i + 1, _, hx, h => cmb_in (cmb_sg (q := lo n zs e i) (r := fun _ => true) g) (fun _ _ ha hb h1 _ => cmb_base g ha hb (dr_lo g i _ ha h1) rfl) hx h
theorem cmb_congr {q q' : Nat → Bool} (h : bs q n = bs q' n) : bs (cmb n zs e q r) n = bs (cmb n zs e q' r) n := by
  have h1 : lst n q = lst n q' := lst_congr (bs_inj h)
  refine bs_ext fun a ha => ?_
  have h2 := cmb_iff n zs e q r a ha
  rw [h1] at h2
  rw [Bool.eq_iff_iff]
  exact h2.trans (cmb_iff n zs e q' r a ha).symm
theorem lo_stays {K : Nat} (h : bs (lo n zs e (K + 1)) n = bs (lo n zs e K) n) : ∀ j, bs (lo n zs e (K + j)) n = bs (lo n zs e K) n
  | 0 => rfl
  | j + 1 => (cmb_congr (r := fun _ => true) (lo_stays h j)).trans h
theorem dr_in (g : IsGrp n zs e) {K i k : Nat} (h : bs (lo n zs e (K + 1)) n = bs (lo n zs e K) n) (hk : (K + 1 ≤ i ∧ k = K) ∨ k = i) : ∀ x, x < n → dr n zs e i x = true → lo n zs e k x = true := fun x hx h1 => by
  have h2 := dr_lo g i x hx h1
  rcases hk with ⟨h3, rfl⟩ | rfl
  · have h4 := lo_stays h (i - k)
    rw [show k + (i - k) = i by omega] at h4
    rw [← bs_inj h4 x hx]
    exact h2
  · exact h2
end
/-- The headers of a row of lists. -/
theorem Rws.heads {W : World} {g : Nat} {rs : List (List Int)} (h : Rws W g rs) : ∃ vs : List Value, vs.length = rs.length ∧ (∀ (j : Nat) v, vs[j]? = some v → W.cell? ⟨g, j, none⟩ = some v) ∧ ∀ (j : Nat) v, vs[j]? = some v → ∃ a c, v = .slice a (rs[j]?.getD []).length c ∧ Sl W v (rs[j]?.getD []) := by
  refine ⟨(List.range rs.length).map fun j => (W.cell? ⟨g, j, none⟩).getD undef, by simp, fun j v hj => ?_, fun j v hj => ?_⟩
  all_goals (
    have hjl : j < rs.length := by
      have := (List.getElem?_eq_some_iff.1 hj).1
      simpa using this
    obtain ⟨a, c, h1, h2⟩ := h j hjl
    rw [List.getElem?_map, List.getElem?_range hjl, Option.map_some, h1, Option.getD_some] at hj
    have hj := Option.some.inj hj
    subst hj)
  · exact h1
  · exact ⟨a, c, rfl, h2⟩
/-- Headers of lists of normal subgroups. -/
def Hds (W : World) (n : Nat) (zs : List Int) (e : Nat) (vs : List Value) : Prop := ∀ v, v ∈ vs → ∃ a c q, v = .slice a (lst n q).length c ∧ Sl W (.slice a (lst n q).length c) (li (lst n q)) ∧ Nsg n zs e q
theorem Hds.below {W W' : World} {n e : Nat} {zs : List Int} {vs : List Value} (h : Hds W n zs e vs) (hb : Below W.heap.size W W') : Hds W' n zs e vs := fun v hv => by
  obtain ⟨a, c, q, h1, h2, h3⟩ := h v hv
  exact ⟨a, c, q, h1, h2.below hb, h3⟩
theorem Hds.append {W : World} {n e : Nat} {zs : List Int} {vs us : List Value} (h : Hds W n zs e vs) (k : Hds W n zs e us) : Hds W n zs e (vs ++ us) := fun v hv => by
  rcases List.mem_append.1 hv with h1 | h1
  · exact h v h1
  · exact k v h1
theorem Rws.hds {W : World} {g n e K : Nat} {zs : List Int} {f : Nat → Nat → Bool} (h : Rws W g (sls n f (K + 1))) (hN : ∀ i, i ≤ K → Nsg n zs e (f i)) : ∃ vs : List Value, vs.length = K + 1 ∧ (∀ (j : Nat) v, vs[j]? = some v → W.cell? ((⟨g, 0, none⟩ : Addr).add j) = some v) ∧ (∀ v, v ∈ vs → v.oneCell' = true) ∧ Hds W n zs e vs := by
  obtain ⟨vs, h1, h2, h3⟩ := h.heads
  rw [sls_len] at h1
  have key : ∀ v, v ∈ vs → ∃ a c q, v = .slice a (lst n q).length c ∧ Sl W (.slice a (lst n q).length c) (li (lst n q)) ∧ Nsg n zs e q := fun v hv => by
    obtain ⟨j, hj, rfl⟩ := List.mem_iff_getElem.1 hv
    obtain ⟨a, c, h4, h5⟩ := h3 j _ (List.getElem?_eq_getElem hj)
    rw [sls_at (by omega), li_len] at h4
    rw [sls_at (by omega)] at h5
    rw [h4] at h5
    exact ⟨a, c, _, h4, h5, hN j (by omega)⟩
  refine ⟨vs, h1, fun j v hj => ?_, fun v hv => ?_, key⟩
  · rw [show (⟨g, 0, none⟩ : Addr).add j = ⟨g, j, none⟩ by unfold Addr.add; split <;> simp_all]
    exact h2 j v hj
  · obtain ⟨a, c, q, rfl, _⟩ := key v hv
    simp [Value.oneCell']
/-- What Normal left there. -/
def NR (wr : World) (s11 s12 : Value) (wx : World) : Prop := ∃ b : Nat, s11 = .bool true ∧ s12 = .pointer (some ⟨b, 0, none⟩) ∧ Blk wx b 27 [.int .i64 0, .int .i64 0] ∧ Below wr.heap.size wr wx
theorem nr_new {wr U : World} (hB : Below wr.heap.size wr U) : NR wr (.bool true) (.pointer (some ⟨U.heap.size, 0, none⟩)) (U.alloc (.cells #[.int .i64 0, .int .i64 0] 27)) := ⟨_, rfl, rfl, blk0 _ _, bcat2 hB (balloc _ _)⟩
theorem nr_put {wr U : World} {b : Nat} (hB : Below wr.heap.size wr U) (hp : Blk U b 27 [.int .i64 0, .int .i64 0]) : NR wr (.bool true) (.pointer (some ⟨b, 0, none⟩)) ((U.setCell ⟨b, 0, none⟩ (.int .i64 0)).setCell ⟨b, 1, none⟩ (.int .i64 0)) := by
  obtain ⟨h0, h1, _, _⟩ := hp.two
  rw [store_same h0 h1]
  exact ⟨b, rfl, rfl, hp, hB⟩
end Go.Proofs.YtolbpjjjoafkkaaDoor

namespace Go.Proofs.YtolbpjjjoafkkaaDoor
variable {n e p : Nat} {zs : List Int} {s : Nat → Bool} {A : List Nat} {ms : List (List Int)}

/-- Is the order of a thing a power of p? -/
noncomputable def pwt (n : Nat) (zs : List Int) (e p a : Nat) : Bool := @decide (isPw (ordN n zs e a) p) (Classical.propDecidable _)
theorem pwt_iff {a : Nat} : pwt n zs e p a = true ↔ isPw (ordN n zs e a) p := by unfold pwt; simp
theorem SylA.size (HA : SylA n zs e p s A ms) (g : IsGrp n zs e) {j : Nat} (hj : j < ms.length) : (ms[j]?.getD []).length = (lst n s).length := by
  obtain ⟨a, ha, h⟩ := HA.one hj
  rw [h, li_len, cj_len g (HA.lt a ha)]
theorem SylA.in_one (HA : SylA n zs e p s A ms) {q : Nat → Bool} {a : Nat} (ha : a < n) (h : ∀ x, x < n → q x = true → cjq n zs e s a x = true) : ∃ j b, j < ms.length ∧ b ∈ A ∧ ms[j]?.getD [] = li (lst n (cjq n zs e s b)) ∧ ∀ x, x < n → q x = true → cjq n zs e s b x = true := by
  obtain ⟨b, hb, h1⟩ := List.mem_map.1 (HA.all a ha)
  have h2 : li (lst n (cjq n zs e s b)) ∈ ms := HA.pm.mem_iff.2 (List.mem_map.2 ⟨b, hb, rfl⟩)
  obtain ⟨j, hj, h3⟩ := List.mem_iff_getElem.1 h2
  refine ⟨j, b, hj, hb, by rw [List.getElem?_eq_getElem hj, Option.getD_some, h3], fun x hx hq => ?_⟩
  rw [bs_inj h1 x hx]
  exact h x hx hq
theorem SylA.holds (HA : SylA n zs e p s A ms) (g : IsGrp n zs e) (hpr : primeB p = true) {q : Nat → Bool} (hq : subT n zs e q = true) (hpw : isPw (lst n q).length p) : ∃ j b, j < ms.length ∧ b ∈ A ∧ ms[j]?.getD [] = li (lst n (cjq n zs e s b)) ∧ ∀ x, x < n → q x = true → cjq n zs e s b x = true := by
  obtain ⟨c, a, _, ha, _, h⟩ := syl_in g hpr HA.gr HA.nd HA.hX hq hpw
  exact HA.in_one ha h
theorem SylA.has (HA : SylA n zs e p s A ms) (g : IsGrp n zs e) (hpr : primeB p = true) {a : Nat} (ha : a < n) (h : isPw (ordN n zs e a) p) : ∃ j, j < ms.length ∧ (a : Int) ∈ ms[j]?.getD [] := by
  obtain ⟨j, b, hj, hb, h1, h2⟩ := HA.holds g hpr (q := mk1 n zs e a) (subT_iff.2 (made_sg g (mk1_iff n zs e a))) (by rw [mk1_len g ha]; exact h)
  refine ⟨j, hj, ?_⟩
  rw [h1]
  exact mem_li.2 (mem_lst.2 ⟨ha, h2 a ha ((mk1_iff n zs e a a ha).2 (Fin.Gen.base (List.mem_range.2 ha) (by simp)))⟩)
theorem SylA.cnt (HA : SylA n zs e p s A ms) (g : IsGrp n zs e) (hpr : primeB p = true) : (lst n s).length ∣ (lst n (pwt n zs e p)).length := by
  have hp := prime_of hpr
  obtain ⟨v, hn, hnd⟩ := syl_len g hpr HA.gr HA.nd HA.hX
  obtain ⟨k, hk⟩ := HA.gr.pow
  rw [hk] at hn ⊢
  have hfr := Fin.frob _ _ _ _ (grp_fg g) List.length_range (p ^ k) ⟨_, by rw [Nat.mul_comm]; exact hn⟩
  have hsame : (List.range n).filter (fun x => decide (Fin.po (tm n zs) e x (p ^ k) = e)) = lst n (pwt n zs e p) := Fin.filter_eq fun x hx => by
    have hxl := List.mem_range.1 hx
    rw [Bool.eq_iff_iff, decide_eq_true_eq, pwt_iff, ord_iff g hxl]
    constructor
    · exact fun h => dvd_pw hp k _ h
    · rintro ⟨j, hj⟩
      rw [hj]
      refine pp_dvd hp hnd ?_
      rw [← hn, ← hj, ← mk1_len g hxl]
      exact sub_dvd g (subT_iff.2 (made_sg g (mk1_iff n zs e x)))
  unfold Fin.cnt at hfr
  rw [hsame] at hfr
  exact hfr
theorem lst_up {q : Nat → Bool} {k : Nat} : (lst (k + 1) q).length = (lst k q).length + (if q k = true then 1 else 0) := by
  unfold lst
  rw [List.range_succ, List.filter_append, List.length_append]
  by_cases h : q k = true
  · simp [h]
  · simp [h]
end Go.Proofs.YtolbpjjjoafkkaaDoor

namespace Go.Proofs.YtolbpjjjoafkkaaDoor
variable {n e : Nat} {zs : List Int}

abbrev up (n : Nat) (zs : List Int) (e i : Nat) : Nat → Bool := itr (upq n zs e) (fun a => decide (a = e)) i
theorem up_nsg (g : IsGrp n zs e) : ∀ i, Nsg n zs e (up n zs e i)
  | 0 => Nsg.one_alone g
  | i + 1 => (up_nsg g i).up g
theorem lo_nsg (g : IsGrp n zs e) : ∀ i, Nsg n zs e (lo n zs e i)
  | 0 => Nsg.all
  | i + 1 => (lo_nsg g i).low g
theorem upq_congr {q q' : Nat → Bool} (g : IsGrp n zs e) (h : bs q n = bs q' n) : bs (upq n zs e q) n = bs (upq n zs e q') n := bs_ext fun a ha => by
  rw [Bool.eq_iff_iff, upq_iff, upq_iff]
  exact ⟨fun h1 b hb => by rw [← bs_inj h _ (cm_lt g ha hb)]; exact h1 b hb, fun h1 b hb => by rw [bs_inj h _ (cm_lt g ha hb)]; exact h1 b hb⟩
theorem up_stays (g : IsGrp n zs e) {K : Nat} (h : bs (up n zs e (K + 1)) n = bs (up n zs e K) n) : ∀ j, bs (up n zs e (K + j)) n = bs (up n zs e K) n
  | 0 => rfl
  | j + 1 => (upq_congr g (up_stays g h j)).trans h
theorem dr_stays {K : Nat} (h : bs (dr n zs e (K + 1)) n = bs (dr n zs e K) n) : ∀ j, bs (dr n zs e (K + j)) n = bs (dr n zs e K) n
  | 0 => rfl
  | j + 1 => by
    have h1 := dr_stays h j
    have h2 : bs (cmb n zs e (dr n zs e (K + j)) (dr n zs e (K + j))) n = bs (cmb n zs e (dr n zs e K) (dr n zs e K)) n := by
      have h3 : lst n (dr n zs e (K + j)) = lst n (dr n zs e K) := lst_congr (bs_inj h1)
      refine bs_ext fun a ha => ?_
      have h4 := cmb_iff n zs e (dr n zs e (K + j)) (dr n zs e (K + j)) a ha
      rw [h3] at h4
      rw [Bool.eq_iff_iff]
      exact h4.trans (cmb_iff n zs e _ _ a ha).symm
    exact h2.trans h
/-- Where the upper series has all, the lower one goes down beside it. -/
theorem lo_in_up (g : IsGrp n zs e) {c : Nat} (hc : ∀ x, x < n → up n zs e c x = true) : ∀ i, i ≤ c → ∀ x, x < n → lo n zs e i x = true → up n zs e (c - i) x = true
  | 0, _, x, hx, _ => hc x hx
  | i + 1, hi, x, hx, h => by
    refine cmb_in (up_nsg g (c - (i + 1))).sg (fun a b ha hb h1 _ => ?_) hx h
    have h2 := lo_in_up g hc i (by omega) a ha h1
    rw [show c - i = (c - (i + 1)) + 1 by omega] at h2
    exact upq_iff.1 h2 b hb
/-- Where the lower series has the one alone, the upper one goes up beside it. -/
theorem lo_under (g : IsGrp n zs e) {d : Nat} (hd : ∀ x, x < n → lo n zs e d x = true → x = e) : ∀ i, i ≤ d → ∀ x, x < n → lo n zs e (d - i) x = true → up n zs e i x = true
  | 0, _, x, hx, h => decide_eq_true (hd x hx h)
  | i + 1, hi, x, hx, h => by
    refine upq_iff.2 fun b hb => ?_
    refine lo_under g hd i (by omega) _ (cm_lt g hx hb) ?_
    rw [show d - i = (d - (i + 1)) + 1 by omega]
    exact lo_up g hx hb h
theorem all_len {q : Nat → Bool} : (lst n q).length = n ↔ ∀ x, x < n → q x = true := by
  constructor
  · intro h x hx
    refine Classical.byContradiction fun h1 => ?_
    have h2 := (lst_less (n := n) (p := q) (q := fun _ => true) (fun _ _ _ => rfl)).2 ⟨x, hx, rfl, h1⟩
    have h3 : (lst n fun _ => true).length = n := by
      unfold lst
      rw [List.filter_eq_self.2 (fun _ _ => rfl), List.length_range]
    omega
  · intro h
    have h1 : lst n q = lst n (fun _ => true) := lst_congr fun x hx => h x hx
    rw [h1]
    unfold lst
    rw [List.filter_eq_self.2 (fun _ _ => rfl), List.length_range]
theorem one_len (g : IsGrp n zs e) {q : Nat → Bool} (he : q e = true) : (lst n q).length = 1 ↔ ∀ x, x < n → q x = true → x = e := by
  constructor
  · exact fun h x hx hq => one_only g he h hx hq
  · intro h
    refine Classical.byContradiction fun h1 => ?_
    obtain ⟨x, hx, hne, hq⟩ := two_of g he h1
    exact hne (h x hx hq)
section
variable {KL KU KS : Nat} {I1 I2 I3 : (Nat → Bool) → Prop} {M1 M2 M3 : (Nat → Bool) → Nat}
theorem nil_both (g : IsGrp n zs e) (hl : Stp n (fun q => cmb n zs e q fun _ => true) I1 M1 (fun _ => true) KL) (el : bs (lo n zs e (KL + 1)) n = bs (lo n zs e KL) n)
    (hu : Stp n (upq n zs e) I2 M2 (fun a => decide (a = e)) KU) (eu : bs (up n zs e (KU + 1)) n = bs (up n zs e KU) n) :
    ((lst n (lo n zs e KL)).length = 1 ↔ (lst n (up n zs e KU)).length = n) ∧ ((lst n (lo n zs e KL)).length = 1 → KL = KU) := by
  have A : (lst n (lo n zs e KL)).length = 1 → ∀ x, x < n → up n zs e KL x = true := fun h x hx => lo_under g ((one_len g (lo_nsg g KL).sg.one).1 h) KL (Nat.le_refl _) x hx (by rw [Nat.sub_self]; rfl)
  have B : (lst n (up n zs e KU)).length = n → ∀ x, x < n → lo n zs e KU x = true → x = e := fun h x hx h1 => by
    have h2 := lo_in_up g (all_len.1 h) KU (Nat.le_refl _) x hx h1
    rw [Nat.sub_self] at h2
    exact of_decide_eq_true h2
  -- the upper series does not go on behind all
  have C : ∀ i, (∀ x, x < n → up n zs e i x = true) → KU ≤ i := fun i h => by
    refine Classical.byContradiction fun h1 => hu.go i (by omega) ?_
    refine bs_ext fun x hx => ?_
    have h2 : up n zs e (i + 1) x = true := up_has g (up_nsg g i) hx (h x hx)
    exact h2.trans (h x hx).symm
  have D : ∀ i, (∀ x, x < n → lo n zs e i x = true → x = e) → KL ≤ i := fun i h => by
    refine Classical.byContradiction fun h1 => hl.go i (by omega) ?_
    refine bs_ext fun x hx => ?_
    rw [Bool.eq_iff_iff]
    refine ⟨fun h2 => low_in g (lo_nsg g i) hx h2, fun h2 => ?_⟩
    rw [h x hx h2]
    exact (lo_nsg g (i + 1)).sg.one
  have E : (lst n (lo n zs e KL)).length = 1 → (lst n (up n zs e KU)).length = n := fun h => by
    have h1 := C KL (A h)
    have h2 := up_stays g eu (KL - KU)
    rw [show KU + (KL - KU) = KL by omega] at h2
    exact all_len.2 fun x hx => by rw [← bs_inj h2 x hx]; exact A h x hx
  have G : (lst n (up n zs e KU)).length = n → (lst n (lo n zs e KL)).length = 1 := fun h => by
    have h1 := D KU (B h)
    have h2 := lo_stays el (KU - KL)
    rw [show KL + (KU - KL) = KU by omega] at h2
    exact (one_len g (lo_nsg g KL).sg.one).2 fun x hx h3 => B h x hx (by rw [bs_inj h2 x hx]; exact h3)
  exact ⟨⟨E, G⟩, fun h => Nat.le_antisymm (D KU (B (E h))) (C KL (A h))⟩
theorem nil_sol (g : IsGrp n zs e) (h : (lst n (lo n zs e KL)).length = 1) (el : bs (lo n zs e (KL + 1)) n = bs (lo n zs e KL) n) (es : bs (dr n zs e (KS + 1)) n = bs (dr n zs e KS) n) : (lst n (dr n zs e KS)).length = 1 := by
  refine (one_len g (dr_nsg g KS).sg.one).2 fun x hx h1 => ?_
  have h2 := dr_stays es KL
  have h3 := lo_stays el KS
  have h4 : dr n zs e (KS + KL) x = true := by rw [bs_inj h2 x hx]; exact h1
  have h5 := dr_lo g (KS + KL) x hx h4
  rw [Nat.add_comm KS KL, bs_inj h3 x hx] at h5
  exact (one_len g (lo_nsg g KL).sg.one).1 h x hx h5
end
end Go.Proofs.YtolbpjjjoafkkaaDoor

namespace Go.Proofs.YtolbpjjjoafkkaaDoor
variable {n e p : Nat} {zs : List Int} {s U : Nat → Bool}

theorem nil_syl (g : IsGrp n zs e) (hpr : primeB p = true) (hG : Grown n zs e p s) {K : Nat} (hK : (lst n (lo n zs e K)).length = 1) : ∀ a, a < n → bs (cjq n zs e s a) n = bs s n := by
  have F := grp_fg g
  have V := grp_iv g
  have S := subT_iff.1 hG.sub
  have hm : subT n zs e (norq n zs e s) = true := subT_iff.2 (nor_sgq g)
  by_cases h : (lst n (norq n zs e s)).length = n
  · exact fun a ha => of_decide_eq_true (all_len.1 h a ha)
  · exfalso
    have h1 := nil_grows g (K := K) (fun i _ => lo_nsg g i) hK hm h
    have h2 : ∀ x, x < n → norq n zs e (norq n zs e s) x = true → norq n zs e s x = true := fun x hx hx1 => by
      have e1 : bs (cjq n zs e (norq n zs e s) x) n = bs (norq n zs e s) n := of_decide_eq_true hx1
      have key : ∀ y, y < n → cjq n zs e s x y = true → bs (cjq n zs e s y) n = bs s n := fun y hy h3 => by
        obtain ⟨z, hz, k1, rfl⟩ := cjq_iff.1 h3
        have mz : norq n zs e s z = true := (nor_iff z).2 (Fin.nor_sub F V S hz k1)
        have h4 : cjq n zs e (norq n zs e s) x (Fin.cj (tm n zs) (iv n zs e) z x) = true := cjq_iff.2 ⟨z, hz, mz, rfl⟩
        rw [bs_inj e1 _ hy] at h4
        exact of_decide_eq_true h4
      have h5 : ∀ y, y < n → cjq n zs e s x y = true → s y = true := fun y hy h6 => norm_in g hpr hG (cj_sg g hG.sub hx) (by rw [cj_len g hx]; exact hG.pow) key hy h6
      refine decide_eq_true (bs_ext fun y hy => ?_)
      rw [Bool.eq_iff_iff]
      refine ⟨h5 y hy, fun h6 => Classical.byContradiction fun h7 => ?_⟩
      have h8 := (lst_less h5).2 ⟨y, hy, h6, h7⟩
      rw [cj_len g hx] at h8
      omega
    have h3 := (lst_less h2).1
    omega
/-- One of Sylow's subgroups that is normal. -/
def One (n : Nat) (zs : List Int) (e p : Nat) : Prop := ∃ s, Grown n zs e p s ∧ ∀ a, a < n → bs (cjq n zs e s a) n = bs s n
theorem nsg_of (g : IsGrp n zs e) (hs : subT n zs e s = true) (hn : ∀ a, a < n → bs (cjq n zs e s a) n = bs s n) : Nsg n zs e s := by
  have F := grp_fg g
  have V := grp_iv g
  refine ⟨subT_iff.1 hs, fun x a hx ha h => ?_⟩
  have hm := List.mem_range.1 (Fin.cj_mem F V hx ha)
  have h1 : cjq n zs e s a (Fin.cj (tm n zs) (iv n zs e) x a) = true := cjq_iff.2 ⟨x, hx, h, rfl⟩
  rwa [bs_inj (hn a (List.mem_range.1 ha)) _ hm] at h1
theorem one_hX (g : IsGrp n zs e) (hn : ∀ a, a < n → bs (cjq n zs e s a) n = bs s n) : ∀ c, c ∈ [bs s n] ↔ ∃ a, a < n ∧ fc n zs e s a = c := fun c => by
  rw [List.mem_singleton]
  exact ⟨fun h => ⟨e, g.elt, by rw [h]; exact hn e g.elt⟩, fun ⟨a, ha, h⟩ => by rw [← h]; exact hn a ha⟩
theorem one_part (g : IsGrp n zs e) (hpr : primeB p = true) (hG : Grown n zs e p s) (hn : ∀ a, a < n → bs (cjq n zs e s a) n = bs s n) : ∃ v, n = v * (lst n s).length ∧ ¬ p ∣ v := by
  obtain ⟨v, h1, h2⟩ := syl_len g hpr hG (by simp) (one_hX g hn)
  simp at h1 h2
  exact ⟨v, h1, h2⟩
theorem primeB_of {q : Nat} (h : 2 ≤ q ∧ ∀ d, d ∣ q → d = 1 ∨ d = q) (h1 : q ≤ 100) : primeB q = true := by
  refine decide_eq_true ⟨by omega, by omega, fun d hd h2 h3 => ?_⟩
  simp at hd h3
  rcases h.2 d (Nat.dvd_of_mod_eq_zero h3) with h4 | h4 <;> omega
theorem all_of_syl (g : IsGrp n zs e) {d : Nat → Bool} (hd : subT n zs e d = true) (h : ∀ q : Nat, primeB q = true → q ∣ n → ∃ s, Grown n zs e q s ∧ (∀ a, a < n → bs (cjq n zs e s a) n = bs s n) ∧ ∀ x, x < n → s x = true → d x = true) : ∀ x, x < n → d x = true := by
  have F := grp_fg g
  have D := subT_iff.1 hd
  refine all_len.1 (Classical.byContradiction fun hne => ?_)
  obtain ⟨r, hr⟩ := sub_dvd g hd
  have hn := g.tab.le
  have hpos := Fin.Fg.pos F
  rw [List.length_range] at hpos
  have hr2 : 2 ≤ r := by
    match r, hr with
    | 0, hr => omega
    | 1, hr => omega
    | r + 2, _ => omega
  obtain ⟨q, hq, hqr⟩ := Fin.pr_exists hr2
  have hqn : q ∣ n := by rw [hr]; exact Nat.dvd_trans hqr ⟨_, Nat.mul_comm _ _⟩
  have hq60 := Nat.le_of_dvd hpos hqn
  have hpq := primeB_of hq (by omega)
  obtain ⟨s, hG, hnn, hin⟩ := h q hpq hqn
  obtain ⟨v, h1, h2⟩ := one_part g hpq hG hnn
  obtain ⟨m, hm⟩ := Fin.lagr (Fin.sg_fg F D) (Fin.sg_fg F (subT_iff.1 hG.sub)) (fun x hx => by
    obtain ⟨h3, h4⟩ := List.mem_filter.1 hx
    exact List.mem_filter.2 ⟨h3, hin x (List.mem_range.1 h3) h4⟩)
  have hsl : 0 < (lst n s).length := (Fin.sg_fg F (subT_iff.1 hG.sub)).pos
  have h5 : (lst n s).length * (m * r) = (lst n s).length * v := by
    rw [← Nat.mul_assoc]
    have h6 : (lst n d).length = (lst n s).length * m := hm
    rw [← h6, ← hr, Nat.mul_comm]
    exact h1
  exact h2 (by rw [← Nat.eq_of_mul_eq_mul_left hsl h5]; exact Nat.dvd_trans hqr ⟨m, Nat.mul_comm _ _⟩)
theorem cm_mul2 (g : IsGrp n zs e) {a b c : Nat} (ha : a < n) (hb : b < n) (hc : c < n) : Fin.cm (tm n zs) (iv n zs e) a (tm n zs b c) = tm n zs (Fin.cm (tm n zs) (iv n zs e) a c) (Fin.cj (tm n zs) (iv n zs e) (Fin.cm (tm n zs) (iv n zs e) a b) c) := by
  have F := grp_fg g
  have V := grp_iv g
  have ha' := List.mem_range.2 ha
  have hb' := List.mem_range.2 hb
  have hc' := List.mem_range.2 hc
  have hbc := F.cl _ _ hb' hc'
  have m1 := Fin.cm_mem F V ha' hc'
  have m2 := Fin.cm_mem F V ha' hb'
  have m3 := Fin.cj_mem F V m2 hc'
  have hca := F.cl _ _ hc' ha'
  refine F.can (F.cl _ _ hbc ha') (Fin.cm_mem F V ha' hbc) (F.cl _ _ m1 m3) ?_
  rw [Fin.cm_eq F V ha' hbc, ← F.ass _ _ _ (F.cl _ _ hbc ha') m1 m3, F.ass _ _ _ hbc ha' m1, F.ass _ _ _ hb' hc' (F.cl _ _ ha' m1), ← F.ass _ _ _ hc' ha' m1, Fin.cm_eq F V ha' hc', F.ass _ _ _ hb' (F.cl _ _ ha' hc') m3, F.ass _ _ _ ha' hc' m3, Fin.cj_eq F V m2 hc', ← F.ass _ _ _ ha' m2 hc', ← F.ass _ _ _ hb' (F.cl _ _ ha' m2) hc', ← F.ass _ _ _ hb' ha' m2, Fin.cm_eq F V ha' hb', F.ass _ _ _ ha' hb' hc']
/-- What one thing's commutators lie in a normal subgroup with. -/
theorem cmd_sg (g : IsGrp n zs e) (hU : Nsg n zs e U) {x : Nat} (hx : x < n) : Fin.Sg (List.range n) (tm n zs) e (fun b => U (Fin.cm (tm n zs) (iv n zs e) x b) = true) := by
  have F := grp_fg g
  have V := grp_iv g
  have hx' := List.mem_range.2 hx
  refine ⟨?_, fun b c hb hc h1 h2 => ?_⟩
  · show U (Fin.cm (tm n zs) (iv n zs e) x e) = true
    rw [(Fin.cm_one F V hx' F.one).2 (by rw [F.left x hx', F.right x hx'])]
    exact hU.sg.one
  · show U (Fin.cm (tm n zs) (iv n zs e) x (tm n zs b c)) = true
    rw [cm_mul2 g hx (List.mem_range.1 hb) (List.mem_range.1 hc)]
    exact hU.sg.mul _ _ (Fin.cm_mem F V hx' hc) (Fin.cj_mem F V (Fin.cm_mem F V hx' hb) hc) h2 (hU.nm _ _ (Fin.cm_mem F V hx' hb) hc h1)
end Go.Proofs.YtolbpjjjoafkkaaDoor

namespace Go.Proofs.YtolbpjjjoafkkaaDoor
variable {n e p : Nat} {zs : List Int} {s U : Nat → Bool}

/-- The coset of a thing, within a subgroup, by what both have. -/
def cst (n : Nat) (zs : List Int) (e : Nat) (s U : Nat → Bool) (x y : Nat) : Bool := s y && U (tm n zs (iv n zs e x) y)
theorem cst_same (g : IsGrp n zs e) (hU : Nsg n zs e U) {x y : Nat} (hx : x < n) (hy : y < n) (hsy : s y = true) : bs (cst n zs e s U x) n = bs (cst n zs e s U y) n ↔ U (tm n zs (iv n zs e x) y) = true := by
  have F := grp_fg g
  have V := grp_iv g
  have hx' := List.mem_range.2 hx
  have hy' := List.mem_range.2 hy
  have ix := (V x hx').1
  have iy := (V y hy').1
  have hm : tm n zs (iv n zs e x) y ∈ List.range n := F.cl _ _ ix hy'
  constructor
  · intro h
    have h1 : cst n zs e s U y y = true := by
      unfold cst
      rw [hsy, (V y hy').2.2, Bool.true_and]
      exact hU.sg.one
    rw [← bs_inj h y hy] at h1
    unfold cst at h1
    rw [Bool.and_eq_true] at h1
    exact h1.2
  · intro h
    refine bs_ext fun z hz => ?_
    have hz' := List.mem_range.2 hz
    have h2 : tm n zs (iv n zs e x) z = tm n zs (tm n zs (iv n zs e x) y) (tm n zs (iv n zs e y) z) := by
      rw [F.ass _ _ _ ix hy' (F.cl _ _ iy hz'), ← F.ass _ _ _ hy' iy hz', (V y hy').2.1, F.left z hz']
    have hm2 := F.cl _ _ iy hz'
    unfold cst
    congr 1
    rw [Bool.eq_iff_iff, h2]
    constructor
    · intro h3
      have h4 : tm n zs (iv n zs e y) z = tm n zs (iv n zs e (tm n zs (iv n zs e x) y)) (tm n zs (tm n zs (iv n zs e x) y) (tm n zs (iv n zs e y) z)) := by
        rw [← F.ass _ _ _ (V _ hm).1 hm hm2, (V _ hm).2.2, F.left _ hm2]
      rw [h4]
      exact hU.sg.mul _ _ (V _ hm).1 (F.cl _ _ hm hm2) (hU.sg.inv F hm (V _ hm).1 (V _ hm).2.1 h) h3
    · exact fun h3 => hU.sg.mul _ _ hm hm2 h h3
theorem cst_moves (g : IsGrp n zs e) (hs : Nsg n zs e s) (hU : Nsg n zs e U) {x z : Nat} (hx : x < n) (hz : z < n) : tq n zs e (bs (cst n zs e s U x) n) z = bs (cst n zs e s U (Fin.cj (tm n zs) (iv n zs e) x z)) n := by
  have F := grp_fg g
  have V := grp_iv g
  have hx' := List.mem_range.2 hx
  have hz' := List.mem_range.2 hz
  have hzi := (V z hz').1
  have ix := (V x hx').1
  have hcx := Fin.cj_mem F V hx' hz'
  -- the inverse of what is conjugated
  have hinv : Fin.cj (tm n zs) (iv n zs e) (iv n zs e x) z = iv n zs e (Fin.cj (tm n zs) (iv n zs e) x z) := iv_only g (List.mem_range.1 hcx) (List.mem_range.1 (Fin.cj_mem F V ix hz')) (by rw [← Fin.cj_mul F V hx' ix hz', (V x hx').2.1, Fin.cj_one F V hz'])
  have key : ∀ w, w ∈ List.range n → Fin.cj (tm n zs) (iv n zs e) (tm n zs (iv n zs e x) w) z = tm n zs (iv n zs e (Fin.cj (tm n zs) (iv n zs e) x z)) (Fin.cj (tm n zs) (iv n zs e) w z) := fun w hw => by rw [Fin.cj_mul F V ix hw hz', hinv]
  rw [tq_bs]
  refine bs_ext fun y hy => ?_
  have hy' := List.mem_range.2 hy
  rw [Bool.eq_iff_iff, cjq_iff]
  unfold cst
  simp only [Bool.and_eq_true]
  constructor
  · rintro ⟨w, hw, ⟨h1, h2⟩, rfl⟩
    exact ⟨hs.nm w z hw hz' h1, by rw [← key w hw]; exact hU.nm _ _ (F.cl _ _ ix hw) hz' h2⟩
  · rintro ⟨h1, h2⟩
    have hw := Fin.cj_mem F V hy' hzi
    refine ⟨_, hw, ⟨hs.nm y _ hy' hzi h1, ?_⟩, (Fin.cj_back F V hy' hz').2⟩
    have h3 := key _ hw
    rw [(Fin.cj_back F V hy' hz').2] at h3
    rw [← h3] at h2
    have h4 := hU.nm _ _ (Fin.cj_mem F V (F.cl _ _ ix hw) hz') hzi h2
    rwa [(Fin.cj_back F V (F.cl _ _ ix hw) hz').1] at h4
theorem coset_fix (g : IsGrp n zs e) (hpr : primeB p = true) (hG : Grown n zs e p s) (hs : Nsg n zs e s) (hU : Nsg n zs e U) (hnot : ∃ x, x < n ∧ s x = true ∧ ¬ U x = true) :
    ∃ x, x < n ∧ s x = true ∧ ¬ U x = true ∧ ∀ z, z < n → s z = true → U (Fin.cm (tm n zs) (iv n zs e) x z) = true := by
  have F := grp_fg g
  have V := grp_iv g
  have hp := prime_of hpr
  have FS := Fin.sg_fg F hs.sg
  -- the numbers of the cosets, each once
  obtain ⟨X, hXd, hX⟩ : ∃ X : List Nat, X.Nodup ∧ ∀ c, c ∈ X ↔ ∃ x, x < n ∧ s x = true ∧ bs (cst n zs e s U x) n = c := by
    refine ⟨((lst n s).filter fun x => (List.range x).all fun y => !(s y) || decide (bs (cst n zs e s U y) n ≠ bs (cst n zs e s U x) n)).map fun x => bs (cst n zs e s U x) n, ?_, fun c => ?_⟩
    · refine map_nodup ((lst_nd n s).filter _) (fun x y hx hy h => ?_)
      obtain ⟨hx1, hx2⟩ := List.mem_filter.1 hx
      obtain ⟨hy1, hy2⟩ := List.mem_filter.1 hy
      rw [List.all_eq_true] at hx2 hy2
      rcases Nat.lt_trichotomy x y with h1 | h1 | h1
      · have := hy2 x (List.mem_range.2 h1)
        simp [(mem_lst.1 hx1).2, h] at this
      · exact h1
      · have := hx2 y (List.mem_range.2 h1)
        simp [(mem_lst.1 hy1).2, h] at this
    · constructor
      · intro hc
        obtain ⟨x, hx, h⟩ := List.mem_map.1 hc
        obtain ⟨hx1, _⟩ := List.mem_filter.1 hx
        exact ⟨x, (mem_lst.1 hx1).1, (mem_lst.1 hx1).2, h⟩
      · rintro ⟨x, hx, hsx, rfl⟩
        have hex : ∃ y, y ≤ x ∧ (y < n ∧ s y = true ∧ bs (cst n zs e s U y) n = bs (cst n zs e s U x) n) ∧ ∀ t, t < y → ¬ (t < n ∧ s t = true ∧ bs (cst n zs e s U t) n = bs (cst n zs e s U x) n) := by
          have : ∀ k, (k < n ∧ s k = true ∧ bs (cst n zs e s U k) n = bs (cst n zs e s U x) n) → ∃ y, y ≤ k ∧ (y < n ∧ s y = true ∧ bs (cst n zs e s U y) n = bs (cst n zs e s U x) n) ∧ ∀ t, t < y → ¬ (t < n ∧ s t = true ∧ bs (cst n zs e s U t) n = bs (cst n zs e s U x) n) := by
            intro k
            induction k using Nat.strongRecOn with
            | _ k ih =>
              intro hk
              by_cases h : ∃ t, t < k ∧ (t < n ∧ s t = true ∧ bs (cst n zs e s U t) n = bs (cst n zs e s U x) n)
              · obtain ⟨t, ht, h1⟩ := h
                obtain ⟨y, hy, h2, h3⟩ := ih t ht h1
                exact ⟨y, by omega, h2, h3⟩
              · exact ⟨k, Nat.le_refl _, hk, fun t ht h1 => h ⟨t, ht, h1⟩⟩
          exact this x ⟨hx, hsx, rfl⟩
        obtain ⟨y, _, ⟨hy1, hy2, hy3⟩, hy4⟩ := hex
        refine List.mem_map.2 ⟨y, List.mem_filter.2 ⟨mem_lst.2 ⟨hy1, hy2⟩, List.all_eq_true.2 fun t ht => ?_⟩, hy3⟩
        have ht := List.mem_range.1 ht
        have h5 := hy4 t ht
        cases hst : s t with
        | false => rfl
        | true =>
          simp only [Bool.not_true, Bool.false_or, decide_eq_true_eq]
          exact fun h6 => h5 ⟨by omega, hst, by rw [h6, hy3]⟩
  have hmv : Fin.Mv (lst n s) X (tm n zs) e (tq n zs e) := by
    refine ⟨fun c x hc hx => ?_, fun c hc => ?_, fun c x y hc hx hy => ?_⟩
    · obtain ⟨a, ha, hsa, rfl⟩ := (hX c).1 hc
      obtain ⟨hx1, hx2⟩ := mem_lst.1 hx
      rw [cst_moves g hs hU ha hx1]
      exact (hX _).2 ⟨_, List.mem_range.1 (Fin.cj_mem F V (List.mem_range.2 ha) (List.mem_range.2 hx1)), hs.nm _ _ (List.mem_range.2 ha) (List.mem_range.2 hx1) hsa, rfl⟩
    · obtain ⟨a, ha, hsa, rfl⟩ := (hX c).1 hc
      rw [cst_moves g hs hU ha g.elt, Fin.cj_id F V (List.mem_range.2 ha)]
    · obtain ⟨a, ha, hsa, rfl⟩ := (hX c).1 hc
      obtain ⟨hx1, _⟩ := mem_lst.1 hx
      obtain ⟨hy1, _⟩ := mem_lst.1 hy
      have ha' := List.mem_range.2 ha
      have hx' := List.mem_range.2 hx1
      have hy' := List.mem_range.2 hy1
      rw [cst_moves g hs hU ha hx1, cst_moves g hs hU (List.mem_range.1 (Fin.cj_mem F V ha' hx')) hy1, cst_moves g hs hU ha (tm_lt g.tab hx1 hy1), Fin.cj_cj F V ha' hx' hy']
  -- how many cosets there are
  have hcnt : (lst n s).length = X.length * (lst n fun y => s y && U y).length := by
    refine Fin.fib_len (fun x => bs (cst n zs e s U x) n) _ X (lst n s) hXd (fun x hx => (hX _).2 ⟨x, (mem_lst.1 hx).1, (mem_lst.1 hx).2, rfl⟩) (fun c hc => ?_)
    obtain ⟨x, hx, hsx, rfl⟩ := (hX c).1 hc
    have hx' := List.mem_range.2 hx
    have ix := (V x hx').1
    symm
    refine Fin.bij_len (fun y => tm n zs x y) (lst_nd _ _) ((lst_nd _ _).filter _) (fun y hy => ?_) (fun y z hy hz h => F.can hx' (List.mem_range.2 (mem_lst.1 hy).1) (List.mem_range.2 (mem_lst.1 hz).1) h) (fun z hz => ?_)
    · obtain ⟨hy1, hy2⟩ := mem_lst.1 hy
      rw [Bool.and_eq_true] at hy2
      have hy' := List.mem_range.2 hy1
      have hm := hs.sg.mul _ _ hx' hy' hsx hy2.1
      refine List.mem_filter.2 ⟨mem_lst.2 ⟨tm_lt g.tab hx hy1, hm⟩, decide_eq_true ?_⟩
      refine ((cst_same g hU hx (tm_lt g.tab hx hy1) hm).2 ?_).symm
      rw [← F.ass _ _ _ ix hx' hy', (V x hx').2.2, F.left y hy']
      exact hy2.2
    · obtain ⟨hz1, hz2⟩ := List.mem_filter.1 hz
      obtain ⟨hz3, hz4⟩ := mem_lst.1 hz1
      have hz' := List.mem_range.2 hz3
      have h1 := (cst_same g hU hx hz3 hz4).1 (of_decide_eq_true hz2).symm
      refine ⟨tm n zs (iv n zs e x) z, mem_lst.2 ⟨tm_lt g.tab (List.mem_range.1 ix) hz3, ?_⟩, ?_⟩
      · rw [Bool.and_eq_true]
        exact ⟨hs.sg.mul _ _ ix hz' (hs.sg.inv F hx' ix (V x hx').2.1 hsx) hz4, h1⟩
      · show tm n zs x (tm n zs (iv n zs e x) z) = z
        rw [← F.ass _ _ _ hx' ix hz', (V x hx').2.1, F.left z hz']
  obtain ⟨k, hk⟩ := hG.pow
  obtain ⟨j, hj⟩ := dvd_pw hp k X.length ⟨_, by rw [← hk]; exact hcnt⟩
  have hmod := Fin.fix_mod (P := lst n s) hp FS hmv hXd ⟨k, hk⟩
  have heX : bs (cst n zs e s U e) n ∈ X := (hX _).2 ⟨e, g.elt, hs.sg.one, rfl⟩
  have hefix : Fin.fixB (lst n s) (tq n zs e) (bs (cst n zs e s U e) n) = true := Fin.fixB_iff.2 fun z hz => by
    obtain ⟨hz1, _⟩ := mem_lst.1 hz
    rw [cst_moves g hs hU g.elt hz1, Fin.cj_one F V (List.mem_range.2 hz1)]
  have hie : ∀ x, x < n → tm n zs (iv n zs e e) x = x := fun x hx => by
    have h1 : e = iv n zs e e := iv_only g g.elt g.elt (F.left e F.one)
    rw [← h1, F.left x (List.mem_range.2 hx)]
  have hj1 : 1 ≤ j := by
    refine Classical.byContradiction fun h => ?_
    have h0 : j = 0 := by omega
    subst h0
    obtain ⟨x, hx, hsx, hux⟩ := hnot
    have hxX : bs (cst n zs e s U x) n ∈ X := (hX _).2 ⟨x, hx, hsx, rfl⟩
    obtain ⟨d, hd⟩ := List.length_eq_one_iff.1 (by simpa using hj)
    rw [hd, List.mem_singleton] at heX hxX
    have h2 := (cst_same g hU g.elt hx hsx).1 (heX.trans hxX.symm)
    rw [hie x hx] at h2
    exact hux h2
  have hpX : X.length % p = 0 := by
    rw [hj, show j = (j - 1) + 1 by omega, Nat.pow_succ]
    exact Nat.mul_mod_left _ _
  rw [hpX] at hmod
  have hdv : p ∣ (X.filter (Fin.fixB (lst n s) (tq n zs e))).length := Nat.dvd_of_mod_eq_zero hmod.symm
  have hmem : bs (cst n zs e s U e) n ∈ X.filter (Fin.fixB (lst n s) (tq n zs e)) := List.mem_filter.2 ⟨heX, hefix⟩
  have h2 : 2 ≤ (X.filter (Fin.fixB (lst n s) (tq n zs e))).length := Nat.le_trans hp.1 (Nat.le_of_dvd (List.length_pos_of_mem hmem) hdv)
  obtain ⟨c, hc, hce⟩ : ∃ c, c ∈ X.filter (Fin.fixB (lst n s) (tq n zs e)) ∧ c ≠ bs (cst n zs e s U e) n := by
    refine Classical.byContradiction fun h => ?_
    have h3 := nodup_len (X.filter (Fin.fixB (lst n s) (tq n zs e))) [bs (cst n zs e s U e) n] (hXd.filter _) (fun c hc => by
      rw [List.mem_singleton]
      exact Classical.byContradiction fun h4 => h ⟨c, hc, h4⟩)
    simp at h3
    omega
  obtain ⟨hc1, hc2⟩ := List.mem_filter.1 hc
  obtain ⟨x, hx, hsx, rfl⟩ := (hX c).1 hc1
  refine ⟨x, hx, hsx, fun hux => hce ((cst_same g hU g.elt hx hsx).2 (by rw [hie x hx]; exact hux)).symm, fun z hz hsz => ?_⟩
  have h3 := Fin.fixB_iff.1 hc2 z (mem_lst.2 ⟨hz, hsz⟩)
  rw [cst_moves g hs hU hx hz] at h3
  have hx' := List.mem_range.2 hx
  have hz' := List.mem_range.2 hz
  have h4 := (cst_same g hU hx (List.mem_range.1 (Fin.cj_mem F V hx' hz')) (hs.nm x z hx' hz' hsx)).1 h3.symm
  rw [cm_as g hx hz]
  exact h4
end Go.Proofs.YtolbpjjjoafkkaaDoor
