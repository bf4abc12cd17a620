/- slices.Sort at a list of the call's own, nil or not. No condition. Package series' Factors: its walks, what it calls as premises. Series of subgroups as lists of sets, as mathematics: what Factors takes is a composition series; JORDAN AND HOELDER: all have the same factors, whose product is how many things there are. No condition. Package series' upper: the normal subgroups, from the one on, of what has all its commutators in the last one; Upper. Condition: the library's table of places lies as its text lays it. The sets of the three series are normal, and each derived one is in the lower one at its place; rows of lists, read. No condition. What is nilpotent: its lower and upper series go as far, it is solvable, and each of Sylow's subgroups is normal; and where each of Sylow's subgroups is normal, it is nilpotent. No condition. Solvable groups as mathematics, on: solvable is just where all factors of a composition series are primes; and where a normal subgroup and the quotient by it are. No condition. Package series ends and Solvable. Condition: the library table of places lies as its text lays it. Solvable groups as mathematics, on: a group by a normal subgroup. No condition. Package series' Factors at everything; what Composition answers is a composition series. Condition: the library's table of places lies as its text lays it. The law SeriesSolvable: its walk, what it calls as premises. Condition: the library's table of places lies as its text lays it. The law SeriesSolvable: at every table and every list it returns true. Condition: the library's table of places lies as its text lays it. The frame that all rows of this family share: how a table that came in reads. -/
import Derived.Test.YtjiapicknkjhmaaGreatDoorZ9
import Derived.Shelf.Sort.Plain
import Derived.Shelf.Slices.In.SortNone
import Derived.Sort.OwnSortedInts
import Derived.Shelf.Lay
import Derived.Deep.AppendLies
import Derived.BigQuiet
import Derived.Test.YtjiapicknkjhmaaGreatDoorZ7
import Derived.Test.YtjiapicknkjhmaaGreatDoorZ6
import Derived.Test.YtjiapicknkjhmaaGreatDoorZ8
import Derived.Test.YtjiapicknkjhmaaGreatDoorRows
import Derived.Test.YtjiapicknkjhmaaGreatDoorZ1
import Derived.ProofKit
import Derived.OpenShut
import Derived.ChangeOld
import Derived.Below
import Derived.SizedLaws
namespace Go.Proofs
shelf_lay Lays.n189 Nm 189 at Tryz as Tryz.lays189
end Go.Proofs
namespace Go.Proofs.YtjiapicknkjhmaaGreatDoor
open Go Go.RowKit

def srtI (zs : List Int) : List Int := zs.mergeSort fun x y => decide (x ≤ y)
theorem srtI_len (zs : List Int) : (srtI zs).length = zs.length := List.length_mergeSort _
theorem srtI_perm {xs ys : List Int} (h : xs.Perm ys) : srtI xs = srtI ys := by
  have tr : ∀ a b c : Int, decide (a ≤ b) = true → decide (b ≤ c) = true → decide (a ≤ c) = true := fun a b c h1 h2 => by simp at *; omega
  have tot : ∀ a b : Int, (decide (a ≤ b) || decide (b ≤ a)) = true := fun a b => by simp; omega
  refine List.Perm.eq_of_pairwise (le := fun a b => decide (a ≤ b) = true) (fun a b _ _ h1 h2 => by simp at h1 h2; omega) (List.pairwise_mergeSort tr tot xs) (List.pairwise_mergeSort tr tot ys) ?_
  exact ((List.mergeSort_perm xs _).trans h).trans (List.mergeSort_perm ys _).symm
theorem sort_row (B : Nat) (v : Value) (zs : List Int) (w : World) (h : Row w B v zs) (hl : zs.length ≤ 1000) :
    Calls Tryz.prog 25 #[v] w fun e w' => e = .returned (.tuple #[]) ∧ Row w' B v (srtI zs) ∧ w.grownBy w' v.ownBlock := by
  unfold Row at h
  obtain ⟨h1, ⟨rfl, h2⟩ | ⟨g, cap, cur, rfl, h3, h4, h5, h6, h7, h8⟩⟩ := h
  · refine (Any.slices_Sort_int_none Tryz.lays189 none 0 w).mono ?_
    rintro e w' ⟨rfl, rfl⟩
    have hz : zs = [] := List.length_eq_zero_iff.1 h2
    subst hz
    exact ⟨rfl, by rw [show srtI [] = [] by simp [srtI]]; exact nil_row _ _, World.grownBy.refl _ _⟩
  · have hlt : g < w.heap.size := by
      rcases Nat.lt_or_ge g w.heap.size with h9 | h9
      · exact h9
      · rw [Array.getElem?_eq_none h9] at h4; cases h4
    rw [Nat.mul_one] at h8
    refine Calls.mono (Any.slices_Sort_int Tryz.lays189 g 0 cap zs w (holds_of_blockI h4 h8) hlt (by omega)) ?_
    rintro e w' ⟨rfl, n, os, rfl⟩
    refine ⟨rfl, ?_, grownBy_sortedI _⟩
    have h9 := ownsRow_sortedI (n := n) (os := os) (base := B) (cap := cap) (ss := zs) (ts := srtI zs) (srtI_len zs) h3 h4 h5 h6 h7
    unfold Row
    rw [srtI_len]
    exact h9
end Go.Proofs.YtjiapicknkjhmaaGreatDoor

namespace Go.Proofs.YtjiapicknkjhmaaGreatDoor
open Go Go.RowKit

set_option maxRecDepth 100000 in
set_option maxHeartbeats 8000000 in
theorem fac_bad (N : Int) (v : Value) (lv : Value) (w : World) (c i : Int) (hc : c ≠ 0)
    (HCK : Hid (∀ W, Below w.heap.size w W → Calls Tryz.prog 22 #[.agg #[.int .i64 N, v]] W fun x W' => x = .returned (.agg #[.int .i64 c, .int .i64 i]) ∧ Below W.heap.size W W')) :
    Calls Tryz.prog 6 #[.agg #[.int .i64 N, v], lv] w fun x w' => x = .returned (.tuple #[.slice none 0 0, .agg #[.int .i64 c, .int .i64 i]]) ∧ Below w.heap.size w w' := by
  have hcb : (c != 0) = true := by simpa using hc
  obtain ⟨w0, BG⟩ := Beg.new w N v
  obtain ⟨c0, c1, _, _⟩ := BG.box.two
  rw [BG.eq] at c0 c1
  go_enter Tryz.func6, Tryz.ntmps6
  go_wp2_with fail
  rw [← BG.eq]
  refine (HCK.out _ BG.bel).mono ?_
  rintro x w1 ⟨rfl, hb1⟩
  clear c0 c1
  obtain ⟨w2, hw2⟩ : ∃ w2, w2 = w1.alloc (.cells #[.int .i64 c, .int .i64 i] 28) := ⟨_, rfl⟩
  have hB1 : Below w0.heap.size w0 w2 := by rw [hw2]; exact bcat2 hb1 (balloc w1 _)
  have hF1 : Blk w2 w1.heap.size 28 [.int .i64 c, .int .i64 i] := by rw [hw2]; exact blk0 _ _
  have hR1 := blk_below BG.res hB1
  have hBw := bcat BG.bel hB1 BG.bel.size
  obtain ⟨y0, y1, fy0, fy1⟩ := hR1.two
  obtain ⟨t0, t1, _, _⟩ := hF1.two
  rw [hw2] at t0 t1
  go_wp2_with fail
  rw [← hw2]
  rw [← hw2] at t0 t1
  clear hw2
  go_region
  all_goals (
    go_wp2
    obtain ⟨hR6, hB6⟩ := put2 hR1 hBw (by omega) c i
    have hB7 := bdrew hB6
    have hR7 : Blk ((w2.setCell ⟨w.heap.size + 1, 0, none⟩ (.int .i64 c)).setCell ⟨w.heap.size + 1, 1, none⟩ (.int .i64 i)).drew (w.heap.size + 1) 28 [.int .i64 c, .int .i64 i] := hR6
    generalize ((w2.setCell ⟨w.heap.size + 1, 0, none⟩ (.int .i64 c)).setCell ⟨w.heap.size + 1, 1, none⟩ (.int .i64 i)).drew = W at hR7 hB7 ⊢
    obtain ⟨z0, z1, _, _⟩ := hR7.two
    exact bodyPost_ret (v := .tuple #[.slice none 0 0, .agg #[.int .i64 c, .int .i64 i]]) (by simp [results, Tryz.results6, go_sem, z0, z1]) rfl ⟨rfl, hB7⟩)
set_option maxRecDepth 100000 in
set_option maxHeartbeats 8000000 in
theorem fac_chk (N : Int) (v : Value) (lv : Value) (w : World) (c i : Int) (hc : c ≠ 0)
    (HC0 : Hid (∀ W, Below w.heap.size w W → Calls Tryz.prog 22 #[.agg #[.int .i64 N, v]] W fun x W' => x = .returned (.agg #[.int .i64 0, .int .i64 0]) ∧ Below W.heap.size W W'))
    (HCK : Hid (∀ W, Below w.heap.size w W → Calls Tryz.prog 23 #[.agg #[.int .i64 N, v], lv] W fun x W' => x = .returned (.agg #[.int .i64 c, .int .i64 i]) ∧ Below W.heap.size W W')) :
    Calls Tryz.prog 6 #[.agg #[.int .i64 N, v], lv] w fun x w' => x = .returned (.tuple #[.slice none 0 0, .agg #[.int .i64 c, .int .i64 i]]) ∧ Below w.heap.size w w' := by
  have hcb : (c != 0) = true := by simpa using hc
  obtain ⟨w0, BG⟩ := Beg.new w N v
  obtain ⟨c0, c1, _, _⟩ := BG.box.two
  rw [BG.eq] at c0 c1
  go_enter Tryz.func6, Tryz.ntmps6
  go_wp2_with fail
  rw [← BG.eq]
  refine (HC0.out _ BG.bel).mono ?_
  rintro x wa ⟨rfl, hba⟩
  clear c0 c1
  obtain ⟨wb, hwb⟩ : ∃ wb, wb = wa.alloc (.cells #[.int .i64 0, .int .i64 0] 28) := ⟨_, rfl⟩
  have hBb : Below w0.heap.size w0 wb := by rw [hwb]; exact bcat2 hba (balloc wa _)
  have hFb : Blk wb wa.heap.size 28 [.int .i64 0, .int .i64 0] := by rw [hwb]; exact blk0 _ _
  have hXb := blk_below BG.box hBb
  obtain ⟨t0, t1, _, _⟩ := hFb.two
  obtain ⟨c0, c1, _, _⟩ := hXb.two
  rw [hwb] at t0 t1 c0 c1
  go_wp2_with fail
  rw [← hwb]
  clear t0 t1 c0 c1 hwb
  refine (HCK.out _ (bcat2 BG.bel hBb)).mono ?_
  rintro x w1 ⟨rfl, hb0⟩
  have hb1 := bcat2 hBb hb0
  obtain ⟨w2, hw2⟩ : ∃ w2, w2 = w1.alloc (.cells #[.int .i64 c, .int .i64 i] 28) := ⟨_, rfl⟩
  have hB1 : Below w0.heap.size w0 w2 := by rw [hw2]; exact bcat2 hb1 (balloc w1 _)
  have hF1 : Blk w2 w1.heap.size 28 [.int .i64 c, .int .i64 i] := by rw [hw2]; exact blk0 _ _
  have hR1 := blk_below BG.res hB1
  have hBw := bcat BG.bel hB1 BG.bel.size
  obtain ⟨y0, y1, fy0, fy1⟩ := hR1.two
  obtain ⟨t0, t1, _, _⟩ := hF1.two
  rw [hw2] at t0 t1
  go_wp2_with fail
  rw [← hw2]
  rw [← hw2] at t0 t1
  clear hw2
  go_region
  all_goals (
    go_wp2
    obtain ⟨hR6, hB6⟩ := put2 hR1 hBw (by omega) c i
    have hB7 := bdrew hB6
    have hR7 : Blk ((w2.setCell ⟨w.heap.size + 1, 0, none⟩ (.int .i64 c)).setCell ⟨w.heap.size + 1, 1, none⟩ (.int .i64 i)).drew (w.heap.size + 1) 28 [.int .i64 c, .int .i64 i] := hR6
    generalize ((w2.setCell ⟨w.heap.size + 1, 0, none⟩ (.int .i64 c)).setCell ⟨w.heap.size + 1, 1, none⟩ (.int .i64 i)).drew = W at hR7 hB7 ⊢
    obtain ⟨z0, z1, _, _⟩ := hR7.two
    exact bodyPost_ret (v := .tuple #[.slice none 0 0, .agg #[.int .i64 c, .int .i64 i]]) (by simp [results, Tryz.results6, go_sem, z0, z1]) rfl ⟨rfl, hB7⟩)
/-- The quotients of how many things the sets have, up to a place. -/
def qts (ls : List (List Int)) (t : Nat) : List Int := (List.range (t - 1)).map fun k => (((ls[k]?.getD []).length / (ls[k + 1]?.getD []).length : Nat) : Int)
theorem qts_one (ls : List (List Int)) : qts ls 1 = [] := rfl
theorem qts_len (ls : List (List Int)) (t : Nat) : (qts ls t).length = t - 1 := by simp [qts]
theorem qts_up (ls : List (List Int)) {t : Nat} (ht : 1 ≤ t) : qts ls (t + 1) = qts ls t ++ [(((ls[t - 1]?.getD []).length / (ls[t]?.getD []).length : Nat) : Int)] := by
  obtain ⟨k, rfl⟩ : ∃ k, t = k + 1 := ⟨t - 1, by omega⟩
  unfold qts
  simp [List.range_succ]
set_option maxRecDepth 100000 in
set_option maxHeartbeats 8000000 in
theorem fac_go (n : Nat) (v1 : Option Addr) (v2 v3 : Nat) (ls : List (List Int)) (sc : Nat → Int) (lv : Value) (w : World) (hL : SlL w lv ls) (hl1 : 1 ≤ ls.length) (hl2 : ls.length ≤ 10) (hpos : ∀ t, t < ls.length → 1 ≤ (ls[t]?.getD []).length ∧ (ls[t]?.getD []).length ≤ 60)
    (HC0 : Hid (∀ W, Below w.heap.size w W → Calls Tryz.prog 22 #[.agg #[.int .i64 n, .slice v1 v2 v3]] W fun x W' => x = .returned (.agg #[.int .i64 0, .int .i64 0]) ∧ Below W.heap.size W W'))
    (HCK : Hid (∀ W, Below w.heap.size w W → Calls Tryz.prog 23 #[.agg #[.int .i64 n, .slice v1 v2 v3], lv] W fun x W' => x = .returned (.agg #[.int .i64 0, .int .i64 0]) ∧ Below W.heap.size W W'))
    (HST : Hid (∀ W t a b, Below w.heap.size w W → 1 ≤ t → t < ls.length → Sl W a (ls[t - 1]?.getD []) → Sl W b (ls[t]?.getD []) → Calls Tryz.prog 24 #[.agg #[.int .i64 n, .slice v1 v2 v3], a, b] W fun x W' => x = .returned (.int .i64 (sc t)) ∧ Below W.heap.size W W')) :
    Calls Tryz.prog 6 #[.agg #[.int .i64 n, .slice v1 v2 v3], lv] w fun x w' => ∃ y c i, x = .returned (.tuple #[y, .agg #[.int .i64 c, .int .i64 i]]) ∧ ((∃ t : Nat, 1 ≤ t ∧ t < ls.length ∧ (∀ s, 1 ≤ s → s < t → sc s = 0) ∧ sc t ≠ 0 ∧ c = sc t ∧ i = t ∧ y = .slice none 0 0) ∨ ((∀ s, 1 ≤ s → s < ls.length → sc s = 0) ∧ c = 0 ∧ i = 0 ∧ Row w' w.heap.size y (srtI (qts ls ls.length)))) ∧ Below w.heap.size w w' := by
  obtain ⟨i3, hi3, hy0, hy1, hy2⟩ := info_parts info3b
  obtain ⟨w0, BG⟩ := Beg.new w n (.slice v1 v2 v3)
  have hL0 := hL.below BG.bel
  obtain ⟨c0, c1, _, _⟩ := BG.box.two
  obtain ⟨la, lc, lb, lo, rfl, h1, h2, h3, _, _⟩ := id hL
  obtain rfl := h1 (by omega)
  have HROW := hide h2
  have HPOS := hide hpos
  clear h1 h2 hpos
  rw [BG.eq] at c0 c1
  go_enter Tryz.func6, Tryz.ntmps6
  go_wp2_with fail
  rw [← BG.eq]
  refine (HC0.out _ BG.bel).mono ?_
  rintro x wa ⟨rfl, hba⟩
  clear c0 c1
  obtain ⟨wb, hwb⟩ : ∃ wb, wb = wa.alloc (.cells #[.int .i64 0, .int .i64 0] 28) := ⟨_, rfl⟩
  have hBb : Below w0.heap.size w0 wb := by rw [hwb]; exact bcat2 hba (balloc wa _)
  have hFb : Blk wb wa.heap.size 28 [.int .i64 0, .int .i64 0] := by rw [hwb]; exact blk0 _ _
  have hXb := blk_below BG.box hBb
  have hRb := blk_below BG.res hBb
  have hBwb := bcat2 BG.bel hBb
  obtain ⟨t0, t1, _, _⟩ := hFb.two
  obtain ⟨c0, c1, _, _⟩ := hXb.two
  rw [hwb] at t0 t1 c0 c1
  go_wp2_with fail
  rw [← hwb]
  clear t0 t1 c0 c1 hwb hFb hba hBb
  refine (HCK.out _ hBwb).mono ?_
  rintro x wc ⟨rfl, hbc⟩
  obtain ⟨w1, hw1⟩ : ∃ w1, w1 = wc.alloc (.cells #[.int .i64 0, .int .i64 0] 28) := ⟨_, rfl⟩
  have hb1 : Below wb.heap.size wb w1 := by rw [hw1]; exact bcat2 hbc (balloc wc _)
  have hF1 : Blk w1 wc.heap.size 28 [.int .i64 0, .int .i64 0] := by rw [hw1]; exact blk0 _ _
  have hX1 := blk_below hXb hb1
  have hR1 := blk_below hRb hb1
  have hB1 := bcat2 hBwb hb1
  obtain ⟨t0, t1, _, _⟩ := hF1.two
  rw [hw1] at t0 t1
  go_wp2_with fail
  rw [← hw1]
  clear t0 t1 hw1 hF1 hb1 hbc hXb hRb hBwb HC0 HCK BG hL0
  have hw1s : w.heap.size ≤ w1.heap.size := hB1.size
  go_loopw [8, 9] (fun sv iv wr => ∃ (t : Nat) (sa : Option Addr) (sp : Nat), 1 ≤ t ∧ t ≤ ls.length ∧ iv = .int .i64 t ∧ sv = .slice sa (qts ls t).length sp ∧ (∀ s, 1 ≤ s → s < t → sc s = 0) ∧ Row wr w1.heap.size (.slice sa (qts ls t).length sp) (qts ls t) ∧ Below w1.heap.size w1 wr) (fun _ iv _ => ls.length - (intOf iv).toNat)
  case atStart => exact ⟨1, none, 0, Nat.le_refl _, hl1, rfl, by rw [qts_one]; rfl, fun s h1 h2 => by omega, by rw [qts_one]; exact nil_row _ _, Below.refl _ _⟩
  case round =>
    obtain ⟨t, sa, sp, ht1, htl, rfl, rfl, hok, hrow, hb⟩ := hrel
    have HOK := hide hok
    clear hok
    have hBr := bcat2 hB1 hb
    have hXr := blk_below hX1 hb
    have hRr := blk_below hR1 hb
    have hq60 : (qts ls t).length ≤ 10 := by rw [qts_len]; omega
    by_cases hlt : t < ls.length
    · have hti : (t : Int) < (ls.length : Int) := by omega
      have hts : (t : Int) - 1 = ((t - 1 : Nat) : Int) := by omega
      have htj : ((t - 1 : Nat) : Int) < (ls.length : Int) := by omega
      obtain ⟨a1, a3, ca, sa9⟩ := row_at HROW.out (show t - 1 < ls.length by omega)
      obtain ⟨b1, b3, cb, sb9⟩ := row_at HROW.out hlt
      have caw := below_cell hB1 ca
      have cbw := below_cell hB1 cb
      have ca := below_cell hBr ca
      have cb := below_cell hBr cb
      have HSC := hide (fun W (h : Below w1.heap.size w1 W) => HST.out W t _ _ (bcat2 hB1 h) ht1 hlt (sa9.below (bcat2 hB1 h)) (sb9.below (bcat2 hB1 h)))
      obtain ⟨pa1, pa2⟩ := HPOS.out (t - 1) (by omega)
      obtain ⟨pb1, pb2⟩ := HPOS.out t hlt
      have HQ := hide (qts_up ls ht1)
      clear sa9 sb9
      generalize hLa : (ls[t - 1]?.getD []).length = La at *
      generalize hLb : (ls[t]?.getD []).length = Lb at *
      clear hLa hLb
      have hwt : IntKind.i64.wrap ((t : Int) - 1) = ((t - 1 : Nat) : Int) := by rw [IntKind.wrap_i64]; omega
      have hk0 : (0 : Int) ≤ ((t - 1 : Nat) : Int) := by omega
      have HTS := hide hts
      clear hts
      generalize hk : t - 1 = k at *
      have HKK := hide hk
      clear hk
      obtain ⟨c0, c1, _, _⟩ := hXr.two
      obtain ⟨d0, d1, _, _⟩ := hX1.two
      have hS : ∀ W, Below w1.heap.size w1 W → (Below w1.heap.size w1 W ∧ W.cell? ⟨w.heap.size, 0, none⟩ = some (.int .i64 n) ∧ W.cell? ⟨w.heap.size, 1, none⟩ = some (.slice v1 v2 v3) ∧ W.cell? ⟨lb, lo + k, none⟩ = some (.slice a1 La a3) ∧ W.cell? ⟨lb, lo + t, none⟩ = some (.slice b1 Lb b3)) := fun W h => ⟨h, below_cell h d0, below_cell h d1, below_cell h caw, below_cell h cbw⟩
      have hS0 := hS _ (bdrew hb)
      clear caw cbw d0 d1
      go_wp2_with fail
      go_cut [10] (fun s10 wx => s10 = .int .i64 (sc t) ∧ Below wr.heap.size wr wx)
      case first =>
        clear c0 c1 ca cb
        go_region_held3 (fun W => Below w1.heap.size w1 W ∧ W.cell? ⟨w.heap.size, 0, none⟩ = some (.int .i64 n) ∧ W.cell? ⟨w.heap.size, 1, none⟩ = some (.slice v1 v2 v3) ∧ W.cell? ⟨lb, lo + k, none⟩ = some (.slice a1 La a3) ∧ W.cell? ⟨lb, lo + t, none⟩ = some (.slice b1 Lb b3))
          (first | exact hS0 | assumption | exact hS _ (bcat2 (And.left ‹_›) hl5))
          (first | (go_at_call 24; refine (HSC.out _ (And.left ‹_›)).mono ?_; rintro e5 U5 ⟨rfl, hl5⟩))
        all_goals (go_wp2; go_meet)
        all_goals exact ⟨rfl, undA hl5⟩
      case rest =>
        obtain ⟨rfl, hbx⟩ := hcut
        have hb2 := bcat2 hb hbx
        have hrow2 : Row wc w1.heap.size (.slice sa (qts ls t).length sp) (qts ls t) := own_keep2 hrow (fun g _ h2 => hbx.block g h2)
        have hB2 := bcat2 hB1 hb2
        have hR2 := blk_below hR1 hb2
        clear c0 c1 ca cb hS0 hrow
        by_cases hz : sc t = 0
        · have HZ := hide hz
          rw [hz]
          clear hz
          have hS0 := hS _ (bdrew hb2)
          have hdiv : ¬ ((Lb : Int) = 0) := by omega
          have hdiv2 : ¬ Lb = 0 := by omega
          have hq1 : La / Lb ≤ 60 := Nat.le_trans (Nat.div_le_self _ _) pa2
          obtain ⟨q9, hq9⟩ : ∃ q9, La / Lb = q9 := ⟨_, rfl⟩
          have hqq : Int.tdiv (La : Int) (Lb : Int) = (q9 : Int) := by rw [Int.tdiv_eq_ediv_of_nonneg (by omega), ← Int.natCast_ediv, hq9]
          have hqe : (La : Int) / (Lb : Int) = (q9 : Int) := by rw [← Int.natCast_ediv, hq9]
          have hq2 : q9 ≤ 60 := by omega
          have hwq : IntKind.i64.wrap (q9 : Int) = (q9 : Int) := by rw [IntKind.wrap_i64]; omega
          have HQ9 := hide (show qts ls (t + 1) = qts ls t ++ [(q9 : Int)] by rw [HQ.out, hq9])
          clear hq9 hq1
          generalize hlq : qts ls t = lq at *
          clear hlq
          have hown : wc.drew.ownsRow w1.heap.size 3 1 (.slice sa lq.length sp) lq.length (lq.map (Value.int .i64)) := own_keep2 hrow2 (fun _ _ _ => rfl)
          have hbd := bdrew hb2
          have hsz := hb2.size
          go_wp2_with fail
          go_region_held3 (fun W => Below w1.heap.size w1 W ∧ W.cell? ⟨w.heap.size, 0, none⟩ = some (.int .i64 n) ∧ W.cell? ⟨w.heap.size, 1, none⟩ = some (.slice v1 v2 v3) ∧ W.cell? ⟨lb, lo + k, none⟩ = some (.slice a1 La a3) ∧ W.cell? ⟨lb, lo + t, none⟩ = some (.slice b1 Lb b3))
            (first | exact hS0 | assumption | exact hS _ (bcat2 (And.left ‹_›) (balloc _ _)) | exact hS _ hB9)
            (first
              | (refine step_append_lies _ rfl _ _ 22 rfl w1.heap.size 3 i3 (.int .i64 0) 1 8 under22b hi3 hy0 hy1 hy2 rfl (by decide) _ _ _ rfl (World.ownsRow.alloc hown _) ⟨_, 0, none⟩ 1 1 [.int .i64 q9] rfl rfl (cell_one_new _ _ _) (by simp [Value.oneCell']) (by decide) (by unfold maxLen; omega) (by omega) (by simp; omega) _ rfl ?_; intro g9 cap9 w9 hown9 hgrow hloc _; have hB9 : Below w1.heap.size w1 w9 := (hbd.alloc hbd.size _).grown hgrow (by simp; omega) (fun t e9 => owns_ge hown t e9)))
          all_goals (
            have hrow9 : Row w9 w1.heap.size (.slice (some ⟨g9, 0, none⟩) (qts ls (t + 1)).length cap9) (qts ls (t + 1)) := by
              rw [HQ9.out]
              unfold Row
              simpa using hown9
            clear hown9 hgrow hloc hown
            go_wp2
            go_roundw
            case rel => exact ⟨t + 1, some ⟨g9, 0, none⟩, cap9, by omega, by omega, by go_num, by rw [HQ9.out]; simp, fun s h1 h2 => by
              by_cases hst : s < t
              · exact HOK.out s h1 hst
              · rw [show s = t by omega]; exact HZ.out, hrow9, hB9⟩
            case measure => simp [intOf]; omega)
        · have hzb : (sc t != 0) = true := by simpa using hz
          have HZ := hide hz
          clear hz
          obtain ⟨y0, y1, y2, y3⟩ := hR2.two
          obtain ⟨hR6, hB6⟩ := put2 hR2 hB2 (by omega) (sc t) (t : Int)
          obtain ⟨z0, z1, _, _⟩ := hR6.two
          go_wp2
          exact bodyPost_ret (v := .tuple #[.slice none 0 0, .agg #[.int .i64 (sc t), .int .i64 t]]) (by simp [results, Tryz.results6, go_sem, z0, z1]) rfl ⟨_, _, _, rfl, .inl ⟨t, ht1, hlt, HOK.out, HZ.out, rfl, rfl, rfl⟩, hB6⟩
    · have hti : ¬ (t : Int) < (ls.length : Int) := by omega
      have HE := hide (show qts ls t = qts ls ls.length by rw [show t = ls.length by omega])
      have HALL := hide (fun s (h1 : 1 ≤ s) (h2 : s < ls.length) => HOK.out s h1 (by omega))
      rw [HE.out] at hrow ⊢
      have hq : (qts ls ls.length).length ≤ 10 := by rw [qts_len]; omega
      have HSO := hide (sort_row w1.heap.size _ (qts ls ls.length) wr hrow (by omega))
      obtain ⟨lq, hlq⟩ : ∃ lq, lq = qts ls ls.length := ⟨_, rfl⟩
      rw [← hlq] at hrow HSO ⊢
      have HLQ := hide hlq
      clear hq60 hq hlq
      go_wp2_with fail
      refine HSO.out.mono ?_
      rintro x w9 ⟨rfl, hrow9, hgr⟩
      have hB9 : Below w1.heap.size w1 w9 := hb.grown hgr hb.size (fun t e9 => owns_ge hrow t e9)
      have hR9 := blk_below hR1 hB9
      have hBw := bcat2 hB1 hB9
      obtain ⟨y0, y1, y2, y3⟩ := hR9.two
      have hst := store_same y0 y1
      have hrw : Row w9 w.heap.size (.slice sa lq.length sp) (srtI lq) := own_le hrow9 hw1s
      go_wp2
      exact bodyPost_ret (v := .tuple #[.slice sa lq.length sp, .agg #[.int .i64 0, .int .i64 0]]) (by simp [results, Tryz.results6, go_sem, y0, y1]) rfl ⟨_, _, _, rfl, .inr ⟨HALL.out, rfl, rfl, by rw [← HLQ.out]; exact hrw⟩, hBw⟩
end Go.Proofs.YtjiapicknkjhmaaGreatDoor

namespace Go.Proofs.YtjiapicknkjhmaaGreatDoor
open Go Go.RowKit

section
variable {l : List Nat} {m : Nat → Nat → Nat} {e : Nat} {iv : Nat → Nat}
theorem cs_of (f : Nat → Nat → Bool) (K : Nat) (hm : ∀ k, k < K → Fin.Mxn l m e iv (f k) (f (k + 1))) (hl : ∀ x, x ∈ l → f K x = true → x = e) : ∀ j, j ≤ K → Fin.Cs l m e iv (f (K - j)) ((List.range j).map fun i => f (K - j + 1 + i))
  | 0, _ => hl
  | j + 1, hj => by
    rw [List.range_succ_eq_map, List.map_cons, List.map_map]
    refine ⟨?_, ?_⟩
    · have := hm (K - (j + 1)) (by omega)
      simpa using this
    · have := cs_of f K hm hl j (by omega)
      rw [show K - j = K - (j + 1) + 1 by omega] at this
      have e1 : (fun i => f (K - (j + 1) + 1 + 1 + i)) = ((fun i => f (K - (j + 1) + 1 + i)) ∘ Nat.succ) := by
        funext i
        show f _ = f _
        congr 1
        omega
      rw [e1] at this
      exact this
theorem facs_of (f : Nat → Nat → Bool) : ∀ (j s : Nat), Fin.facs l (f s) ((List.range j).map fun i => f (s + 1 + i)) = (List.range j).map fun i => Fin.sz l (f (s + i)) / Fin.sz l (f (s + 1 + i))
  | 0, _ => rfl
  | j + 1, s => by
    rw [List.range_succ_eq_map, List.map_cons, List.map_map, List.map_cons, List.map_map]
    show _ :: Fin.facs l (f (s + 1 + 0)) _ = _
    have e1 : ((fun i => f (s + 1 + i)) ∘ Nat.succ) = fun i => f (s + 1 + 1 + i) := by
      funext i
      show f _ = f _
      congr 1
      omega
    rw [e1]
    have h := facs_of f j (s + 1)
    rw [show s + 1 + 0 = s + 1 from rfl, h]
    congr 1
    refine List.map_congr_left fun i _ => ?_
    show _ = Fin.sz l (f (s + (i + 1))) / Fin.sz l (f (s + 1 + (i + 1)))
    rw [show s + 1 + i = s + (i + 1) by omega, show s + 1 + 1 + i = s + 1 + (i + 1) by omega]
end
def prI : List Int → Int
  | [] => 1
  | a :: l => a * prI l
theorem prI_perm {xs ys : List Int} (h : xs.Perm ys) : prI xs = prI ys := by
  induction h with
  | nil => rfl
  | cons x _ ih => show x * _ = x * _; rw [ih]
  | swap x y l => show y * (x * _) = x * (y * _); rw [← Int.mul_assoc, Int.mul_comm y x, Int.mul_assoc]
  | trans _ _ h1 h2 => rw [h1, h2]
theorem prI_app (xs : List Int) (a : Int) : prI (xs ++ [a]) = prI xs * a := by
  induction xs with
  | nil => show a * 1 = 1 * a; rw [Int.mul_one, Int.one_mul]
  | cons x xs ih => show x * prI (xs ++ [a]) = x * prI xs * a; rw [ih, Int.mul_assoc]
theorem prI_pos {xs : List Int} (h : ∀ x, x ∈ xs → 1 ≤ x) : 1 ≤ prI xs := by
  induction xs with
  | nil => exact Int.le_refl _
  | cons x xs ih =>
    have h1 := h x (by simp)
    have h2 := ih (fun y hy => h y (by simp [hy]))
    show 1 ≤ x * prI xs
    have := Int.mul_le_mul h1 h2 (by omega) (by omega)
    omega
theorem prI_take {xs : List Int} (h : ∀ x, x ∈ xs → 1 ≤ x) (i : Nat) : 1 ≤ prI (xs.take i) ∧ prI (xs.take i) ≤ prI xs := by
  have h1 := prI_pos (xs := xs.take i) (fun x hx => h x (List.mem_of_mem_take hx))
  refine ⟨h1, ?_⟩
  have h2 : prI xs = prI (xs.take i) * prI (xs.drop i) := by
    have : ∀ ys zs : List Int, prI (ys ++ zs) = prI ys * prI zs := by
      intro ys zs
      induction ys with
      | nil => show prI zs = 1 * prI zs; rw [Int.one_mul]
      | cons y ys ih => show y * prI (ys ++ zs) = y * prI ys * prI zs; rw [ih, Int.mul_assoc]
    rw [← this, List.take_append_drop]
  have h3 := prI_pos (xs := xs.drop i) (fun x hx => h x (List.mem_of_mem_drop hx))
  rw [h2]
  have := Int.mul_le_mul_of_nonneg_left h3 (show 0 ≤ prI (xs.take i) by omega)
  omega
theorem srtI_mem {xs : List Int} {x : Int} : x ∈ srtI xs ↔ x ∈ xs := (List.mergeSort_perm xs _).mem_iff
theorem prI_srt (xs : List Int) : prI (srtI xs) = prI xs := prI_perm (List.mergeSort_perm xs _)
/-- What Factors takes. -/
structure FOK (n : Nat) (zs : List Int) (e : Nat) (ls : List (List Int)) : Prop where
  l1 : 1 ≤ ls.length
  l2 : ls.length ≤ 10
  s0 : (ls[0]?.getD []).length = n
  s1 : (ls[ls.length - 1]?.getD []).length = 1
  gd : ∀ k, k < ls.length → gdB n zs e (ls[k]?.getD []) = true
  mx : ∀ t, 1 ≤ t → t < ls.length → Mxg n zs e (pset (ls[t - 1]?.getD [])) (pset (ls[t]?.getD []))
section
variable {n e : Nat} {zs : List Int} {ls : List (List Int)}
theorem gd_lst {l : List Int} (h : gdB n zs e l = true) : l = li (lst n (pset l)) ∧ subT n zs e (pset l) = true := by
  unfold gdB at h
  rw [Bool.and_eq_true, decide_eq_true_eq] at h
  exact ⟨set_lst (by rw [h.1]), h.2⟩
theorem gd_len {l : List Int} (h : gdB n zs e l = true) : l.length = Fin.sz (List.range n) (pset l) := by
  have h1 := (gd_lst h).1
  have h2 := congrArg List.length h1
  rw [li_len] at h2
  exact h2
theorem FOK.cs (h : FOK n zs e ls) (g : IsGrp n zs e) : Fin.Cs (List.range n) (tm n zs) e (Go.Proofs.YtjiapicknkjhmaaGreatDoor.iv n zs e) (pset (ls[0]?.getD [])) ((List.range (ls.length - 1)).map fun i => pset (ls[1 + i]?.getD [])) := by
  have l1 := h.l1
  have h1 := cs_of (l := List.range n) (m := tm n zs) (e := e) (iv := Go.Proofs.YtjiapicknkjhmaaGreatDoor.iv n zs e) (fun k => pset (ls[k]?.getD [])) (ls.length - 1) (fun k hk => by
      have := h.mx (k + 1) (by omega) (by omega)
      simpa using this) (fun x hx h2 => by
      have h3 := h.gd (ls.length - 1) (by omega)
      have h4 := gd_len h3
      rw [h.s1] at h4
      exact (Fin.sz_one (grp_fg g) (subT_iff.1 (gd_lst h3).2)).1 h4.symm x hx h2) (ls.length - 1) (Nat.le_refl _)
  rw [Nat.sub_self] at h1
  simpa using h1
theorem FOK.facs (h : FOK n zs e ls) : qts ls ls.length = li (Fin.facs (List.range n) (pset (ls[0]?.getD [])) ((List.range (ls.length - 1)).map fun i => pset (ls[1 + i]?.getD []))) := by
  have l1 := h.l1
  have h1 := facs_of (l := List.range n) (fun k => pset (ls[k]?.getD [])) (ls.length - 1) 0
  simp only [Nat.zero_add] at h1
  rw [h1]
  unfold qts li
  rw [List.map_map]
  refine List.map_congr_left fun k hk => ?_
  have hk := List.mem_range.1 hk
  rw [gd_len (h.gd k (by omega)), gd_len (h.gd (k + 1) (by omega))]
  show _ = ((Fin.sz (List.range n) (pset (ls[k]?.getD [])) / Fin.sz (List.range n) (pset (ls[1 + k]?.getD [])) : Nat) : Int)
  rw [Nat.add_comm 1 k]
theorem FOK.top (h : FOK n zs e ls) {x : Nat} (hx : x < n) : pset (ls[0]?.getD []) x = true := by
  have h1 := gd_len (h.gd 0 h.l1)
  rw [h.s0] at h1
  exact Fin.in_of_sz (l := List.range n) (p := pset (ls[0]?.getD [])) (q := fun _ => true) (fun _ _ _ => rfl) (by
    rw [← h1]
    unfold Fin.sz
    rw [List.filter_eq_self.2 (fun _ _ => rfl), List.length_range]) x (List.mem_range.2 hx) rfl
/-- JORDAN AND HOELDER. -/
theorem FOK.jordan {ks : List (List Int)} (h : FOK n zs e ls) (k : FOK n zs e ks) (g : IsGrp n zs e) : srtI (qts ls ls.length) = srtI (qts ks ks.length) := by
  refine srtI_perm ?_
  rw [h.facs, k.facs]
  have hA : ∀ x, x ∈ List.range n → pset (ks[0]?.getD []) x = pset (ls[0]?.getD []) x := fun x hx => by rw [h.top (List.mem_range.1 hx), k.top (List.mem_range.1 hx)]
  have e1 : Fin.sz (List.range n) (pset (ks[0]?.getD [])) = Fin.sz (List.range n) (pset (ls[0]?.getD [])) := by
    rw [← gd_len (h.gd 0 h.l1), ← gd_len (k.gd 0 k.l1), h.s0, k.s0]
  rw [Fin.facs_congr e1]
  refine List.Perm.map _ ?_
  exact Fin.jordan (grp_fg g) (grp_iv g) (N := n) (fun x hx => List.mem_range.1 hx) _ _ _ _ (subT_iff.1 (gd_lst (h.gd 0 h.l1)).2) (Nat.le_refl _) (h.cs g) (Fin.Cs.congr (grp_fg g) (grp_iv g) hA (k.cs g))
theorem foldl_pr : ∀ (xs : List Nat) (c : Nat), ((xs.foldl (· * ·) c : Nat) : Int) = (c : Int) * prI (li xs)
  | [], c => by show (c : Int) = c * 1; rw [Int.mul_one]
  | a :: xs, c => by
    show ((xs.foldl (· * ·) (c * a) : Nat) : Int) = (c : Int) * ((a : Int) * prI (li xs))
    rw [foldl_pr xs (c * a), Int.natCast_mul, Int.mul_assoc]
theorem FOK.prod (h : FOK n zs e ls) (g : IsGrp n zs e) : prI (srtI (qts ls ls.length)) = (n : Int) := by
  rw [prI_srt, h.facs]
  have h1 := Fin.facs_prod (grp_fg g) (iv := Go.Proofs.YtjiapicknkjhmaaGreatDoor.iv n zs e) _ _ (subT_iff.1 (gd_lst (h.gd 0 h.l1)).2) (h.cs g)
  have h2 := foldl_pr (Fin.facs (List.range n) (pset (ls[0]?.getD [])) ((List.range (ls.length - 1)).map fun i => pset (ls[1 + i]?.getD []))) 1
  rw [h1, ← gd_len (h.gd 0 h.l1), h.s0] at h2
  simp at h2
  exact h2.symm
theorem FOK.pos (h : FOK n zs e ls) (g : IsGrp n zs e) : ∀ x, x ∈ srtI (qts ls ls.length) → 1 ≤ x := fun x hx => by
  rw [srtI_mem] at hx
  unfold qts at hx
  obtain ⟨k, hk, rfl⟩ := List.mem_map.1 hx
  have hk := List.mem_range.1 hk
  have g1 := h.gd k (by omega)
  have g2 := h.gd (k + 1) (by omega)
  have hm := h.mx (k + 1) (by omega) (by omega)
  have hm : Mxg n zs e (pset (ls[k]?.getD [])) (pset (ls[k + 1]?.getD [])) := by simpa using hm
  rw [gd_len g1, gd_len g2]
  have h1 := Fin.sz_le hm.sub
  have h2 := Fin.sz_pos (grp_fg g) hm.sg
  have h3 := Nat.div_pos h1 h2
  show (1 : Int) ≤ ((_ : Nat) : Int)
  omega
end
end Go.Proofs.YtjiapicknkjhmaaGreatDoor

namespace Go.Proofs.YtjiapicknkjhmaaGreatDoor
open Go Go.RowKit

section
variable {n e : Nat} {zs : List Int} {q : Nat → Bool}
/-- What has all its commutators in a set. -/
def upq (n : Nat) (zs : List Int) (e : Nat) (q : Nat → Bool) (a : Nat) : Bool := (List.range n).all fun b => q (Fin.cm (tm n zs) (iv n zs e) a b)
theorem upq_iff {a : Nat} : upq n zs e q a = true ↔ ∀ b, b < n → q (Fin.cm (tm n zs) (iv n zs e) a b) = true := by
  unfold upq
  rw [List.all_eq_true]
  exact ⟨fun h b hb => h b (List.mem_range.2 hb), fun h b hb => h b (List.mem_range.1 hb)⟩
theorem Nsg.one_alone (g : IsGrp n zs e) : Nsg n zs e (fun a => decide (a = e)) := by
  have F := grp_fg g
  have V := grp_iv g
  refine ⟨subT_iff.1 (one_sub g), fun x a hx ha h => ?_⟩
  have h : x = e := of_decide_eq_true h
  subst h
  exact decide_eq_true (Fin.cj_one F V ha)
theorem cm_mul (g : IsGrp n zs e) {a b c : Nat} (ha : a < n) (hb : b < n) (hc : c < n) : Fin.cm (tm n zs) (iv n zs e) (tm n zs a b) c = tm n zs (Fin.cj (tm n zs) (iv n zs e) (Fin.cm (tm n zs) (iv n zs e) a c) b) (Fin.cm (tm n zs) (iv n zs e) b c) := by
  have F := grp_fg g
  have V := grp_iv g
  have ha' := List.mem_range.2 ha
  have hb' := List.mem_range.2 hb
  have hc' := List.mem_range.2 hc
  have hab := F.cl _ _ ha' hb'
  have m1 := Fin.cm_mem F V ha' hc'
  have m2 := Fin.cm_mem F V hb' hc'
  have m3 := Fin.cj_mem F V m1 hb'
  have m4 := Fin.cm_mem F V hab hc'
  have hcab := F.cl _ _ hc' hab
  refine F.can hcab m4 (F.cl _ _ m3 m2) ?_
  rw [Fin.cm_eq F V hab hc']
  -- c a b (b^-1 [a,c] b) [b,c] = c a [a,c] b [b,c] = a c b [b,c] = a b c
  rw [← F.ass _ _ _ hcab m3 m2, ← F.ass _ _ _ hc' ha' hb', F.ass _ _ _ (F.cl _ _ hc' ha') hb' m3, Fin.cj_eq F V m1 hb', ← F.ass _ _ _ (F.cl _ _ hc' ha') m1 hb', Fin.cm_eq F V ha' hc', F.ass _ _ _ (F.cl _ _ ha' hc') hb' m2, F.ass _ _ _ ha' hc' (F.cl _ _ hb' m2), ← F.ass _ _ _ hc' hb' m2, Fin.cm_eq F V hb' hc', F.ass _ _ _ ha' hb' hc']
theorem Nsg.up (g : IsGrp n zs e) (h : Nsg n zs e q) : Nsg n zs e (upq n zs e q) := by
  have F := grp_fg g
  have V := grp_iv g
  refine ⟨⟨upq_iff.2 fun b hb => ?_, fun x y hx hy h1 h2 => upq_iff.2 fun b hb => ?_⟩, fun x a hx ha h1 => upq_iff.2 fun b hb => ?_⟩
  · have hb' := List.mem_range.2 hb
    rw [(Fin.cm_one F V F.one hb').2 (by rw [F.left b hb', F.right b hb'])]
    exact h.sg.one
  · have hxl := List.mem_range.1 hx
    have hyl := List.mem_range.1 hy
    have hb' := List.mem_range.2 hb
    rw [cm_mul g hxl hyl hb]
    exact h.sg.mul _ _ (Fin.cj_mem F V (Fin.cm_mem F V hx hb') hy) (Fin.cm_mem F V hy hb') (h.nm _ _ (Fin.cm_mem F V hx hb') hy (upq_iff.1 h1 b hb)) (upq_iff.1 h2 b hb)
  · have hb' := List.mem_range.2 hb
    have hi := (V a ha).1
    have hd := Fin.cj_mem F V hb' hi
    have hxl := List.mem_range.1 hx
    have h2 := Fin.cm_cj F V hx hd ha
    rw [(Fin.cj_back F V hb' ha).2] at h2
    rw [← h2]
    exact h.nm _ _ (Fin.cm_mem F V hx hd) ha (upq_iff.1 h1 _ (List.mem_range.1 hd))
theorem up_has (g : IsGrp n zs e) (h : Nsg n zs e q) {x : Nat} (hx : x < n) (h1 : q x = true) : upq n zs e q x = true := upq_iff.2 fun _ hb => h.cm_in g hx hb h1
end
end Go.Proofs.YtjiapicknkjhmaaGreatDoor

namespace Go.Proofs.YtjiapicknkjhmaaGreatDoor
open Go Go.RowKit

section
variable {n e : Nat} {zs : List Int} {q r : Nat → Bool}
noncomputable abbrev dr (n : Nat) (zs : List Int) (e i : Nat) : Nat → Bool := itr (fun q => cmb n zs e q q) (fun _ => true) i
theorem Nsg.der (g : IsGrp n zs e) (h : Nsg n zs e q) : Nsg n zs e (cmb n zs e q q) := by
  have F := grp_fg g
  have V := grp_iv g
  refine ⟨cmb_sg g, fun x a hx ha h1 => ?_⟩
  have hm := Fin.cj_mem F V hx ha
  refine (cmb_iff n zs e q _ _ (List.mem_range.1 hm)).2 ?_
  refine Fin.gen_nm F V (X := fun y => cmq n zs e (lst n q) (lst n q) y = true) (fun y b hy hb h2 => ?_) x a hx ha ((cmb_iff n zs e q _ x (List.mem_range.1 hx)).1 h1)
  obtain ⟨c, d, hc, hd, h3, h4, rfl⟩ := cmq_iff.1 h2
  have hc' := List.mem_range.2 hc
  have hd' := List.mem_range.2 hd
  rw [Fin.cm_cj F V hc' hd' hb]
  exact cmq_iff.2 ⟨_, _, List.mem_range.1 (Fin.cj_mem F V hc' hb), List.mem_range.1 (Fin.cj_mem F V hd' hb), h.nm c b hc' hb h3, h.nm d b hd' hb h4, rfl⟩
theorem dr_nsg (g : IsGrp n zs e) : ∀ i, Nsg n zs e (dr n zs e i)
  | 0 => Nsg.all
  | i + 1 => (dr_nsg g i).der g
theorem dr_lo (g : IsGrp n zs e) : ∀ i x, x < n → dr n zs e i x = true → lo n zs e i x = true
  | 0, _, _, _ => rfl
  | i + 1, _, hx, h => cmb_in (cmb_sg (q := lo n zs e i) (r := fun _ => true) g) (fun _ _ ha hb h1 _ => cmb_base g ha hb (dr_lo g i _ ha h1) rfl) hx h
theorem cmb_congr {q q' : Nat → Bool} (h : bs q n = bs q' n) : bs (cmb n zs e q r) n = bs (cmb n zs e q' r) n := by
  have h1 : lst n q = lst n q' := lst_congr (bs_inj h)
  refine bs_ext fun a ha => ?_
  have h2 := cmb_iff n zs e q r a ha
  rw [h1] at h2
  rw [Bool.eq_iff_iff]
  exact h2.trans (cmb_iff n zs e q' r a ha).symm
theorem lo_stays {K : Nat} (h : bs (lo n zs e (K + 1)) n = bs (lo n zs e K) n) : ∀ j, bs (lo n zs e (K + j)) n = bs (lo n zs e K) n
  | 0 => rfl
  | j + 1 => (cmb_congr (r := fun _ => true) (lo_stays h j)).trans h
theorem dr_in (g : IsGrp n zs e) {K i k : Nat} (h : bs (lo n zs e (K + 1)) n = bs (lo n zs e K) n) (hk : (K + 1 ≤ i ∧ k = K) ∨ k = i) : ∀ x, x < n → dr n zs e i x = true → lo n zs e k x = true := fun x hx h1 => by
  have h2 := dr_lo g i x hx h1
  rcases hk with ⟨h3, rfl⟩ | rfl
  · have h4 := lo_stays h (i - k)
    rw [show k + (i - k) = i by omega] at h4
    rw [← bs_inj h4 x hx]
    exact h2
  · exact h2
end
/-- The headers of a row of lists. -/
theorem Rws.heads {W : World} {g : Nat} {rs : List (List Int)} (h : Rws W g rs) : ∃ vs : List Value, vs.length = rs.length ∧ (∀ (j : Nat) v, vs[j]? = some v → W.cell? ⟨g, j, none⟩ = some v) ∧ ∀ (j : Nat) v, vs[j]? = some v → ∃ a c, v = .slice a (rs[j]?.getD []).length c ∧ Sl W v (rs[j]?.getD []) := by
  refine ⟨(List.range rs.length).map fun j => (W.cell? ⟨g, j, none⟩).getD undef, by simp, fun j v hj => ?_, fun j v hj => ?_⟩
  all_goals (
    have hjl : j < rs.length := by
      have := (List.getElem?_eq_some_iff.1 hj).1
      simpa using this
    obtain ⟨a, c, h1, h2⟩ := h j hjl
    rw [List.getElem?_map, List.getElem?_range hjl, Option.map_some, h1, Option.getD_some] at hj
    have hj := Option.some.inj hj
    subst hj)
  · exact h1
  · exact ⟨a, c, rfl, h2⟩
/-- Headers of lists of normal subgroups. -/
def Hds (W : World) (n : Nat) (zs : List Int) (e : Nat) (vs : List Value) : Prop := ∀ v, v ∈ vs → ∃ a c q, v = .slice a (lst n q).length c ∧ Sl W (.slice a (lst n q).length c) (li (lst n q)) ∧ Nsg n zs e q
theorem Hds.below {W W' : World} {n e : Nat} {zs : List Int} {vs : List Value} (h : Hds W n zs e vs) (hb : Below W.heap.size W W') : Hds W' n zs e vs := fun v hv => by
  obtain ⟨a, c, q, h1, h2, h3⟩ := h v hv
  exact ⟨a, c, q, h1, h2.below hb, h3⟩
theorem Hds.append {W : World} {n e : Nat} {zs : List Int} {vs us : List Value} (h : Hds W n zs e vs) (k : Hds W n zs e us) : Hds W n zs e (vs ++ us) := fun v hv => by
  rcases List.mem_append.1 hv with h1 | h1
  · exact h v h1
  · exact k v h1
theorem Rws.hds {W : World} {g n e K : Nat} {zs : List Int} {f : Nat → Nat → Bool} (h : Rws W g (sls n f (K + 1))) (hN : ∀ i, i ≤ K → Nsg n zs e (f i)) : ∃ vs : List Value, vs.length = K + 1 ∧ (∀ (j : Nat) v, vs[j]? = some v → W.cell? ((⟨g, 0, none⟩ : Addr).add j) = some v) ∧ (∀ v, v ∈ vs → v.oneCell' = true) ∧ Hds W n zs e vs := by
  obtain ⟨vs, h1, h2, h3⟩ := h.heads
  rw [sls_len] at h1
  have key : ∀ v, v ∈ vs → ∃ a c q, v = .slice a (lst n q).length c ∧ Sl W (.slice a (lst n q).length c) (li (lst n q)) ∧ Nsg n zs e q := fun v hv => by
    obtain ⟨j, hj, rfl⟩ := List.mem_iff_getElem.1 hv
    obtain ⟨a, c, h4, h5⟩ := h3 j _ (List.getElem?_eq_getElem hj)
    rw [sls_at (by omega), li_len] at h4
    rw [sls_at (by omega)] at h5
    rw [h4] at h5
    exact ⟨a, c, _, h4, h5, hN j (by omega)⟩
  refine ⟨vs, h1, fun j v hj => ?_, fun v hv => ?_, key⟩
  · rw [show (⟨g, 0, none⟩ : Addr).add j = ⟨g, j, none⟩ by unfold Addr.add; split <;> simp_all]
    exact h2 j v hj
  · obtain ⟨a, c, q, rfl, _⟩ := key v hv
    simp [Value.oneCell']
/-- What Normal left there. -/
def NR (wr : World) (s11 s12 : Value) (wx : World) : Prop := ∃ b : Nat, s11 = .bool true ∧ s12 = .pointer (some ⟨b, 0, none⟩) ∧ Blk wx b 27 [.int .i64 0, .int .i64 0] ∧ Below wr.heap.size wr wx
theorem nr_new {wr U : World} (hB : Below wr.heap.size wr U) : NR wr (.bool true) (.pointer (some ⟨U.heap.size, 0, none⟩)) (U.alloc (.cells #[.int .i64 0, .int .i64 0] 27)) := ⟨_, rfl, rfl, blk0 _ _, bcat2 hB (balloc _ _)⟩
theorem nr_put {wr U : World} {b : Nat} (hB : Below wr.heap.size wr U) (hp : Blk U b 27 [.int .i64 0, .int .i64 0]) : NR wr (.bool true) (.pointer (some ⟨b, 0, none⟩)) ((U.setCell ⟨b, 0, none⟩ (.int .i64 0)).setCell ⟨b, 1, none⟩ (.int .i64 0)) := by
  obtain ⟨h0, h1, _, _⟩ := hp.two
  rw [store_same h0 h1]
  exact ⟨b, rfl, rfl, hp, hB⟩
end Go.Proofs.YtjiapicknkjhmaaGreatDoor

namespace Go.Proofs.YtjiapicknkjhmaaGreatDoor
variable {n e : Nat} {zs : List Int}

abbrev up (n : Nat) (zs : List Int) (e i : Nat) : Nat → Bool := itr (upq n zs e) (fun a => decide (a = e)) i
theorem up_nsg (g : IsGrp n zs e) : ∀ i, Nsg n zs e (up n zs e i)
  | 0 => Nsg.one_alone g
  | i + 1 => (up_nsg g i).up g
theorem lo_nsg (g : IsGrp n zs e) : ∀ i, Nsg n zs e (lo n zs e i)
  | 0 => Nsg.all
  | i + 1 => (lo_nsg g i).low g
theorem upq_congr {q q' : Nat → Bool} (g : IsGrp n zs e) (h : bs q n = bs q' n) : bs (upq n zs e q) n = bs (upq n zs e q') n := bs_ext fun a ha => by
  rw [Bool.eq_iff_iff, upq_iff, upq_iff]
  exact ⟨fun h1 b hb => by rw [← bs_inj h _ (cm_lt g ha hb)]; exact h1 b hb, fun h1 b hb => by rw [bs_inj h _ (cm_lt g ha hb)]; exact h1 b hb⟩
theorem up_stays (g : IsGrp n zs e) {K : Nat} (h : bs (up n zs e (K + 1)) n = bs (up n zs e K) n) : ∀ j, bs (up n zs e (K + j)) n = bs (up n zs e K) n
  | 0 => rfl
  | j + 1 => (upq_congr g (up_stays g h j)).trans h
theorem dr_stays {K : Nat} (h : bs (dr n zs e (K + 1)) n = bs (dr n zs e K) n) : ∀ j, bs (dr n zs e (K + j)) n = bs (dr n zs e K) n
  | 0 => rfl
  | j + 1 => by
    have h1 := dr_stays h j
    have h2 : bs (cmb n zs e (dr n zs e (K + j)) (dr n zs e (K + j))) n = bs (cmb n zs e (dr n zs e K) (dr n zs e K)) n := by
      have h3 : lst n (dr n zs e (K + j)) = lst n (dr n zs e K) := lst_congr (bs_inj h1)
      refine bs_ext fun a ha => ?_
      have h4 := cmb_iff n zs e (dr n zs e (K + j)) (dr n zs e (K + j)) a ha
      rw [h3] at h4
      rw [Bool.eq_iff_iff]
      exact h4.trans (cmb_iff n zs e _ _ a ha).symm
    exact h2.trans h
/-- Where the upper series has all, the lower one goes down beside it. -/
theorem lo_in_up (g : IsGrp n zs e) {c : Nat} (hc : ∀ x, x < n → up n zs e c x = true) : ∀ i, i ≤ c → ∀ x, x < n → lo n zs e i x = true → up n zs e (c - i) x = true
  | 0, _, x, hx, _ => hc x hx
  | i + 1, hi, x, hx, h => by
    refine cmb_in (up_nsg g (c - (i + 1))).sg (fun a b ha hb h1 _ => ?_) hx h
    have h2 := lo_in_up g hc i (by omega) a ha h1
    rw [show c - i = (c - (i + 1)) + 1 by omega] at h2
    exact upq_iff.1 h2 b hb
/-- Where the lower series has the one alone, the upper one goes up beside it. -/
theorem lo_under (g : IsGrp n zs e) {d : Nat} (hd : ∀ x, x < n → lo n zs e d x = true → x = e) : ∀ i, i ≤ d → ∀ x, x < n → lo n zs e (d - i) x = true → up n zs e i x = true
  | 0, _, x, hx, h => decide_eq_true (hd x hx h)
  | i + 1, hi, x, hx, h => by
    refine upq_iff.2 fun b hb => ?_
    refine lo_under g hd i (by omega) _ (cm_lt g hx hb) ?_
    rw [show d - i = (d - (i + 1)) + 1 by omega]
    exact lo_up g hx hb h
theorem all_len {q : Nat → Bool} : (lst n q).length = n ↔ ∀ x, x < n → q x = true := by
  constructor
  · intro h x hx
    refine Classical.byContradiction fun h1 => ?_
    have h2 := (lst_less (n := n) (p := q) (q := fun _ => true) (fun _ _ _ => rfl)).2 ⟨x, hx, rfl, h1⟩
    have h3 : (lst n fun _ => true).length = n := by
      unfold lst
      rw [List.filter_eq_self.2 (fun _ _ => rfl), List.length_range]
    omega
  · intro h
    have h1 : lst n q = lst n (fun _ => true) := lst_congr fun x hx => h x hx
    rw [h1]
    unfold lst
    rw [List.filter_eq_self.2 (fun _ _ => rfl), List.length_range]
theorem one_len (g : IsGrp n zs e) {q : Nat → Bool} (he : q e = true) : (lst n q).length = 1 ↔ ∀ x, x < n → q x = true → x = e := by
  constructor
  · exact fun h x hx hq => one_only g he h hx hq
  · intro h
    refine Classical.byContradiction fun h1 => ?_
    obtain ⟨x, hx, hne, hq⟩ := two_of g he h1
    exact hne (h x hx hq)
section
variable {KL KU KS : Nat} {I1 I2 I3 : (Nat → Bool) → Prop} {M1 M2 M3 : (Nat → Bool) → Nat}
theorem nil_both (g : IsGrp n zs e) (hl : Stp n (fun q => cmb n zs e q fun _ => true) I1 M1 (fun _ => true) KL) (el : bs (lo n zs e (KL + 1)) n = bs (lo n zs e KL) n)
    (hu : Stp n (upq n zs e) I2 M2 (fun a => decide (a = e)) KU) (eu : bs (up n zs e (KU + 1)) n = bs (up n zs e KU) n) :
    ((lst n (lo n zs e KL)).length = 1 ↔ (lst n (up n zs e KU)).length = n) ∧ ((lst n (lo n zs e KL)).length = 1 → KL = KU) := by
  have A : (lst n (lo n zs e KL)).length = 1 → ∀ x, x < n → up n zs e KL x = true := fun h x hx => lo_under g ((one_len g (lo_nsg g KL).sg.one).1 h) KL (Nat.le_refl _) x hx (by rw [Nat.sub_self]; rfl)
  have B : (lst n (up n zs e KU)).length = n → ∀ x, x < n → lo n zs e KU x = true → x = e := fun h x hx h1 => by
    have h2 := lo_in_up g (all_len.1 h) KU (Nat.le_refl _) x hx h1
    rw [Nat.sub_self] at h2
    exact of_decide_eq_true h2
  -- the upper series does not go on behind all
  have C : ∀ i, (∀ x, x < n → up n zs e i x = true) → KU ≤ i := fun i h => by
    refine Classical.byContradiction fun h1 => hu.go i (by omega) ?_
    refine bs_ext fun x hx => ?_
    have h2 : up n zs e (i + 1) x = true := up_has g (up_nsg g i) hx (h x hx)
    exact h2.trans (h x hx).symm
  have D : ∀ i, (∀ x, x < n → lo n zs e i x = true → x = e) → KL ≤ i := fun i h => by
    refine Classical.byContradiction fun h1 => hl.go i (by omega) ?_
    refine bs_ext fun x hx => ?_
    rw [Bool.eq_iff_iff]
    refine ⟨fun h2 => low_in g (lo_nsg g i) hx h2, fun h2 => ?_⟩
    rw [h x hx h2]
    exact (lo_nsg g (i + 1)).sg.one
  have E : (lst n (lo n zs e KL)).length = 1 → (lst n (up n zs e KU)).length = n := fun h => by
    have h1 := C KL (A h)
    have h2 := up_stays g eu (KL - KU)
    rw [show KU + (KL - KU) = KL by omega] at h2
    exact all_len.2 fun x hx => by rw [← bs_inj h2 x hx]; exact A h x hx
  have G : (lst n (up n zs e KU)).length = n → (lst n (lo n zs e KL)).length = 1 := fun h => by
    have h1 := D KU (B h)
    have h2 := lo_stays el (KU - KL)
    rw [show KL + (KU - KL) = KU by omega] at h2
    exact (one_len g (lo_nsg g KL).sg.one).2 fun x hx h3 => B h x hx (by rw [bs_inj h2 x hx]; exact h3)
  exact ⟨⟨E, G⟩, fun h => Nat.le_antisymm (D KU (B (E h))) (C KL (A h))⟩
theorem nil_sol (g : IsGrp n zs e) (h : (lst n (lo n zs e KL)).length = 1) (el : bs (lo n zs e (KL + 1)) n = bs (lo n zs e KL) n) (es : bs (dr n zs e (KS + 1)) n = bs (dr n zs e KS) n) : (lst n (dr n zs e KS)).length = 1 := by
  refine (one_len g (dr_nsg g KS).sg.one).2 fun x hx h1 => ?_
  have h2 := dr_stays es KL
  have h3 := lo_stays el KS
  have h4 : dr n zs e (KS + KL) x = true := by rw [bs_inj h2 x hx]; exact h1
  have h5 := dr_lo g (KS + KL) x hx h4
  rw [Nat.add_comm KS KL, bs_inj h3 x hx] at h5
  exact (one_len g (lo_nsg g KL).sg.one).1 h x hx h5
end
end Go.Proofs.YtjiapicknkjhmaaGreatDoor

namespace Go.Proofs.YtjiapicknkjhmaaGreatDoor.Fin
variable {l : List Nat} {m : Nat → Nat → Nat} {e : Nat} {iv : Nat → Nat}

/-- Steps by greatest normal subgroups, from the first one to the last. -/
def Chn (l : List Nat) (m : Nat → Nat → Nat) (e : Nat) (iv : Nat → Nat) (p : Nat → Bool) : (Nat → Bool) → List (Nat → Bool) → Prop
  | A, [] => ∀ x, x ∈ l → A x = p x
  | A, B :: t => Mxn l m e iv A B ∧ Chn l m e iv p B t
/-- In each step all commute but for the next one. -/
def Abs (l : List Nat) (m : Nat → Nat → Nat) (iv : Nat → Nat) : (Nat → Bool) → List (Nat → Bool) → Prop
  | _, [] => True
  | A, B :: t => Ab l m iv A B ∧ Abs l m iv B t
theorem chn_in {p : Nat → Bool} : ∀ {A : Nat → Bool} {s : List (Nat → Bool)}, Chn l m e iv p A s → In l p A
  | _, [], h => fun x hx h1 => by rw [h x hx]; exact h1
  | _, _ :: _, h => (chn_in h.2).trans h.1.sub
theorem chn_exists (F : Fg l m e) (V : Iv l m e iv) {p : Nat → Bool} (Sp : SgB l m e p) : ∀ (k : Nat) (A : Nat → Bool), SgB l m e A → In l p A → Nb l m iv p A → sz l A ≤ k → ∃ s, Chn l m e iv p A s
  | 0, A, S, _, _, hk => by have := sz_pos F S; omega
  | k + 1, A, S, hin, hN, hk => by
    rcases Classical.em (In l A p) with h | h
    · exact ⟨[], fun x hx => by rw [Bool.eq_iff_iff]; exact ⟨h x hx, hin x hx⟩⟩
    · obtain ⟨B, hB, hpB⟩ := mxn_over F V (sz l A) p Sp hin hN (Classical.byContradiction fun h1 => h fun x hx hA => Classical.byContradiction fun h2 => h1 ⟨x, hx, hA, h2⟩) (by omega)
      have h1 := sz_lt hB.sub hB.less
      obtain ⟨s, hs⟩ := chn_exists F V Sp k B hB.sg hpB (hN.less hB.sub) (by omega)
      exact ⟨B :: s, hB, hs⟩
theorem chn_abs (F : Fg l m e) (V : Iv l m e iv) {p : Nat → Bool} : ∀ {A : Nat → Bool} {s : List (Nat → Bool)}, Chn l m e iv p A s → Ab l m iv A p → Abs l m iv A s
  | _, [], _, _ => trivial
  | _, _ :: _, h, hab => ⟨fun x y hx hy h1 h2 => chn_in h.2 _ (cm_mem F V hx hy) (hab x y hx hy h1 h2), chn_abs F V h.2 fun x y hx hy h1 h2 => hab x y hx hy (h.1.sub x hx h1) (h.1.sub y hy h2)⟩
theorem chn_cs (F : Fg l m e) (V : Iv l m e iv) {p : Nat → Bool} {t : List (Nat → Bool)} (ht : Cs l m e iv p t) : ∀ {A : Nat → Bool} {s : List (Nat → Bool)}, Chn l m e iv p A s → Cs l m e iv A (s ++ t)
  | _, [], h => Cs.congr F V (fun x hx => (h x hx).symm) ht
  | _, _ :: _, h => ⟨h.1, chn_cs F V ht h.2⟩
theorem Ab.congr (F : Fg l m e) (V : Iv l m e iv) {A A' B B' : Nat → Bool} (h : Ab l m iv A B) (h1 : ∀ x, x ∈ l → A x = A' x) (h2 : ∀ x, x ∈ l → B x = B' x) : Ab l m iv A' B' := fun x y hx hy h3 h4 => by
  rw [← h2 _ (cm_mem F V hx hy)]
  exact h x y hx hy (by rw [h1 x hx]; exact h3) (by rw [h1 y hy]; exact h4)
theorem Abs.congr (F : Fg l m e) (V : Iv l m e iv) {A A' : Nat → Bool} (h1 : ∀ x, x ∈ l → A x = A' x) : ∀ {s : List (Nat → Bool)}, Abs l m iv A s → Abs l m iv A' s
  | [], _ => trivial
  | _ :: _, h => ⟨h.1.congr F V h1 (fun _ _ => rfl), h.2⟩
theorem abs_app (F : Fg l m e) (V : Iv l m e iv) {p : Nat → Bool} {t : List (Nat → Bool)} : ∀ {A : Nat → Bool} {s : List (Nat → Bool)}, Chn l m e iv p A s → (Abs l m iv A (s ++ t) ↔ Abs l m iv A s ∧ Abs l m iv p t)
  | _, [], h => ⟨fun h1 => ⟨trivial, Abs.congr F V h h1⟩, fun h1 => Abs.congr F V (fun x hx => (h x hx).symm) h1.2⟩
  | _, _ :: _, h => ⟨fun h1 => ⟨⟨h1.1, ((abs_app F V h.2).1 h1.2).1⟩, ((abs_app F V h.2).1 h1.2).2⟩, fun h1 => ⟨h1.1.1, (abs_app F V h.2).2 ⟨h1.1.2, h1.2⟩⟩⟩
theorem abs_prime (F : Fg l m e) (V : Iv l m e iv) : ∀ {A : Nat → Bool} {s : List (Nat → Bool)}, SgB l m e A → Cs l m e iv A s → (Abs l m iv A s ↔ ∀ k, k ∈ facs l A s → Prm k)
  | _, [], _, _ => ⟨fun _ k hk => by simp [facs] at hk, fun _ => trivial⟩
  | A, B :: t, S, h => by
    have ih := abs_prime F V h.1.sg h.2
    constructor
    · intro h1 k hk
      rcases List.mem_cons.1 hk with rfl | hk
      · exact prime_of_ab F V S h.1 h1.1
      · exact ih.1 h1.2 k hk
    · intro h1
      exact ⟨ab_of_prime F V S h.1 (h1 _ (List.mem_cons_self ..)), ih.2 fun k hk => h1 k (List.mem_cons_of_mem _ hk)⟩
end Go.Proofs.YtjiapicknkjhmaaGreatDoor.Fin
namespace Go.Proofs.YtjiapicknkjhmaaGreatDoor
open Go Go.RowKit
section
variable {n e : Nat} {zs : List Int}
theorem primeB_of' {q : Nat} (h : 2 ≤ q ∧ ∀ d, d ∣ q → d = 1 ∨ d = q) (h1 : q ≤ 100) : primeB q = true := by
  refine decide_eq_true ⟨by omega, by omega, fun d hd h2 h3 => ?_⟩
  simp at hd h3
  rcases h.2 d (Nat.dvd_of_mod_eq_zero h3) with h4 | h4 <;> omega
theorem dr_down (g : IsGrp n zs e) (i : Nat) : ∀ j x, x < n → dr n zs e (i + j) x = true → dr n zs e i x = true
  | 0, _, _, h => h
  | j + 1, x, hx, h => dr_down g i j x hx (der_in g (dr_nsg g (i + j)).sg hx h)
theorem dr_under (g : IsGrp n zs e) : ∀ (s : List (Nat → Bool)) (A : Nat → Bool) (i : Nat), Fin.Cs (List.range n) (tm n zs) e (iv n zs e) A s → Fin.Abs (List.range n) (tm n zs) (iv n zs e) A s → Fin.In (List.range n) (dr n zs e i) A → ∀ x, x < n → dr n zs e (i + s.length) x = true → x = e
  | [], _, _, h1, _, h3, x, hx, h4 => h1 x (List.mem_range.2 hx) (h3 x (List.mem_range.2 hx) h4)
  | B :: t, A, i, h1, h2, h3, x, hx, h4 => by
    refine dr_under g t B (i + 1) h1.2 h2.2 (fun y hy h5 => ?_) x hx (by rw [show i + 1 + t.length = i + (B :: t).length by simp; omega]; exact h4)
    exact cmb_in h1.1.sg (fun a b ha hb h6 h7 => h2.1 a b (List.mem_range.2 ha) (List.mem_range.2 hb) (h3 a (List.mem_range.2 ha) h6) (h3 b (List.mem_range.2 hb) h7)) (List.mem_range.1 hy) h5
theorem dr_series (g : IsGrp n zs e) {K : Nat} (hK : ∀ x, x < n → dr n zs e K x = true → x = e) : ∀ j, j ≤ K → ∃ s, Fin.Cs (List.range n) (tm n zs) e (iv n zs e) (dr n zs e (K - j)) s ∧ Fin.Abs (List.range n) (tm n zs) (iv n zs e) (dr n zs e (K - j)) s
  | 0, _ => ⟨[], fun x hx h => hK x (List.mem_range.1 hx) h, trivial⟩
  | j + 1, hj => by
    have F := grp_fg g
    have V := grp_iv g
    obtain ⟨t, h1, h2⟩ := dr_series g hK j (by omega)
    have e1 : K - j = K - (j + 1) + 1 := by omega
    rw [e1] at h1 h2
    have N1 := dr_nsg g (K - (j + 1))
    have N2 := dr_nsg g (K - (j + 1) + 1)
    obtain ⟨s, hs⟩ := Fin.chn_exists F V (p := dr n zs e (K - (j + 1) + 1)) N2.sg (Fin.sz (List.range n) (dr n zs e (K - (j + 1)))) _ N1.sg (fun x hx h => der_in g N1.sg (List.mem_range.1 hx) h) (fun x a hx ha h _ => N2.nm x a hx ha h) (Nat.le_refl _)
    have hab : Fin.Ab (List.range n) (tm n zs) (iv n zs e) (dr n zs e (K - (j + 1))) (dr n zs e (K - (j + 1) + 1)) := fun x y hx hy h3 h4 => cmb_base g (List.mem_range.1 hx) (List.mem_range.1 hy) h3 h4
    exact ⟨s ++ t, Fin.chn_cs F V h1 hs, (Fin.abs_app F V hs).2 ⟨Fin.chn_abs F V hs hab, h2⟩⟩
/-- Solvable is just where each step of a composition series commutes. -/
theorem sol_iff (g : IsGrp n zs e) {K : Nat} (es : bs (dr n zs e (K + 1)) n = bs (dr n zs e K) n) {s : List (Nat → Bool)} (hs : Fin.Cs (List.range n) (tm n zs) e (iv n zs e) (fun _ => true) s) :
    (lst n (dr n zs e K)).length = 1 ↔ Fin.Abs (List.range n) (tm n zs) (iv n zs e) (fun _ => true) s := by
  have F := grp_fg g
  have V := grp_iv g
  have hone := Fin.sz_one F (dr_nsg g K).sg
  have hone : (lst n (dr n zs e K)).length = 1 ↔ ∀ x, x ∈ List.range n → dr n zs e K x = true → x = e := hone
  rw [hone]
  constructor
  · intro h
    obtain ⟨t, h1, h2⟩ := dr_series g (fun x hx => h x (List.mem_range.2 hx)) K (Nat.le_refl _)
    rw [Nat.sub_self] at h1 h2
    have hp := (Fin.abs_prime F V (dr_nsg g 0).sg h1).1 h2
    refine (Fin.abs_prime F V (A := fun _ => true) Nsg.all.sg hs).2 fun k hk => hp k ?_
    exact (Fin.jordan F V (N := n) (fun x hx => List.mem_range.1 hx) _ _ _ _ Nsg.all.sg (Nat.le_refl _) hs h1).mem_iff.1 hk
  · intro h x hx h1
    have h2 := dr_under g s (fun _ => true) 0 hs h (fun _ _ _ => rfl)
    rw [Nat.zero_add] at h2
    have hx' := List.mem_range.1 hx
    refine h2 x hx' ?_
    rcases Nat.le_total s.length K with h3 | h3
    · have := dr_down g s.length (K - s.length) x hx'
      rw [show s.length + (K - s.length) = K by omega] at this
      exact this h1
    · have := bs_inj (dr_stays es (s.length - K)) x hx'
      rw [show K + (s.length - K) = s.length by omega] at this
      rw [this]; exact h1
theorem FOK.cs_all {ls : List (List Int)} (h : FOK n zs e ls) (g : IsGrp n zs e) : Fin.Cs (List.range n) (tm n zs) e (iv n zs e) (fun _ => true) ((List.range (ls.length - 1)).map fun i => pset (ls[1 + i]?.getD [])) :=
  Fin.Cs.congr (grp_fg g) (grp_iv g) (fun _ hx => h.top (List.mem_range.1 hx)) (h.cs g)
/-- Solvable is just where all factors are primes. -/
theorem FOK.primes {ls : List (List Int)} (h : FOK n zs e ls) (g : IsGrp n zs e) {K : Nat} (es : bs (dr n zs e (K + 1)) n = bs (dr n zs e K) n) : (lst n (dr n zs e K)).length = 1 ↔ ∀ x, x ∈ srtI (qts ls ls.length) → primeB x = true := by
  have F := grp_fg g
  have V := grp_iv g
  rw [sol_iff g es (h.cs_all g), Fin.abs_prime F V (A := fun _ => true) Nsg.all.sg (h.cs_all g)]
  have e1 : Fin.sz (List.range n) (fun _ => true) = Fin.sz (List.range n) (pset (ls[0]?.getD [])) := Fin.sz_same (fun x hx _ => h.top (List.mem_range.1 hx)) (fun _ _ _ => rfl)
  rw [Fin.facs_congr e1]
  have hq := h.facs
  constructor
  · intro h1 x hx
    rw [srtI_mem, hq] at hx
    obtain ⟨k, hk, rfl⟩ := List.mem_map.1 hx
    refine primeB_of' (h1 k hk) ?_
    have h2 : ((k : Nat) : Int) ∈ qts ls ls.length := by rw [hq]; exact List.mem_map.2 ⟨k, hk, rfl⟩
    unfold qts at h2
    obtain ⟨j, hj, h3⟩ := List.mem_map.1 h2
    have hj := List.mem_range.1 hj
    have h4 := gd_len (h.gd j (by omega))
    have h5 := Nat.div_le_self (ls[j]?.getD []).length (ls[j + 1]?.getD []).length
    have h6 := lst_len n (pset (ls[j]?.getD []))
    have h7 : Fin.sz (List.range n) (pset (ls[j]?.getD [])) = (lst n (pset (ls[j]?.getD []))).length := rfl
    have := g.tab.le
    have h3 : (((ls[j]?.getD []).length / (ls[j + 1]?.getD []).length : Nat) : Int) = (k : Int) := h3
    omega
  · intro h1 k hk
    have h2 := h1 k (by rw [srtI_mem, hq]; exact List.mem_map.2 ⟨k, hk, rfl⟩)
    exact prime_of h2
end
end Go.Proofs.YtjiapicknkjhmaaGreatDoor

namespace Go.Proofs.YtjiapicknkjhmaaGreatDoor
open Go Go.RowKit

set_option maxRecDepth 100000 in
set_option maxHeartbeats 2000000 in
theorem ends_bad (c i : Int) (w : World) (hc : c ≠ 0) :
    Calls Tryz.prog 35 #[.slice none 0 0, .agg #[.int .i64 c, .int .i64 i]] w fun x w' => x = .returned (.tuple #[.bool false, .agg #[.int .i64 c, .int .i64 i]]) ∧ Below w.heap.size w w' := by
  have hcb : (c != 0) = true := by simpa using hc
  obtain ⟨w0, hw0⟩ : ∃ w0, w0 = (w.alloc (.cells #[.int .i64 c, .int .i64 i] 28)).alloc (.cells #[.int .i64 0, .int .i64 0] 28) := ⟨_, rfl⟩
  have hB0 : Below w.heap.size w w0 := by rw [hw0]; exact (balloc w _).alloc (by simp) _
  have hX0 : Blk w0 w.heap.size 28 [.int .i64 c, .int .i64 i] := by rw [hw0]; exact (blk0 (w := w) (T := 28) _ _).alloc _
  have hR0 : Blk w0 (w.heap.size + 1) 28 [.int .i64 0, .int .i64 0] := by
    rw [hw0]
    have := blk0 (w := w.alloc (.cells #[.int .i64 c, .int .i64 i] 28)) (T := 28) (.int .i64 0) (.int .i64 0)
    rwa [World.size_alloc] at this
  obtain ⟨c0, c1, _, _⟩ := hX0.two
  obtain ⟨y0, y1, fy0, fy1⟩ := hR0.two
  rw [hw0] at c0 c1 y0 y1
  go_enter Tryz.func35, Tryz.ntmps35
  go_wp2_with fail
  rw [← hw0]
  rw [← hw0] at c0 c1 y0 y1
  clear hw0
  go_region
  all_goals (
    go_wp2
    obtain ⟨hR6, hB6⟩ := put2 hR0 hB0 (by omega) c i
    have hB7 := bdrew hB6
    have hR7 : Blk ((w0.setCell ⟨w.heap.size + 1, 0, none⟩ (.int .i64 c)).setCell ⟨w.heap.size + 1, 1, none⟩ (.int .i64 i)).drew (w.heap.size + 1) 28 [.int .i64 c, .int .i64 i] := hR6
    generalize ((w0.setCell ⟨w.heap.size + 1, 0, none⟩ (.int .i64 c)).setCell ⟨w.heap.size + 1, 1, none⟩ (.int .i64 i)).drew = W at hR7 hB7 ⊢
    obtain ⟨z0, z1, _, _⟩ := hR7.two
    exact bodyPost_ret (v := .tuple #[.bool false, .agg #[.int .i64 c, .int .i64 i]]) (by simp [results, Tryz.results35, go_sem, z0, z1]) rfl ⟨rfl, hB7⟩)
set_option maxRecDepth 100000 in
set_option maxHeartbeats 2000000 in
theorem ends_good (g K c : Nat) (rs : List (List Int)) (w : World) (hR : Rws w g rs) (hl : rs.length = K + 1) (hK : K ≤ 60) :
    Calls Tryz.prog 35 #[.slice (some ⟨g, 0, none⟩) (K + 1) c, .agg #[.int .i64 0, .int .i64 0]] w fun x w' => x = .returned (.tuple #[.bool (((rs[K]?.getD []).length : Int) == 1), .agg #[.int .i64 0, .int .i64 0]]) ∧ Below w.heap.size w w' := by
  obtain ⟨w0, hw0⟩ : ∃ w0, w0 = (w.alloc (.cells #[.int .i64 0, .int .i64 0] 28)).alloc (.cells #[.int .i64 0, .int .i64 0] 28) := ⟨_, rfl⟩
  have hB0 : Below w.heap.size w w0 := by rw [hw0]; exact (balloc w _).alloc (by simp) _
  have hX0 : Blk w0 w.heap.size 28 [.int .i64 0, .int .i64 0] := by rw [hw0]; exact (blk0 (w := w) (T := 28) _ _).alloc _
  have hR0 : Blk w0 (w.heap.size + 1) 28 [.int .i64 0, .int .i64 0] := by
    rw [hw0]
    have := blk0 (w := w.alloc (.cells #[.int .i64 0, .int .i64 0] 28)) (T := 28) (.int .i64 0) (.int .i64 0)
    rwa [World.size_alloc] at this
  obtain ⟨a, cp, hc, _⟩ := (hR.below hB0) K (by omega)
  obtain ⟨c0, c1, _, _⟩ := hX0.two
  obtain ⟨_, y0, y1, fy0, fy1, s0, s1⟩ := Two.mk' hR0
  have hk1 : (((K + 1 : Nat) : Int) - 1) = (K : Int) := by omega
  generalize (rs[K]?.getD []).length = L9 at *
  rw [hw0] at c0 c1 hc y0 y1 fy0 fy1 s0 s1
  go_enter Tryz.func35, Tryz.ntmps35
  go_wp2
  rw [← hw0] at y0 y1 ⊢
  exact bodyPost_ret (v := .tuple #[.bool ((L9 : Int) == 1), .agg #[.int .i64 0, .int .i64 0]]) (by simp [results, Tryz.results35, go_sem, y0, y1]) rfl ⟨rfl, hB0⟩
/-- How the derived series goes, and whether it ends with the one. -/
def SolA (n : Nat) (zs : List Int) (e : Nat) (b : Bool) : Prop := ∃ K : Nat, Stp n (fun q => cmb n zs e q q) (fun q => Fin.Sg (List.range n) (tm n zs) e (fun a => q a = true)) (fun q => (lst n q).length) (fun _ => true) K ∧ bs (itr (fun q => cmb n zs e q q) (fun _ => true) (K + 1)) n = bs (itr (fun q => cmb n zs e q q) (fun _ => true) K) n ∧ (b = true ↔ (lst n (itr (fun q => cmb n zs e q q) (fun _ => true) K)).length = 1)
set_option maxRecDepth 100000 in
set_option maxHeartbeats 2000000 in
theorem sol_good (n e : Nat) (v : Value) (zs : List Int) (w : World) (hv : Sl w v zs) (hg : IsGrp n zs e) (hT : Tab w) :
    Calls Tryz.prog 12 #[.agg #[.int .i64 n, v]] w fun x w' => ∃ b, x = .returned (.tuple #[.bool b, .agg #[.int .i64 0, .int .i64 0]]) ∧ SolA n zs e b ∧ Below w.heap.size w w' := by
  obtain ⟨w0, BG⟩ := Beg.new w n v
  obtain ⟨c0, c1, _, _⟩ := BG.box.two
  have HCK := hide (sder_good n e v zs w0 (hv.below BG.bel) hg (hT.below BG.bel))
  rw [BG.eq] at c0 c1
  go_enter Tryz.func12, Tryz.ntmps12
  go_wp2_with fail
  rw [← BG.eq]
  refine HCK.out.mono ?_
  rintro x w1 ⟨y, rfl, ⟨K, g, c, rfl, hst, hend, hR, _⟩, hb1⟩
  clear c0 c1
  have hm := hst.meas
  have hS := sls_at (n := n) (f := itr (fun q => cmb n zs e q q) (fun _ => true)) (k := K + 1) (i := K) (by omega)
  have HN := hide (show SolA n zs e (((lst n (itr (fun q => cmb n zs e q q) (fun _ => true) K)).length : Int) == 1) from ⟨K, hst, hend, by rw [beq_iff_eq]; omega⟩)
  have HEN := hide (ends_good g K c _ w1 hR (sls_len _ _ _) (by omega))
  rw [hS, li_len] at HEN
  clear hst hend hS
  generalize (((lst n (itr (fun q => cmb n zs e q q) (fun _ => true) K)).length : Int) == 1) = b at *
  go_wp2_with fail
  refine HEN.out.mono ?_
  rintro x w2 ⟨rfl, hb2⟩
  have hbb := bcat2 hb1 hb2
  have hR1 := blk_below BG.res hbb
  have hBw := bcat BG.bel hbb BG.bel.size
  obtain ⟨_, y0, y1, fy0, fy1, s0, s1⟩ := Two.mk' hR1
  go_wp2
  exact bodyPost_ret (v := .tuple #[.bool b, .agg #[.int .i64 0, .int .i64 0]]) (by simp [results, Tryz.results12, go_sem, y0, y1]) rfl ⟨b, rfl, HN.out, hBw⟩
set_option maxRecDepth 100000 in
set_option maxHeartbeats 2000000 in
theorem sol_bad (N : Int) (v : Value) (zs : List Int) (w : World) (hv : Sl w v zs) (hc : (gfault N zs).1 ≠ 0) :
    Calls Tryz.prog 12 #[.agg #[.int .i64 N, v]] w fun x w' => x = .returned (.tuple #[.bool false, .agg #[.int .i64 (gfault N zs).1, .int .i64 (gfault N zs).2]]) ∧ Below w.heap.size w w' := by
  obtain ⟨w0, BG⟩ := Beg.new w N v
  obtain ⟨c0, c1, _, _⟩ := BG.box.two
  have hck := sder_bad N v zs w0 (hv.below BG.bel) hc
  obtain ⟨c, i, hci⟩ : ∃ c i, gfault N zs = (c, i) := ⟨_, _, rfl⟩
  rw [hci] at hck hc ⊢
  simp only at hc hck
  have HCK := hide hck
  clear hck hci
  rw [BG.eq] at c0 c1
  go_enter Tryz.func12, Tryz.ntmps12
  go_wp2_with fail
  rw [← BG.eq]
  refine HCK.out.mono ?_
  rintro x w1 ⟨rfl, hb1⟩
  clear c0 c1
  go_wp2_with fail
  refine (ends_bad c i w1 hc).mono ?_
  rintro x w2 ⟨rfl, hb2⟩
  have hbb := bcat2 hb1 hb2
  have hR1 := blk_below BG.res hbb
  have hBw := bcat BG.bel hbb BG.bel.size
  obtain ⟨y0, y1, fy0, fy1⟩ := hR1.two
  obtain ⟨hR6, hB6⟩ := put2 hR1 hBw (by omega) c i
  obtain ⟨z0, z1, _, _⟩ := hR6.two
  go_wp2
  exact bodyPost_ret (v := .tuple #[.bool false, .agg #[.int .i64 c, .int .i64 i]]) (by simp [results, Tryz.results12, go_sem, z0, z1]) rfl ⟨rfl, hB6⟩
end Go.Proofs.YtjiapicknkjhmaaGreatDoor

namespace Go.Proofs.YtjiapicknkjhmaaGreatDoor
open Go Go.RowKit

section
variable {n e : Nat} {zs : List Int} {q : Nat → Bool}
theorem part_cm (g : IsGrp n zs e) (hs : subT n zs e q = true) {i j : Nat} (hi : i < (lst n q).length) (hj : j < (lst n q).length) :
    thing (lst n q) (Fin.cm (tm (lst n q).length (mkT (lst n q).length (parF n zs (lst n q)))) (iv (lst n q).length (mkT (lst n q).length (parF n zs (lst n q))) (place (lst n q) e)) i j) = Fin.cm (tm n zs) (iv n zs e) (thing (lst n q) i) (thing (lst n q) j) := by
  have G := part_grp g hs
  have F := grp_fg g
  have V := grp_iv g
  have hc := cm_lt G hi hj
  have hti := List.mem_range.2 (thing_lt hi)
  have htj := List.mem_range.2 (thing_lt hj)
  refine F.can (F.cl _ _ htj hti) (List.mem_range.2 (thing_lt hc)) (Fin.cm_mem F V hti htj) ?_
  rw [Fin.cm_eq F V hti htj, ← part_mul g hs hj hi, ← part_mul g hs (tm_lt G.tab hj hi) hc, Fin.cm_eq (grp_fg G) (grp_iv G) (List.mem_range.2 hi) (List.mem_range.2 hj), part_mul g hs hi hj]
theorem part_cs (g : IsGrp n zs e) (hs : subT n zs e q = true) : ∀ {A : Nat → Bool} {s : List (Nat → Bool)}, Fin.Cs (List.range (lst n q).length) (tm (lst n q).length (mkT (lst n q).length (parF n zs (lst n q)))) (place (lst n q) e) (iv (lst n q).length (mkT (lst n q).length (parF n zs (lst n q))) (place (lst n q) e)) A s →
    Fin.Cs (List.range n) (tm n zs) e (iv n zs e) (upt n q A) (s.map (upt n q))
  | A, [], h => fun x hx h1 => by
    obtain ⟨i, hi, h2, rfl⟩ := (upt_iff (List.mem_range.1 hx)).1 h1
    rw [h i (List.mem_range.2 hi) h2]
    exact (part_e g hs).2
  | _, _ :: _, h => ⟨part_up g hs h.1, part_cs g hs h.2⟩
theorem part_abs (g : IsGrp n zs e) (hs : subT n zs e q = true) : ∀ {A : Nat → Bool} {s : List (Nat → Bool)}, Fin.Abs (List.range (lst n q).length) (tm (lst n q).length (mkT (lst n q).length (parF n zs (lst n q)))) (iv (lst n q).length (mkT (lst n q).length (parF n zs (lst n q))) (place (lst n q) e)) A s ↔
    Fin.Abs (List.range n) (tm n zs) (iv n zs e) (upt n q A) (s.map (upt n q))
  | _, [] => Iff.rfl
  | A, B :: t => by
    have G := part_grp g hs
    refine and_congr ?_ (part_abs g hs)
    constructor
    · intro h x y hx hy h1 h2
      obtain ⟨i, hi, h3, rfl⟩ := (upt_iff (List.mem_range.1 hx)).1 h1
      obtain ⟨j, hj, h4, rfl⟩ := (upt_iff (List.mem_range.1 hy)).1 h2
      rw [← part_cm g hs hi hj, upt_at (cm_lt G hi hj)]
      exact h i j (List.mem_range.2 hi) (List.mem_range.2 hj) h3 h4
    · intro h i j hi hj h1 h2
      have hi := List.mem_range.1 hi
      have hj := List.mem_range.1 hj
      have h3 := h _ _ (List.mem_range.2 (thing_lt hi)) (List.mem_range.2 (thing_lt hj)) (by rw [upt_at hi]; exact h1) (by rw [upt_at hj]; exact h2)
      rwa [← part_cm g hs hi hj, upt_at (cm_lt G hi hj)] at h3
end
section
variable {n e M c : Nat} {zs TQ : List Int} {φ : Nat → Nat} {q : Nat → Bool}
theorem onto_cm (g : IsGrp n zs e) (h : IsGrp M TQ c) (H : IsHom n zs M TQ φ) {x y : Nat} (hx : x < n) (hy : y < n) : φ (Fin.cm (tm n zs) (iv n zs e) x y) = Fin.cm (tm M TQ) (iv M TQ c) (φ x) (φ y) := by
  have F := grp_fg h
  have V := grp_iv h
  have hc := cm_lt g hx hy
  have h1 := List.mem_range.2 (H.lt x hx)
  have h2 := List.mem_range.2 (H.lt y hy)
  refine F.can (F.cl _ _ h2 h1) (List.mem_range.2 (H.lt _ hc)) (Fin.cm_mem F V h1 h2) ?_
  rw [Fin.cm_eq F V h1 h2, ← H.mul y x hy hx, ← H.mul _ _ (tm_lt g.tab hy hx) hc, Fin.cm_eq (grp_fg g) (grp_iv g) (List.mem_range.2 hx) (List.mem_range.2 hy), H.mul x y hx hy]
theorem onto_chn (g : IsGrp n zs e) (h : IsGrp M TQ c) (O : IsOnto n zs M TQ φ) (hk : ∀ a, a < n → (φ a = c ↔ q a = true)) : ∀ {A : Nat → Bool} {s : List (Nat → Bool)}, A c = true → Fin.Cs (List.range M) (tm M TQ) c (iv M TQ c) A s → Fin.Chn (List.range n) (tm n zs) e (iv n zs e) q (fun x => A (φ x)) (s.map fun B x => B (φ x))
  | A, [], hA, h1 => fun x hx => by
    have hx := List.mem_range.1 hx
    rw [Bool.eq_iff_iff, ← hk x hx]
    exact ⟨fun h2 => h1 _ (List.mem_range.2 (O.hom.lt x hx)) h2, fun h2 => by show A (φ x) = true; rw [h2]; exact hA⟩
  | _, _ :: _, _, h1 => ⟨onto_up g h O h1.1, onto_chn g h O hk h1.1.sg.one h1.2⟩
theorem onto_abs (g : IsGrp n zs e) (h : IsGrp M TQ c) (O : IsOnto n zs M TQ φ) : ∀ {A : Nat → Bool} {s : List (Nat → Bool)}, Fin.Abs (List.range M) (tm M TQ) (iv M TQ c) A s ↔ Fin.Abs (List.range n) (tm n zs) (iv n zs e) (fun x => A (φ x)) (s.map fun B x => B (φ x))
  | _, [] => Iff.rfl
  | A, B :: t => by
    refine and_congr ?_ (onto_abs g h O)
    constructor
    · intro h1 x y hx hy h2 h3
      have hx := List.mem_range.1 hx
      have hy := List.mem_range.1 hy
      show B (φ _) = true
      rw [onto_cm g h O.hom hx hy]
      exact h1 _ _ (List.mem_range.2 (O.hom.lt x hx)) (List.mem_range.2 (O.hom.lt y hy)) h2 h3
    · intro h1 a b ha hb h2 h3
      obtain ⟨x, hx, rfl⟩ := O.hits a (List.mem_range.1 ha)
      obtain ⟨y, hy, rfl⟩ := O.hits b (List.mem_range.1 hb)
      rw [← onto_cm g h O.hom hx hy]
      exact h1 x y (List.mem_range.2 hx) (List.mem_range.2 hy) h2 h3
/-- A group by a normal subgroup: composition series of both make one of it. -/
theorem sol_split (g : IsGrp n zs e) (hs : subT n zs e q = true) (Q : IsGrp M TQ c) (O : IsOnto n zs M TQ φ) (hk : ∀ a, a < n → (φ a = c ↔ q a = true)) {ls xs ys : List (List Int)} (hl : FOK n zs e ls)
    (hx : FOK (lst n q).length (mkT (lst n q).length (parF n zs (lst n q))) (place (lst n q) e) xs) (hy : FOK M TQ c ys) {K KH KQ : Nat} (es : bs (dr n zs e (K + 1)) n = bs (dr n zs e K) n)
    (eh : bs (dr (lst n q).length (mkT (lst n q).length (parF n zs (lst n q))) (place (lst n q) e) (KH + 1)) (lst n q).length = bs (dr (lst n q).length (mkT (lst n q).length (parF n zs (lst n q))) (place (lst n q) e) KH) (lst n q).length)
    (eq : bs (dr M TQ c (KQ + 1)) M = bs (dr M TQ c KQ) M) :
    ((lst n (dr n zs e K)).length = 1 ↔ (lst (lst n q).length (dr (lst n q).length (mkT (lst n q).length (parF n zs (lst n q))) (place (lst n q) e) KH)).length = 1 ∧ (lst M (dr M TQ c KQ)).length = 1) ∧ xs.length + ys.length = ls.length + 1 := by
  have F := grp_fg g
  have V := grp_iv g
  have G := part_grp g hs
  have c1 := part_cs g hs (hx.cs_all G)
  have e1 : ∀ x, x ∈ List.range n → upt n q (fun _ => true) x = q x := fun x _ => by unfold upt; rw [Bool.and_true]
  have c2 := Fin.Cs.congr F V e1 c1
  have ch := onto_chn g Q O hk (A := fun _ => true) rfl (hy.cs_all Q)
  have c3 : Fin.Cs (List.range n) (tm n zs) e (iv n zs e) (fun _ => true) _ := Fin.chn_cs F V c2 ch
  constructor
  · rw [sol_iff g es c3, sol_iff G eh (hx.cs_all G), sol_iff Q eq (hy.cs_all Q), Fin.abs_app F V ch, part_abs g hs, onto_abs g Q O]
    constructor
    · rintro ⟨h1, h2⟩
      exact ⟨Fin.Abs.congr F V (fun x hx => (e1 x hx).symm) h2, h1⟩
    · rintro ⟨h1, h2⟩
      exact ⟨h2, Fin.Abs.congr F V e1 h1⟩
  · have hp := (Fin.jordan F V (N := n) (fun x hx => List.mem_range.1 hx) _ _ _ _ Nsg.all.sg (Nat.le_refl _) (hl.cs_all g) c3).length_eq
    rw [Fin.facs_len, Fin.facs_len] at hp
    simp at hp
    have := hl.l1
    have := hx.l1
    have := hy.l1
    omega
end
end Go.Proofs.YtjiapicknkjhmaaGreatDoor

namespace Go.Proofs.YtjiapicknkjhmaaGreatDoor
open Go Go.RowKit

section
variable {n e K : Nat} {zs : List Int}
theorem half_of {A B : Nat → Bool} (g : IsGrp n zs e) (hA : Fin.SgB (List.range n) (tm n zs) e A) (h : Mxg n zs e A B) : 2 * (lst n B).length ≤ (lst n A).length := by
  obtain ⟨c, hc⟩ := Fin.sz_dvd (grp_fg g) h.sg hA h.sub
  have h1 := Fin.sz_lt h.sub h.less
  have h2 : (lst n A).length = (lst n B).length * c := hc
  have h3 : (lst n B).length < (lst n A).length := h1
  rcases Nat.lt_or_ge c 2 with h4 | h4
  · have : c = 0 ∨ c = 1 := by omega
    rcases this with rfl | rfl
    · omega
    · omega
  · have := Nat.mul_le_mul_left (lst n B).length h4
    omega
theorem comp_fok (g : IsGrp n zs e) (hst : Stp n (grt n zs e) (fun q => Fin.Sg (List.range n) (tm n zs) e (fun a => q a = true)) (fun q => (lst n q).length) (fun _ => true) K) (hend : bs (itr (grt n zs e) (fun _ => true) (K + 1)) n = bs (itr (grt n zs e) (fun _ => true) K) n) :
    FOK n zs e (sls n (itr (grt n zs e) (fun _ => true)) (K + 1)) := by
  have hmx : ∀ k, k < K → Mxg n zs e (itr (grt n zs e) (fun _ => true) k) (itr (grt n zs e) (fun _ => true) (k + 1)) := fun k hk => comp_mxn g (hst.inv k (by omega)) (hst.go k hk)
  have hhalf : ∀ k, k ≤ K → 2 ^ k * (lst n (itr (grt n zs e) (fun _ => true) k)).length ≤ n := by
    intro k
    induction k with
    | zero =>
      intro _
      have := lst_len n (itr (grt n zs e) (fun _ => true) 0)
      omega
    | succ k ih =>
      intro hk
      have h1 := ih (by omega)
      have h2 := half_of g (hst.inv k (by omega)) (hmx k (by omega))
      have h3 := Nat.mul_le_mul_left (2 ^ k) h2
      rw [Nat.pow_succ, Nat.mul_assoc]
      omega
  have hone : ∀ x, x < n → itr (grt n zs e) (fun _ => true) K x = true → x = e := fun x hx h1 => Classical.byContradiction fun h2 => by
    have h3 := grt_top g (hst.inv K (Nat.le_refl _)) ⟨x, hx, h1, h2⟩
    obtain ⟨y, hy, h4, h5⟩ := h3.less
    exact h5 (by
      have := bs_inj hend y (List.mem_range.1 hy)
      rw [show itr (grt n zs e) (fun _ => true) (K + 1) = grt n zs e (itr (grt n zs e) (fun _ => true) K) from rfl] at this
      rw [this]; exact h4)
  have hK : K ≤ 5 := by
    rcases Nat.lt_or_ge K 6 with h | h
    · omega
    · exfalso
      have h1 := hhalf K (Nat.le_refl _)
      have h2 : 1 ≤ (lst n (itr (grt n zs e) (fun _ => true) K)).length := Fin.sz_pos (grp_fg g) (hst.inv K (Nat.le_refl _))
      have h3 : 2 ^ 6 ≤ 2 ^ K := Nat.pow_le_pow_right (by omega) h
      have h4 := Nat.mul_le_mul h3 h2
      have := g.tab.le
      omega
  have hat : ∀ k, k < K + 1 → (sls n (itr (grt n zs e) (fun _ => true)) (K + 1))[k]?.getD [] = li (lst n (itr (grt n zs e) (fun _ => true) k)) := fun k hk => sls_at hk
  refine ⟨by rw [sls_len]; omega, by rw [sls_len]; omega, ?_, ?_, fun k hk => ?_, fun t h1 h2 => ?_⟩
  · rw [hat 0 (by omega), li_len]
    show (lst n fun _ => true).length = n
    rw [all_lst, List.length_range]
  · rw [sls_len, Nat.add_sub_cancel, hat K (by omega), li_len]
    exact (Fin.sz_one (grp_fg g) (hst.inv K (Nat.le_refl _))).2 (fun x hx h => hone x (List.mem_range.1 hx) h)
  · rw [sls_len] at hk
    rw [hat k hk]
    unfold gdB
    rw [Bool.and_eq_true, decide_eq_true_eq]
    exact ⟨lst_fault n _, (subT_congr g fun a ha => pset_lst ha).trans (subT_iff.2 (hst.inv k (by omega)))⟩
  · rw [sls_len] at h2
    rw [hat (t - 1) (by omega), hat t h2]
    have h3 := hmx (t - 1) (by omega)
    rw [Nat.sub_add_cancel h1] at h3
    exact h3.congr g (bs_ext fun a ha => (pset_lst ha).symm) (bs_ext fun a ha => (pset_lst ha).symm)
end
/-- What Factors answers. -/
theorem factors_grp (n e : Nat) (v lv : Value) (zs : List Int) (ls : List (List Int)) (w : World) (hv : Sl w v zs) (hg : IsGrp n zs e) (hT : Tab w) (hL : SlL w lv ls) :
    Calls Tryz.prog 6 #[.agg #[.int .i64 n, v], lv] w fun x w' => ∃ (y : Value) (c i : Int), x = .returned (.tuple #[y, .agg #[.int .i64 c, .int .i64 i]]) ∧ ((c ≠ 0 ∧ ¬ FOK n zs e ls) ∨ (c = 0 ∧ i = 0 ∧ FOK n zs e ls ∧ Row w' w.heap.size y (srtI (qts ls ls.length)))) ∧ Below w.heap.size w w' := by
  obtain ⟨v1, v2, v3, rfl⟩ := hv.isSlice
  have HC0 := hide (fun W (h : Below w.heap.size w W) => check_any n (.slice v1 v2 v3) zs W (hv.below h))
  rw [gfault_of_grp hg] at HC0
  by_cases hm : ls.length < 1 ∨ 10 < ls.length
  · refine (fac_chk n (.slice v1 v2 v3) lv w 2 0 (by decide) HC0 (hide fun W h => checked_many n (.slice v1 v2 v3) lv ls W (hL.below h) hm)).mono ?_
    rintro x w' ⟨rfl, hb⟩
    exact ⟨_, 2, 0, rfl, .inl ⟨by decide, fun h => by have := h.l1; have := h.l2; omega⟩, hb⟩
  · have l1 : 1 ≤ ls.length := by omega
    have l2 : ls.length ≤ 10 := by omega
    by_cases hs : (ls[0]?.getD []).length ≠ n ∨ (ls[ls.length - 1]?.getD []).length ≠ 1
    · refine (fac_chk n (.slice v1 v2 v3) lv w 8 0 (by decide) HC0 (hide fun W h => checked_size n (.slice v1 v2 v3) lv ls W (hL.below h) l1 l2 hs)).mono ?_
      rintro x w' ⟨rfl, hb⟩
      exact ⟨_, 8, 0, rfl, .inl ⟨by decide, fun h => by
        rcases hs with h1 | h1
        · exact h1 h.s0
        · exact h1 h.s1⟩, hb⟩
    · have s0 : (ls[0]?.getD []).length = n := Classical.byContradiction fun h => hs (.inl h)
      have s1 : (ls[ls.length - 1]?.getD []).length = 1 := Classical.byContradiction fun h => hs (.inr h)
      rcases least_cases ls.length (fun i => !gdB n zs e (ls[i]?.getD [])) with ⟨k, hk, h1, h2, _⟩ | ⟨h1, _⟩
      · have h1 : gdB n zs e (ls[k]?.getD []) = false := by simpa using h1
        have h2 : ∀ t, t < k → gdB n zs e (ls[t]?.getD []) = true := fun t ht => by simpa using h2 t ht
        refine (fac_chk n (.slice v1 v2 v3) lv w 5 k (by decide) HC0 (hide fun W h => checked_go n e (.slice v1 v2 v3) lv zs ls W (hv.below h) hg (hT.below h) (hL.below h) l1 l2 s0 s1 5 k (.inr ⟨k, hk, h2, h1, rfl, rfl⟩))).mono ?_
        rintro x w' ⟨rfl, hb⟩
        exact ⟨_, 5, k, rfl, .inl ⟨by decide, fun h => by have := h.gd k hk; rw [h1] at this; cases this⟩, hb⟩
      · have h1 : ∀ t, t < ls.length → gdB n zs e (ls[t]?.getD []) = true := fun t ht => by simpa using h1 t ht
        have hn := hg.tab.le
        refine (fac_go n v1 v2 v3 ls (fun t => stpc n zs e (pset (ls[t - 1]?.getD [])) (pset (ls[t]?.getD []))) lv w hL l1 l2 (fun t ht => ?_) HC0 (hide fun W h => checked_go n e (.slice v1 v2 v3) lv zs ls W (hv.below h) hg (hT.below h) (hL.below h) l1 l2 s0 s1 0 0 (.inl ⟨h1, rfl, rfl⟩)) (hide fun W t a b h ht1 ht2 ha hb => ?_)).mono ?_
        · have h3 := h1 t ht
          have h4 := gd_len h3
          have h5 := Fin.sz_pos (grp_fg hg) (subT_iff.1 (gd_lst h3).2)
          have h6 := lst_len n (pset (ls[t]?.getD []))
          have h7 : Fin.sz (List.range n) (pset (ls[t]?.getD [])) = (lst n (pset (ls[t]?.getD []))).length := rfl
          omega
        · have g1 := gd_lst (h1 (t - 1) (by omega))
          have g2 := gd_lst (h1 t ht2)
          exact cstep_ok n e (.slice v1 v2 v3) a b zs (pset (ls[t - 1]?.getD [])) (pset (ls[t]?.getD [])) W (hv.below h) (by rw [← g1.1]; exact ha) (by rw [← g2.1]; exact hb) hg (hT.below h) g1.2 g2.2
        · rintro x w' ⟨y, c, i, rfl, hc | ⟨h3, rfl, rfl, hr⟩, hb⟩
          · obtain ⟨t, ht1, ht2, _, h4, rfl, rfl, rfl⟩ := hc
            exact ⟨_, _, _, rfl, .inl ⟨h4, fun h => h4 (stpc_zero.2 (h.mx t ht1 ht2))⟩, hb⟩
          · exact ⟨y, 0, 0, rfl, .inr ⟨rfl, rfl, ⟨l1, l2, s0, s1, h1, fun t ht1 ht2 => stpc_zero.1 (h3 t ht1 ht2)⟩, hr⟩, hb⟩
end Go.Proofs.YtjiapicknkjhmaaGreatDoor

namespace Go.Proofs.YtjiapicknkjhmaaGreatDoor
open Go Go.RowKit

set_option maxRecDepth 100000 in
set_option maxHeartbeats 4000000 in
theorem ssol_bad (N : Int) (v1 : Option Addr) (v2 v3 : Nat) (u : Value) (zs : List Int) (w : World) (hv : Sl w (.slice v1 v2 v3) zs) (hT : Tab w) (hc : (gfault N zs).1 ≠ 0) :
    Calls Tryz.prog 4 #[.agg #[.int .i64 N, .slice v1 v2 v3], u] w fun e w' => e = .returned (.bool true) ∧ Below w.heap.size w w' := by
  have HSO := hide (fun W (h : Below w.heap.size w W) => sol_bad N (.slice v1 v2 v3) zs W (hv.below h) hc)
  have HCO := hide (fun W (h : Below w.heap.size w W) => scmp_bad N (.slice v1 v2 v3) zs W (hv.below h) hc)
  have HGF := hide (fun W (h : Below w.heap.size w W) => groupFault_any N (.slice v1 v2 v3) zs W (hv.below h))
  generalize gfault N zs = pf at *
  obtain ⟨c, i⟩ := pf
  simp only at hc HSO HCO HGF
  have hcb : (c != 0) = true := by simpa using hc
  have hfld : ∀ W, Sem.run Tryz.prog (Instr.field 28 (.agg #[.int .i64 c, .int .i64 i]) 0) W = .ok (.int .i64 c) W := fun W => by kernel_rfl
  have hB0 : Below w.heap.size w (w.alloc (.cells #[.int .i64 N, .slice v1 v2 v3] 24)) := balloc w _
  have hX0 : BoxG (w.alloc (.cells #[.int .i64 N, .slice v1 v2 v3] 24)) w.heap.size N (.slice v1 v2 v3) := blk0 (w := w) (T := 24) _ _
  go_enter Tryz.func4, Tryz.ntmps4
  go_wp2_with fail
  generalize w.alloc (.cells #[.int .i64 N, .slice v1 v2 v3] 24) = w0 at *
  refine (seriesBegun_any _ (hT.below hB0)).mono ?_
  rintro x w1 ⟨rfl, hb1⟩
  have hB1 := bcat2 hB0 hb1
  have hX1 := blk_below hX0 hb1
  obtain ⟨c0, c1, _, _⟩ := hX1.two
  go_wp2_with fail
  clear c0 c1
  refine (HSO.out _ hB1).mono ?_
  rintro x w2 ⟨rfl, hb2⟩
  obtain ⟨w3, hw3⟩ : ∃ w3, w3 = w2.alloc (.cells #[.int .i64 c, .int .i64 i] 28) := ⟨_, rfl⟩
  have hb3 : Below w2.heap.size w2 w3 := by rw [hw3]; exact balloc w2 _
  have hF3 : Blk w3 w2.heap.size 28 [.int .i64 c, .int .i64 i] := by rw [hw3]; exact blk0 _ _
  have hB3 := bcat2 hB1 (bcat2 hb2 hb3)
  have hX3 := blk_below hX1 (bcat2 hb2 hb3)
  obtain ⟨c0, c1, _, _⟩ := hX3.two
  rw [hw3] at c0 c1
  go_wp2_with fail
  rw [← hw3]
  clear c0 c1 hw3
  refine (HCO.out _ hB3).mono ?_
  rintro x w4 ⟨rfl, hb4⟩
  obtain ⟨w5, hw5⟩ : ∃ w5, w5 = w4.alloc (.cells #[.int .i64 c, .int .i64 i] 28) := ⟨_, rfl⟩
  have hb5 : Below w4.heap.size w4 w5 := by rw [hw5]; exact balloc w4 _
  have hB5 := bcat2 hB3 (bcat2 hb4 hb5)
  have hX5 := blk_below hX3 (bcat2 hb4 hb5)
  have hF5 := blk_below hF3 (bcat2 hb4 hb5)
  obtain ⟨c0, c1, _, _⟩ := hX5.two
  obtain ⟨f0, f1, _, _⟩ := hF5.two
  rw [hw5] at c0 c1 f0 f1
  go_wp2_with fail
  rw [← hw5]
  clear c0 c1 f0 f1 hw5
  refine (HGF.out _ hB5).mono ?_
  rintro x w6 ⟨rfl, hb6⟩
  go_wp2
  go_ret
  exact ⟨rfl, bcat2 hB5 hb6⟩
/-- What lies there while the law goes on. -/
structure SS (w : World) (n : Nat) (v : Value) (b6 b8 b10 : Nat) (W : World) : Prop where
  bel : Below w.heap.size w W
  x : BoxG W w.heap.size n v
  f6 : Blk W b6 28 [.int .i64 0, .int .i64 0]
  f8 : Blk W b8 28 [.int .i64 0, .int .i64 0]
  f10 : Blk W b10 28 [.int .i64 0, .int .i64 0]
theorem SS.below {w : World} {n : Nat} {v : Value} {b6 b8 b10 : Nat} {W W' : World} (h : SS w n v b6 b8 b10 W) (hb : Below W.heap.size W W') : SS w n v b6 b8 b10 W' :=
  ⟨bcat2 h.bel hb, blk_below h.x hb, blk_below h.f6 hb, blk_below h.f8 hb, blk_below h.f10 hb⟩
set_option maxRecDepth 100000 in
set_option maxHeartbeats 16000000 in
theorem ssol_walk (n KH M : Nat) (NL TH TQ : List Int) (fo fi : Int) (SA SB SC : Bool → Prop) (FA FB FC : List (List Int) → Prop) (v1 : Option Addr) (v2 v3 : Nat) (u1 : Option Addr) (u2 u3 : Nat) (w : World) (hT : Tab w)
    (HSA : Hid (∀ W, Below w.heap.size w W → Calls Tryz.prog 12 #[.agg #[.int .i64 n, .slice v1 v2 v3]] W fun x W' => ∃ b, x = .returned (.tuple #[.bool b, .agg #[.int .i64 0, .int .i64 0]]) ∧ SA b ∧ Below W.heap.size W W'))
    (HCA : Hid (∀ W, Below w.heap.size w W → Calls Tryz.prog 13 #[.agg #[.int .i64 n, .slice v1 v2 v3]] W fun x W' => ∃ y1 y3 ls, x = .returned (.tuple #[.slice y1 ls.length y3, .agg #[.int .i64 0, .int .i64 0]]) ∧ FA ls ∧ ls.length ≤ 10 ∧ SlL W' (.slice y1 ls.length y3) ls ∧ Below W.heap.size W W'))
    (HFA : Hid (∀ W y ls, Below w.heap.size w W → FA ls → SlL W y ls → Calls Tryz.prog 6 #[.agg #[.int .i64 n, .slice v1 v2 v3], y] W fun x W' => ∃ a cap, x = .returned (.tuple #[.slice a (srtI (qts ls ls.length)).length cap, .agg #[.int .i64 0, .int .i64 0]]) ∧ Sl W' (.slice a (srtI (qts ls ls.length)).length cap) (srtI (qts ls ls.length)) ∧ Below W.heap.size W W'))
    (HPR : Hid (∀ b ls, SA b → FA ls → (b = true ↔ ∀ x, x ∈ srtI (qts ls ls.length) → primeB x = true)))
    (HCL : Hid (∀ W, Below w.heap.size w W → Calls Tryz.prog 16 #[.agg #[.int .i64 n, .slice v1 v2 v3], .slice u1 u2 u3] W fun x W' => ∃ r1 r2 r3, x = .returned (.tuple #[.slice r1 r2 r3, .agg #[.int .i64 fo, .int .i64 fi]]) ∧ (fo = 0 → Sl W' (.slice r1 r2 r3) NL) ∧ Below W.heap.size W W'))
    (hfo : fo = 0 → fi = 0)
    (HPA : Hid (∀ W a b c, fo = 0 → Below w.heap.size w W → Sl W (.slice a b c) NL → Calls Tryz.prog 17 #[.agg #[.int .i64 n, .slice v1 v2 v3], .slice a b c] W fun x W' => ∃ t1 t2 t3, x = .returned (.tuple #[.agg #[.int .i64 KH, .slice t1 t2 t3], .agg #[.int .i64 0, .int .i64 0]]) ∧ Sl W' (.slice t1 t2 t3) TH ∧ Below W.heap.size W W'))
    (HQU : Hid (∀ W a b c, fo = 0 → Below w.heap.size w W → Sl W (.slice a b c) NL → Calls Tryz.prog 18 #[.agg #[.int .i64 n, .slice v1 v2 v3], .slice a b c] W fun x W' => ∃ t1 t2 t3 s1 s2 s3, x = .returned (.tuple #[.agg #[.int .i64 M, .slice t1 t2 t3], .slice s1 s2 s3, .agg #[.int .i64 0, .int .i64 0]]) ∧ Sl W' (.slice t1 t2 t3) TQ ∧ Below W.heap.size W W'))
    (HSB : Hid (∀ W a b c, fo = 0 → Below w.heap.size w W → Sl W (.slice a b c) TH → Calls Tryz.prog 12 #[.agg #[.int .i64 KH, .slice a b c]] W fun x W' => ∃ b, x = .returned (.tuple #[.bool b, .agg #[.int .i64 0, .int .i64 0]]) ∧ SB b ∧ Below W.heap.size W W'))
    (HSC : Hid (∀ W a b c, fo = 0 → Below w.heap.size w W → Sl W (.slice a b c) TQ → Calls Tryz.prog 12 #[.agg #[.int .i64 M, .slice a b c]] W fun x W' => ∃ b, x = .returned (.tuple #[.bool b, .agg #[.int .i64 0, .int .i64 0]]) ∧ SC b ∧ Below W.heap.size W W'))
    (HCB : Hid (∀ W a b c, fo = 0 → Below w.heap.size w W → Sl W (.slice a b c) TH → Calls Tryz.prog 13 #[.agg #[.int .i64 KH, .slice a b c]] W fun x W' => ∃ y1 y3 ls, x = .returned (.tuple #[.slice y1 ls.length y3, .agg #[.int .i64 0, .int .i64 0]]) ∧ FB ls ∧ ls.length ≤ 10 ∧ Below W.heap.size W W'))
    (HCC : Hid (∀ W a b c, fo = 0 → Below w.heap.size w W → Sl W (.slice a b c) TQ → Calls Tryz.prog 13 #[.agg #[.int .i64 M, .slice a b c]] W fun x W' => ∃ y1 y3 ls, x = .returned (.tuple #[.slice y1 ls.length y3, .agg #[.int .i64 0, .int .i64 0]]) ∧ FC ls ∧ ls.length ≤ 10 ∧ Below W.heap.size W W'))
    (HFIN : Hid (∀ b b1 b2 ls xs ys, fo = 0 → SA b → SB b1 → SC b2 → FA ls → FB xs → FC ys → b = (b1 && b2) ∧ xs.length + ys.length = ls.length + 1)) :
    Calls Tryz.prog 4 #[.agg #[.int .i64 n, .slice v1 v2 v3], .slice u1 u2 u3] w fun e w' => e = .returned (.bool true) ∧ Below w.heap.size w w' := by
  have hB0 : Below w.heap.size w (w.alloc (.cells #[.int .i64 n, .slice v1 v2 v3] 24)) := balloc w _
  have hX0 : BoxG (w.alloc (.cells #[.int .i64 n, .slice v1 v2 v3] 24)) w.heap.size n (.slice v1 v2 v3) := blk0 (w := w) (T := 24) _ _
  have HFO := hide hfo
  clear hfo
  go_enter Tryz.func4, Tryz.ntmps4
  go_wp2_with fail
  generalize w.alloc (.cells #[.int .i64 n, .slice v1 v2 v3] 24) = w0 at *
  refine (seriesBegun_any _ (hT.below hB0)).mono ?_
  rintro x w1 ⟨rfl, hb1⟩
  have hB1 := bcat2 hB0 hb1
  have hX1 := blk_below hX0 hb1
  obtain ⟨c0, c1, _, _⟩ := hX1.two
  go_wp2_with fail
  clear c0 c1
  refine (HSA.out _ hB1).mono ?_
  rintro x w2 ⟨sb, rfl, hsa, hb2⟩
  have HA := hide hsa
  obtain ⟨w3, hw3⟩ : ∃ w3, w3 = w2.alloc (.cells #[.int .i64 0, .int .i64 0] 28) := ⟨_, rfl⟩
  have hb3 : Below w2.heap.size w2 w3 := by rw [hw3]; exact balloc w2 _
  have hF3 : Blk w3 w2.heap.size 28 [.int .i64 0, .int .i64 0] := by rw [hw3]; exact blk0 _ _
  have hB3 := bcat2 hB1 (bcat2 hb2 hb3)
  have hX3 := blk_below hX1 (bcat2 hb2 hb3)
  have hq2 : w.heap.size ≤ w2.heap.size := Nat.le_trans hB1.size hb2.size
  clear hsa hX0 hX1 hB0 HSA
  obtain ⟨c0, c1, _, _⟩ := hX3.two
  rw [hw3] at c0 c1
  go_wp2_with fail
  rw [← hw3]
  clear c0 c1 hw3
  refine (HCA.out _ hB3).mono ?_
  rintro x w4 ⟨y1, y3, ls, rfl, hfa, hll, hsl4, hb4⟩
  have HB := hide hfa
  obtain ⟨w5, hw5⟩ : ∃ w5, w5 = w4.alloc (.cells #[.int .i64 0, .int .i64 0] 28) := ⟨_, rfl⟩
  have hb5 : Below w4.heap.size w4 w5 := by rw [hw5]; exact balloc w4 _
  have hF5 : Blk w5 w4.heap.size 28 [.int .i64 0, .int .i64 0] := by rw [hw5]; exact blk0 _ _
  have hB5 := bcat2 hB3 (bcat2 hb4 hb5)
  have hX5 := blk_below hX3 (bcat2 hb4 hb5)
  have hG5 := blk_below hF3 (bcat2 hb4 hb5)
  have hsl5 := hsl4.below hb5
  clear hfa HCA
  obtain ⟨c0, c1, _, _⟩ := hX5.two
  obtain ⟨f0, f1, _, _⟩ := hG5.two
  obtain ⟨g0, g1, _, _⟩ := hF5.two
  rw [hw5] at c0 c1 f0 f1 g0 g1
  go_wp2_with fail
  rw [← hw5]
  clear c0 c1 f0 f1 g0 g1 hw5
  refine (HFA.out _ _ _ hB5 HB.out hsl5).mono ?_
  rintro x w6 ⟨a, cap, rfl, hsA, hb6⟩
  obtain ⟨w7, hw7⟩ : ∃ w7, w7 = w6.alloc (.cells #[.int .i64 0, .int .i64 0] 28) := ⟨_, rfl⟩
  have hb7 : Below w6.heap.size w6 w7 := by rw [hw7]; exact balloc w6 _
  have hF7 : Blk w7 w6.heap.size 28 [.int .i64 0, .int .i64 0] := by rw [hw7]; exact blk0 _ _
  have ss7 : SS w n (.slice v1 v2 v3) w2.heap.size w4.heap.size w6.heap.size w7 := ⟨bcat2 hB5 (bcat2 hb6 hb7), blk_below hX5 (bcat2 hb6 hb7), blk_below hG5 (bcat2 hb6 hb7), blk_below hF5 (bcat2 hb6 hb7), hF7⟩
  have hq6 : w.heap.size ≤ w6.heap.size := Nat.le_trans hB5.size hb6.size
  have hsA7 := hsA.below hb7
  have HPRS := hide (HPR.out sb ls HA.out HB.out)
  have hll2 : (srtI (qts ls ls.length)).length ≤ 10 := by rw [srtI_len, qts_len]; omega
  obtain ⟨SL, hSL⟩ : ∃ SL, SL = srtI (qts ls ls.length) := ⟨_, rfl⟩
  rw [← hSL] at hsA7 HPRS hll2 ⊢
  clear hSL hsA hF7 hF5 hG5 hX5 hX3 hF3 HFA HPR hsl5 hsl4
  obtain ⟨pa, pcap, pb, po, hpe, hpr, hpp, _, _⟩ := id hsA7
  injection hpe with hpe1 hpe2 hpe3
  subst hpe1 hpe3
  have HRD := hide hpr
  clear hpr hpe2
  obtain ⟨f0, f1, _, _⟩ := ss7.f10.two
  rw [hw7] at f0 f1
  go_wp2_with fail
  rw [← hw7]
  clear f0 f1 hw7
  go_loopw [11, 12] (fun bv iv wr => ∃ (j : Nat) (b : Bool), j ≤ SL.length ∧ iv = .int .i64 j ∧ bv = .bool b ∧ (b = true ↔ ∀ x, x ∈ SL.take j → primeB x = true) ∧ Below w7.heap.size w7 wr) (fun _ iv _ => SL.length - (intOf iv).toNat)
  case atStart => exact ⟨0, true, Nat.zero_le _, rfl, rfl, by simp, Below.refl _ _⟩
  case round =>
    obtain ⟨j, b, hj, rfl, rfl, hbi, hb⟩ := hrel
    have HBI := hide hbi
    clear hbi
    by_cases hlt : j < SL.length
    · have hji : (j : Int) < (SL.length : Int) := by omega
      have hcj := (HRD.out.below hb hpp).cell j hlt
      obtain rfl := HRD.out.at_ (by omega)
      have HTK := hide (show SL.take (j + 1) = SL.take j ++ [SL[j]?.getD 0] by rw [List.take_succ_eq_append_getElem hlt]; simp [hlt])
      generalize hx9 : SL[j]?.getD 0 = x9 at *
      clear hx9
      cases b with
      | true =>
        have HLP := hide (lprime_ok x9 wr)
        generalize hp9 : primeB x9 = p9 at *
        have HP9 := hide hp9
        clear hp9
        go_wp2_with fail
        refine HLP.out.mono ?_
        rintro x w9 ⟨rfl, hb9⟩
        go_wp2
        go_roundw
        case rel => exact ⟨j + 1, p9, by omega, by go_num, rfl, by
          rw [HTK.out]
          constructor
          · intro h x hx
            rcases List.mem_append.1 hx with hx | hx
            · exact HBI.out.1 (by simp) x hx
            · rw [List.mem_singleton.1 hx, HP9.out]; exact h
          · intro h
            rw [← HP9.out]
            exact h x9 (by simp), bcat2 hb hb9⟩
        case measure => simp [intOf]; omega
      | false =>
        go_wp2
        go_roundw
        case rel => exact ⟨j + 1, false, by omega, by go_num, rfl, by
          constructor
          · intro h; cases h
          · intro h
            exact HBI.out.2 fun x hx => h x (by rw [HTK.out]; exact List.mem_append_left _ hx), hb⟩
        case measure => simp [intOf]; omega
    · have hji : ¬ (j : Int) < (SL.length : Int) := by omega
      have hbs : b = sb := by
        rw [Bool.eq_iff_iff, HBI.out, HPRS.out, show j = SL.length by omega, List.take_length]
      subst hbs
      have ss8 := ss7.below hb
      obtain ⟨c0, c1, _, _⟩ := ss8.x.two
      have hbb : (b != b) = false := by cases b <;> rfl
      clear HRD HBI HPRS
      go_wp2_with fail
      clear c0 c1
      refine (HCL.out _ ss8.bel).mono ?_
      rintro x w9 ⟨r1, r2, r3, rfl, hnl, hb9⟩
      have HNL := hide hnl
      clear hnl
      have ss9 := ss8.below hb9
      clear ss8 ss7
      by_cases hz : fo = 0
      · have HZ := hide hz
        have HI := hide (HFO.out hz)
        have hnl := HNL.out hz
        rw [hz, HI.out]
        obtain ⟨f0, f1, _, _⟩ := ss9.f10.two
        obtain ⟨c0, c1, _, _⟩ := ss9.x.two
        have hst := store_same f0 f1
        clear hz HNL
        go_wp2_with fail
        clear f0 f1 c0 c1 hst
        refine (HPA.out _ _ _ _ HZ.out ss9.bel hnl).mono ?_
        rintro x wa ⟨t1, t2, t3, rfl, hth, hba⟩
        obtain ⟨wb, hwb⟩ : ∃ wb, wb = wa.alloc (.cells #[.int .i64 KH, .slice t1 t2 t3] 24) := ⟨_, rfl⟩
        have hbb9 : Below wa.heap.size wa wb := by rw [hwb]; exact balloc wa _
        have hYb : BoxG wb wa.heap.size KH (.slice t1 t2 t3) := by rw [hwb]; exact blk0 (w := wa) (T := 24) _ _
        have ssb := ss9.below (bcat2 hba hbb9)
        have hnlb := hnl.below (bcat2 hba hbb9)
        have hthb := hth.below hbb9
        obtain ⟨c0, c1, _, _⟩ := ssb.x.two
        obtain ⟨f0, f1, f2, f3⟩ := ssb.f6.two
        have hst := store_same f0 f1
        rw [hwb] at c0 c1 f0 f1 f2 f3 hst
        go_wp2_with fail
        rw [← hwb]
        clear c0 c1 f0 f1 f2 f3 hst hwb ss9 hnl hth hba hbb9
        refine (HQU.out _ _ _ _ HZ.out ssb.bel hnlb).mono ?_
        rintro x wc ⟨q1, q2, q3, k1, k2, k3, rfl, htq, hbc⟩
        obtain ⟨wd, hwd⟩ : ∃ wd, wd = wc.alloc (.cells #[.int .i64 M, .slice q1 q2 q3] 24) := ⟨_, rfl⟩
        have hbd : Below wc.heap.size wc wd := by rw [hwd]; exact balloc wc _
        have hZd : BoxG wd wc.heap.size M (.slice q1 q2 q3) := by rw [hwd]; exact blk0 (w := wc) (T := 24) _ _
        have hcd := bcat2 hbc hbd
        have ssd := ssb.below hcd
        have hYd := blk_below hYb hcd
        have hthd := hthb.below hcd
        have htqd := htq.below hbd
        obtain ⟨c0, c1, _, _⟩ := hYd.two
        obtain ⟨f0, f1, f2, f3⟩ := ssd.f6.two
        obtain ⟨g0, g1, g2, g3⟩ := ssd.f8.two
        have hst := store_same g0 g1
        rw [hwd] at c0 c1 f0 f1 f2 f3 g0 g1 g2 g3 hst
        go_wp2_with fail
        rw [← hwd]
        clear c0 c1 f0 f1 f2 f3 g0 g1 g2 g3 hst hwd ssb hYb hthb htq hnlb hbc hbd
        refine (HSB.out _ _ _ _ HZ.out ssd.bel hthd).mono ?_
        rintro x we ⟨b1, rfl, hb1s, hbe⟩
        have HB1 := hide hb1s
        have sse := ssd.below hbe
        have hYe := blk_below hYd hbe
        have hZe := blk_below hZd hbe
        have hthe := hthd.below hbe
        have htqe := htqd.below hbe
        obtain ⟨f0, f1, f2, f3⟩ := sse.f6.two
        obtain ⟨c0, c1, _, _⟩ := hZe.two
        have hst := store_same f0 f1
        clear ssd hYd hZd hthd htqd hb1s
        go_wp2_with fail
        clear f0 f1 f2 f3 c0 c1 hst
        refine (HSC.out _ _ _ _ HZ.out sse.bel htqe).mono ?_
        rintro x wf ⟨b2, rfl, hb2s, hbf⟩
        have HB2 := hide hb2s
        have ssf := sse.below hbf
        have hYf := blk_below hYe hbf
        have hZf := blk_below hZe hbf
        have hthf := hthe.below hbf
        have htqf := htqe.below hbf
        obtain ⟨f0, f1, f2, f3⟩ := ssf.f8.two
        obtain ⟨c0, c1, _, _⟩ := hYf.two
        have hst := store_same f0 f1
        clear sse hYe hZe hthe htqe hb2s
        go_wp2_with fail
        clear f0 f1 f2 f3 c0 c1 hst
        refine (HCB.out _ _ _ _ HZ.out ssf.bel hthf).mono ?_
        rintro x wg ⟨z1, z3, xs, rfl, hxs, hxl, hbg⟩
        have HXS := hide hxs
        obtain ⟨wh, hwh⟩ : ∃ wh, wh = wg.alloc (.cells #[.int .i64 0, .int .i64 0] 28) := ⟨_, rfl⟩
        have hbh : Below wg.heap.size wg wh := by rw [hwh]; exact balloc wg _
        have hFh : Blk wh wg.heap.size 28 [.int .i64 0, .int .i64 0] := by rw [hwh]; exact blk0 _ _
        have hgh := bcat2 hbg hbh
        have ssh := ssf.below hgh
        have hZh := blk_below hZf hgh
        have htqh := htqf.below hgh
        obtain ⟨c0, c1, _, _⟩ := hZh.two
        rw [hwh] at c0 c1
        clear ssf hYf hZf hthf htqf hxs
        go_wp2_with fail
        rw [← hwh]
        clear c0 c1 hwh
        refine (HCC.out _ _ _ _ HZ.out ssh.bel htqh).mono ?_
        rintro x wi ⟨o1, o3, ys, rfl, hys, hyl, hbi⟩
        have HFI := hide (HFIN.out b b1 b2 ls xs ys HZ.out HA.out HB1.out HB2.out HB.out HXS.out hys)
        obtain ⟨wj, hwj⟩ : ∃ wj, wj = wi.alloc (.cells #[.int .i64 0, .int .i64 0] 28) := ⟨_, rfl⟩
        have hbj : Below wi.heap.size wi wj := by rw [hwj]; exact balloc wi _
        have hFj : Blk wj wi.heap.size 28 [.int .i64 0, .int .i64 0] := by rw [hwj]; exact blk0 _ _
        have hij := bcat2 hbi hbj
        have ssj := ssh.below hij
        have hHj := blk_below hFh hij
        obtain ⟨f0, f1, _, _⟩ := ssj.f6.two
        obtain ⟨g0, g1, _, _⟩ := ssj.f8.two
        obtain ⟨h0, h1, _, _⟩ := hHj.two
        obtain ⟨i0, i1, _, _⟩ := hFj.two
        rw [hwj] at f0 f1 g0 g1 h0 h1 i0 i1
        have hlen : IntKind.i64.wrap ((xs.length : Int) + (ys.length : Int)) = (xs.length : Int) + (ys.length : Int) := by rw [IntKind.wrap_i64]; omega
        have hsub : IntKind.i64.wrap ((xs.length : Int) + (ys.length : Int) - 1) = (ls.length : Int) := by
          have := HFI.out.2
          rw [IntKind.wrap_i64]; omega
        have hsub2 : (xs.length : Int) + (ys.length : Int) - 1 = (ls.length : Int) := by
          have := HFI.out.2
          omega
        have hbe9 : b = (b1 && b2) := HFI.out.1
        subst hbe9
        cases b1 <;> cases b2 <;>
        · go_wp2
          rw [← hwj]
          go_ret
          exact ⟨by simp, ssj.bel⟩
      · have hzb : (fo != 0) = true := by simpa using hz
        obtain ⟨f0, f1, f2, f3⟩ := ss9.f10.two
        have hBz : Below w.heap.size w ((w9.setCell ⟨w6.heap.size, 0, none⟩ (.int .i64 fo)).setCell ⟨w6.heap.size, 1, none⟩ (.int .i64 fi)) := bSet (bSet ss9.bel hq6) hq6
        have hF8 := (ss9.f10.set 0 (.int .i64 fo)).set 1 (.int .i64 fi)
        obtain ⟨g0, g1, _, _⟩ := hF8.two
        go_wp2
        go_ret
        exact ⟨rfl, hBz⟩
end Go.Proofs.YtjiapicknkjhmaaGreatDoor

namespace Go.Proofs.YtjiapicknkjhmaaGreatDoor
open Go Go.RowKit

theorem row_slice' {W : World} {B : Nat} {v : Value} {zs : List Int} (h : Row W B v zs) (h0 : 0 < W.heap.size) : ∃ a cap, v = .slice a zs.length cap ∧ Sl W (.slice a zs.length cap) zs := by
  have hs := row_sl h h0
  obtain ⟨a, cap, rfl⟩ := own_slice h
  exact ⟨a, cap, rfl, hs⟩
theorem comp_lists (n e : Nat) (v : Value) (zs : List Int) (w : World) (hv : Sl w v zs) (hg : IsGrp n zs e) (hT : Tab w) :
    Calls Tryz.prog 13 #[.agg #[.int .i64 n, v]] w fun x W' => ∃ y1 y3 ls, x = .returned (.tuple #[.slice y1 ls.length y3, .agg #[.int .i64 0, .int .i64 0]]) ∧ FOK n zs e ls ∧ ls.length ≤ 10 ∧ SlL W' (.slice y1 ls.length y3) ls ∧ Below w.heap.size w W' := by
  refine (scmp_good n e v zs w hv hg hT).mono ?_
  rintro x W' ⟨y, rfl, ⟨K, g, c, rfl, hst, hend, _, hsl⟩, hb⟩
  have hF := comp_fok hg hst hend
  have hl := sls_len n (itr (grt n zs e) (fun _ => true)) (K + 1)
  refine ⟨some ⟨g, 0, none⟩, c, sls n (itr (grt n zs e) (fun _ => true)) (K + 1), by rw [hl], hF, hF.l2, by rw [hl]; exact hsl, hb⟩
theorem ssol_good (n e : Nat) (v1 : Option Addr) (v2 v3 : Nat) (u1 : Option Addr) (u2 u3 : Nat) (zs us : List Int) (w : World) (hv : Sl w (.slice v1 v2 v3) zs) (hu : Sl w (.slice u1 u2 u3) us) (hg : IsGrp n zs e) (hT : Tab w) :
    Calls Tryz.prog 4 #[.agg #[.int .i64 n, .slice v1 v2 v3], .slice u1 u2 u3] w fun e w' => e = .returned (.bool true) ∧ Below w.heap.size w w' := by
  obtain ⟨c, hc⟩ := mkd_ex' n zs e (cloq n zs e (pset us) n)
  have hN := clo_nsg hg hc
  have hcs : subT n zs e c = true := subT_iff.2 hN.sg
  have G := part_grp hg hcs
  have hNq : nrmq n zs e c = true := (nrmq_nm hg).2 fun x a hx ha h => hN.nm x a (List.mem_range.2 hx) (List.mem_range.2 ha) h
  have Q := quo_grp hg hcs hNq
  have O := quo_onto hg hcs hNq
  refine ssol_walk n (lst n c).length (fsts n (rgtq n zs (lst n c)) n).length (li (lst n c)) (mkT (lst n c).length (parF n zs (lst n c))) (mkT (fsts n (rgtq n zs (lst n c)) n).length (quoF n zs (rgtq n zs (lst n c)))) (lfault n us).1 (lfault n us).2
    (SolA n zs e) (SolA (lst n c).length (mkT (lst n c).length (parF n zs (lst n c))) (place (lst n c) e)) (SolA (fsts n (rgtq n zs (lst n c)) n).length (mkT (fsts n (rgtq n zs (lst n c)) n).length (quoF n zs (rgtq n zs (lst n c)))) (num n (rgtq n zs (lst n c)) e))
    (FOK n zs e) (FOK (lst n c).length (mkT (lst n c).length (parF n zs (lst n c))) (place (lst n c) e)) (FOK (fsts n (rgtq n zs (lst n c)) n).length (mkT (fsts n (rgtq n zs (lst n c)) n).length (quoF n zs (rgtq n zs (lst n c)))) (num n (rgtq n zs (lst n c)) e))
    v1 v2 v3 u1 u2 u3 w hT (hide fun W h => sol_good n e (.slice v1 v2 v3) zs W (hv.below h) hg (hT.below h)) (hide fun W h => comp_lists n e (.slice v1 v2 v3) zs W (hv.below h) hg (hT.below h)) (hide fun W y ls h hF hL => ?_) (hide fun b ls hS hF => ?_) (hide fun W h => ?_) (fun h => by rw [(lfault_zero h).1])
    (hide fun W a b k _ h hs => part_of_lst n e (.slice v1 v2 v3) (.slice a b k) zs c W (hv.below h) hg hs (hT.below h) hcs) (hide fun W a b k _ h hs => ?_) (hide fun W a b k _ h hs => sol_good _ _ (.slice a b k) _ W hs G (hT.below h)) (hide fun W a b k _ h hs => sol_good _ _ (.slice a b k) _ W hs Q (hT.below h))
    (hide fun W a b k _ h hs => ?_) (hide fun W a b k _ h hs => ?_) (hide fun b b1 b2 ls xs ys _ h1 h2 h3 h4 h5 h6 => ?_)
  · refine (factors_grp n e (.slice v1 v2 v3) y zs ls W (hv.below h) hg (hT.below h) hL).mono ?_
    rintro x W' ⟨y', k, i, rfl, ⟨_, h1⟩ | ⟨rfl, rfl, h1, h2⟩, hb⟩
    · exact absurd hF h1
    · obtain ⟨a, cap, rfl, hs⟩ := row_slice' h2 (Nat.lt_of_lt_of_le (hT.below h).lt hb.size)
      exact ⟨a, cap, rfl, hs, hb⟩
  · obtain ⟨K, _, hend, hbK⟩ := hS
    rw [hbK]
    exact hF.primes hg hend
  · by_cases hl : (lfault n us).1 = 0
    · obtain ⟨h0, _, _⟩ := lfault_zero hl
      refine (clo_good n e (.slice v1 v2 v3) (.slice u1 u2 u3) zs us c W (hv.below h) hg (hu.below h) (hT.below h) h0 hc).mono ?_
      rintro x W' ⟨r, rfl, hr, hb⟩
      have hs := hr.sl
      obtain ⟨a, l, k, rfl⟩ := hs.isSlice
      exact ⟨a, l, k, by rw [h0], fun _ => hs, hb⟩
    · have h1 := clo_bad n (.slice v1 v2 v3) (.slice u1 u2 u3) zs us W (hv.below h) (hu.below h) (by rw [sfault_l hg]; exact hl)
      rw [sfault_l hg] at h1
      refine h1.mono ?_
      rintro x W' ⟨rfl, hb⟩
      exact ⟨none, 0, 0, rfl, fun h9 => absurd h9 hl, hb⟩
  · refine (quo_lst n e (.slice v1 v2 v3) (.slice a b k) zs c W (hv.below h) hg hs (hT.below h) hcs hNq).mono ?_
    rintro x W' ⟨r1, r2, r3, s1, s2, s3, rfl, hr, hb⟩
    exact ⟨r1, r2, r3, s1, s2, s3, rfl, hr.sl, hb⟩
  · refine (comp_lists _ _ (.slice a b k) _ W hs G (hT.below h)).mono ?_
    rintro x W' ⟨y1, y3, ls, rfl, h1, h2, _, hb⟩
    exact ⟨y1, y3, ls, rfl, h1, h2, hb⟩
  · refine (comp_lists _ _ (.slice a b k) _ W hs Q (hT.below h)).mono ?_
    rintro x W' ⟨y1, y3, ls, rfl, h1, h2, _, hb⟩
    exact ⟨y1, y3, ls, rfl, h1, h2, hb⟩
  · obtain ⟨K, _, e1, k1⟩ := h1
    obtain ⟨KH, _, e2, k2⟩ := h2
    obtain ⟨KQ, _, e3, k3⟩ := h3
    obtain ⟨s1, s2⟩ := sol_split hg hcs Q O (fun a ha => quo_ker hg hcs ha) h4 h5 h6 e1 e2 e3
    refine ⟨?_, s2⟩
    rw [Bool.eq_iff_iff, Bool.and_eq_true, k1, k2, k3]
    exact s1
theorem ssol_law (N : Int) (v u : Value) (zs us : List Int) (w : World) (hv : Sl w v zs) (hu : Sl w u us) (hT : Tab w) :
    Calls Tryz.prog 4 #[.agg #[.int .i64 N, v], u] w fun e w' => e = .returned (.bool true) ∧ Below w.heap.size w w' := by
  obtain ⟨v1, v2, v3, rfl⟩ := hv.isSlice
  obtain ⟨u1, u2, u3, rfl⟩ := hu.isSlice
  by_cases hc : (gfault N zs).1 = 0
  · obtain ⟨n, e, rfl, hg, _⟩ := gfault_grp hc
    exact ssol_good n e v1 v2 v3 u1 u2 u3 zs us w hv hu hg hT
  · exact ssol_bad N v1 v2 v3 _ zs w hv hT hc
end Go.Proofs.YtjiapicknkjhmaaGreatDoor

namespace Go.Proofs.YtjiapicknkjhmaaGreatDoor
open Go.ChangeShapes Go.WideShapes Go.ChangeAt Go.RowKit

theorem own : ownKnob Tryz.prog.godebug = none := by kernel_rfl
theorem laidOut : laidOutB Tryz.prog = true := by kernel_rfl

/-- A slice of ints that reads as zs; where nothing is in it, nothing is told of the memory. -/
def SlA (w : World) (v : Value) (zs : List Int) : Prop := ∃ a cap pb po, v = .slice a zs.length cap ∧ Reads w a pb po zs ∧ (0 < zs.length → pb < w.heap.size) ∧ zs.length ≤ cap ∧ cap ≤ maxLen
theorem SlA.up {w w' : World} {v : Value} {zs : List Int} (h : SlA w v zs) (hb : Below w.heap.size w w') (h0 : 0 < w'.heap.size) : Sl w' v zs := by
  obtain ⟨a, cap, pb, po, hv, hr, hp, h1, h2⟩ := h
  rcases Nat.eq_zero_or_pos zs.length with hz | hz
  · exact ⟨a, cap, 0, 0, hv, ⟨fun h => by omega, fun j hj => by omega⟩, h0, h1, h2⟩
  · exact ⟨a, cap, pb, po, hv, hr.below hb (hp hz), Nat.lt_of_lt_of_le (hp hz) hb.size, h1, h2⟩
theorem SlA.of {w : World} {v : Value} {zs : List Int} (h : Sl w v zs) : SlA w v zs := by
  obtain ⟨a, cap, pb, po, hv, hr, hp, h1, h2⟩ := h
  exact ⟨a, cap, pb, po, hv, hr, fun _ => hp, h1, h2⟩

theorem und24 : ∃ f0 f1 : Field, Tryz.prog.underlying 24 = some (.struct #[f0, f1]) ∧ f0.type = 3 ∧ f1.type = 22 ∧ f0.offset = 0 ∧ f1.offset = 1 := ⟨_, _, Tryz.underlying24, rfl, rfl, rfl, rfl⟩
theorem und3 : Tryz.prog.underlying 3 = some (.int .i64) := by kernel_rfl
theorem und22 : Tryz.prog.underlying 22 = some (.slice 3) := by kernel_rfl
theorem und4 : Tryz.prog.underlying 4 = some .bool := by kernel_rfl

set_option maxRecDepth 100000 in
/-- What is told of a table that came in. -/
theorem open_group {H : Type} {enc : TypeId × Value → H} {W : World} {b0 : Nat} {v : Value} {d : DataW H} {ps : List MemPlace} (hval : Value.okWide Tryz.prog W .any b0 24 v)
    (hd : DataW.Trod enc Tryz.prog W 0 (fun _ => true) true 24 v d ps) :
    ∃ N u zs, v = .agg #[.int .i64 N, u] ∧ SlA W u zs ∧ (Lit.int .i64 N).wf = true ∧ ((d.weights Tryz.prog 24).all (· ≤ reachBytes) = true → zs.length * 8 ≤ 140737488355328) := by
  obtain ⟨f0, f1, hu, ht0, ht1, ho0, ho1⟩ := und24
  obtain ⟨cs, rfl, hsz⟩ := okWide_struct hu hval
  rw [show Tryz.prog.cellsOf 24 = 2 by kernel_rfl] at hsz
  obtain ⟨l⟩ := cs
  match l, hsz with
  | [c0, c1], _ =>
  obtain ⟨fuel, hf⟩ := hd
  obtain ⟨y0, y1, m, hx, _, hy0, hy1⟩ := trod_struct2 hu hf
  rw [ht0, ho0, show Tryz.prog.cellsOf 3 = 1 by kernel_rfl] at hy0
  rw [ht1, ho1, show Tryz.prog.cellsOf 22 = 1 by kernel_rfl] at hy1
  obtain ⟨N, e0, rfl, wN⟩ := DataW.trod_int und3 hy0
  simp [Value.cells] at e0
  subst e0
  simp [Value.cells] at hy1
  rcases open_ints und22 und3 (by kernel_rfl) hy1 with ⟨hcs, _⟩ | ⟨x, l, c, zs, hcs, _, hl, hm, hz, heq, hcell, hwz⟩
  · simp at hcs
    subst hcs
    exact ⟨N, _, [], rfl, ⟨none, 0, 0, 0, rfl, ⟨by simp, by simp⟩, by simp, by simp, by unfold maxLen; omega⟩, wN, fun _ => by simp⟩
  · simp at hcs
    subst hcs
    have hzc : zs.length = c := by simpa using hz
    have hlen : (zs.take l).length = l := by rw [List.length_take]; omega
    refine ⟨N, _, zs.take l, rfl, ?_, wN, fun hw => ?_⟩
    · by_cases hpos : 0 < c
      · obtain ⟨b, o, rfl, hc'⟩ := ints_at hcell (by omega)
        refine ⟨some ⟨b, o, none⟩, c, b, o, by rw [hlen], ⟨fun _ => rfl, fun j hj => ?_⟩, fun _ => World.block_lt_of_cell? W _ (hc' 0 (by omega)), by omega, hm⟩
        rw [hlen] at hj
        rw [hc' j (by omega), List.getElem?_take, if_pos hj, List.getD_eq_getElem?_getD]
      · have : l = 0 := by omega
        subst this
        exact ⟨some x, c, 0, 0, by simp, ⟨by simp, by simp⟩, by simp, by simp, hm⟩
    · have hd : d = .agg [.lit (.int .i64 N), .slice (lits .i64 (zs.take l)) (lits .i64 (zs.drop l))] := by
        have h1 := congrArg Prod.fst hx
        simp only [heq] at h1
        exact h1
      have hw2 := List.all_eq_true.1 hw (((lits (H := H) .i64 (zs.take l)).length + (lits (H := H) .i64 (zs.drop l)).length) * Tryz.prog.bytesOf 3) (by
        rw [hd]; simp [DataW.weights, DataW.weightsEach, hu, ht0, ht1])
      rw [show Tryz.prog.bytesOf 3 = 8 by kernel_rfl] at hw2
      simp only [lits, List.length_map, decide_eq_true_eq] at hw2
      unfold reachBytes at hw2
      omega
end Go.Proofs.YtjiapicknkjhmaaGreatDoor
