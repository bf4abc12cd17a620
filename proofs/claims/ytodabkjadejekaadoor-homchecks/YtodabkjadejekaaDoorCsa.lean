/- Package coset, and the document on cosets; sets that part things, and their numbers. -/
import Derived.Test.YtodabkjadejekaaDoorSbf
import Derived.Test.YtodabkjadejekaaDoorBads
import Derived.Test.YtodabkjadejekaaDoorMakW
import Derived.Test.YtodabkjadejekaaDoorDw
import Derived.Deep.AppendLies
import Derived.Laws.EntriesVeiled
import Derived.Maps.OwnSet
import Derived.Maps.AppendAt
import Derived.BigQuiet
import Derived.Maps.Ext
namespace Go.Proofs.YtodabkjadejekaaDoor
open Go Go.RowKit

set_option maxRecDepth 100000 in
set_option maxHeartbeats 1000000 in
theorem cprd_ok (n : Nat) (v : Value) (zs : List Int) (a b : Nat) (w : World) (ht : IsTab n zs) (hv : Sl w v zs) (ha : a < n) (hb : b < n) :
    Calls Tryd.prog 106 #[.agg #[.int .i64 n, v], .int .i64 a, .int .i64 b] w fun e w' => e = .returned (.int .i64 (tm n zs a b)) ∧ Below w.heap.size w w' := by
  have hlt := place_lt ha hb
  have hle := ht.le
  have hlen := ht.len
  have hn2 : n * n ≤ 60 * 60 := Nat.mul_le_mul hle hle
  have hg := tm_get ht ha hb
  have han : a * n ≤ 60 * 60 := Nat.mul_le_mul (by omega) (by omega)
  have hB0 : Below w.heap.size w (w.alloc (.cells #[.int .i64 n, v] 24)) := balloc w _
  have N0 : Blk (w.alloc (.cells #[.int .i64 n, v] 24)) w.heap.size 24 [.int .i64 n, v] := blk0 _ _
  obtain ⟨x, cap, pb, po, rfl, hr, hp, hq3, hq4⟩ := hv.below hB0
  obtain rfl := hr.at_ (by omega)
  have hc := hr.cell (a * n + b) (by omega)
  rw [hg] at hc
  obtain ⟨c0, c1, _, _⟩ := N0.two
  have hi : ((a * n + b : Nat) : Int) < (zs.length : Int) := by omega
  have hm : ((a : Int) * (n : Int)) = ((a * n : Nat) : Int) := by rw [Int.natCast_mul]
  have HLEN := hide hlen
  have HB0 := hide hB0
  generalize hk : a * n = k at *
  generalize tm n zs a b = r at *
  clear hlen hB0 hg hn2 hk
  go_enter Tryd.func106, Tryd.ntmps106
  go_wp2
  go_ret
  exact ⟨rfl, HB0.out⟩
def rgtq (n : Nat) (zs : List Int) (xs : List Nat) (a y : Nat) : Bool := xs.any fun x => decide (tm n zs x a = y)
set_option maxRecDepth 100000 in
set_option maxHeartbeats 4000000 in
theorem rgt_ok (n : Nat) (v lv : Value) (zs : List Int) (xs : List Nat) (a : Nat) (w : World) (ht : IsTab n zs) (hv : Sl w v zs) (hs : Sl w lv (li xs)) (hx : ∀ x, x ∈ xs → x < n) (ha : a < n) :
    Calls Tryd.prog 70 #[.agg #[.int .i64 n, v], lv, .int .i64 a] w fun e w' => e = .returned (.int .u64 (bs (rgtq n zs xs a) n)) ∧ Below w.heap.size w w' := by
  have hn := ht.le
  have hB0 : Below w.heap.size w (w.alloc (.cells #[.int .i64 n, v] 24)) := balloc w _
  have hX0 : BoxG (w.alloc (.cells #[.int .i64 n, v] 24)) w.heap.size n v := blk0 _ _
  have hv0 := hv.below hB0
  obtain ⟨ra, rc, pb, po, rfl, hr, hp, hq3, hq4⟩ := hs.below hB0
  have hml : xs.length ≤ 9223372036854775807 := by rw [li_len] at hq3; unfold maxLen at hq4; omega
  rw [li_len] at hq3 ⊢
  have HM := hide hx
  have HR := hide hr
  have HLL := hide (li_len xs)
  clear hr hq4 hx hs
  go_enter Tryd.func70, Tryd.ntmps70
  go_wp2
  generalize w.alloc (.cells #[.int .i64 n, v] 24) = w1 at *
  go_loopw [7, 12] (fun s i wr => ∃ k : Nat, k ≤ xs.length ∧ i = .int .i64 k ∧ s = .int .u64 (bs (rgtq n zs (xs.take k) a) n) ∧ Below w1.heap.size w1 wr) (fun _ i _ => xs.length - (intOf i).toNat)
  case atStart => exact ⟨0, Nat.zero_le _, rfl, by rw [List.take_zero, show bs (rgtq n zs [] a) n = 0 from bs_none n]; rfl, Below.refl _ _⟩
  case round =>
    obtain ⟨k, hk, rfl, rfl, hB⟩ := hrel
    by_cases hlt : k < xs.length
    · have hck := (HR.out.below hB hp).cell k (by rw [HLL.out]; exact hlt)
      rw [li_get hlt] at hck
      obtain rfl := HR.out.at_ (by rw [HLL.out]; omega)
      obtain ⟨x, hxe⟩ : ∃ x, xs[k] = x := ⟨_, rfl⟩
      have hxn : x < n := by rw [← hxe]; exact HM.out _ (List.getElem_mem hlt)
      have hsn : xs.take (k + 1) = xs.take k ++ [x] := by rw [List.take_succ_eq_append_getElem hlt, hxe]
      rw [hxe] at hck
      have hki : (k : Int) < (xs.length : Int) := by omega
      have hct : tm n zs x a < n := tm_lt ht hxn ha
      have hor := bs_put (n := n) (t := tm n zs x a) (p := rgtq n zs (xs.take k) a) (q := rgtq n zs (xs.take (k + 1)) a) hn (fun z => by
        unfold rgtq
        rw [hsn, List.any_append]
        simp only [List.any_cons, List.any_nil, Bool.or_false]
        congr 1
        rw [Bool.eq_iff_iff, decide_eq_true_eq, decide_eq_true_eq]
        exact eq_comm)
      have HCM := hide (cprd_ok n v zs x a wr ht (hv0.below hB) hxn ha)
      have HOF := hide (fun W b (h : W.cell? ⟨b, 0, none⟩ = some (.int .i64 (tm n zs x a))) => of_one n b (tm n zs x a) W hn hct h)
      obtain ⟨g0, g1, _, _⟩ := (blk_below hX0 hB).two
      generalize tm n zs x a = t at *
      generalize bs (fun z => decide (z = t)) n = T9 at *
      clear hsn hxe
      go_wp2_with fail
      refine HCM.out.mono ?_
      rintro x9 w7 ⟨rfl, hb7⟩
      have hB8 := bcat2 hB (bcat2 hb7 (balloc w7 (.cells #[.int .i64 t] 3)))
      clear g0 g1
      go_wp2_with fail
      refine (HOF.out _ _ (cell1 _ _ _)).mono ?_
      rintro x9 w8 ⟨rfl, rfl⟩
      go_wp2
      go_roundw
      case rel => exact ⟨k + 1, by omega, by go_num, rfl, hB8⟩
      case measure => simp [intOf]; omega
    · have hkn : k = xs.length := by omega
      subst hkn
      rw [List.take_length]
      go_wp2
      go_ret
      exact ⟨rfl, bcat2 hB0 hB⟩
theorem call109 (a : Int) (x y : Value) (W : World) : Sem.run Tryd.prog (callFunc 69 (#[.int .i64 a] ++ #[x, y])) W = .ok (.enter 69 (#[.int .i64 a] ++ #[x, y])) W := by kernel_rfl
set_option maxRecDepth 100000 in
set_option maxHeartbeats 4000000 in
theorem rgt1_ok (n : Nat) (v lv : Value) (zs : List Int) (xs : List Nat) (a gb lb : Nat) (w : World) (ht : IsTab n zs) (hv : Sl w v zs) (hs : Sl w lv (li xs)) (hx : ∀ x, x ∈ xs → x < n) (ha : a < n) (hX : BoxG w gb n v) (hL : Boxed w lb 22 lv) :
    Calls Tryd.prog 69 (#[.int .i64 a] ++ #[.pointer (some ⟨gb, 0, none⟩), .pointer (some ⟨lb, 0, none⟩)]) w fun e w' => e = .returned (.int .u64 (bs (rgtq n zs xs a) n)) ∧ Below w.heap.size w w' := by
  show Calls Tryd.prog 69 #[.int .i64 a, .pointer (some ⟨gb, 0, none⟩), .pointer (some ⟨lb, 0, none⟩)] w _
  obtain ⟨c0, c1, _, _⟩ := hX.two
  have c2 := hL.cell
  go_enter Tryd.func69, Tryd.ntmps69
  go_wp2_with fail
  refine (rgt_ok n v lv zs xs a w ht hv hs hx ha).mono ?_
  rintro x w1 ⟨rfl, hb1⟩
  go_wp2
  go_ret
  exact ⟨rfl, hb1⟩
def lftq (n : Nat) (zs : List Int) (xs : List Nat) (a y : Nat) : Bool := xs.any fun x => decide (tm n zs a x = y)
end Go.Proofs.YtodabkjadejekaaDoor

namespace Go.Proofs.YtodabkjadejekaaDoor
open Go Go.RowKit Go.Maps

theorem und77 : Tryd.prog.underlying 71 = some (.int .u64) := by kernel_rfl
theorem und3' : Tryd.prog.underlying 3 = some (.int .i64) := by kernel_rfl
theorem und95 : Tryd.prog.underlying 84 = some (.map 71 3) := by kernel_rfl
theorem under25b : Tryd.prog.underlying 43 = some (.slice 22) := by kernel_rfl
theorem law77 : Keyed Tryd.prog 71 := int_keyed und77
theorem zero3 (w : World) : (zeroValue 3).run Tryd.prog w = .ok (.int .i64 0) w := by kernel_rfl
theorem info22b : (Tryd.prog.info? 22).map (fun i => (i.zero, i.size, i.bytes)) = some (some (.slice none 0 0), 1, 24) := by kernel_rfl
/-- The things at which a set is met first. -/
def fsts (n : Nat) (f : Nat → Nat → Bool) (j : Nat) : List Nat := (List.range j).filter fun a => (List.range a).all fun b => decide (bs (f b) n ≠ bs (f a) n)
theorem fsts_succ (n : Nat) (f : Nat → Nat → Bool) (j : Nat) : fsts n f (j + 1) = if (List.range j).all (fun b => decide (bs (f b) n ≠ bs (f j) n)) then fsts n f j ++ [j] else fsts n f j := by
  unfold fsts
  rw [List.range_succ, List.filter_append]
  by_cases h : (List.range j).all (fun b => decide (bs (f b) n ≠ bs (f j) n)) = true
  · rw [if_pos h, List.filter_cons, if_pos h, List.filter_nil]
  · rw [if_neg h, List.filter_cons, if_neg h, List.filter_nil, List.append_nil]
theorem fsts_len (n : Nat) (f : Nat → Nat → Bool) (j : Nat) : (fsts n f j).length ≤ j := Nat.le_trans (List.length_filter_le _ _) (by simp)
/-- What the map knows. -/
def MInv (n : Nat) (f : Nat → Nat → Bool) (j : Nat) (D : DataW Unit) : Prop := ∀ s : Nat, Maps.has D (.int .u64 s) = true ↔ ∃ a, a < j ∧ bs (f a) n = s
/-- The lists that lie in a slice of slices. -/
def Lsts (W : World) (B : Nat) (r : Value) (vs : List Value) (ls : List (List Int)) : Prop := vs.length = ls.length ∧ ∀ (t : Nat) (x : Value) (l : List Int), vs[t]? = some x → ls[t]? = some l → ∃ a cap pb po, x = .slice a l.length cap ∧ Reads W a pb po l ∧ pb < W.heap.size ∧ l.length ≤ cap ∧ cap ≤ maxLen ∧ B ≤ pb ∧ ∀ g, r.ownBlock = some g → pb ≠ g

theorem Lsts.keep {W W' : World} {B : Nat} {r r' : Value} {vs : List Value} {ls : List (List Int)} (h : Lsts W B r vs ls) (hs : W.heap.size ≤ W'.heap.size) (hk : ∀ g, B ≤ g → g < W.heap.size → r.ownBlock ≠ some g → W'.heap[g]? = W.heap[g]?) (hr : r'.ownBlock = r.ownBlock ∨ ∀ g, r'.ownBlock = some g → W.heap.size ≤ g) : Lsts W' B r' vs ls := by
  refine ⟨h.1, fun t x l h1 h2 => ?_⟩
  obtain ⟨a, cap, pb, po, rfl, h3, h4, h5, h6, h7, h8⟩ := h.2 t x l h1 h2
  refine ⟨a, cap, pb, po, rfl, h3.of_eq (hk pb h7 h4 (fun e => h8 pb e rfl)), Nat.lt_of_lt_of_le h4 hs, h5, h6, h7, fun g hg => ?_⟩
  rcases hr with hr | hr
  · exact h8 g (by rw [← hr]; exact hg)
  · have := hr g hg; omega
theorem Lsts.snoc {W : World} {B : Nat} {r : Value} {vs : List Value} {ls : List (List Int)} {x : Value} {l : List Int} (h : Lsts W B r vs ls) (hx : ∃ a cap pb po, x = Value.slice a l.length cap ∧ Reads W a pb po l ∧ pb < W.heap.size ∧ l.length ≤ cap ∧ cap ≤ maxLen ∧ B ≤ pb ∧ ∀ g, r.ownBlock = some g → pb ≠ g) : Lsts W B r (vs ++ [x]) (ls ++ [l]) := by
  refine ⟨by simp [h.1], fun t y m h1 h2 => ?_⟩
  by_cases ht : t < vs.length
  · rw [List.getElem?_append_left ht] at h1
    rw [List.getElem?_append_left (by rw [← h.1]; exact ht)] at h2
    exact h.2 t y m h1 h2
  · have hv : t = vs.length := by
      have := (List.getElem?_eq_some_iff.1 h1).1
      simp at this; omega
    subst hv
    rw [List.getElem?_append_right (Nat.le_refl _)] at h1
    rw [List.getElem?_append_right (by rw [h.1]; exact Nat.le_refl _), h.1] at h2
    simp at h1 h2
    subst h1 h2
    exact hx
theorem minv_step {n j : Nat} {f : Nat → Nat → Bool} {D : DataW Unit} {d : DataW Unit} (h : MInv n f j D) (hD : IsMap D) : MInv n f (j + 1) (D.put (.int .u64 (bs (f j) n : Nat)) d) := by
  intro s
  by_cases e : s = bs (f j) n
  · subst e
    rw [has_put_same hD (by trivial)]
    exact ⟨fun _ => ⟨j, by omega, rfl⟩, fun _ => rfl⟩
  · rw [has_put_other (fun h9 => e (by injection h9 with _ h9; omega)), h s]
    exact ⟨fun ⟨a, h1, h2⟩ => ⟨a, by omega, h2⟩, fun ⟨a, h1, h2⟩ => ⟨a, by
      have : a ≠ j := fun e9 => e (by rw [← h2, e9])
      omega, h2⟩⟩
theorem minv_same {n j : Nat} {f : Nat → Nat → Bool} {D : DataW Unit} (h : MInv n f j D) (hh : Maps.has D (.int .u64 (bs (f j) n : Nat)) = true) : MInv n f (j + 1) D := by
  obtain ⟨b, hb, e⟩ := (h _).1 hh
  intro s
  rw [h s]
  exact ⟨fun ⟨a, h1, h2⟩ => ⟨a, by omega, h2⟩, fun ⟨a, h1, h2⟩ => by
    by_cases e9 : a = j
    · subst e9; exact ⟨b, hb, by rw [e]; exact h2⟩
    · exact ⟨a, by omega, h2⟩⟩
theorem minv_new {n j : Nat} {f : Nat → Nat → Bool} {D : DataW Unit} (h : MInv n f j D) : Maps.has D (.int .u64 (bs (f j) n : Nat)) = false ↔ (List.range j).all (fun b => decide (bs (f b) n ≠ bs (f j) n)) = true := by
  rw [← Bool.not_eq_true, h]
  simp only [List.all_eq_true, List.mem_range, decide_eq_true_eq, not_exists, not_and]
/-- The lists of the sets that are met first. -/
def csl (n : Nat) (f : Nat → Nat → Bool) (j : Nat) : List (List Int) := (fsts n f j).map fun a => li (lst n (f a))
end Go.Proofs.YtodabkjadejekaaDoor

namespace Go.Proofs.YtodabkjadejekaaDoor
open Go Go.RowKit Go.Maps

theorem below_grown {w w' : World} (h : Below w.heap.size w w') (row : Option Nat) : w.grownBy w' row := ⟨h.os, h.tape, h.output, h.size, fun b hb _ => h.block b hb⟩
theorem own_slice' {w : World} {base n : Nat} {e : TypeId} {v : Value} {xs : List Value} (h : w.ownsRow base e 1 v n xs) : ∃ a cap, v = .slice a n cap := by
  rcases h.2 with ⟨rfl, rfl⟩ | ⟨g, cap, cur, rfl, _⟩
  · exact ⟨none, 0, rfl⟩
  · exact ⟨_, cap, rfl⟩
theorem map_more {P : Program} {k : TypeId} {R : Value → Option (DataW Unit × List MemPlace)} {w : World} {b n : Nat} {D : DataW Unit} (h : w.ownsMap P k R b n D) : w.ownsMap P k R b (n + 1) D := by
  obtain ⟨es, clock, hb, F, hs, hD⟩ := h
  exact ⟨es, clock, hb, F, Nat.le_succ_of_le hs, hD⟩
theorem map_is {P : Program} {k : TypeId} {R : Value → Option (DataW Unit × List MemPlace)} {w : World} {b n : Nat} {D : DataW Unit} (h : w.ownsMap P k R b n D) : IsMap D := by
  obtain ⟨es, clock, hb, F, hs, hD⟩ := h
  exact ⟨_, hD⟩
set_option maxRecDepth 100000 in
set_option maxHeartbeats 8000000 in
theorem parts_ok (n k : Nat) (caps : Array Value) (f : Nat → Nat → Bool) (w : World) (hn : n ≤ 60) (hT : Tab w)
    (hcall : ∀ a W, Sem.run Tryd.prog (callFunc k (#[.int .i64 a] ++ caps)) W = .ok (.enter k (#[.int .i64 a] ++ caps)) W)
    (hp : ∀ (W : World) (a : Nat), Below w.heap.size w W → a < n → Calls Tryd.prog k (#[.int .i64 a] ++ caps) W fun e w' => e = .returned (.int .u64 (bs (f a) n)) ∧ Below W.heap.size W w') :
    Calls Tryd.prog 68 #[.int .i64 n, .func (.func k) #[] caps] w fun x w' => ∃ r vs D, x = .returned (.tuple #[r, .map (some w.heap.size)]) ∧ w'.ownsRow (w.heap.size + 1) 22 1 r vs.length vs ∧ Lsts w' (w.heap.size + 1) r vs (csl n f n) ∧ w'.ownsMap Tryd.prog 71 (plainElem Tryd.prog 3) w.heap.size n D ∧ MInv n f n D ∧ Below w.heap.size w w' := by
  obtain ⟨i0, hi, hz0, hz1, hz2⟩ := info_parts info22b
  have hmm := @run_makeMap Tryd.prog
  have HP := hide hp
  clear hp
  go_enter Tryd.func68, Tryd.ntmps68
  go_wp2
  clear hmm
  go_loopw [6, 14] (fun r i wr => ∃ (j : Nat) (vs : List Value) (D : DataW Unit), j ≤ n ∧ i = .int .i64 j ∧ wr.ownsRow (w.heap.size + 1) 22 1 r vs.length vs ∧ Lsts wr (w.heap.size + 1) r vs (csl n f j) ∧ wr.ownsMap Tryd.prog 71 (plainElem Tryd.prog 3) w.heap.size j D ∧ MInv n f j D ∧ Below w.heap.size w wr) (fun _ i _ => n - (intOf i).toNat)
  case atStart => exact ⟨0, [], .map [], Nat.zero_le _, rfl, World.ownsRow_nil _ _ _ _, ⟨rfl, fun t x l h => by simp at h⟩, World.ownsMap_made _ _ _ _, fun s => ⟨fun h => by simp [Maps.has] at h, fun ⟨a, h, _⟩ => by omega⟩, balloc w _⟩
  case round =>
    obtain ⟨j, vs, D, hj, rfl, hrow, hls, hmap, hM, hB⟩ := hrel
    obtain ⟨ra, rcap, rfl⟩ := own_slice' hrow
    by_cases hlt : j < n
    · have hji : (j : Int) < (n : Int) := by omega
      go_wp2_with fail
      refine (HP.out wr j hB hlt).mono ?_
      rintro e1 w1 ⟨rfl, hb1⟩
      have hB1 := bcat2 hB hb1
      have hmap1 := hmap.kept (below_grown hb1 none) (by simp)
      have hrow1 := hrow.kept (below_grown hb1 none) (by cases ra <;> simp [Value.ownBlock])
      have hls1 : Lsts w1 (w.heap.size + 1) (.slice ra vs.length rcap) vs (csl n f j) := hls.keep hb1.size (fun g _ h2 _ => hb1.block g h2) (.inl rfl)
      have hkw : (Lit.int .u64 (bs (f j) n : Nat)).wf = true := WalkArith.wf_u64 (by have := bs_64 (p := f j) hn; omega)
      have hkey := keyOf_int_mk und77 hkw
      have hvl : vs.length ≤ j := by rw [hls.1]; unfold csl; rw [List.length_map]; exact fsts_len n f j
      have hs1 : w.heap.size < w1.heap.size := Nat.lt_of_lt_of_le hmap.lt hb1.size
      clear hrow hls hmap hB hb1
      cases hh : Maps.has D (.int .u64 (bs (f j) n : Nat)) with
      | false =>
        have HST := hide (show csl n f (j + 1) = csl n f j ++ [li (lst n (f j))] by
          unfold csl
          rw [fsts_succ, if_pos ((minv_new hM).1 hh), List.map_append]; rfl)
        have HMV := hide (fun d => minv_step (d := d) hM (map_is hmap1))
        go_wp2_with (first
          | (at_lookup; refine wpList_lookup_own_ok_int _ rfl _ _ 84 rfl 71 3 .i64 law77 und95 und3' (zero3 _) w.heap.size _ D rfl hmap1 _ _ rfl hkey ?_; intro c hat hwc; rw [hh])
          | (at_mapUpdate; refine wpList_mapUpdate_own _ rfl _ _ _ 84 rfl 71 3 law77 und95 _ w.heap.size _ D rfl hmap1 (by unfold maxLen; omega) _ _ _ rfl rfl hkey _ [] (plainElem_int und3' (WalkArith.wf_i64 (by omega))) ?_; intro w2 hmap2 hgrow2))
        have hB2 := hB1.grown hgrow2 hB1.size (fun k hk => by cases hk; exact Nat.le_refl _)
        have hrow2 := hrow1.kept hgrow2 (by
          by_cases h9 : (Value.slice ra vs.length rcap).ownBlock = some w.heap.size
          · have := owns_ge hrow1 _ h9; omega
          · exact .inr h9)
        have hls2 : Lsts w2 (w.heap.size + 1) (.slice ra vs.length rcap) vs (csl n f j) := hls1.keep hgrow2.size (fun g h1 h2 _ => hgrow2.block g h2 (by simp; omega)) (.inl rfl)
        have hs2 : w.heap.size < w2.heap.size := Nat.lt_of_lt_of_le hs1 hgrow2.size
        clear hrow1 hls1 hmap1 hB1 hgrow2
        refine (list_ok n (f j) w2 hn (hT.below hB2)).mono ?_
        rintro e3 w3 ⟨r9, rfl, hr9, hb3⟩
        have hB3 := bcat2 hB2 hb3
        have hrow3 := hrow2.kept (below_grown hb3 none) (by cases ra <;> simp [Value.ownBlock])
        have hls3 : Lsts w3 (w.heap.size + 1) (.slice ra vs.length rcap) vs (csl n f j) := hls2.keep hb3.size (fun g _ h2 _ => hb3.block g h2) (.inl rfl)
        have hmap3 := hmap2.kept (below_grown hb3 none) (by simp)
        have hown2 : ∀ g, (Value.slice ra vs.length rcap).ownBlock = some g → g < w2.heap.size := fun g hg => by
          rcases hrow2.2 with ⟨h1, _⟩ | ⟨g', cap, cur, h1, _, hh9, _⟩
          · rw [h1] at hg; simp [Value.ownBlock] at hg
          · rw [h1] at hg
            simp [Value.ownBlock] at hg
            subst hg
            exact (Array.getElem?_eq_some_iff.1 hh9).1
        obtain ⟨qa, qcap, qb, qo, rfl, hq, hq1, hq2, hq3, hq4⟩ := hr9
        have hs3 := hb3.size
        have HQ := hide hq
        clear hrow2 hls2 hmap2 hB2 hb3 hq
        generalize li (lst n (f j)) = lj at *
        go_wp2_with (first
          | (at_builtin; refine wpList_append_own_at _ rfl _ _ 43 rfl (w.heap.size + 1) 22 i0 (.slice none 0 0) 1 24 under25b hi hz0 hz1 hz2 rfl (by decide) _ _ _ rfl (World.ownsRow.alloc hrow3 _) ⟨w3.heap.size, 0, none⟩ 1 1 [.slice qa lj.length qcap] rfl rfl ?c1 ?c2 ?c3 ?c4 ?c5 ?_))
        case c1 => exact cell_one_new _ _ _
        case c2 => simp [Value.oneCell']
        case c3 => unfold maxLen; omega
        case c4 => omega
        case c5 => simp; omega
        intro v' w4 hown' hgrow hnil hloc
        obtain ⟨ra', rcap', rfl⟩ := own_slice' hown'
        have hB4 : Below w.heap.size w w4 := (hB3.alloc hB3.size _).grown hgrow (by simp; omega) (fun t e => by have := owns_ge hrow3 t e; omega)
        have hmap4 := (hmap3.kept (World.grownBy_alloc w3 _ none) (by simp)).kept hgrow (fun e => by have := owns_ge hrow3 _ e.symm; omega)
        have hbl : ∀ g, g < w3.heap.size → (Value.slice ra vs.length rcap).ownBlock ≠ some g → w4.heap[g]? = w3.heap[g]? := fun g h1 h2 => (hgrow.block g (by simp; omega) (fun e => h2 e.symm)).trans (Below.block (balloc w3 _) g h1)
        have hs4 : w3.heap.size < w4.heap.size := by have := hgrow.size; simp at this; omega
        have hlo : (Value.slice ra' (vs.length + 1) rcap').ownBlock = (Value.slice ra vs.length rcap).ownBlock ∨ ∀ g, (Value.slice ra' (vs.length + 1) rcap').ownBlock = some g → w3.heap.size ≤ g := by
          rcases hloc with h | h
          · exact .inl h
          · right; intro g hg; rw [h] at hg; simp at hg; omega
        have hls4 := (hls3.keep (r' := .slice ra' (vs.length + 1) rcap') (by omega) (fun g _ h2 h3 => hbl g h2 h3) hlo).snoc (x := .slice qa lj.length qcap) (l := lj) ⟨qa, qcap, qb, qo, rfl, HQ.out.of_eq (hbl qb hq1 (fun e => by have := hown2 _ e; omega)), by omega, hq2, hq3, by omega, fun g hg e => by
          subst e
          rcases hlo with h | h
          · have := hown2 _ (h ▸ hg); omega
          · have := h _ hg; omega⟩
        have hrow4 : w4.ownsRow (w.heap.size + 1) 22 1 (.slice ra' (vs.length + 1) rcap') (vs ++ [Value.slice qa lj.length qcap]).length (vs ++ [Value.slice qa lj.length qcap]) := by simpa using hown'
        clear hown' hgrow hloc hlo hbl hrow3 hls3 hmap3 hB3
        go_wp2
        go_roundw
        case rel => exact ⟨j + 1, _, _, by omega, by go_num, hrow4, by rw [HST.out]; exact hls4, hmap4, HMV.out _, hB4⟩
        case measure => simp [intOf]; omega
      | true =>
        have HST := hide (show csl n f (j + 1) = csl n f j by
          unfold csl
          rw [fsts_succ, if_neg (by rw [← minv_new hM, hh]; simp)])
        have HMV := hide (minv_same hM hh)
        go_wp2_with (first
          | (at_lookup; refine wpList_lookup_own_ok_int _ rfl _ _ 84 rfl 71 3 .i64 law77 und95 und3' (zero3 _) w.heap.size _ D rfl hmap1 _ _ rfl hkey ?_; intro c hat hwc; rw [hh]))
        go_roundw
        case rel => exact ⟨j + 1, vs, D, by omega, by go_num, hrow1, by rw [HST.out]; exact hls1, map_more hmap1, HMV.out, hB1⟩
        case measure => simp [intOf]; omega
    · have hjn : j = n := by omega
      subst hjn
      go_wp2
      exact bodyPost_ret (v := .tuple #[.slice ra vs.length rcap, .map (some w.heap.size)]) (by simp [results, Tryd.results68, go_sem]) rfl ⟨_, vs, D, rfl, hrow, hls, hmap, hM, hB⟩
end Go.Proofs.YtodabkjadejekaaDoor

namespace Go.Proofs.YtodabkjadejekaaDoor
open Go Go.RowKit

/-- The first fault of subgroups, one after the other. -/
def wfault (N : Int) (zs : List Int) : List (List Int) → Int × Int
  | [] => (0, 0)
  | l :: ls => if (ufault N zs l).1 ≠ 0 then ufault N zs l else wfault N zs ls
theorem wfault_skip {N : Int} {zs : List Int} : ∀ (ls : List (List Int)) (k : Nat), (∀ t, t < k → (ufault N zs (ls[t]?.getD [])).1 = 0) → k ≤ ls.length → wfault N zs ls = wfault N zs (ls.drop k)
  | ls, 0, _, _ => by simp
  | [], k + 1, _, h => by simp at h
  | l :: ls, k + 1, h, hk => by
    have h0 : (ufault N zs l).1 = 0 := by simpa using h 0 (by omega)
    rw [List.drop_succ_cons, ← wfault_skip ls k (fun t ht => by simpa using h (t + 1) (by omega)) (by simpa using hk)]
    show (if _ then _ else _) = _
    rw [if_neg (by simpa using h0)]
theorem wfault_at {N : Int} {zs : List Int} {ls : List (List Int)} {k : Nat} (h : ∀ t, t < k → (ufault N zs (ls[t]?.getD [])).1 = 0) (hk : k < ls.length) (hc : (ufault N zs (ls[k]?.getD [])).1 ≠ 0) : wfault N zs ls = ufault N zs (ls[k]?.getD []) := by
  rw [wfault_skip ls k h (Nat.le_of_lt hk), List.drop_eq_getElem_cons hk]
  have e : ls[k]?.getD [] = ls[k] := by simp [hk]
  rw [e] at hc ⊢
  show (if _ then _ else _) = _
  rw [if_pos hc]
theorem wfault_ok {N : Int} {zs : List Int} {ls : List (List Int)} (h : ∀ t, t < ls.length → (ufault N zs (ls[t]?.getD [])).1 = 0) : wfault N zs ls = (0, 0) := by
  rw [wfault_skip ls ls.length h (Nat.le_refl _), List.drop_length]; rfl
theorem is_any (N : Int) (v u : Value) (zs l : List Int) (w : World) (hv : Sl w v zs) (hu : Sl w u l) (hT : Tab w) : ∃ b c i, Calls Tryd.prog 28 #[.agg #[.int .i64 N, v], u] w (fun x w' => x = .returned (.tuple #[.bool b, .agg #[.int .i64 c, .int .i64 i]]) ∧ Below w.heap.size w w') ∧ ((c ≠ 0 ∧ ufault N zs l = (c, i)) ∨ (c = 0 ∧ i = 0 ∧ b = false ∧ ufault N zs l = (7, 0)) ∨ (c = 0 ∧ i = 0 ∧ b = true ∧ ufault N zs l = (0, 0))) := by
  by_cases hs : (sfault N zs l).1 = 0
  · obtain ⟨n, e, rfl, hg, hl, _⟩ := sfault_zero hs
    have h := is_good n e v u zs l w hv hg hu hT hl
    have hf := ufault_u hg hl
    cases hb : subT n zs e (pset l)
    · rw [hb] at h hf; exact ⟨false, 0, 0, h, .inr (.inl ⟨rfl, rfl, rfl, hf⟩)⟩
    · rw [hb] at h hf; exact ⟨true, 0, 0, h, .inr (.inr ⟨rfl, rfl, rfl, hf⟩)⟩
  · exact ⟨false, _, _, is_bad N v u zs l w hv hu hs, .inl ⟨hs, ufault_s hs⟩⟩
set_option maxRecDepth 100000 in
set_option maxHeartbeats 8000000 in
theorem wrong_ok (N : Int) (v : Value) (zs : List Int) (b cap : Nat) (ls : List (List Int)) (w : World) (hv : Sl w v zs) (hT : Tab w) (hlen : ls.length ≤ 2)
    (hc : ∀ t, t < ls.length → ∃ x, w.cell? ⟨b, t, none⟩ = some x ∧ Sl w x (ls[t]?.getD [])) :
    Calls Tryd.prog 67 #[.agg #[.int .i64 N, v], .slice (some ⟨b, 0, none⟩) ls.length cap] w fun x w' => x = .returned (.agg #[.int .i64 (wfault N zs ls).1, .int .i64 (wfault N zs ls).2]) ∧ Below w.heap.size w w' := by
  obtain ⟨w0, BG⟩ := Beg.new w N v
  have HC := hide hc
  clear hc
  go_enter Tryd.func67, Tryd.ntmps67
  go_wp2
  rw [← BG.eq]
  go_loopw [11] (fun i wr => ∃ k : Nat, k ≤ ls.length ∧ i = .int .i64 k ∧ (∀ t, t < k → (ufault N zs (ls[t]?.getD [])).1 = 0) ∧ Below w0.heap.size w0 wr) (fun i _ => ls.length - (intOf i).toNat)
  case atStart => exact ⟨0, Nat.zero_le _, rfl, fun t ht => by omega, Below.refl _ _⟩
  case round =>
    obtain ⟨k, hk, rfl, hno, hB⟩ := hrel
    have HNO := hide hno
    clear hno
    have hBw := bcat BG.bel hB BG.bel.size
    have hX := blk_below BG.box hB
    have hR := blk_below BG.res hB
    have HS1 := hide hR.lt
    by_cases hlt : k < ls.length
    · obtain ⟨x, hcx, hsx⟩ := HC.out k hlt
      obtain ⟨x1, x2, x3, rfl⟩ := hsx.isSlice
      obtain ⟨bq, c, i, HI, hor⟩ := is_any N v (.slice x1 x2 x3) zs (ls[k]?.getD []) wr (hv.below hBw) (hsx.below hBw) (hT.below hBw)
      have HI := hide HI
      have hcx := below_cell hBw hcx
      have hki : (k : Int) < (ls.length : Int) := by omega
      obtain ⟨c0, c1, _, _⟩ := hX.two
      go_wp2_with fail
      refine HI.out.mono ?_
      rintro e1 w1 ⟨rfl, hb1⟩
      clear c0 c1 hcx hsx
      have hb2 := bcat2 hb1 (balloc w1 (.cells #[.int .i64 c, .int .i64 i] 28))
      have hF2 := blk0 (w := w1) (T := 28) (.int .i64 c) (.int .i64 i)
      have hB2 := bcat2 hB hb2
      have hBw2 := bcat BG.bel hB2 BG.bel.size
      have hR2 := blk_below hR hb2
      obtain ⟨f0, f1, _, _⟩ := hF2.two
      obtain ⟨y0, y1, fy0, fy1⟩ := hR2.two
      rcases hor with ⟨hc0, hu⟩ | ⟨rfl, rfl, rfl, hu⟩ | ⟨rfl, rfl, rfl, hu⟩
      · have HD := hide (show wfault N zs ls = (c, i) by rw [← hu]; exact wfault_at HNO.out hlt (by rw [hu]; exact hc0))
        have hcb : (c != 0) = true := by simpa using hc0
        obtain ⟨hR6, hB6⟩ := put2 hR2 hBw2 (by omega) c i
        go_wp2
        generalize ((w1.alloc (.cells #[.int .i64 c, .int .i64 i] 28)).setCell ⟨w.heap.size + 1, 0, none⟩ (.int .i64 c)).setCell ⟨w.heap.size + 1, 1, none⟩ (.int .i64 i) = W at hR6 hB6 ⊢
        obtain ⟨z0, z1, _, _⟩ := hR6.two
        rw [HD.out]
        exact bodyPost_ret (v := .agg #[.int .i64 c, .int .i64 i]) (by simp [results, Tryd.results67, go_sem, z0, z1]) rfl ⟨rfl, hB6⟩
      · have HD := hide (show wfault N zs ls = (7, 0) by rw [← hu]; exact wfault_at HNO.out hlt (by rw [hu]; decide))
        obtain ⟨hR6, hB6⟩ := put2 hR2 hBw2 (by omega) 7 0
        go_wp2
        generalize ((w1.alloc (.cells #[.int .i64 0, .int .i64 0] 28)).setCell ⟨w.heap.size + 1, 0, none⟩ (.int .i64 7)).setCell ⟨w.heap.size + 1, 1, none⟩ (.int .i64 0) = W at hR6 hB6 ⊢
        obtain ⟨z0, z1, _, _⟩ := hR6.two
        rw [HD.out]
        exact bodyPost_ret (v := .agg #[.int .i64 7, .int .i64 0]) (by simp [results, Tryd.results67, go_sem, z0, z1]) rfl ⟨rfl, hB6⟩
      · go_wp2
        go_roundw
        case rel => exact ⟨k + 1, by omega, by go_num, fun t ht => by
          by_cases e9 : t = k
          · subst e9; rw [hu]
          · exact HNO.out t (by omega), hB2⟩
        case measure => simp [intOf]; omega
    · have HD := hide (show wfault N zs ls = (0, 0) from wfault_ok fun t ht => HNO.out t (by omega))
      obtain ⟨y0, y1, fy0, fy1⟩ := hR.two
      obtain ⟨hR6, hB6⟩ := put2 hR hBw (by omega) 0 0
      go_wp2
      generalize (wr.setCell ⟨w.heap.size + 1, 0, none⟩ (.int .i64 0)).setCell ⟨w.heap.size + 1, 1, none⟩ (.int .i64 0) = W at hR6 hB6 ⊢
      obtain ⟨z0, z1, _, _⟩ := hR6.two
      rw [HD.out]
      exact bodyPost_ret (v := .agg #[.int .i64 0, .int .i64 0]) (by simp [results, Tryd.results67, go_sem, z0, z1]) rfl ⟨rfl, hB6⟩
end Go.Proofs.YtodabkjadejekaaDoor

namespace Go.Proofs.YtodabkjadejekaaDoor
open Go Go.RowKit

theorem own_keep' {W W' : World} {B n : Nat} {e : TypeId} {v : Value} {xs : List Value} (h : W.ownsRow B e 1 v n xs) (hk : ∀ g, B ≤ g → g < W.heap.size → W'.heap[g]? = W.heap[g]?) : W'.ownsRow B e 1 v n xs := by
  refine ⟨h.1, ?_⟩
  rcases h.2 with h0 | ⟨g, cap, cur, hv, hg, hh, rest⟩
  · exact .inl h0
  · exact .inr ⟨g, cap, cur, hv, hg, (hk g hg (Array.getElem?_eq_some_iff.1 hh).1).trans hh, rest⟩
theorem Lsts.mono {W : World} {B B' : Nat} {r : Value} {vs : List Value} {ls : List (List Int)} (h : Lsts W B r vs ls) (hb : B' ≤ B) : Lsts W B' r vs ls :=
  ⟨h.1, fun t x l h1 h2 => by
    obtain ⟨a, cap, pb, po, rfl, h3, h4, h5, h6, h7, h8⟩ := h.2 t x l h1 h2
    exact ⟨a, cap, pb, po, rfl, h3, h4, h5, h6, Nat.le_trans hb h7, h8⟩⟩
theorem wfault_one (N : Int) (zs l : List Int) : wfault N zs [l] = ufault N zs l := by
  show (if (ufault N zs l).1 ≠ 0 then ufault N zs l else (0, 0)) = ufault N zs l
  by_cases h : (ufault N zs l).1 ≠ 0
  · rw [if_pos h]
  · rw [if_neg h]
    obtain ⟨_, _, _, _, _, _, h9⟩ := ufault_zero (by simpa using h)
    exact h9.symm
/-- Three boxes: a group, a list, and a fault that is answered. -/
structure Beg3 (w w0 : World) (N : Int) (v u : Value) : Prop where
  eq : w0 = ((w.alloc (.cells #[.int .i64 N, v] 24)).alloc (.cells #[u] 22)).alloc (.cells #[.int .i64 0, .int .i64 0] 28)
  bel : Below w.heap.size w w0
  box : BoxG w0 w.heap.size N v
  lis : Boxed w0 (w.heap.size + 1) 22 u
  res : Blk w0 (w.heap.size + 1 + 1) 28 [.int .i64 0, .int .i64 0]
theorem Beg3.new (w : World) (N : Int) (v u : Value) : ∃ w0, Beg3 w w0 N v u := by
  refine ⟨_, rfl, ((balloc w _).alloc (by simp) _).alloc (by simp; omega) _, ((blk0 (w := w) (T := 24) _ _).alloc _).alloc _, ?_, ?_⟩
  · have h := (Boxed.new (w.alloc (.cells #[.int .i64 N, v] 24)) 22 u).alloc (.cells #[.int .i64 0, .int .i64 0] 28)
    rw [World.size_alloc] at h
    exact h
  · have h := blk0 (w := (w.alloc (.cells #[.int .i64 N, v] 24)).alloc (.cells #[u] 22)) (T := 28) (.int .i64 0) (.int .i64 0)
    rw [World.size_alloc, World.size_alloc] at h
    exact h
set_option maxRecDepth 100000 in
set_option maxHeartbeats 1000000 in
theorem rgt_bad (N : Int) (v u : Value) (zs l : List Int) (w : World) (hv : Sl w v zs) (hu : Sl w u l) (hT : Tab w) (hc : (ufault N zs l).1 ≠ 0) :
    Calls Tryd.prog 29 #[.agg #[.int .i64 N, v], u] w fun x w' => x = .returned (.tuple #[.slice none 0 0, .agg #[.int .i64 (ufault N zs l).1, .int .i64 (ufault N zs l).2]]) ∧ Below w.heap.size w w' := by
  obtain ⟨u1, u2, u3, rfl⟩ := hu.isSlice
  obtain ⟨w0, BG⟩ := Beg3.new w N v (.slice u1 u2 u3)
  have hu0 := (hu.below BG.bel).alloc (.cells #[.slice u1 u2 u3] 22)
  have hv0 := (hv.below BG.bel).alloc (.cells #[.slice u1 u2 u3] 22)
  have hT0 := (hT.below BG.bel).below (balloc w0 (.cells #[.slice u1 u2 u3] 22))
  have HW := hide (wrong_ok N v zs w0.heap.size 1 [l] (w0.alloc (.cells #[.slice u1 u2 u3] 22)) hv0 hT0 (by simp) (fun t ht => by
    have : t = 0 := by simp at ht; omega
    subst this
    exact ⟨_, cell1 _ _ _, hu0⟩))
  have hs0 : w0.heap.size = w.heap.size + 1 + 1 + 1 := by rw [BG.eq]; simp
  rw [hs0, show [l].length = 1 from rfl, wfault_one] at HW
  obtain ⟨c0, c1, _, _⟩ := BG.box.two
  have c2 := BG.lis.cell
  rw [BG.eq] at c0 c1 c2
  obtain ⟨c, i, hci⟩ : ∃ c i, ufault N zs l = (c, i) := ⟨_, _, rfl⟩
  rw [hci] at HW hc ⊢
  simp only at HW hc ⊢
  clear hci
  have hcb : (c != 0) = true := by simpa using hc
  go_enter Tryd.func29, Tryd.ntmps29
  go_wp2_with fail
  rw [← BG.eq]
  clear c0 c1 c2
  refine HW.out.mono ?_
  rintro x w1 ⟨rfl, hb1⟩
  have hb1 := bcat2 (balloc w0 (.cells #[.slice u1 u2 u3] 22)) hb1
  have hb2 := bcat2 hb1 (balloc w1 (.cells #[.int .i64 c, .int .i64 i] 28))
  have hF2 := blk0 (w := w1) (T := 28) (.int .i64 c) (.int .i64 i)
  have hBw := bcat BG.bel hb2 BG.bel.size
  have hR2 := blk_below BG.res hb2
  obtain ⟨t0, t1, _, _⟩ := hF2.two
  obtain ⟨y0, y1, fy0, fy1⟩ := hR2.two
  obtain ⟨hR6, hB6⟩ := put2 hR2 hBw (by omega) c i
  go_wp2_with fail
  go_region
  all_goals (
    go_wp2
    obtain ⟨z0, z1, _, _⟩ := hR6.two
    exact bodyPost_ret (v := .tuple #[.slice none 0 0, .agg #[.int .i64 c, .int .i64 i]]) (by simp [results, Tryd.results29, go_sem, z0, z1]) rfl ⟨rfl, bdrew hB6⟩)
set_option maxRecDepth 100000 in
set_option maxHeartbeats 1000000 in
theorem rgt_good (n e : Nat) (v u : Value) (zs l : List Int) (w : World) (hv : Sl w v zs) (hg : IsGrp n zs e) (hu : Sl w u l) (hT : Tab w) (hl : lfault n l = (0, 0)) (hsb : subT n zs e (pset l) = true) :
    Calls Tryd.prog 29 #[.agg #[.int .i64 n, v], u] w fun x w' => ∃ r vs, x = .returned (.tuple #[r, .agg #[.int .i64 0, .int .i64 0]]) ∧ w'.ownsRow w.heap.size 22 1 r vs.length vs ∧ Lsts w' w.heap.size r vs (csl n (rgtq n zs (lst n (pset l))) n) ∧ Below w.heap.size w w' := by
  obtain ⟨u1, u2, u3, rfl⟩ := hu.isSlice
  obtain ⟨w0, BG⟩ := Beg3.new w n v (.slice u1 u2 u3)
  have hu0 := (hu.below BG.bel).alloc (.cells #[.slice u1 u2 u3] 22)
  have hv0 := (hv.below BG.bel).alloc (.cells #[.slice u1 u2 u3] 22)
  have hT0 := (hT.below BG.bel).below (balloc w0 (.cells #[.slice u1 u2 u3] 22))
  have HW := hide (wrong_ok n v zs w0.heap.size 1 [l] (w0.alloc (.cells #[.slice u1 u2 u3] 22)) hv0 hT0 (by simp) (fun t ht => by
    have : t = 0 := by simp at ht; omega
    subst this
    exact ⟨_, cell1 _ _ _, hu0⟩))
  have hs0 : w0.heap.size = w.heap.size + 1 + 1 + 1 := by rw [BG.eq]; simp
  rw [hs0, show [l].length = 1 from rfl, wfault_one] at HW
  obtain ⟨c0, c1, _, _⟩ := BG.box.two
  have c2 := BG.lis.cell
  rw [BG.eq] at c0 c1 c2
  rw [show ufault n zs l = (0, 0) by rw [ufault_u hg hl, if_pos hsb]] at HW
  simp only at HW
  have hli := set_lst (show (lfault n l).1 = 0 by rw [hl])
  have hu9 : Sl w (.slice u1 u2 u3) (li (lst n (pset l))) := by rw [← hli]; exact hu
  have hxm : ∀ x, x ∈ lst n (pset l) → x < n := fun x hx => (mem_lst.1 hx).1
  go_enter Tryd.func29, Tryd.ntmps29
  go_wp2_with fail
  rw [← BG.eq]
  clear c0 c1 c2
  refine HW.out.mono ?_
  rintro x w1 ⟨rfl, hb1⟩
  have hb1 := bcat2 (balloc w0 (.cells #[.slice u1 u2 u3] 22)) hb1
  have hb2 := bcat2 hb1 (balloc w1 (.cells #[.int .i64 0, .int .i64 0] 28))
  have hF2 := blk0 (w := w1) (T := 28) (.int .i64 0) (.int .i64 0)
  have hBw := bcat BG.bel hb2 BG.bel.size
  have hX2 := blk_below BG.box hb2
  have hL2 := Boxed.below BG.lis hb2
  have hR2 := blk_below BG.res hb2
  obtain ⟨t0, t1, _, _⟩ := hF2.two
  obtain ⟨c0, c1, _, _⟩ := hX2.two
  go_wp2_with fail
  generalize w1.alloc (.cells #[.int .i64 0, .int .i64 0] 28) = w2 at *
  clear t0 t1 c0 c1
  refine (parts_ok n 69 #[.pointer (some ⟨w.heap.size, 0, none⟩), .pointer (some ⟨w.heap.size + 1, 0, none⟩)] (rgtq n zs (lst n (pset l))) w2 hg.tab.le (hT.below hBw) (fun a W => call109 a _ _ W) (fun W a hW ha => rgt1_ok n v (.slice u1 u2 u3) zs (lst n (pset l)) a w.heap.size (w.heap.size + 1) W hg.tab ((hv.below hBw).below hW) ((hu9.below hBw).below hW) hxm ha (blk_below hX2 hW) (Boxed.below hL2 hW))).mono ?_
  rintro x w3 ⟨r, vs, D, rfl, hrow, hls, _, _, hb3⟩
  obtain ⟨ra, rcap, rfl⟩ := own_slice' hrow
  have hlt2 := hR2.lt
  have hB3 := bcat2 hBw hb3
  have hR3 := blk_below hR2 hb3
  obtain ⟨y0, y1, fy0, fy1⟩ := hR3.two
  obtain ⟨hR6, hB6⟩ := put2 hR3 hB3 (by omega) 0 0
  have hk6 : ∀ g, w2.heap.size + 1 ≤ g → g < w3.heap.size → ((w3.setCell ⟨w.heap.size + 1 + 1, 0, none⟩ (.int .i64 0)).setCell ⟨w.heap.size + 1 + 1, 1, none⟩ (.int .i64 0)).heap[g]? = w3.heap[g]? := fun g h1 _ => (Below.heap_setCell _ _ _ g (by simp; omega)).trans (Below.heap_setCell _ _ _ g (by simp; omega))
  have hrow6 := own_keep' hrow hk6
  have hls6 := hls.keep (by rw [size_set, size_set]; exact Nat.le_refl _) (fun g h1 h2 _ => hk6 g h1 h2) (.inl rfl)
  have hsz : w.heap.size ≤ w2.heap.size + 1 := by have := hBw.size; omega
  have hrow7 := owns_mono hrow6 hsz
  have hls7 := hls6.mono hsz
  clear hrow hls hrow6 hls6 hk6
  go_wp2
  generalize (w3.setCell ⟨w.heap.size + 1 + 1, 0, none⟩ (.int .i64 0)).setCell ⟨w.heap.size + 1 + 1, 1, none⟩ (.int .i64 0) = W at hR6 hB6 hrow7 hls7 ⊢
  obtain ⟨z0, z1, _, _⟩ := hR6.two
  exact bodyPost_ret (v := .tuple #[.slice ra vs.length rcap, .agg #[.int .i64 0, .int .i64 0]]) (by simp [results, Tryd.results29, go_sem, z0, z1]) rfl ⟨_, vs, rfl, hrow7, hls7, hB6⟩
end Go.Proofs.YtodabkjadejekaaDoor

namespace Go.Proofs.YtodabkjadejekaaDoor
open Go Go.RowKit

/-- A slice of slices reads as these lists. -/
def SlL (w : World) (v : Value) (rs : List (List Int)) : Prop := ∃ a cap pb po, v = .slice a rs.length cap ∧ (0 < rs.length → a = some ⟨pb, po, none⟩) ∧ (∀ j, j < rs.length → ∃ x, w.cell? ⟨pb, po + j, none⟩ = some x ∧ Sl w x (rs[j]?.getD [])) ∧ pb < w.heap.size ∧ rs.length ≤ cap ∧ cap ≤ maxLen
theorem SlL.below {w w' : World} {v : Value} {rs : List (List Int)} (h : SlL w v rs) (hb : Below w.heap.size w w') : SlL w' v rs := by
  obtain ⟨a, cap, pb, po, rfl, h1, h2, h3, h4, h5⟩ := h
  exact ⟨a, cap, pb, po, rfl, h1, fun j hj => by
    obtain ⟨x, hx, hs⟩ := h2 j hj
    exact ⟨x, below_cell hb hx, hs.below hb⟩, Nat.lt_of_lt_of_le h3 hb.size, h4, h5⟩
theorem SlL.isSlice {w : World} {v : Value} {rs : List (List Int)} (h : SlL w v rs) : ∃ a l c, v = .slice a l c := by
  obtain ⟨a, cap, _, _, rfl, _⟩ := h
  exact ⟨a, _, cap, rfl⟩
end Go.Proofs.YtodabkjadejekaaDoor

namespace Go.Proofs.YtodabkjadejekaaDoor
open Go Go.RowKit

theorem SlL.of_own {w : World} {base B : Nat} {v : Value} {vs : List Value} {rs : List (List Int)} (h : w.ownsRow base 22 1 v vs.length vs) (hl : Lsts w B v vs rs) (h0 : 0 < w.heap.size) : SlL w v rs := by
  have hlen := hl.1
  rcases h.2 with ⟨rfl, hz⟩ | ⟨g, cap, cur, rfl, _, hh, h1, h2, _⟩
  · have : rs = [] := List.length_eq_zero_iff.1 (by omega)
    subst this
    exact ⟨none, 0, 0, 0, rfl, by simp, by simp, h0, by simp, by unfold maxLen; omega⟩
  · refine ⟨some ⟨g, 0, none⟩, cap, g, 0, by rw [hlen], fun _ => rfl, fun j hj => ?_, (Array.getElem?_eq_some_iff.1 hh).1, by omega, h2⟩
    have hjv : j < vs.length := by omega
    have h3 := h.cells (g := g) rfl j vs[j] (by simp [hjv])
    rw [show (⟨g, 0, none⟩ : Addr).add j = ⟨g, j, none⟩ by unfold Addr.add; split <;> simp_all] at h3
    obtain ⟨a, c, pb, po, hx, hr, hp, hq1, hq2, _, _⟩ := hl.2 j vs[j] rs[j] (List.getElem?_eq_getElem hjv) (List.getElem?_eq_getElem hj)
    refine ⟨vs[j], by rw [Nat.zero_add]; exact h3, ?_⟩
    rw [List.getElem?_eq_getElem hj]
    exact ⟨a, c, pb, po, hx, hr, hp, hq1, hq2⟩
theorem csl_len (n : Nat) (f : Nat → Nat → Bool) (j : Nat) : (csl n f j).length = (fsts n f j).length := by unfold csl; rw [List.length_map]
/-- What Right and Left answer, read. -/
theorem lists_sl {k : Nat} {args : Array Value} {w : World} {rs : List (List Int)} (h0 : 0 < w.heap.size) (h : Calls Tryd.prog k args w fun x w' => ∃ r vs, x = .returned (.tuple #[r, .agg #[.int .i64 0, .int .i64 0]]) ∧ w'.ownsRow w.heap.size 22 1 r vs.length vs ∧ Lsts w' w.heap.size r vs rs ∧ Below w.heap.size w w') :
    Calls Tryd.prog k args w fun x w' => ∃ r1 r2 r3, x = .returned (.tuple #[.slice r1 r2 r3, .agg #[.int .i64 0, .int .i64 0]]) ∧ SlL w' (.slice r1 r2 r3) rs ∧ Below w.heap.size w w' := by
  refine h.mono ?_
  rintro x w' ⟨r, vs, rfl, hrow, hls, hb⟩
  have hs := SlL.of_own hrow hls (Nat.lt_of_lt_of_le h0 hb.size)
  obtain ⟨a, l, c, rfl⟩ := hs.isSlice
  exact ⟨a, l, c, rfl, hs, hb⟩
end Go.Proofs.YtodabkjadejekaaDoor

namespace Go.Proofs.YtodabkjadejekaaDoor
open Go Go.RowKit

def z4 : List Int := [0, 1, 2, 3, 1, 2, 3, 0, 2, 3, 0, 1, 3, 0, 1, 2]
theorem z4_grp : IsGrp 4 z4 0 := by
  obtain ⟨n, e, hn, hg, _⟩ := gfault_grp (N := 4) (zs := z4) (by decide +kernel)
  obtain rfl : n = 4 := by omega
  have h1 := hg.one
  have h2 : one 4 z4 = 0 := by decide +kernel
  obtain rfl : e = 0 := by rw [h2] at h1; omega
  exact hg
theorem z4_lf : lfault 4 [0, 2] = (0, 0) := by decide +kernel
theorem z4_sub : subT 4 z4 0 (pset [0, 2]) = true := by decide +kernel
theorem z4_csl : csl 4 (rgtq 4 z4 (lst 4 (pset [0, 2]))) 4 = [[0, 2], [1, 3]] := by decide +kernel
end Go.Proofs.YtodabkjadejekaaDoor

namespace Go.Proofs.YtodabkjadejekaaDoor
open Go Go.RowKit

end Go.Proofs.YtodabkjadejekaaDoor

namespace Go.Proofs.YtodabkjadejekaaDoor
open Go Go.RowKit

set_option maxRecDepth 100000 in
set_option maxHeartbeats 2000000 in
theorem rts_ok (n e a b gb lb : Nat) (v lv : Value) (zs : List Int) (xs : List Nat) (w : World) (g : IsGrp n zs e) (hv : Sl w v zs) (ha : a < n) (hb : b < n) (hX : BoxG w gb n v) (hL : Boxed w lb 22 lv) (hsL : Sl w lv (li xs)) :
    Calls Tryd.prog 108 #[.int .i64 a, .int .i64 b, .pointer (some ⟨lb, 0, none⟩), .pointer (some ⟨gb, 0, none⟩)] w fun z w' => z = .returned (.bool (decide (tm n zs b (iv n zs e a) ∈ xs))) ∧ Below w.heap.size w w' := by
  obtain ⟨l1, l2, l3, rfl⟩ := hsL.isSlice
  obtain ⟨hia, _, _, _⟩ := iv_spec g ha
  have HI := hide (fun W (h : Below w.heap.size w W) => Iiv_ok n a e v zs W g (hv.below h) ha)
  have HM := hide (fun W x y (h : Below w.heap.size w W) (hx : x < n) (hy : y < n) => M_ok n v zs x y W g.tab (hv.below h) hx hy)
  have HH := hide (fun W x (h : Below w.heap.size w W) => has_sl (.slice l1 l2 l3) xs x W (hsL.below h))
  obtain ⟨g0, g1, _, _⟩ := hX.two
  have c2 := hL.cell
  have hS : ∀ W, Below w.heap.size w W → (Below w.heap.size w W ∧ W.cell? ⟨gb, 0, none⟩ = some (.int .i64 n) ∧ W.cell? ⟨gb, 1, none⟩ = some v ∧ W.cell? ⟨lb, 0, none⟩ = some (.slice l1 l2 l3)) := fun W h => ⟨h, below_cell h g0, below_cell h g1, below_cell h c2⟩
  have hS0 := hS _ (bdrew (Below.refl _ w))
  clear g0 g1 c2
  go_enter Tryd.func108, Tryd.ntmps108
  go_wp2_with fail
  go_region_held3 (fun W => Below w.heap.size w W ∧ W.cell? ⟨gb, 0, none⟩ = some (.int .i64 n) ∧ W.cell? ⟨gb, 1, none⟩ = some v ∧ W.cell? ⟨lb, 0, none⟩ = some (.slice l1 l2 l3))
    (first | exact hS0 | assumption | exact hS _ (bcat2 (And.left ‹_›) hl1))
    (first
      | (go_at_call 77; refine (HI.out _ (And.left ‹_›)).mono ?_; rintro e1 U1 ⟨rfl, hl1⟩)
      | (go_at_call 45; refine (HM.out _ _ _ (And.left ‹_›) (by assumption) (by assumption)).mono ?_; rintro e2 U2 ⟨rfl, hl1⟩)
      | (go_at_call 26; refine (HH.out _ _ (And.left ‹_›)).mono ?_; rintro e3 U3 ⟨rfl, hl1⟩))
  all_goals (
    have hB9 := And.left ‹Below w.heap.size w U3 ∧ _›
    go_wp2
    go_ret
    exact ⟨rfl, hB9⟩)
end Go.Proofs.YtodabkjadejekaaDoor

namespace Go.Proofs.YtodabkjadejekaaDoor
open Go Go.RowKit

theorem call126 (b : Int) (x y : Value) (W : World) : Sem.run Tryd.prog (callFunc 117 (#[.int .i64 b] ++ #[x, y])) W = .ok (.enter 117 (#[.int .i64 b] ++ #[x, y])) W := by kernel_rfl
set_option maxRecDepth 100000 in
set_option maxHeartbeats 2000000 in
theorem cs1_ok (k a b fb ab : Nat) (caps : Array Value) (r : Bool) (w : World) (hF : Boxed w fb 117 (.func (.func k) #[] caps)) (hA : Boxed w ab 3 (.int .i64 a))
    (hcall : ∀ W, Sem.run Tryd.prog (callFunc k (#[.int .i64 a, .int .i64 b] ++ caps)) W = .ok (.enter k (#[.int .i64 a, .int .i64 b] ++ caps)) W)
    (hp : Calls Tryd.prog k (#[.int .i64 a, .int .i64 b] ++ caps) w fun e w' => e = .returned (.bool r) ∧ Below w.heap.size w w') :
    Calls Tryd.prog 117 (#[.int .i64 b] ++ #[.pointer (some ⟨fb, 0, none⟩), .pointer (some ⟨ab, 0, none⟩)]) w fun e w' => e = .returned (.bool r) ∧ Below w.heap.size w w' := by
  show Calls Tryd.prog 117 #[.int .i64 b, .pointer (some ⟨fb, 0, none⟩), .pointer (some ⟨ab, 0, none⟩)] w _
  have c0 := hF.cell
  have c1 := hA.cell
  have HP := hide hp
  clear hp
  go_enter Tryd.func117, Tryd.ntmps117
  go_wp2_with fail
  refine HP.out.mono ?_
  rintro x w1 ⟨rfl, hb1⟩
  go_wp2
  go_ret
  exact ⟨rfl, hb1⟩

/-- The document's sets: of each thing its set, where it is the least one of it. -/
def rcs (n : Nat) (q : Nat → Nat → Bool) (j : Nat) : List (List Int) := ((List.range j).filter fun a => decide ((lst n (q a)).head? = some a)).map fun a => li (lst n (q a))
theorem rcs_yes {n j : Nat} {q : Nat → Nat → Bool} (h : (lst n (q j)).head? = some j) : rcs n q (j + 1) = rcs n q j ++ [li (lst n (q j))] := by
  unfold rcs
  rw [List.range_succ, List.filter_append, List.filter_cons, if_pos (by simpa using h), List.filter_nil, List.map_append]
  rfl
theorem rcs_no {n j : Nat} {q : Nat → Nat → Bool} (h : (lst n (q j)).head? ≠ some j) : rcs n q (j + 1) = rcs n q j := by
  unfold rcs
  rw [List.range_succ, List.filter_append, List.filter_cons, if_neg (by simpa using h), List.filter_nil, List.append_nil]
theorem rcs_len (n : Nat) (q : Nat → Nat → Bool) (j : Nat) : (rcs n q j).length ≤ j := by
  unfold rcs
  rw [List.length_map]
  exact Nat.le_trans (List.length_filter_le _ _) (by simp)
/-- The number that lies in a box. -/
def boxN (w : World) (i : Value) : Nat := match i with
  | .pointer (some a) => (intOf ((w.cell? a).getD (.int .i64 0))).toNat
  | _ => 0
theorem boxN_eq {w : World} {b j : Nat} (h : Boxed w b 3 (.int .i64 j)) : boxN w (.pointer (some ⟨b, 0, none⟩)) = j := by simp [boxN, h.cell, intOf]
theorem Lsts.ext {W : World} {B : Nat} {r : Value} {vs : List Value} {ls ms : List (List Int)} (h : Lsts W B r vs ls) (e : ms = ls) : Lsts W B r vs ms := by rw [e]; exact h
end Go.Proofs.YtodabkjadejekaaDoor

namespace Go.Proofs.YtodabkjadejekaaDoor
open Go Go.RowKit

/-- A box that is made anew, for the next round. -/
theorem newbox (W : World) (j : Nat) : Boxed (W.alloc (.cells #[.int .i64 ((j : Int) + 1)] 3)) W.heap.size 3 (.int .i64 ((j + 1 : Nat) : Int)) ∧ Below W.heap.size W (W.alloc (.cells #[.int .i64 ((j : Int) + 1)] 3)) :=
  ⟨Boxed.new W 3 (.int .i64 ((j : Int) + 1)), balloc W _⟩
set_option maxRecDepth 100000 in
set_option maxHeartbeats 8000000 in
theorem cosets_ok (n k : Nat) (v : Value) (caps : Array Value) (q : Nat → Nat → Bool) (w : World) (hn : n ≤ 60)
    (hcall : ∀ a b W, Sem.run Tryd.prog (callFunc k (#[.int .i64 a, .int .i64 b] ++ caps)) W = .ok (.enter k (#[.int .i64 a, .int .i64 b] ++ caps)) W)
    (hp : ∀ (W : World) (a b : Nat), Below w.heap.size w W → a < n → b < n → Calls Tryd.prog k (#[.int .i64 a, .int .i64 b] ++ caps) W fun e w' => e = .returned (.bool (q a b)) ∧ Below W.heap.size W w') :
    Calls Tryd.prog 107 #[.agg #[.int .i64 n, v], .func (.func k) #[] caps] w fun x w' => ∃ r vs, x = .returned r ∧ w'.ownsRow w.heap.size 22 1 r vs.length vs ∧ Lsts w' w.heap.size r vs (rcs n q n) ∧ Below w.heap.size w w' := by
  obtain ⟨i0, hi, hz0, hz1, hz2⟩ := info_parts info22b
  have HP := hide hp
  have HC := hide hcall
  clear hp hcall
  obtain ⟨W0, hW0⟩ : ∃ W0, W0 = (w.alloc (.cells #[.int .i64 n, v] 24)).alloc (.cells #[.func (.func k) #[] caps] 117) := ⟨_, rfl⟩
  have hs0 : W0.heap.size = w.heap.size + 1 + 1 := by rw [hW0]; simp
  have hX0 : BoxG W0 w.heap.size n v := by rw [hW0]; exact (blk0 (w := w) (T := 24) _ _).alloc _
  have hF0 : Boxed W0 (w.heap.size + 1) 117 (.func (.func k) #[] caps) := by
    have h := Boxed.new (w.alloc (.cells #[.int .i64 n, v] 24)) 117 (.func (.func k) #[] caps)
    rw [World.size_alloc, ← hW0] at h
    exact h
  have hb0 : Below w.heap.size w W0 := by rw [hW0]; exact (balloc w _).alloc (by simp) _
  have hP1 : Boxed (W0.alloc (.cells #[.int .i64 0] 3)) (w.heap.size + 1 + 1) 3 (.int .i64 (0 : Nat)) := by
    rw [← hs0]; exact Boxed.new W0 3 (.int .i64 0)
  have hb1 : Below W0.heap.size W0 (W0.alloc (.cells #[.int .i64 0] 3)) := balloc W0 _
  have hX1 := blk_below hX0 hb1
  have hF1 := Boxed.below hF0 hb1
  have hB1 := bcat2 hb0 hb1
  rw [hW0] at hP1 hX1 hF1 hB1
  clear hX0 hF0 hb0 hb1 hs0 hW0
  go_enter Tryd.func107, Tryd.ntmps107
  go_wp2
  go_loopw [5, 6] (fun r i wr => ∃ (j pb : Nat) (vs : List Value), j ≤ n ∧ i = .pointer (some ⟨pb, 0, none⟩) ∧ Boxed wr pb 3 (.int .i64 j) ∧ w.heap.size + 1 < pb ∧ wr.ownsRow (w.heap.size + 1 + 1) 22 1 r vs.length vs ∧ Lsts wr (w.heap.size + 1 + 1) r vs (rcs n q j) ∧ BoxG wr w.heap.size n v ∧ Boxed wr (w.heap.size + 1) 117 (.func (.func k) #[] caps) ∧ Below w.heap.size w wr) (fun _ i wr => n - boxN wr i)
  case atStart => exact ⟨0, w.heap.size + 1 + 1, [], Nat.zero_le _, rfl, hP1, by omega, World.ownsRow_nil _ _ _ _, ⟨rfl, fun t x l h => by simp at h⟩, hX1, hF1, hB1⟩
  case round =>
    clear hP1 hX1 hF1 hB1
    obtain ⟨j, pb, vs, hj, rfl, hP, hpb, hrow, hls, hX, hF, hB⟩ := hrel
    obtain ⟨ra, rcap, rfl⟩ := own_slice' hrow
    obtain ⟨c0, c1, _, _⟩ := hX.two
    have c2 := hP.cell
    by_cases hlt : j < n
    · have hji : (j : Int) < (n : Int) := by omega
      go_wp2_with fail
      refine (rthose_ok n 117 v #[.pointer (some ⟨w.heap.size + 1, 0, none⟩), .pointer (some ⟨pb, 0, none⟩)] (q j) wr hn (fun a W => call126 a _ _ W) (fun W b hW hb => cs1_ok k j b (w.heap.size + 1) pb caps (q j b) W (Boxed.below hF hW) (Boxed.below hP hW) (fun W => HC.out j b W) (HP.out W j b (bcat2 hB hW) hlt hb))).mono ?_
      rintro x w1 ⟨c, rfl, hc, hb1⟩
      clear c0 c1 c2
      have hP1 := Boxed.below hP hb1
      have hX1 := blk_below hX hb1
      have hF1 := Boxed.below hF hb1
      have hB1 := bcat2 hB hb1
      have hrow1 := hrow.kept (below_grown hb1 none) (by cases ra <;> simp [Value.ownBlock])
      have hls1 : Lsts w1 (w.heap.size + 1 + 1) (.slice ra vs.length rcap) vs (rcs n q j) := hls.keep hb1.size (fun g _ h2 _ => hb1.block g h2) (.inl rfl)
      have hown1 : ∀ g, (Value.slice ra vs.length rcap).ownBlock = some g → g < wr.heap.size := fun g hg => by
        rcases hrow.2 with ⟨h1, _⟩ | ⟨g', cap, cur, h1, _, hh9, _⟩
        · rw [h1] at hg; simp [Value.ownBlock] at hg
        · rw [h1] at hg
          simp [Value.ownBlock] at hg
          subst hg
          exact (Array.getElem?_eq_some_iff.1 hh9).1
      have hwr : w.heap.size + 1 + 1 ≤ wr.heap.size := by have := hP.lt; omega
      have hb1s := hb1.size
      have HPW := hide hP
      clear hP hX hF hB hrow hls hb1
      have c2 := hP1.cell
      have hvl : vs.length ≤ j := by rw [hls1.1]; exact rcs_len n q j
      cases hl : lst n (q j) with
      | nil =>
        have hc : w1.ownsRow wr.heap.size 3 1 c 0 [] := by rw [hl] at hc; exact hc
        have HE := hide (rcs_no (n := n) (j := j) (q := q) (by rw [hl]; simp))
        obtain ⟨ca, ccap, rfl⟩ := own_slice' hc
        go_wp2_with fail
        go_quiet (fail)
        have hbq : Below w1.heap.size w1 (w1.drewN nq) := bdrewN (Below.refl _ w1) nq
        generalize w1.drewN nq = wq at hbq ⊢
        clear c2
        have hP1 := Boxed.below hP1 hbq
        have hX1 := blk_below hX1 hbq
        have hF1 := Boxed.below hF1 hbq
        have hB1 := bcat2 hB1 hbq
        have hrow1 := hrow1.kept (below_grown hbq none) (by cases ra <;> simp [Value.ownBlock])
        have hls1 := hls1.keep (r' := .slice ra (vs.length) rcap) hbq.size (fun g _ h2 _ => hbq.block g h2) (.inl rfl)
        have c2 := hP1.cell
        have hqs : w.heap.size + 1 < wq.heap.size := by have := hbq.size; omega
        obtain ⟨hN1, hN2⟩ := newbox wq j
        go_wp2
        go_roundw
        case rel => exact ⟨j + 1, wq.heap.size, vs, by omega, rfl, hN1, by omega, hrow1.kept (below_grown hN2 none) (by cases ra <;> simp [Value.ownBlock]), by rw [HE.out]; exact hls1.keep (r' := .slice ra (vs.length) rcap) hN2.size (fun g _ h2 _ => hN2.block g h2) (.inl rfl), blk_below hX1 hN2, Boxed.below hF1 hN2, bcat2 hB1 hN2⟩
        case measure =>
          show n - boxN _ (Value.pointer (some ⟨wq.heap.size, 0, none⟩)) < n - boxN wr (Value.pointer (some ⟨pb, 0, none⟩))
          rw [boxN_eq hN1, boxN_eq HPW.out]
          omega
      | cons x t =>
        have hc : w1.ownsRow wr.heap.size 3 1 c (t.length + 1) ((li (x :: t)).map (Value.int .i64)) := by rw [hl] at hc; simpa [Row, li] using hc
        obtain ⟨cg, ccap, rfl⟩ := ownsRow_succ hc
        have hcF : SlF wr.heap.size w1 (.slice (some ⟨cg, 0, none⟩) (t.length + 1) ccap) (li (x :: t)) := SlF.of_own (by simp [li]) hc
        obtain ⟨qa, qcap, qb, qo, hqe, hq, hq1, hq2, hq3, hq4⟩ := hcF
        have hx0 := hq.cell 0 (by simp [li])
        have hqa : qa = some ⟨cg, 0, none⟩ := by injection hqe with h1; exact h1.symm
        have hqc : qcap = ccap := by injection hqe with _ _ h1; exact h1.symm
        have hqb : qb = cg ∧ qo = 0 := by
          have := hq.at_ (by simp [li])
          rw [hqa] at this
          injection this with h1
          injection h1 with h1 h2
          exact ⟨h1.symm, h2.symm⟩
        obtain ⟨rfl, rfl⟩ := hqb
        subst hqa hqc
        simp only [li, List.map_cons, List.getElem?_cons_zero, Option.getD_some, Nat.add_zero] at hx0
        have hxh : (lst n (q j)).head? = some x := by rw [hl]; rfl
        have HQ := hide hq
        clear hq hqe hc
        have hlen0 : ((0 : Nat) : Int) < ((t.length + 1 : Nat) : Int) := by omega
        by_cases hxj : x = j
        · subst hxj
          have HE := hide (rcs_yes (n := n) (j := x) (q := q) hxh)
          go_wp2_with fail
          go_quiet (fail)
          have hbq : Below w1.heap.size w1 (w1.drewN nq) := bdrewN (Below.refl _ w1) nq
          generalize w1.drewN nq = wq at hbq ⊢
          clear c2 hx0
          have hP1 := Boxed.below hP1 hbq
          have hX1 := blk_below hX1 hbq
          have hF1 := Boxed.below hF1 hbq
          have hB1 := bcat2 hB1 hbq
          have hrow1 := hrow1.kept (below_grown hbq none) (by cases ra <;> simp [Value.ownBlock])
          have hls1 := hls1.keep (r' := .slice ra (vs.length) rcap) hbq.size (fun g _ h2 _ => hbq.block g h2) (.inl rfl)
          have hqw : Reads wq (some ⟨qb, 0, none⟩) qb 0 (li (x :: t)) := HQ.out.of_eq (hbq.block qb hq1)
          have hq1 : qb < wq.heap.size := Nat.lt_of_lt_of_le hq1 hbq.size
          have hq2 : t.length + 1 ≤ qcap := by simpa [li] using hq2
          have HQW := hide hqw
          have hqz : w.heap.size + 1 + 1 ≤ wq.heap.size := by have := hbq.size; omega
          have hqs := hbq.size
          clear hqw hbq HQ
          go_wp2_with (first
            | (at_builtin; refine wpList_append_own_at _ rfl _ _ 43 rfl (w.heap.size + 1 + 1) 22 i0 (.slice none 0 0) 1 24 under25b hi hz0 hz1 hz2 rfl (by decide) _ _ _ rfl (World.ownsRow.alloc hrow1 _) ⟨wq.heap.size, 0, none⟩ 1 1 [.slice (some ⟨qb, 0, none⟩) (t.length + 1) qcap] rfl rfl ?c1 ?c2 ?c3 ?c4 ?c5 ?_))
          case c1 => exact cell_one_new _ _ _
          case c2 => simp [Value.oneCell']
          case c3 => unfold maxLen; omega
          case c4 => omega
          case c5 => simp; omega
          intro v' w4 hown' hgrow hnil hloc
          obtain ⟨ra', rcap', rfl⟩ := own_slice' hown'
          have hB4 : Below w.heap.size w w4 := (hB1.alloc hB1.size _).grown hgrow (by simp; omega) (fun t e => by have := owns_ge hrow1 t e; omega)
          have hbl : ∀ g, g < wq.heap.size → (Value.slice ra vs.length rcap).ownBlock ≠ some g → w4.heap[g]? = wq.heap[g]? := fun g h1 h2 => (hgrow.block g (by simp; omega) (fun e => h2 e.symm)).trans (Below.block (balloc wq _) g h1)
          have hs4 : wq.heap.size < w4.heap.size := by have := hgrow.size; simp at this; omega
          have hlo : (Value.slice ra' (vs.length + 1) rcap').ownBlock = (Value.slice ra vs.length rcap).ownBlock ∨ ∀ g, (Value.slice ra' (vs.length + 1) rcap').ownBlock = some g → wq.heap.size ≤ g := by
            rcases hloc with h | h
            · exact .inl h
            · right; intro g hg; rw [h] at hg; simp at hg; omega
          have hle : (li (x :: t)).length = t.length + 1 := by simp [li]
          have hls4 := (hls1.keep (r' := .slice ra' (vs.length + 1) rcap') (by omega) (fun g _ h2 h3 => hbl g h2 h3) hlo).snoc (x := .slice (some ⟨qb, 0, none⟩) (t.length + 1) qcap) (l := li (x :: t)) ⟨some ⟨qb, 0, none⟩, qcap, qb, 0, by rw [hle], HQW.out.of_eq (hbl qb hq1 (fun e => by have := hown1 _ e; omega)), by omega, by rw [hle]; exact hq2, hq3, by omega, fun g hg e => by
            subst e
            rcases hlo with h | h
            · have := hown1 _ (h ▸ hg); omega
            · have := h _ hg; omega⟩
          have hrow4 : w4.ownsRow (w.heap.size + 1 + 1) 22 1 (.slice ra' (vs.length + 1) rcap') (vs ++ [Value.slice (some ⟨qb, 0, none⟩) (t.length + 1) qcap]).length (vs ++ [Value.slice (some ⟨qb, 0, none⟩) (t.length + 1) qcap]) := by simpa using hown'
          have hP4 := Boxed.kept (Boxed.alloc hP1 _) hgrow (hP1.not_row (by decide) hrow1)
          have hF4 := Boxed.kept (Boxed.alloc hF1 _) hgrow (hF1.not_row (by decide) hrow1)
          have hX4 : BoxG w4 w.heap.size n v := hX1.of_eq (hbl _ (by omega) (fun e => by have := owns_ge hrow1 _ e; omega))
          clear hown' hgrow hloc hlo hbl hrow1 hls1 hP1 hF1 hX1 hB1
          have c2 := hP4.cell
          obtain ⟨hN1, hN2⟩ := newbox w4 x
          have hlv : (vs ++ [Value.slice (some ⟨qb, 0, none⟩) (t.length + 1) qcap]).length = vs.length + 1 := by simp
          rw [hlv] at hrow4
          go_wp2
          go_roundw
          case rel => exact ⟨x + 1, w4.heap.size, vs ++ [Value.slice (some ⟨qb, 0, none⟩) (t.length + 1) qcap], by omega, rfl, hN1, by omega, by rw [hlv]; exact hrow4.kept (below_grown hN2 none) (by cases ra' <;> simp [Value.ownBlock]), by rw [HE.out, hl]; exact hls4.keep (r' := .slice ra' (vs.length + 1) rcap') hN2.size (fun g _ h2 _ => hN2.block g h2) (.inl rfl), blk_below hX4 hN2, Boxed.below hF4 hN2, bcat2 hB4 hN2⟩
          case measure =>
            show n - boxN _ (Value.pointer (some ⟨w4.heap.size, 0, none⟩)) < n - boxN wr (Value.pointer (some ⟨pb, 0, none⟩))
            rw [boxN_eq hN1, boxN_eq HPW.out]
            omega
        · have HE := hide (rcs_no (n := n) (j := j) (q := q) (by rw [hxh]; simpa using hxj))
          have hxi : ¬ (x : Int) = (j : Int) := by omega
          go_wp2_with fail
          go_quiet (fail)
          have hbq : Below w1.heap.size w1 (w1.drewN nq) := bdrewN (Below.refl _ w1) nq
          generalize w1.drewN nq = wq at hbq ⊢
          clear c2 hx0
          have hP1 := Boxed.below hP1 hbq
          have hX1 := blk_below hX1 hbq
          have hF1 := Boxed.below hF1 hbq
          have hB1 := bcat2 hB1 hbq
          have hrow1 := hrow1.kept (below_grown hbq none) (by cases ra <;> simp [Value.ownBlock])
          have hls1 := hls1.keep (r' := .slice ra (vs.length) rcap) hbq.size (fun g _ h2 _ => hbq.block g h2) (.inl rfl)
          have c2 := hP1.cell
          have hqs : w.heap.size + 1 < wq.heap.size := by have := hbq.size; omega
          obtain ⟨hN1, hN2⟩ := newbox wq j
          go_wp2
          go_roundw
          case rel => exact ⟨j + 1, wq.heap.size, vs, by omega, rfl, hN1, by omega, hrow1.kept (below_grown hN2 none) (by cases ra <;> simp [Value.ownBlock]), by rw [HE.out]; exact hls1.keep (r' := .slice ra (vs.length) rcap) hN2.size (fun g _ h2 _ => hN2.block g h2) (.inl rfl), blk_below hX1 hN2, Boxed.below hF1 hN2, bcat2 hB1 hN2⟩
          case measure =>
            show n - boxN _ (Value.pointer (some ⟨wq.heap.size, 0, none⟩)) < n - boxN wr (Value.pointer (some ⟨pb, 0, none⟩))
            rw [boxN_eq hN1, boxN_eq HPW.out]
            omega
    · have hjn : j = n := by omega
      subst hjn
      have hrow9 := owns_mono hrow (show w.heap.size ≤ w.heap.size + 1 + 1 by omega)
      have hls9 := hls.mono (show w.heap.size ≤ w.heap.size + 1 + 1 by omega)
      go_wp2
      go_ret
      exact ⟨_, vs, rfl, hrow9, hls9, hB⟩
end Go.Proofs.YtodabkjadejekaaDoor

namespace Go.Proofs.YtodabkjadejekaaDoor
open Go Go.RowKit

theorem ent107 (a b : Int) (x y : Value) (W : World) : Sem.run Tryd.prog (callFunc 108 (#[.int .i64 a, .int .i64 b] ++ #[x, y])) W = .ok (.enter 108 (#[.int .i64 a, .int .i64 b] ++ #[x, y])) W := by kernel_rfl
set_option maxRecDepth 100000 in
set_option maxHeartbeats 2000000 in
theorem rof_ok (n e : Nat) (v lv : Value) (zs : List Int) (xs : List Nat) (w : World) (g : IsGrp n zs e) (hv : Sl w v zs) (hs : Sl w lv (li xs)) :
    Calls Tryd.prog 75 #[.agg #[.int .i64 n, v], lv] w fun x w' => ∃ r, x = .returned r ∧ SlL w' r (rcs n (fun a b => decide (tm n zs b (iv n zs e a) ∈ xs)) n) ∧ Below w.heap.size w w' := by
  obtain ⟨l1, l2, l3, rfl⟩ := hs.isSlice
  obtain ⟨W0, hW0⟩ : ∃ W0, W0 = (w.alloc (.cells #[.int .i64 n, v] 24)).alloc (.cells #[.slice l1 l2 l3] 22) := ⟨_, rfl⟩
  have hX0 : BoxG W0 w.heap.size n v := by rw [hW0]; exact (blk0 (w := w) (T := 24) _ _).alloc _
  have hF0 : Boxed W0 (w.heap.size + 1) 22 (.slice l1 l2 l3) := by
    have h := Boxed.new (w.alloc (.cells #[.int .i64 n, v] 24)) 22 (.slice l1 l2 l3)
    rw [World.size_alloc, ← hW0] at h
    exact h
  have hb0 : Below w.heap.size w W0 := by rw [hW0]; exact (balloc w _).alloc (by simp) _
  have HC := hide (cosets_ok n 108 v #[.pointer (some ⟨w.heap.size + 1, 0, none⟩), .pointer (some ⟨w.heap.size, 0, none⟩)] (fun a b => decide (tm n zs b (iv n zs e a) ∈ xs)) W0 g.tab.le (fun a b W => ent107 a b _ _ W) (fun W a b hW ha hb => rts_ok n e a b w.heap.size (w.heap.size + 1) v (.slice l1 l2 l3) zs xs W g ((hv.below hb0).below hW) ha hb (blk_below hX0 hW) (Boxed.below hF0 hW) ((hs.below hb0).below hW)))
  have h9 : 0 < W0.heap.size := Nat.lt_of_le_of_lt (Nat.zero_le _) hX0.lt
  obtain ⟨c0, c1, _, _⟩ := hX0.two
  rw [hW0] at c0 c1
  go_enter Tryd.func75, Tryd.ntmps75
  go_wp2_with fail
  rw [← hW0]
  clear c0 c1
  refine HC.out.mono ?_
  rintro x w1 ⟨r, vs, rfl, hrow, hls, hb1⟩
  have hR := SlL.of_own hrow hls (Nat.lt_of_lt_of_le h9 hb1.size)
  obtain ⟨r1, r2, r3, rfl⟩ := hR.isSlice
  clear hrow hls
  go_wp2
  go_ret
  exact ⟨_, rfl, hR, bcat2 hb0 hb1⟩
end Go.Proofs.YtodabkjadejekaaDoor

namespace Go.Proofs.YtodabkjadejekaaDoor
open Go Go.RowKit

/-- Sets, one for each thing: each has its thing, and is that of each of its things. -/
structure Prts (n : Nat) (f : Nat → Nat → Bool) : Prop where
  refl : ∀ a, a < n → f a a = true
  same : ∀ a b, a < n → b < n → f a b = true → ∀ c, c < n → f a c = f b c
theorem Prts.symm {n a b : Nat} {f : Nat → Nat → Bool} (h : Prts n f) (ha : a < n) (hb : b < n) (hf : f a b = true) : f b a = true := by
  rw [← h.same a b ha hb hf a ha]; exact h.refl a ha
theorem head_lst {n a : Nat} {p : Nat → Bool} : (lst n p).head? = some a ↔ a < n ∧ p a = true ∧ ∀ b, b < a → p b = false := by
  unfold lst
  rw [List.head?_filter, List.find?_range_eq_some]
  simp only [List.mem_range, Bool.not_eq_true']
  exact ⟨fun ⟨h1, h2, h3⟩ => ⟨h2, h1, h3⟩, fun ⟨h1, h2, h3⟩ => ⟨h2, h1, h3⟩⟩
theorem Prts.first {n a : Nat} {f : Nat → Nat → Bool} (h : Prts n f) (ha : a < n) : ((List.range a).all fun b => decide (bs (f b) n ≠ bs (f a) n)) = decide ((lst n (f a)).head? = some a) := by
  rw [Bool.eq_iff_iff, decide_eq_true_eq, head_lst]
  simp only [List.all_eq_true, List.mem_range, decide_eq_true_eq]
  constructor
  · intro hne
    refine ⟨ha, h.refl a ha, fun b hb => ?_⟩
    cases hab : f a b with
    | false => rfl
    | true => exact absurd (bs_ext fun c hc => (h.same a b ha (by omega) hab c hc).symm) (hne b hb)
  · rintro ⟨_, _, h3⟩ b hb he
    have h4 := bs_inj he b (by omega)
    rw [h.refl b (by omega), h3 b hb] at h4
    exact absurd h4 (by decide)
theorem Prts.fsts {n : Nat} {f : Nat → Nat → Bool} (h : Prts n f) : fsts n f n = (List.range n).filter fun a => decide ((lst n (f a)).head? = some a) := by
  unfold Go.Proofs.YtodabkjadejekaaDoor.fsts
  exact List.filter_congr fun a ha => h.first (List.mem_range.1 ha)
theorem Prts.csl_rcs {n : Nat} {f q : Nat → Nat → Bool} (h : Prts n f) (hq : ∀ a b, a < n → b < n → q a b = f a b) : csl n f n = rcs n q n := by
  have hl : ∀ a, a < n → lst n (q a) = lst n (f a) := fun a ha => lst_congr fun b hb => hq a b ha hb
  unfold csl rcs
  rw [h.fsts]
  have hf : ((List.range n).filter fun a => decide ((lst n (f a)).head? = some a)) = (List.range n).filter fun a => decide ((lst n (q a)).head? = some a) := List.filter_congr fun a ha => by rw [hl a (List.mem_range.1 ha)]
  rw [hf]
  exact List.map_congr_left fun a ha => by rw [hl a (List.mem_range.1 (List.mem_filter.1 ha).1)]
theorem Prts.card {n m : Nat} {f : Nat → Nat → Bool} (h : Prts n f) (hm : ∀ a, a < n → (lst n (f a)).length = m) : n = (csl n f n).length * m := by
  have hK : ∀ a, a ∈ Go.Proofs.YtodabkjadejekaaDoor.fsts n f n ↔ a < n ∧ (lst n (f a)).head? = some a := fun a => by
    rw [h.fsts, List.mem_filter, List.mem_range, decide_eq_true_eq]
  have hd : ∀ a, a < n → ∃ r, (lst n (f a)).head? = some r ∧ r < n ∧ f a r = true ∧ (lst n (f r)).head? = some r := fun a ha => by
    have hne : lst n (f a) ≠ [] := List.ne_nil_of_mem (mem_lst.2 ⟨ha, h.refl a ha⟩)
    obtain ⟨r, t, ht⟩ := List.exists_cons_of_ne_nil hne
    have hr : (lst n (f a)).head? = some r := by rw [ht]; rfl
    obtain ⟨h1, h2, h3⟩ := head_lst.1 hr
    refine ⟨r, hr, h1, h2, head_lst.2 ⟨h1, h.refl r h1, fun b hb => ?_⟩⟩
    rw [← h.same a r ha h1 h2 b (by omega)]
    exact h3 b hb
  have := Fin.fib_len (fun a => (lst n (f a)).head?.getD 0) m (Go.Proofs.YtodabkjadejekaaDoor.fsts n f n) (List.range n) (List.nodup_range.sublist List.filter_sublist) (fun x hx => by
    obtain ⟨r, hr, h1, _, h3⟩ := hd x (List.mem_range.1 hx)
    rw [hr]
    exact (hK r).2 ⟨h1, h3⟩) (fun k hk => by
    obtain ⟨hkn, hkh⟩ := (hK k).1 hk
    rw [← hm k hkn]
    unfold lst
    congr 1
    refine List.filter_congr fun x hx => ?_
    have hxn := List.mem_range.1 hx
    rw [Bool.eq_iff_iff, decide_eq_true_eq]
    constructor
    · intro he
      obtain ⟨r, hr, h1, h2, _⟩ := hd x hxn
      have hrk : r = k := by
        have h9 : (lst n (f x)).head?.getD 0 = k := he
        rw [hr] at h9
        exact h9
      subst hrk
      exact h.symm hxn h1 h2
    · intro he
      have : lst n (f x) = lst n (f k) := lst_congr fun c hc => (h.same k x hkn hxn he c hc).symm
      show (lst n (f x)).head?.getD 0 = k
      rw [this, hkh]; rfl)
  rw [List.length_range] at this
  rw [csl_len]
  exact this

section
variable {n e : Nat} {zs : List Int} {q : Nat → Bool}
theorem mem_rgt {xs : List Nat} {a y : Nat} : rgtq n zs xs a y = true ↔ ∃ x, x ∈ xs ∧ tm n zs x a = y := by
  unfold rgtq; simp only [List.any_eq_true, decide_eq_true_eq]
theorem mem_lft {xs : List Nat} {a y : Nat} : lftq n zs xs a y = true ↔ ∃ x, x ∈ xs ∧ tm n zs a x = y := by
  unfold lftq; simp only [List.any_eq_true, decide_eq_true_eq]
theorem sub_iv (g : IsGrp n zs e) (hs : subT n zs e q = true) {x : Nat} (hx : x < n) (hq : q x = true) : iv n zs e x < n ∧ q (iv n zs e x) = true := by
  obtain ⟨h1, h2, _, _⟩ := iv_spec g hx
  exact ⟨h1, (subT_iff.1 hs).inv (grp_fg g) (List.mem_range.2 hx) (List.mem_range.2 h1) h2 hq⟩
theorem sub_mul (hs : subT n zs e q = true) {x y : Nat} (hx : x < n) (hy : y < n) (h1 : q x = true) (h2 : q y = true) : q (tm n zs x y) = true :=
  (subT_iff.1 hs).mul x y (List.mem_range.2 hx) (List.mem_range.2 hy) h1 h2
/-- A right coset by what its things, by an inverse, are. -/
theorem rgt_iff (g : IsGrp n zs e) {a b : Nat} (ha : a < n) (hb : b < n) : rgtq n zs (lst n q) a b = decide (tm n zs b (iv n zs e a) ∈ lst n q) := by
  obtain ⟨h1, h2, h3, _⟩ := iv_spec g ha
  rw [Bool.eq_iff_iff, mem_rgt, decide_eq_true_eq]
  constructor
  · rintro ⟨x, hx, rfl⟩
    obtain ⟨hxn, _⟩ := mem_lst.1 hx
    rw [g.ass x a _ hxn ha h1, h2, g.right x hxn]
    exact hx
  · intro h
    exact ⟨_, h, by rw [g.ass b _ a hb h1 ha, h3, g.right b hb]⟩
theorem lft_iff (g : IsGrp n zs e) {a b : Nat} (ha : a < n) (hb : b < n) : lftq n zs (lst n q) a b = decide (tm n zs (iv n zs e a) b ∈ lst n q) := by
  obtain ⟨h1, h2, h3, _⟩ := iv_spec g ha
  rw [Bool.eq_iff_iff, mem_lft, decide_eq_true_eq]
  constructor
  · rintro ⟨x, hx, rfl⟩
    obtain ⟨hxn, _⟩ := mem_lst.1 hx
    rw [← g.ass _ a x h1 ha hxn, h3, g.left x hxn]
    exact hx
  · intro h
    exact ⟨_, h, by rw [← g.ass a _ b ha h1 hb, h2, g.left b hb]⟩
theorem rgt_parts (g : IsGrp n zs e) (hs : subT n zs e q = true) : Prts n (rgtq n zs (lst n q)) where
  refl := fun a ha => mem_rgt.2 ⟨e, mem_lst.2 ⟨g.elt, (subT_iff.1 hs).one⟩, g.left a ha⟩
  same := fun a b ha hb hab c hc => by
    obtain ⟨x, hx, rfl⟩ := mem_rgt.1 hab
    obtain ⟨hxn, hqx⟩ := mem_lst.1 hx
    obtain ⟨i1, i2⟩ := sub_iv g hs hxn hqx
    obtain ⟨_, i3, i4, _⟩ := iv_spec g hxn
    rw [Bool.eq_iff_iff, mem_rgt, mem_rgt]
    constructor
    · rintro ⟨y, hy, rfl⟩
      obtain ⟨hyn, hqy⟩ := mem_lst.1 hy
      refine ⟨tm n zs y (iv n zs e x), mem_lst.2 ⟨tm_lt g.tab hyn i1, sub_mul hs hyn i1 hqy i2⟩, ?_⟩
      rw [g.ass y _ _ hyn i1 hb, ← g.ass _ x a i1 hxn ha, i4, g.left a ha]
    · rintro ⟨y, hy, rfl⟩
      obtain ⟨hyn, hqy⟩ := mem_lst.1 hy
      exact ⟨tm n zs y x, mem_lst.2 ⟨tm_lt g.tab hyn hxn, sub_mul hs hyn hxn hqy hqx⟩, g.ass y x a hyn hxn ha⟩
theorem lft_parts (g : IsGrp n zs e) (hs : subT n zs e q = true) : Prts n (lftq n zs (lst n q)) where
  refl := fun a ha => mem_lft.2 ⟨e, mem_lst.2 ⟨g.elt, (subT_iff.1 hs).one⟩, g.right a ha⟩
  same := fun a b ha hb hab c hc => by
    obtain ⟨x, hx, rfl⟩ := mem_lft.1 hab
    obtain ⟨hxn, hqx⟩ := mem_lst.1 hx
    obtain ⟨i1, i2⟩ := sub_iv g hs hxn hqx
    obtain ⟨_, i3, i4, _⟩ := iv_spec g hxn
    rw [Bool.eq_iff_iff, mem_lft, mem_lft]
    constructor
    · rintro ⟨y, hy, rfl⟩
      obtain ⟨hyn, hqy⟩ := mem_lst.1 hy
      refine ⟨tm n zs (iv n zs e x) y, mem_lst.2 ⟨tm_lt g.tab i1 hyn, sub_mul hs i1 hyn i2 hqy⟩, ?_⟩
      rw [← g.ass _ _ y hb i1 hyn, g.ass a x _ ha hxn i1, i3, g.right a ha]
    · rintro ⟨y, hy, rfl⟩
      obtain ⟨hyn, hqy⟩ := mem_lst.1 hy
      exact ⟨tm n zs x y, mem_lst.2 ⟨tm_lt g.tab hxn hyn, sub_mul hs hxn hyn hqx hqy⟩, (g.ass a x y ha hxn hyn).symm⟩
theorem rgt_size (g : IsGrp n zs e) {a : Nat} (ha : a < n) : (lst n (rgtq n zs (lst n q) a)).length = (lst n q).length := by
  symm
  refine Fin.bij_len (fun x => tm n zs x a) (List.nodup_range.sublist List.filter_sublist) (List.nodup_range.sublist List.filter_sublist) (fun x hx => ?_) (fun x y hx hy h => ?_) (fun y hy => ?_)
  · exact mem_lst.2 ⟨tm_lt g.tab (mem_lst.1 hx).1 ha, mem_rgt.2 ⟨x, hx, rfl⟩⟩
  · obtain ⟨h1, h2, _, _⟩ := iv_spec g ha
    have h9 : tm n zs (tm n zs x a) (iv n zs e a) = tm n zs (tm n zs y a) (iv n zs e a) := by
      have h8 : tm n zs x a = tm n zs y a := h
      rw [h8]
    rw [g.ass x a _ (mem_lst.1 hx).1 ha h1, g.ass y a _ (mem_lst.1 hy).1 ha h1, h2, g.right x (mem_lst.1 hx).1, g.right y (mem_lst.1 hy).1] at h9
    exact h9
  · obtain ⟨x, hx, he⟩ := mem_rgt.1 (mem_lst.1 hy).2
    exact ⟨x, hx, he⟩
theorem lft_size (g : IsGrp n zs e) {a : Nat} (ha : a < n) : (lst n (lftq n zs (lst n q) a)).length = (lst n q).length := by
  symm
  refine Fin.bij_len (fun x => tm n zs a x) (List.nodup_range.sublist List.filter_sublist) (List.nodup_range.sublist List.filter_sublist) (fun x hx => ?_) (fun x y hx hy h => ?_) (fun y hy => ?_)
  · exact mem_lst.2 ⟨tm_lt g.tab ha (mem_lst.1 hx).1, mem_lft.2 ⟨x, hx, rfl⟩⟩
  · exact (grp_fg g).can (List.mem_range.2 ha) (List.mem_range.2 (mem_lst.1 hx).1) (List.mem_range.2 (mem_lst.1 hy).1) h
  · obtain ⟨x, hx, he⟩ := mem_lft.1 (mem_lst.1 hy).2
    exact ⟨x, hx, he⟩
end
end Go.Proofs.YtodabkjadejekaaDoor

namespace Go.Proofs.YtodabkjadejekaaDoor
open Go Go.RowKit Go.Maps

/-- The number of a thing's set. -/
def num (n : Nat) (f : Nat → Nat → Bool) (a : Nat) : Nat := (fsts n f (((List.range n).find? fun b => decide (bs (f b) n = bs (f a) n)).getD 0)).length
theorem num_same {n a b : Nat} {f : Nat → Nat → Bool} (h : bs (f a) n = bs (f b) n) : num n f a = num n f b := by unfold num; rw [h]
theorem num_new {n j : Nat} {f : Nat → Nat → Bool} (hj : j < n) (h : (List.range j).all (fun b => decide (bs (f b) n ≠ bs (f j) n)) = true) : num n f j = (fsts n f j).length := by
  unfold num
  have : ((List.range n).find? fun b => decide (bs (f b) n = bs (f j) n)) = some j := by
    rw [List.find?_range_eq_some]
    refine ⟨by simp, List.mem_range.2 hj, fun b hb => ?_⟩
    have := List.all_eq_true.1 h b (List.mem_range.2 hb)
    simpa using this
  rw [this]; rfl
/-- The numbers that the map has. -/
def MNum (n : Nat) (f : Nat → Nat → Bool) (j : Nat) (D : DataW Unit) : Prop := ∀ a, a < j → D.atKey (.int .u64 (bs (f a) n : Nat)) (.lit (.int .i64 0)) = .lit (.int .i64 (num n f a : Nat))
theorem mnum_step {n j : Nat} {f : Nat → Nat → Bool} {D : DataW Unit} (h : MNum n f j D) (hD : IsMap D) (hj : j < n) (hnew : (List.range j).all (fun b => decide (bs (f b) n ≠ bs (f j) n)) = true) : MNum n f (j + 1) (D.put (.int .u64 (bs (f j) n : Nat)) (.lit (.int .i64 ((fsts n f j).length : Nat)))) := by
  intro a ha
  by_cases e : a = j
  · subst e
    rw [atKey_put_same hD (by trivial), num_new hj hnew]
  · have hne := List.all_eq_true.1 hnew a (List.mem_range.2 (by omega))
    rw [atKey_put_other (fun h9 => by injection h9 with _ h9; simp at hne; omega)]
    exact h a (by omega)
theorem mnum_same {n j : Nat} {f : Nat → Nat → Bool} {D : DataW Unit} (h : MNum n f j D) (hs : ∃ a, a < j ∧ bs (f a) n = bs (f j) n) : MNum n f (j + 1) D := by
  obtain ⟨b, hb, e⟩ := hs
  intro a ha
  by_cases e9 : a = j
  · subst e9
    have := h b hb
    rw [e, num_same e] at this
    exact this
  · exact h a (by omega)
set_option maxRecDepth 100000 in
set_option maxHeartbeats 8000000 in
theorem parts2_ok (n k : Nat) (caps : Array Value) (f : Nat → Nat → Bool) (w : World) (hn : n ≤ 60) (hT : Tab w)
    (hcall : ∀ a W, Sem.run Tryd.prog (callFunc k (#[.int .i64 a] ++ caps)) W = .ok (.enter k (#[.int .i64 a] ++ caps)) W)
    (hp : ∀ (W : World) (a : Nat), Below w.heap.size w W → a < n → Calls Tryd.prog k (#[.int .i64 a] ++ caps) W fun e w' => e = .returned (.int .u64 (bs (f a) n)) ∧ Below W.heap.size W w') :
    Calls Tryd.prog 68 #[.int .i64 n, .func (.func k) #[] caps] w fun x w' => ∃ r vs D, x = .returned (.tuple #[r, .map (some w.heap.size)]) ∧ w'.ownsRow (w.heap.size + 1) 22 1 r vs.length vs ∧ Lsts w' (w.heap.size + 1) r vs (csl n f n) ∧ w'.ownsMap Tryd.prog 71 (plainElem Tryd.prog 3) w.heap.size n D ∧ MInv n f n D ∧ MNum n f n D ∧ Below w.heap.size w w' := by
  obtain ⟨i0, hi, hz0, hz1, hz2⟩ := info_parts info22b
  have hmm := @run_makeMap Tryd.prog
  have HP := hide hp
  clear hp
  go_enter Tryd.func68, Tryd.ntmps68
  go_wp2
  clear hmm
  go_loopw [6, 14] (fun r i wr => ∃ (j : Nat) (vs : List Value) (D : DataW Unit), j ≤ n ∧ i = .int .i64 j ∧ wr.ownsRow (w.heap.size + 1) 22 1 r vs.length vs ∧ Lsts wr (w.heap.size + 1) r vs (csl n f j) ∧ wr.ownsMap Tryd.prog 71 (plainElem Tryd.prog 3) w.heap.size j D ∧ MInv n f j D ∧ MNum n f j D ∧ Below w.heap.size w wr) (fun _ i _ => n - (intOf i).toNat)
  case atStart => exact ⟨0, [], .map [], Nat.zero_le _, rfl, World.ownsRow_nil _ _ _ _, ⟨rfl, fun t x l h => by simp at h⟩, World.ownsMap_made _ _ _ _, fun s => ⟨fun h => by simp [Maps.has] at h, fun ⟨a, h, _⟩ => by omega⟩, fun a h => by omega, balloc w _⟩
  case round =>
    obtain ⟨j, vs, D, hj, rfl, hrow, hls, hmap, hM, hMN, hB⟩ := hrel
    obtain ⟨ra, rcap, rfl⟩ := own_slice' hrow
    by_cases hlt : j < n
    · have hji : (j : Int) < (n : Int) := by omega
      go_wp2_with fail
      refine (HP.out wr j hB hlt).mono ?_
      rintro e1 w1 ⟨rfl, hb1⟩
      have hB1 := bcat2 hB hb1
      have hmap1 := hmap.kept (below_grown hb1 none) (by simp)
      have hrow1 := hrow.kept (below_grown hb1 none) (by cases ra <;> simp [Value.ownBlock])
      have hls1 : Lsts w1 (w.heap.size + 1) (.slice ra vs.length rcap) vs (csl n f j) := hls.keep hb1.size (fun g _ h2 _ => hb1.block g h2) (.inl rfl)
      have hkw : (Lit.int .u64 (bs (f j) n : Nat)).wf = true := WalkArith.wf_u64 (by have := bs_64 (p := f j) hn; omega)
      have hkey := keyOf_int_mk und77 hkw
      have hvl : vs.length ≤ j := by rw [hls.1]; unfold csl; rw [List.length_map]; exact fsts_len n f j
      have hs1 : w.heap.size < w1.heap.size := Nat.lt_of_lt_of_le hmap.lt hb1.size
      clear hrow hls hmap hB hb1
      cases hh : Maps.has D (.int .u64 (bs (f j) n : Nat)) with
      | false =>
        have HST := hide (show csl n f (j + 1) = csl n f j ++ [li (lst n (f j))] by
          unfold csl
          rw [fsts_succ, if_pos ((minv_new hM).1 hh), List.map_append]; rfl)
        have HMV := hide (fun d => minv_step (d := d) hM (map_is hmap1))
        have HNV := hide (mnum_step hMN (map_is hmap1) hlt ((minv_new hM).1 hh))
        have HVL2 := hide (show vs.length = (fsts n f j).length by rw [hls1.1, csl_len])
        go_wp2_with (first
          | (at_lookup; refine wpList_lookup_own_ok_int _ rfl _ _ 84 rfl 71 3 .i64 law77 und95 und3' (zero3 _) w.heap.size _ D rfl hmap1 _ _ rfl hkey ?_; intro c hat hwc; rw [hh])
          | (at_mapUpdate; refine wpList_mapUpdate_own _ rfl _ _ _ 84 rfl 71 3 law77 und95 _ w.heap.size _ D rfl hmap1 (by unfold maxLen; omega) _ _ _ rfl rfl hkey _ [] (plainElem_int und3' (WalkArith.wf_i64 (by omega))) ?_; intro w2 hmap2 hgrow2))
        have hB2 := hB1.grown hgrow2 hB1.size (fun k hk => by cases hk; exact Nat.le_refl _)
        have hrow2 := hrow1.kept hgrow2 (by
          by_cases h9 : (Value.slice ra vs.length rcap).ownBlock = some w.heap.size
          · have := owns_ge hrow1 _ h9; omega
          · exact .inr h9)
        have hls2 : Lsts w2 (w.heap.size + 1) (.slice ra vs.length rcap) vs (csl n f j) := hls1.keep hgrow2.size (fun g h1 h2 _ => hgrow2.block g h2 (by simp; omega)) (.inl rfl)
        have hs2 : w.heap.size < w2.heap.size := Nat.lt_of_lt_of_le hs1 hgrow2.size
        clear hrow1 hls1 hmap1 hB1 hgrow2
        refine (list_ok n (f j) w2 hn (hT.below hB2)).mono ?_
        rintro e3 w3 ⟨r9, rfl, hr9, hb3⟩
        have hB3 := bcat2 hB2 hb3
        have hrow3 := hrow2.kept (below_grown hb3 none) (by cases ra <;> simp [Value.ownBlock])
        have hls3 : Lsts w3 (w.heap.size + 1) (.slice ra vs.length rcap) vs (csl n f j) := hls2.keep hb3.size (fun g _ h2 _ => hb3.block g h2) (.inl rfl)
        have hmap3 := hmap2.kept (below_grown hb3 none) (by simp)
        have hown2 : ∀ g, (Value.slice ra vs.length rcap).ownBlock = some g → g < w2.heap.size := fun g hg => by
          rcases hrow2.2 with ⟨h1, _⟩ | ⟨g', cap, cur, h1, _, hh9, _⟩
          · rw [h1] at hg; simp [Value.ownBlock] at hg
          · rw [h1] at hg
            simp [Value.ownBlock] at hg
            subst hg
            exact (Array.getElem?_eq_some_iff.1 hh9).1
        obtain ⟨qa, qcap, qb, qo, rfl, hq, hq1, hq2, hq3, hq4⟩ := hr9
        have hs3 := hb3.size
        have HQ := hide hq
        clear hrow2 hls2 hmap2 hB2 hb3 hq
        generalize li (lst n (f j)) = lj at *
        go_wp2_with (first
          | (at_builtin; refine wpList_append_own_at _ rfl _ _ 43 rfl (w.heap.size + 1) 22 i0 (.slice none 0 0) 1 24 under25b hi hz0 hz1 hz2 rfl (by decide) _ _ _ rfl (World.ownsRow.alloc hrow3 _) ⟨w3.heap.size, 0, none⟩ 1 1 [.slice qa lj.length qcap] rfl rfl ?c1 ?c2 ?c3 ?c4 ?c5 ?_))
        case c1 => exact cell_one_new _ _ _
        case c2 => simp [Value.oneCell']
        case c3 => unfold maxLen; omega
        case c4 => omega
        case c5 => simp; omega
        intro v' w4 hown' hgrow hnil hloc
        obtain ⟨ra', rcap', rfl⟩ := own_slice' hown'
        have hB4 : Below w.heap.size w w4 := (hB3.alloc hB3.size _).grown hgrow (by simp; omega) (fun t e => by have := owns_ge hrow3 t e; omega)
        have hmap4 := (hmap3.kept (World.grownBy_alloc w3 _ none) (by simp)).kept hgrow (fun e => by have := owns_ge hrow3 _ e.symm; omega)
        have hbl : ∀ g, g < w3.heap.size → (Value.slice ra vs.length rcap).ownBlock ≠ some g → w4.heap[g]? = w3.heap[g]? := fun g h1 h2 => (hgrow.block g (by simp; omega) (fun e => h2 e.symm)).trans (Below.block (balloc w3 _) g h1)
        have hs4 : w3.heap.size < w4.heap.size := by have := hgrow.size; simp at this; omega
        have hlo : (Value.slice ra' (vs.length + 1) rcap').ownBlock = (Value.slice ra vs.length rcap).ownBlock ∨ ∀ g, (Value.slice ra' (vs.length + 1) rcap').ownBlock = some g → w3.heap.size ≤ g := by
          rcases hloc with h | h
          · exact .inl h
          · right; intro g hg; rw [h] at hg; simp at hg; omega
        have hls4 := (hls3.keep (r' := .slice ra' (vs.length + 1) rcap') (by omega) (fun g _ h2 h3 => hbl g h2 h3) hlo).snoc (x := .slice qa lj.length qcap) (l := lj) ⟨qa, qcap, qb, qo, rfl, HQ.out.of_eq (hbl qb hq1 (fun e => by have := hown2 _ e; omega)), by omega, hq2, hq3, by omega, fun g hg e => by
          subst e
          rcases hlo with h | h
          · have := hown2 _ (h ▸ hg); omega
          · have := h _ hg; omega⟩
        have hrow4 : w4.ownsRow (w.heap.size + 1) 22 1 (.slice ra' (vs.length + 1) rcap') (vs ++ [Value.slice qa lj.length qcap]).length (vs ++ [Value.slice qa lj.length qcap]) := by simpa using hown'
        clear hown' hgrow hloc hlo hbl hrow3 hls3 hmap3 hB3
        go_wp2
        go_roundw
        case rel => exact ⟨j + 1, _, _, by omega, by go_num, hrow4, by rw [HST.out]; exact hls4, hmap4, HMV.out _, by have := HNV.out; rw [← HVL2.out] at this; exact this, hB4⟩
        case measure => simp [intOf]; omega
      | true =>
        have HST := hide (show csl n f (j + 1) = csl n f j by
          unfold csl
          rw [fsts_succ, if_neg (by rw [← minv_new hM, hh]; simp)])
        have HMV := hide (minv_same hM hh)
        have HNV := hide (mnum_same hMN ((hM _).1 hh))
        go_wp2_with (first
          | (at_lookup; refine wpList_lookup_own_ok_int _ rfl _ _ 84 rfl 71 3 .i64 law77 und95 und3' (zero3 _) w.heap.size _ D rfl hmap1 _ _ rfl hkey ?_; intro c hat hwc; rw [hh]))
        go_roundw
        case rel => exact ⟨j + 1, vs, D, by omega, by go_num, hrow1, by rw [HST.out]; exact hls1, map_more hmap1, HMV.out, HNV.out, hB1⟩
        case measure => simp [intOf]; omega
    · have hjn : j = n := by omega
      subst hjn
      go_wp2
      exact bodyPost_ret (v := .tuple #[.slice ra vs.length rcap, .map (some w.heap.size)]) (by simp [results, Tryd.results68, go_sem]) rfl ⟨_, vs, D, rfl, hrow, hls, hmap, hM, hMN, hB⟩
end Go.Proofs.YtodabkjadejekaaDoor

namespace Go.Proofs.YtodabkjadejekaaDoor
open Go Go.RowKit

/-- Which of the lists has a number first. -/
def whichI (rs : List (List Int)) (a : Int) : Int := if rs.findIdx (fun y => decide (a ∈ y)) < rs.length then (rs.findIdx (fun y => decide (a ∈ y)) : Int) else -1
theorem whichI_at {rs : List (List Int)} {a : Int} {k : Nat} (hk : k < rs.length) (h : a ∈ rs[k]?.getD []) (hno : ∀ t, t < k → ¬ a ∈ rs[t]?.getD []) : whichI rs a = k := by
  have h1 : rs.findIdx (fun y => decide (a ∈ y)) = k := by
    rw [List.findIdx_eq hk]
    rw [List.getElem?_eq_getElem hk] at h
    refine ⟨by simpa using h, fun t ht => ?_⟩
    have := hno t ht
    rw [List.getElem?_eq_getElem (by omega)] at this
    simpa using this
  unfold whichI
  rw [h1, if_pos hk]
theorem whichI_no {rs : List (List Int)} {a : Int} (hno : ∀ t, t < rs.length → ¬ a ∈ rs[t]?.getD []) : whichI rs a = -1 := by
  unfold whichI
  rw [if_neg]
  intro h
  have h2 := List.findIdx_getElem (w := h)
  have := hno _ h
  rw [List.getElem?_eq_getElem h] at this
  simp at this h2
  exact this h2
set_option maxRecDepth 100000 in
set_option maxHeartbeats 2000000 in
theorem which_ok (v : Value) (rs : List (List Int)) (a : Int) (w : World) (hv : SlL w v rs) :
    Calls Tryd.prog 76 #[v, .int .i64 a] w fun x w' => x = .returned (.int .i64 (whichI rs a)) ∧ Below w.heap.size w w' := by
  obtain ⟨va, vc, vb, vo, rfl, v1, v2, v3, v4, v5⟩ := hv
  have hm1 : rs.length ≤ 9223372036854775807 := by unfold maxLen at v5; omega
  have HV := hide v2
  have HV1 := hide v1
  clear v1 v2 v5
  go_enter Tryd.func76, Tryd.ntmps76
  go_wp2
  go_loopw [5] (fun i wr => ∃ k : Nat, k ≤ rs.length ∧ i = .int .i64 k ∧ (∀ t, t < k → ¬ a ∈ rs[t]?.getD []) ∧ Below w.heap.size w wr) (fun i _ => rs.length - (intOf i).toNat)
  case atStart => exact ⟨0, Nat.zero_le _, rfl, fun t ht => by omega, Below.refl _ _⟩
  case round =>
    obtain ⟨k, hk, rfl, hno, hB⟩ := hrel
    have HNO := hide hno
    clear hno
    by_cases hlt : k < rs.length
    · have hki : (k : Int) < (rs.length : Int) := by omega
      obtain rfl := HV1.out (by omega)
      obtain ⟨y, cy, hy⟩ := HV.out k hlt
      have cy := below_cell hB cy
      have hy := hy.below hB
      obtain ⟨y1, y2, y3, rfl⟩ := hy.isSlice
      have HH := hide (rhas_ok (.slice y1 y2 y3) (rs[k]?.getD []) a wr hy)
      by_cases hin : a ∈ rs[k]?.getD []
      · have HW := hide (whichI_at hlt hin HNO.out)
        rw [decide_eq_true hin] at HH
        clear hin hy
        go_wp2_with fail
        refine HH.out.mono ?_
        rintro x w1 ⟨rfl, rfl⟩
        go_wp2
        go_ret
        exact ⟨by rw [HW.out]; rfl, hB⟩
      · rw [decide_eq_false hin] at HH
        have HIN := hide hin
        clear hin hy
        go_wp2_with fail
        refine HH.out.mono ?_
        rintro x w1 ⟨rfl, rfl⟩
        go_wp2
        go_roundw
        case rel => exact ⟨k + 1, by omega, by go_num, fun t ht => by
          by_cases e9 : t = k
          · subst e9; exact HIN.out
          · exact HNO.out t (by omega), hB⟩
        case measure => simp [intOf]; omega
    · have hki : ¬ (k : Int) < (rs.length : Int) := by omega
      have HW := hide (whichI_no (rs := rs) (a := a) (fun t ht => HNO.out t (by omega)))
      go_wp2
      go_ret
      exact ⟨by rw [HW.out]; rfl, hB⟩
end Go.Proofs.YtodabkjadejekaaDoor
