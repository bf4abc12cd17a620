/- How package sub's All sorts: cmp.Or, the closure, the order, slices.SortFunc. What package sub's subgroups answers: each subgroup once. What package slices' IndexFunc, ContainsFunc answer of sets. What package sub's openedSmall answers. What package sub's All answers. QuotThird holds at every table and every two lists. The frame that all rows of this family share: how a table that came in reads. The frame that all rows of this family share: what the listed table gives a walk; how a list of ints that came in reads. -/
import Derived.Test.YtlhjeenijcokoaaGreatDoorZ11
import Derived.Test.YtlhjeenijcokoaaGreatDoorZ3
import Derived.Test.YtlhjeenijcokoaaGreatDoorZ4
import Derived.Ground.SlsfProg
import Derived.Shelf.Lay
import Derived.Shelf.SlSortCmp.Whole1
import Derived.Test.YtlhjeenijcokoaaGreatDoorZ10
import Derived.Maps.AppendAt
import Derived.Test.YtlhjeenijcokoaaGreatDoorZ13
import Derived.Test.YtlhjeenijcokoaaGreatDoorRows
import Derived.Test.YtlhjeenijcokoaaGreatDoorZ1
import Derived.ProofKit
import Derived.OpenShut
import Derived.ChangeOld
import Derived.Below
import Derived.SizedLaws
import Derived.LaidMore
import Derived.Stop.Joined
import Derived.Stop.LaidErr
import Derived.Lib.LaidTab
namespace Go.Proofs.YtlhjeenijcokoaaGreatDoor
open Go Go.RowKit

/-- The first that is not 0. -/
def orL : List Int → Int
  | [] => 0
  | x :: xs => if x ≠ 0 then x else orL xs
theorem orL_step {xs : List Int} {k : Nat} (h1 : k < xs.length) : orL (xs.drop k) = if xs[k] ≠ 0 then xs[k] else orL (xs.drop (k + 1)) := by
  rw [List.drop_eq_getElem_cons h1, orL]
theorem orL_end {xs : List Int} {k : Nat} (h1 : xs.length ≤ k) : orL (xs.drop k) = 0 := by
  rw [List.drop_eq_nil_of_le h1, orL]
set_option maxRecDepth 100000 in
set_option maxHeartbeats 2000000 in
theorem or_ok (v : Value) (xs : List Int) (w : World) (hv : Sl w v xs) (hx : xs.length ≤ 60) :
    Calls Tryz.prog 69 #[v] w fun e w' => e = .returned (.int .i64 (orL xs)) ∧ w' = w := by
  obtain ⟨xa, xcap, xb, xo, rfl, ⟨x1, x2⟩, _, _, x5⟩ := hv
  have HX1 := hide x1
  have HX2 := hide x2
  clear x1 x2 x5
  go_enter Tryz.func69, Tryz.ntmps69
  go_wp2
  go_loopw [8] (fun i wr => ∃ k : Nat, k ≤ xs.length ∧ i = .int .i64 k ∧ orL xs = orL (xs.drop k) ∧ wr = w) (fun i _ => xs.length - (intOf i).toNat)
  case atStart => exact ⟨0, Nat.zero_le _, rfl, by simp, rfl⟩
  case round =>
    obtain ⟨k, hk, rfl, hc, hwr⟩ := hrel
    rw [hwr]
    clear hwr
    have HC := hide hc
    clear hc
    by_cases hlt : k < xs.length
    · have hki : (k : Int) < (xs.length : Int) := by omega
      obtain rfl := HX1.out (by omega)
      have cx := HX2.out k hlt
      rw [List.getElem?_eq_getElem hlt, Option.getD_some] at cx
      have HE := hide (orL_step hlt)
      generalize xs[k] = z at *
      by_cases hz0 : z = 0
      · subst hz0
        go_wp2
        go_roundw
        case rel => exact ⟨k + 1, by omega, by go_num, by rw [HC.out, HE.out]; rfl, trivial⟩
        case measure => simp [intOf]; omega
      · have hzb : (z != 0) = true := by simpa using hz0
        have HZ := hide (show orL xs = z by rw [HC.out, HE.out, if_pos hz0])
        go_wp2
        go_ret
        exact ⟨by rw [HZ.out]; rfl, rfl⟩
    · have hki : ¬ (k : Int) < (xs.length : Int) := by omega
      have HZ := hide (show orL xs = 0 by rw [HC.out, orL_end (by omega)])
      go_wp2
      go_ret
      exact ⟨by rw [HZ.out]; rfl, rfl⟩
/-- How two lists compare by their lengths first. -/
def cmpN (xs ys : List Int) : Int := orL [cmpI xs.length ys.length, cmpL xs ys]
theorem two_sl (w : World) (c d : Int) : Sl (w.alloc (.cells #[.int .i64 c, .int .i64 d] 3)) (.slice (some ⟨w.heap.size, 0, none⟩) 2 2) [c, d] := by
  refine ⟨_, _, w.heap.size, 0, rfl, ⟨fun _ => rfl, fun j hj => ?_⟩, by simp, by simp, by unfold maxLen; omega⟩
  have h := blk0 (w := w) (T := 3) (.int .i64 c) (.int .i64 d)
  match j, hj with
  | 0, _ => exact h.cell 0
  | 1, _ => exact h.cell 1
set_option maxRecDepth 100000 in
set_option maxHeartbeats 2000000 in
theorem lcmp_ok (v u : Value) (xs ys : List Int) (w : World) (hv : Sl w v xs) (hu : Sl w u ys) (hx : xs.length ≤ 60) (hy : ys.length ≤ 60) :
    Calls Tryz.prog 68 #[v, u] w fun e w' => e = .returned (.int .i64 (cmpN xs ys)) ∧ ∃ o q, w' = (w.alloc o).drewN q := by
  have HS := hide (scmp_ok v u xs ys w hv hu hx hy)
  have HI := hide (cmpI_ok xs.length ys.length w)
  obtain ⟨xa, xcap, xb, xo, rfl, _⟩ := hv
  obtain ⟨ya, ycap, yb, yo, rfl, _⟩ := hu
  obtain ⟨c, hc⟩ : ∃ c, cmpI xs.length ys.length = c := ⟨_, rfl⟩
  obtain ⟨d, hd⟩ : ∃ d, cmpL xs ys = d := ⟨_, rfl⟩
  unfold cmpN
  rw [hc] at HI ⊢
  rw [hd] at HS ⊢
  clear hc hd
  go_enter Tryz.func68, Tryz.ntmps68
  go_wp2_with fail
  refine HI.out.mono ?_
  rintro e w1 ⟨rfl, rfl⟩
  go_wp2_with fail
  refine HS.out.mono ?_
  rintro e w2 ⟨rfl, rfl⟩
  go_wp2_with fail
  refine (or_ok _ [c, d] (w2.alloc (.cells #[.int .i64 c, .int .i64 d] 3)) (two_sl w2 c d) (by simp)).mono ?_
  rintro e w3 ⟨rfl, rfl⟩
  go_wp2
  go_ret
  exact ⟨rfl, _, 0, rfl⟩
theorem cmpN_eq (xs ys : List Int) : cmpN xs ys = if cmpI xs.length ys.length ≠ 0 then cmpI xs.length ys.length else cmpL xs ys := by
  unfold cmpN orL orL orL
  split
  · rfl
  · split
    · rfl
    · omega
theorem cmpN_neg (xs ys : List Int) : cmpN ys xs = - cmpN xs ys := by
  rw [cmpN_eq, cmpN_eq, cmpI_neg xs.length ys.length, cmpL_neg xs ys]
  split <;> split <;> omega
theorem cmpN_zero {xs ys : List Int} : cmpN xs ys = 0 ↔ xs = ys := by
  rw [cmpN_eq]
  split
  · rename_i h
    exact ⟨fun k => absurd k h, fun k => absurd (cmpI_zero.2 (by rw [k])) h⟩
  · exact cmpL_zero xs ys
theorem cmpN_trans {xs ys zs : List Int} (h1 : cmpN xs ys < 0) (h2 : cmpN ys zs < 0) : cmpN xs zs < 0 := by
  rw [cmpN_eq] at *
  have a1 := @cmpI_lt xs.length ys.length
  have a2 := @cmpI_lt ys.length zs.length
  have a3 := @cmpI_lt xs.length zs.length
  have b1 := @cmpI_zero xs.length ys.length
  have b2 := @cmpI_zero ys.length zs.length
  have b3 := @cmpI_zero xs.length zs.length
  split at h1
  · have hxy := a1.1 h1
    split at h2
    · have hyz := a2.1 h2
      have := a3.2 (by omega)
      rw [if_pos (by omega)]; exact this
    · have := b2.1 (by omega)
      have := a3.2 (by omega)
      rw [if_pos (by omega)]; exact this
  · have hxy := b1.1 (by omega)
    split at h2
    · have hyz := a2.1 h2
      have := a3.2 (by omega)
      rw [if_pos (by omega)]; exact this
    · have := b2.1 (by omega)
      have := b3.2 (by omega)
      rw [if_neg (by omega)]; exact cmpL_trans _ _ _ h1 h2
/-- Not less and not less is not less. -/
theorem cmpN_ge {xs ys zs : List Int} (h1 : ¬ cmpN xs ys < 0) (h2 : ¬ cmpN ys zs < 0) : ¬ cmpN xs zs < 0 := by
  intro h
  rcases Int.lt_or_eq_of_le (show 0 ≤ cmpN xs ys by omega) with k | k
  · have hyx : cmpN ys xs < 0 := by rw [cmpN_neg xs ys]; omega
    exact h2 (cmpN_trans hyx h)
  · rw [cmpN_zero.1 k.symm] at h
    exact h2 h
theorem swo_cmpN {α : Type} (f : α → List Int) : Go.Sort.SWO (ltOf fun i j => cmpN (f i) (f j)) where
  irrefl x := by
    have : cmpN (f x) (f x) = 0 := cmpN_zero.2 rfl
    unfold ltOf; simp [this]
  trans x y z h1 h2 := by
    unfold ltOf at *
    rw [decide_eq_true_eq] at *
    exact cmpN_trans h1 h2
  ntrans x y z h1 h2 := by
    unfold ltOf at *
    rw [decide_eq_false_iff_not] at *
    exact cmpN_ge h1 h2
theorem ent77 (args : Array Value) (w : World) : (callFunc 68 args).run Tryz.prog w = .ok (.enter 68 args) w := enters_of Tryz.func68 (by kernel_rfl) rfl args w
/-- The lists, as they are sorted. -/
def srtNN (ms : List (List Int)) : Prop := ∀ i j, i < j → j < ms.length → ¬ cmpN (ms[j]?.getD []) (ms[i]?.getD []) < 0
theorem sortNN_ok (B g cap : Nat) (vs : List Value) (ls : List (List Int)) (w : World) (hrow : w.ownsRow B 22 1 (.slice (some ⟨g, 0, none⟩) vs.length cap) vs.length vs) (hls : Lsts w B (.slice (some ⟨g, 0, none⟩) vs.length cap) vs ls) (h60 : ∀ l, l ∈ ls → l.length ≤ 60) (hlen : vs.length < 4611686018427387904) (hpos : 0 < vs.length) :
    Calls Tryz.prog 67 #[.slice (some ⟨g, 0, none⟩) vs.length cap, .func (.func 68) #[] #[]] w fun e w' => e = .returned (.tuple #[]) ∧ Below B w w' ∧ ∃ ms : List (List Int), ms.Perm ls ∧ srtNN ms ∧ ∀ W' : World, (∀ b, B ≤ b → b < w'.heap.size → W'.heap[b]? = w'.heap[b]?) → w'.heap.size ≤ W'.heap.size → SlL W' (.slice (some ⟨g, 0, none⟩) vs.length cap) ms := by
  have hvl := hls.1
  have hown : B ≤ g ∧ g < w.heap.size ∧ vs.length ≤ cap ∧ cap ≤ maxLen := by
    rcases hrow.2 with ⟨h, _⟩ | ⟨g', cap', cur, h, h1, h2, h3, h4, _⟩
    · cases h
    · injection h with h5 _ h6
      injection h5 with h5
      injection h5 with h5
      subst h5 h6
      exact ⟨h1, (Array.getElem?_eq_some_iff.1 h2).1, h3, h4⟩
  obtain ⟨hBg, hgw, hcap, hcap2⟩ := hown
  haveI : Inhabited (Fin ls.length) := ⟨⟨0, by omega⟩⟩
  obtain ⟨enc, henc⟩ : ∃ enc : Fin ls.length → Value, ∀ i : Fin ls.length, vs[i.1]? = some (enc i) := ⟨fun i => vs[i.1]'(by omega), fun i => List.getElem?_eq_getElem (by omega)⟩
  have hval : ∀ i : Fin ls.length, ∃ a c pb po, enc i = .slice a (ls.get i).length c ∧ Reads w a pb po (ls.get i) ∧ pb < w.heap.size ∧ (ls.get i).length ≤ c ∧ c ≤ maxLen ∧ B ≤ pb ∧ pb ≠ g := fun i => by
    obtain ⟨a, c, pb, po, h1, h2, h3, h4, h5, h6, h7⟩ := hls.2 i.1 (enc i) (ls.get i) (henc i) (List.getElem?_eq_getElem i.2)
    exact ⟨a, c, pb, po, h1, h2, h3, h4, h5, h6, h7 g rfl⟩
  have hOne : OneCell enc := fun i => by
    obtain ⟨a, c, pb, po, h1, _⟩ := hval i
    rw [h1]; rfl
  obtain ⟨d, hd⟩ : ∃ d : Array (Fin ls.length), d = Array.ofFn (fun i => i) := ⟨_, rfl⟩
  have hds : d.size = vs.length := by rw [hd, Array.size_ofFn, hvl]
  have hH : Go.Sort.Holds enc w g 0 d := fun j hj => by
    have hj' : j < ls.length := by omega
    have h1 : d[j]! = ⟨j, hj'⟩ := by
      rw [getElem!_pos d j hj]
      simp [hd]
    have h3 := hrow.cells (g := g) rfl j (enc ⟨j, hj'⟩) (henc ⟨j, hj'⟩)
    rw [show (⟨g, 0, none⟩ : Addr).add j = ⟨g, j, none⟩ by unfold Addr.add; split <;> simp_all] at h3
    rw [Nat.zero_add, h1]
    exact ⟨h3, hrow.frozenAt j⟩
  have hSl : ∀ (W : World) (i : Fin ls.length), (∀ b, B ≤ b → b < w.heap.size → b ≠ g → W.heap[b]? = w.heap[b]?) → w.heap.size ≤ W.heap.size → Sl W (enc i) (ls.get i) := fun W i hW hs => by
    obtain ⟨a, c, pb, po, h1, h2, h3, h4, h5, h6, h7⟩ := hval i
    exact ⟨a, c, pb, po, h1, h2.of_eq (hW pb h6 h3 h7), Nat.lt_of_lt_of_le h3 hs, h4, h5⟩
  have hcmp : CmpLays1 Tryz.prog 68 #[] enc (fun i j : Fin ls.length => cmpN (ls.get i) (ls.get j)) g 0 d.size w := by
    intro m os dk _ x y
    have hw := fun b (_ : B ≤ b) (h1 : b < w.heap.size) (h2 : b ≠ g) => sw_heap enc w g m dk os h1 h2
    refine (lcmp_ok (enc x) (enc y) (ls.get x) (ls.get y) (sortWorld enc w g 0 m dk os) (hSl _ x hw (sw_size ..)) (hSl _ y hw (sw_size ..)) (h60 _ (List.get_mem ls _)) (h60 _ (List.get_mem ls _))).mono ?_
    rintro e w' ⟨rfl, o, q, rfl⟩
    refine ⟨rfl, q, #[o], ?_⟩
    rw [Go.Sort.alloc_eq_grow]
    rfl
  have hcon := Any.slices_SortFunc sortLists enc hOne (fun i j : Fin ls.length => cmpN (ls.get i) (ls.get j)) (swo_cmpN fun i : Fin ls.length => ls.get i) 68 #[] g 0 cap d w ent77 hcmp hH hgw (by omega)
  change Calls Tryz.prog 67 _ _ _ at hcon
  rw [hds] at hcon
  refine hcon.mono ?_
  rintro e w' ⟨rfl, d', n, os, hp, hs, rfl⟩
  refine ⟨rfl, sw_below enc w g n d' os hBg hgw, d'.toList.map (fun i => ls.get i), ?_, ?_, ?_⟩
  · obtain ⟨hp1, _, hp3⟩ := hp
    rw [← hds, show d.extract 0 d.size = d by simp, show d'.extract 0 d.size = d' by rw [← hp1]; simp] at hp3
    have h1 := hp3.map (fun i : Fin ls.length => ls.get i)
    have h2 : d.toList.map (fun i : Fin ls.length => ls.get i) = ls := by
      rw [hd]
      apply List.ext_getElem
      · simp
      · intro k h1 h2
        simp
    rw [h2] at h1
    exact h1
  · intro i j hij hj
    have hsz : d'.size = vs.length := by rw [hp.1, hds]
    have hj' : j < d'.size := by simpa using hj
    have h := hs i j (Nat.zero_le _) hij (by omega)
    unfold ltOf at h
    rw [decide_eq_false_iff_not, getElem!_pos d' i (by omega), getElem!_pos d' j hj'] at h
    rw [List.getElem?_map, List.getElem?_map, Array.getElem?_toList, Array.getElem?_toList, Array.getElem?_eq_getElem hj', Array.getElem?_eq_getElem (by omega)]
    exact h
  · intro W' hW hsW
    have hsz : d'.size = vs.length := by rw [hp.1, hds]
    have hsw := sw_size enc w g n d' os
    have hH' : Go.Sort.Holds enc (sortWorld enc w g 0 n d' os) g 0 d' := SW.holds ⟨n, os, rfl⟩ hgw hH (by rw [hsz, hds])
    refine ⟨some ⟨g, 0, none⟩, cap, g, 0, by simp [hsz], fun _ => rfl, fun j hj => ?_, by omega, by simp [hsz]; omega, hcap2⟩
    have hj' : j < d'.size := by simpa using hj
    obtain ⟨h1, _⟩ := hH' j hj'
    rw [getElem!_pos d' j hj'] at h1
    refine ⟨enc d'[j], ?_, ?_⟩
    · rw [← h1]
      simp only [World.cell?]
      rw [hW g hBg (by omega)]
    · rw [List.getElem?_map, Array.getElem?_toList, Array.getElem?_eq_getElem hj']
      exact hSl W' d'[j] (fun b h2 h3 h4 => (hW b h2 (by omega)).trans (sw_heap enc w g n d' os h3 h4)) (by omega)
end Go.Proofs.YtlhjeenijcokoaaGreatDoor

namespace Go.Proofs.YtlhjeenijcokoaaGreatDoor
open Go Go.RowKit Go.Maps

theorem stake (B sb fb M n : Nat) (p : Nat → Bool) (P : List (Nat → Bool)) (w : World) (hF : SFnd w B sb fb M n P) (hB : B ≤ w.heap.size) (hn : n ≤ 60) (hl : P.length ≤ 16777216) :
    Calls Tryz.prog 101 #[.int .u64 (bs p n : Nat), .pointer (some ⟨sb, 0, none⟩), .pointer (some ⟨fb, 0, none⟩)] w fun e w' => e = .returned (.tuple #[]) ∧ SFnd w' B sb fb M n (put n P p) ∧ Chg B M fb w w' := by
  unfold put
  by_cases h : bs p n ∈ bits n P
  · rw [if_pos h]
    refine (stake_old B sb fb M n p P w hF hn h).mono ?_
    rintro e w' ⟨rfl, h1, h2⟩
    exact ⟨rfl, h1, Chg.of_below h2 hB⟩
  · rw [if_neg h]
    exact stake_new B sb fb M n p P w hF hB hn h hl
theorem bAl {a W : World} {o : Obj} (h : Below a.heap.size a W) : Below a.heap.size a (W.alloc o) := h.alloc h.size o
set_option maxRecDepth 100000 in
set_option maxHeartbeats 8000000 in
theorem subgroups_ok (n e : Nat) (v u : Value) (zs : List Int) (w : World) (hG : GA w n v e u zs) (hT : Tab w) (hn24 : n ≤ 24) :
    Calls Tryz.prog 66 #[.agg #[.int .i64 n, v, .int .i64 e, u]] w fun x w' => ∃ (r : Value) (P : List (Nat → Bool)), x = .returned r ∧ w'.ownsRow w.heap.size 74 1 r P.length ((bits n P).map fun (s : Nat) => Value.int .u64 (s : Int)) ∧ (∃ k, P.length ≤ k ∧ SInv n zs e P k 0) ∧ Below w.heap.size w w' := by
  have hn := hG.le
  have hgrp := hG.grp
  have helt := hgrp.elt
  obtain ⟨w1, hw1⟩ : ∃ w1, w1 = ((((w.alloc (.cells #[.int .i64 n, v, .int .i64 e, u] 57)).alloc (.cells #[.slice none 0 0] 91)).alloc (.map #[] 0)).alloc (.cells #[.map (some (w.heap.size + 1 + 1))] 118)).alloc (.cells #[.int .i64 e] 3) := ⟨_, rfl⟩
  have hB1 : Below w.heap.size w w1 := by
    rw [hw1]
    exact (((((balloc w _).alloc (by simp) _).alloc (by simp; omega) _).alloc (by simp; omega) _).alloc (by simp; omega) _)
  have hz1 : w1.heap.size = w.heap.size + 5 := by rw [hw1]; simp
  have hX4 : Box4 w1 w.heap.size n e v u := by rw [hw1]; exact ⟨((((blk4 _ _ _ _).alloc _).alloc _).alloc _).alloc _⟩
  have hXf : Boxed w1 (w.heap.size + 1) 91 (.slice none 0 0) := by
    rw [hw1]
    have := (((Boxed.new (w.alloc (.cells #[.int .i64 n, v, .int .i64 e, u] 57)) 91 (.slice none 0 0)).alloc (.map #[] 0)).alloc (.cells #[.map (some (w.heap.size + 1 + 1))] 118)).alloc (.cells #[.int .i64 e] 3)
    simpa using this
  have hXm : w1.ownsMap Tryz.prog 74 unitElem (w.heap.size + 1 + 1) 0 (.map [] : DataW Unit) := by
    have h0 := World.ownsMap_made (H := Unit) ((w.alloc (.cells #[.int .i64 n, v, .int .i64 e, u] 57)).alloc (.cells #[.slice none 0 0] 91)) Tryz.prog 74 unitElem
    have h1 := h0.kept (World.grownBy_alloc _ (.cells #[.map (some (w.heap.size + 1 + 1))] 118) none) (by simp)
    have h2 := h1.kept (World.grownBy_alloc _ (.cells #[.int .i64 e] 3) none) (by simp)
    rw [← hw1] at h2
    simpa using h2
  have hXs : Boxed w1 (w.heap.size + 1 + 1 + 1) 118 (.map (some (w.heap.size + 1 + 1))) := by
    rw [hw1]
    have := (Boxed.new (((w.alloc (.cells #[.int .i64 n, v, .int .i64 e, u] 57)).alloc (.cells #[.slice none 0 0] 91)).alloc (.map #[] 0)) 118 (.map (some (w.heap.size + 1 + 1)))).alloc (.cells #[.int .i64 e] 3)
    simpa using this
  have hce : w1.cell? ⟨w.heap.size + 1 + 1 + 1 + 1, 0, none⟩ = some (.int .i64 e) := by
    rw [hw1]
    have := cell1 ((((w.alloc (.cells #[.int .i64 n, v, .int .i64 e, u] 57)).alloc (.cells #[.slice none 0 0] 91)).alloc (.map #[] 0)).alloc (.cells #[.map (some (w.heap.size + 1 + 1))] 118)) (.int .i64 e) 3
    simpa using this
  have hF0 : SFnd w1 w1.heap.size (w.heap.size + 1 + 1 + 1) (w.heap.size + 1) (w.heap.size + 1 + 1) n [] := ⟨hXs, ⟨_, hXm, fun s => by simp [Maps.has, bits]⟩, ⟨_, hXf, World.ownsRow_nil _ _ _ _⟩, by omega, by omega, by omega, by omega, by omega, by omega⟩
  have HT0 := hide (stake w1.heap.size (w.heap.size + 1 + 1 + 1) (w.heap.size + 1) (w.heap.size + 1 + 1) n (fun x => decide (x = e)) [] w1 hF0 (Nat.le_refl _) hn (by simp))
  have HOF := hide (of_one n (w.heap.size + 1 + 1 + 1 + 1) e w1 hn helt hce)
  have HZ := hide hz1
  have hmm := @run_makeMap Tryz.prog
  clear hz1 hXf hXm hXs hce hF0
  go_enter Tryz.func66, Tryz.ntmps66
  go_wp2_with fail
  rw [← hw1]
  clear hw1 hmm
  refine HOF.out.mono ?_
  rintro x9 w2 ⟨rfl, hw2⟩
  rw [hw2]
  clear hw2
  go_wp2_with fail
  refine HT0.out.mono ?_
  rintro x9 w4 ⟨rfl, hF4, hC4⟩
  have hF4 : SFnd w4 w1.heap.size (w.heap.size + 1 + 1 + 1) (w.heap.size + 1) (w.heap.size + 1 + 1) n [fun x => decide (x = e)] := by simpa [put, bits] using hF4
  have hI4 : SInv n zs e [fun x => decide (x = e)] 0 0 := SInv.start hgrp
  clear HT0 HOF
  go_wp2
  go_loopw [6] (fun i wr => ∃ (k : Nat) (P : List (Nat → Bool)), i = .int .i64 k ∧ k ≤ P.length ∧ SFnd wr w1.heap.size (w.heap.size + 1 + 1 + 1) (w.heap.size + 1) (w.heap.size + 1 + 1) n P ∧ SInv n zs e P k 0 ∧ Chg w1.heap.size (w.heap.size + 1 + 1) (w.heap.size + 1) w1 wr) (fun i _ => 16777216 - (intOf i).toNat)
  case atStart => exact ⟨0, _, rfl, by simp, hF4, hI4, hC4⟩
  case round =>
    clear hF4 hI4 hC4
    obtain ⟨k, P, rfl, hk, hF, hI, hC⟩ := hrel
    have hPl := hI.len hn24
    obtain ⟨fv, hfb, hrow⟩ := hF.fnd
    obtain ⟨fa, fcap, rfl⟩ := own_val hrow
    have hfc := hfb.cell
    have hX4r : Box4 wr w.heap.size n e v u := ⟨(hX4.blk).of_eq (hC.block _ (by have := HZ.out; omega) (by omega) (by omega))⟩
    obtain ⟨c0, c1, c2, c3⟩ := hX4r.cells
    clear hfb
    by_cases hlt : k < P.length
    · have hki : (k : Int) < (P.length : Int) := by omega
      obtain ⟨q, hq⟩ : ∃ q, P[k]? = some q := ⟨P[k], List.getElem?_eq_getElem hlt⟩
      have HQ := hide hq
      clear hq hrow
      go_wp2
      clear hfc c0 c1 c2 c3 hX4r
      go_loopw [25] (fun i wr => ∃ (a : Nat) (P' : List (Nat → Bool)), i = .int .i64 a ∧ a ≤ n ∧ P'[k]? = some q ∧ SFnd wr w1.heap.size (w.heap.size + 1 + 1 + 1) (w.heap.size + 1) (w.heap.size + 1 + 1) n P' ∧ SInv n zs e P' k a ∧ Chg w1.heap.size (w.heap.size + 1 + 1) (w.heap.size + 1) w1 wr) (fun i _ => n - (intOf i).toNat)
      case atStart => exact ⟨0, P, rfl, Nat.zero_le _, HQ.out, hF, hI, hC⟩
      case round =>
        obtain ⟨a, P', rfl, ha, hq', hF', hI', hC'⟩ := hrel
        clear hF hI hC
        have hPl' := hI'.len hn24
        have hkl := (List.getElem?_eq_some_iff.1 hq').1
        by_cases hal : a < n
        · have hai : (a : Int) < (n : Int) := by omega
          obtain ⟨p, hp⟩ := mkd_test n zs e (fun y => q y || decide (y = a))
          have hBw : Below w.heap.size w wr := hB1.trans (hC'.below (g := w.heap.size) (by omega) (by omega) (by have := HZ.out; omega))
          have hX4r : Box4 wr w.heap.size n e v u := ⟨(hX4.blk).of_eq (hC'.block _ (by have := HZ.out; omega) (by omega) (by omega))⟩
          obtain ⟨c0, c1, c2, c3⟩ := hX4r.cells
          obtain ⟨fv, hfb, hrow⟩ := hF'.fnd
          obtain ⟨fa, fcap, rfl⟩ := own_val hrow
          have hfc := hfb.cell
          have hqb : (bits n P')[k]? = some (bs q n) := by unfold bits; rw [List.getElem?_map, hq']; rfl
          obtain ⟨fg, rfl, hfk⟩ : ∃ fg, fa = some ⟨fg, 0, none⟩ ∧ wr.cell? ⟨fg, k, none⟩ = some (.int .u64 (bs q n : Nat)) := by
            rcases hrow.2 with ⟨h1, h2⟩ | ⟨g, cap, cur, h1, _, _⟩
            · omega
            · injection h1 with h1
              subst h1
              have h3 := hrow.cells (g := g) rfl k (.int .u64 (bs q n : Nat)) (by simp [hqb])
              rw [show (⟨g, 0, none⟩ : Addr).add k = ⟨g, k, none⟩ by unfold Addr.add; split <;> simp_all] at h3
              exact ⟨g, rfl, h3⟩
          have hkF : (k : Int) < (P'.length : Int) := by omega
          have hor := or_bs q (fun y => decide (y = a)) hn
          have hbA : Below wr.heap.size wr (wr.drew.alloc (.cells #[.int .i64 a] 3)) := bAl (bdrew (Below.refl _ wr))
          have hfg1 : fg < wr.heap.size := World.block_lt_of_cell? wr ⟨fg, k, none⟩ hfk
          have hfg2 : ¬ fg = wr.heap.size := by omega
          have hwg0 : w.heap.size + 1 < wr.heap.size := hfb.lt
          have hwg3 : w.heap.size < wr.heap.size := by omega
          have hwg1 : ¬ w.heap.size = wr.heap.size := by omega
          have hwg2 : ¬ w.heap.size + 1 = wr.heap.size := by omega
          have c0A := below_cell hbA c0
          have c1A := below_cell hbA c1
          have c2A := below_cell hbA c2
          have c3A := below_cell hbA c3
          have hfcA := below_cell hbA hfc
          have hfkA := below_cell hbA hfk
          have HOF := hide (fun W b (h : W.cell? ⟨b, 0, none⟩ = some (.int .i64 a)) => of_one n b a W hn hal h)
          have HMK := hide (fun W (h : Below wr.heap.size wr W) => made_ok n v u zs e (fun y => q y || decide (y = a)) p W (hG.below (bcat2 hBw h)) (hT.below (bcat2 hBw h)) hp)
          have HTK := hide (fun W (h : Below wr.heap.size wr W) => stake w1.heap.size (w.heap.size + 1 + 1 + 1) (w.heap.size + 1) (w.heap.size + 1 + 1) n p P' W (hF'.below h) (Nat.le_trans hC'.size h.size) hn hPl')
          have HST := hide (SInv.step hgrp hI' hq' hp)
          have HGT := hide (put_get (n := n) p hq')
          have HC' := hide hC'
          clear hfb hrow hF' hI' hX4r hq' hBw hC' hqb hp
          generalize bs q n = X9 at *
          generalize bs (fun y => q y || decide (y = a)) n = Y9 at *
          generalize bs (fun y => decide (y = a)) n = Z9 at *
          generalize bs p n = T9 at *
          go_wp2_with fail
          go_region_with (first
            | (go_at_call 55; refine (HOF.out _ _ (by first | exact cell1 _ _ _ | exact cell1d _ _ _)).mono ?_; rintro e7 w7 ⟨rfl, rfl⟩)
            | (go_at_call 61; refine (HMK.out _ hbA).mono ?_; rintro e8 w8 ⟨rfl, hb8⟩; have hb9 := bcat2 hbA hb8)
            | (go_at_call 101; refine (HTK.out _ hb9).mono ?_; rintro e9 w9 ⟨rfl, hF9, hC9⟩))
          all_goals (
            have hC10 := (HC'.out.trans (Chg.of_below hb9 HC'.out.size)).trans hC9
            go_wp2
            go_roundw
            case rel => exact ⟨a + 1, _, by go_num, by omega, HGT.out, hF9, HST.out, hC10⟩
            case measure => simp [intOf]; omega)
        · have han : a = n := by omega
          rw [han] at hI'
          have HN := hide hI'.next
          have hai : ¬ (a : Int) < (n : Int) := by omega
          clear han
          go_wp2
          go_roundw
          case rel => exact ⟨k + 1, P', by go_num, hkl, hF', HN.out, hC'⟩
          case measure => simp [intOf]; omega
    · have hki : ¬ (k : Int) < (P.length : Int) := by omega
      have HB := hide (hB1.trans (hC.below (g := w.heap.size) (by omega) (by omega) (by have := HZ.out; omega)))
      have hrow9 := owns_mono hrow (show w.heap.size ≤ w1.heap.size by have := HZ.out; omega)
      go_wp2
      go_ret
      exact ⟨_, rfl, P, hrow9, ⟨k, by omega, hI⟩, HB.out⟩
end Go.Proofs.YtlhjeenijcokoaaGreatDoor

namespace Go.Proofs.YtlhjeenijcokoaaGreatDoor
open Go Go.RowKit

/-- A slice of sets reads as these bits. -/
def SlU (w : World) (v : Value) (xs : List Nat) : Prop := ∃ a cap pb po, v = .slice a xs.length cap ∧ (0 < xs.length → a = some ⟨pb, po, none⟩) ∧ (∀ j, j < xs.length → w.cell? ⟨pb, po + j, none⟩ = some (.int .u64 (xs[j]?.getD 0 : Nat))) ∧ pb < w.heap.size ∧ xs.length ≤ cap ∧ cap ≤ maxLen
theorem SlU.below {w w' : World} {v : Value} {xs : List Nat} (h : SlU w v xs) (hb : Below w.heap.size w w') : SlU w' v xs := by
  obtain ⟨a, cap, pb, po, rfl, h1, h2, h3, h4, h5⟩ := h
  exact ⟨a, cap, pb, po, rfl, h1, fun j hj => below_cell hb (h2 j hj), Nat.lt_of_lt_of_le h3 hb.size, h4, h5⟩
theorem SlU.of_own {w : World} {base k : Nat} {v : Value} {xs : List Nat} (hk : k = xs.length) (h : w.ownsRow base 74 1 v k (xs.map fun (s : Nat) => Value.int .u64 (s : Int))) (h0 : 0 < w.heap.size) : SlU w v xs := by
  subst hk
  rcases h.2 with ⟨rfl, hz⟩ | ⟨g, cap, cur, rfl, _, hh, h1, h2, _⟩
  · exact ⟨none, 0, 0, 0, by rw [hz], fun h => by omega, fun j hj => by omega, h0, by omega, by unfold maxLen; omega⟩
  · refine ⟨some ⟨g, 0, none⟩, cap, g, 0, rfl, fun _ => rfl, fun j hj => ?_, (Array.getElem?_eq_some_iff.1 hh).1, h1, h2⟩
    have h3 := h.cells (g := g) rfl j (.int .u64 (xs[j]?.getD 0 : Nat)) (by simp [hj])
    rw [show (⟨g, 0, none⟩ : Addr).add j = ⟨g, j, none⟩ by unfold Addr.add; split <;> simp_all] at h3
    rw [Nat.zero_add]; exact h3
/-- The place of the first set of which it is so. -/
def idxI (xs : List Nat) (t : Nat → Bool) : Int := if xs.findIdx t < xs.length then (xs.findIdx t : Int) else -1
theorem idxI_at {xs : List Nat} {t : Nat → Bool} {k : Nat} (hk : k < xs.length) (h : t (xs[k]?.getD 0) = true) (hno : ∀ j, j < k → t (xs[j]?.getD 0) = false) : idxI xs t = k := by
  have h1 : xs.findIdx t = k := by
    rw [List.findIdx_eq hk]
    rw [List.getElem?_eq_getElem hk] at h
    refine ⟨h, fun j hj => ?_⟩
    have := hno j hj
    rw [List.getElem?_eq_getElem (by omega)] at this
    exact this
  unfold idxI
  rw [h1, if_pos hk]
theorem idxI_no {xs : List Nat} {t : Nat → Bool} (hno : ∀ j, j < xs.length → t (xs[j]?.getD 0) = false) : idxI xs t = -1 := by
  unfold idxI
  rw [if_neg]
  intro h
  have h2 := List.findIdx_getElem (w := h)
  have := hno _ h
  rw [List.getElem?_eq_getElem h] at this
  simp at this h2
  rw [this] at h2
  exact absurd h2 (by decide)
theorem idxI_any {xs : List Nat} {t : Nat → Bool} : decide (0 ≤ idxI xs t) = xs.any t := by
  unfold idxI
  rw [Bool.eq_iff_iff, decide_eq_true_eq, List.any_eq_true]
  by_cases h : xs.findIdx t < xs.length
  · rw [if_pos h]
    exact ⟨fun _ => ⟨xs[xs.findIdx t], List.getElem_mem h, List.findIdx_getElem (w := h)⟩, fun _ => by omega⟩
  · rw [if_neg h]
    constructor
    · intro h9; omega
    · rintro ⟨x, hx, ht⟩
      exact absurd (List.findIdx_lt_length_of_exists ⟨x, hx, ht⟩) h
end Go.Proofs.YtlhjeenijcokoaaGreatDoor

namespace Go.Proofs.YtlhjeenijcokoaaGreatDoor
open Go Go.RowKit

set_option maxRecDepth 100000 in
set_option maxHeartbeats 4000000 in
theorem osml_bad (N : Int) (v : Value) (zs : List Int) (w : World) (hv : Sl w v zs) (hc : (gfault N zs).1 ≠ 0) :
    Calls Tryz.prog 65 #[.agg #[.int .i64 N, v]] w fun x w' => x = .returned (.tuple #[.agg #[.int .i64 0, .slice none 0 0, .int .i64 0, .slice none 0 0], .agg #[.int .i64 (gfault N zs).1, .int .i64 (gfault N zs).2]]) ∧ Below w.heap.size w w' := by
  obtain ⟨w0, BG⟩ := Beg4.new w N v
  have hv0 := hv.below BG.bel
  obtain ⟨c0, c1, _, _⟩ := BG.box.two
  have hck := opened_bad N v zs w0 hv0 hc
  obtain ⟨c, i, hci⟩ : ∃ c i, gfault N zs = (c, i) := ⟨_, _, rfl⟩
  rw [hci] at hck hc ⊢
  simp only at hc hck
  have HCK := hide hck
  clear hck hci
  have hcb : (c != 0) = true := by simpa using hc
  rw [BG.eq] at c0 c1
  go_enter Tryz.func65, Tryz.ntmps65
  go_wp2_with fail
  rw [← BG.eq]
  refine HCK.out.mono ?_
  rintro x w1 ⟨rfl, hb1⟩
  clear c0 c1
  obtain ⟨w2, hw2⟩ : ∃ w2, w2 = (w1.alloc (.cells #[.int .i64 0, .slice none 0 0, .int .i64 0, .slice none 0 0] 57)).alloc (.cells #[.int .i64 c, .int .i64 i] 26) := ⟨_, rfl⟩
  have hB1 : Below w0.heap.size w0 w2 := by rw [hw2]; exact bcat2 hb1 ((balloc w1 _).alloc (by simp) _)
  have hF1 : Blk w2 (w1.heap.size + 1) 26 [.int .i64 c, .int .i64 i] := by
    rw [hw2]
    have := blk0 (w := w1.alloc (.cells #[.int .i64 0, .slice none 0 0, .int .i64 0, .slice none 0 0] 57)) (T := 26) (.int .i64 c) (.int .i64 i)
    rwa [World.size_alloc] at this
  obtain ⟨hG1, g0, g1, g2, g3, gf0, gf1, gf2, gf3, gs0, gs1, gs2, gs3⟩ := Four.mk' (blk_below BG.grp hB1)
  have hR1 := blk_below BG.res hB1
  have hBw := bcat BG.bel hB1 BG.bel.size
  obtain ⟨y0, y1, fy0, fy1⟩ := hR1.two
  obtain ⟨t0, t1, _, _⟩ := hF1.two
  rw [hw2] at t0 t1
  go_wp2_with fail
  rw [← hw2]
  rw [← hw2] at t0 t1
  clear hw2
  go_region
  all_goals (
    go_wp2
    obtain ⟨hR6, hB6⟩ := put2 hR1 hBw (by omega) c i
    have hB7 := bdrew hB6
    have hR7 : Blk ((w2.setCell ⟨w.heap.size + 1 + 1, 0, none⟩ (.int .i64 c)).setCell ⟨w.heap.size + 1 + 1, 1, none⟩ (.int .i64 i)).drew (w.heap.size + 1 + 1) 26 [.int .i64 c, .int .i64 i] := hR6
    have hG7 : Blk ((w2.setCell ⟨w.heap.size + 1 + 1, 0, none⟩ (.int .i64 c)).setCell ⟨w.heap.size + 1 + 1, 1, none⟩ (.int .i64 i)).drew (w.heap.size + 1) 57 [.int .i64 0, .slice none 0 0, .int .i64 0, .slice none 0 0] :=
      (hG1.other (p := ⟨w.heap.size + 1 + 1, 0, none⟩) (by simp) (.int .i64 c)).other (p := ⟨w.heap.size + 1 + 1, 1, none⟩) (by simp) (.int .i64 i)
    generalize ((w2.setCell ⟨w.heap.size + 1 + 1, 0, none⟩ (.int .i64 c)).setCell ⟨w.heap.size + 1 + 1, 1, none⟩ (.int .i64 i)).drew = W at hR7 hB7 hG7 ⊢
    obtain ⟨z0, z1, _, _⟩ := hR7.two
    obtain ⟨_, q0, q1, q2, q3, _⟩ := Four.mk' hG7
    exact bodyPost_ret (v := .tuple #[.agg #[.int .i64 0, .slice none 0 0, .int .i64 0, .slice none 0 0], .agg #[.int .i64 c, .int .i64 i]]) (by simp [results, Tryz.results65, go_sem, z0, z1, q0, q1, q2, q3]) rfl ⟨rfl, hB7⟩)

set_option maxRecDepth 100000 in
set_option maxHeartbeats 4000000 in
theorem osml_good (n e : Nat) (v : Value) (zs : List Int) (w : World) (hv : Sl w v zs) (hg : IsGrp n zs e) (h24 : n ≤ 24) :
    Calls Tryz.prog 65 #[.agg #[.int .i64 n, v]] w fun x w' => ∃ iv9, x = .returned (.tuple #[.agg #[.int .i64 n, v, .int .i64 e, iv9], .agg #[.int .i64 0, .int .i64 0]]) ∧ SlF w.heap.size w' iv9 (li ((List.range n).map (iv n zs e))) ∧ Below w.heap.size w w' := by
  obtain ⟨va, vl, vc, rfl⟩ := hv.isSlice
  obtain ⟨w0, BG⟩ := Beg4.new w n (.slice va vl vc)
  have hv0 := hv.below BG.bel
  obtain ⟨c0, c1, _, _⟩ := BG.box.two
  have HCK := hide (opened_good n e (.slice va vl vc) zs w0 hv0 hg)
  rw [BG.eq] at c0 c1
  go_enter Tryz.func65, Tryz.ntmps65
  go_wp2_with fail
  rw [← BG.eq]
  refine HCK.out.mono ?_
  rintro x w1 ⟨iv9, rfl, hGA, hb1⟩
  obtain ⟨ia, il, ic, rfl⟩ := hGA.sl.isSlice
  clear c0 c1 HCK
  obtain ⟨w2, hw2⟩ : ∃ w2, w2 = (w1.alloc (.cells #[.int .i64 n, (.slice va vl vc), .int .i64 e, (.slice ia il ic)] 57)).alloc (.cells #[.int .i64 0, .int .i64 0] 26) := ⟨_, rfl⟩
  have hb2 : Below w1.heap.size w1 w2 := by rw [hw2]; exact (balloc w1 _).alloc (by simp) _
  have hB1 : Below w0.heap.size w0 w2 := bcat2 hb1 hb2
  have hF1 : Blk w2 (w1.heap.size + 1) 26 [.int .i64 0, .int .i64 0] := by
    rw [hw2]
    have := blk0 (w := w1.alloc (.cells #[.int .i64 n, (.slice va vl vc), .int .i64 e, (.slice ia il ic)] 57)) (T := 26) (.int .i64 0) (.int .i64 0)
    rwa [World.size_alloc] at this
  have hH1 : Blk w2 w1.heap.size 57 [.int .i64 n, (.slice va vl vc), .int .i64 e, (.slice ia il ic)] := by
    rw [hw2]; exact (blk4 _ _ _ _).alloc _
  obtain ⟨t0, t1, _, _⟩ := hF1.two
  obtain ⟨k0, k1, _, _⟩ := (blk_below BG.box hB1).two
  rw [hw2] at t0 t1 k0 k1
  have hz9 : w.heap.size + 3 ≤ w1.heap.size := by rw [← BG.size]; exact hb1.size
  obtain ⟨_, f0, f1, ff0, ff1, fs0, fs1⟩ := Two.mk' hF1
  have hBw3 := bcat BG.bel hB1 BG.bel.size
  have hG3 := blk_below BG.grp hB1
  obtain ⟨_, h0, h1, h2, h3, _⟩ := Four.mk' hH1
  obtain ⟨_, g0, g1, g2, g3, gf0, gf1, gf2, gf3, _⟩ := Four.mk' hG3
  obtain ⟨hR3, y0, y1, fy0, fy1, s0, s1⟩ := Two.mk' (blk_below BG.res hB1)
  have hGA3 := (hGA.below hb2).mono (show w.heap.size + 3 ≤ w0.heap.size by rw [BG.size]; exact Nat.le_refl _)
  have HW2 := hide hw2
  rw [hw2] at f0 f1 ff0 ff1 fs0 fs1 h0 h1 h2 h3 g0 g1 g2 g3 gf0 gf1 gf2 gf3 y0 y1 fy0 fy1 s0 s1
  clear hw2
  have hni : ¬ (24 : Int) < (n : Int) := by omega
  go_wp2
  rw [← HW2.out]
  obtain ⟨W, hW, hG8, hR8, hB8, hS8, hK8⟩ := put6 hG3 hR3 hBw3 (.int .i64 n) (.slice va vl vc) (.int .i64 e) (.slice ia il ic) (.int .i64 0) (.int .i64 0)
  rw [← hW]
  clear hW
  obtain ⟨z0, z1, _, _⟩ := hR8.two
  obtain ⟨_, q0, q1, q2, q3, _⟩ := Four.mk' hG8
  have hGA9 := (hGA3.keep (fun b h1 _ => hK8 b h1) (by omega)).mono (show w.heap.size ≤ w.heap.size + 3 by omega)
  exact bodyPost_ret (v := .tuple #[.agg #[.int .i64 n, .slice va vl vc, .int .i64 e, .slice ia il ic], .agg #[.int .i64 0, .int .i64 0]]) (by simp [results, Tryz.results65, go_sem, z0, z1, q0, q1, q2, q3]) rfl ⟨_, rfl, hGA9, hB8⟩
set_option maxRecDepth 100000 in
set_option maxHeartbeats 4000000 in
theorem osml_many (n e : Nat) (v : Value) (zs : List Int) (w : World) (hv : Sl w v zs) (hg : IsGrp n zs e) (h24 : 24 < n) :
    Calls Tryz.prog 65 #[.agg #[.int .i64 n, v]] w fun x w' => x = .returned (.tuple #[.agg #[.int .i64 0, .slice none 0 0, .int .i64 0, .slice none 0 0], .agg #[.int .i64 2, .int .i64 0]]) ∧ Below w.heap.size w w' := by
  obtain ⟨va, vl, vc, rfl⟩ := hv.isSlice
  obtain ⟨w0, BG⟩ := Beg4.new w n (.slice va vl vc)
  have hv0 := hv.below BG.bel
  obtain ⟨c0, c1, _, _⟩ := BG.box.two
  have HCK := hide (opened_good n e (.slice va vl vc) zs w0 hv0 hg)
  rw [BG.eq] at c0 c1
  go_enter Tryz.func65, Tryz.ntmps65
  go_wp2_with fail
  rw [← BG.eq]
  refine HCK.out.mono ?_
  rintro x w1 ⟨iv9, rfl, hGA, hb1⟩
  obtain ⟨ia, il, ic, rfl⟩ := hGA.sl.isSlice
  clear c0 c1 HCK
  obtain ⟨w2, hw2⟩ : ∃ w2, w2 = (w1.alloc (.cells #[.int .i64 n, (.slice va vl vc), .int .i64 e, (.slice ia il ic)] 57)).alloc (.cells #[.int .i64 0, .int .i64 0] 26) := ⟨_, rfl⟩
  have hb2 : Below w1.heap.size w1 w2 := by rw [hw2]; exact (balloc w1 _).alloc (by simp) _
  have hB1 : Below w0.heap.size w0 w2 := bcat2 hb1 hb2
  have hF1 : Blk w2 (w1.heap.size + 1) 26 [.int .i64 0, .int .i64 0] := by
    rw [hw2]
    have := blk0 (w := w1.alloc (.cells #[.int .i64 n, (.slice va vl vc), .int .i64 e, (.slice ia il ic)] 57)) (T := 26) (.int .i64 0) (.int .i64 0)
    rwa [World.size_alloc] at this
  have hH1 : Blk w2 w1.heap.size 57 [.int .i64 n, (.slice va vl vc), .int .i64 e, (.slice ia il ic)] := by
    rw [hw2]; exact (blk4 _ _ _ _).alloc _
  obtain ⟨t0, t1, _, _⟩ := hF1.two
  obtain ⟨k0, k1, _, _⟩ := (blk_below BG.box hB1).two
  rw [hw2] at t0 t1 k0 k1
  have hz9 : w.heap.size + 3 ≤ w1.heap.size := by rw [← BG.size]; exact hb1.size
  obtain ⟨_, f0, f1, ff0, ff1, fs0, fs1⟩ := Two.mk' hF1
  have hBw3 := bcat BG.bel hB1 BG.bel.size
  have hG3 := blk_below BG.grp hB1
  obtain ⟨_, h0, h1, h2, h3, _⟩ := Four.mk' hH1
  obtain ⟨_, g0, g1, g2, g3, gf0, gf1, gf2, gf3, _⟩ := Four.mk' hG3
  obtain ⟨hR3, y0, y1, fy0, fy1, s0, s1⟩ := Two.mk' (blk_below BG.res hB1)
  have hGA3 := (hGA.below hb2).mono (show w.heap.size + 3 ≤ w0.heap.size by rw [BG.size]; exact Nat.le_refl _)
  have HW2 := hide hw2
  rw [hw2] at f0 f1 ff0 ff1 fs0 fs1 h0 h1 h2 h3 g0 g1 g2 g3 gf0 gf1 gf2 gf3 y0 y1 fy0 fy1 s0 s1
  clear hw2
  have hni : (24 : Int) < (n : Int) := by omega
  go_wp2
  rw [← HW2.out]
  obtain ⟨W, hW, hG8, hR8, hB8, hS8, hK8⟩ := put6 hG3 hR3 hBw3 (.int .i64 0) (.slice none 0 0) (.int .i64 0) (.slice none 0 0) (.int .i64 2) (.int .i64 0)
  rw [← hW]
  clear hW
  obtain ⟨z0, z1, _, _⟩ := hR8.two
  obtain ⟨_, q0, q1, q2, q3, _⟩ := Four.mk' hG8
  exact bodyPost_ret (v := .tuple #[.agg #[.int .i64 0, .slice none 0 0, .int .i64 0, .slice none 0 0], .agg #[.int .i64 2, .int .i64 0]]) (by simp [results, Tryz.results65, go_sem, z0, z1, q0, q1, q2, q3]) rfl ⟨rfl, hB8⟩
end Go.Proofs.YtlhjeenijcokoaaGreatDoor

namespace Go.Proofs.YtlhjeenijcokoaaGreatDoor
open Go Go.RowKit

theorem und25b : Tryz.prog.underlying 38 = some (.slice 22) := by kernel_rfl
set_option maxRecDepth 100000 in
set_option maxHeartbeats 4000000 in
theorem all_bad (N c i : Int) (v : Value) (w : World) (HCK : Hid (∀ W, Below w.heap.size w W → Calls Tryz.prog 65 #[.agg #[.int .i64 N, v]] W fun x W' => x = .returned (.tuple #[.agg #[.int .i64 0, .slice none 0 0, .int .i64 0, .slice none 0 0], .agg #[.int .i64 c, .int .i64 i]]) ∧ Below W.heap.size W W')) (hc : c ≠ 0) :
    Calls Tryz.prog 35 #[.agg #[.int .i64 N, v]] w fun x w' => x = .returned (.tuple #[.slice none 0 0, .agg #[.int .i64 c, .int .i64 i]]) ∧ Below w.heap.size w w' := by
  obtain ⟨w0, BG⟩ := Beg.new w N v
  obtain ⟨c0, c1, _, _⟩ := BG.box.two
  have hcb : (c != 0) = true := by simpa using hc
  rw [BG.eq] at c0 c1
  go_enter Tryz.func35, Tryz.ntmps35
  go_wp2_with fail
  rw [← BG.eq]
  refine (HCK.out w0 BG.bel).mono ?_
  rintro x w1 ⟨rfl, hb1⟩
  clear c0 c1
  obtain ⟨w2, hw2⟩ : ∃ w2, w2 = (w1.alloc (.cells #[.int .i64 0, .slice none 0 0, .int .i64 0, .slice none 0 0] 57)).alloc (.cells #[.int .i64 c, .int .i64 i] 26) := ⟨_, rfl⟩
  have hB1 : Below w0.heap.size w0 w2 := by rw [hw2]; exact bcat2 hb1 ((balloc w1 _).alloc (by simp) _)
  have hF1 : Blk w2 (w1.heap.size + 1) 26 [.int .i64 c, .int .i64 i] := by
    rw [hw2]
    have := blk0 (w := w1.alloc (.cells #[.int .i64 0, .slice none 0 0, .int .i64 0, .slice none 0 0] 57)) (T := 26) (.int .i64 c) (.int .i64 i)
    rwa [World.size_alloc] at this
  have hR1 := blk_below BG.res hB1
  have hBw := bcat BG.bel hB1 BG.bel.size
  obtain ⟨y0, y1, fy0, fy1⟩ := hR1.two
  obtain ⟨t0, t1, _, _⟩ := hF1.two
  rw [hw2] at t0 t1
  go_wp2_with fail
  rw [← hw2]
  rw [← hw2] at t0 t1
  clear hw2
  go_region
  all_goals (
    go_wp2
    obtain ⟨hR6, hB6⟩ := put2 hR1 hBw (by omega) c i
    have hB7 := bdrew hB6
    have hR7 : Blk ((w2.setCell ⟨w.heap.size + 1, 0, none⟩ (.int .i64 c)).setCell ⟨w.heap.size + 1, 1, none⟩ (.int .i64 i)).drew (w.heap.size + 1) 26 [.int .i64 c, .int .i64 i] := hR6
    generalize ((w2.setCell ⟨w.heap.size + 1, 0, none⟩ (.int .i64 c)).setCell ⟨w.heap.size + 1, 1, none⟩ (.int .i64 i)).drew = W at hR7 hB7 ⊢
    obtain ⟨z0, z1, _, _⟩ := hR7.two
    exact bodyPost_ret (v := .tuple #[.slice none 0 0, .agg #[.int .i64 c, .int .i64 i]]) (by simp [results, Tryz.results35, go_sem, z0, z1]) rfl ⟨rfl, hB7⟩)

set_option maxRecDepth 100000 in
set_option maxHeartbeats 4000000 in
theorem all_good (n e : Nat) (v : Value) (zs : List Int) (w : World) (hv : Sl w v zs) (hg : IsGrp n zs e) (hT : Tab w) (h24 : n ≤ 24) :
    Calls Tryz.prog 35 #[.agg #[.int .i64 n, v]] w fun x w' => ∃ (r1 : Option Addr) (r2 r3 : Nat) (P : List (Nat → Bool)) (ms : List (List Int)), x = .returned (.tuple #[.slice r1 r2 r3, .agg #[.int .i64 0, .int .i64 0]]) ∧ (∃ k, P.length ≤ k ∧ SInv n zs e P k 0) ∧ ms.Perm (P.map fun p => li (lst n p)) ∧ srtNN ms ∧ (∀ W' : World, (∀ b, w.heap.size ≤ b → b < w'.heap.size → W'.heap[b]? = w'.heap[b]?) → w'.heap.size ≤ W'.heap.size → SlL W' (.slice r1 r2 r3) ms) ∧ Below w.heap.size w w' := by
  obtain ⟨va, vl, vc, rfl⟩ := hv.isSlice
  obtain ⟨w0, BG⟩ := Beg.new w n (.slice va vl vc)
  have hv0 := hv.below BG.bel
  obtain ⟨c0, c1, _, _⟩ := BG.box.two
  have HCK := hide (osml_good n e (.slice va vl vc) zs w0 hv0 hg h24)
  have HZ0 := hide (show w.heap.size + 2 ≤ w0.heap.size by rw [BG.eq]; simp)
  rw [BG.eq] at c0 c1
  go_enter Tryz.func35, Tryz.ntmps35
  go_wp2_with fail
  rw [← BG.eq]
  refine HCK.out.mono ?_
  rintro x w1 ⟨iv9, rfl, hSI, hb1⟩
  obtain ⟨ia, il, ic, rfl⟩ := hSI.sl.isSlice
  clear c0 c1 HCK
  obtain ⟨w2, hw2⟩ : ∃ w2, w2 = (w1.alloc (.cells #[.int .i64 n, (.slice va vl vc), .int .i64 e, (.slice ia il ic)] 57)).alloc (.cells #[.int .i64 0, .int .i64 0] 26) := ⟨_, rfl⟩
  have hb2 : Below w1.heap.size w1 w2 := by rw [hw2]; exact (balloc w1 _).alloc (by simp) _
  have hB1 : Below w0.heap.size w0 w2 := bcat2 hb1 hb2
  have hF1 : Blk w2 (w1.heap.size + 1) 26 [.int .i64 0, .int .i64 0] := by
    rw [hw2]
    have := blk0 (w := w1.alloc (.cells #[.int .i64 n, (.slice va vl vc), .int .i64 e, (.slice ia il ic)] 57)) (T := 26) (.int .i64 0) (.int .i64 0)
    rwa [World.size_alloc] at this
  have hH2 : Blk w2 w1.heap.size 57 [.int .i64 n, (.slice va vl vc), .int .i64 e, (.slice ia il ic)] := by
    rw [hw2]; exact (blk4 _ _ _ _).alloc _
  have hBw2 := bcat BG.bel hB1 BG.bel.size
  have hR2 := blk_below BG.res hB1
  have hT2 := hT.below hBw2
  have hGA2 : GA w2 n (.slice va vl vc) e (.slice ia il ic) zs := ⟨hg, hv.below hBw2, (hSI.below hb2).sl⟩
  obtain ⟨t0, t1, _, _⟩ := hF1.two
  obtain ⟨_, h0, h1, h2, h3, _⟩ := Four.mk' hH2
  have hx2 := blk_below BG.box hB1
  have HZ1 := hide (Nat.le_trans HZ0.out hb1.size)
  have HZ2 := hide hb2.size
  rw [hw2] at t0 t1 h0 h1 h2 h3
  go_wp2_with fail
  rw [← hw2]
  rw [← hw2] at t0 t1 h0 h1 h2 h3
  clear hw2 t0 t1
  refine (subgroups_ok n e (.slice va vl vc) (.slice ia il ic) zs w2 hGA2 hT2 h24).mono ?_
  rintro x w4 ⟨r4, P, rfl, hrow4, hI4, hb4⟩
  have hB4 := bcat2 hBw2 hb4
  have hR4 := blk_below hR2 hb4
  have h04 : 0 < w4.heap.size := Nat.lt_of_lt_of_le hT.lt hB4.size
  have hPl : P.length ≤ 16777216 := by
    obtain ⟨k, _, h⟩ := hI4
    exact h.len h24
  have hPp : 0 < P.length := by
    obtain ⟨k, _, h⟩ := hI4
    have := List.length_pos_of_mem h.one
    rwa [bits_len] at this
  obtain ⟨i0, hi, hz0, hz1, hz2⟩ := info_parts info22b
  have hS4 : SlU w4 r4 (bits n P) := SlU.of_own (by rw [bits_len]) hrow4 h04
  have HI4 := hide hI4
  have HT4 := hide (hT.below hB4)
  have HR4 := hide hR4
  have hn := hg.tab.le
  clear hI4 hR4 h0 h1 h2 h3 hrow4
  obtain ⟨ya, ycap, yb, yo, hr4, y1, y2, y3, y4, y5⟩ := hS4
  rw [bits_len] at hr4 y1 y2 y4
  subst hr4
  have HY1 := hide y1
  have HY2 := hide (fun j (hj : j < P.length) => show w4.cell? ⟨yb, yo + j, none⟩ = some (.int .u64 (bs P[j] n : Nat)) by
    rw [y2 j hj]; simp [bits, hj])
  clear y1 y2 y5
  go_wp2
  go_loopw [6, 21] (fun r i wr => ∃ (k : Nat) (vs : List Value), k ≤ P.length ∧ i = .int .i64 k ∧ wr.ownsRow w4.heap.size 22 1 r vs.length vs ∧ Lsts wr w4.heap.size r vs ((P.take k).map fun p => li (lst n p)) ∧ Below w4.heap.size w4 wr) (fun _ i _ => P.length - (intOf i).toNat)
  case atStart => exact ⟨0, [], Nat.zero_le _, rfl, World.ownsRow_nil _ _ _ _, ⟨by simp, fun t x l h1 _ => by simp at h1⟩, Below.refl _ _⟩
  case round =>
    obtain ⟨k, vs, hk, rfl, hrow, hls, hB⟩ := hrel
    have hvl1 : vs.length ≤ k := by rw [hls.1, List.length_map, List.length_take]; omega
    have hvl2 : k ≤ vs.length := by rw [hls.1, List.length_map, List.length_take]; omega
    obtain ⟨ra, rcap, rfl⟩ := own_slice' hrow
    by_cases hlt : k < P.length
    · have hki : (k : Int) < (P.length : Int) := by omega
      obtain rfl := HY1.out (by omega)
      have cy := below_cell hB (HY2.out k hlt)
      have hb9 := list_ok n P[k] wr hn (HT4.out.below hB)
      have HST := hide (show ((P.take (k + 1)).map fun p => li (lst n p)) = ((P.take k).map fun p => li (lst n p)) ++ [li (lst n P[k])] by
        rw [List.take_succ_eq_append_getElem hlt, List.map_append]; rfl)
      have HB9 := hide hb9
      clear hb9
      have hl60 : (li (lst n P[k])).length ≤ 60 := by rw [show (li (lst n P[k])).length = (lst n P[k]).length by simp [li]]; exact Nat.le_trans (lst_len _ _) hn
      generalize li (lst n P[k]) = lj at *
      generalize bs P[k] n = s9 at *
      go_wp2_with fail
      refine HB9.out.mono ?_
      rintro e3 w5 ⟨r9, rfl, hr9, hb5⟩
      have hB5 := bcat2 hB hb5
      have hrow5 := own_keep2 hrow (fun g _ h2 => hb5.block g h2)
      have hls5 : Lsts w5 w4.heap.size (.slice ra vs.length rcap) vs ((P.take k).map fun p => li (lst n p)) := hls.keep hb5.size (fun g _ h2 _ => hb5.block g h2) (.inl rfl)
      have hown2 : ∀ g, (Value.slice ra vs.length rcap).ownBlock = some g → g < wr.heap.size := fun g hg => by
        rcases hrow.2 with ⟨h1, _⟩ | ⟨g', cap, cur, h1, _, hh9, _⟩
        · rw [h1] at hg; simp [Value.ownBlock] at hg
        · rw [h1] at hg
          simp [Value.ownBlock] at hg
          subst hg
          exact (Array.getElem?_eq_some_iff.1 hh9).1
      obtain ⟨qa, qcap, qb, qo, rfl, hq, hq1, hq2, hq3, hq4⟩ := hr9
      have hs5 := hb5.size
      have hsB := hB.size
      have HQ := hide hq
      clear hrow hls hb5 hq
      go_wp2_with (first
        | (at_builtin; refine wpList_append_own_at _ rfl _ _ 38 rfl w4.heap.size 22 i0 (.slice none 0 0) 1 24 und25b hi hz0 hz1 hz2 rfl (by decide) _ _ _ rfl (World.ownsRow.alloc hrow5 _) ⟨w5.heap.size, 0, none⟩ 1 1 [.slice qa lj.length qcap] rfl rfl ?c1 ?c2 ?c3 ?c4 ?c5 ?_))
      case c1 => exact cell_one_new _ _ _
      case c2 => simp [Value.oneCell']
      case c3 => unfold maxLen; omega
      case c4 => omega
      case c5 => simp; omega
      intro v' w6 hown' hgrow hnil hloc
      obtain ⟨ra', rcap', rfl⟩ := own_slice' hown'
      have hB6 : Below w4.heap.size w4 w6 := (hB5.alloc hB5.size _).grown hgrow (by simp; omega) (fun t e => by have := owns_ge hrow5 t e; omega)
      have hbl : ∀ g, g < w5.heap.size → (Value.slice ra vs.length rcap).ownBlock ≠ some g → w6.heap[g]? = w5.heap[g]? := fun g h1 h2 => (hgrow.block g (by simp; omega) (fun e => h2 e.symm)).trans (Below.block (balloc w5 _) g h1)
      have hs6 : w5.heap.size < w6.heap.size := by have := hgrow.size; simp at this; omega
      have hlo : (Value.slice ra' (vs.length + 1) rcap').ownBlock = (Value.slice ra vs.length rcap).ownBlock ∨ ∀ g, (Value.slice ra' (vs.length + 1) rcap').ownBlock = some g → w5.heap.size ≤ g := by
        rcases hloc with h | h
        · exact .inl h
        · right; intro g hg; rw [h] at hg; simp at hg; omega
      have hls6 := (hls5.keep (r' := .slice ra' (vs.length + 1) rcap') (by omega) (fun g _ h2 h3 => hbl g h2 h3) hlo).snoc (x := .slice qa lj.length qcap) (l := lj) ⟨qa, qcap, qb, qo, rfl, HQ.out.of_eq (hbl qb hq1 (fun e => by have := hown2 _ e; omega)), by omega, hq2, hq3, by omega, fun g hg e => by
        subst e
        rcases hlo with h | h
        · have := hown2 _ (h ▸ hg); omega
        · have := h _ hg; omega⟩
      have hrow6 : w6.ownsRow w4.heap.size 22 1 (.slice ra' (vs.length + 1) rcap') (vs ++ [Value.slice qa lj.length qcap]).length (vs ++ [Value.slice qa lj.length qcap]) := by simpa using hown'
      clear hown' hgrow hloc hlo hbl hrow5 hls5 hB5
      go_wp2
      go_roundw
      case rel => exact ⟨k + 1, _, by omega, by go_num, hrow6, by rw [HST.out]; exact hls6, hB6⟩
      case measure => simp [intOf]; omega
    · have hki : ¬ (k : Int) < (P.length : Int) := by omega
      have hkP : P.take k = P := List.take_of_length_le (by omega)
      rw [hkP] at hls
      obtain ⟨g, rfl⟩ : ∃ g, ra = some ⟨g, 0, none⟩ := by
        rcases hrow.2 with ⟨h1, h2⟩ | ⟨g', cap, cur, h1, _⟩
        · omega
        · injection h1 with h1; exact ⟨g', h1⟩
      have HSO := hide (sortNN_ok w4.heap.size g rcap vs (P.map fun p => li (lst n p)) wr hrow hls (fun l hl => by
        obtain ⟨p, _, rfl⟩ := List.mem_map.1 hl
        rw [show (li (lst n p)).length = (lst n p).length by simp [li]]
        exact Nat.le_trans (lst_len _ _) hn) (by omega) (by omega))
      clear hkP hrow hls
      go_wp2_with fail
      refine HSO.out.mono ?_
      rintro x w7 ⟨rfl, hb7, ms, hpm, hsr, hsl⟩
      have hB7 := hB4.trans ((hB.trans hb7).mono hB4.size)
      have hR7 := (HR4.out).of_eq ((hB.trans hb7).block _ HR4.out.lt)
      obtain ⟨_, y0, y1, fy0, fy1, s0, s1⟩ := Two.mk' hR7
      have HSL := hide hsl
      have HSR := hide hsr
      have HPM := hide hpm
      have HB7 := hide hB7
      clear hsl hsr hpm hB7 hb7
      go_wp2
      exact bodyPost_ret (v := .tuple #[.slice (some ⟨g, 0, none⟩) vs.length rcap, .agg #[.int .i64 0, .int .i64 0]]) (by simp [results, Tryz.results35, go_sem, y0, y1]) rfl ⟨_, _, _, P, ms, rfl, HI4.out, HPM.out, HSR.out, fun W' h1 h2 => HSL.out W' (fun b h3 h4 => h1 b (Nat.le_trans hB4.size h3) h4) h2, HB7.out⟩
end Go.Proofs.YtlhjeenijcokoaaGreatDoor

namespace Go.Proofs.YtlhjeenijcokoaaGreatDoor
open Go Go.RowKit

theorem onto_any {n : Nat} {f : Nat → Nat → Bool} {kq : Nat → Bool} {y : Nat} : ((lst n kq).any fun a => decide ((ontoL n f)[a]?.getD 0 = (y : Int))) = true ↔ ∃ a, a < n ∧ kq a = true ∧ num n f a = y := by
  rw [List.any_eq_true]
  constructor
  · rintro ⟨a, ha, h1⟩
    obtain ⟨h2, h3⟩ := mem_lst.1 ha
    have h4 := of_decide_eq_true h1
    rw [ontoL_get h2] at h4
    exact ⟨a, h2, h3, by omega⟩
  · rintro ⟨a, h2, h3, h4⟩
    refine ⟨a, mem_lst.2 ⟨h2, h3⟩, decide_eq_true ?_⟩
    rw [ontoL_get h2, h4]
theorem qthr_law (N : Int) (v l m : Value) (zs ls ms : List Int) (w : World) (hv : Sl w v zs) (hl : Sl w l ls) (hm : Sl w m ms) (hT : Tab w) :
    Calls Tryz.prog 6 #[.agg #[.int .i64 N, v], l, m] w fun e w' => e = .returned (.bool true) ∧ Below w.heap.size w w' := by
  obtain ⟨v1, v2, v3, rfl⟩ := hv.isSlice
  obtain ⟨l1, l2, l3, rfl⟩ := hl.isSlice
  obtain ⟨m1, m2, m3, rfl⟩ := hm.isSlice
  by_cases hc1 : (sfault N zs ls).1 = 0
  · by_cases hc2 : (sfault N zs ms).1 = 0
    · obtain ⟨n, e, rfl, hg, hll, _⟩ := sfault_zero hc1
      obtain ⟨n', e', hn', hg', hlm, h0m⟩ := sfault_zero hc2
      obtain rfl : n = n' := by omega
      have hn60 := hg.tab.le
      obtain ⟨nq, hnq⟩ := mkd_test n zs e (cloq n zs e (pset ls) n)
      obtain ⟨UL, eUL⟩ : ∃ UL, UL = li (lst n fun a : Nat => decide ((a : Int) ∈ li (lst n nq)) || decide ((a : Int) ∈ ms)) := ⟨_, rfl⟩
      have hul : lfault n UL = (0, 0) := by rw [eUL]; exact lst_fault n _
      obtain ⟨kq, hkq⟩ := mkd_test n zs e (cloq n zs e (pset UL) n)
      have hnm : ∀ {q : Nat → Bool} {p : Nat → Bool}, (∀ a, a < n → (q a = true ↔ Mkd n zs e (cloq n zs e p n) a)) → subT n zs e q = true ∧ nrmq n zs e q = true := fun hq => ⟨sub_of hq hg (Fin.Gen.sg _), nrm_of hq hg (fun x a hx ha h9 => (mkd_clo _).2 (Fin.clos_nm (grp_fg hg) (grp_iv hg) x a hx ha ((mkd_clo _).1 h9)))⟩
      obtain ⟨ns, nN⟩ := hnm hnq
      obtain ⟨ks, kN⟩ := hnm hkq
      have hin : ∀ a, a < n → nq a = true → kq a = true := fun a ha h1 => (hkq a ha).2 ((mkd_clo a).2 (Fin.clos_has (grp_fg hg) (grp_iv hg) (List.mem_range.2 ha) (by
        rw [eUL, pset_lst ha, Bool.or_eq_true]
        exact .inl (decide_eq_true (mem_li.2 (mem_lst.2 ⟨ha, h1⟩))))))
      have eN : lst n (pset (li (lst n nq))) = lst n nq := lst_congr fun a ha => pset_lst ha
      have eK : lst n (pset (li (lst n kq))) = lst n kq := lst_congr fun a ha => pset_lst ha
      have ns' : subT n zs e (pset (li (lst n nq))) = true := (subT_congr hg fun a ha => pset_lst ha).trans ns
      have ks' : subT n zs e (pset (li (lst n kq))) = true := (subT_congr hg fun a ha => pset_lst ha).trans ks
      have nN' : nrmq n zs e (pset (li (lst n nq))) = true := nrm_of (P := fun a => nq a = true) (fun a ha => by rw [pset_lst ha]) hg ((nrm_iff hg).1 nN)
      have kN' : nrmq n zs e (pset (li (lst n kq))) = true := nrm_of (P := fun a => kq a = true) (fun a ha => by rw [pset_lst ha]) hg ((nrm_iff hg).1 kN)
      obtain ⟨KQ, eKQ⟩ : ∃ K, K = (fsts n (rgtq n zs (lst n nq)) n).length := ⟨_, rfl⟩
      obtain ⟨TQ, eTQ⟩ : ∃ T, T = mkT KQ (quoF n zs (rgtq n zs (lst n nq))) := ⟨_, rfl⟩
      obtain ⟨KR, eKR⟩ : ∃ K, K = (fsts n (rgtq n zs (lst n kq)) n).length := ⟨_, rfl⟩
      obtain ⟨TR, eTR⟩ : ∃ T, T = mkT KR (quoF n zs (rgtq n zs (lst n kq))) := ⟨_, rfl⟩
      have gQ := quo_grp hg ns nN
      have OQ := quo_onto hg ns nN
      have gR := quo_grp hg ks kN
      rw [← eKQ, ← eTQ] at gQ OQ
      rw [← eKR, ← eTR] at gR
      have hKQ : KQ ≤ n := by rw [eKQ]; exact fsts_len _ _ _
      obtain ⟨VL, eVL⟩ : ∃ VL, VL = li (lst KQ fun y : Nat => (lst n kq).any fun a => decide ((ontoL n (rgtq n zs (lst n nq)))[a]?.getD 0 = (y : Int))) := ⟨_, rfl⟩
      have hsq : ∀ y, y < KQ → (pset VL y = true ↔ ∃ a, a < n ∧ kq a = true ∧ num n (rgtq n zs (lst n nq)) a = y) := fun y hy => by
        rw [eVL, pset_lst hy]
        exact onto_any
      have hvl : lfault KQ VL = (0, 0) := by rw [eVL]; exact lst_fault _ _
      obtain ⟨KS, eKS⟩ : ∃ K, K = (fsts KQ (rgtq KQ TQ (lst KQ (pset VL))) KQ).length := ⟨_, rfl⟩
      obtain ⟨TS', eTS⟩ : ∃ T, T = mkT KS (quoF KQ TQ (rgtq KQ TQ (lst KQ (pset VL)))) := ⟨_, rfl⟩
      obtain ⟨⟨ss, sN⟩, hK, f, A⟩ := third_iso hg ns nN ks kN hin eKQ eTQ hsq eKR eTR eKS eTS
      have gS := quo_grp gQ ss sN
      rw [← eKS, ← eTS] at gS
      have h0 : 0 < w.heap.size := hT.lt
      have lk := lst_len n kq
      -- how many subgroups
      have hway : (24 < n ∧ Hid (∀ W, Below w.heap.size w W → Calls Tryz.prog 35 #[.agg #[.int .i64 n, .slice v1 v2 v3]] W fun x W' => x = .returned (.tuple #[.slice none 0 0, .agg #[.int .i64 2, .int .i64 0]]) ∧ Below W.heap.size W W') ∧
          Hid (∀ W a1 a2 a3, Below w.heap.size w W → Sl W (.slice a1 a2 a3) TQ → Calls Tryz.prog 35 #[.agg #[.int .i64 KQ, .slice a1 a2 a3]] W fun x W' => ∃ r1 r2 r3 c i, x = .returned (.tuple #[.slice r1 r2 r3, .agg #[.int .i64 c, .int .i64 i]]) ∧ Below W.heap.size W W')) ∨
        (∃ F : Nat, ¬ 24 < n ∧ Hid (∀ W, Below w.heap.size w W → Calls Tryz.prog 35 #[.agg #[.int .i64 n, .slice v1 v2 v3]] W fun x W' => ∃ (r1 : Option Addr) (r3 : Nat) (ls : List (List Int)), x = .returned (.tuple #[.slice r1 ls.length r3, .agg #[.int .i64 0, .int .i64 0]]) ∧ SlL W' (.slice r1 ls.length r3) ls ∧ ls.length ≤ 16777216 ∧ (ls.filter fun l => (li (lst n nq)).all fun a => decide (a ∈ l)).length = F ∧ Below W.heap.size W W') ∧
          Hid (∀ W a1 a2 a3, Below w.heap.size w W → Sl W (.slice a1 a2 a3) TQ → Calls Tryz.prog 35 #[.agg #[.int .i64 KQ, .slice a1 a2 a3]] W fun x W' => ∃ r1 r3, x = .returned (.tuple #[.slice r1 F r3, .agg #[.int .i64 0, .int .i64 0]]) ∧ Below W.heap.size W W')) := by
        by_cases h24 : 24 < n
        · refine .inl ⟨h24, hide fun W h => all_bad n 2 0 (.slice v1 v2 v3) W (hide fun W9 h9 => osml_many n e (.slice v1 v2 v3) zs W9 ((hv.below h).below h9) hg h24) (by decide), hide fun W a1 a2 a3 h h1 => ?_⟩
          by_cases h25 : 24 < KQ
          · refine (all_bad KQ 2 0 (.slice a1 a2 a3) W (hide fun W9 h9 => osml_many KQ _ (.slice a1 a2 a3) TQ W9 (h1.below h9) gQ h25) (by decide)).mono ?_
            rintro x W' ⟨rfl, hb⟩
            exact ⟨none, 0, 0, _, _, rfl, hb⟩
          · refine (all_good KQ _ (.slice a1 a2 a3) TQ W h1 gQ (hT.below h) (by omega)).mono ?_
            rintro x W' ⟨r1, r2, r3, P, ns9, rfl, _, _, _, _, hb⟩
            exact ⟨r1, r2, r3, _, _, rfl, hb⟩
        · refine .inr ⟨(subs KQ TQ (num n (rgtq n zs (lst n nq)) e)).length, h24, hide fun W h => ?_, hide fun W a1 a2 a3 h h1 => ?_⟩
          · refine (all_good n e (.slice v1 v2 v3) zs W (hv.below h) hg (hT.below h) (by omega)).mono ?_
            rintro x W' ⟨r1, r2, r3, P, qs, rfl, ⟨k, hk, hP⟩, hpm, _, hsl, hb⟩
            have hs := hsl W' (fun _ _ _ => rfl) (Nat.le_refl _)
            obtain ⟨a, cap, pb, po, hv9, hrest⟩ := hs
            have e2 : r2 = qs.length := by injection hv9
            subst e2
            refine ⟨r1, r3, qs, rfl, ⟨a, cap, pb, po, hv9, hrest⟩, ?_, ?_, hb⟩
            · rw [hpm.length_eq, List.length_map]
              exact hP.len (by omega)
            · rw [(hpm.filter _).length_eq]
              exact corr_len hg gQ OQ hP hk (fun r hr => subs_sub hr) (subs_nd _ _ _) (fun t ht => subs_all gQ ht) (fun a ha => (quo_ker hg ns ha).symm)
          · refine (all_good KQ _ (.slice a1 a2 a3) TQ W h1 gQ (hT.below h) (by omega)).mono ?_
            rintro x W' ⟨r1, r2, r3, P, qs, rfl, ⟨k, hk, hP⟩, hpm, _, hsl, hb⟩
            have hs := hsl W' (fun _ _ _ => rfl) (Nat.le_refl _)
            obtain ⟨a, cap, pb, po, hv9, hrest⟩ := hs
            have e2 : r2 = qs.length := by injection hv9
            have e3 : qs.length = (subs KQ TQ (num n (rgtq n zs (lst n nq)) e)).length := by
              rw [hpm.length_eq, List.length_map]
              exact subs_len gQ hP hk
            rw [e2, e3]
            exact ⟨r1, r3, rfl, hb⟩
      have main := fun F hw => qthr_good n KS KQ F ms (li (lst n nq)) UL (li (lst n kq)) TQ (ontoL n (rgtq n zs (lst n nq))) TR VL TS' v1 v2 v3 l1 l2 l3 m1 m2 m3 w hT hm
        (hide fun W h => (clo_good n e (.slice v1 v2 v3) (.slice l1 l2 l3) zs ls nq W (hv.below h) hg (hl.below h) (hT.below h) hll hnq).mono fun x W' ⟨r, h1, hr, hb⟩ => by
          obtain ⟨a1, a2, a3, rfl⟩ := hr.sl.isSlice
          exact ⟨a1, a2, a3, h1, hr.sl, hb⟩)
        (hide fun W h => (rset_any n (.slice v1 v2 v3) (.slice m1 m2 m3) zs ms W (hv.below h) (hm.below h)).mono fun x W' h9 => by rw [h0m] at h9; exact h9)
        (hide fun W a1 a2 a3 L h hL h1 => (rlist_any n (.slice v1 v2 v3) (.slice a1 a2 a3) L W hn60 h1).mono fun x W' h9 => by
          rcases hL with rfl | rfl <;> (rw [lst_fault] at h9; exact h9))
        (hide fun W a1 a2 a3 b1 b2 b3 b7 h Q => (rthose_ok n 32 (.slice v1 v2 v3) #[.pointer (some ⟨b7, 0, none⟩), .pointer (some ⟨w.heap.size + 1, 0, none⟩)] (fun a : Nat => decide ((a : Int) ∈ li (lst n nq)) || decide ((a : Int) ∈ ms)) W hn60 (fun a W => call32 _ _ _ W) (fun W' a h9 _ => (thr1_ok b7 (w.heap.size + 1) b1 b2 b3 a1 a2 a3 _ _ a W' (Boxed.below Q.h h9) (Boxed.below Q.m h9) (Q.sn.below h9) (Q.sm.below h9)).mono fun x W'' h8 => ⟨h8.1, by rw [h8.2]; exact Below.refl _ _⟩)).mono fun x W' ⟨r, h3, hr, hb⟩ => by
          have hsl := row_sl hr (Nat.lt_of_lt_of_le (Nat.lt_of_lt_of_le h0 h.size) hb.size)
          rw [← eUL] at hsl
          obtain ⟨a1, a2, a3, rfl⟩ := hsl.isSlice
          exact ⟨a1, a2, a3, h3, hsl, hb⟩)
        (hide fun W a1 a2 a3 h h1 => (clo_good n e (.slice v1 v2 v3) (.slice a1 a2 a3) zs UL kq W (hv.below h) hg h1 (hT.below h) hul hkq).mono fun x W' ⟨r, h2, hr, hb⟩ => by
          obtain ⟨a1, a2, a3, rfl⟩ := hr.sl.isSlice
          exact ⟨a1, a2, a3, h2, hr, hb⟩)
        (hide fun W a1 a2 a3 h h1 => (quo_goodF n e (.slice v1 v2 v3) (.slice a1 a2 a3) zs _ W (hv.below h) hg h1 (hT.below h) (lst_fault n _) ns' nN').mono fun x W' ⟨r1, r2, r3, s1, s2, s3, h3, hr, ho, hb⟩ => by
          rw [eN, ← eKQ] at h3 hr
          rw [← eTQ] at hr
          rw [eN] at ho
          obtain ⟨oa, oc, opb, opo, hov, _⟩ := ho.sl
          have e2 : s2 = n := by injection hov with _ h9; rw [ontoL_len] at h9; exact h9
          subst e2
          exact ⟨r1, r2, r3, s1, s3, h3, hr, ho.sl, hb⟩)
        (hide fun W a1 a2 a3 h h1 => (quo_good n e (.slice v1 v2 v3) (.slice a1 a2 a3) zs _ W (hv.below h) hg h1 (hT.below h) (lst_fault n _) ks' kN').mono fun x W' ⟨r1, r2, r3, s1, s2, s3, h3, hr, _, hb⟩ => by
          rw [eK, ← eKR] at h3 hr
          rw [← eTR] at hr
          rw [← hK] at h3
          exact ⟨r1, r2, r3, s1, s2, s3, h3, hr, hb⟩)
        (hide fun W a1 a2 a3 h h1 => (groupFault_any KQ (.slice a1 a2 a3) TQ W h1).mono fun x W' h9 => by rw [grp_fault gQ] at h9; exact h9)
        (hide fun W q1 q2 q3 a1 a2 a3 b1 b2 b3 kb tb h h1 h2 h3 h4 => by
          obtain rfl := li_slice h3
          have e2 : b2 = (ontoL n (rgtq n zs (lst n nq))).length := by
            obtain ⟨oa, oc, opb, opo, hov, _⟩ := h4
            injection hov
          subst e2
          refine (rthose_ok KQ 34 (.slice q1 q2 q3) #[.pointer (some ⟨kb, 0, none⟩), .pointer (some ⟨tb, 0, none⟩)] (fun y : Nat => (lst n kq).any fun a => decide ((ontoL n (rgtq n zs (lst n nq)))[a]?.getD 0 = (y : Int))) W (by omega) (fun a W => call34 _ _ _ W) (fun W' y h9 _ => thr2_ok kb tb a1 a3 b1 b3 (lst n kq) (ontoL n (rgtq n zs (lst n nq))) y W' (Boxed.below h1 h9) (Boxed.below h2 h9) (h3.below h9) (h4.below h9) (fun a ha => by rw [ontoL_len]; exact (mem_lst.1 ha).1) (by omega) (by rw [ontoL_len]; exact hn60))).mono ?_
          rintro x W' ⟨r, rfl, hr, hb⟩
          have hsl := row_sl hr (Nat.lt_of_lt_of_le (Nat.lt_of_lt_of_le h0 h.size) hb.size)
          rw [← eVL] at hsl
          obtain ⟨c1, c2, c3, rfl⟩ := hsl.isSlice
          exact ⟨c1, c2, c3, rfl, hsl, hb⟩)
        (hide fun W a1 a2 a3 b1 b2 b3 h h1 h2 => (quo_goodF KQ _ (.slice a1 a2 a3) (.slice b1 b2 b3) TQ VL W h1 gQ h2 (hT.below h) hvl ss sN).mono fun x W' ⟨r1, r2, r3, s1, s2, s3, h3, hr, _, hb⟩ => by
          rw [← eKS] at h3 hr
          rw [← eTS] at hr
          exact ⟨r1, r2, r3, s1, s2, s3, h3, hr, hb⟩)
        (hide fun W a1 a2 a3 b1 b2 b3 h h1 h2 => by
          have gR' := gR
          have A' := A
          rw [← hK] at gR' A'
          refine (hiso_any _ _ _ _ (.slice a1 a2 a3) (.slice b1 b2 b3) _ _ W h1 gS h2 gR' (hT.below h)).mono ?_
          rintro x W' ⟨hb, ⟨ψ, g, hnm, B, rfl, hgs, hM⟩ | ⟨rfl, hno⟩⟩
          · exact ⟨_, _, _, rfl, hb⟩
          · exact absurd ⟨f, A'⟩ (hno rfl)) hw
      rcases hway with h | ⟨F, h⟩
      · exact main 0 (.inl h)
      · exact main F (.inr h)
    · exact qthr_bad2 N _ _ v1 v2 v3 l1 l2 l3 m1 m2 m3 w hT hc2 (hide fun W h => (clo_shape (hv.below h) (hl.below h) (hT.below h)).mono fun x W' ⟨a1, a2, a3, h1, h2⟩ => ⟨a1, a2, a3, by
        obtain ⟨_, _, _, _, _, h0⟩ := sfault_zero hc1
        rw [h0] at h1
        exact h1, h2⟩) (hide fun W h => rset_any N (.slice v1 v2 v3) (.slice m1 m2 m3) zs ms W (hv.below h) (hm.below h))
  · exact qthr_bad1 N _ _ v1 v2 v3 l1 l2 l3 m1 m2 m3 w hT hc1 (hide fun W h => clo_shape (hv.below h) (hl.below h) (hT.below h))
end Go.Proofs.YtlhjeenijcokoaaGreatDoor

namespace Go.Proofs.YtlhjeenijcokoaaGreatDoor
open Go.ChangeShapes Go.WideShapes Go.ChangeAt Go.RowKit

theorem own : ownKnob Tryz.prog.godebug = none := by kernel_rfl
theorem laidOut : laidOutB Tryz.prog = true := by kernel_rfl

/-- A slice of ints that reads as zs; where nothing is in it, nothing is told of the memory. -/
def SlA (w : World) (v : Value) (zs : List Int) : Prop := ∃ a cap pb po, v = .slice a zs.length cap ∧ Reads w a pb po zs ∧ (0 < zs.length → pb < w.heap.size) ∧ zs.length ≤ cap ∧ cap ≤ maxLen
theorem SlA.up {w w' : World} {v : Value} {zs : List Int} (h : SlA w v zs) (hb : Below w.heap.size w w') (h0 : 0 < w'.heap.size) : Sl w' v zs := by
  obtain ⟨a, cap, pb, po, hv, hr, hp, h1, h2⟩ := h
  rcases Nat.eq_zero_or_pos zs.length with hz | hz
  · exact ⟨a, cap, 0, 0, hv, ⟨fun h => by omega, fun j hj => by omega⟩, h0, h1, h2⟩
  · exact ⟨a, cap, pb, po, hv, hr.below hb (hp hz), Nat.lt_of_lt_of_le (hp hz) hb.size, h1, h2⟩
theorem SlA.of {w : World} {v : Value} {zs : List Int} (h : Sl w v zs) : SlA w v zs := by
  obtain ⟨a, cap, pb, po, hv, hr, hp, h1, h2⟩ := h
  exact ⟨a, cap, pb, po, hv, hr, fun _ => hp, h1, h2⟩

theorem und24 : ∃ f0 f1 : Field, Tryz.prog.underlying 24 = some (.struct #[f0, f1]) ∧ f0.type = 3 ∧ f1.type = 22 ∧ f0.offset = 0 ∧ f1.offset = 1 := ⟨_, _, Tryz.underlying24, rfl, rfl, rfl, rfl⟩
theorem und3 : Tryz.prog.underlying 3 = some (.int .i64) := by kernel_rfl
theorem und22 : Tryz.prog.underlying 22 = some (.slice 3) := by kernel_rfl
theorem und4 : Tryz.prog.underlying 4 = some .bool := by kernel_rfl

set_option maxRecDepth 100000 in
/-- What is told of a table that came in. -/
theorem open_group {H : Type} {enc : TypeId × Value → H} {W : World} {b0 : Nat} {v : Value} {d : DataW H} {ps : List MemPlace} (hval : Value.okWide Tryz.prog W .any b0 24 v)
    (hd : DataW.Trod enc Tryz.prog W 0 (fun _ => true) true 24 v d ps) :
    ∃ N u zs, v = .agg #[.int .i64 N, u] ∧ SlA W u zs ∧ (Lit.int .i64 N).wf = true ∧ ((d.weights Tryz.prog 24).all (· ≤ reachBytes) = true → zs.length * 8 ≤ 140737488355328) := by
  obtain ⟨f0, f1, hu, ht0, ht1, ho0, ho1⟩ := und24
  obtain ⟨cs, rfl, hsz⟩ := okWide_struct hu hval
  rw [show Tryz.prog.cellsOf 24 = 2 by kernel_rfl] at hsz
  obtain ⟨l⟩ := cs
  match l, hsz with
  | [c0, c1], _ =>
  obtain ⟨fuel, hf⟩ := hd
  obtain ⟨y0, y1, m, hx, _, hy0, hy1⟩ := trod_struct2 hu hf
  rw [ht0, ho0, show Tryz.prog.cellsOf 3 = 1 by kernel_rfl] at hy0
  rw [ht1, ho1, show Tryz.prog.cellsOf 22 = 1 by kernel_rfl] at hy1
  obtain ⟨N, e0, rfl, wN⟩ := DataW.trod_int und3 hy0
  simp [Value.cells] at e0
  subst e0
  simp [Value.cells] at hy1
  rcases open_ints und22 und3 (by kernel_rfl) hy1 with ⟨hcs, _⟩ | ⟨x, l, c, zs, hcs, _, hl, hm, hz, heq, hcell, hwz⟩
  · simp at hcs
    subst hcs
    exact ⟨N, _, [], rfl, ⟨none, 0, 0, 0, rfl, ⟨by simp, by simp⟩, by simp, by simp, by unfold maxLen; omega⟩, wN, fun _ => by simp⟩
  · simp at hcs
    subst hcs
    have hzc : zs.length = c := by simpa using hz
    have hlen : (zs.take l).length = l := by rw [List.length_take]; omega
    refine ⟨N, _, zs.take l, rfl, ?_, wN, fun hw => ?_⟩
    · by_cases hpos : 0 < c
      · obtain ⟨b, o, rfl, hc'⟩ := ints_at hcell (by omega)
        refine ⟨some ⟨b, o, none⟩, c, b, o, by rw [hlen], ⟨fun _ => rfl, fun j hj => ?_⟩, fun _ => World.block_lt_of_cell? W _ (hc' 0 (by omega)), by omega, hm⟩
        rw [hlen] at hj
        rw [hc' j (by omega), List.getElem?_take, if_pos hj, List.getD_eq_getElem?_getD]
      · have : l = 0 := by omega
        subst this
        exact ⟨some x, c, 0, 0, by simp, ⟨by simp, by simp⟩, by simp, by simp, hm⟩
    · have hd : d = .agg [.lit (.int .i64 N), .slice (lits .i64 (zs.take l)) (lits .i64 (zs.drop l))] := by
        have h1 := congrArg Prod.fst hx
        simp only [heq] at h1
        exact h1
      have hw2 := List.all_eq_true.1 hw (((lits (H := H) .i64 (zs.take l)).length + (lits (H := H) .i64 (zs.drop l)).length) * Tryz.prog.bytesOf 3) (by
        rw [hd]; simp [DataW.weights, DataW.weightsEach, hu, ht0, ht1])
      rw [show Tryz.prog.bytesOf 3 = 8 by kernel_rfl] at hw2
      simp only [lits, List.length_map, decide_eq_true_eq] at hw2
      unfold reachBytes at hw2
      omega
end Go.Proofs.YtlhjeenijcokoaaGreatDoor

namespace Go.Proofs.YtlhjeenijcokoaaGreatDoor
open Go.ChangeShapes Go.WideShapes Go.ChangeAt Go.RowKit

/-- What the rows list. -/
def laid1 : List (String × DataW Unit) := Rows.homIsoRow.laid
def tabZ : List Int := Lib.deBruijn64tab.map fun (x : Nat) => (x : Int)
theorem tab_data : (Rows.laid_math_bits_deBruijn64tab : DataW Unit) = Lib.tabData .u8 tabZ := by kernel_rfl
/-- The door's own heap meets the condition. -/
theorem door_met (os : Os) (args : Array Value) : laidMetH Tryz.prog laid1 ((World.doorLaid Tryz.prog 400 os).forCall (fun _ _ => 0) ⟨#[], args, []⟩).memory :=
  laidMetH_of_parts3 (fuel := 8) (laidMet_of_run' 8 (by kernel_rfl) (by kernel_rfl)) (by kernel_rfl) (by kernel_rfl)
theorem tab_of_laid {W : World} (h : laidMetH Tryz.prog laid1 W) : Tab W := by
  rw [MakeChecks.laidMetH_plain _ _ _ (by kernel_rfl)] at h
  have h2 : laidMet Tryz.prog [("math/bits.deBruijn64tab", (Rows.laid_math_bits_deBruijn64tab : DataW Unit))] W := h
  rw [tab_data] at h2
  have hg : Tryz.prog.globalNamed "math/bits.deBruijn64tab" = some 0 := by kernel_rfl
  have hT := Lib.tabIs_of_head hg (t := 131) (e := 5) (n := 64) (by kernel_rfl) (by kernel_rfl) (by kernel_rfl) (by kernel_rfl) (by kernel_rfl) h2
  intro j hj
  have hj' : j < tabZ.length := by simpa [tabZ] using hj
  have hc := hT.cell hg j hj'
  rw [hc]
  simp [tabZ, hj]
set_option maxRecDepth 100000 in
/-- A list of ints that came in: its value, what it reads as, and its size. -/
theorem open_list {H : Type} {enc : TypeId × Value → H} {W : World} {b0 : Nat} {v : Value} {d : DataW H} {ps : List MemPlace} (hval : Value.okWide Tryz.prog W .any b0 22 v)
    (hd : DataW.Trod enc Tryz.prog W 0 (fun _ => true) true 22 v d ps) (h0 : 0 < W.heap.size) :
    ∃ zs, Sl W v zs ∧ ((d.weights Tryz.prog 22).all (· ≤ reachBytes) = true → zs.length * 8 ≤ 140737488355328) := by
  obtain ⟨a, len, cap, rfl⟩ := okWide_slice und22 hval
  obtain ⟨fuel, hf⟩ := hd
  rcases open_ints und22 und3 (by kernel_rfl) hf with ⟨hcs, _⟩ | ⟨x, l, c, zs, hcs, _, hl, hm, hz, heq, hcell, hwz⟩
  · simp [Value.cells] at hcs
    obtain ⟨rfl, rfl, rfl⟩ := hcs
    exact ⟨[], Sl.nil h0, fun _ => by simp⟩
  · simp [Value.cells] at hcs
    obtain ⟨rfl, rfl, rfl⟩ := hcs
    have hzc : zs.length = cap := by simpa using hz
    have hlen : (zs.take len).length = len := by rw [List.length_take]; omega
    refine ⟨zs.take len, ?_, fun hw => ?_⟩
    · by_cases hpos : 0 < cap
      · obtain ⟨b, o, rfl, hc'⟩ := ints_at hcell (by omega)
        refine ⟨some ⟨b, o, none⟩, cap, b, o, by rw [hlen], ⟨fun _ => rfl, fun j hj => ?_⟩, World.block_lt_of_cell? W _ (hc' 0 (by omega)), by omega, hm⟩
        rw [hlen] at hj
        rw [hc' j (by omega), List.getElem?_take, if_pos hj, List.getD_eq_getElem?_getD]
      · have : len = 0 := by omega
        subst this
        exact ⟨some x, cap, 0, 0, by simp, ⟨by simp, by simp⟩, h0, by simp, hm⟩
    · simp only [Prod.mk.injEq] at heq
      have hw2 := List.all_eq_true.1 hw (((lits (H := H) .i64 (zs.take len)).length + (lits (H := H) .i64 (zs.drop len)).length) * Tryz.prog.bytesOf 3) (by
        rw [heq.1]; simp [DataW.weights])
      rw [show Tryz.prog.bytesOf 3 = 8 by kernel_rfl] at hw2
      simp only [lits, List.length_map, decide_eq_true_eq] at hw2
      unfold reachBytes at hw2
      omega
end Go.Proofs.YtlhjeenijcokoaaGreatDoor
