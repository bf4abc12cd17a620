/- Package slices at lists of lists (Compare, SortFunc, Equal, CompactFunc), package hom's Inner, the chapter's example; the document's TwoGroups and HomFault at everything. Condition: the library's table of places lies as its text lays it. What table.Orders answers at a group: a list of its own. slices.Sort at a list of the call's own; sorted lists are the same just where one is the other in another order. Few makers as mathematics: with a thing that is not yet made, more is made; so the best thing to add makes more. What hom's sameOrders answers: true where there is an isomorphism, and never where the sizes are not the same. -/
import Derived.Test.YtlhjeenijcokoaaGreatDoorZ5
import Derived.Test.YtlhjeenijcokoaaGreatDoorZ3
import Derived.Shelf.SlSortCmp.Whole1
import Derived.Shelf.Lay
import Derived.Ground.SlsfProg
import Derived.Laws.OwnMore
import Derived.Lib.SliceRun
import Derived.Test.YtlhjeenijcokoaaGreatDoorZ6
import Derived.Test.YtlhjeenijcokoaaGreatDoorZ4
import Derived.Deep.AppendLies
import Derived.Deep.RegionLaw
import Derived.Test.YtlhjeenijcokoaaGreatDoorZ2
import Derived.Shelf.Sort.Plain
import Derived.Sort.OwnSortedInts
import Derived.Test.YtlhjeenijcokoaaGreatDoorZ7
namespace Go.Proofs.YtlhjeenijcokoaaGreatDoor
open Go Go.RowKit

def cmpI (x y : Int) : Int := if x < y then -1 else if y < x then 1 else 0
theorem isNaN_ok (x : Int) (w : World) : Calls Tryz.prog 104 #[.int .i64 x] w fun e w' => e = .returned (.bool false) ∧ w' = w := by
  have h : (x != x) = false := by simp
  go_enter Tryz.func104, Tryz.ntmps104
  go_wp2
  go_ret
  exact ⟨rfl, rfl⟩
set_option maxRecDepth 100000 in
theorem cmpI_ok (x y : Int) (w : World) : Calls Tryz.prog 70 #[.int .i64 x, .int .i64 y] w fun e w' => e = .returned (.int .i64 (cmpI x y)) ∧ w' = w := by
  unfold cmpI
  by_cases h1 : x < y
  · rw [if_pos h1]
    go_enter Tryz.func70, Tryz.ntmps70
    go_wp2_with fail
    refine (isNaN_ok x w).mono ?_
    rintro e w1 ⟨rfl, rfl⟩
    go_wp2_with fail
    refine (isNaN_ok y w1).mono ?_
    rintro e w2 ⟨rfl, rfl⟩
    go_wp2
    go_ret
    exact ⟨rfl, rfl⟩
  · rw [if_neg h1]
    by_cases h2 : y < x
    · rw [if_pos h2]
      go_enter Tryz.func70, Tryz.ntmps70
      go_wp2_with fail
      refine (isNaN_ok x w).mono ?_
      rintro e w1 ⟨rfl, rfl⟩
      go_wp2_with fail
      refine (isNaN_ok y w1).mono ?_
      rintro e w2 ⟨rfl, rfl⟩
      go_wp2
      go_ret
      exact ⟨rfl, rfl⟩
    · rw [if_neg h2]
      go_enter Tryz.func70, Tryz.ntmps70
      go_wp2_with fail
      refine (isNaN_ok x w).mono ?_
      rintro e w1 ⟨rfl, rfl⟩
      go_wp2_with fail
      refine (isNaN_ok y w1).mono ?_
      rintro e w2 ⟨rfl, rfl⟩
      go_wp2
      go_ret
      exact ⟨rfl, rfl⟩
/-- How two lists compare. -/
def cmpL : List Int → List Int → Int
  | [], [] => 0
  | [], _ :: _ => -1
  | _ :: _, [] => 1
  | x :: xs, y :: ys => if cmpI x y ≠ 0 then cmpI x y else cmpL xs ys
theorem cmpL_step {xs ys : List Int} {k : Nat} (h1 : k < xs.length) (h2 : k < ys.length) : cmpL (xs.drop k) (ys.drop k) = if cmpI xs[k] ys[k] ≠ 0 then cmpI xs[k] ys[k] else cmpL (xs.drop (k + 1)) (ys.drop (k + 1)) := by
  rw [List.drop_eq_getElem_cons h1, List.drop_eq_getElem_cons h2, cmpL]
theorem cmpL_more {xs ys : List Int} {k : Nat} (h1 : k < xs.length) (h2 : ys.length ≤ k) : cmpL (xs.drop k) (ys.drop k) = 1 := by
  rw [List.drop_eq_getElem_cons h1, List.drop_eq_nil_of_le h2, cmpL]
theorem cmpL_less {xs ys : List Int} {k : Nat} (h1 : xs.length ≤ k) (h2 : k < ys.length) : cmpL (xs.drop k) (ys.drop k) = -1 := by
  rw [List.drop_eq_getElem_cons h2, List.drop_eq_nil_of_le h1, cmpL]
theorem cmpL_end {xs ys : List Int} {k : Nat} (h1 : xs.length ≤ k) (h2 : ys.length ≤ k) : cmpL (xs.drop k) (ys.drop k) = 0 := by
  rw [List.drop_eq_nil_of_le h1, List.drop_eq_nil_of_le h2, cmpL]
set_option maxRecDepth 100000 in
set_option maxHeartbeats 2000000 in
theorem scmp_ok (v u : Value) (xs ys : List Int) (w : World) (hv : Sl w v xs) (hu : Sl w u ys) (hx : xs.length ≤ 60) (hy : ys.length ≤ 60) :
    Calls Tryz.prog 71 #[v, u] w fun e w' => e = .returned (.int .i64 (cmpL xs ys)) ∧ w' = w := by
  obtain ⟨xa, xcap, xb, xo, rfl, ⟨x1, x2⟩, _, _, x5⟩ := hv
  obtain ⟨ya, ycap, yb, yo, rfl, ⟨y1, y2⟩, _, _, y5⟩ := hu
  have HX1 := hide x1
  have HX2 := hide x2
  have HY1 := hide y1
  have HY2 := hide y2
  clear x1 x2 y1 y2 x5 y5
  go_enter Tryz.func71, Tryz.ntmps71
  go_wp2
  go_loopw [11] (fun i wr => ∃ k : Nat, k ≤ xs.length ∧ k ≤ ys.length ∧ i = .int .i64 k ∧ cmpL xs ys = cmpL (xs.drop k) (ys.drop k) ∧ wr = w) (fun i _ => xs.length - (intOf i).toNat)
  case atStart => exact ⟨0, Nat.zero_le _, Nat.zero_le _, rfl, by simp, rfl⟩
  case round =>
    obtain ⟨k, hk, hk2, rfl, hc, hwr⟩ := hrel
    rw [hwr]
    clear hwr
    have HC := hide hc
    clear hc
    by_cases hlt : k < xs.length
    · have hki : (k : Int) < (xs.length : Int) := by omega
      obtain rfl := HX1.out (by omega)
      have cx := HX2.out k hlt
      rw [List.getElem?_eq_getElem hlt, Option.getD_some] at cx
      by_cases hlu : k < ys.length
      · have hku : ¬ (k : Int) ≥ (ys.length : Int) := by omega
        have hku' : ¬ (ys.length : Int) ≤ (k : Int) := by omega
        have hki2 : (k : Int) < (ys.length : Int) := by omega
        obtain rfl := HY1.out (by omega)
        have cy := HY2.out k hlu
        rw [List.getElem?_eq_getElem hlu, Option.getD_some] at cy
        have HE := hide (cmpL_step hlt hlu)
        generalize xs[k] = x at *
        generalize ys[k] = y at *
        have HI := hide (cmpI_ok x y w)
        obtain ⟨z, hz⟩ : ∃ z, cmpI x y = z := ⟨_, rfl⟩
        rw [hz] at HI HE
        clear hz
        by_cases hz0 : z = 0
        · subst hz0
          go_wp2_with fail
          refine HI.out.mono ?_
          rintro e w1 ⟨rfl, rfl⟩
          go_wp2
          go_roundw
          case rel => exact ⟨k + 1, by omega, by omega, by go_num, by rw [HC.out, HE.out]; rfl, trivial⟩
          case measure => simp [intOf]; omega
        · have hzb : (z != 0) = true := by simpa using hz0
          have HZ := hide (show cmpL xs ys = z by rw [HC.out, HE.out, if_pos hz0])
          go_wp2_with fail
          refine HI.out.mono ?_
          rintro e w1 ⟨rfl, rfl⟩
          go_wp2
          go_ret
          exact ⟨by rw [HZ.out]; rfl, rfl⟩
      · have hku : (k : Int) ≥ (ys.length : Int) := by omega
        have hku' : (ys.length : Int) ≤ (k : Int) := by omega
        have HZ := hide (show cmpL xs ys = 1 by rw [HC.out, cmpL_more hlt (by omega)])
        go_wp2
        go_ret
        exact ⟨by rw [HZ.out]; rfl, rfl⟩
    · have hki : ¬ (k : Int) < (xs.length : Int) := by omega
      by_cases hlu : xs.length < ys.length
      · have hlu' : (xs.length : Int) < (ys.length : Int) := by omega
        have HZ := hide (show cmpL xs ys = -1 by rw [HC.out, cmpL_less (by omega) (by omega)])
        go_wp2
        go_ret
        exact ⟨by rw [HZ.out]; rfl, rfl⟩
      · have hlu' : ¬ (xs.length : Int) < (ys.length : Int) := by omega
        have HZ := hide (show cmpL xs ys = 0 by rw [HC.out, cmpL_end (by omega) (by omega)])
        go_wp2
        go_ret
        exact ⟨by rw [HZ.out]; rfl, rfl⟩
end Go.Proofs.YtlhjeenijcokoaaGreatDoor

namespace Go.Proofs.YtlhjeenijcokoaaGreatDoor
open Go Go.RowKit

theorem cmpI_neg (x y : Int) : cmpI y x = - cmpI x y := by unfold cmpI; split <;> split <;> (try split) <;> omega
theorem cmpI_lt {x y : Int} : cmpI x y < 0 ↔ x < y := by unfold cmpI; split <;> (try split) <;> omega
theorem cmpI_zero {x y : Int} : cmpI x y = 0 ↔ x = y := by unfold cmpI; split <;> (try split) <;> omega
theorem cmpL_neg : ∀ xs ys : List Int, cmpL ys xs = - cmpL xs ys
  | [], [] => rfl
  | [], _ :: _ => rfl
  | _ :: _, [] => rfl
  | x :: xs, y :: ys => by
    unfold cmpL
    rw [cmpI_neg x y, cmpL_neg xs ys]
    split <;> split <;> omega
theorem cmpL_zero : ∀ xs ys : List Int, cmpL xs ys = 0 ↔ xs = ys
  | [], [] => by simp [cmpL]
  | [], _ :: _ => by simp [cmpL]
  | _ :: _, [] => by simp [cmpL]
  | x :: xs, y :: ys => by
    unfold cmpL
    have h1 := @cmpI_zero x y
    have h2 := cmpL_zero xs ys
    rw [List.cons.injEq]
    split
    · exact ⟨fun h => absurd h (by assumption), fun h => absurd (h1.2 h.1) (by assumption)⟩
    · rename_i h
      rw [Decidable.not_not] at h
      exact ⟨fun k => ⟨h1.1 h, h2.1 k⟩, fun k => h2.2 k.2⟩
theorem cmpL_trans : ∀ xs ys zs : List Int, cmpL xs ys < 0 → cmpL ys zs < 0 → cmpL xs zs < 0
  | [], [], _, h, _ => absurd h (by simp [cmpL])
  | _ :: _, [], _, h, _ => absurd h (by simp [cmpL])
  | _, _ :: _, [], _, h => absurd h (by simp [cmpL])
  | [], _ :: _, _ :: _, _, _ => by simp [cmpL]
  | x :: xs, y :: ys, z :: zs, h1, h2 => by
    unfold cmpL at *
    have a1 := @cmpI_lt x y
    have a2 := @cmpI_lt y z
    have a3 := @cmpI_lt x z
    have b1 := @cmpI_zero x y
    have b2 := @cmpI_zero y z
    have b3 := @cmpI_zero x z
    have ih := cmpL_trans xs ys zs
    split at h1
    · have hxy := a1.1 h1
      split at h2
      · have hyz := a2.1 h2
        have := a3.2 (by omega)
        rw [if_pos (by omega)]; exact this
      · rename_i h
        have := b2.1 (by omega)
        have := a3.2 (by omega)
        rw [if_pos (by omega)]; exact this
    · rename_i h
      have hxy := b1.1 (by omega)
      split at h2
      · have hyz := a2.1 h2
        have := a3.2 (by omega)
        rw [if_pos (by omega)]; exact this
      · rename_i h'
        have := b2.1 (by omega)
        have := b3.2 (by omega)
        rw [if_neg (by omega)]; exact ih h1 h2
theorem cmpL_ge {xs ys zs : List Int} (h1 : ¬ cmpL xs ys < 0) (h2 : ¬ cmpL ys zs < 0) : ¬ cmpL xs zs < 0 := by
  intro h
  have a1 := cmpL_neg xs ys
  have a2 := cmpL_neg ys zs
  have a3 := cmpL_neg xs zs
  by_cases e1 : cmpL xs ys = 0
  · have := (cmpL_zero _ _).1 e1
    subst this
    exact h2 h
  · by_cases e2 : cmpL ys zs = 0
    · have := (cmpL_zero _ _).1 e2
      subst this
      exact h1 h
    · have := cmpL_trans zs ys xs (by omega) (by omega)
      omega
theorem sw_heap {α : Type} [Inhabited α] (enc : α → Value) (w : World) (g m : Nat) (dk : Array α) (os : Array Obj) {b : Nat} (hb : b < w.heap.size) (hne : b ≠ g) : (sortWorld enc w g 0 m dk os).heap[b]? = w.heap[b]? := by
  show ((w.heap.modify g _) ++ os)[b]? = _
  rw [Array.getElem?_append_left (by rw [Array.size_modify]; exact hb), Array.getElem?_modify, if_neg (fun h => hne h.symm)]
theorem sw_size {α : Type} [Inhabited α] (enc : α → Value) (w : World) (g m : Nat) (dk : Array α) (os : Array Obj) : w.heap.size ≤ (sortWorld enc w g 0 m dk os).heap.size := by
  show _ ≤ ((w.heap.modify g _) ++ os).size
  rw [Array.size_append, Array.size_modify]; omega
theorem sw_below {α : Type} [Inhabited α] (enc : α → Value) (w : World) (g m : Nat) (dk : Array α) (os : Array Obj) {B : Nat} (hB : B ≤ g) (hg : g < w.heap.size) : Below B w (sortWorld enc w g 0 m dk os) :=
  ⟨rfl, rfl, rfl, sw_size enc w g m dk os, fun b hb => sw_heap enc w g m dk os (by omega) (by omega)⟩
theorem swo_cmpL {α : Type} (f : α → List Int) : Go.Sort.SWO (ltOf fun i j => cmpL (f i) (f j)) where
  irrefl x := by
    have : cmpL (f x) (f x) = 0 := (cmpL_zero _ _).2 rfl
    unfold ltOf; simp [this]
  trans x y z h1 h2 := by
    unfold ltOf at *
    rw [decide_eq_true_eq] at *
    exact cmpL_trans _ _ _ h1 h2
  ntrans x y z h1 h2 := by
    unfold ltOf at *
    rw [decide_eq_false_iff_not] at *
    exact cmpL_ge h1 h2
shelf_lay_g SlLaysF.n6 Slsf 6 at Tryz 67 as sortLists
theorem ent96 (args : Array Value) (w : World) : (callFunc 71 args).run Tryz.prog w = .ok (.enter 71 args) w := enters_of Tryz.func71 (by kernel_rfl) rfl args w
theorem own_sw {α : Type} [Inhabited α] (enc : α → Value) {w : World} {base g cap m len : Nat} {e : TypeId} {os : Array Obj} {cur : Array Value} (d : Array α) (hl : d.size = len) (hb : base ≤ g) (hh : w.heap[g]? = some (.cells cur e (0, 0))) (h1 : len ≤ cap) (h2 : cap ≤ maxLen) (h3 : cur.size = cap * 1) :
    (sortWorld enc w g 0 m d os).ownsRow base e 1 (.slice (some ⟨g, 0, none⟩) len cap) len (d.toList.map enc) := by
  have hg : g < w.heap.size := (Array.getElem?_eq_some_iff.1 hh).1
  refine ⟨by simp [hl], .inr ⟨g, cap, Go.Sort.putCells enc 0 d cur, rfl, hb, ?_, h1, h2, by simp [Go.Sort.putCells, h3], ?_⟩⟩
  · show ((w.heap.modify g _) ++ os)[g]? = _
    rw [Array.getElem?_append_left (by rw [Array.size_modify]; exact hg), Array.getElem?_modify, if_pos rfl, hh]
    rfl
  · apply List.ext_getElem?
    intro j
    by_cases hj : j < len
    · rw [List.getElem?_take_of_lt (by omega), Array.getElem?_toList]
      simp [Go.Sort.putCells, show j < cur.size by omega, show j < d.size by omega]
    · rw [List.getElem?_take_eq_none (by omega), List.getElem?_eq_none (by simp; omega)]
/-- The lists, as they are sorted. -/
def srt (ms : List (List Int)) : Prop := ∀ i j, i < j → j < ms.length → ¬ cmpL (ms[j]?.getD []) (ms[i]?.getD []) < 0
theorem sort_ok (B g cap : Nat) (vs : List Value) (ls : List (List Int)) (w : World) (hrow : w.ownsRow B 22 1 (.slice (some ⟨g, 0, none⟩) vs.length cap) vs.length vs) (hls : Lsts w B (.slice (some ⟨g, 0, none⟩) vs.length cap) vs ls) (h60 : ∀ l, l ∈ ls → l.length ≤ 60) (hlen : vs.length < 4611686018427387904) (hpos : 0 < vs.length) :
    Calls Tryz.prog 67 #[.slice (some ⟨g, 0, none⟩) vs.length cap, .func (.func 71) #[] #[]] w fun e w' => e = .returned (.tuple #[]) ∧ Below B w w' ∧ ∃ ms : List (List Int), ms.Perm ls ∧ srt ms ∧ ∃ us : List Value, us.length = vs.length ∧ w'.ownsRow B 22 1 (.slice (some ⟨g, 0, none⟩) vs.length cap) vs.length us ∧ Lsts w' B (.slice (some ⟨g, 0, none⟩) vs.length cap) us ms := by
  have hvl := hls.1
  have hown : B ≤ g ∧ g < w.heap.size ∧ vs.length ≤ cap ∧ cap ≤ maxLen ∧ ∃ cur, w.heap[g]? = some (.cells cur 22 (0, 0)) ∧ cur.size = cap * 1 := by
    rcases hrow.2 with ⟨h, _⟩ | ⟨g', cap', cur, h, h1, h2, h3, h4, h9, _⟩
    · cases h
    · injection h with h5 _ h6
      injection h5 with h5
      injection h5 with h5
      subst h5 h6
      exact ⟨h1, (Array.getElem?_eq_some_iff.1 h2).1, h3, h4, cur, h2, h9⟩
  obtain ⟨hBg, hgw, hcap, hcap2, cur, hHP, hcur⟩ := hown
  haveI : Inhabited (Fin ls.length) := ⟨⟨0, by omega⟩⟩
  obtain ⟨enc, henc⟩ : ∃ enc : Fin ls.length → Value, ∀ i : Fin ls.length, vs[i.1]? = some (enc i) := ⟨fun i => vs[i.1]'(by omega), fun i => List.getElem?_eq_getElem (by omega)⟩
  have hval : ∀ i : Fin ls.length, ∃ a c pb po, enc i = .slice a (ls.get i).length c ∧ Reads w a pb po (ls.get i) ∧ pb < w.heap.size ∧ (ls.get i).length ≤ c ∧ c ≤ maxLen ∧ B ≤ pb ∧ pb ≠ g := fun i => by
    obtain ⟨a, c, pb, po, h1, h2, h3, h4, h5, h6, h7⟩ := hls.2 i.1 (enc i) (ls.get i) (henc i) (List.getElem?_eq_getElem i.2)
    exact ⟨a, c, pb, po, h1, h2, h3, h4, h5, h6, h7 g rfl⟩
  have hOne : OneCell enc := fun i => by
    obtain ⟨a, c, pb, po, h1, _⟩ := hval i
    rw [h1]; rfl
  obtain ⟨d, hd⟩ : ∃ d : Array (Fin ls.length), d = Array.ofFn (fun i => i) := ⟨_, rfl⟩
  have hds : d.size = vs.length := by rw [hd, Array.size_ofFn, hvl]
  have hH : Go.Sort.Holds enc w g 0 d := fun j hj => by
    have hj' : j < ls.length := by omega
    have h1 : d[j]! = ⟨j, hj'⟩ := by
      rw [getElem!_pos d j hj]
      simp [hd]
    have h3 := hrow.cells (g := g) rfl j (enc ⟨j, hj'⟩) (henc ⟨j, hj'⟩)
    rw [show (⟨g, 0, none⟩ : Addr).add j = ⟨g, j, none⟩ by unfold Addr.add; split <;> simp_all] at h3
    rw [Nat.zero_add, h1]
    exact ⟨h3, hrow.frozenAt j⟩
  have hSl : ∀ (W : World) (i : Fin ls.length), (∀ b, B ≤ b → b < w.heap.size → b ≠ g → W.heap[b]? = w.heap[b]?) → w.heap.size ≤ W.heap.size → Sl W (enc i) (ls.get i) := fun W i hW hs => by
    obtain ⟨a, c, pb, po, h1, h2, h3, h4, h5, h6, h7⟩ := hval i
    exact ⟨a, c, pb, po, h1, h2.of_eq (hW pb h6 h3 h7), Nat.lt_of_lt_of_le h3 hs, h4, h5⟩
  have hcmp : CmpLays1 Tryz.prog 71 #[] enc (fun i j : Fin ls.length => cmpL (ls.get i) (ls.get j)) g 0 d.size w := by
    intro m os dk _ x y
    have hw := fun b (_ : B ≤ b) (h1 : b < w.heap.size) (h2 : b ≠ g) => sw_heap enc w g m dk os h1 h2
    refine (scmp_ok (enc x) (enc y) (ls.get x) (ls.get y) (sortWorld enc w g 0 m dk os) (hSl _ x hw (sw_size ..)) (hSl _ y hw (sw_size ..)) (h60 _ (List.get_mem ls _)) (h60 _ (List.get_mem ls _))).mono ?_
    rintro e w' ⟨rfl, rfl⟩
    exact ⟨rfl, 0, #[], by rw [Go.Sort.grow_empty]; rfl⟩
  have hcon := Any.slices_SortFunc sortLists enc hOne (fun i j : Fin ls.length => cmpL (ls.get i) (ls.get j)) (swo_cmpL fun i : Fin ls.length => ls.get i) 71 #[] g 0 cap d w ent96 hcmp hH hgw (by omega)
  change Calls Tryz.prog 67 _ _ _ at hcon
  rw [hds] at hcon
  refine hcon.mono ?_
  rintro e w' ⟨rfl, d', n, os, hp, hs, rfl⟩
  refine ⟨rfl, sw_below enc w g n d' os hBg hgw, d'.toList.map (fun i => ls.get i), ?_, ?_, ?_⟩
  · obtain ⟨hp1, _, hp3⟩ := hp
    rw [← hds, show d.extract 0 d.size = d by simp, show d'.extract 0 d.size = d' by rw [← hp1]; simp] at hp3
    have h1 := hp3.map (fun i : Fin ls.length => ls.get i)
    have h2 : d.toList.map (fun i : Fin ls.length => ls.get i) = ls := by
      rw [hd]
      apply List.ext_getElem
      · simp
      · intro k h1 h2
        simp
    rw [h2] at h1
    exact h1
  · intro i j hij hj
    have hsz : d'.size = vs.length := by rw [hp.1, hds]
    have hj' : j < d'.size := by simpa using hj
    have h := hs i j (Nat.zero_le _) hij (by omega)
    unfold ltOf at h
    rw [decide_eq_false_iff_not, getElem!_pos d' i (by omega), getElem!_pos d' j hj'] at h
    rw [List.getElem?_map, List.getElem?_map, Array.getElem?_toList, Array.getElem?_toList, Array.getElem?_eq_getElem hj', Array.getElem?_eq_getElem (by omega)]
    exact h
  · have hsz : d'.size = vs.length := by rw [hp.1, hds]
    refine ⟨d'.toList.map enc, by simp [hsz], own_sw enc d' hsz hBg hHP hcap hcap2 hcur, by simp, fun t x l h1 h2 => ?_⟩
    rw [List.getElem?_map] at h1 h2
    obtain ⟨i, hi1, rfl⟩ := Option.map_eq_some_iff.1 h1
    rw [hi1] at h2
    obtain rfl := Option.some.inj h2
    obtain ⟨a, c, pb, po, k1, k2, k3, k4, k5, k6, k7⟩ := hval i
    exact ⟨a, c, pb, po, k1, k2.of_eq (sw_heap enc w g n d' os k3 k7), Nat.lt_of_lt_of_le k3 (sw_size ..), k4, k5, k6, fun g9 h9 h8 => k7 (h8.trans (Option.some.inj h9).symm)⟩
end Go.Proofs.YtlhjeenijcokoaaGreatDoor

namespace Go.Proofs.YtlhjeenijcokoaaGreatDoor
open Go Go.RowKit

set_option maxRecDepth 100000 in
set_option maxHeartbeats 4000000 in
theorem seql_ok (v u : Value) (xs ys : List Int) (w : World) (hv : Sl w v xs) (hu : Sl w u ys) :
    Calls Tryz.prog 75 #[v, u] w fun e w' => e = .returned (.bool (decide (xs = ys))) ∧ Below w.heap.size w w' := by
  obtain ⟨xa, xcap, xb, xo, rfl, ⟨x1, x2⟩, _, x4, x5⟩ := hv
  obtain ⟨ya, ycap, yb, yo, rfl, ⟨y1, y2⟩, _, _, _⟩ := hu
  have hxl : xs.length ≤ 9223372036854775807 := by unfold maxLen at x5; omega
  have HX1 := hide x1
  have HX2 := hide x2
  have HY1 := hide y1
  have HY2 := hide y2
  clear x1 x2 y1 y2 x5 x4
  obtain ⟨bb, hbb⟩ : ∃ bb, bb = decide (xs = ys) := ⟨_, rfl⟩
  rw [← hbb]
  have HBB := hide hbb
  clear hbb
  by_cases hl : xs.length = ys.length
  · have hne : ((xs.length : Int) != (ys.length : Int)) = false := by rw [hl]; simp
    have hli : (xs.length : Int) = (ys.length : Int) := by omega
    have HL := hide hl
    clear hl
    rw [← hli] at *
    have HYL := hide (show ys.length = xs.length from HL.out.symm)
    rw [HYL.out]
    go_enter Tryz.func75, Tryz.ntmps75
    go_wp2
    go_loopw [13] (fun i wr => ∃ k : Nat, k ≤ xs.length ∧ i = .int .i64 k ∧ (∀ t, t < k → xs[t]?.getD 0 = ys[t]?.getD 0) ∧ Below w.heap.size w wr) (fun i _ => xs.length - (intOf i).toNat)
    case atStart => exact ⟨0, Nat.zero_le _, rfl, fun t ht => by omega, Below.refl _ _⟩
    case round =>
      obtain ⟨k, hk, rfl, heq, hB⟩ := hrel
      have HEQ := hide heq
      clear heq
      by_cases hlt : k < xs.length
      · have hki : (k : Int) < (xs.length : Int) := by omega
        obtain rfl := HX1.out (by omega)
        obtain rfl := HY1.out (by rw [HYL.out]; omega)
        have cx := below_cell hB (HX2.out k hlt)
        have cy := below_cell hB (HY2.out k (by rw [HYL.out]; exact hlt))
        have HZ := hide (show xs[k]?.getD 0 = ys[k]?.getD 0 → ∀ t, t < k + 1 → xs[t]?.getD 0 = ys[t]?.getD 0 from fun h t ht => by
          by_cases e9 : t = k
          · subst e9; exact h
          · exact HEQ.out t (by omega))
        have HN := hide (show ¬ xs[k]?.getD 0 = ys[k]?.getD 0 → bb = false from fun h => by
          rw [HBB.out]
          exact decide_eq_false fun e9 => h (by rw [e9]))
        generalize xs[k]?.getD 0 = x at *
        generalize ys[k]?.getD 0 = y at *
        by_cases hxy : x = y
        · have HZ' := hide (HZ.out hxy)
          subst hxy
          clear HZ HN
          go_wp2_with fail
          go_region
          go_wp2
          go_roundw
          case rel => exact ⟨k + 1, by omega, by go_num, HZ'.out, bdrew hB⟩
          case measure => simp [intOf]; omega
        · have hne2 : (x != y) = true := by simpa using hxy
          have HN' := hide (HN.out hxy)
          clear HZ HN
          go_wp2_with fail
          go_region
          go_wp2
          go_ret
          exact ⟨by rw [HN'.out]; rfl, bdrew hB⟩
      · have hki : ¬ (k : Int) < (xs.length : Int) := by omega
        have HT := hide (show bb = true by
          rw [HBB.out]
          refine decide_eq_true (List.ext_getElem? fun t => ?_)
          by_cases ht : t < xs.length
          · have h9 := HEQ.out t (by omega)
            rw [List.getElem?_eq_getElem ht, List.getElem?_eq_getElem (by rw [HYL.out]; exact ht)] at h9 ⊢
            simpa using h9
          · rw [List.getElem?_eq_none (by omega), List.getElem?_eq_none (by rw [HYL.out]; omega)])
        go_wp2
        go_ret
        exact ⟨by rw [HT.out]; rfl, hB⟩
  · have hne : ((xs.length : Int) != (ys.length : Int)) = true := by
      have : ¬ (xs.length : Int) = (ys.length : Int) := by omega
      simpa using this
    have HF := hide (show bb = false by rw [HBB.out]; exact decide_eq_false fun e9 => hl (by rw [e9]))
    go_enter Tryz.func75, Tryz.ntmps75
    go_wp2
    go_ret
    exact ⟨by rw [HF.out]; rfl, Below.refl _ _⟩
end Go.Proofs.YtlhjeenijcokoaaGreatDoor

namespace Go.Proofs.YtlhjeenijcokoaaGreatDoor
open Go Go.RowKit

/-- Is the list at j another one than the one ahead? -/
def nw (ls : List (List Int)) (j : Nat) : Bool := decide (j = 0) || !decide (ls[j]?.getD [] = ls[j - 1]?.getD [])
def kpt (ls : List (List Int)) (i : Nat) : List Nat := (List.range i).filter (nw ls)
/-- What slices.CompactFunc leaves. -/
def dd (ls : List (List Int)) : List (List Int) := (kpt ls ls.length).map fun j => ls[j]?.getD []
section
variable {ls : List (List Int)} {vs : List Value} {i : Nat}
theorem kpt_yes (h : nw ls i = true) : kpt ls (i + 1) = kpt ls i ++ [i] := by
  unfold kpt
  rw [List.range_succ, List.filter_append, List.filter_cons, if_pos h, List.filter_nil]
theorem kpt_no (h : nw ls i = false) : kpt ls (i + 1) = kpt ls i := by
  unfold kpt
  rw [List.range_succ, List.filter_append, List.filter_cons, if_neg (by simp [h]), List.filter_nil, List.append_nil]
theorem kpt_len (ls : List (List Int)) (i : Nat) : (kpt ls i).length ≤ i := Nat.le_trans (List.length_filter_le _ _) (by simp)
theorem kpt_lt {j : Nat} (h : j ∈ kpt ls i) : j < i := List.mem_range.1 (List.mem_filter.1 h).1
/-- The row, as far as it has come. -/
def rowK (vs : List Value) (ls : List (List Int)) (i : Nat) : List Value := (kpt ls i).map (fun j => vs[j]?.getD undef) ++ vs.drop (kpt ls i).length
theorem rowK_len (h : i ≤ vs.length) : (rowK vs ls i).length = vs.length := by
  have := kpt_len ls i
  simp [rowK]; omega
theorem rowK_get {t : Nat} (ht : (kpt ls i).length ≤ t) : (rowK vs ls i)[t]? = vs[t]? := by
  unfold rowK
  rw [List.getElem?_append_right (by simpa using ht), List.getElem?_drop]
  congr 1
  simp; omega
theorem rowK_no (h : nw ls i = false) : rowK vs ls (i + 1) = rowK vs ls i := by unfold rowK; rw [kpt_no h]
theorem rowK_yes (h : nw ls i = true) (hi : (kpt ls i).length < vs.length) : rowK vs ls (i + 1) = (rowK vs ls i).set (kpt ls i).length (vs[i]?.getD undef) := by
  unfold rowK
  rw [kpt_yes h, List.map_append, List.length_append, List.set_append_right _ _ (by simp)]
  simp
  rw [List.drop_eq_getElem_cons hi]
  rfl
theorem rowK_all (h : kpt ls i = List.range i) (hi : i ≤ vs.length) : rowK vs ls i = vs := by
  unfold rowK
  rw [h]
  apply List.ext_getElem?
  intro t
  by_cases ht : t < i
  · rw [List.getElem?_append_left (by simpa using ht)]
    simp [ht, show t < vs.length by omega]
  · rw [List.getElem?_append_right (by simp; omega), List.getElem?_drop]
    congr 1
    simp; omega
theorem dd_all (h : kpt ls ls.length = List.range ls.length) : dd ls = ls := by
  unfold dd
  rw [h]
  apply List.ext_getElem?
  intro t
  by_cases ht : t < ls.length
  · simp [ht]
  · rw [List.getElem?_eq_none (by simp; omega), List.getElem?_eq_none (by omega)]
end
theorem setCells_cell (g : Nat) : ∀ (vs : List Value) (o : Nat) (w : World) (j : Nat), j < o → (w.setCells g o vs).cell? ⟨g, j, none⟩ = w.cell? ⟨g, j, none⟩
  | [], _, _, _, _ => rfl
  | v :: vs, o, w, j, h => by
    show ((w.setCell ⟨g, o, none⟩ v).setCells g (o + 1) vs).cell? ⟨g, j, none⟩ = w.cell? ⟨g, j, none⟩
    rw [setCells_cell g vs (o + 1) _ j (by omega)]
    exact World.cell?_setCell_other w ⟨g, o, none⟩ ⟨g, j, none⟩ v (fun e => by injection e with _ e; omega)
theorem setCells_heap (g : Nat) : ∀ (vs : List Value) (o : Nat) (w : World) (b : Nat), b ≠ g → (w.setCells g o vs).heap[b]? = w.heap[b]?
  | [], _, _, _, _ => rfl
  | v :: vs, o, w, b, h => (setCells_heap g vs (o + 1) (w.setCell ⟨g, o, none⟩ v) b h).trans (Below.heap_setCell _ _ _ b h)
theorem setCells_size (g : Nat) : ∀ (vs : List Value) (o : Nat) (w : World), (w.setCells g o vs).heap.size = w.heap.size
  | [], _, _ => rfl
  | v :: vs, o, w => (setCells_size g vs (o + 1) (w.setCell ⟨g, o, none⟩ v)).trans (size_set _ _ _)
theorem setCells_below {B g : Nat} {a : World} (hg : B ≤ g) : ∀ (vs : List Value) (o : Nat) (w : World), Below B a w → Below B a (w.setCells g o vs)
  | [], _, _, h => h
  | v :: vs, o, _, h => setCells_below hg vs (o + 1) _ (h.setCell (p := ⟨g, o, none⟩) hg v)
theorem own_keepE {W W' : World} {B n : Nat} {e : TypeId} {v : Value} {xs : List Value} (h : W.ownsRow B e 1 v n xs) (hk : ∀ g, g < W.heap.size → W'.heap[g]? = W.heap[g]?) : W'.ownsRow B e 1 v n xs := by
  refine ⟨h.1, ?_⟩
  rcases h.2 with h0 | ⟨g, cap, cur, hv, hg, hh, rest⟩
  · exact .inl h0
  · exact .inr ⟨g, cap, cur, hv, hg, (hk g (Array.getElem?_eq_some_iff.1 hh).1).trans hh, rest⟩
theorem ent98 (x y : Value) (W : World) : Sem.run Tryz.prog (callFunc 75 #[x, y]) W = .ok (.enter 75 #[x, y]) W := by kernel_rfl
theorem und43c : Tryz.prog.underlying 38 = some (.slice 22) := by kernel_rfl
theorem zero22c (w : World) : (zeroValue 22).run Tryz.prog w = .ok (.slice none 0 0) w := by kernel_rfl
end Go.Proofs.YtlhjeenijcokoaaGreatDoor

namespace Go.Proofs.YtlhjeenijcokoaaGreatDoor
open Go Go.RowKit

set_option maxRecDepth 100000 in
set_option maxHeartbeats 8000000 in
theorem compact_ok (B g cap : Nat) (vs : List Value) (ls : List (List Int)) (w : World) (hB9 : B ≤ w.heap.size) (hrow : w.ownsRow B 22 1 (.slice (some ⟨g, 0, none⟩) vs.length cap) vs.length vs) (hls : Lsts w B (.slice (some ⟨g, 0, none⟩) vs.length cap) vs ls) (hlen : vs.length ≤ 1000) :
    Calls Tryz.prog 83 #[.slice (some ⟨g, 0, none⟩) vs.length cap, .func (.func 75) #[] #[]] w fun e w' => ∃ k : Nat, e = .returned (.slice (some ⟨g, 0, none⟩) k cap) ∧ SlL w' (.slice (some ⟨g, 0, none⟩) k cap) (dd ls) ∧ Below B w w' := by
  have hvl := hls.1
  have hown : B ≤ g ∧ g < w.heap.size ∧ vs.length ≤ cap ∧ cap ≤ maxLen := by
    rcases hrow.2 with ⟨h, _⟩ | ⟨g', cap', cur, h, h1, h2, h3, h4, _⟩
    · cases h
    · injection h with h5 _ h6
      injection h5 with h5
      injection h5 with h5
      subst h5 h6
      exact ⟨h1, (Array.getElem?_eq_some_iff.1 h2).1, h3, h4⟩
  obtain ⟨hBg, hgw, hcap, hcap2⟩ := hown
  have HSL := hide (fun (W : World) (t : Nat) (x : Value) (hW : ∀ b, B ≤ b → b < w.heap.size → b ≠ g → W.heap[b]? = w.heap[b]?) (hs : w.heap.size ≤ W.heap.size) (hx : vs[t]? = some x) => show Sl W x (ls[t]?.getD []) by
    have ht := (List.getElem?_eq_some_iff.1 hx).1
    obtain ⟨a, c, pb, po, h1, h2, h3, h4, h5, h6, h7⟩ := hls.2 t x ls[t] hx (List.getElem?_eq_getElem (by omega))
    rw [List.getElem?_eq_getElem (by omega)]
    exact ⟨a, c, pb, po, h1, h2.of_eq (hW pb h6 h3 (h7 g rfl)), Nat.lt_of_lt_of_le h3 hs, h4, h5⟩)
  have HEND := hide (fun (W : World) (k : Nat) (js : List Nat) (hs : w.heap.size ≤ W.heap.size) (hW : ∀ b, B ≤ b → b < w.heap.size → b ≠ g → W.heap[b]? = w.heap[b]?) (hk : k ≤ cap) (hjl : js.length = k) (hj : ∀ j, j ∈ js → j < vs.length) (hc : ∀ t, t < k → W.cell? ⟨g, t, none⟩ = some (vs[js[t]?.getD 0]?.getD undef)) => show SlL W (.slice (some ⟨g, 0, none⟩) k cap) (js.map fun j => ls[j]?.getD []) by
    refine ⟨some ⟨g, 0, none⟩, cap, g, 0, by simp [hjl], fun _ => rfl, fun t ht => ?_, by omega, by simp [hjl]; omega, hcap2⟩
    have ht' : t < js.length := by simpa using ht
    have hjt := hj js[t] (List.getElem_mem ht')
    have h1 := hc t (by omega)
    rw [List.getElem?_eq_getElem ht', Option.getD_some, List.getElem?_eq_getElem hjt, Option.getD_some] at h1
    refine ⟨vs[js[t]], by rw [Nat.zero_add]; exact h1, ?_⟩
    rw [List.getElem?_map, List.getElem?_eq_getElem ht']
    exact HSL.out W js[t] _ hW hs (List.getElem?_eq_getElem hjt))
  have hE := ent98
  have HEQ := hide (fun (W : World) (s t : Nat) (x y : Value) (hW : ∀ b, B ≤ b → b < w.heap.size → b ≠ g → W.heap[b]? = w.heap[b]?) (hs : w.heap.size ≤ W.heap.size) (hx : vs[s]? = some x) (hy : vs[t]? = some y) => seql_ok x y _ _ W (HSL.out W s x hW hs hx) (HSL.out W t y hW hs hy))
  have HSLC := hide (fun t x (hx : vs[t]? = some x) => show ∃ a b c, x = .slice a b c from (HSL.out w t x (fun _ _ _ _ => rfl) (Nat.le_refl _) hx).isSlice)
  by_cases hl2 : vs.length < 2
  · have hli : (vs.length : Int) < 2 := by omega
    have HAL := hide (show kpt ls ls.length = List.range ls.length by
      have : ls.length = 0 ∨ ls.length = 1 := by omega
      rcases this with h | h <;> rw [h] <;> rfl)
    have HS9 := hide (HEND.out w vs.length (List.range vs.length) (Nat.le_refl _) (fun _ _ _ _ => rfl) hcap (by simp) (fun j hj => List.mem_range.1 hj) (fun t ht => by
      rw [hrow.cellAt t (by omega), List.getElem?_range ht, Option.getD_some, List.getElem?_eq_getElem ht, Option.getD_some]))
    go_enter Tryz.func83, Tryz.ntmps83
    go_wp2
    go_ret
    refine ⟨_, rfl, ?_, ⟨rfl, rfl, rfl, Nat.le_refl _, fun _ _ => rfl⟩⟩
    have h9 := HS9.out
    rw [hvl, ← HAL.out] at h9
    rw [hvl]
    exact h9
  · have hli : ¬ (vs.length : Int) < 2 := by omega
    have HVL := hide hvl
    have HRW := hide hrow
    clear hvl hrow hls
    go_enter Tryz.func83, Tryz.ntmps83
    go_wp2
    go_loopw [5] (fun i wr => ∃ k : Nat, 1 ≤ k ∧ k ≤ vs.length ∧ i = .int .i64 k ∧ kpt ls k = List.range k ∧ Below w.heap.size w wr) (fun i _ => vs.length - (intOf i).toNat)
    case atStart => exact ⟨1, Nat.le_refl _, by omega, rfl, rfl, Below.refl _ _⟩
    case round =>
      obtain ⟨k, hk1, hk, rfl, hkp, hB⟩ := hrel
      have HKP := hide hkp
      clear hkp
      have hsz := hB.size
      have HOT := hide (fun b (_ : B ≤ b) (h1 : b < w.heap.size) (_ : b ≠ g) => hB.block b h1)
      by_cases hlt : k < vs.length
      · obtain ⟨j, hj⟩ : ∃ j, k = j + 1 := ⟨k - 1, by omega⟩
        have hki : (k : Int) < (vs.length : Int) := by omega
        have hji : (j : Int) < (vs.length : Int) := by omega
        have hwk : IntKind.i64.wrap ((k : Int) - 1) = (j : Int) := by rw [IntKind.wrap_i64]; omega
        obtain ⟨x, hx⟩ : ∃ x, vs[k]? = some x := ⟨_, List.getElem?_eq_getElem hlt⟩
        obtain ⟨y, hy⟩ : ∃ y, vs[j]? = some y := ⟨_, List.getElem?_eq_getElem (by omega)⟩
        have cx := below_cell hB ((HRW.out.cellAt k (by omega)).trans hx)
        have cy := below_cell hB ((HRW.out.cellAt j (by omega)).trans hy)
        have HK := hide (fun W (h : Below wr.heap.size wr W) => HEQ.out W k j x y (fun b h1 h2 h3 => (h.block b (by omega)).trans (HOT.out b h1 h2 h3)) (Nat.le_trans hsz h.size) hx hy)
        have HNW := hide (show nw ls k = !decide (ls[k]?.getD [] = ls[j]?.getD []) by subst hj; simp [nw])
        obtain ⟨x1, x2, x3, rfl⟩ := HSLC.out _ _ hx
        obtain ⟨y1, y2, y3, rfl⟩ := HSLC.out _ _ hy
        clear hx hy
        have HJ := hide hj
        clear hj
        have hS' : ∀ W, Below wr.heap.size wr W → (Below wr.heap.size wr W ∧ W.cell? ⟨g, k, none⟩ = some (.slice x1 x2 x3) ∧ W.cell? ⟨g, j, none⟩ = some (.slice y1 y2 y3)) := fun W h => ⟨h, below_cell h cx, below_cell h cy⟩
        have hS1 := hS' _ (bdrew (Below.refl _ wr))
        clear cx cy
        by_cases he : ls[k]?.getD [] = ls[j]?.getD []
        · rw [decide_eq_true he] at HK HNW
          go_wp2_with fail
          go_region_held3 (fun W => Below wr.heap.size wr W ∧ W.cell? ⟨g, k, none⟩ = some (.slice x1 x2 x3) ∧ W.cell? ⟨g, j, none⟩ = some (.slice y1 y2 y3))
            (first | exact hS1 | assumption | exact hS' _ (bcat2 (And.left ‹_›) hl1))
            (first | (go_at_call 75; refine (HK.out _ (And.left ‹_›)).mono ?_; rintro e1 U1 ⟨rfl, hl1⟩))
          all_goals (
            have hb9 := And.left ‹Below wr.heap.size wr U1 ∧ _›
            have hB1 := bcat2 hB hb9
            have hR1 := own_keepE HRW.out (fun b hb => hB1.block b hb)
            have hk0 : kpt ls (k + 1) = List.range k := by rw [kpt_no (by rw [HNW.out]; rfl), HKP.out]
            have HK0 := hide hk0
            have HRK := hide (show rowK vs ls (k + 1) = vs by rw [rowK_no (by rw [HNW.out]; rfl)]; exact rowK_all HKP.out hk)
            clear hS' hS1 HK hk0
            have hkl : (k : Int) ≤ (vs.length : Int) := by omega
            go_wp2
            generalize hn2 : vs.length - k = n2
            generalize cap - k = c2
            have HN2 := hide hn2
            clear hn2
            go_loopw [5, 7] (fun s i wq => ∃ a b : Nat, s = .int .i64 a ∧ i = .int .i64 b ∧ 1 ≤ b ∧ k + b ≤ vs.length ∧ (kpt ls (k + b)).length = a ∧ a + 1 ≤ k + b ∧ wq.ownsRow B 22 1 (.slice (some ⟨g, 0, none⟩) vs.length cap) vs.length (rowK vs ls (k + b)) ∧ (∀ b', B ≤ b' → b' < w.heap.size → b' ≠ g → wq.heap[b']? = w.heap[b']?) ∧ Below B w wq) (fun _ i _ => vs.length - (intOf i).toNat)
            case atStart => exact ⟨k, 1, rfl, rfl, Nat.le_refl _, by omega, by rw [HK0.out]; simp, by omega, by rw [HRK.out]; exact hR1, fun b' _ h2 _ => hB1.block b' h2, hB1.mono hB9⟩
            case round =>
              clear hB1 hR1 hb9 hB hsz HOT
              obtain ⟨a, b, rfl, rfl, hb1, hbl, hka, hak, hrw, hot, hBq⟩ := hrel
              have HOQ := hide hot
              clear hot
              have hn2 := HN2.out
              have hsq := hBq.size
              by_cases hlt2 : b < n2
              · obtain ⟨c, hc⟩ : ∃ c, b = c + 1 := ⟨b - 1, by omega⟩
                have hbi : (b : Int) < (n2 : Int) := by omega
                have hci : (c : Int) < (n2 : Int) := by omega
                have hai : (a : Int) < (vs.length : Int) := by omega
                have hwb : IntKind.i64.wrap ((b : Int) - 1) = (c : Int) := by rw [IntKind.wrap_i64]; omega
                obtain ⟨x, hx⟩ : ∃ x, vs[k + b]? = some x := ⟨_, List.getElem?_eq_getElem (by omega)⟩
                obtain ⟨y, hy⟩ : ∃ y, vs[k + c]? = some y := ⟨_, List.getElem?_eq_getElem (by omega)⟩
                obtain ⟨z, hz⟩ : ∃ z, vs[a]? = some z := ⟨_, List.getElem?_eq_getElem (by omega)⟩
                have cx : wr.cell? ⟨g, k + b, none⟩ = some x := by rw [hrw.cellAt (k + b) (by omega), rowK_get (by omega)]; exact hx
                have cy : wr.cell? ⟨g, k + c, none⟩ = some y := by rw [hrw.cellAt (k + c) (by omega), rowK_get (by omega)]; exact hy
                have cz : wr.cell? ⟨g, a, none⟩ = some z := by rw [hrw.cellAt a (by omega), rowK_get (by omega)]; exact hz
                have HK := hide (fun W (h : Below wr.heap.size wr W) => HEQ.out W (k + b) (k + c) x y (fun b' h1 h2 h3 => (h.block b' (by omega)).trans (HOQ.out b' h1 h2 h3)) (Nat.le_trans hsq h.size) hx hy)
                have HNB := hide (show nw ls (k + b) = !decide (ls[k + b]?.getD [] = ls[k + c]?.getD []) by subst hc; simp [nw, ← Nat.add_assoc])
                have HGX := hide (show vs[k + b]?.getD undef = x by rw [hx]; rfl)
                obtain ⟨x1, x2, x3, rfl⟩ := HSLC.out _ _ hx
                obtain ⟨y1, y2, y3, rfl⟩ := HSLC.out _ _ hy
                obtain ⟨z1, z2, z3, rfl⟩ := HSLC.out _ _ hz
                clear hx hy hz hc
                have hS' : ∀ W, Below wr.heap.size wr W → (Below wr.heap.size wr W ∧ W.cell? ⟨g, k + b, none⟩ = some (.slice x1 x2 x3) ∧ W.cell? ⟨g, k + c, none⟩ = some (.slice y1 y2 y3)) := fun W h => ⟨h, below_cell h cx, below_cell h cy⟩
                have hS1 := hS' _ (bdrew (Below.refl _ wr))
                by_cases he2 : ls[k + b]?.getD [] = ls[k + c]?.getD []
                · rw [decide_eq_true he2] at HK HNB
                  have HKN := hide (show kpt ls (k + (b + 1)) = kpt ls (k + b) by rw [← Nat.add_assoc, kpt_no (by rw [HNB.out]; rfl)])
                  have HRN := hide (show rowK vs ls (k + (b + 1)) = rowK vs ls (k + b) by rw [← Nat.add_assoc, rowK_no (by rw [HNB.out]; rfl)])
                  clear cx cy cz
                  go_wp2_with fail
                  go_region_held3 (fun W => Below wr.heap.size wr W ∧ W.cell? ⟨g, k + b, none⟩ = some (.slice x1 x2 x3) ∧ W.cell? ⟨g, k + c, none⟩ = some (.slice y1 y2 y3))
                    (first | exact hS1 | assumption | exact hS' _ (bcat2 (And.left ‹_›) hl1))
                    (first | (go_at_call 75; refine (HK.out _ (And.left ‹_›)).mono ?_; rintro e1 U2 ⟨rfl, hl1⟩))
                  all_goals (
                    have hb8 := And.left ‹Below wr.heap.size wr U2 ∧ _›
                    go_wp2
                    go_roundw
                    case rel => exact ⟨a, b + 1, rfl, by go_num, by omega, by omega, by rw [HKN.out]; exact hka, by omega, by rw [HRN.out]; exact own_keepE hrw (fun b' h => hb8.block b' h), fun b' h1 h2 h3 => (hb8.block b' (by omega)).trans (HOQ.out b' h1 h2 h3), hBq.trans (hb8.mono (by omega))⟩
                    case measure => simp [intOf]; omega)
                · rw [decide_eq_false he2] at HK HNB
                  have HKN := hide (show kpt ls (k + (b + 1)) = kpt ls (k + b) ++ [k + b] by rw [← Nat.add_assoc, kpt_yes (by rw [HNB.out]; rfl)])
                  have HRN := hide (show rowK vs ls (k + (b + 1)) = (rowK vs ls (k + b)).set a (.slice x1 x2 x3) by rw [← Nat.add_assoc, rowK_yes (by rw [HNB.out]; rfl) (by omega), hka, HGX.out])
                  clear cx cy
                  go_wp2_with fail
                  go_region_held3 (fun W => Below wr.heap.size wr W ∧ W.cell? ⟨g, k + b, none⟩ = some (.slice x1 x2 x3) ∧ W.cell? ⟨g, k + c, none⟩ = some (.slice y1 y2 y3))
                    (first | exact hS1 | assumption | exact hS' _ (bcat2 (And.left ‹_›) hl1))
                    (first | (go_at_call 75; refine (HK.out _ (And.left ‹_›)).mono ?_; rintro e1 U2 ⟨rfl, hl1⟩))
                  all_goals (
                    have hb8 := And.left ‹Below wr.heap.size wr U2 ∧ _›
                    have cz2 := below_cell hb8 cz
                    obtain ⟨_, cx2, _⟩ := hS' _ hb8
                    have hr2 := own_keepE hrw (fun b' h => hb8.block b' h)
                    have fz := hr2.frozenAt a
                    obtain ⟨hr3, hg3⟩ := hr2.stored a (.slice x1 x2 x3)
                    have hB3 := (hBq.trans (hb8.mono (by omega))).setCell (p := ⟨g, a, none⟩) (by simpa using hBg) (.slice x1 x2 x3)
                    have HO3 := hide (fun b' (h1 : B ≤ b') (h2 : b' < w.heap.size) (h3 : b' ≠ g) => (Below.heap_setCell U2 ⟨g, a, none⟩ (.slice x1 x2 x3) b' h3).trans ((hb8.block b' (by omega)).trans (HOQ.out b' h1 h2 h3)))
                    clear hg3 hr2 hS' hS1
                    go_wp2
                    go_roundw
                    case rel => exact ⟨a + 1, b + 1, by go_num, by go_num, by omega, by omega, by rw [HKN.out]; simp [hka], by omega, by rw [HRN.out]; exact hr3, HO3.out, hB3⟩
                    case measure => simp [intOf]; omega)
              · have hbi : ¬ (b : Int) < (n2 : Int) := by omega
                have hbe : k + b = vs.length := by omega
                have HDD := hide (show dd ls = (kpt ls (k + b)).map (fun j => ls[j]?.getD []) by unfold dd; rw [← HVL.out, hbe])
                have hcl : ∀ ty, (Builtin.clear_ #[38] ty #[.slice (some ⟨g, a, none⟩) (vs.length - a) (cap - a)]).run Tryz.prog wr = .ok (.tuple #[]) (wr.setCells g a (List.replicate (vs.length - a) (.slice none 0 0))) := fun ty =>
                  Lib.run_clear_slice wr 38 22 ty (.slice none 0 0) und43c zero22c rfl rfl g a (vs.length - a) (cap - a) (by omega)
                    (fun j hj => by rw [hrw.cellAt (a + j) (by omega), rowK_get (by omega), List.getElem?_eq_getElem (by omega)]; rfl) (fun j _ => hrw.frozenAt (a + j))
                have HB8 := hide (setCells_below hBg (List.replicate (vs.length - a) (.slice none 0 0)) a wr hBq)
                have HS8 := hide (HEND.out (wr.setCells g a (List.replicate (vs.length - a) (.slice none 0 0))) a (kpt ls (k + b)) (by rw [setCells_size]; exact hsq) (fun b' h1 h2 h3 => (setCells_heap g _ a wr b' h3).trans (HOQ.out b' h1 h2 h3)) (by omega) hka (fun j hj => by have := kpt_lt hj; omega) (fun t ht => by
                  rw [setCells_cell g _ a wr t ht, hrw.cellAt t (by omega)]
                  unfold rowK
                  rw [List.getElem?_append_left (by simp [hka]; exact ht), List.getElem?_map, List.getElem?_eq_getElem (by omega)]
                  simp))
                have hali : (a : Int) ≤ (vs.length : Int) := by omega
                clear hbe hn2
                go_wp2
                go_ret
                refine ⟨_, rfl, ?_, HB8.out⟩
                rw [HDD.out]
                exact HS8.out)
        · rw [decide_eq_false he] at HK HNW
          have HK2 := hide (show kpt ls (k + 1) = List.range (k + 1) by rw [kpt_yes (by rw [HNW.out]; rfl), HKP.out, ← List.range_succ])
          go_wp2_with fail
          go_region_held3 (fun W => Below wr.heap.size wr W ∧ W.cell? ⟨g, k, none⟩ = some (.slice x1 x2 x3) ∧ W.cell? ⟨g, j, none⟩ = some (.slice y1 y2 y3))
            (first | exact hS1 | assumption | exact hS' _ (bcat2 (And.left ‹_›) hl1))
            (first | (go_at_call 75; refine (HK.out _ (And.left ‹_›)).mono ?_; rintro e1 U1 ⟨rfl, hl1⟩))
          all_goals (
            have hb9 := And.left ‹Below wr.heap.size wr U1 ∧ _›
            go_wp2
            go_roundw
            case rel => exact ⟨k + 1, by omega, by omega, by go_num, HK2.out, bcat2 hB hb9⟩
            case measure => simp [intOf]; omega)
      · have hki : ¬ (k : Int) < (vs.length : Int) := by omega
        have hkl : k = vs.length := by omega
        have HS9 := hide (HEND.out wr vs.length (List.range vs.length) hsz HOT.out hcap (by simp) (fun j hj => List.mem_range.1 hj) (fun t ht => by
          rw [below_cell hB ((HRW.out.cellAt t (by omega)).trans (List.getElem?_eq_getElem ht)), List.getElem?_range ht, Option.getD_some, List.getElem?_eq_getElem ht, Option.getD_some]))
        have HAL := hide (show dd ls = (List.range vs.length).map (fun j => ls[j]?.getD []) by unfold dd; rw [← HVL.out, ← hkl, HKP.out])
        have HB9 := hide (show Below B w wr from hB.mono hB9)
        clear hkl
        go_wp2
        go_ret
        refine ⟨_, rfl, ?_, HB9.out⟩
        rw [HAL.out]
        exact HS9.out
end Go.Proofs.YtlhjeenijcokoaaGreatDoor

namespace Go.Proofs.YtlhjeenijcokoaaGreatDoor
open Go Go.RowKit

theorem sorted_same : ∀ xs ys : List (List Int), xs.Perm ys → xs.Pairwise (fun a b => ¬ cmpL b a < 0) → ys.Pairwise (fun a b => ¬ cmpL b a < 0) → xs = ys
  | [], ys, h, _, _ => by rw [List.nil_perm.1 h]
  | x :: xs, [], h, _, _ => by cases h.length_eq
  | x :: xs, y :: ys, h, h1, h2 => by
    have e : x = y := by
      by_cases hxy : x = y
      · exact hxy
      · have hx : x ∈ ys := by
          have := h.subset (List.mem_cons_self (a := x) (l := xs))
          rcases List.mem_cons.1 this with k | k
          · exact absurd k hxy
          · exact k
        have hy : y ∈ xs := by
          have := h.symm.subset (List.mem_cons_self (a := y) (l := ys))
          rcases List.mem_cons.1 this with k | k
          · exact absurd k.symm hxy
          · exact k
        have a1 := (List.pairwise_cons.1 h1).1 y hy
        have a2 := (List.pairwise_cons.1 h2).1 x hx
        have a3 := cmpL_neg x y
        exact (cmpL_zero x y).1 (by omega)
    subst e
    rw [sorted_same xs ys h.cons_inv (List.pairwise_cons.1 h1).2 (List.pairwise_cons.1 h2).2]
theorem srt_pair {ms : List (List Int)} (h : srt ms) : ms.Pairwise (fun a b => ¬ cmpL b a < 0) := by
  rw [List.pairwise_iff_getElem]
  intro i j hi hj hij
  have := h i j hij hj
  rwa [List.getElem?_eq_getElem hi, List.getElem?_eq_getElem hj] at this
/-- What Inner lays ahead of the sort. -/
def innL (n : Nat) (zs : List Int) (e : Nat) : List (List Int) := (List.range n).map fun a => li ((List.range n).map fun x => Fin.cj (tm n zs) (iv n zs e) x a)
/-- A list, sorted by putting in. -/
def putIn (x : List Int) : List (List Int) → List (List Int)
  | [] => [x]
  | y :: ys => if cmpL y x < 0 then y :: putIn x ys else x :: y :: ys
def sortL : List (List Int) → List (List Int)
  | [] => []
  | x :: xs => putIn x (sortL xs)
theorem putIn_perm (x : List Int) : ∀ ys, (putIn x ys).Perm (x :: ys)
  | [] => List.Perm.refl _
  | y :: ys => by
    unfold putIn
    split
    · exact ((putIn_perm x ys).cons y).trans (List.Perm.swap x y ys)
    · exact List.Perm.refl _
theorem sortL_perm : ∀ xs, (sortL xs).Perm xs
  | [] => List.Perm.refl _
  | x :: xs => (putIn_perm x (sortL xs)).trans ((sortL_perm xs).cons x)
theorem sq_sorted : (sortL (innL 8 sqT 0)).Pairwise (fun a b => ¬ cmpL b a < 0) := by decide +kernel
theorem sq_four : (dd (sortL (innL 8 sqT 0))).length = 4 := by decide +kernel
theorem sq_inner {ms : List (List Int)} (h : ms.Perm (innL 8 sqT 0)) (hs : srt ms) : (dd ms).length = 4 := by
  rw [sorted_same ms (sortL (innL 8 sqT 0)) (h.trans (sortL_perm _).symm) (srt_pair hs) sq_sorted]
  exact sq_four
end Go.Proofs.YtlhjeenijcokoaaGreatDoor

namespace Go.Proofs.YtlhjeenijcokoaaGreatDoor
open Go Go.RowKit

/-- What conjugating by one thing does. -/
def cjL (n : Nat) (zs : List Int) (e a : Nat) : List Int := li ((List.range n).map fun x => Fin.cj (tm n zs) (iv n zs e) x a)
theorem cjL_len (n : Nat) (zs : List Int) (e a : Nat) : (cjL n zs e a).length = n := by simp [cjL, li]
def inns (n : Nat) (zs : List Int) (e k : Nat) : List (List Int) := (List.range k).map (cjL n zs e)
theorem inns_succ (n : Nat) (zs : List Int) (e k : Nat) : inns n zs e (k + 1) = inns n zs e k ++ [cjL n zs e k] := by unfold inns; rw [List.range_succ, List.map_append]; rfl
theorem inns_len (n : Nat) (zs : List Int) (e k : Nat) : (inns n zs e k).length = k := by unfold inns; simp
theorem take_set_ge {α : Type} {l : List α} {a : Nat} {v : α} : (l.set a v).take a = l.take a := by
  rw [List.take_set]
  exact List.set_eq_of_length_le (by rw [List.length_take]; omega)
theorem lsts_over {W : World} {M k c : Nat} {vs : List Value} {ls : List (List Int)} (h : Lsts W (M + 1) (.slice none 0 0) vs ls) : Lsts W M (.slice (some ⟨M, 0, none⟩) k c) vs ls :=
  ⟨h.1, fun t x l h1 h2 => by
    obtain ⟨a, cap, pb, po, h3, h4, h5, h6, h7, h8, _⟩ := h.2 t x l h1 h2
    exact ⟨a, cap, pb, po, h3, h4, h5, h6, h7, by omega, fun g hg => by simp [Value.ownBlock] at hg; omega⟩⟩
theorem own_of_blk {W : World} {M n : Nat} {vs : List Value} (h : Blk W M 22 vs) (hl : vs.length = n) (hm : n ≤ maxLen) : W.ownsRow M 22 1 (.slice (some ⟨M, 0, none⟩) n n) n vs :=
  ⟨by omega, .inr ⟨M, n, vs.toArray, rfl, Nat.le_refl _, h, Nat.le_refl _, hm, by simpa using hl, by simp [← hl]⟩⟩
set_option maxRecDepth 100000 in
set_option maxHeartbeats 8000000 in
theorem inner_good (n e : Nat) (v : Value) (zs : List Int) (w : World) (hv : Sl w v zs) (hg : IsGrp n zs e) :
    Calls Tryz.prog 44 #[.agg #[.int .i64 n, v]] w fun x w' => ∃ (r1 : Option Addr) (r2 r3 : Nat) (ms : List (List Int)), x = .returned (.tuple #[.slice r1 r2 r3, .agg #[.int .i64 0, .int .i64 0]]) ∧ ms.Perm (innL n zs e) ∧ srt ms ∧ SlL w' (.slice r1 r2 r3) (dd ms) ∧ Below w.heap.size w w' := by
  obtain ⟨va, vl, vc, rfl⟩ := hv.isSlice
  obtain ⟨j0, hj, hy0, hy1, hy2⟩ := info_parts info22b
  obtain ⟨i0, hi, hz0, hz1, hz2⟩ := info_parts info3b
  have hn := hg.tab.le
  have hn0 : 0 < n := Nat.lt_of_le_of_lt (Nat.zero_le _) hg.elt
  obtain ⟨w0, BG⟩ := Beg.new w n (.slice va vl vc)
  have HCK := hide (opened_good n e (.slice va vl vc) zs w0 (hv.below BG.bel) hg)
  obtain ⟨c0, c1, _, _⟩ := BG.box.two
  rw [BG.eq] at c0 c1
  go_enter Tryz.func44, Tryz.ntmps44
  go_wp2_with fail
  rw [← BG.eq]
  clear c0 c1
  refine HCK.out.mono ?_
  rintro x w1 ⟨iv9, rfl, hSI, hb1⟩
  obtain ⟨ia, il, ic, rfl⟩ := hSI.sl.isSlice
  obtain ⟨w3, hw3⟩ : ∃ w3, w3 = (w1.alloc (.cells #[.int .i64 n, (.slice va vl vc), .int .i64 e, (.slice ia il ic)] 57)).alloc (.cells #[.int .i64 0, .int .i64 0] 26) := ⟨_, rfl⟩
  have hb2 : Below w1.heap.size w1 w3 := by rw [hw3]; exact (balloc w1 _).alloc (by simp) _
  have hB1 : Below w0.heap.size w0 w3 := bcat2 hb1 hb2
  have hF1 : Blk w3 (w1.heap.size + 1) 26 [.int .i64 0, .int .i64 0] := by
    rw [hw3]
    have := blk0 (w := w1.alloc (.cells #[.int .i64 n, (.slice va vl vc), .int .i64 e, (.slice ia il ic)] 57)) (T := 26) (.int .i64 0) (.int .i64 0)
    rwa [World.size_alloc] at this
  have hH2 : Blk w3 w1.heap.size 57 [.int .i64 n, (.slice va vl vc), .int .i64 e, (.slice ia il ic)] := by
    rw [hw3]; exact (blk4 _ _ _ _).alloc _
  have hB3 := bcat BG.bel hB1 BG.bel.size
  have hR3 := blk_below BG.res hB1
  have hX3 := blk_below BG.box hB1
  have hGA : GA w3 n (.slice va vl vc) e (.slice ia il ic) zs := ⟨hg, hv.below hB3, hSI.sl.below hb2⟩
  have HCJ := hide (fun W x a (h : Below w3.heap.size w3 W) (hx : x < n) (ha : a < n) => conj_ok n (.slice va vl vc) (.slice ia il ic) zs e x a W (hGA.below h) hx ha)
  obtain ⟨t0, t1, _, _⟩ := hF1.two
  obtain ⟨g0, g1, _, _⟩ := hX3.two
  rw [hw3] at t0 t1 g0 g1
  go_wp2_with (first
    | (at_make; rw [← hw3]; refine wpList_make_full _ rfl _ _ 38 rfl w3.heap.size 22 j0 (.slice none 0 0) 1 under25b hj hy0 hy1 _ _ _ _ n rfl rfl rfl rfl (by rw [hy2]; omega) (by unfold maxLen; omega) (by simp) ?_))
  intro w4 hown hgr
  have hs3 : w1.heap.size + 1 + 1 = w3.heap.size := by rw [hw3]; simp
  rw [← hw3] at hgr
  rw [hs3] at hown ⊢
  have hM4 : Blk w4 w3.heap.size 22 (List.replicate n (.slice none 0 0)) := by
    have := Blk.of_owns hown
    rw [made_rep] at this
    exact this
  have hb4 : Below w3.heap.size w3 w4 := (Below.refl _ w3).grown hgr (Nat.le_refl _) (by simp)
  clear hown hgr hw3 hs3 t0 t1 g0 g1 HCK
  have HX3 := hide hX3
  have HR3 := hide hR3
  have HH3 := hide hH2
  clear hX3 hR3 hF1 hH2 hGA hSI hb1 hB1 BG hb2 hv
  go_wp2
  go_loopw [23] (fun i wr => ∃ (a : Nat) (vals : List Value), a ≤ n ∧ i = .int .i64 a ∧ Blk wr w3.heap.size 22 vals ∧ vals.length = n ∧ Lsts wr (w3.heap.size + 1) (.slice none 0 0) (vals.take a) (inns n zs e a) ∧ (∀ b, a ≤ b → b < n → vals[b]? = some (.slice none 0 0)) ∧ Below w3.heap.size w3 wr) (fun i _ => n - (intOf i).toNat)
  case atStart => exact ⟨0, List.replicate n (.slice none 0 0), Nat.zero_le _, rfl, hM4, by simp, ⟨by simp [inns], fun t x l h => by simp at h⟩, fun b _ hb => by simp [hb], hb4⟩
  case round =>
    clear hM4 hb4
    obtain ⟨a, vals, ha, rfl, hM, hvl, hLs, hnil, hB⟩ := hrel
    obtain ⟨wo, rfl⟩ : ∃ wo, wo = wr := ⟨_, rfl⟩
    by_cases hlt : a < n
    · have hai : (a : Int) < (n : Int) := by omega
      have HNIL := hide hnil
      obtain ⟨g0, g1, _, _⟩ := (blk_below HX3.out hB).two
      go_wp2
      clear g0 g1
      go_loopw [28] (fun i wr => ∃ (t : Nat) (vals : List Value) (rv : Value), t ≤ n ∧ i = .int .i64 t ∧ Blk wr w3.heap.size 22 vals ∧ vals.length = n ∧ vals[a]? = some rv ∧ Row wr (w3.heap.size + 1) rv ((cjL n zs e a).take t) ∧ Lsts wr (w3.heap.size + 1) rv (vals.take a) (inns n zs e a) ∧ (∀ b, a + 1 ≤ b → b < n → vals[b]? = some (.slice none 0 0)) ∧ Below w3.heap.size w3 wr) (fun i _ => n - (intOf i).toNat)
      case atStart => exact ⟨0, vals, .slice none 0 0, Nat.zero_le _, rfl, hM, hvl, hnil a (Nat.le_refl _) hlt, by simpa using nil_row _ _, hLs, fun b h1 h2 => hnil b (by omega) h2, hB⟩
      case round =>
        clear hM hvl hLs hnil hB
        obtain ⟨t, vals, rv, ht, rfl, hM, hvl, hva, hrow, hLs, hnil, hB⟩ := hrel
        by_cases htl : t < n
        · have hti : (t : Int) < (n : Int) := by omega
          obtain ⟨q9, hq9⟩ : ∃ q9 : Nat, Fin.cj (tm n zs) (iv n zs e) t a = q9 := ⟨_, rfl⟩
          have HE := hide (show (cjL n zs e a).take (t + 1) = (cjL n zs e a).take t ++ [(q9 : Int)] by
            have h9 : t < (cjL n zs e a).length := by rw [cjL_len]; exact htl
            rw [List.take_succ_eq_append_getElem h9]
            congr 2
            rw [← hq9]
            simp [cjL, li])
          have HLL := hide (show ((cjL n zs e a).take t).length ≤ 60 by rw [List.length_take]; omega)
          have HCM := hide (fun W (h : Below w3.heap.size w3 W) => HCJ.out W t a h htl hlt)
          rw [hq9] at HCM
          clear hq9
          have cM : wr.cell? ⟨w3.heap.size, a, none⟩ = some rv := by rw [hM.cell]; exact hva
          have fM := hM.frozen a
          have hMlt := hM.lt
          generalize hls : (cjL n zs e a).take t = ls at *
          have HLS := hide hls
          clear hls
          go_wp2_with fail
          obtain ⟨_, q0, q1, q2, q3, _, _⟩ := Four.mk' (blk_below HH3.out hB)
          have hBd := bdrew hB
          go_region_law (first
              | (go_simp; go_at_call 82; refine (HCM.out _ hBd).mono ?_; rintro e1 U2 ⟨rfl, hl1⟩; have hlA := undrew hl1; have hB1 := bcat2 hBd hl1; have hown2 : U2.ownsRow (w3.heap.size + 1) 3 1 rv ls.length (ls.map (Value.int .i64)) := row_below hrow hlA; have hM2 : Blk U2 w3.heap.size 22 vals := blk_below hM hlA; have hc2 : U2.cell? ⟨w3.heap.size, a, none⟩ = some rv := (by rw [hM2.cell]; exact hva); have hcA : (U2.alloc (.cells #[.int .i64 q9] 3)).cell? ⟨w3.heap.size, a, none⟩ = some rv := (by rw [(hM2.alloc _).cell]; exact hva); have hlB := hlA; have hBa := hB1.alloc hB1.size (.cells #[.int .i64 q9] 3); have hsz9 := hM2.lt)
              | (refine step_append_lies _ rfl _ _ 22 rfl (w3.heap.size + 1) 3 i0 (.int .i64 0) 1 8 under22b hi hz0 hz1 hz2 rfl (by decide) _ _ _ rfl (World.ownsRow.alloc hown2 _) ⟨U2.heap.size, 0, none⟩ 1 1 [.int .i64 q9] rfl rfl (cell_one_new _ _ _) (by simp [Value.oneCell']) (by decide) (by unfold maxLen; have := HLL.out; omega) (by have := HLL.out; omega) (by simp; omega) _ rfl ?_; intro g9 cap9 w9 hown9 hgrow hloc _; have hB2 : Below w3.heap.size w3 w9 := hBa.grown hgrow (by simp; omega) (fun t e => by have := owns_ge hown2 t e; omega); have hM9 : Blk w9 w3.heap.size 22 vals := (hM2.alloc _).of_eq (hgrow.block _ (by simp; omega) (fun e => by have := owns_ge hown2 _ e.symm; omega)); have hcw : w9.cell? ⟨w3.heap.size, a, none⟩ = some rv := (by rw [hM9.cell]; exact hva); have hfw := hM9.frozen a))
          all_goals (
            have hbl : ∀ g, g < U2.heap.size → rv.ownBlock ≠ some g → w9.heap[g]? = U2.heap[g]? := fun g h1 h2 => (hgrow.block g (by simp; omega) (fun e => h2 e.symm)).trans (Below.block (balloc U2 _) g h1)
            have hs9 : U2.heap.size ≤ w9.heap.size := by have := hgrow.size; simp at this; omega
            have hwU := hlB.size
            have hM' := hM9.set a (Value.slice (some ⟨g9, 0, none⟩) (ls.length + 1) cap9)
            have hrow' : Row (w9.setCell ⟨w3.heap.size, a, none⟩ (Value.slice (some ⟨g9, 0, none⟩) (ls.length + 1) cap9)) (w3.heap.size + 1) (Value.slice (some ⟨g9, 0, none⟩) (ls.length + 1) cap9) ((cjL n zs e a).take (t + 1)) := by
              rw [HE.out]
              refine rowset ?_ (Nat.lt_succ_self _)
              unfold Row
              simpa using hown9
            have hLs' : Lsts (w9.setCell ⟨w3.heap.size, a, none⟩ (Value.slice (some ⟨g9, 0, none⟩) (ls.length + 1) cap9)) (w3.heap.size + 1) (Value.slice (some ⟨g9, 0, none⟩) (ls.length + 1) cap9) ((vals.set a (Value.slice (some ⟨g9, 0, none⟩) (ls.length + 1) cap9)).take a) (inns n zs e a) := by
              rw [take_set_ge]
              refine hLs.keep (by rw [size_set]; omega) (fun g h1 h2 h3 => ?_) ?_
              · exact (Below.heap_setCell _ _ _ g (by simp; omega)).trans ((hbl g (by omega) h3).trans (hlB.block g h2))
              · rcases hloc with h | h
                · exact .inl h.symm
                · right
                  intro g hg
                  simp [Value.ownBlock] at hg h
                  omega
            have hnil' : ∀ b, a + 1 ≤ b → b < n → (vals.set a (Value.slice (some ⟨g9, 0, none⟩) (ls.length + 1) cap9))[b]? = some (.slice none 0 0) := fun b h1 h2 => by
              rw [List.getElem?_set_ne (by omega)]
              exact hnil b h1 h2
            have hva' : (vals.set a (Value.slice (some ⟨g9, 0, none⟩) (ls.length + 1) cap9))[a]? = some (Value.slice (some ⟨g9, 0, none⟩) (ls.length + 1) cap9) := by rw [List.getElem?_set_self (by omega)]
            have hB' := bSet (b := w3.heap.size) (o := a) (x := (Value.slice (some ⟨g9, 0, none⟩) (ls.length + 1) cap9)) hB2 (Nat.le_refl _)
            go_wp2
            go_roundw
            case rel => exact ⟨t + 1, _, _, by omega, by go_num, hM', by simpa using hvl, hva', hrow', hLs', hnil', hB'⟩
            case measure => simp [intOf]; omega)
        · have hti : ¬ (t : Int) < (n : Int) := by omega
          have hall : (cjL n zs e a).take t = cjL n zs e a := List.take_of_length_le (by rw [cjL_len]; omega)
          rw [hall] at hrow
          obtain ⟨m9, hm9⟩ : ∃ m9, (cjL n zs e a).length = m9 + 1 := ⟨n - 1, by rw [cjL_len]; omega⟩
          have hown : wr.ownsRow (w3.heap.size + 1) 3 1 rv (m9 + 1) ((cjL n zs e a).map (Value.int .i64)) := by rw [← hm9]; exact hrow
          obtain ⟨g9, cap9, rfl⟩ := ownsRow_succ hown
          have hsf := SlF.of_own hm9.symm hown
          have hLs9 : Lsts wr (w3.heap.size + 1) (.slice none 0 0) (vals.take (a + 1)) (inns n zs e (a + 1)) := by
            rw [inns_succ, List.take_add_one, hva]
            refine (hLs.keep (r' := .slice none 0 0) (Nat.le_refl _) (fun _ _ _ _ => rfl) (.inr (fun g hg => by simp [Value.ownBlock] at hg))).snoc ?_
            obtain ⟨b1, b2, b3, b4, h1, h2, h3, h4, h5, h6⟩ := hsf
            rw [hm9] at h1 h4
            exact ⟨b1, b2, b3, b4, by rw [hm9]; exact h1, h2, h3, by rw [hm9]; exact h4, h5, h6, fun g hg => by simp [Value.ownBlock] at hg⟩
          clear hall hm9
          go_wp2
          go_roundw
          case rel => exact ⟨a + 1, vals, by omega, by go_num, hM, hvl, hLs9, fun b h1 h2 => hnil b h1 h2, hB⟩
          case measure => simp [intOf]; omega
    · have hai : ¬ (a : Int) < (n : Int) := by omega
      have han : a = n := by omega
      rw [han, List.take_of_length_le (by omega)] at hLs
      have hrow := own_of_blk hM hvl (by unfold maxLen; omega)
      have hLo : Lsts wo w3.heap.size (.slice (some ⟨w3.heap.size, 0, none⟩) n n) vals (inns n zs e n) := lsts_over hLs
      have HSO := hide (sort_ok w3.heap.size w3.heap.size n vals (inns n zs e n) wo (by rw [hvl]; exact hrow) (by rw [hvl]; exact hLo) (fun l hl => by
        unfold inns at hl
        obtain ⟨k, _, rfl⟩ := List.mem_map.1 hl
        rw [cjL_len]; omega) (by omega) (by omega))
      rw [hvl] at HSO
      clear hM hLs hnil han hvl hrow hLo
      have hH9 : 0 < n := hn0
      go_wp2_with fail
      refine HSO.out.mono ?_
      rintro x5 w5 ⟨rfl, hb5, ms, hpm, hst, us, hul, hrow5, hls5⟩
      have HCO := hide (compact_ok w3.heap.size w3.heap.size n us ms w5 (Nat.le_trans hB.size hb5.size) (by rw [hul]; exact hrow5) (by rw [hul]; exact hls5) (by omega))
      rw [hul] at HCO
      have hB5 : Below w3.heap.size w3 w5 := hB.trans hb5
      clear hul hrow5 hls5
      go_wp2_with fail
      refine HCO.out.mono ?_
      rintro x6 w6 ⟨k9, rfl, hSL6, hb6⟩
      have hB6 : Below w3.heap.size w3 w6 := hB5.trans hb6
      have hR6 := HR3.out.of_eq (hB6.block _ HR3.out.lt)
      obtain ⟨y0, y1, fy0, fy1⟩ := hR6.two
      obtain ⟨s0, s1⟩ := hR6.self
      have hB7 := bcat2 hB3 hB6
      go_wp2
      exact bodyPost_ret (v := .tuple #[.slice (some ⟨w3.heap.size, 0, none⟩) k9 n, .agg #[.int .i64 0, .int .i64 0]]) (by simp [results, Tryz.results44, go_sem, y0, y1]) rfl ⟨_, _, _, ms, rfl, hpm, hst, hSL6, hB7⟩
end Go.Proofs.YtlhjeenijcokoaaGreatDoor

namespace Go.Proofs.YtlhjeenijcokoaaGreatDoor
open Go Go.RowKit

theorem sq_auto_len {ks : List Nat} (h1 : LM 8 sqT 0 ks) (h2 : ∀ a, a < 8 → Mkd 8 sqT 0 (fun x => decide (x ∈ ks)) a) : (autL 8 sqT 0 ks).length = 8 := by
  rw [sq_lm h1 h2]
  exact sq_autos
theorem sq_autos_ok (v : Value) (W : World) (hv : Sl W v sqT) (hT : Tab W) :
    Calls Tryz.prog 42 #[.agg #[.int .i64 8, v]] W fun x w' => ∃ (r1 : Option Addr) (r3 : Nat), x = .returned (.tuple #[.slice r1 8 r3, .agg #[.int .i64 0, .int .i64 0]]) ∧ Below W.heap.size W w' := by
  refine (autos_good 8 0 v sqT W hv sqT_grp hT (by decide) (fun ks h1 h2 => by rw [sq_auto_len h1 h2]; decide)).mono ?_
  rintro x w' ⟨ks, r, vs, rfl, h1, h2, hrow, hls, hb⟩
  obtain ⟨ra, rcap, rfl⟩ := own_slice' hrow
  have : vs.length = 8 := by rw [hls.1, sq_auto_len h1 h2]
  rw [this]
  exact ⟨ra, rcap, rfl, hb⟩
theorem sq_inner_ok (v : Value) (W : World) (hv : Sl W v sqT) :
    Calls Tryz.prog 44 #[.agg #[.int .i64 8, v]] W fun x w' => ∃ (r1 : Option Addr) (r3 : Nat), x = .returned (.tuple #[.slice r1 4 r3, .agg #[.int .i64 0, .int .i64 0]]) ∧ Below W.heap.size W w' := by
  refine (inner_good 8 0 v sqT W hv sqT_grp).mono ?_
  rintro x w' ⟨r1, r2, r3, ms, rfl, h1, h2, hS, hb⟩
  obtain ⟨a, cap, pb, po, hv9, _⟩ := hS
  injection hv9 with _ e2 _
  rw [sq_inner h1 h2] at e2
  subst e2
  exact ⟨r1, r3, rfl, hb⟩
set_option maxRecDepth 100000 in
set_option maxHeartbeats 8000000 in
theorem homBegun_any (w : World) (hT : Tab w) : Calls Tryz.prog 10 #[] w fun x w' => x = .returned (.bool true) ∧ Below w.heap.size w w' := by
  go_enter Tryz.func10, Tryz.ntmps10
  go_wp2_with fail
  refine (square_ok w).mono ?_
  rintro x w1 ⟨r, rfl, hrow, hb1⟩
  obtain ⟨rx, rcap, rfl⟩ := own_slice hrow
  have hs1 := row_sl hrow (Nat.lt_of_lt_of_le hT.lt hb1.size)
  have hT1 := hT.below hb1
  go_wp2_with fail
  refine (sq_autos_ok _ w1 hs1 hT1).mono ?_
  rintro x w2 ⟨r1, r3, rfl, hb2⟩
  have hF := blk0 (w := w2) (T := 26) (.int .i64 0) (.int .i64 0)
  have hb3 := balloc w2 (.cells #[.int .i64 0, .int .i64 0] 26)
  have hB3 := bcat2 (bcat2 hb1 hb2) hb3
  have hlt3 := hF.lt
  go_wp2_with fail
  generalize w2.alloc (.cells #[.int .i64 0, .int .i64 0] 26) = w3 at *
  refine (square_ok w3).mono ?_
  rintro x w4 ⟨r4, rfl, hrow4, hb4⟩
  obtain ⟨ry, rcap4, rfl⟩ := own_slice hrow4
  have hs4 := row_sl hrow4 (by have := hb4.size; omega)
  go_wp2_with fail
  refine (sq_inner_ok _ w4 hs4).mono ?_
  rintro x w5 ⟨r5, r6, rfl, hb5⟩
  have hF5 := blk_below (blk_below hF hb4) hb5
  have hF6 := hF5.alloc (.cells #[.int .i64 0, .int .i64 0] 26)
  have hE6 := blk0 (w := w5) (T := 26) (.int .i64 0) (.int .i64 0)
  obtain ⟨f0, f1, _, _⟩ := hF6.two
  obtain ⟨g0, g1, _, _⟩ := hE6.two
  have hB6 := bcat2 (bcat2 (bcat2 hB3 hb4) hb5) (balloc w5 (.cells #[.int .i64 0, .int .i64 0] 26))
  go_wp2
  go_ret
  exact ⟨rfl, hB6⟩
end Go.Proofs.YtlhjeenijcokoaaGreatDoor

namespace Go.Proofs.YtlhjeenijcokoaaGreatDoor
open Go Go.RowKit

/-- What is wrong with two tables. -/
def twofault (N : Int) (zs : List Int) (M : Int) (ys : List Int) : Int × Int := if (gfault N zs).1 ≠ 0 then gfault N zs else gfault M ys
set_option maxRecDepth 100000 in
set_option maxHeartbeats 4000000 in
theorem rtwo_any (N M : Int) (v y : Value) (zs ys : List Int) (w : World) (hv : Sl w v zs) (hy : Sl w y ys) :
    Calls Tryz.prog 9 #[.agg #[.int .i64 N, v], .agg #[.int .i64 M, y]] w fun x w' => x = .returned (.agg #[.int .i64 (twofault N zs M ys).1, .int .i64 (twofault N zs M ys).2]) ∧ Below w.heap.size w w' := by
  obtain ⟨w0, BG⟩ := BegF.new w N M v y
  have HG := hide (groupFault_any N v zs w0 (hv.below BG.bel))
  have HH := hide (fun W (h : Below w.heap.size w W) => groupFault_any M y ys W (hy.below h))
  obtain ⟨e0, e1, _, _⟩ := BG.box.two
  rw [BG.eq] at e0 e1
  by_cases hc : (gfault N zs).1 = 0
  · obtain ⟨n, e, rfl, hg, _⟩ := gfault_grp hc
    rw [show twofault n zs M ys = gfault M ys by unfold twofault; rw [if_neg (by simpa using hc)]]
    rw [gfault_of_grp hg] at HG
    obtain ⟨c, i, hci⟩ : ∃ c i, gfault M ys = (c, i) := ⟨_, _, rfl⟩
    rw [hci] at HH ⊢
    simp only at HH ⊢
    clear hci hc
    go_enter Tryz.func9, Tryz.ntmps9
    go_wp2_with fail
    rw [← BG.eq]
    clear e0 e1
    refine HG.out.mono ?_
    rintro x w1 ⟨rfl, hb1⟩
    have hb2 := bcat2 hb1 (balloc w1 (.cells #[.int .i64 0, .int .i64 0] 26))
    have hF2 := blk0 (w := w1) (T := 26) (.int .i64 0) (.int .i64 0)
    have hBw := bcat BG.bel hb2 BG.bel.size
    have hY2 := blk_below BG.boy hb2
    have hR2 := blk_below BG.res hb2
    have hsz := Nat.le_trans (Nat.le_of_eq BG.siz.symm) hb1.size
    obtain ⟨t0, t1, _, _⟩ := hF2.two
    obtain ⟨k0, k1, _, _⟩ := hY2.two
    go_wp2_with fail
    generalize w1.alloc (.cells #[.int .i64 0, .int .i64 0] 26) = w2 at *
    clear t0 t1 k0 k1
    refine (HH.out _ hBw).mono ?_
    rintro x w3 ⟨rfl, hb3⟩
    have hF3 := blk_below hF2 hb3
    have hR3 := blk_below hR2 hb3
    have hB3 := bcat2 hBw hb3
    obtain ⟨hF4, hB4⟩ := put2 hF3 hB3 (by omega) c i
    have hR4 : Blk ((w3.setCell ⟨w1.heap.size, 0, none⟩ (.int .i64 c)).setCell ⟨w1.heap.size, 1, none⟩ (.int .i64 i)) (w.heap.size + 1 + 1) 26 [.int .i64 0, .int .i64 0] := (hR3.other (by simp; omega) _).other (by simp; omega) _
    obtain ⟨t0, t1, ft0, ft1⟩ := hF3.two
    obtain ⟨u0, u1, _, _⟩ := hF4.two
    obtain ⟨y0, y1, fy0, fy1⟩ := hR4.two
    obtain ⟨hR6, hB6⟩ := put2 hR4 hB4 (by omega) c i
    obtain ⟨z0, z1, _, _⟩ := hR6.two
    go_wp2
    exact bodyPost_ret (v := .agg #[.int .i64 c, .int .i64 i]) (by simp [results, Tryz.results9, go_sem, z0, z1]) rfl ⟨rfl, hB6⟩
  · rw [show twofault N zs M ys = gfault N zs by unfold twofault; rw [if_pos hc]]
    obtain ⟨c, i, hci⟩ : ∃ c i, gfault N zs = (c, i) := ⟨_, _, rfl⟩
    rw [hci] at HG hc ⊢
    simp only at HG hc ⊢
    clear hci
    have hcb : (c == 0) = false := by simpa using hc
    go_enter Tryz.func9, Tryz.ntmps9
    go_wp2_with fail
    rw [← BG.eq]
    clear e0 e1
    refine HG.out.mono ?_
    rintro x w1 ⟨rfl, hb1⟩
    have hb2 := bcat2 hb1 (balloc w1 (.cells #[.int .i64 c, .int .i64 i] 26))
    have hF2 := blk0 (w := w1) (T := 26) (.int .i64 c) (.int .i64 i)
    have hBw := bcat BG.bel hb2 BG.bel.size
    have hR2 := blk_below BG.res hb2
    obtain ⟨t0, t1, _, _⟩ := hF2.two
    obtain ⟨y0, y1, fy0, fy1⟩ := hR2.two
    obtain ⟨hR6, hB6⟩ := put2 hR2 hBw (by omega) c i
    obtain ⟨z0, z1, _, _⟩ := hR6.two
    go_wp2
    exact bodyPost_ret (v := .agg #[.int .i64 c, .int .i64 i]) (by simp [results, Tryz.results9, go_sem, z0, z1]) rfl ⟨rfl, hB6⟩
set_option maxRecDepth 100000 in
set_option maxHeartbeats 4000000 in
theorem rhom_two (N M : Int) (v y mv : Value) (zs ys : List Int) (w : World) (hv : Sl w v zs) (hy : Sl w y ys) (hc : (twofault N zs M ys).1 ≠ 0) :
    Calls Tryz.prog 11 #[.agg #[.int .i64 N, v], .agg #[.int .i64 M, y], mv] w fun x w' => x = .returned (.agg #[.int .i64 (twofault N zs M ys).1, .int .i64 (twofault N zs M ys).2]) ∧ Below w.heap.size w w' := by
  obtain ⟨w0, BG⟩ := BegF.new w N M v y
  have HTW := hide (rtwo_any N M v y zs ys w0 (hv.below BG.bel) (hy.below BG.bel))
  obtain ⟨c, i, hci⟩ : ∃ c i, twofault N zs M ys = (c, i) := ⟨_, _, rfl⟩
  rw [hci] at HTW hc ⊢
  simp only at HTW hc ⊢
  clear hci
  have hcb : (c != 0) = true := by simpa using hc
  obtain ⟨e0, e1, _, _⟩ := BG.box.two
  obtain ⟨k0, k1, _, _⟩ := BG.boy.two
  rw [BG.eq] at e0 e1 k0 k1
  go_enter Tryz.func11, Tryz.ntmps11
  go_wp2_with fail
  rw [← BG.eq]
  clear e0 e1 k0 k1
  refine HTW.out.mono ?_
  rintro x w1 ⟨rfl, hb1⟩
  have hb2 := bcat2 hb1 (balloc w1 (.cells #[.int .i64 c, .int .i64 i] 26))
  have hF2 := blk0 (w := w1) (T := 26) (.int .i64 c) (.int .i64 i)
  have hBw := bcat BG.bel hb2 BG.bel.size
  have hR2 := blk_below BG.res hb2
  obtain ⟨t0, t1, _, _⟩ := hF2.two
  obtain ⟨y0, y1, fy0, fy1⟩ := hR2.two
  obtain ⟨hR6, hB6⟩ := put2 hR2 hBw (by omega) c i
  obtain ⟨z0, z1, _, _⟩ := hR6.two
  go_wp2
  exact bodyPost_ret (v := .agg #[.int .i64 c, .int .i64 i]) (by simp [results, Tryz.results11, go_sem, z0, z1]) rfl ⟨rfl, hB6⟩
end Go.Proofs.YtlhjeenijcokoaaGreatDoor

namespace Go.Proofs.YtlhjeenijcokoaaGreatDoor
open Go Go.RowKit

set_option maxRecDepth 100000 in
set_option maxHeartbeats 8000000 in
theorem rhom_len (n e m d : Nat) (v y mv : Value) (zs ys ms : List Int) (w : World) (hv : Sl w v zs) (hg : IsGrp n zs e) (hy : Sl w y ys) (hh : IsGrp m ys d) (hm : Sl w mv ms) (hl : ms.length = n) :
    Calls Tryz.prog 11 #[.agg #[.int .i64 n, v], .agg #[.int .i64 m, y], mv] w fun x w' => x = .returned (.agg #[.int .i64 (hfault n zs m ys ms).1, .int .i64 (hfault n zs m ys ms).2]) ∧ Below w.heap.size w w' := by
  have hn := hg.tab.le
  obtain ⟨w0, BG⟩ := BegF.new w n m v y
  have HTW := hide (rtwo_good n e m d v y zs ys w0 (hv.below BG.bel) hg (hy.below BG.bel) hh)
  have HMG := hide (fun W a b (h : Below w.heap.size w W) (ha : a < n) (hb : b < n) => M_ok n v zs a b W hg.tab (hv.below h) ha hb)
  have HMH := hide (fun W a b (h : Below w.heap.size w W) (ha : a < m) (hb : b < m) => M_ok m y ys a b W hh.tab (hy.below h) ha hb)
  have HTL := hide (fun a b (ha : a < n) (hb : b < n) => tm_lt hg.tab ha hb)
  obtain ⟨c, i, hci⟩ : ∃ c i, hfault n zs m ys ms = (c, i) := ⟨_, _, rfl⟩
  have H3 := hide (fun k (hk : k < n) (h1 : ∀ t, t < k → rng m ms t = true) (h2 : rng m ms k = false) => show c = 3 ∧ i = (k : Int) by
    have h9 := hci.symm.trans (hfault_3 hg hh hl hk h1 h2)
    exact ⟨congrArg Prod.fst h9, congrArg Prod.snd h9⟩)
  have H7 := hide (fun (hr : ∀ t, t < n → rng m ms t = true) k (hk : k < n) (h1 : ∀ t, t < k → stq n zs m ys ms t = false) (h2 : stq n zs m ys ms k = true) => show c = 7 ∧ i = (k : Int) by
    have h9 := hci.symm.trans (hfault_7 hg hh hl hr hk h1 h2)
    exact ⟨congrArg Prod.fst h9, congrArg Prod.snd h9⟩)
  have H0 := hide (fun (hr : ∀ t, t < n → rng m ms t = true) (h1 : ∀ t, t < n → stq n zs m ys ms t = false) => show c = 0 ∧ i = 0 by
    have h9 := hci.symm.trans (hfault_0 hg hh hl hr h1)
    exact ⟨congrArg Prod.fst h9, congrArg Prod.snd h9⟩)
  rw [hci]
  simp only
  clear hci
  obtain ⟨ma, mc, mb, mo, rfl, hmr, hmb, _, hmm⟩ := hm
  have HMA := hide (fun (h : 0 < n) => hmr.at_ (by omega))
  have HMC := hide (fun i (h : i < n) => hmr.cell i (by omega))
  rw [hl] at *
  clear hmr hmm hl
  obtain ⟨e0, e1, _, _⟩ := BG.box.two
  obtain ⟨k0, k1, _, _⟩ := BG.boy.two
  rw [BG.eq] at e0 e1 k0 k1
  go_enter Tryz.func11, Tryz.ntmps11
  go_wp2_with fail
  rw [← BG.eq]
  clear e0 e1 k0 k1
  refine HTW.out.mono ?_
  rintro x w1 ⟨rfl, hb1⟩
  obtain ⟨w2, hw2⟩ : ∃ w2, w2 = w1.alloc (.cells #[.int .i64 0, .int .i64 0] 26) := ⟨_, rfl⟩
  have hb2 : Below w0.heap.size w0 w2 := by rw [hw2]; exact bcat2 hb1 (balloc w1 _)
  have hF2 : Blk w2 w1.heap.size 26 [.int .i64 0, .int .i64 0] := by rw [hw2]; exact blk0 _ _
  have hBw2 := bcat BG.bel hb2 BG.bel.size
  have hX2 := blk_below BG.box hb2
  have hY2 := blk_below BG.boy hb2
  have hR2 := blk_below BG.res hb2
  obtain ⟨t0, t1, _, _⟩ := hF2.two
  obtain ⟨g0, g1, _, _⟩ := hX2.two
  obtain ⟨k0, k1, _, _⟩ := hY2.two
  have hS : ∀ W, Below w2.heap.size w2 W → (Below w2.heap.size w2 W ∧ W.cell? ⟨w.heap.size, 0, none⟩ = some (.int .i64 n) ∧ W.cell? ⟨w.heap.size, 1, none⟩ = some v ∧ W.cell? ⟨w.heap.size + 1, 0, none⟩ = some (.int .i64 m) ∧ W.cell? ⟨w.heap.size + 1, 1, none⟩ = some y) := fun W h => ⟨h, below_cell h g0, below_cell h g1, below_cell h k0, below_cell h k1⟩
  rw [hw2] at t0 t1 g0 g1 k0 k1
  go_wp2
  rw [← hw2]
  clear hw2 t0 t1 g0 g1 k0 k1
  go_loopw [8] (fun i wr => ∃ a : Nat, a ≤ n ∧ i = .int .i64 a ∧ (∀ t, t < a → rng m ms t = true) ∧ Below w2.heap.size w2 wr) (fun i _ => n - (intOf i).toNat)
  case atStart => exact ⟨0, Nat.zero_le _, rfl, fun t ht => by omega, Below.refl _ _⟩
  case round =>
    obtain ⟨a, ha, rfl, hrg, hB⟩ := hrel
    obtain ⟨_, g0, g1, k0, k1⟩ := hS _ hB
    have hBw := bcat2 hBw2 hB
    have HRG := hide hrg
    clear hrg
    by_cases hlt : a < n
    · have hai : (a : Int) < (n : Int) := by omega
      obtain rfl := HMA.out (by omega)
      have ca := below_cell hBw (HMC.out a hlt)
      have HRN : Hid (rng m ms a = decide (0 ≤ ms[a]?.getD 0 ∧ ms[a]?.getD 0 < (m : Int))) := rfl
      generalize ms[a]?.getD 0 = fa at *
      by_cases hf1 : fa < 0
      · obtain ⟨rfl, rfl⟩ := H3.out a hlt HRG.out (by rw [HRN.out]; exact decide_eq_false (by omega))
        have hd1 : decide (fa < 0) = true := decide_eq_true hf1
        have HF := hide (fun W => f_any 3 a W)
        go_wp2_with fail
        go_quiet (fail)
        have hBq := bdrewN hB nq
        generalize wr.drewN nq = wq at hBq ⊢
        go_wp2_with fail
        refine (HF.out wq).mono ?_
        rintro e9 w9 ⟨rfl, hb9⟩
        have hB9 := bcat2 hBq hb9
        have hR9 := blk_below hR2 hB9
        obtain ⟨y0, y1, fy0, fy1⟩ := hR9.two
        obtain ⟨hR6, hB6⟩ := put2 hR9 (bcat2 hBw2 hB9) (by omega) 3 a
        obtain ⟨z0, z1, _, _⟩ := hR6.two
        go_wp2
        exact bodyPost_ret (v := .agg #[.int .i64 3, .int .i64 a]) (by simp [results, Tryz.results11, go_sem, z0, z1]) rfl ⟨rfl, hB6⟩
      · have hd1 : decide (fa < 0) = false := decide_eq_false hf1
        by_cases hf2 : fa < (m : Int)
        · obtain ⟨fn, rfl⟩ : ∃ fn : Nat, fa = (fn : Int) := ⟨fa.toNat, by omega⟩
          have hd2 : decide ((m : Int) ≤ (fn : Int)) = false := decide_eq_false (by omega)
          have hd3 : decide (m ≤ fn) = false := decide_eq_false (by omega)
          have hd4 : ¬ (m ≤ fn) := by omega
          have HR2 := hide (fun t (ht : t < a + 1) => show rng m ms t = true by
            by_cases e9 : t = a
            · subst e9; rw [HRN.out]; exact decide_eq_true (by omega)
            · exact HRG.out t (by omega))
          go_wp2_with fail
          go_quiet (fail)
          have hBq := bdrewN hB nq
          generalize wr.drewN nq = wq at hBq ⊢
          go_wp2
          go_roundw
          case rel => exact ⟨a + 1, by omega, by go_num, HR2.out, hBq⟩
          case measure => simp [intOf]; omega
        · obtain ⟨rfl, rfl⟩ := H3.out a hlt HRG.out (by rw [HRN.out]; exact decide_eq_false (by omega))
          have hd2 : decide ((m : Int) ≤ fa) = true := decide_eq_true (by omega)
          have hd5 : (m : Int) ≤ fa := by omega
          have HF := hide (fun W => f_any 3 a W)
          go_wp2_with fail
          go_quiet (fail)
          have hBq := bdrewN hB nq
          generalize wr.drewN nq = wq at hBq ⊢
          go_wp2_with fail
          refine (HF.out wq).mono ?_
          rintro e9 w9 ⟨rfl, hb9⟩
          have hB9 := bcat2 hBq hb9
          have hR9 := blk_below hR2 hB9
          obtain ⟨y0, y1, fy0, fy1⟩ := hR9.two
          obtain ⟨hR6, hB6⟩ := put2 hR9 (bcat2 hBw2 hB9) (by omega) 3 a
          obtain ⟨z0, z1, _, _⟩ := hR6.two
          go_wp2
          exact bodyPost_ret (v := .agg #[.int .i64 3, .int .i64 a]) (by simp [results, Tryz.results11, go_sem, z0, z1]) rfl ⟨rfl, hB6⟩
    · have hai : ¬ (a : Int) < (n : Int) := by omega
      obtain ⟨wo, rfl⟩ : ∃ wo, wo = wr := ⟨_, rfl⟩
      have HRA := hide (fun t (ht : t < n) => HRG.out t (by omega))
      clear HRG H3
      go_wp2
      go_loopw [9] (fun i wr => ∃ a : Nat, a ≤ n ∧ i = .int .i64 a ∧ (∀ t, t < a → stq n zs m ys ms t = false) ∧ Below w2.heap.size w2 wr) (fun i _ => n - (intOf i).toNat)
      case atStart => exact ⟨0, Nat.zero_le _, rfl, fun t ht => by omega, hB⟩
      case round =>
        clear g0 g1 k0 k1 hB hBw
        obtain ⟨a, ha, rfl, hst, hB⟩ := hrel
        have HST := hide hst
        clear hst
        obtain ⟨_, g0, g1, k0, k1⟩ := hS _ hB
        by_cases hlt : a < n
        · have hai : (a : Int) < (n : Int) := by omega
          go_wp2
          go_loopw [10] (fun i wr => ∃ b : Nat, b ≤ n ∧ i = .int .i64 b ∧ (∀ t, t < b → ms[tm n zs a t]?.getD 0 = (tm m ys (ms[a]?.getD 0).toNat (ms[t]?.getD 0).toNat : Int)) ∧ Below w2.heap.size w2 wr) (fun i _ => n - (intOf i).toNat)
          case atStart => exact ⟨0, Nat.zero_le _, rfl, fun t ht => by omega, hB⟩
          case round =>
            clear g0 g1 k0 k1 hB
            obtain ⟨b, hb, rfl, hpr, hB⟩ := hrel
            have HPR := hide hpr
            clear hpr
            obtain ⟨_, g0, g1, k0, k1⟩ := hS _ hB
            by_cases hltb : b < n
            · have hbi : (b : Int) < (n : Int) := by omega
              obtain rfl := HMA.out (by omega)
              have hab := HTL.out a b hlt hltb
              have hBw := bcat2 hBw2 hB
              have ca := below_cell hBw (HMC.out a hlt)
              have cb := below_cell hBw (HMC.out b hltb)
              have cab := below_cell hBw (HMC.out _ hab)
              have hra := HRA.out a hlt
              have hrb := HRA.out b hltb
              unfold rng at hra hrb
              obtain ⟨a0, a1⟩ := of_decide_eq_true hra
              obtain ⟨b0, b1⟩ := of_decide_eq_true hrb
              have hea : ms[a]?.getD 0 = ((ms[a]?.getD 0).toNat : Int) := by omega
              have heb : ms[b]?.getD 0 = ((ms[b]?.getD 0).toNat : Int) := by omega
              have hfa : (ms[a]?.getD 0).toNat < m := by omega
              have hfb : (ms[b]?.getD 0).toNat < m := by omega
              have HA := hide (fun W (h : Below w.heap.size w W) => HMG.out W a b h hlt hltb)
              have HQ := hide (fun W (h : Below w.heap.size w W) => HMH.out W _ _ h hfa hfb)
              have HB2 := hide (fun h => H7.out HRA.out a hlt HST.out (stq_yes (n := n) (zs := zs) (m := m) (ys := ys) (ms := ms) (a := a) (b := b) hltb h))
              have HB1 := hide (fun (h : ms[tm n zs a b]?.getD 0 = (tm m ys (ms[a]?.getD 0).toNat (ms[b]?.getD 0).toNat : Int)) t (ht : t < b + 1) => show ms[tm n zs a t]?.getD 0 = (tm m ys (ms[a]?.getD 0).toNat (ms[t]?.getD 0).toNat : Int) by
                by_cases e9 : t = b
                · subst e9; exact h
                · exact HPR.out t (by omega))
              rw [hea] at ca
              rw [heb] at cb
              clear hea heb a0 a1 b0 b1 hra hrb HPR
              generalize (ms[a]?.getD 0).toNat = fa at *
              generalize (ms[b]?.getD 0).toNat = fb at *
              generalize hcd : ms[tm n zs a b]?.getD 0 = fab at *
              have HCD := hide hcd
              clear hcd
              generalize hd9e : tm n zs a b = d9 at *
              have HD9 := hide hd9e
              clear hd9e
              generalize tm m ys fa fb = q9 at *
              have hdi : (d9 : Int) < (n : Int) := by omega
              have hS' : ∀ W, Below wr.heap.size wr W → (Below wr.heap.size wr W ∧ W.cell? ⟨mb, mo + a, none⟩ = some (.int .i64 (fa : Int)) ∧ W.cell? ⟨mb, mo + b, none⟩ = some (.int .i64 (fb : Int)) ∧ W.cell? ⟨mb, mo + d9, none⟩ = some (.int .i64 fab) ∧ W.cell? ⟨w.heap.size, 0, none⟩ = some (.int .i64 n) ∧ W.cell? ⟨w.heap.size, 1, none⟩ = some v ∧ W.cell? ⟨w.heap.size + 1, 0, none⟩ = some (.int .i64 m) ∧ W.cell? ⟨w.heap.size + 1, 1, none⟩ = some y) := fun W h => ⟨h, below_cell h ca, below_cell h cb, below_cell h cab, below_cell h g0, below_cell h g1, below_cell h k0, below_cell h k1⟩
              have hS1 := hS' _ (bdrew (Below.refl _ wr))
              have hk1 : Hid True := trivial
              by_cases heq : fab = (q9 : Int)
              · have HBX := hide (HB1.out heq)
                subst heq
                clear HB1 HB2
                go_wp2_with fail
                go_region_held3 (fun W => Below wr.heap.size wr W ∧ W.cell? ⟨mb, mo + a, none⟩ = some (.int .i64 (fa : Int)) ∧ W.cell? ⟨mb, mo + b, none⟩ = some (.int .i64 (fb : Int)) ∧ W.cell? ⟨mb, mo + d9, none⟩ = some (.int .i64 (q9 : Int)) ∧ W.cell? ⟨w.heap.size, 0, none⟩ = some (.int .i64 n) ∧ W.cell? ⟨w.heap.size, 1, none⟩ = some v ∧ W.cell? ⟨w.heap.size + 1, 0, none⟩ = some (.int .i64 m) ∧ W.cell? ⟨w.heap.size + 1, 1, none⟩ = some y)
                  (first | exact hS1 | assumption | exact hS' _ (bcat2 (And.left ‹_›) hl1))
                  (first
                    | (go_at_call 45; clear hk1; refine (HQ.out _ (bcat2 hBw (And.left ‹_›))).mono ?_; rintro e1 U1 ⟨rfl, hl1⟩)
                    | (go_at_call 45; refine (HA.out _ (bcat2 hBw (And.left ‹_›))).mono ?_; rintro e2 U2 ⟨rfl, hl1⟩))
                all_goals (
                  have hB9 := bcat2 hB (And.left ‹Below wr.heap.size wr U2 ∧ _›)
                  go_wp2
                  go_roundw
                  case rel => exact ⟨b + 1, by omega, by go_num, HBX.out, hB9⟩
                  case measure => simp [intOf]; omega)
              · obtain ⟨rfl, rfl⟩ := HB2.out heq
                have hne : ((q9 : Int) != fab) = true := by simpa using fun h => heq h.symm
                clear HB1 HB2
                have HF := hide (fun W => f_any 7 a W)
                go_wp2_with fail
                go_region_held3 (fun W => Below wr.heap.size wr W ∧ W.cell? ⟨mb, mo + a, none⟩ = some (.int .i64 (fa : Int)) ∧ W.cell? ⟨mb, mo + b, none⟩ = some (.int .i64 (fb : Int)) ∧ W.cell? ⟨mb, mo + d9, none⟩ = some (.int .i64 fab) ∧ W.cell? ⟨w.heap.size, 0, none⟩ = some (.int .i64 n) ∧ W.cell? ⟨w.heap.size, 1, none⟩ = some v ∧ W.cell? ⟨w.heap.size + 1, 0, none⟩ = some (.int .i64 m) ∧ W.cell? ⟨w.heap.size + 1, 1, none⟩ = some y)
                  (first | exact hS1 | assumption | exact hS' _ (bcat2 (And.left ‹_›) hl1))
                  (first
                    | (go_at_call 45; clear hk1; refine (HQ.out _ (bcat2 hBw (And.left ‹_›))).mono ?_; rintro e1 U1 ⟨rfl, hl1⟩)
                    | (go_at_call 45; refine (HA.out _ (bcat2 hBw (And.left ‹_›))).mono ?_; rintro e2 U2 ⟨rfl, hl1⟩))
                all_goals (
                  have hB8 := bcat2 hB (And.left ‹Below wr.heap.size wr U2 ∧ _›)
                  go_wp2_with fail
                  refine (HF.out _).mono ?_
                  rintro e9 w9 ⟨rfl, hb9⟩
                  have hB9 := bcat2 hB8 hb9
                  have hR9 := blk_below hR2 hB9
                  obtain ⟨y0, y1, fy0, fy1⟩ := hR9.two
                  obtain ⟨hR6, hB6⟩ := put2 hR9 (bcat2 hBw2 hB9) (by omega) 7 a
                  obtain ⟨z0, z1, _, _⟩ := hR6.two
                  go_wp2
                  exact bodyPost_ret (v := .agg #[.int .i64 7, .int .i64 a]) (by simp [results, Tryz.results11, go_sem, z0, z1]) rfl ⟨rfl, hB6⟩)
            · have hbi : ¬ (b : Int) < (n : Int) := by omega
              have HS2 := hide (fun t (ht : t < a + 1) => show stq n zs m ys ms t = false by
                by_cases e9 : t = a
                · subst e9; exact stq_no.2 (fun b9 hb9 => HPR.out b9 (by omega))
                · exact HST.out t (by omega))
              go_wp2
              go_roundw
              case rel => exact ⟨a + 1, by omega, by go_num, HS2.out, hB⟩
              case measure => simp [intOf]; omega
        · have hai : ¬ (a : Int) < (n : Int) := by omega
          obtain ⟨rfl, rfl⟩ := H0.out HRA.out (fun t ht => HST.out t (by omega))
          have hR9 := blk_below hR2 hB
          have hB9 := bcat2 hBw2 hB
          obtain ⟨y0, y1, fy0, fy1⟩ := hR9.two
          obtain ⟨s2, s3⟩ := hR9.self
          go_wp2
          exact bodyPost_ret (v := .agg #[.int .i64 0, .int .i64 0]) (by simp [results, Tryz.results11, go_sem, y0, y1]) rfl ⟨rfl, hB9⟩
end Go.Proofs.YtlhjeenijcokoaaGreatDoor

namespace Go.Proofs.YtlhjeenijcokoaaGreatDoor
open Go Go.RowKit

set_option maxRecDepth 100000 in
set_option maxHeartbeats 4000000 in
theorem rhom_8 (n e m d : Nat) (v y mv : Value) (zs ys ms : List Int) (w : World) (hv : Sl w v zs) (hg : IsGrp n zs e) (hy : Sl w y ys) (hh : IsGrp m ys d) (hm : Sl w mv ms) (hl : ¬ ms.length = n) :
    Calls Tryz.prog 11 #[.agg #[.int .i64 n, v], .agg #[.int .i64 m, y], mv] w fun x w' => x = .returned (.agg #[.int .i64 8, .int .i64 0]) ∧ Below w.heap.size w w' := by
  obtain ⟨w0, BG⟩ := BegF.new w n m v y
  have HTW := hide (rtwo_good n e m d v y zs ys w0 (hv.below BG.bel) hg (hy.below BG.bel) hh)
  obtain ⟨ma, mc, mb, mo, rfl, hmr, hmb, _, hmm⟩ := hm
  have hne : ((ms.length : Int) != (n : Int)) = true := by
    have : ¬ (ms.length : Int) = (n : Int) := by omega
    simpa using this
  have HF := hide (fun W => f_any 8 0 W)
  clear hmr hmm
  obtain ⟨e0, e1, _, _⟩ := BG.box.two
  obtain ⟨k0, k1, _, _⟩ := BG.boy.two
  rw [BG.eq] at e0 e1 k0 k1
  go_enter Tryz.func11, Tryz.ntmps11
  go_wp2_with fail
  rw [← BG.eq]
  clear e0 e1 k0 k1
  refine HTW.out.mono ?_
  rintro x w1 ⟨rfl, hb1⟩
  have hb2 := bcat2 hb1 (balloc w1 (.cells #[.int .i64 0, .int .i64 0] 26))
  have hF2 := blk0 (w := w1) (T := 26) (.int .i64 0) (.int .i64 0)
  have hBw := bcat BG.bel hb2 BG.bel.size
  have hX2 := blk_below BG.box hb2
  have hR2 := blk_below BG.res hb2
  obtain ⟨t0, t1, _, _⟩ := hF2.two
  obtain ⟨g0, g1, _, _⟩ := hX2.two
  go_wp2_with fail
  generalize w1.alloc (.cells #[.int .i64 0, .int .i64 0] 26) = w2 at *
  clear t0 t1 g0 g1
  refine (HF.out w2).mono ?_
  rintro e9 w9 ⟨rfl, hb9⟩
  have hR9 := blk_below hR2 hb9
  obtain ⟨y0, y1, fy0, fy1⟩ := hR9.two
  obtain ⟨hR6, hB6⟩ := put2 hR9 (bcat2 hBw hb9) (by omega) 8 0
  obtain ⟨z0, z1, _, _⟩ := hR6.two
  go_wp2
  exact bodyPost_ret (v := .agg #[.int .i64 8, .int .i64 0]) (by simp [results, Tryz.results11, go_sem, z0, z1]) rfl ⟨rfl, hB6⟩
theorem rhom_any (N M : Int) (v y mv : Value) (zs ys ms : List Int) (w : World) (hv : Sl w v zs) (hy : Sl w y ys) (hm : Sl w mv ms) :
    Calls Tryz.prog 11 #[.agg #[.int .i64 N, v], .agg #[.int .i64 M, y], mv] w fun x w' => x = .returned (.agg #[.int .i64 (hfault N zs M ys ms).1, .int .i64 (hfault N zs M ys ms).2]) ∧ Below w.heap.size w w' := by
  by_cases h1 : (gfault N zs).1 = 0
  · obtain ⟨n, e, rfl, hg, _⟩ := gfault_grp h1
    by_cases h2 : (gfault M ys).1 = 0
    · obtain ⟨m, d, rfl, hh, _⟩ := gfault_grp h2
      by_cases hl : ms.length = n
      · exact rhom_len n e m d v y mv zs ys ms w hv hg hy hh hm hl
      · rw [hfault_8 hg hh hl]
        exact rhom_8 n e m d v y mv zs ys ms w hv hg hy hh hm hl
    · have ht : twofault n zs M ys = gfault M ys := by unfold twofault; rw [if_neg (by simpa using h1)]
      rw [hfault_2 hg h2, ← ht]
      exact rhom_two n M v y mv zs ys w hv hy (by rw [ht]; exact h2)
  · have ht : twofault N zs M ys = gfault N zs := by unfold twofault; rw [if_pos h1]
    rw [hfault_1 h1, ← ht]
    exact rhom_two N M v y mv zs ys w hv hy (by rw [ht]; exact h1)
end Go.Proofs.YtlhjeenijcokoaaGreatDoor

namespace Go.Proofs.YtlhjeenijcokoaaGreatDoor
open Go Go.RowKit

set_option maxRecDepth 100000 in
set_option maxHeartbeats 4000000 in
theorem orderOf_ok (n e a : Nat) (v : Value) (zs : List Int) (w : World) (h : IsGrp n zs e) (hv : Sl w v zs) (ha : a < n) :
    Calls Tryz.prog 108 #[.agg #[.int .i64 n, v], .int .i64 e, .int .i64 a] w fun x w' => x = .returned (.int .i64 (ordN n zs e a)) ∧ Below w.heap.size w w' := by
  have hB0 : Below w.heap.size w (w.alloc (.cells #[.int .i64 n, v] 24)) := balloc w _
  have hg0 : BoxG (w.alloc (.cells #[.int .i64 n, v] 24)) w.heap.size n v := blk0 _ _
  have hv0 := hv.below hB0
  have hle := h.tab.le
  have HT := hide h.tab
  obtain ⟨k9, hk9, hoe, hp9, hn9⟩ := ordN_spec h ha
  rw [hoe]
  have HP := hide hp9
  have HN := hide hn9
  obtain ⟨g0, g1, _, _⟩ := hg0.two
  clear h hoe hp9 hn9
  go_enter Tryz.func108, Tryz.ntmps108
  go_wp2
  generalize w.alloc (.cells #[.int .i64 n, v] 24) = w0 at *
  go_loopw [7, 8] (fun o p wr => ∃ k : Nat, k ≤ k9 ∧ o = .int .i64 ((k : Int) + 1) ∧ p = .int .i64 (pr n zs a k) ∧ Below w0.heap.size w0 wr) (fun o _ _ => k9 + 1 - (intOf o).toNat)
  case atStart => exact ⟨0, Nat.zero_le _, rfl, rfl, Below.refl _ _⟩
  case round =>
    obtain ⟨k, hk, rfl, rfl, hB⟩ := hrel
    have d0 := below_cell hB g0
    have d1 := below_cell hB g1
    by_cases hlt : k < k9
    · have hne : ((pr n zs a k : Int) != (e : Int)) = true := by
        have := HN.out k hlt
        simp; omega
      have hpl := pr_lt HT.out ha k
      have hstep : tm n zs (pr n zs a k) a = pr n zs a (k + 1) := rfl
      have HST := hide hstep
      clear hstep
      go_wp2_with fail
      refine (product_ok n v zs _ a _ HT.out (hv0.below hB) hpl ha).mono ?_
      rintro x w1 ⟨rfl, hb1⟩
      have hB1 := bcat2 hB hb1
      rw [HST.out]
      clear d0 d1
      go_wp2
      go_roundw
      case rel => exact ⟨k + 1, by omega, by go_num, rfl, hB1⟩
      case measure => simp [intOf]; omega
    · have hkk : k = k9 := by omega
      subst hkk
      have hne : ((pr n zs a k : Int) != (e : Int)) = false := by
        have := HP.out
        simp; omega
      go_wp2
      go_ret
      exact ⟨retI (by simp), bcat hB0 hB hB0.size⟩
/-- A list that is filled up to k. -/
def fillU (m : Nat) (f : Nat → Int) (k : Nat) : List Int := (List.range m).map fun i => if i < k then f i else 0
theorem fillU_len (m : Nat) (f : Nat → Int) (k : Nat) : (fillU m f k).length = m := by simp [fillU]
theorem fillU_zero (m : Nat) (f : Nat → Int) : fillU m f 0 = List.replicate m 0 := by
  apply List.ext_getElem
  · simp [fillU]
  · intro i h1 h2; simp [fillU]
theorem fillU_set {m : Nat} {f : Nat → Int} {k : Nat} (_hk : k < m) : (fillU m f k).set k (f k) = fillU m f (k + 1) := by
  apply List.ext_getElem
  · simp [fillU]
  · intro i h1 h2
    rw [List.getElem_set]
    split
    · rename_i e; subst e; simp [fillU]
    · rename_i e
      simp only [fillU, List.getElem_map, List.getElem_range]
      by_cases h : i < k
      · rw [if_pos h, if_pos (by omega)]
      · rw [if_neg h, if_neg (by omega)]
theorem fillU_all (m : Nat) (f : Nat → Int) : fillU m f m = (List.range m).map f := by
  apply List.ext_getElem
  · simp [fillU]
  · intro i h1 h2
    have : i < m := by simpa [fillU] using h1
    simp [fillU, this]

/-- The orders of all things. -/
def ordL (n : Nat) (zs : List Int) (e : Nat) : List Int := (List.range n).map fun a => (ordN n zs e a : Int)
theorem ordL_len (n : Nat) (zs : List Int) (e : Nat) : (ordL n zs e).length = n := by simp [ordL]

set_option maxRecDepth 100000 in
set_option maxHeartbeats 4000000 in
theorem orders_ok (n e : Nat) (v : Value) (zs : List Int) (w : World) (h : IsGrp n zs e) (hv : Sl w v zs) :
    Calls Tryz.prog 73 #[.agg #[.int .i64 n, v]] w fun x w' => ∃ g, w.heap.size ≤ g ∧ x = .returned (.tuple #[.slice (some ⟨g, 0, none⟩) n n, .agg #[.int .i64 0, .int .i64 0]]) ∧ Blk w' g 3 ((ordL n zs e).map (Value.int .i64)) ∧ Below w.heap.size w w' := by
  obtain ⟨i0, hi, hz0, hz1, hz2⟩ := info_parts info3b
  obtain ⟨w0, BG⟩ := Beg.new w n v
  have hv0 := hv.below BG.bel
  obtain ⟨c0, c1, _, _⟩ := BG.box.two
  have hck := check_any n v zs w0 hv0
  rw [gfault_of_grp h] at hck
  have HCK := hide hck
  have HO := hide (fun W (hW : Sl W v zs) => oneOf_ok n v zs W h.tab hW)
  rw [h.one] at HO
  have HR := hide (fun W a (hW : Sl W v zs) ha => orderOf_ok n e a v zs W h hW ha)
  have hle := h.tab.le
  clear hck h
  rw [BG.eq] at c0 c1
  go_enter Tryz.func73, Tryz.ntmps73
  go_wp2_with fail
  rw [← BG.eq]
  refine HCK.out.mono ?_
  rintro x w1 ⟨rfl, hb1⟩
  clear c0 c1
  have hB1 := bcat2 hb1 (balloc w1 (.cells #[.int .i64 0, .int .i64 0] 26))
  obtain ⟨k0, k1, _, _⟩ := (blk_below BG.box hB1).two
  go_wp2_with fail
  refine (HO.out _ (hv0.below hB1)).mono ?_
  rintro x w2 ⟨rfl, hb2⟩
  have hB2 := bcat2 hB1 hb2
  clear k0 k1
  obtain ⟨k0, k1, _, _⟩ := (blk_below BG.box hB2).two
  have hv2 := hv0.below hB2
  have hR2 := blk_below BG.res hB2
  have hBw := bcat BG.bel hB2 BG.bel.size
  clear hb2 hB1 hb1
  go_wp2_with (first
    | (at_make; refine wpList_make_full _ rfl _ _ 22 rfl w2.heap.size 3 i0 (.int .i64 0) 1 under22b hi hz0 hz1 _ _ _ _ n rfl rfl rfl rfl (by rw [hz2]; omega) (by unfold maxLen; omega) (by simp) ?_))
  intro w3 hown hg
  have hM : Blk w3 w2.heap.size 3 ((fillU n (fun a => (ordN n zs e a : Int)) 0).map (Value.int .i64)) := by
    have := Blk.of_owns hown
    rw [made_rep] at this
    rw [fillU_zero, List.map_replicate]; exact this
  have hB3 : Below w2.heap.size w2 w3 := (Below.refl _ w2).grown hg (Nat.le_refl _) (by simp)
  clear hown hg
  go_wp2
  go_loopw [21] (fun i wr => ∃ k : Nat, k ≤ n ∧ i = .int .i64 k ∧ Blk wr w2.heap.size 3 ((fillU n (fun a => (ordN n zs e a : Int)) k).map (Value.int .i64)) ∧ Below w2.heap.size w2 wr) (fun i _ => n - (intOf i).toNat)
  case atStart => exact ⟨0, Nat.zero_le _, rfl, hM, hB3⟩
  case round =>
    obtain ⟨k, hk, rfl, hMk, hB⟩ := hrel
    have d0 := below_cell hB k0
    have d1 := below_cell hB k1
    by_cases hlt : k < n
    · go_wp2_with fail
      refine (HR.out _ k (hv2.below hB) hlt).mono ?_
      rintro x w5 ⟨rfl, hb5⟩
      have hM5 := blk_below hMk hb5
      have hB5 := bcat2 hB hb5
      have hc5 := hM5.int (y := k) (by rw [fillU_len]; exact hlt)
      have hf5 := hM5.frozen k
      have hM6 := hM5.setInt k (ordN n zs e k : Int)
      rw [fillU_set (f := fun a => (ordN n zs e a : Int)) hlt] at hM6
      have hB6 := hB5.setCell (p := ⟨w2.heap.size, k, none⟩) (Nat.le_refl _) (.int .i64 (ordN n zs e k : Int))
      have hki : (k : Int) < (n : Int) := by omega
      generalize (fillU n (fun a => (ordN n zs e a : Int)) k)[k]?.getD 0 = old at hc5
      clear d0 d1 hM5 hMk
      go_wp2
      go_roundw
      case rel => exact ⟨k + 1, by omega, by go_num, hM6, hB6⟩
      case measure => simp [intOf]; omega
    · have hkn : k = n := by omega
      subst hkn
      rw [fillU_all] at hMk
      have hR9 := blk_below hR2 hB
      have hB9 := bcat hBw hB hBw.size
      obtain ⟨_, z0, z1, fz0, fz1, s0, s1⟩ := Two.mk' hR9
      clear d0 d1
      go_wp2
      exact bodyPost_ret (v := .tuple #[.slice (some ⟨w2.heap.size, 0, none⟩) k k, .agg #[.int .i64 0, .int .i64 0]]) (by simp [results, Tryz.results73, go_sem, z0, z1]) rfl ⟨_, hBw.size, rfl, hMk, hB9⟩

end Go.Proofs.YtlhjeenijcokoaaGreatDoor

namespace Go.Proofs
shelf_lay Lays.n189 Nm 189 at Tryz as Tryz.lays189
end Go.Proofs
namespace Go.Proofs.YtlhjeenijcokoaaGreatDoor
open Go Go.RowKit

def srtI (zs : List Int) : List Int := zs.mergeSort fun x y => decide (x ≤ y)
theorem srtI_len (zs : List Int) : (srtI zs).length = zs.length := List.length_mergeSort _
theorem srtI_perm {xs ys : List Int} (h : xs.Perm ys) : srtI xs = srtI ys := by
  have tr : ∀ a b c : Int, decide (a ≤ b) = true → decide (b ≤ c) = true → decide (a ≤ c) = true := fun a b c h1 h2 => by simp at *; omega
  have tot : ∀ a b : Int, (decide (a ≤ b) || decide (b ≤ a)) = true := fun a b => by simp; omega
  refine List.Perm.eq_of_pairwise (le := fun a b => decide (a ≤ b) = true) (fun a b _ _ h1 h2 => by simp at h1 h2; omega) (List.pairwise_mergeSort tr tot xs) (List.pairwise_mergeSort tr tot ys) ?_
  exact ((List.mergeSort_perm xs _).trans h).trans (List.mergeSort_perm ys _).symm
theorem sort_own (g : Nat) (zs : List Int) (w : World) (hB : Blk w g 3 (zs.map (Value.int .i64))) (hl : zs.length ≤ 1000) :
    Calls Tryz.prog 74 #[.slice (some ⟨g, 0, none⟩) zs.length zs.length] w fun e w' => e = .returned (.tuple #[]) ∧ Blk w' g 3 ((srtI zs).map (Value.int .i64)) ∧ w.grownBy w' (some g) := by
  refine Calls.mono (Any.slices_Sort_int Tryz.lays189 g 0 zs.length zs w (holds_of_blockI hB (by rw [List.take_of_length_le (by simp)])) hB.lt (by omega)) ?_
  rintro e w' ⟨rfl, n, os, rfl⟩
  refine ⟨rfl, ?_, grownBy_sortedI _⟩
  have h1 := ownsRow_sortedI (n := n) (os := os) (base := 0) (cap := zs.length) (ss := zs) (ts := srtI zs) (srtI_len zs) (Nat.zero_le _) hB (Nat.le_refl _) (by unfold maxLen; omega) (by simp)
  exact Blk.of_owns h1
end Go.Proofs.YtlhjeenijcokoaaGreatDoor

namespace Go.Proofs.YtlhjeenijcokoaaGreatDoor
open Go Go.RowKit

section
variable {n e : Nat} {zs : List Int}
theorem lst_sub_len {p q : Nat → Bool} (h : ∀ x, x < n → p x = true → q x = true) : (lst n p).length ≤ (lst n q).length ∧ ((∃ x, x < n ∧ q x = true ∧ ¬ p x = true) → (lst n p).length < (lst n q).length) := by
  have e1 : lst n p = (lst n q).filter p := by
    unfold lst
    rw [List.filter_filter]
    refine List.filter_congr fun x hx => ?_
    cases hp : p x with
    | false => simp
    | true => simp [h x (List.mem_range.1 hx) hp]
  rw [e1]
  refine ⟨List.length_filter_le _ _, ?_⟩
  rintro ⟨x, hx, h1, h2⟩
  exact List.length_filter_lt_length_iff_exists.2 ⟨x, mem_lst.2 ⟨hx, h1⟩, h2⟩
theorem mkd_wider {ks : List Nat} {a x : Nat} (h : Mkd n zs e (fun y => decide (y ∈ ks)) x) : Mkd n zs e (fun y => decide (y ∈ ks ++ [a])) x :=
  Fin.Gen.mono (fun _ _ h1 => decide_eq_true (List.mem_append_left _ (of_decide_eq_true h1))) h
/-- With a thing that is not made, more is made. -/
theorem mkd_more {ks : List Nat} {a : Nat} {p q : Nat → Bool} (hp : ∀ x, x < n → (p x = true ↔ Mkd n zs e (fun y => decide (y ∈ ks)) x)) (hq : ∀ x, x < n → (q x = true ↔ Mkd n zs e (fun y => decide (y ∈ ks ++ [a])) x)) (ha : a < n) (hna : ¬ p a = true) : (lst n p).length < (lst n q).length :=
  (lst_sub_len (fun x hx h => (hq x hx).2 (mkd_wider ((hp x hx).1 h)))).2 ⟨a, ha, (hq a ha).2 (mkd_base ha (by simp)), hna⟩
theorem mkd_full {p : Nat → Bool} : (∀ x, x < n → p x = true) ↔ bs p n = bs (fun _ => true) n :=
  ⟨fun h => bs_ext fun x hx => h x hx, fun h x hx => bs_inj h x hx⟩
end
end Go.Proofs.YtlhjeenijcokoaaGreatDoor

namespace Go.Proofs.YtlhjeenijcokoaaGreatDoor
open Go Go.RowKit

set_option maxRecDepth 100000 in
set_option maxHeartbeats 4000000 in
theorem same_orders (n e m d : Nat) (v y : Value) (zs ys : List Int) (w : World) (hv : Sl w v zs) (hg : IsGrp n zs e) (hy : Sl w y ys) (hh : IsGrp m ys d) :
    Calls Tryz.prog 38 #[.agg #[.int .i64 n, v], .agg #[.int .i64 m, y]] w fun x w' => ∃ b, x = .returned (.bool b) ∧ (n = m → (∃ φ, IsIso n zs m ys φ) → b = true) ∧ (b = true → n = m) ∧ Below w.heap.size w w' := by
  have hB0 : Below w.heap.size w ((w.alloc (.cells #[.int .i64 n, v] 24)).alloc (.cells #[.int .i64 m, y] 24)) := bcat2 (balloc w _) (balloc _ _)
  have hX0 : BoxG ((w.alloc (.cells #[.int .i64 n, v] 24)).alloc (.cells #[.int .i64 m, y] 24)) w.heap.size n v := (blk0 (w := w) (T := 24) _ _).alloc _
  have hY0 : BoxG ((w.alloc (.cells #[.int .i64 n, v] 24)).alloc (.cells #[.int .i64 m, y] 24)) (w.heap.size + 1) m y := by
    have := blk0 (w := w.alloc (.cells #[.int .i64 n, v] 24)) (T := 24) (.int .i64 m) y
    simpa using this
  have hn60 := hg.tab.le
  have hm60 := hh.tab.le
  have HO1 := hide (fun W (h : Below w.heap.size w W) => orders_ok n e v zs W hg (hv.below h))
  have HO2 := hide (fun W (h : Below w.heap.size w W) => orders_ok m d y ys W hh (hy.below h))
  have HEQ := hide (show n = m → (∃ φ, IsIso n zs m ys φ) → decide (srtI (ordL n zs e) = srtI (ordL m ys d)) = true from fun hnm ⟨φ, A⟩ => decide_eq_true (srtI_perm (by
    have := (A.orders hg hh hnm).map (fun k : Nat => (k : Int))
    rw [List.map_map, List.map_map] at this
    exact this)))
  have HLE := hide (show decide (srtI (ordL n zs e) = srtI (ordL m ys d)) = true → n = m from fun h => by
    have := congrArg List.length (of_decide_eq_true h)
    rwa [srtI_len, srtI_len, ordL_len, ordL_len] at this)
  obtain ⟨w0, hw0⟩ : ∃ w0, w0 = (w.alloc (.cells #[.int .i64 n, v] 24)).alloc (.cells #[.int .i64 m, y] 24) := ⟨_, rfl⟩
  obtain ⟨c0, c1, _, _⟩ := hX0.two
  rw [← hw0] at hB0 hX0 hY0
  clear hg hh hv hy
  go_enter Tryz.func38, Tryz.ntmps38
  go_wp2_with fail
  rw [← hw0]
  clear hw0 c0 c1
  refine (HO1.out _ hB0).mono ?_
  rintro x w1 ⟨g1, hg1, rfl, hL1, hb1⟩
  have hb1 := bcat2 hb1 (balloc w1 (.cells #[.int .i64 0, .int .i64 0] 26))
  have hL1 := blk_below hL1 (balloc w1 (.cells #[.int .i64 0, .int .i64 0] 26))
  have hB1 := bcat2 hB0 hb1
  have hY1 := blk_below hY0 hb1
  obtain ⟨d0, d1, _, _⟩ := hY1.two
  go_wp2_with fail
  clear d0 d1
  generalize w1.alloc (.cells #[.int .i64 0, .int .i64 0] 26) = w2 at *
  refine (HO2.out _ hB1).mono ?_
  rintro x w3 ⟨g2, hg2, rfl, hL2, hb3⟩
  have hb3 := bcat2 hb3 (balloc w3 (.cells #[.int .i64 0, .int .i64 0] 26))
  have hL2 := blk_below hL2 (balloc w3 (.cells #[.int .i64 0, .int .i64 0] 26))
  have hB3 := bcat2 hB1 hb3
  have hL3 := blk_below hL1 hb3
  have HS1 := hide (sort_own g1 (ordL n zs e) _ hL3 (by rw [ordL_len]; omega))
  have hn12 : g1 ≠ g2 := by have := hL1.lt; omega
  go_wp2_with fail
  generalize w3.alloc (.cells #[.int .i64 0, .int .i64 0] 26) = w4 at *
  rw [ordL_len] at HS1
  refine HS1.out.mono ?_
  rintro x w5 ⟨rfl, hS1, hgr1⟩
  have hL5 : Blk w5 g2 3 ((ordL m ys d).map (Value.int .i64)) := hL2.grown hgr1 (fun h => by injection h with h; omega)
  have hB5 : Below w.heap.size w w5 := hB3.grown hgr1 hB3.size (fun k hk => by injection hk with hk; have := hB0.size; omega)
  have HS2 := hide (sort_own g2 (ordL m ys d) _ hL5 (by rw [ordL_len]; omega))
  rw [ordL_len] at HS2
  go_wp2_with fail
  refine HS2.out.mono ?_
  rintro x w6 ⟨rfl, hS2, hgr2⟩
  have hS6 : Blk w6 g1 3 ((srtI (ordL n zs e)).map (Value.int .i64)) := hS1.grown hgr2 (fun h => by injection h with h; omega)
  have hB6 : Below w.heap.size w w6 := hB5.grown hgr2 hB5.size (fun k hk => by injection hk with hk; have := hB1.size; omega)
  have HE := hide (seql_ok (.slice (some ⟨g1, 0, none⟩) n n) (.slice (some ⟨g2, 0, none⟩) m m) (srtI (ordL n zs e)) (srtI (ordL m ys d)) w6 (Sl.of_blk hS6 (by rw [srtI_len, ordL_len]) (by rw [srtI_len, ordL_len]; omega)) (Sl.of_blk hS2 (by rw [srtI_len, ordL_len]) (by rw [srtI_len, ordL_len]; omega)))
  go_wp2_with fail
  refine HE.out.mono ?_
  rintro x w7 ⟨rfl, hb7⟩
  go_wp2
  go_ret
  exact ⟨_, rfl, HEQ.out, HLE.out, bcat2 hB6 hb7⟩
end Go.Proofs.YtlhjeenijcokoaaGreatDoor
