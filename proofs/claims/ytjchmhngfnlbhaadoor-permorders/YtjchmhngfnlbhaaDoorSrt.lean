/- What slices.SortFunc answers with Shape's closure: the numbers, falling. -/
import Derived.Test.YtjchmhngfnlbhaaDoorSig
import Derived.Test.YtjchmhngfnlbhaaDoorShm
import Derived.Shelf.SlSortCmp.Whole1
import Derived.Shelf.Lay
import Derived.Ground.SlsfProg
namespace Go.Proofs.YtjchmhngfnlbhaaDoor
open Go Go.RowKit

theorem sw_heap {α : Type} [Inhabited α] (enc : α → Value) (w : World) (g m : Nat) (dk : Array α) (os : Array Obj) {b : Nat} (hb : b < w.heap.size) (hne : b ≠ g) : (sortWorld enc w g 0 m dk os).heap[b]? = w.heap[b]? := by
  show ((w.heap.modify g _) ++ os)[b]? = _
  rw [Array.getElem?_append_left (by rw [Array.size_modify]; exact hb), Array.getElem?_modify, if_neg (fun h => hne h.symm)]
theorem sw_size {α : Type} [Inhabited α] (enc : α → Value) (w : World) (g m : Nat) (dk : Array α) (os : Array Obj) : w.heap.size ≤ (sortWorld enc w g 0 m dk os).heap.size := by
  show _ ≤ ((w.heap.modify g _) ++ os).size
  rw [Array.size_append, Array.size_modify]; omega
theorem sw_below {α : Type} [Inhabited α] (enc : α → Value) (w : World) (g m : Nat) (dk : Array α) (os : Array Obj) {B : Nat} (hB : B ≤ g) (hg : g < w.heap.size) : Below B w (sortWorld enc w g 0 m dk os) :=
  ⟨rfl, rfl, rfl, sw_size enc w g m dk os, fun b hb => sw_heap enc w g m dk os (by omega) (by omega)⟩
theorem own_sw {α : Type} [Inhabited α] (enc : α → Value) {w : World} {base g cap m len : Nat} {e : TypeId} {os : Array Obj} {cur : Array Value} (d : Array α) (hl : d.size = len) (hb : base ≤ g) (hh : w.heap[g]? = some (.cells cur e (0, 0))) (h1 : len ≤ cap) (h2 : cap ≤ maxLen) (h3 : cur.size = cap * 1) :
    (sortWorld enc w g 0 m d os).ownsRow base e 1 (.slice (some ⟨g, 0, none⟩) len cap) len (d.toList.map enc) := by
  have hg : g < w.heap.size := (Array.getElem?_eq_some_iff.1 hh).1
  refine ⟨by simp [hl], .inr ⟨g, cap, Go.Sort.putCells enc 0 d cur, rfl, hb, ?_, h1, h2, by simp [Go.Sort.putCells, h3], ?_⟩⟩
  · show ((w.heap.modify g _) ++ os)[g]? = _
    rw [Array.getElem?_append_left (by rw [Array.size_modify]; exact hg), Array.getElem?_modify, if_pos rfl, hh]
    rfl
  · apply List.ext_getElem?
    intro j
    by_cases hj : j < len
    · rw [List.getElem?_take_of_lt (by omega), Array.getElem?_toList]
      simp [Go.Sort.putCells, show j < cur.size by omega, show j < d.size by omega]
    · rw [List.getElem?_take_eq_none (by omega), List.getElem?_eq_none (by simp; omega)]

theorem ent45 (args : Array Value) (w : World) : (callFunc 45 args).run Tryd.prog w = .ok (.enter 45 args) w := enters_of Tryd.func45 (by kernel_rfl) rfl args w
set_option maxHeartbeats 1000000 in
theorem less_ok (x y : Nat) (w : World) (hx : x ≤ 1000) (hy : y ≤ 1000) : Calls Tryd.prog 45 #[.int .i64 x, .int .i64 y] w fun e w' => e = .returned (.int .i64 ((y : Int) - (x : Int))) ∧ w' = w := by
  have hw : IntKind.i64.wrap ((y : Int) - (x : Int)) = (y : Int) - (x : Int) := by rw [IntKind.wrap_i64]; omega
  go_enter Tryd.func45, Tryd.ntmps45
  go_wp2
  go_ret
  exact ⟨rfl, rfl⟩
def encF (i : Fin 1001) : Value := .int .i64 (i.1 : Int)
theorem swo_fall : Go.Sort.SWO (ltOf fun i j : Fin 1001 => (j.1 : Int) - (i.1 : Int)) where
  irrefl x := by unfold ltOf; simp
  trans x y z h1 h2 := by
    unfold ltOf at *
    rw [decide_eq_true_eq] at *
    dsimp only at *
    omega
  ntrans x y z h1 h2 := by
    unfold ltOf at *
    rw [decide_eq_false_iff_not] at *
    dsimp only at *
    omega
shelf_lay_g SlLaysF.n6 Slsf 6 at Tryd 44 as sortInts

set_option maxRecDepth 100000 in
theorem sort_ok (B g cap : Nat) (l : List Nat) (w : World) (hrow : w.ownsRow B 3 1 (.slice (some ⟨g, 0, none⟩) l.length cap) l.length (pts l)) (h1000 : ∀ k, k ∈ l → k ≤ 1000) (hpos : 0 < l.length) (hlen : l.length ≤ 1000) :
    Calls Tryd.prog 44 #[.slice (some ⟨g, 0, none⟩) l.length cap, .func (.func 45) #[] #[]] w fun e w' => e = .returned (.tuple #[]) ∧ Below B w w' ∧ ∃ m : List Nat, m.Perm l ∧ m.Pairwise (fun a b => b ≤ a) ∧ w'.ownsRow B 3 1 (.slice (some ⟨g, 0, none⟩) l.length cap) l.length (pts m) := by
  have hown : B ≤ g ∧ g < w.heap.size ∧ l.length ≤ cap ∧ cap ≤ maxLen ∧ ∃ cur, w.heap[g]? = some (.cells cur 3 (0, 0)) ∧ cur.size = cap * 1 := by
    rcases hrow.2 with ⟨h, _⟩ | ⟨g', cap', cur, h, h1, h2, h3, h4, h9, _⟩
    · cases h
    · injection h with h5 _ h6
      injection h5 with h5
      injection h5 with h5
      subst h5 h6
      exact ⟨h1, (Array.getElem?_eq_some_iff.1 h2).1, h3, h4, cur, h2, h9⟩
  obtain ⟨hBg, hgw, hcap, hcap2, cur, hHP, hcur⟩ := hown
  haveI : Inhabited (Fin 1001) := ⟨0⟩
  obtain ⟨d, hd⟩ : ∃ d : Array (Fin 1001), d = (l.map fun k => Fin.ofNat 1001 k).toArray := ⟨_, rfl⟩
  have hds : d.size = l.length := by rw [hd]; simp
  have hdg : ∀ j (hj : j < l.length), d[j]! = Fin.ofNat 1001 l[j] := fun j hj => by
    rw [getElem!_pos d j (by omega)]
    simp [hd]
  have hmap : d.toList.map (fun i : Fin 1001 => i.1) = l := by
    rw [hd]
    apply List.ext_getElem
    · simp
    · intro k h1 h2
      have := h1000 l[k] (List.getElem_mem _)
      simp [Fin.ofNat]; omega
  have hOne : OneCell encF := fun i => rfl
  have hH : Go.Sort.Holds encF w g 0 d := fun j hj => by
    have hj' : j < l.length := by omega
    have hk := h1000 l[j] (List.getElem_mem _)
    have h3 := hrow.cells (g := g) rfl j (.int .i64 (l[j] : Nat)) (by simp [pts, List.getElem?_eq_getElem hj'])
    rw [show (⟨g, 0, none⟩ : Addr).add j = ⟨g, j, none⟩ by unfold Addr.add; split <;> simp_all] at h3
    rw [Nat.zero_add, hdg j hj']
    refine ⟨h3.trans ?_, hrow.frozenAt j⟩
    unfold encF Fin.ofNat
    simp only
    rw [Nat.mod_eq_of_lt (by omega)]
  have hcmp : CmpLays1 Tryd.prog 45 #[] encF (fun i j : Fin 1001 => (j.1 : Int) - (i.1 : Int)) g 0 d.size w := by
    intro m os dk _ x y
    refine (less_ok x.1 y.1 (sortWorld encF w g 0 m dk os) (by omega) (by omega)).mono ?_
    rintro e w' ⟨rfl, rfl⟩
    refine ⟨rfl, 0, #[], ?_⟩
    simp [World.drewN_zero]
  have hcon := Any.slices_SortFunc sortInts encF hOne (fun i j : Fin 1001 => (j.1 : Int) - (i.1 : Int)) swo_fall 45 #[] g 0 cap d w ent45 hcmp hH hgw (by omega)
  change Calls Tryd.prog 44 _ _ _ at hcon
  rw [hds] at hcon
  refine hcon.mono ?_
  rintro e w' ⟨rfl, d', n, os, hp, hs, rfl⟩
  have hsz : d'.size = l.length := by rw [hp.1, hds]
  refine ⟨rfl, sw_below encF w g n d' os hBg hgw, d'.toList.map (fun i => i.1), ?_, ?_, ?_⟩
  · obtain ⟨hp1, _, hp3⟩ := hp
    rw [← hds, show d.extract 0 d.size = d by simp, show d'.extract 0 d.size = d' by rw [← hp1]; simp] at hp3
    have h1 := hp3.map (fun i : Fin 1001 => i.1)
    rw [hmap] at h1
    exact h1
  · rw [List.pairwise_iff_getElem]
    intro i j hi hj hij
    have hj' : j < d'.size := by simpa using hj
    have h := hs i j (Nat.zero_le _) hij (by omega)
    unfold ltOf at h
    rw [decide_eq_false_iff_not, getElem!_pos d' i (by omega), getElem!_pos d' j hj'] at h
    simp only [List.getElem_map, Array.getElem_toList]
    dsimp only at h
    omega
  · have h := own_sw encF (m := n) (os := os) d' hsz hBg hHP hcap hcap2 hcur
    have e : d'.toList.map encF = pts (d'.toList.map (fun i => i.1)) := by unfold pts; rw [List.map_map]; rfl
    rw [e] at h
    exact h
end Go.Proofs.YtjchmhngfnlbhaaDoor
