/- What package sub's subgroups takes: a set that is not there yet is put to the map and to the list. -/
import Derived.Test.YtmgengplfebmjaaDoorMk
import Derived.Maps.OwnSet
import Derived.Maps.AppendAt
namespace Go.Proofs.YtmgengplfebmjaaDoor
open Go Go.RowKit Go.Maps

theorem und82 : Tryd.prog.underlying 73 = some (.int .u64) := by kernel_rfl
theorem und118 : Tryd.prog.underlying 100 = some (.map 73 101) := by kernel_rfl
theorem und79 : Tryd.prog.underlying 70 = some (.slice 73) := by kernel_rfl
theorem key82 : Keyed Tryd.prog 73 := int_keyed und82
theorem zero119 (w : World) : (zeroValue 101).run Tryd.prog w = .ok (.agg #[]) w := by kernel_rfl
theorem info82 : (Tryd.prog.info? 73).map (fun i => (i.zero, i.size, i.bytes)) = some (some (.int .u64 0), 1, 8) := by kernel_rfl
/-- The sets that are found so far, as their bits. -/
def bits (n : Nat) (P : List (Nat → Bool)) : List Nat := P.map fun p => bs p n
theorem bits_len (n : Nat) (P : List (Nat → Bool)) : (bits n P).length = P.length := by simp [bits]
theorem bits_snoc (n : Nat) (P : List (Nat → Bool)) (p : Nat → Bool) : bits n (P ++ [p]) = bits n P ++ [bs p n] := by simp [bits]
/-- What is found so far: a map in a box, that knows the sets, and a list of them in another one, whose memory lies from B on. -/
structure SFnd (W : World) (B sb fb M n : Nat) (P : List (Nat → Bool)) : Prop where
  box : Boxed W sb 100 (.map (some M))
  map : ∃ D : DataW Unit, W.ownsMap Tryd.prog 73 unitElem M P.length D ∧ ∀ s : Nat, Maps.has D (.int .u64 s) = true ↔ s ∈ bits n P
  fnd : ∃ fv, Boxed W fb 70 fv ∧ W.ownsRow B 73 1 fv P.length ((bits n P).map fun (s : Nat) => Value.int .u64 (s : Int))
  sf : sb ≠ fb
  sm : sb ≠ M
  fm : fb ≠ M
  slt : sb < B
  flt : fb < B
  mlt : M < B
theorem own_keep2 {W W' : World} {B n : Nat} {e : TypeId} {v : Value} {xs : List Value} (h : W.ownsRow B e 1 v n xs) (hk : ∀ g, B ≤ g → g < W.heap.size → W'.heap[g]? = W.heap[g]?) : W'.ownsRow B e 1 v n xs := by
  refine ⟨h.1, ?_⟩
  rcases h.2 with h0 | ⟨g, cap, cur, hv, hg, hh, rest⟩
  · exact .inl h0
  · exact .inr ⟨g, cap, cur, hv, hg, (hk g hg (Array.getElem?_eq_some_iff.1 hh).1).trans hh, rest⟩
theorem below_grown' {w w' : World} (h : Below w.heap.size w w') (row : Option Nat) : w.grownBy w' row := ⟨h.os, h.tape, h.output, h.size, fun b hb _ => h.block b hb⟩
theorem SFnd.below {W W' : World} {B sb fb M n : Nat} {P : List (Nat → Bool)} (h : SFnd W B sb fb M n P) (hb : Below W.heap.size W W') : SFnd W' B sb fb M n P := by
  obtain ⟨h1, ⟨D, h2, h3⟩, ⟨fv, h4, h5⟩, h6, h7, h8, h9, h10, h11⟩ := h
  exact ⟨Boxed.below h1 hb, ⟨D, h2.kept (below_grown' hb none) (by simp), h3⟩, ⟨fv, Boxed.below h4 hb, own_keep2 h5 (fun g _ h2 => hb.block g h2)⟩, h6, h7, h8, h9, h10, h11⟩
theorem set_grown (w : World) (b : Nat) (v : Value) : w.grownBy (w.setCell ⟨b, 0, none⟩ v) (some b) := ⟨rfl, rfl, rfl, by rw [size_set]; exact Nat.le_refl _, fun g _ hne => Below.heap_setCell _ _ _ g (fun e => hne (by rw [e]))⟩
theorem own_val {w : World} {base n : Nat} {e : TypeId} {v : Value} {xs : List Value} (h : w.ownsRow base e 1 v n xs) : ∃ a cap, v = .slice a n cap := by
  rcases h.2 with ⟨rfl, rfl⟩ | ⟨g, cap, cur, rfl, _⟩
  · exact ⟨none, 0, rfl⟩
  · exact ⟨_, cap, rfl⟩
set_option maxRecDepth 100000 in
set_option maxHeartbeats 4000000 in
theorem stake_old (B sb fb M n : Nat) (p : Nat → Bool) (P : List (Nat → Bool)) (w : World) (hF : SFnd w B sb fb M n P) (hn : n ≤ 60) (hin : bs p n ∈ bits n P) :
    Calls Tryd.prog 83 #[.int .u64 (bs p n : Nat), .pointer (some ⟨sb, 0, none⟩), .pointer (some ⟨fb, 0, none⟩)] w fun e w' => e = .returned (.tuple #[]) ∧ SFnd w' B sb fb M n P ∧ Below w.heap.size w w' := by
  obtain ⟨D, hmap, hD⟩ := hF.map
  have c0 := hF.box.cell
  have hkw : (Lit.int .u64 (bs p n : Nat)).wf = true := WalkArith.wf_u64 (by have := bs_64 (p := p) hn; omega)
  have hkey := keyOf_int_mk und82 hkw
  have hh := (hD (bs p n)).2 hin
  have HF := hide hF
  clear hF hD hin
  generalize bs p n = X at *
  go_enter Tryd.func83, Tryd.ntmps83
  go_wp2_with (first
    | (at_lookup; refine wpList_lookup_own_unit _ rfl _ _ 100 rfl 73 101 key82 und118 (zero119 _) M _ D rfl hmap _ _ rfl hkey ?_; rw [hh]))
  go_end0
  exact ⟨rfl, HF.out.below (balloc w _), balloc w _⟩
set_option maxRecDepth 100000 in
set_option maxHeartbeats 4000000 in
theorem stake_new (B sb fb M n : Nat) (p : Nat → Bool) (P : List (Nat → Bool)) (w : World) (hF : SFnd w B sb fb M n P) (hB : B ≤ w.heap.size) (hn : n ≤ 60) (hin : ¬ bs p n ∈ bits n P) (hl : P.length ≤ 16777216) :
    Calls Tryd.prog 83 #[.int .u64 (bs p n : Nat), .pointer (some ⟨sb, 0, none⟩), .pointer (some ⟨fb, 0, none⟩)] w fun e w' => e = .returned (.tuple #[]) ∧ SFnd w' B sb fb M n (P ++ [p]) ∧ Chg B M fb w w' := by
  obtain ⟨i0, hi, hz0, hz1, hz2⟩ := info_parts info82
  obtain ⟨D, hmap, hD⟩ := hF.map
  obtain ⟨fv, hfb, hrow⟩ := hF.fnd
  obtain ⟨fa, fcap, rfl⟩ := own_val hrow
  have hsb := hF.box
  have c0 := hsb.cell
  have hkw : (Lit.int .u64 (bs p n : Nat)).wf = true := WalkArith.wf_u64 (by have := bs_64 (p := p) hn; omega)
  have hkey := keyOf_int_mk und82 hkw
  have hh : Maps.has D (.int .u64 (bs p n : Nat)) = false := by
    rw [← Bool.not_eq_true, hD]; exact hin
  have hIs : IsMap D := by
    obtain ⟨es, clock, hb, F, hs, hD⟩ := hmap
    exact ⟨_, hD⟩
  have HD2 := hide (show ∀ s : Nat, Maps.has (D.put (.int .u64 (bs p n : Nat)) (.agg [])) (.int .u64 s) = true ↔ s ∈ bits n (P ++ [p]) from fun s => by
    rw [bits_snoc, List.mem_append, List.mem_singleton]
    by_cases e : s = bs p n
    · subst e
      rw [has_put_same hIs (by trivial)]
      simp
    · rw [has_put_other (fun h9 => e (by injection h9 with _ h9; omega)), hD s]
      simp [e])
  obtain ⟨hsf, hsm, hfm, hslt, hflt, hmlt⟩ : sb ≠ fb ∧ sb ≠ M ∧ fb ≠ M ∧ sb < B ∧ fb < B ∧ M < B := ⟨hF.sf, hF.sm, hF.fm, hF.slt, hF.flt, hF.mlt⟩
  have HBS := hide (bits_snoc n P p)
  have HBL := hide (bits_len n P)
  clear hF hD hin
  have hmapA := hmap.kept (World.grownBy_alloc w (.cells #[] 101) none) (by simp)
  have c0A := (hsb.alloc (.cells #[] 101)).cell
  generalize bits n P = L9 at *
  generalize bs p n = X at *
  go_enter Tryd.func83, Tryd.ntmps83
  go_wp2_with (first
    | (at_lookup; refine wpList_lookup_own_unit _ rfl _ _ 100 rfl 73 101 key82 und118 (zero119 _) M _ D rfl hmap _ _ rfl hkey ?_; rw [hh])
    | (at_mapUpdate; refine wpList_mapUpdate_own _ rfl _ _ _ 100 rfl 73 101 key82 und118 _ M _ D rfl hmapA (by unfold maxLen; omega) _ _ _ rfl rfl hkey _ [] unitElem_mk ?_; intro w2 hmap2 hgrow2; have hf2 : Boxed w2 fb 70 (.slice fa P.length fcap) := Boxed.kept (hfb.alloc (.cells #[] 101)) hgrow2 (by simp; exact hfm); have hs2 : Boxed w2 sb 100 (.map (some M)) := Boxed.kept (hsb.alloc (.cells #[] 101)) hgrow2 (by simp; exact hsm); have hr2 : w2.ownsRow B 73 1 (.slice fa P.length fcap) P.length (L9.map fun (s : Nat) => Value.int .u64 (s : Int)) := own_keep2 hrow (fun g h1 h2 => (hgrow2.block g (by simp; omega) (by simp; omega)).trans (Below.heap_alloc _ _ g h2)); have hz9 : w.heap.size < w2.heap.size := (by have := hgrow2.size; simp at this; omega); have cf2 := hf2.cell)
    | (at_builtin; refine wpList_append_own _ rfl _ _ 70 rfl B 73 i0 (.int .u64 0) 1 8 und79 hi hz0 hz1 hz2 rfl (by decide) _ _ _ rfl (World.ownsRow.alloc hr2 _) ⟨w2.heap.size, 0, none⟩ 1 1 [.int .u64 X] rfl rfl ?c1 ?c2 ?c3 ?c4 ?c5 ?_))
  case c1 => exact cell_one_new _ _ _
  case c2 => simp [Value.oneCell']
  case c3 => unfold maxLen; omega
  case c4 => omega
  case c5 => simp; omega
  intro v9 w6 hown' hgrow _
  obtain ⟨g', cap', rfl⟩ := ownsRow_succ hown'
  have h6f : Boxed w6 fb 70 (.slice fa P.length fcap) := Boxed.kept (Boxed.alloc hf2 _) hgrow (hf2.not_row (by decide) hr2)
  have h6s : Boxed w6 sb 100 (.map (some M)) := Boxed.kept (Boxed.alloc hs2 _) hgrow (hs2.not_row (by decide) hr2)
  have hmr : ∀ g, (Value.slice fa P.length fcap).ownBlock = some g → B ≤ g := fun g e => owns_ge hr2 g e
  have hmap6 := (hmap2.kept (World.grownBy_alloc w2 _ none) (by simp)).kept hgrow (fun e => by have := hmr _ e.symm; omega)
  have h6z : w2.heap.size ≤ w6.heap.size := by have := hgrow.size; simp at this; omega
  have h6k : ∀ g, g < B → w6.heap[g]? = w2.heap[g]? := fun g h1 => (hgrow.block g (by simp; omega) (fun e => by have := hmr g e.symm; omega)).trans (Below.heap_alloc _ _ g (by omega))
  have h2k : ∀ g, g < B → g ≠ M → w2.heap[g]? = w.heap[g]? := fun g h1 h2 => (hgrow2.block g (by simp; omega) (by simp; exact h2)).trans (Below.heap_alloc _ _ g (by omega))
  have hC : Chg B M fb w (w6.setCell ⟨fb, 0, none⟩ (.slice (some ⟨g', 0, none⟩) (P.length + 1) cap')) := ⟨hgrow.os.trans hgrow2.os, hgrow.tape.trans hgrow2.tape, hgrow.output.trans hgrow2.output, by rw [size_set]; omega, fun g h1 h2 h3 => (Below.heap_setCell _ _ _ g h3).trans ((h6k g h1).trans (h2k g h1 h2))⟩
  have h7s : Boxed (w6.setCell ⟨fb, 0, none⟩ (.slice (some ⟨g', 0, none⟩) (P.length + 1) cap')) sb 100 (.map (some M)) := (Below.heap_setCell _ _ _ sb hsf).trans h6s
  have h7f := h6f.set (.slice (some ⟨g', 0, none⟩) (P.length + 1) cap')
  have h7r : (w6.setCell ⟨fb, 0, none⟩ (.slice (some ⟨g', 0, none⟩) (P.length + 1) cap')).ownsRow B 73 1 (.slice (some ⟨g', 0, none⟩) (P.length + 1) cap') (P ++ [p]).length ((bits n (P ++ [p])).map fun (s : Nat) => Value.int .u64 (s : Int)) := by
    have := own_keep2 hown' (fun g h1 h2 => Below.heap_setCell w6 ⟨fb, 0, none⟩ (.slice (some ⟨g', 0, none⟩) (P.length + 1) cap') g (by simp; omega))
    rw [HBS.out]
    simpa using this
  have h7m : (w6.setCell ⟨fb, 0, none⟩ (.slice (some ⟨g', 0, none⟩) (P.length + 1) cap')).ownsMap Tryd.prog 73 unitElem M (P ++ [p]).length (D.put (.int .u64 (X : Nat)) (.agg [])) := by
    rw [List.length_append]
    exact hmap6.kept (set_grown w6 fb _) (by simp; exact fun e => hfm e.symm)
  have h7n : SFnd (w6.setCell ⟨fb, 0, none⟩ (.slice (some ⟨g', 0, none⟩) (P.length + 1) cap')) B sb fb M n (P ++ [p]) := ⟨h7s, ⟨_, h7m, HD2.out⟩, ⟨_, h7f, h7r⟩, hsf, hsm, hfm, hslt, hflt, hmlt⟩
  have hfc6 := h6f.cell
  have hff6 := h6f.frozen
  clear hown' hgrow hf2 hs2 hr2 h7s h7f h7r h7m h6s h6k h2k hmap6 hmap2 hgrow2 hmapA hmap
  go_wp2
  go_end0
  exact ⟨rfl, h7n, hC⟩
end Go.Proofs.YtmgengplfebmjaaDoor
