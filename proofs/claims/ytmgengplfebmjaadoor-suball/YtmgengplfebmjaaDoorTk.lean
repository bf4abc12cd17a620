/- What package sub's made takes: a thing that is not there yet is put to the set and to the list. -/
import Derived.Test.YtmgengplfebmjaaDoorGp
namespace Go.Proofs.YtmgengplfebmjaaDoor
open Go Go.RowKit

theorem cell1 (w : World) (v : Value) (t : TypeId) : (w.alloc (.cells #[v] t)).cell? ⟨w.heap.size, 0, none⟩ = some v := Boxed.cell (Boxed.new w t v)
theorem cell1d (w : World) (v : Value) (t : TypeId) : (w.alloc (.cells #[v] t)).drew.cell? ⟨w.heap.size, 0, none⟩ = some v := cell1 w v t
/-- What is found so far: a set in a box of its own, a list in another one, whose memory lies from B on. -/
structure Fnd (W : World) (B sb fb n : Nat) (F : List Nat) : Prop where
  sub : Boxed W sb 73 (.int .u64 (bs (fun a => decide (a ∈ F)) n))
  fnd : ∃ fv, Boxed W fb 22 fv ∧ W.ownsRow B 3 1 fv F.length ((li F).map (Value.int .i64))
  ne : sb ≠ fb
  slt : sb < B
  flt : fb < B
/-- Nothing below B has turned but two boxes. -/
structure Chg (B sb fb : Nat) (w w' : World) : Prop where
  os : w'.os = w.os
  tape : w'.tape = w.tape
  output : w'.output = w.output
  size : w.heap.size ≤ w'.heap.size
  block : ∀ k, k < B → k ≠ sb → k ≠ fb → w'.heap[k]? = w.heap[k]?
theorem Chg.refl (B sb fb : Nat) (w : World) : Chg B sb fb w w := ⟨rfl, rfl, rfl, Nat.le_refl _, fun _ _ _ _ => rfl⟩
theorem Chg.trans {B sb fb : Nat} {a b c : World} (h : Chg B sb fb a b) (k : Chg B sb fb b c) : Chg B sb fb a c :=
  ⟨k.os.trans h.os, k.tape.trans h.tape, k.output.trans h.output, Nat.le_trans h.size k.size, fun i h1 h2 h3 => (k.block i h1 h2 h3).trans (h.block i h1 h2 h3)⟩
theorem Chg.of_below {B sb fb : Nat} {a b : World} (h : Below a.heap.size a b) (hB : B ≤ a.heap.size) : Chg B sb fb a b := ⟨h.os, h.tape, h.output, h.size, fun i h1 _ _ => h.block i (by omega)⟩
theorem Chg.below {B sb fb g : Nat} {a b : World} (h : Chg B sb fb a b) (hg : g ≤ sb) (hf : g ≤ fb) (hB : g ≤ B) : Below g a b := ⟨h.os, h.tape, h.output, h.size, fun i hi => h.block i (by omega) (by omega) (by omega)⟩
theorem Fnd.below {W W' : World} {B sb fb n : Nat} {F : List Nat} (h : Fnd W B sb fb n F) (hb : Below W.heap.size W W') : Fnd W' B sb fb n F := by
  obtain ⟨h1, ⟨fv, h2, h3⟩, h4, h5, h6⟩ := h
  refine ⟨Boxed.below h1 hb, ⟨fv, Boxed.below h2 hb, ?_⟩, h4, h5, h6⟩
  refine ⟨h3.1, ?_⟩
  rcases h3.2 with h0 | ⟨g, cap, cur, hv, hg, hh, rest⟩
  · exact .inl h0
  · exact .inr ⟨g, cap, cur, hv, hg, (hb.block g (Array.getElem?_eq_some_iff.1 hh).1).trans hh, rest⟩

theorem own_keep {W W' : World} {B n : Nat} {v : Value} {xs : List Value} (h : W.ownsRow B 3 1 v n xs) (hk : ∀ g, B ≤ g → g < W.heap.size → W'.heap[g]? = W.heap[g]?) : W'.ownsRow B 3 1 v n xs := by
  refine ⟨h.1, ?_⟩
  rcases h.2 with h0 | ⟨g, cap, cur, hv, hg, hh, rest⟩
  · exact .inl h0
  · exact .inr ⟨g, cap, cur, hv, hg, (hk g hg (Array.getElem?_eq_some_iff.1 hh).1).trans hh, rest⟩

set_option maxRecDepth 100000 in
set_option maxHeartbeats 2000000 in
theorem take_ok (B sb fb n a : Nat) (F : List Nat) (w : World) (hF : Fnd w B sb fb n F) (hB : B ≤ w.heap.size) (hn : n ≤ 60) (ha : a < n) (hl : F.length ≤ 60) :
    Calls Tryd.prog 97 #[.int .i64 a, .pointer (some ⟨sb, 0, none⟩), .pointer (some ⟨fb, 0, none⟩)] w fun e w' => e = .returned (.tuple #[]) ∧ Fnd w' B sb fb n (if a ∈ F then F else F ++ [a]) ∧ Chg B sb fb w w' := by
  obtain ⟨i0, hi, hz0, hz1, hz2⟩ := info_parts info3b
  have hs := hF.sub.cell
  have hfz := hF.sub.frozen
  by_cases hin : a ∈ F
  · rw [if_pos hin]
    have HH := hide (has_ok n a (fun x => decide (x ∈ F)) w hn ha)
    simp only [hin, decide_true] at HH
    go_enter Tryd.func97, Tryd.ntmps97
    go_wp2_with fail
    refine HH.out.mono ?_
    rintro e w1 ⟨rfl, rfl⟩
    go_wp2
    go_end0
    exact ⟨rfl, hF, Chg.refl _ _ _ _⟩
  · rw [if_neg hin]
    have HH := hide (has_ok n a (fun x => decide (x ∈ F)) w hn ha)
    simp only [hin, decide_false] at HH
    have hor := or_bs (fun x => decide (x ∈ F)) (fun x => decide (x = a)) hn
    have he : (fun x => decide (x ∈ F) || decide (x = a)) = fun x => decide (x ∈ F ++ [a]) := by funext x; simp
    rw [he] at hor
    clear he
    obtain ⟨fv, hfb, hrow⟩ := hF.fnd
    have hne := hF.ne
    have hslt := hF.slt
    have hflt := hF.flt
    have HF := hide hF
    have HRW := hide hrow
    clear hF hrow
    have hfc := hfb.cell
    have hff := hfb.frozen
    have HSB := hide HF.out.sub
    generalize bs (fun x => decide (x ∈ F)) n = X at *
    generalize hY : bs (fun x => decide (x ∈ F ++ [a])) n = Y at *
    have HOF := hide (fun W b (hc : W.cell? ⟨b, 0, none⟩ = some (.int .i64 a)) => of_one n b a W hn ha hc)
    generalize bs (fun x => decide (x = a)) n = Z at *
    go_enter Tryd.func97, Tryd.ntmps97
    go_wp2_with fail
    refine HH.out.mono ?_
    rintro e w1 ⟨rfl, rfl⟩
    go_wp2_with fail
    have HY := hide hY
    clear hY
    have hq1 : (w1.alloc (.cells #[.int .i64 a] 3)).drew.cell? ⟨sb, 0, none⟩ = some (.int .u64 X) := Boxed.cell (Boxed.alloc HSB.out (.cells #[.int .i64 a] 3))
    have hq2 : (w1.alloc (.cells #[.int .i64 a] 3)).drew.frozen? ⟨sb, 0, none⟩ = false := Boxed.frozen (Boxed.alloc HSB.out (.cells #[.int .i64 a] 3))
    have hq3 : (w1.alloc (.cells #[.int .i64 a] 3)).cell? ⟨sb, 0, none⟩ = some (.int .u64 X) := Boxed.cell (Boxed.alloc HSB.out (.cells #[.int .i64 a] 3))
    have hq4 : (w1.alloc (.cells #[.int .i64 a] 3)).frozen? ⟨sb, 0, none⟩ = false := Boxed.frozen (Boxed.alloc HSB.out (.cells #[.int .i64 a] 3))
    have hq5 : sb < w1.heap.size := by omega
    have hq6 : ¬ sb = w1.heap.size := by omega
    obtain ⟨w5, hw5⟩ : ∃ w5, w5 = ((w1.setCell ⟨sb, 0, none⟩ (.int .u64 Y)).alloc (.cells #[.int .i64 a] 3)).drew := ⟨_, rfl⟩
    have hk5 : ∀ g, g ≠ sb → g < w1.heap.size → w5.heap[g]? = w1.heap[g]? := fun g h1 h2 => by
      rw [hw5]
      exact (Below.heap_alloc _ _ g (by simp [World.setCell]; exact h2)).trans (Below.heap_setCell _ _ _ g h1)
    have h5z : w1.heap.size ≤ w5.heap.size := by rw [hw5]; show _ ≤ (World.alloc _ _).heap.size; simp [World.alloc, World.setCell]
    have h5s : Boxed w5 sb 73 (.int .u64 Y) := by rw [hw5]; exact (Boxed.alloc (HSB.out.set (.int .u64 Y)) _)
    have h5f : Boxed w5 fb 22 fv := (hk5 fb (Ne.symm hne) hfb.lt).trans hfb
    have h5r : w5.ownsRow B 3 1 fv F.length ((li F).map (Value.int .i64)) := own_keep HRW.out (fun g h1 h2 => hk5 g (by omega) h2)
    have h5c : Chg B sb fb w1 w5 := ⟨by rw [hw5]; rfl, by rw [hw5]; rfl, by rw [hw5]; rfl, h5z, fun g h1 h2 h3 => hk5 g h2 (by omega)⟩
    go_region_with (refine (HOF.out _ _ (cell1d _ _ _)).mono ?_; rintro e2 w2 ⟨rfl, rfl⟩)
    all_goals (
      rw [← hw5]
      clear hw5 hk5 hq1 hq2 hq3 hq4 hq5 hq6 hs hfz hfc hff
      have hfc := h5f.cell
      have hff := h5f.frozen
      have HFL := hide hl
      go_wp2_with (first
        | (at_builtin; refine wpList_append_own _ rfl _ _ 22 rfl B 3 i0 (.int .i64 0) 1 8 under22b hi hz0 hz1 hz2 rfl (by decide) _ _ _ rfl (World.ownsRow.alloc h5r _) ⟨w5.heap.size, 0, none⟩ 1 1 [.int .i64 a] rfl rfl ?c1 ?c2 ?c3 ?c4 ?c5 ?_))
      case c1 => exact cell_one_new _ _ _
      case c2 => simp [Value.oneCell']
      case c3 => unfold maxLen; have := HFL.out; omega
      case c4 => have := HFL.out; omega
      case c5 => simp; omega
      intro v9 w6 hown' hgrow _
      obtain ⟨g', cap', rfl⟩ := ownsRow_succ hown'
      have hown' := hown'
      have h6f : Boxed w6 fb 22 fv := Boxed.kept (Boxed.alloc h5f _) hgrow (h5f.not_row (by decide) h5r)
      have h6s : Boxed w6 sb 73 (.int .u64 Y) := Boxed.kept (Boxed.alloc h5s _) hgrow (h5s.not_row (by decide) h5r)
      have h6k : ∀ g, g < B → w6.heap[g]? = w5.heap[g]? := fun g h1 => (hgrow.block g (by simp; omega) (fun e => by have := owns_ge h5r g e.symm; omega)).trans (Below.heap_alloc _ _ g (by omega))
      have h6z : w5.heap.size ≤ w6.heap.size := by have := hgrow.size; simp at this; omega
      have h6c : Chg B sb fb w5 (w6.setCell ⟨fb, 0, none⟩ (.slice (some ⟨g', 0, none⟩) (F.length + 1) cap')) := ⟨hgrow.os, hgrow.tape, hgrow.output, by rw [size_set]; exact h6z, fun g h1 _ h3 => (Below.heap_setCell _ _ _ g h3).trans (h6k g h1)⟩
      have h7s : Boxed (w6.setCell ⟨fb, 0, none⟩ (.slice (some ⟨g', 0, none⟩) (F.length + 1) cap')) sb 73 (.int .u64 Y) := (Below.heap_setCell _ _ _ sb hne).trans h6s
      have h7f : Boxed (w6.setCell ⟨fb, 0, none⟩ (.slice (some ⟨g', 0, none⟩) (F.length + 1) cap')) fb 22 (.slice (some ⟨g', 0, none⟩) (F.length + 1) cap') := h6f.set (.slice (some ⟨g', 0, none⟩) (F.length + 1) cap')
      have h7r : (w6.setCell ⟨fb, 0, none⟩ (.slice (some ⟨g', 0, none⟩) (F.length + 1) cap')).ownsRow B 3 1 (.slice (some ⟨g', 0, none⟩) (F.length + 1) cap') (F ++ [a]).length ((li (F ++ [a])).map (Value.int .i64)) := by
        have := own_keep hown' (fun g h1 h2 => Below.heap_setCell w6 ⟨fb, 0, none⟩ (.slice (some ⟨g', 0, none⟩) (F.length + 1) cap') g (by simp; omega))
        simpa [li] using this
      have h7n : Fnd (w6.setCell ⟨fb, 0, none⟩ (.slice (some ⟨g', 0, none⟩) (F.length + 1) cap')) B sb fb n (F ++ [a]) := ⟨by rw [HY.out]; exact h7s, ⟨(.slice (some ⟨g', 0, none⟩) (F.length + 1) cap'), h7f, h7r⟩, hne, hslt, hflt⟩
      have h7c := h5c.trans h6c
      have hfc6 := h6f.cell
      have hff6 := h6f.frozen
      clear hown' hgrow hfc hff h5s h5f h5r h5c h6c h7s h7f h7r h6s h6k
      go_wp2
      go_end0
      exact ⟨rfl, h7n, h7c⟩)
end Go.Proofs.YtmgengplfebmjaaDoor
