/- What perm.Shape answers at permutations: how long the cycles are, falling. -/
import Derived.Test.YtjchmhngfnlbhaaDoorSrn
import Derived.Test.YtjchmhngfnlbhaaDoorOrd
import Derived.Test.YtjchmhngfnlbhaaDoorColl
namespace Go.Proofs.YtjchmhngfnlbhaaDoor
open Go Go.RowKit Go.Shelf

attribute [local go_sem] Oper.semAt_some

/-- Numbers, falling. -/
def shL (l : List Nat) : List Nat := l.mergeSort (fun a b => decide (b ≤ a))
theorem shL_perm (l : List Nat) : (shL l).Perm l := List.mergeSort_perm _ _
theorem shL_fall (l : List Nat) : (shL l).Pairwise (fun a b => b ≤ a) := by
  have h := List.pairwise_mergeSort (le := fun a b : Nat => decide (b ≤ a)) (fun a b c h1 h2 => by simp at *; omega) (fun a b => by simp; omega) l
  exact h.imp (fun h => by simpa using h)
theorem shL_of {l m : List Nat} (h : m.Perm l) (hf : m.Pairwise (fun a b => b ≤ a)) : m = shL l := fall_unique (h.trans (shL_perm l).symm) hf (shL_fall l)
theorem shL_eq {l m : List Nat} (h : l.Perm m) : shL l = shL m := shL_of ((shL_perm l).trans h) (shL_fall l)
theorem lens_len (zs : List Int) : (lens zs).length = (cyc zs).length := by simp [lens]
/-- The shape of a permutation. -/
def shape (zs : List Int) : List Nat := shL (lens zs)
theorem shape_len (zs : List Int) : (shape zs).length = (cyc zs).length := by rw [shape, (shL_perm _).length_eq, lens_len]

/-- What the range keeps: how long the cycles are, so far. -/
structure SJ (w w3 : World) (sb : Nat) (pre : List (List Nat)) (W : World) : Prop where
  ex : ∃ v, Boxed W sb 22 v ∧ W.ownsRow (w3.heap.size + 3) 3 1 v pre.length (pts (pre.map List.length)) ∧ (pre = [] → v = .slice none 0 0)
  res : Blk W w.heap.size 26 [.int .i64 0, .int .i64 0]
  bel : Below w.heap.size w W
theorem SJ.apart {w w3 : World} {sb : Nat} {pre : List (List Nat)} {W W' : World} (h : SJ w w3 sb pre W) (h1 : sb < w3.heap.size) (h2 : w.heap.size < w3.heap.size) (hA : Apart w3.heap.size (w3.heap.size + 3) W W') : SJ w w3 sb pre W' := by
  obtain ⟨⟨v, a1, a2, a3⟩, b, c⟩ := h
  exact ⟨⟨v, (hA.block _ a1.lt (by omega)).trans a1, row_apart a2 (fun j hj => by have := (row_block a2).2 j hj; omega) hA, a3⟩, b.of_eq (hA.block _ b.lt (by omega)), c.trans (hA.below (by omega) c.size)⟩

set_option maxRecDepth 100000 in
set_option maxHeartbeats 4000000 in
theorem shape_ok (u : Value) (zs : List Int) (w : World) (hu : Sl w u zs) (hperm : IsPerm zs) (hl : zs.length ≤ 1000) :
    Calls Tryd.prog 11 #[u] w fun e w' => ∃ r, e = .returned (.tuple #[r, .agg #[.int .i64 0, .int .i64 0]]) ∧ w'.ownsRow w.heap.size 3 1 r (shape zs).length (pts (shape zs)) ∧ Below w.heap.size w w' := by
  obtain ⟨i3, hi3, hy0, hy1, hy2⟩ := info_parts info3
  have hB0 : Below w.heap.size w (w.alloc (.cells #[.int .i64 0, .int .i64 0] 26)) := balloc w _
  have hu0 := hu.below hB0
  have T0 := Two.new w
  have htw := fault_of_perm hperm hl
  have hck := check_sl _ zs _ hu0
  rw [htw] at hck
  have HCK := hide hck
  obtain ⟨a, cap, pb, po, rfl, hr, hp, hq3, hq4⟩ := id hu
  have HP := hide hperm
  clear hperm htw hck hu0
  refine (callsIn_wide (n := 9)).1 ?_
  refine callsIn_of_wp_marks Tryd.func11 rfl trivial ?_ rfl
  simp only [Tryd.ntmps11, List.size_toArray, List.length_cons, List.length_nil, Nat.reduceAdd, Nat.reduceSub, Array.replicate_succ, Array.replicate_zero, List.push_toArray, List.append_toArray, List.nil_append, List.cons_append]
  gi_wp2_with fail
  refine ⟨trivial, ?_⟩
  refine (callsIn_wide.2 HCK.out).mono ?_
  rintro e w1 ⟨rfl, hb1⟩
  have hB1 := bcat hB0 hb1 (by simp)
  have T1 := T0.below hb1
  have hs1 : w.heap.size < w1.heap.size := T1.blk.lt
  clear hb1 HCK hB0 T0
  gi_wp2_with fail
  refine ⟨trivial, ?_⟩
  refine (cyclesOf_in _ _ _ _ _ _ rfl).mono ?_
  rintro e w3 ⟨rfl, rfl⟩
  gi_wp2_with fail
  obtain ⟨w3, hw3⟩ : ∃ w3, w3 = ((w1.alloc (.cells #[.int .i64 0, .int .i64 0] 26)).alloc (.cells #[.slice none 0 0] 22)).alloc (.cells #[.slice a zs.length cap] 22) := ⟨_, rfl⟩
  have hs3 : w3.heap.size = w1.heap.size + 3 := by rw [hw3]; simp
  have hB3 : Below w.heap.size w w3 := by rw [hw3]; exact ((hB1.alloc hB1.size _).alloc (by simp; omega) _).alloc (by simp; omega) _
  have hR3 : Blk w3 w.heap.size 26 [.int .i64 0, .int .i64 0] := by rw [hw3]; exact ((T1.blk.alloc _).alloc _).alloc _
  have hN3 : Boxed w3 (w1.heap.size + 1) 22 (.slice none 0 0) := by
    rw [hw3]
    have := Boxed.new (w1.alloc (.cells #[.int .i64 0, .int .i64 0] 26)) 22 (.slice none 0 0)
    rw [World.size_alloc] at this; exact this.alloc _
  have hX3 : Boxed w3 (w1.heap.size + 2) 22 (.slice a zs.length cap) := by
    rw [hw3]
    have := Boxed.new ((w1.alloc (.cells #[.int .i64 0, .int .i64 0] 26)).alloc (.cells #[.slice none 0 0] 22)) 22 (.slice a zs.length cap)
    rw [World.size_alloc, World.size_alloc] at this; exact this
  have hr3 : Reads w3 a pb po zs := hr.below hB3 hp
  rw [← hw3]
  have HS3 := hide hs3
  clear hw3 hs3
  refine cyc_range (w1.heap.size + 2) cap pb po a zs (SJ w w3 (w1.heap.size + 1)) (fun _ => False) (by rfl) (by decide) (by rfl) hX3 hr3 (by have := hB3.size; omega) HP.out hl
    (fun _ _ _ h hA => h.apart (by have := HS3.out; omega) (by have := HS3.out; omega) hA) (fun _ _ h _ => h.elim)
    ⟨⟨_, hN3, World.ownsRow_nil _ _ _ _, fun _ => rfl⟩, hR3, hB3⟩ ?body ?fin (fun _ h => h.elim)
  case body =>
    rintro pre c post W gc cap' hpc hcy hJ hown hgc1 hgc2 _ _
    gi_wp2
    refine ⟨trivial, ?_⟩
    rintro Wb ⟨⟨v, hN, hO, hne⟩, hR, hB⟩ hown hgc hxb hpb
    have hpl : pre.length ≤ 1000 := by
      have h1 := cyc_len zs
      rw [← hpc] at h1; simp at h1; omega
    have hbk := (row_block hO).2
    have HPC := hide hpc
    have hcN := hN.cell
    have hgw : w3.heap.size + 3 ≤ Wb.heap.size := by omega
    have HNE := hide hne
    clear hpc hown hne
    gi_wp2_with (first
      | (gi_at_builtin; refine wpListIn_append_own _ rfl _ _ 22 rfl (w3.heap.size + 3) 3 i3 (.int .i64 0) 1 8 under22 hi3 hy0 hy1 hy2 rfl (by decide) _ _ _ rfl (hO.alloc _) ⟨Wb.heap.size, 0, none⟩ 1 1 [.int .i64 c.length] rfl rfl ?c1 ?c2 ?c3 ?c4 ?c5 ?_))
    case c1 => exact cell_one_new _ _ _
    case c2 => simp [Value.oneCell']
    case c3 => unfold maxLen; omega
    case c4 => omega
    case c5 => simp; omega
    intro v' w4 hown' hgrow _
    obtain ⟨g', cap9, rfl⟩ := ownsRow_succ hown'
    have hne4 : some (w1.heap.size + 1) ≠ v.ownBlock := fun e => by have := hbk _ e.symm; have := HS3.out; omega
    have hN4 : Boxed w4 (w1.heap.size + 1) 22 v := (hN.alloc _).kept hgrow hne4
    have hcN4 := hN4.cell
    have hfN4 := hN4.frozen
    have hge' := owns_ge hown' g' rfl
    have hN5 := hN4.set (.slice (some ⟨g', 0, none⟩) (pre.length + 1) cap9)
    have hO5 := hown'.kept (grownBy_setCell' w4 (w1.heap.size + 1) (.slice (some ⟨g', 0, none⟩) (pre.length + 1) cap9)) (.inr (by simp [Value.ownBlock]; have := HS3.out; omega))
    have hk4 : ∀ b, b < Wb.heap.size → some b ≠ v.ownBlock → w4.heap[b]? = Wb.heap[b]? := fun b hb hn => by
      rw [hgrow.block b (by simp; omega) hn]; exact Below.heap_alloc _ _ _ hb
    have hz4 : Wb.heap.size + 1 ≤ w4.heap.size := by have := hgrow.size; simpa using this
    have hR4 : Blk w4 w.heap.size 26 [.int .i64 0, .int .i64 0] := hR.of_eq (hk4 _ hR.lt (fun e => by have := hbk _ e.symm; have := HS3.out; omega))
    have hB4 : Below w.heap.size w w4 := (hB.alloc hB.size _).grown hgrow (by have := hB.size; simp; omega) (fun j e => by have := hbk j e; have := HS3.out; omega)
    have HBK := hide hbk
    clear hcN hN hN4 hbk hgw
    gi_wp2
    refine ⟨⟨by rw [size_set]; omega, fun b hb => ?_⟩, ⟨⟨_, hN5, ?_, by simp⟩, ?_, ?_⟩⟩
    · rw [Below.heap_setCell _ _ _ b (by simp; have := HS3.out; omega)]
      exact hk4 b (by have := HS3.out; omega) (fun e => by have := HBK.out _ e.symm; have := HS3.out; omega)
    · simpa [pts] using hO5
    · exact hR4.other (by simp; omega) _
    · exact hB4.setCell (by simp; omega) _
  case fin =>
    rintro W ⟨⟨v, hN, hO, hne⟩, hR, hB⟩ hD hz
    have hcN := hN.cell
    have hcl := cyc_len zs
    have hD1 : ∀ W', Below (w3.heap.size + 3) W W' → W'.heap[w3.heap.size]? = some (.deferred (some [])) := fun W' h => (h.block _ (by omega)).trans hD
    have hSort : ∀ (r : Value), r = v → Calls Tryd.prog 44 #[r, .func (.func 45) #[] #[]] W fun e w' => e = .returned (.tuple #[]) ∧ Below (w3.heap.size + 3) W w' ∧ w'.ownsRow (w3.heap.size + 3) 3 1 r (shape zs).length (pts (shape zs)) := by
      rintro r rfl
      rcases Nat.eq_zero_or_pos (cyc zs).length with h0 | h0
      · have hcz := List.length_eq_zero_iff.1 h0
        rw [hne hcz]
        refine (sort_nil W).mono ?_
        rintro e w' ⟨rfl, rfl⟩
        refine ⟨rfl, Below.refl _ _, ?_⟩
        have : shape zs = [] := List.length_eq_zero_iff.1 (by rw [shape_len, h0])
        rw [this]; exact World.ownsRow_nil _ _ _ _
      · obtain ⟨k, hk⟩ : ∃ k, (cyc zs).length = k + 1 := ⟨(cyc zs).length - 1, by omega⟩
        have hO' := hO
        rw [hk] at hO'
        obtain ⟨g', cap9, rfl⟩ := ownsRow_succ hO'
        have hll : (lens zs).length = k + 1 := by rw [lens_len, hk]
        have h := sort_ok (w3.heap.size + 3) g' cap9 (lens zs) W (by rw [hll]; exact hO') (fun k hk => Nat.le_trans (lens_pos HP.out hk).2 hl) (by omega) (by rw [lens_len]; omega)
        rw [hll] at h
        refine h.mono ?_
        rintro e w' ⟨rfl, hb, m, h1, h2, h3⟩
        obtain rfl := shL_of h1 h2
        refine ⟨rfl, hb, ?_⟩
        rw [show (shape zs).length = k + 1 by rw [shape_len, hk]]
        exact h3
    obtain ⟨⟨av, nv, cv, rfl⟩, hbk⟩ := row_block hO
    have HSO := hide (hSort _ rfl)
    have HD := hide hD1
    clear hSort hD1
    gi_wp2_with fail
    refine ⟨trivial, ?_⟩
    refine (callsIn_wide.2 HSO.out).mono ?_
    rintro e W2 ⟨rfl, hb2, hO2⟩
    have hsz := HS3.out
    have hN2 : Boxed W2 (w1.heap.size + 1) 22 (.slice av nv cv) := (hb2.block _ (by omega)).trans hN
    have hcN2 := hN2.cell
    have hR2 := hR.of_eq (hb2.block _ (by omega))
    have hD2 := HD.out W2 hb2
    have hB2 : Below w.heap.size w W2 := hB.trans (hb2.mono (by omega))
    obtain ⟨_, c0, c1, f0, f1, s0, s1⟩ := Two.mk' hR2
    clear hsz
    gi_wp2
    refine ⟨by simp, .inl ⟨_, _, rfl, run_takeDeferred hD2, ?_⟩⟩
    have hput : ∀ b, b ≠ w3.heap.size → (W2.putObj w3.heap.size (.deferred none)).heap[b]? = W2.heap[b]? := fun b hb => World.putObj_heap_other hb
    have hR7 : Blk (W2.putObj w3.heap.size (.deferred none)) w.heap.size 26 [.int .i64 0, .int .i64 0] := hR2.of_eq (hput _ (by have := HS3.out; omega))
    have h70 := hR7.cell 0
    have h71 := hR7.cell 1
    refine ⟨.tuple #[.slice av nv cv, .agg #[.int .i64 0, .int .i64 0]], by simp [results, Tryd.results11, go_sem, h70, h71], _, rfl, ?_, hB2.trans ⟨rfl, rfl, rfl, by simp, fun k hk => hput k (by have := HS3.out; omega)⟩⟩
    have := ownsRow_putObj hO2 (.deferred none) hD2 rfl
    exact owns_mono this (by have := HS3.out; omega)
end Go.Proofs.YtjchmhngfnlbhaaDoor
