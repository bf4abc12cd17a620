/- What slices.Collect gives over the moved cycles of a permutation of at most 1000 points: a list of lists, the cycles in their order, each in memory of its own. -/
import Derived.Test.YtjchmhngfnlbhaaDoorMoved
import Derived.Test.YtjchmhngfnlbhaaDoorOrbit
import Derived.Test.YtjchmhngfnlbhaaDoorMul
namespace Go.Proofs.YtjchmhngfnlbhaaDoor
open Go Go.RowKit Go.Shelf

attribute [local go_sem] Oper.semAt_some

theorem info22 : (Tryd.prog.info? 22).map (fun i => (i.zero, i.size, i.bytes)) = some (some (.slice none 0 0), 1, 24) := by kernel_rfl
theorem under39 : Tryd.prog.underlying 24 = some (.slice 22) := by kernel_rfl

/-- Slices that hold the cycles L, each a row of its own. -/
def CRows (W : World) (vs : List Value) (L : List (List Nat)) : Prop :=
  vs.length = L.length ∧ ∀ i, i < L.length → ∃ g cap, vs[i]? = some (.slice (some ⟨g, 0, none⟩) (L[i]?.getD []).length cap) ∧
    W.ownsRow 0 3 1 (.slice (some ⟨g, 0, none⟩) (L[i]?.getD []).length cap) (L[i]?.getD []).length (pts (L[i]?.getD []))
theorem row3_kept {W W' : World} {base : Nat} {v : Value} {n : Nat} {xs : List Value} (h : W.ownsRow base 3 1 v n xs) (hk : ∀ (k : Nat) (c : Array Value) (fz : Nat × Nat), W.heap[k]? = some (.cells c 3 fz) → W'.heap[k]? = some (.cells c 3 fz)) : W'.ownsRow base 3 1 v n xs := by
  refine ⟨h.1, ?_⟩
  rcases h.2 with h0 | ⟨g, cap, cur, hv, hg, hh, r⟩
  · exact .inl h0
  · exact .inr ⟨g, cap, cur, hv, hg, hk _ _ _ hh, r⟩
theorem CRows.kept {W W' : World} {vs : List Value} {L : List (List Nat)} (h : CRows W vs L) (hk : ∀ (k : Nat) (c : Array Value) (fz : Nat × Nat), W.heap[k]? = some (.cells c 3 fz) → W'.heap[k]? = some (.cells c 3 fz)) : CRows W' vs L :=
  ⟨h.1, fun i hi => by
    obtain ⟨g, cap, h1, h2⟩ := h.2 i hi
    exact ⟨g, cap, h1, row3_kept h2 hk⟩⟩
theorem CRows.snoc {W : World} {vs : List Value} {L : List (List Nat)} {c : List Nat} {g cap : Nat} (h : CRows W vs L) (ho : W.ownsRow 0 3 1 (.slice (some ⟨g, 0, none⟩) c.length cap) c.length (pts c)) : CRows W (vs ++ [.slice (some ⟨g, 0, none⟩) c.length cap]) (L ++ [c]) := by
  have hl := h.1
  refine ⟨by simp [hl], fun i hi => ?_⟩
  simp at hi
  by_cases e : i < L.length
  · rw [List.getElem?_append_left e, List.getElem?_append_left (by omega)]
    exact h.2 i e
  · obtain rfl : i = L.length := by omega
    have e1 : (L ++ [c])[L.length]?.getD [] = c := by simp
    rw [e1]
    exact ⟨g, cap, by rw [← hl]; simp, ho⟩
theorem moved_filter_len (zs : List Int) : (moved (cyc zs)).length ≤ zs.length := Nat.le_trans (List.length_filter_le _ _) (cyc_len zs)
theorem CRows.nil (W : World) : CRows W [] [] := ⟨rfl, fun i hi => by simp at hi⟩

set_option maxRecDepth 100000 in
set_option maxHeartbeats 4000000 in
theorem appendSeq_ok (bx cap pb po : Nat) (a : Option Addr) (zs : List Int) (w : World) (hbx : Boxed w bx 22 (.slice a zs.length cap)) (hr : Reads w a pb po zs) (hp : pb < w.heap.size) (hperm : IsPerm zs) (hl : zs.length ≤ 1000) :
    Calls Tryd.prog 68 #[.slice none 0 0, .func (.func 69) #[] #[.pointer (some ⟨bx, 0, none⟩)]] w fun e w' => ∃ v vs, e = .returned v ∧ w'.ownsRow w.heap.size 22 1 v (moved (cyc zs)).length vs ∧ CRows w' vs (moved (cyc zs)) ∧ Below w.heap.size w w' := by
  obtain ⟨i2, hi2, hz0, hz1, hz2⟩ := info_parts info22
  have hbl := hbx.lt
  refine (callsIn_wide (n := 9)).1 ?_
  refine callsIn_of_wp_marks Tryd.func68 rfl trivial ?_ rfl
  simp only [Tryd.ntmps68, List.size_toArray, List.length_cons, List.length_nil, Nat.reduceAdd, Nat.reduceSub, Array.replicate_succ, Array.replicate_zero, List.push_toArray, List.append_toArray, List.nil_append, List.cons_append]
  gi_wp2_with fail
  obtain ⟨w2, hw2⟩ : ∃ w2, w2 = w.alloc (.cells #[.slice none 0 0] 24) := ⟨_, rfl⟩
  have hs2 : w2.heap.size = w.heap.size + 1 := by rw [hw2]; simp
  have hB2 : Below w.heap.size w w2 := by rw [hw2]; exact (Below.refl _ w).alloc (Nat.le_refl _) _
  have hO2 : Boxed w2 w.heap.size 24 (.slice none 0 0) := by rw [hw2]; exact Boxed.new w 24 _
  rw [← hw2]
  clear hw2
  refine range_out (gf := 69) (lb := #[.pointer (some ⟨bx, 0, none⟩)]) (hg := ?hg) (eg := enters_of Tryd.func69 (by kernel_rfl) rfl) (h1 := ?hn) (h := ?_)
  case hg => rfl
  case hn => decide
  intro lr D L W1 hD hlr hround hW1
  have hs1 : W1.heap.size = w.heap.size + 3 := by rw [hW1]; simp [hs2]
  have hL1 : W1.heap[lr]? = some (.loop (L .ready none)) := by
    rw [hW1, hlr]; have := World.alloc_heap_new (w2.alloc (.deferred (some []))) (.loop (L .ready none)); rw [World.size_alloc] at this; exact this
  have hD1 : W1.heap[D]? = some (.deferred (some [])) := by
    rw [hW1, hD]; exact (Below.heap_alloc _ _ _ (by simp)).trans (World.alloc_heap_new w2 (.deferred (some [])))
  have hg1 : w2.grownBy W1 none := by rw [hW1]; exact (World.grownBy_alloc w2 _ none).trans (World.grownBy_alloc _ _ none)
  have hO1 : Boxed W1 w.heap.size 24 (.slice none 0 0) := hO2.kept hg1 (by simp)
  have hBW : Below w.heap.size w W1 := hB2.grown hg1 (by omega) (by simp)
  have hbx1 : Boxed W1 bx 22 (.slice a zs.length cap) := (hBW.block bx hbl).trans hbx
  have hD_1 : w.heap.size + 1 ≤ D := by omega
  have hD_2 : D ≤ w.heap.size + 1 := by omega
  have hl_1 : w.heap.size + 2 ≤ lr := by omega
  have hl_2 : lr ≤ w.heap.size + 2 := by omega
  have hs_1 : w.heap.size + 3 ≤ W1.heap.size := by omega
  have hs_2 : W1.heap.size ≤ w.heap.size + 3 := by omega
  have hr1 : Reads W1 a pb po zs := hr.below hBW hp
  have HP := hide hperm
  clear hW1 hg1 hO2 hB2 hs2 hs1 hD hlr
  refine (moved_iter lr bx cap pb po a zs
    (fun pre W => ∃ v vs, Boxed W w.heap.size 24 v ∧ W.ownsRow (W1.heap.size + 5) 22 1 v pre.length vs ∧ CRows W vs pre ∧ Below w.heap.size w W ∧ W.heap[lr]? = some (.loop (L .ready none)) ∧ W.heap[D]? = some (.deferred (some [])) ∧
      (W.heap.size ≤ W1.heap.size ∨ Kinds [4, 22, 39] W W1.heap.size (W1.heap.size + 5)))
    (fun _ => False) W1 hbx1 hr1 (by omega) hperm hl ?round ⟨_, [], hO1, World.ownsRow_nil _ _ _ _, CRows.nil _, hBW, hL1, hD1, .inl (Nat.le_refl _)⟩).mono ?_
  case round =>
    rintro pre c post W0 W2 g cap' hpc ⟨v, vs, hO0, ho0, hC0, hB0, hL0, hD0, hk0⟩ hA hown hkd
    have hplen : pre.length + 1 ≤ 1000 := by
      have h2 := moved_filter_len zs
      rw [← hpc] at h2
      simp at h2
      omega
    have hlt := (Array.getElem?_eq_some_iff.1 hL0).1
    have hL2 : W2.heap[lr]? = some (.loop (L .ready none)) := (hA.block lr hlt (by omega)).trans hL0
    have hD2 : W2.heap[D]? = some (.deferred (some [])) := (hA.block D (by omega) (by omega)).trans hD0
    have hO2 : Boxed W2 w.heap.size 24 v := (hA.block _ hO0.lt (by omega)).trans hO0
    have hge := owns_ge ho0
    have ho2 : W2.ownsRow (W1.heap.size + 5) 22 1 v pre.length vs := by
      refine ⟨ho0.1, ?_⟩
      rcases ho0.2 with h0 | ⟨g9, cap9, cur, hv9, hg9, hh9, r9⟩
      · exact .inl h0
      · exact .inr ⟨g9, cap9, cur, hv9, hg9, (hA.block g9 (Array.getElem?_eq_some_iff.1 hh9).1 (by omega)).trans hh9, r9⟩
    have hC2 : CRows W2 vs pre := hC0.kept (fun k c fz hk => (hA.kind hk0 hk (by simp)).trans hk)
    have hB2 : Below w.heap.size w W2 := hB0.trans (hA.below (by omega) (by have := hB0.size; omega))
    have hsz5 : W1.heap.size + 5 ≤ W2.heap.size := by
      obtain ⟨o, ho, _⟩ := hkd (W1.heap.size + 4) (by omega) (by omega)
      have := (Array.getElem?_eq_some_iff.1 ho).1
      omega
    refine hround _ _ W2 _ hL2 rfl ?_
    have HL2 := hide hL2
    clear hL2
    gi_wp2
    have hL2 := HL2.out
    refine ⟨hL2, ?_⟩
    obtain ⟨Wb, hWb⟩ : ∃ Wb, Wb = W2.putObj lr (.loop (L .busy none)) := ⟨_, rfl⟩
    have hLb : Wb.heap[lr]? = some (.loop (L .busy none)) := by rw [hWb]; exact World.putObj_heap_same (Array.getElem?_eq_some_iff.1 hL2).1
    have hkb : ∀ b, b ≠ lr → Wb.heap[b]? = W2.heap[b]? := fun b hb => by rw [hWb]; exact World.putObj_heap_other hb
    have hob : Wb.ownsRow (W1.heap.size + 5) 22 1 v pre.length vs := by rw [hWb]; exact ownsRow_putObj ho2 _ hL2 rfl
    have hcb : Wb.ownsRow 0 3 1 (.slice (some ⟨g, 0, none⟩) c.length cap') c.length (pts c) := by rw [hWb]; exact owns_mono (ownsRow_putObj hown _ hL2 rfl) (Nat.zero_le _)
    have hszb : Wb.heap.size = W2.heap.size := by rw [hWb]; simp
    have hsz6 : W1.heap.size + 5 ≤ Wb.heap.size := by omega
    have hOb : Boxed Wb w.heap.size 24 v := (hkb _ (by omega)).trans hO2
    have h3b : ∀ (k : Nat) (c : Array Value) (fz : Nat × Nat), W2.heap[k]? = some (.cells c 3 fz) → Wb.heap[k]? = some (.cells c 3 fz) := fun k c fz hk => by
      rw [hkb k (fun e => by rw [e, hL2] at hk; cases hk)]; exact hk
    have hCb : CRows Wb vs pre := hC2.kept h3b
    have hBb : Below w.heap.size w Wb := hB2.trans ⟨by rw [hWb]; rfl, by rw [hWb]; rfl, by rw [hWb]; rfl, by omega, fun k hk => hkb k (by omega)⟩
    have hDb := (hkb D (by omega)).trans hD2
    rw [← hWb]
    have HKB := hide hkb
    have HSZ := hide hszb
    have hcO := hOb.cell
    clear hWb hkb hszb h3b
    gi_wp2_with (first
      | (gi_at_builtin; refine wpListIn_append_own _ rfl _ _ 24 rfl (W1.heap.size + 5) 22 i2 (.slice none 0 0) 1 24 under39 hi2 hz0 hz1 hz2 rfl (by decide) _ _ _ rfl (hob.alloc _) ⟨Wb.heap.size, 0, none⟩ 1 1 [.slice (some ⟨g, 0, none⟩) c.length cap'] rfl rfl ?c1 ?c2 ?c3 ?c4 ?c5 ?_))
    case c1 => exact cell_one_new _ _ _
    case c2 => simp [Value.oneCell']
    case c3 => unfold maxLen; omega
    case c4 => omega
    case c5 => simp; omega
    intro v' w3 hown' hgrow _
    obtain ⟨g', cap9, rfl⟩ := ownsRow_succ hown'
    have hob3 : Boxed w3 w.heap.size 24 v := (hOb.alloc _).kept hgrow (fun e => by have := hge _ e.symm; omega)
    have hcO3 := hob3.cell
    have hfO3 := hob3.frozen
    gi_wp2
    have hge' := owns_ge hown' g' rfl
    have hszw : Wb.heap.size + 1 ≤ w3.heap.size := by have := hgrow.size; simpa using this
    have hkeep : ∀ b, b < Wb.heap.size → b ≠ w.heap.size → some b ≠ v.ownBlock → (w3.setCell ⟨w.heap.size, 0, none⟩ (.slice (some ⟨g', 0, none⟩) (pre.length + 1) cap9)).heap[b]? = Wb.heap[b]? := fun b h1 h2 h3 => by
      rw [Below.heap_setCell _ _ _ _ h2, hgrow.block b (by simp; omega) h3]
      exact Below.heap_alloc _ _ _ h1
    have hnot : ∀ b, b < W1.heap.size + 5 → some b ≠ v.ownBlock := fun b hb e => by have := hge b e.symm; omega
    have hO4 := hob3.set (.slice (some ⟨g', 0, none⟩) (pre.length + 1) cap9)
    have ho4 := hown'.kept (grownBy_setCell' w3 w.heap.size (.slice (some ⟨g', 0, none⟩) (pre.length + 1) cap9)) (.inr (by simp [Value.ownBlock]; omega))
    have hsz4 : (w3.setCell ⟨w.heap.size, 0, none⟩ (.slice (some ⟨g', 0, none⟩) (pre.length + 1) cap9)).heap.size = w3.heap.size := size_set _ _ _
    have hB4 : Below w.heap.size w (w3.setCell ⟨w.heap.size, 0, none⟩ (.slice (some ⟨g', 0, none⟩) (pre.length + 1) cap9)) :=
      ((hBb.alloc hBb.size _).grown hgrow (by have := hBb.size; simp; omega) (fun j e => by have := hge j e; omega)).setCell (p := ⟨w.heap.size, 0, none⟩) (Nat.le_refl _) _
    have hrow22 : ∀ b, v.ownBlock = some b → ∃ cc fz, Wb.heap[b]? = some (.cells cc 22 fz) := fun b hb => by
      rcases hob.2 with ⟨rfl, _⟩ | ⟨g9, cap8, cur, rfl, _, hh, _⟩
      · simp [Value.ownBlock] at hb
      · simp [Value.ownBlock] at hb
        subst hb
        exact ⟨_, _, hh⟩
    have h34 : ∀ (k : Nat) (cc : Array Value) (fz : Nat × Nat), Wb.heap[k]? = some (.cells cc 3 fz) → (w3.setCell ⟨w.heap.size, 0, none⟩ (.slice (some ⟨g', 0, none⟩) (pre.length + 1) cap9)).heap[k]? = some (.cells cc 3 fz) := fun k cc fz hk => by
      rw [hkeep k (Array.getElem?_eq_some_iff.1 hk).1 (fun e => by
        rw [e, show Wb.heap[w.heap.size]? = _ from hOb] at hk; cases hk) (fun e => by
        obtain ⟨c2, f2, h2⟩ := hrow22 k e.symm
        rw [hk] at h2; cases h2)]
      exact hk
    have hC4 := (hCb.kept h34).snoc (row3_kept hcb h34)
    have hL4 := (hkeep lr (by have := (Array.getElem?_eq_some_iff.1 hLb).1; omega) (by omega) (hnot lr (by omega))).trans hLb
    have hD4 := (hkeep D (by have := (Array.getElem?_eq_some_iff.1 hDb).1; omega) (by omega) (hnot D (by omega))).trans hDb
    have hszL := (Array.getElem?_eq_some_iff.1 hLb).1
    have hsz2 := HSZ.out
    have hBbs := hBb.size
    generalize w3.setCell ⟨w.heap.size, 0, none⟩ (.slice (some ⟨g', 0, none⟩) (pre.length + 1) cap9) = W4 at hkeep hO4 ho4 hsz4 hB4 hC4 hL4 hD4 h34
    have hput : ∀ b, b ≠ lr → (W4.putObj lr (.loop (L .ready none))).heap[b]? = W4.heap[b]? := fun b hb => World.putObj_heap_other hb
    have hkr : ∀ b, b < Wb.heap.size → b ≠ w.heap.size → b < W1.heap.size + 5 → b ≠ lr → (W4.putObj lr (.loop (L .ready none))).heap[b]? = W2.heap[b]? := fun b h1 h2 h3 h4 => by
      rw [hput b h4, hkeep b h1 h2 (hnot b h3)]; exact HKB.out b h4
    refine ⟨hL4, ⟨by simp; omega, fun b hb => ?_⟩, .inl ⟨rfl, _, hput _ (by omega) |>.trans hO4, _, ownsRow_putObj ho4 _ hL4 rfl, hC4.kept (fun k cc fz hk => ?_), ?_, World.putObj_heap_same (Array.getElem?_eq_some_iff.1 hL4).1, (hput D (by omega)).trans hD4, .inr (fun b h1 h2 => ?_)⟩⟩
    · rcases hb with rfl | rfl | hb
      · exact hkr b (by omega) (by omega) (by omega) (by omega)
      · exact hkr b (by omega) (by omega) (by omega) (by omega)
      · exact hkr b (by omega) (by omega) (by omega) (by omega)
    · rw [hput k (fun e => by rw [e, hL4] at hk; cases hk)]; exact hk
    · exact hB4.trans ⟨rfl, rfl, rfl, by simp, fun k hk => hput k (by omega)⟩
    · obtain ⟨o, ho, hn⟩ := hkd b h1 h2
      exact ⟨o, (hkr b (by omega) (by omega) h2 (by omega)).trans ho, hn⟩
  · rintro e W2 ⟨hv, W0, ⟨v, vs, hO0, ho0, hC0, hB0, hL0, hD0, hk0⟩ | hfalse, hA⟩
    · have hlt := (Array.getElem?_eq_some_iff.1 hL0).1
      have hL2 : W2.heap[lr]? = some (.loop (L .ready none)) := (hA.block lr hlt (by omega)).trans hL0
      have hD2 : W2.heap[D]? = some (.deferred (some [])) := (hA.block D (by omega) (by omega)).trans hD0
      have hO2 : Boxed W2 w.heap.size 24 v := (hA.block _ hO0.lt (by omega)).trans hO0
      have ho2 : W2.ownsRow (W1.heap.size + 5) 22 1 v (moved (cyc zs)).length vs := by
        refine ⟨ho0.1, ?_⟩
        rcases ho0.2 with h0 | ⟨g9, cap9, cur, hv9, hg9, hh9, r9⟩
        · exact .inl h0
        · exact .inr ⟨g9, cap9, cur, hv9, hg9, (hA.block g9 (Array.getElem?_eq_some_iff.1 hh9).1 (by omega)).trans hh9, r9⟩
      have hC2 : CRows W2 vs (moved (cyc zs)) := hC0.kept (fun k c fz hk => (hA.kind hk0 hk (by simp)).trans hk)
      have hB2 : Below w.heap.size w W2 := hB0.trans (hA.below (by omega) (by have := hB0.size; omega))
      refine ⟨hv, .ready, none, by simp, hL2, ?_⟩
      obtain ⟨Wb, hWb⟩ : ∃ Wb, Wb = W2.putObj lr (.loop (L .exhausted none)) := ⟨_, rfl⟩
      have hkb : ∀ b, b ≠ lr → Wb.heap[b]? = W2.heap[b]? := fun b hb => by rw [hWb]; exact World.putObj_heap_other hb
      have hob : Wb.ownsRow (W1.heap.size + 5) 22 1 v (moved (cyc zs)).length vs := by rw [hWb]; exact ownsRow_putObj ho2 _ hL2 rfl
      have hOb : Boxed Wb w.heap.size 24 v := (hkb _ (by omega)).trans hO2
      have hCb : CRows Wb vs (moved (cyc zs)) := hC2.kept (fun k c fz hk => by
        rw [hkb k (fun e => by rw [e, hL2] at hk; cases hk)]; exact hk)
      have hBb : Below w.heap.size w Wb := hB2.trans ⟨by rw [hWb]; rfl, by rw [hWb]; rfl, by rw [hWb]; rfl, by rw [hWb]; simp, fun k hk => hkb k (by omega)⟩
      have hDb := (hkb D (by omega)).trans hD2
      rw [← hWb]
      clear hWb hkb
      unfold after
      have hcO := hOb.cell
      gi_wp2
      refine ⟨by simp, .inl ⟨_, _, rfl, run_takeDeferred hDb, ?_⟩⟩
      refine ⟨_, results_tmp rfl _ _ _, v, vs, rfl, owns_mono (ownsRow_putObj hob _ hDb rfl) (by omega), hCb.kept (fun k c fz hk => ?_), hBb.trans ⟨rfl, rfl, rfl, by simp, fun k hk => World.putObj_heap_other (by omega)⟩⟩
      rw [World.putObj_heap_other (fun e => by rw [e, hDb] at hk; cases hk)]; exact hk
    · exact hfalse.elim
end Go.Proofs.YtjchmhngfnlbhaaDoor
