/- What the iterator of perm.movedCyclesOf does: at every permutation of at most 1000 points it hands its loop body the cycles of 'cyc' that have two points or more, one by one, each in new memory. -/
import Derived.Test.YtjchmhngfnlbhaaDoorCyc
namespace Go.Proofs.YtjchmhngfnlbhaaDoor
open Go Go.RowKit Go.Shelf

attribute [local go_sem] Oper.semAt_some

set_option maxHeartbeats 1000000 in
theorem cyclesOf_in (n : Nat) (v : Value) (w : World) (a : Option Addr) (k cap : Nat) (hv : v = .slice a k cap) :
    CallsIn Fence.wide n Tryd.prog 43 #[v] w fun e w' => e = .returned (.func (.func 70) #[] #[.pointer (some ⟨w.heap.size, 0, none⟩)]) ∧ w' = w.alloc (.cells #[v] 22) := by
  subst hv
  refine callsIn_of_wp Tryd.func43 rfl trivial ?_ rfl
  simp only [Tryd.ntmps43, List.size_toArray, List.length_cons, List.length_nil, Nat.reduceAdd, Nat.reduceSub, Array.replicate_succ, Array.replicate_zero, List.push_toArray, List.append_toArray, List.nil_append, List.cons_append]
  gi_wp2
  go_ret
  exact ⟨rfl, rfl⟩

set_option maxHeartbeats 1000000 in
theorem movedCyclesOf_in (n : Nat) (v : Value) (w : World) (a : Option Addr) (k cap : Nat) (hv : v = .slice a k cap) :
    CallsIn Fence.wide n Tryd.prog 42 #[v] w fun e w' => e = .returned (.func (.func 69) #[] #[.pointer (some ⟨w.heap.size, 0, none⟩)]) ∧ w' = w.alloc (.cells #[v] 22) := by
  subst hv
  refine callsIn_of_wp Tryd.func42 rfl trivial ?_ rfl
  simp only [Tryd.ntmps42, List.size_toArray, List.length_cons, List.length_nil, Nat.reduceAdd, Nat.reduceSub, Array.replicate_succ, Array.replicate_zero, List.push_toArray, List.append_toArray, List.nil_append, List.cons_append]
  gi_wp2
  go_ret
  exact ⟨rfl, rfl⟩

/-- The cycles whose points are moved. -/
def moved (cs : List (List Nat)) : List (List Nat) := cs.filter fun c => decide (1 < c.length)
theorem moved_hit (pre : List (List Nat)) {c : List Nat} (h : 1 < c.length) : moved (pre ++ [c]) = moved pre ++ [c] := by simp [moved, h]
theorem moved_miss (pre : List (List Nat)) {c : List Nat} (h : ¬ 1 < c.length) : moved (pre ++ [c]) = moved pre := by simp [moved, h]
theorem moved_split (pre : List (List Nat)) {c : List Nat} (post : List (List Nat)) (h : 1 < c.length) : moved pre ++ c :: moved post = moved (pre ++ c :: post) := by simp [moved, h]

set_option maxRecDepth 100000 in
set_option maxHeartbeats 2000000 in
theorem moved_iter (l bx cap pb po : Nat) (a : Option Addr) (zs : List Int) (J : List (List Nat) → World → Prop) (Jx : World → Prop) (W : World)
    (hbx : Boxed W bx 22 (.slice a zs.length cap)) (hr : Reads W a pb po zs) (hpb : pb < W.heap.size) (hperm : IsPerm zs) (hl : zs.length ≤ 1000)
    (hY : ∀ pre c post W0 W1 g cap', pre ++ c :: post = moved (cyc zs) → J pre W0 → Apart W.heap.size (W.heap.size + 5) W0 W1 → W1.ownsRow W0.heap.size 3 1 (.slice (some ⟨g, 0, none⟩) c.length cap') c.length (pts c) → Kinds [4, 22, 39] W1 W.heap.size (W.heap.size + 5) →
      YieldAt Fence.wide 0 Tryd.prog l #[.slice (some ⟨g, 0, none⟩) c.length cap'] W1 (YPost (J (pre ++ [c])) Jx (fun b => b = bx ∨ b = pb ∨ (W.heap.size ≤ b ∧ b < W.heap.size + 5)) W1))
    (h0 : J [] W) :
    Calls Tryd.prog 69 #[.func (.yield l) #[] #[], .pointer (some ⟨bx, 0, none⟩)] W fun e W' => (∃ v, e = .returned v) ∧ ∃ W0, (J (moved (cyc zs)) W0 ∨ Jx W0) ∧ Apart W.heap.size (W.heap.size + 5) W0 W' := by
  have hcb := hbx.cell
  have hbl := hbx.lt
  refine (callsIn_wide (n := 9)).1 ?_
  refine callsIn_of_wp_marks Tryd.func69 rfl trivial ?_ rfl
  simp only [Tryd.ntmps69, List.size_toArray, List.length_cons, List.length_nil, Nat.reduceAdd, Nat.reduceSub, Array.replicate_succ, Array.replicate_zero, List.push_toArray, List.append_toArray, List.nil_append, List.cons_append]
  gi_wp2_with (refine ⟨trivial, ?_⟩; gi_at_call 43; refine (cyclesOf_in _ _ _ _ _ _ rfl).mono ?_; rintro e w' ⟨rfl, rfl⟩)
  obtain ⟨w0, hw0⟩ : ∃ w0, w0 = (W.alloc (.cells #[.func (.yield l) #[] #[]] 39)).alloc (.cells #[.slice a zs.length cap] 22) := ⟨_, rfl⟩
  have hs0 : w0.heap.size = W.heap.size + 2 := by rw [hw0]; simp
  have hA0 : Apart W.heap.size (W.heap.size + 5) W w0 := by rw [hw0]; exact ((Apart.refl _ _ W).alloc _).alloc _
  have hy0 : Boxed w0 W.heap.size 39 (.func (.yield l) #[] #[]) := by rw [hw0]; exact (Boxed.new W 39 _).alloc _
  have hb0 : Boxed w0 (W.heap.size + 1) 22 (.slice a zs.length cap) := by rw [hw0]; have := Boxed.new (W.alloc (.cells #[.func (.yield l) #[] #[]] 39)) 22 (.slice a zs.length cap); rwa [World.size_alloc] at this
  have hk0 : ∀ b, b < W.heap.size → w0.heap[b]? = W.heap[b]? := fun b hb => hA0.block b hb (by omega)
  rw [← hw0]
  clear hw0 hcb
  refine range_out (gf := 70) (lb := #[.pointer (some ⟨W.heap.size + 1, 0, none⟩)]) (hg := ?hg) (eg := enters_of Tryd.func70 (by kernel_rfl) rfl) (h1 := ?hn) (h := ?_)
  case hg => rfl
  case hn => decide
  intro lr D L W1 hD hlr hround hW1
  rw [hs0] at hD hlr
  have HD := hide hD
  have HLR := hide hlr
  have hD_1 : W.heap.size + 2 ≤ D := by omega
  have hD_2 : D ≤ W.heap.size + 2 := by omega
  have hl_1 : W.heap.size + 3 ≤ lr := by omega
  have hl_2 : lr ≤ W.heap.size + 3 := by omega
  have hs1 : W1.heap.size = W.heap.size + 4 := by rw [hW1]; simp [hs0]
  have hA1 : Apart W.heap.size (W.heap.size + 5) W W1 := by rw [hW1]; exact (hA0.alloc _).alloc _
  have hL1 : W1.heap[lr]? = some (.loop (L .ready none)) := by
    rw [hW1, hlr]; have := World.alloc_heap_new (w0.alloc (.deferred (some []))) (.loop (L .ready none)); rw [World.size_alloc, hs0] at this; exact this
  have hD1 : W1.heap[D]? = some (.deferred (some [])) := by
    rw [hW1, hD]; have := World.alloc_heap_new w0 (.deferred (some [])); rw [hs0] at this; exact (Below.heap_alloc _ _ _ (by simp [hs0])).trans this
  have hy1 : Boxed W1 W.heap.size 39 (.func (.yield l) #[] #[]) := by rw [hW1]; exact (hy0.alloc _).alloc _
  have hb1 : Boxed W1 (W.heap.size + 1) 22 (.slice a zs.length cap) := by rw [hW1]; exact (hb0.alloc _).alloc _
  have hr1 : Reads W1 a pb po zs := hr.of_eq (hA1.block pb hpb (by omega))
  have hx1 : W1.heap[bx]? = W.heap[bx]? := hA1.block bx hbl (by omega)
  have hs_1 : W.heap.size + 4 ≤ W1.heap.size := by omega
  have hs_2 : W1.heap.size ≤ W.heap.size + 4 := by omega
  clear hW1 hA0 hy0 hb0 hk0 hs0 hs1 hD hlr
  -- the inner loop's word between two rounds
  refine (cyc_iter lr (W.heap.size + 1) cap pb po a zs
    (fun pre W2 => ∃ W0, J (moved pre) W0 ∧ Apart W.heap.size (W.heap.size + 5) W0 W2 ∧ W2.heap[lr]? = some (.loop (L .ready none)) ∧ W2.heap[D]? = some (.deferred (some [])) ∧ Boxed W2 W.heap.size 39 (.func (.yield l) #[] #[]) ∧ Boxed W2 (W.heap.size + 1) 22 (.slice a zs.length cap))
    (fun W2 => ∃ W0, Jx W0 ∧ Apart W.heap.size (W.heap.size + 5) W0 W2 ∧ W2.heap[lr]? = some (.loop (L .done (some .ret))) ∧ W2.heap[D]? = some (.deferred (some [])))
    W1 hb1 hr1 (by omega) hperm hl ?round ⟨W, h0, hA1, hL1, hD1, hy1, hb1⟩).mono ?_
  case round =>
    rintro pre c post W0 W2 g cap' hpc ⟨W00, hJ, hAp, hL2, hD2, hy2, hb2⟩ hg2 hown hkd
    have hlt0 : lr < W0.heap.size := (Array.getElem?_eq_some_iff.1 hL2).1
    have hlD : D < W0.heap.size := by omega
    have hL3 : W2.heap[lr]? = some (.loop (L .ready none)) := (hg2.block lr hlt0 (by simp; omega)).trans hL2
    have hD3 : W2.heap[D]? = some (.deferred (some [])) := (hg2.block D hlD (by simp; omega)).trans hD2
    have hy3 : Boxed W2 W.heap.size 39 (.func (.yield l) #[] #[]) := hy2.kept hg2 (by simp; omega)
    have hb3 : Boxed W2 (W.heap.size + 1) 22 (.slice a zs.length cap) := hb2.kept hg2 (by simp; omega)
    have hAp3 : Apart W.heap.size (W.heap.size + 5) W00 W2 := hAp.trans (Apart.of_grown hg2 (by omega) (by omega))
    refine hround _ _ W2 _ hL3 rfl ?_
    have HL3 := hide hL3
    clear hL3
    gi_wp2
    have hL3 := HL3.out
    refine ⟨hL3, ?_⟩
    obtain ⟨Wb, hWb⟩ : ∃ Wb, Wb = W2.putObj lr (.loop (L .busy none)) := ⟨_, rfl⟩
    have hLb : Wb.heap[lr]? = some (.loop (L .busy none)) := by rw [hWb]; exact World.putObj_heap_same (Array.getElem?_eq_some_iff.1 hL3).1
    have hkb : ∀ b, b ≠ lr → Wb.heap[b]? = W2.heap[b]? := fun b hb => by rw [hWb]; exact World.putObj_heap_other hb
    have hyb : Boxed Wb W.heap.size 39 (.func (.yield l) #[] #[]) := (hkb _ (by omega)).trans hy3
    have hownb : Wb.ownsRow W00.heap.size 3 1 (.slice (some ⟨g, 0, none⟩) c.length cap') c.length (pts c) := by rw [hWb]; exact owns_mono (ownsRow_putObj hown _ hL3 rfl) hAp.size
    have hApb : Apart W.heap.size (W.heap.size + 5) W00 Wb := by rw [hWb]; exact hAp3.putObj _ (by omega)
    have hszb : Wb.heap.size = W2.heap.size := by rw [hWb]; simp
    have hsz1 : W2.heap.size ≤ Wb.heap.size := by omega
    have hDb := (hkb D (by omega)).trans hD3
    have hbb : Boxed Wb (W.heap.size + 1) 22 (.slice a zs.length cap) := (hkb _ (by omega)).trans hb3
    have hkds : Kinds [4, 22, 39] Wb W.heap.size (W.heap.size + 5) := fun b h1 h2 => by
      rcases (show b = W.heap.size ∨ b = W.heap.size + 1 ∨ b = D ∨ b = lr ∨ b = W1.heap.size by omega) with rfl | rfl | rfl | rfl | rfl
      · exact ⟨_, hyb, fun c e fz h => by cases h; simp⟩
      · exact ⟨_, hbb, fun c e fz h => by cases h; simp⟩
      · exact ⟨_, hDb, fun c e fz h => by cases h⟩
      · exact ⟨_, hLb, fun c e fz h => by cases h⟩
      · obtain ⟨o, ho, hk⟩ := hkd W1.heap.size (Nat.le_refl _) (by omega)
        exact ⟨o, (hkb _ (by omega)).trans ho, fun c e fz h => by have := hk c e fz h; simp at this; simp [this]⟩
    have hcy := hyb.cell
    rw [← hWb]
    have HKB := hide hkb
    clear hWb hszb hkb hL2 hD2 hy2 hL3 hD3 hy3 hL1 hD1 hy1 hx1 hb2 hb3
    have fin : ∀ (W3 : World) (o : Obj), Wb.heap.size ≤ W3.heap.size → (∀ b, b = pb ∨ (W.heap.size ≤ b ∧ b < W.heap.size + 5) → W3.heap[b]? = Wb.heap[b]?) →
        W3.heap[lr]? = some (.loop (L .busy none)) ∧ (W2.heap.size ≤ (W3.putObj lr o).heap.size ∧ ∀ b, (b = W.heap.size + 1 ∨ b = pb ∨ b = W1.heap.size) → (W3.putObj lr o).heap[b]? = W2.heap[b]?) ∧
        (W3.putObj lr o).heap[lr]? = some o ∧ (W3.putObj lr o).heap[D]? = some (.deferred (some [])) ∧ Boxed (W3.putObj lr o) W.heap.size 39 (.func (.yield l) #[] #[]) ∧ Boxed (W3.putObj lr o) (W.heap.size + 1) 22 (.slice a zs.length cap) := fun W3 o hsz hk => by
      have hl3 := (hk lr (.inr (by omega))).trans hLb
      refine ⟨hl3, ⟨by simp; omega, fun b hb => ?_⟩, World.putObj_heap_same (Array.getElem?_eq_some_iff.1 hl3).1, ?_, ?_, ?_⟩
      · rw [World.putObj_heap_other (by rcases hb with rfl | rfl | rfl <;> omega), hk b (by rcases hb with rfl | rfl | rfl <;> omega)]
        exact HKB.out b (by rcases hb with rfl | rfl | rfl <;> omega)
      · rw [World.putObj_heap_other (by omega), hk D (by omega)]; exact hDb
      · exact (World.putObj_heap_other (by omega)).trans ((hk _ (by omega)).trans hyb)
      · exact (World.putObj_heap_other (by omega)).trans ((hk _ (by omega)).trans hbb)
    have FIN := hide fin
    clear fin
    by_cases hc : 1 < c.length
    · have hci : (1 : Int) < (c.length : Int) := by omega
      have hY1 := hY (moved pre) c (moved post) W00 Wb g cap' (by rw [moved_split _ _ hc, hpc]) hJ hApb hownb hkds
      obtain ⟨fn, tmps, assign, body, hyy, hRR⟩ := yield_depth (m' := 0) hY1
      clear hY1
      gi_wp2
      refine ⟨rfl, (show RoundIn (Fence.wide.inRound lr) 0 Tryd.prog l fn tmps assign body Wb _ from hRR).mono ?_⟩
      rintro e W3 ⟨⟨hz3, hk3⟩, ⟨rfl, hJ3⟩ | ⟨rfl, hJx3⟩⟩
      · gi_wp2
        obtain ⟨q1, q2, q3, q4, q5, q6⟩ := FIN.out W3 (.loop (L .ready none)) hz3 (fun b hb => hk3 b (by omega))
        exact ⟨q1, q2, .inl ⟨rfl, W3, by rw [moved_hit _ hc]; exact hJ3, (Apart.refl _ _ W3).putObj _ (by omega), q3, q4, q5, q6⟩⟩
      · gi_wp2
        obtain ⟨q1, q2, q3, q4, _, _⟩ := FIN.out W3 (.loop (L .done (some .ret))) hz3 (fun b hb => hk3 b (by omega))
        exact ⟨q1, q2, .inr ⟨rfl, W3, hJx3, (Apart.refl _ _ W3).putObj _ (by omega), q3, q4⟩⟩
    · have hci : (c.length : Int) ≤ 1 := by omega
      gi_wp2
      refine ⟨fun _ h => (by cases h), ?_⟩
      gi_wp2
      obtain ⟨q1, q2, q3, q4, q5, q6⟩ := FIN.out Wb (.loop (L .ready none)) (Nat.le_refl _) (fun b hb => rfl)
      exact ⟨q1, q2, .inl ⟨rfl, W00, by rw [moved_miss _ hc]; exact hJ, hApb.putObj _ (by omega), q3, q4, q5, q6⟩⟩
  · rintro e W2 ⟨hv, ⟨W0, ⟨W00, hJ, hAp, hL2, hD2, _, _⟩, hg2⟩ | ⟨W00, hJx, hAp, hL2, hD2⟩⟩
    · have hlt0 : lr < W0.heap.size := (Array.getElem?_eq_some_iff.1 hL2).1
      have hL3 : W2.heap[lr]? = some (.loop (L .ready none)) := (hg2.block lr hlt0 (by simp; omega)).trans hL2
      have hD3 : W2.heap[D]? = some (.deferred (some [])) := (hg2.block D (by omega) (by simp; omega)).trans hD2
      refine ⟨hv, .ready, none, by simp, hL3, ?_⟩
      have hAp3 : Apart W.heap.size (W.heap.size + 5) W00 (W2.putObj lr (.loop (L .exhausted none))) := (hAp.trans (Apart.of_grown hg2 (by omega) (by omega))).putObj _ (by omega)
      have hD4 : (W2.putObj lr (.loop (L .exhausted none))).heap[D]? = some (.deferred (some [])) := (World.putObj_heap_other (by omega)).trans hD3
      obtain ⟨Wb, hWb⟩ : ∃ Wb, Wb = W2.putObj lr (.loop (L .exhausted none)) := ⟨_, rfl⟩
      rw [← hWb] at hAp3 hD4 ⊢
      clear hWb
      unfold after
      gi_wp2
      refine ⟨by simp, .inl ⟨_, _, rfl, run_takeDeferred hD4, ?_⟩⟩
      exact ⟨_, results_none rfl _ _ _, ⟨_, rfl⟩, W00, .inl hJ, hAp3.putObj _ (by omega)⟩
    · refine ⟨hv, .done, some .ret, by simp, hL2, ?_⟩
      have hAp3 : Apart W.heap.size (W.heap.size + 5) W00 (W2.putObj lr (.loop (L .exhausted (some .ret)))) := hAp.putObj _ (by omega)
      have hD4 : (W2.putObj lr (.loop (L .exhausted (some .ret)))).heap[D]? = some (.deferred (some [])) := (World.putObj_heap_other (by omega)).trans hD2
      obtain ⟨Wb, hWb⟩ : ∃ Wb, Wb = W2.putObj lr (.loop (L .exhausted (some .ret))) := ⟨_, rfl⟩
      rw [← hWb] at hAp3 hD4 ⊢
      clear hWb
      unfold after
      gi_wp2
      refine ⟨by simp, .inl ⟨_, _, rfl, run_takeDeferred hD4, ?_⟩⟩
      exact ⟨_, results_none rfl _ _ _, ⟨_, rfl⟩, W00, .inr hJx, hAp3.putObj _ (by omega)⟩
end Go.Proofs.YtjchmhngfnlbhaaDoor
