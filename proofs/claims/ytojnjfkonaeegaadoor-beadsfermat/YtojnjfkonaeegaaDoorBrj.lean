/- What beads.Bruijn answers where nothing is wrong: the words one behind the other whose lengths divide n. -/
import Derived.Test.YtojnjfkonaeegaaDoorLwi
import Derived.Test.YtojnjfkonaeegaaDoorChn
import Derived.Test.YtojnjfkonaeegaaDoorFac
namespace Go.Proofs.YtojnjfkonaeegaaDoor
open Go Go.RowKit

attribute [local go_sem] Oper.semAt_some

theorem lyndonWords_ok (n k : Nat) (w : World) :
    Calls Tryd.prog 45 #[.int .i64 n, .int .i64 k] w fun e w' => e = .returned (.func (.func 71) #[] #[.pointer (some ⟨w.heap.size, 0, none⟩), .pointer (some ⟨w.heap.size + 1, 0, none⟩)]) ∧ w' = (w.alloc (.cells #[.int .i64 n] 3)).alloc (.cells #[.int .i64 k] 3) := by
  go_enter Tryd.func45, Tryd.ntmps45
  go_wp2
  go_ret
  exact ⟨rfl, rfl⟩

/-- Those whose lengths divide n, one behind the other. -/
def brj (n : Nat) : List (List Int) → List Int
  | [] => []
  | w :: r => (if n % w.length = 0 then w else []) ++ brj n r
theorem brj_snoc (n : Nat) (l : List (List Int)) (w : List Int) : brj n (l ++ [w]) = brj n l ++ (if n % w.length = 0 then w else []) := by
  induction l with
  | nil => simp [brj]
  | cons a r ih => simp only [List.cons_append, brj, ih, List.append_assoc]
theorem lws_len {n : Nat} {k : Int} : ∀ (f : Nat) (w : List Int), 0 < w.length → w.length ≤ n → ∀ x ∈ lws n k f w, x.length ≤ n
  | 0, _, _, _, x, hx => by simp [lws] at hx
  | f + 1, w, h0, hn, x, hx => by
    simp only [lws] at hx
    rcases List.mem_cons.1 hx with rfl | hx
    · exact hn
    · split at hx
      · simp at hx
      · rename_i h
        exact lws_len f _ (by cases hz : nxt n k w with
          | nil => exact absurd hz h
          | cons a r => simp) (nxt_len hn) x hx

set_option maxRecDepth 100000 in
set_option maxHeartbeats 4000000 in
theorem bruijn_good (n k f : Nat) (w : World) (h1 : 1 ≤ n) (h2 : n ≤ 20) (h3 : 1 ≤ k) (h4 : k ≤ 1000) (h5 : k ^ n ≤ 20000) (hend : ends n k f [0] = true) (hsm : ∀ pre q post, pre ++ q :: post = lws n k f [0] → (brj n pre).length ≤ 1000000) :
    Calls Tryd.prog 28 #[.int .i64 n, .int .i64 k] w fun e w' => ∃ v, e = .returned (.tuple #[v, .agg #[.int .i64 0, .int .i64 0]]) ∧ Row w' w.heap.size v (brj n (lws n k f [0])) ∧ Below w.heap.size w w' := by
  have hB0 : Below w.heap.size w ((w.alloc (.cells #[.int .i64 n] 3)).alloc (.cells #[.int .i64 0, .int .i64 0] 25)) := ((Below.refl _ w).alloc (Nat.le_refl _) _).alloc (by simp) _
  have HC := hide (listed_good n k ((w.alloc (.cells #[.int .i64 n] 3)).alloc (.cells #[.int .i64 0, .int .i64 0] 25)) h1 h2 h3 h4 h5)
  have hX0 : Boxed ((w.alloc (.cells #[.int .i64 n] 3)).alloc (.cells #[.int .i64 0, .int .i64 0] 25)) w.heap.size 3 (.int .i64 n) := (Boxed.new _ _ _).alloc _
  have hR0 : Blk ((w.alloc (.cells #[.int .i64 n] 3)).alloc (.cells #[.int .i64 0, .int .i64 0] 25)) (w.heap.size + 1) 25 [.int .i64 0, .int .i64 0] := by
    have := new26 (w.alloc (.cells #[.int .i64 n] 3)); rwa [World.size_alloc] at this
  have HEND := hide hend
  have HSM := hide hsm
  clear h5 hend hsm
  obtain ⟨i3, hi3, hy0, hy1, hy2⟩ := info_parts info3b
  refine (callsIn_wide (n := 9)).1 ?_
  refine callsIn_of_wp_marks Tryd.func28 rfl trivial ?_ rfl
  simp only [Tryd.ntmps28, List.size_toArray, List.length_cons, List.length_nil, Nat.reduceAdd, Nat.reduceSub, Array.replicate_succ, Array.replicate_zero, List.push_toArray, List.append_toArray, List.nil_append, List.cons_append]
  gi_wp2_with fail
  refine ⟨trivial, ?_⟩
  refine (callsIn_wide.2 HC.out).mono ?_
  rintro e w1 ⟨rfl, hb1⟩
  have hB1 := bcat hB0 hb1 (by simp; omega)
  have hX1 := Boxed.below hX0 hb1
  have hR1 := hR0.of_eq (hb1.block _ hR0.lt)
  have hs1 : w.heap.size + 1 < w1.heap.size := hR1.lt
  have hcx1 := hX1.cell
  have hs0 : w.heap.size < w1.heap.size := by omega
  clear hb1 HC hB0 hX0 hR0
  gi_wp2_with fail
  refine ⟨trivial, ?_⟩
  refine (callsIn_wide.2 (lyndonWords_ok n k _)).mono ?_
  rintro e w4 ⟨rfl, hw4⟩
  simp only [World.size_alloc] at hw4 ⊢
  have hL4 : Boxed w4 (w1.heap.size + 1) 22 (.slice none 0 0) := by
    rw [hw4]
    have := Boxed.new (w1.alloc (.cells #[.int .i64 0, .int .i64 0] 25)) 22 (.slice none 0 0)
    rw [World.size_alloc] at this; exact (this.alloc _).alloc _
  have hN4 : Boxed w4 (w1.heap.size + 2) 3 (.int .i64 n) := by
    rw [hw4]
    have := Boxed.new ((w1.alloc (.cells #[.int .i64 0, .int .i64 0] 25)).alloc (.cells #[.slice none 0 0] 22)) 3 (.int .i64 n)
    rw [World.size_alloc, World.size_alloc] at this; exact this.alloc _
  have hK4 : Boxed w4 (w1.heap.size + 3) 3 (.int .i64 k) := by
    rw [hw4]
    have := Boxed.new (((w1.alloc (.cells #[.int .i64 0, .int .i64 0] 25)).alloc (.cells #[.slice none 0 0] 22)).alloc (.cells #[.int .i64 n] 3)) 3 (.int .i64 k)
    rw [World.size_alloc, World.size_alloc, World.size_alloc] at this; exact this
  have hX4 : Boxed w4 w.heap.size 3 (.int .i64 n) := by rw [hw4]; exact (((hX1.alloc _).alloc _).alloc _).alloc _
  have hR4 : Blk w4 (w.heap.size + 1) 25 [.int .i64 0, .int .i64 0] := by rw [hw4]; exact (((hR1.alloc _).alloc _).alloc _).alloc _
  have hB4 : Below w.heap.size w w4 := by rw [hw4]; exact (((hB1.alloc hB1.size _).alloc (by simp; omega) _).alloc (by simp; omega) _).alloc (by simp; omega) _
  have hs4 : w4.heap.size = w1.heap.size + 4 := by rw [hw4]; simp
  have HS4 := hide hs4
  clear hw4 hs4 hB1 hX1 hR1 hcx1
  gi_wp2_with fail
  refine range_it (words_it (w1.heap.size + 2) (w1.heap.size + 3) n k f (by omega) (by omega) h3 h4 HEND.out)
    (fun pre W => (∃ v, Boxed W (w1.heap.size + 1) 22 v ∧ Row W (w4.heap.size + 3) v (brj n pre)) ∧ Blk W (w.heap.size + 1) 25 [.int .i64 0, .int .i64 0] ∧ Below w.heap.size w W ∧ Boxed W (w1.heap.size + 2) 3 (.int .i64 n) ∧ Boxed W (w1.heap.size + 3) 3 (.int .i64 k) ∧ Boxed W w.heap.size 3 (.int .i64 n) ∧ w4.heap.size ≤ W.heap.size)
    (fun s W b h => by omega) (fun s b h => by omega) rfl (enters_of Tryd.func71 (by kernel_rfl) rfl) (by decide) (by rintro _ q _ _ ⟨rfl, _⟩; rfl) ?hF ?hJ ?h0 ?body ?fin
  case hF =>
    rintro pre W ⟨_, _, _, h4, h5, _⟩
    exact ⟨h4, h5⟩
  case hJ =>
    rintro pre W W' ⟨⟨v, q1, q2⟩, q3, q4, q5, q6, q7, q8⟩ hsz hbt _
    have hs := HS4.out
    have e : ∀ b, b < w4.heap.size → W'.heap[b]? = W.heap[b]? := fun b hb => hbt.block b (by omega) (by rintro (h | h) <;> omega)
    refine ⟨⟨v, (e _ (by omega)).trans q1, ?_⟩, q3.of_eq (e _ (by omega)), hbt.below q4 (by rintro b (h | h) <;> omega) (by omega), (e _ (by omega)).trans q5, (e _ (by omega)).trans q6, (e _ (by omega)).trans q7, by have := hbt.size; omega⟩
    refine ⟨q2.1, ?_⟩
    rcases q2.2 with h2 | ⟨g, cap, cur, hv, hge, hh, rest⟩
    · exact .inl h2
    · exact .inr ⟨g, cap, cur, hv, hge, (hbt.block g (Array.getElem?_eq_some_iff.1 hh).1 (by rintro (h | h) <;> omega)).trans hh, rest⟩
  case h0 =>
    intro W' hb
    have := HS4.out
    exact ⟨⟨_, Boxed.below hL4 hb, nil_row _ _⟩, hR4.of_eq (hb.block _ hR4.lt), bcat hB4 hb hB4.size, Boxed.below hN4 hb, Boxed.below hK4 hb, Boxed.below hX4 hb, hb.size⟩
  case body =>
    rintro pre q post W _ hpq hJJ ⟨rfl, hoq, hq0⟩ hsz
    have hgq := own_lt hoq
    gi_wp2
    refine ⟨Below.refl _ _, ?_⟩
    rintro Wb ⟨⟨v, q1, q2⟩, q3, q4, q5, q6, q7, q8⟩ hszb hbt _
    have hs := HS4.out
    have hql : q.length ≤ n := lws_len f [0] (by simp) (by simp; omega) q (by rw [← hpq]; simp)
    have hpl := HSM.out _ _ _ hpq
    have hoqb := own_at hoq (hbt.block _ hgq (by simp))
    have hszb2 : w4.heap.size + 3 ≤ Wb.heap.size := by have := hbt.size; omega
    have hbs := brj_snoc n pre q
    clear hJJ hpq hoq
    have hcx := q7.cell
    have hcl := q1.cell
    have hfl := q1.frozen
    have hrm := Int.tmod_eq_emod_of_nonneg (a := (n : Int)) (b := (q.length : Int)) (by omega)
    rw [← Int.natCast_emod] at hrm
    have hnz : ¬ (q.length : Int) = 0 := by omega
    have hnz2 : ¬ q.length = 0 := by omega
    obtain ⟨r, hre⟩ : ∃ r, n % q.length = r := ⟨_, rfl⟩
    rw [hre] at hrm hbs
    have hrl : r ≤ n := by rw [← hre]; exact Nat.mod_le _ _
    clear hre
    by_cases hr0 : r = 0
    · subst hr0
      rw [if_pos rfl] at hbs
      rw [hbs]
      clear hbs hs
      gi_wp2_with (first
        | (gi_at_builtin; refine wpListIn_append_own _ rfl _ _ 22 rfl (w4.heap.size + 3) 3 i3 (.int .i64 0) 1 8 under22b hi3 hy0 hy1 hy2 rfl (by decide) _ _ _ rfl q2 ⟨w4.heap.size + 2, 0, none⟩ q.length n (q.map (Value.int .i64)) rfl (by simp) ?c1 ?c2 ?c3 ?c4 ?c5 ?_))
      case c1 =>
        intro j u hj
        exact hoqb.cells (g := w4.heap.size + 2) rfl j u hj
      case c2 => intro u hu; obtain ⟨z, _, rfl⟩ := List.mem_map.1 hu; rfl
      case c3 => unfold maxLen; omega
      case c4 => omega
      case c5 => exact hszb2
      intro v' w2 hown' hgrow _
      have hs := HS4.out
      have hrow2 : Row w2 (w4.heap.size + 3) v' (brj n pre ++ q) := by
        unfold Row
        rw [List.length_append, List.map_append]; exact hown'
      obtain ⟨av, cv, rfl⟩ := hrow2.slice
      have hge := owns_ge q2
      have hk : ∀ b, b < Wb.heap.size → b < w4.heap.size + 3 → w2.heap[b]? = Wb.heap[b]? := fun b hb hb2 =>
        hgrow.block b hb (fun e => by have := hge _ e.symm; omega)
      have hb2 : Boxed w2 (w1.heap.size + 1) 22 v := (hk _ (by omega) (by omega)).trans q1
      have hc2 := hb2.cell
      have hf2 := hb2.frozen
      have hsz2 := hgrow.size
      have hB5 : Below w.heap.size w w2 := q4.trans ⟨hgrow.os, hgrow.tape, hgrow.output, hsz2, fun k hk2 => hk k (by have := q4.size; omega) (by omega)⟩
      have e : ∀ b u, b < w4.heap.size + 3 → b ≠ w1.heap.size + 1 → (w2.setCell ⟨w1.heap.size + 1, 0, none⟩ u).heap[b]? = Wb.heap[b]? := fun b u hb hb2 => (Below.heap_setCell _ _ _ b hb2).trans (hk b (by omega) hb)
      have hb3 := hb2.set (.slice av (brj n pre ++ q).length cv)
      have hrow3 := hrow2.set (p := ⟨w1.heap.size + 1, 0, none⟩) (by simp; omega) (.slice av (brj n pre ++ q).length cv)
      have hB6 := hB5.setCell (p := ⟨w1.heap.size + 1, 0, none⟩) (by simp; omega) (.slice av (brj n pre ++ q).length cv)
      obtain ⟨bp, hbp⟩ : ∃ bp, brj n pre ++ q = bp := ⟨_, rfl⟩
      rw [hbp] at hb3 hrow3 hB6 ⊢
      have hbpl : (brj n pre).length + q.length = bp.length := by rw [← hbp, List.length_append]
      have hszw : w4.heap.size + 3 ≤ w2.heap.size := by omega
      have HBP := hide hbp
      clear hs hge hown' hrow2 hgrow hb2 q2 hk hbp hB5
      gi_wp2
      have hs := HS4.out
      rw [HBP.out]
      exact ⟨⟨by rw [size_set]; omega, e _ _ (by omega) (by omega), e _ _ (by omega) (by omega), fun b hb _ => e b _ (by omega) (by omega)⟩, ⟨_, hb3, hrow3⟩, q3.of_eq (e _ _ (by omega) (by omega)), (e _ _ (by omega) (by omega)).trans q5, (e _ _ (by omega) (by omega)).trans q6, (e _ _ (by omega) (by omega)).trans q7, by omega⟩
    · have hrb : ((r : Int) == 0) = false := by simp; omega
      rw [if_neg hr0, List.append_nil] at hbs
      rw [hbs]
      clear hbs
      gi_wp2
      rw [hs] at q2
      exact ⟨⟨Nat.le_refl _, rfl, rfl, fun _ _ _ => rfl⟩, ⟨v, q1, q2⟩, by omega⟩
  case fin =>
    rintro W ⟨⟨v, q1, q2⟩, q3, q4, q5, q6, q7, q8⟩ hD hsz
    have hs := HS4.out
    have hcN := q1.cell
    obtain ⟨_, c0, c1, f0, f1, s0, s1⟩ := Two.mk' q3
    gi_wp2
    refine ⟨by simp, .inl ⟨_, _, rfl, run_takeDeferred hD, ?_⟩⟩
    have hR7 : Blk (W.putObj w4.heap.size (.deferred none)) (w.heap.size + 1) 25 [.int .i64 0, .int .i64 0] := q3.of_eq (World.putObj_heap_other (by omega))
    have h70 := hR7.cell 0
    have h71 := hR7.cell 1
    exact ⟨.tuple #[v, .agg #[.int .i64 0, .int .i64 0]], by simp [results, Tryd.results28, go_sem, h70, h71], v, rfl, (q2.but (But.put _ _ _) (by omega)).mono (by omega), q4.trans ⟨rfl, rfl, rfl, by simp, fun k hk => World.putObj_heap_other (by omega)⟩⟩

end Go.Proofs.YtojnjfkonaeegaaDoor
