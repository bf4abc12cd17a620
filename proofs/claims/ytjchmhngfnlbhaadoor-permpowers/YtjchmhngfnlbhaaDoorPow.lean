/- What perm.Pow answers at permutations of at most 1000 points and every int. -/
import Derived.Test.YtjchmhngfnlbhaaDoorMoved
import Derived.Test.YtjchmhngfnlbhaaDoorPows
import Derived.Test.YtjchmhngfnlbhaaDoorCycles
import Derived.Test.YtjchmhngfnlbhaaDoorStay
import Derived.BigRegionIn
import Derived.Test.YtjchmhngfnlbhaaDoorOwn
import Derived.Test.YtjchmhngfnlbhaaDoorRound
namespace Go.Proofs.YtjchmhngfnlbhaaDoor
open Go Go.RowKit Go.Shelf

attribute [local go_sem] Oper.semAt_some

theorem gb_drew {A B : World} {r : Option Nat} (h : A.grownBy B r) : A.grownBy B.drew r := ⟨h.os, h.tape, h.output, h.size, h.block⟩
/-- What the walk of a round reckons: the step along a cycle. -/
theorem step_of (n : Int) {len : Nat} (h : 0 < len) : ∃ s : Nat, s < len ∧ (s : Int) = n % (len : Int) ∧ ((n.tmod len < 0 ∧ n.tmod len + len = s) ∨ (¬ n.tmod len < 0 ∧ n.tmod len = s)) := by
  have h1 := Int.emod_nonneg n (show (len : Int) ≠ 0 by omega)
  have h2 := Int.emod_lt_of_pos n (show (0 : Int) < len by omega)
  refine ⟨(n % (len : Int)).toNat, by omega, by omega, ?_⟩
  rcases Int.lt_or_le n 0 with hn | hn
  · have h3 := Int.tmod_eq_emod (a := n) (b := (len : Int))
    rw [h3]
    split
    · right; omega
    · left
      rw [Int.natAbs_natCast]; omega
  · right
    rw [Int.tmod_eq_emod_of_nonneg hn]
    omega

set_option maxRecDepth 100000 in
set_option maxHeartbeats 8000000 in
theorem pow_ok (u : Value) (zs : List Int) (n : Int) (w : World) (hu : Sl w u zs) (hperm : IsPerm zs) (hl : zs.length ≤ 1000) :
    Calls Tryd.prog 34 #[u, .int .i64 n] w fun e w' => ∃ r, e = .returned (.tuple #[r, .agg #[.int .i64 0, .int .i64 0]]) ∧ Sl w' r (powZ zs n) ∧ Below w.heap.size w w' := by
  obtain ⟨i0, hi, hz0, hz1, hz2⟩ := info_parts info3b
  have hB0 : Below w.heap.size w ((w.alloc (.cells #[.int .i64 n] 3)).alloc (.cells #[.int .i64 0, .int .i64 0] 26)) := (balloc w _).alloc (by simp) _
  have hu0 := hu.below hB0
  have hN0 : Boxed ((w.alloc (.cells #[.int .i64 n] 3)).alloc (.cells #[.int .i64 0, .int .i64 0] 26)) w.heap.size 3 (.int .i64 n) := (Boxed.new w 3 _).alloc _
  have T0 : Two ((w.alloc (.cells #[.int .i64 n] 3)).alloc (.cells #[.int .i64 0, .int .i64 0] 26)) (w.heap.size + 1) := by
    have := Two.new (w.alloc (.cells #[.int .i64 n] 3)); rwa [World.size_alloc] at this
  have htw := fault_of_perm hperm hl
  have hck := check_sl _ zs _ hu0
  rw [htw] at hck
  have HCK := hide hck
  obtain ⟨a, cap, pb, po, rfl, hr, hp, hq3, hq4⟩ := id hu
  have HP := hide hperm
  clear hperm htw hck hu0
  refine (callsIn_wide (n := 9)).1 ?_
  refine callsIn_of_wp_marks Tryd.func34 rfl trivial ?_ rfl
  simp only [Tryd.ntmps34, List.size_toArray, List.length_cons, List.length_nil, Nat.reduceAdd, Nat.reduceSub, Array.replicate_succ, Array.replicate_zero, List.push_toArray, List.append_toArray, List.nil_append, List.cons_append]
  gi_wp2_with fail
  refine ⟨trivial, ?_⟩
  refine (callsIn_wide.2 HCK.out).mono ?_
  rintro e w1 ⟨rfl, hb1⟩
  have hB1 := bcat hB0 hb1 (by simp; omega)
  have T1 := T0.below hb1
  have hN1 : Boxed w1 w.heap.size 3 (.int .i64 n) := (hb1.block _ hN0.lt).trans hN0
  have hs1 : w.heap.size + 1 < w1.heap.size := T1.blk.lt
  clear hb1 HCK hB0 T0 hN0
  gi_wp2_with (first
    | (gi_at_make; refine wpListIn_make_full _ rfl _ _ 22 rfl (w1.heap.size + 1) 3 i0 (.int .i64 0) 1 under22b hi hz0 hz1 _ _ _ _ zs.length rfl rfl rfl rfl (by rw [hz2]; omega) (by unfold maxLen; omega) (by simp) ?_))
  intro w2 hown hg
  have hPL := powZ_len zs n
  have hP2 : Blk w2 (w1.heap.size + 1) 3 ((fillS (powZ zs n) []).map (Value.int .i64)) := by
    have := Blk.of_owns hown
    rw [made_rep] at this
    rw [fillS_nil, List.map_replicate, hPL]; exact this
  have hB2 : Below w.heap.size w w2 := (hB1.alloc hB1.size _).grown hg (by simp; omega) (by simp)
  have T2 : Two w2 (w.heap.size + 1) := Two.mk' ((T1.alloc (.cells #[.int .i64 0, .int .i64 0] 26)).blk.grown hg (by simp))
  have hN2 : Boxed w2 w.heap.size 3 (.int .i64 n) := (hN1.alloc _).kept hg (by simp)
  have hs2 : w1.heap.size + 1 < w2.heap.size := hP2.lt
  have HPL := hide hPL
  have HT2 := hide T2
  clear hown hg hB1 T1 hN1 hPL T2
  gi_wp2_with fail
  refine ⟨trivial, ?_⟩
  refine (cyclesOf_in _ _ _ _ _ _ rfl).mono ?_
  rintro e w3 ⟨rfl, rfl⟩
  gi_wp2_with fail
  obtain ⟨w3, hw3⟩ : ∃ w3, w3 = (w2.alloc (.cells #[.slice (some ⟨w1.heap.size + 1, 0, none⟩) zs.length zs.length] 22)).alloc (.cells #[.slice a zs.length cap] 22) := ⟨_, rfl⟩
  have hs3 : w3.heap.size = w2.heap.size + 2 := by rw [hw3]; simp
  have hB3 : Below w.heap.size w w3 := by rw [hw3]; exact (hB2.alloc hB2.size _).alloc (by simp; omega) _
  have hP3 : Blk w3 (w1.heap.size + 1) 3 ((fillS (powZ zs n) []).map (Value.int .i64)) := by rw [hw3]; exact (hP2.alloc _).alloc _
  have hR3 : Blk w3 (w.heap.size + 1) 26 [.int .i64 0, .int .i64 0] := by rw [hw3]; exact ((HT2.out.alloc _).alloc _).blk
  have hN3 : Boxed w3 w.heap.size 3 (.int .i64 n) := by rw [hw3]; exact (hN2.alloc _).alloc _
  have hQ3 : Boxed w3 w2.heap.size 22 (.slice (some ⟨w1.heap.size + 1, 0, none⟩) zs.length zs.length) := by rw [hw3]; exact (Boxed.new w2 22 _).alloc _
  have hX3 : Boxed w3 (w2.heap.size + 1) 22 (.slice a zs.length cap) := by
    rw [hw3]
    have := Boxed.new (w2.alloc (.cells #[.slice (some ⟨w1.heap.size + 1, 0, none⟩) zs.length zs.length] 22)) 22 (.slice a zs.length cap)
    rw [World.size_alloc] at this; exact this
  rw [← hw3]
  clear hw3 hP2 hN2 HT2 hB2
  refine range_out (gf := 70) (lb := #[.pointer (some ⟨w2.heap.size + 1, 0, none⟩)]) (hg := ?hg) (eg := enters_of Tryd.func70 (by kernel_rfl) rfl) (h1 := ?hn) (h := ?_)
  case hg => rfl
  case hn => decide
  intro lr D L W1 hD hlr hround hW1
  have hsW : W1.heap.size = w2.heap.size + 4 := by rw [hW1]; simp [hs3]
  have hL1 : W1.heap[lr]? = some (.loop (L .ready none)) := by
    rw [hW1, hlr]; have := World.alloc_heap_new (w3.alloc (.deferred (some []))) (.loop (L .ready none)); rw [World.size_alloc] at this; exact this
  have hD1 : W1.heap[D]? = some (.deferred (some [])) := by
    rw [hW1, hD]; exact (Below.heap_alloc _ _ _ (by simp)).trans (World.alloc_heap_new w3 (.deferred (some [])))
  have hg1 : w3.grownBy W1 none := by rw [hW1]; exact (World.grownBy_alloc w3 _ none).trans (World.grownBy_alloc _ _ none)
  have hB4 : Below w.heap.size w W1 := hB3.grown hg1 (by omega) (by simp)
  have hP4 := hP3.grown hg1 (by simp)
  have hR4 := hR3.grown hg1 (by simp)
  have hN4 := hN3.kept hg1 (by simp)
  have hQ4 := hQ3.kept hg1 (by simp)
  have hX4 := hX3.kept hg1 (by simp)
  have hD_1 : w2.heap.size + 2 ≤ D := by omega
  have hD_2 : D ≤ w2.heap.size + 2 := by omega
  have hl_1 : w2.heap.size + 3 ≤ lr := by omega
  have hl_2 : lr ≤ w2.heap.size + 3 := by omega
  have hs_1 : w2.heap.size + 4 ≤ W1.heap.size := by omega
  have hs_2 : W1.heap.size ≤ w2.heap.size + 4 := by omega
  have hr4 : Reads W1 a pb po zs := hr.below hB4 hp
  clear hW1 hg1 hB3 hP3 hR3 hN3 hQ3 hX3 hs3 hsW hD hlr
  refine (cyc_iter lr (w2.heap.size + 1) cap pb po a zs
    (fun pre W => Blk W (w1.heap.size + 1) 3 ((fillS (powZ zs n) pre.flatten).map (Value.int .i64)) ∧ Blk W (w.heap.size + 1) 26 [.int .i64 0, .int .i64 0] ∧ Boxed W w.heap.size 3 (.int .i64 n) ∧
      Boxed W w2.heap.size 22 (.slice (some ⟨w1.heap.size + 1, 0, none⟩) zs.length zs.length) ∧ Below w.heap.size w W ∧ W.heap[lr]? = some (.loop (L .ready none)) ∧ W.heap[D]? = some (.deferred (some [])))
    (fun _ => False) W1 hX4 hr4 (by omega) HP.out hl ?round ⟨hP4, hR4, hN4, hQ4, hB4, hL1, hD1⟩).mono ?_
  case round =>
    rintro pre c post W0 W2 g cap' hpc ⟨hP0, hR0, hN0, hQ0, hB0, hL0, hD0⟩ hg2 hown hkd
    have hcm : c ∈ cyc zs := by rw [← hpc]; simp
    have hcy := (cyc_spec HP.out).1 c hcm
    have hcl := (cyc_pts HP.out hcm).1
    have hc0 : 0 < c.length := List.length_pos_iff.2 hcy.ne
    have hL2 : W2.heap[lr]? = some (.loop (L .ready none)) := (hg2.block lr (Array.getElem?_eq_some_iff.1 hL0).1 (by simp; omega)).trans hL0
    have hD2 : W2.heap[D]? = some (.deferred (some [])) := (hg2.block D (Array.getElem?_eq_some_iff.1 hD0).1 (by simp; omega)).trans hD0
    have hP2 := hP0.grown hg2 (by simp; omega)
    have hR2 := hR0.grown hg2 (by simp; omega)
    have hN2 := hN0.kept hg2 (by simp; omega)
    have hQ2 := hQ0.kept hg2 (by simp; omega)
    have hB2 : Below w.heap.size w W2 := hB0.grown hg2 hB0.size (fun j e => by cases e; omega)
    have hgg := owns_ge hown g rfl
    have hlr0 := (Array.getElem?_eq_some_iff.1 hL0).1
    refine hround _ _ W2 _ hL2 rfl ?_
    have HL2 := hide hL2
    clear hL2
    gi_wp2
    have hL2 := HL2.out
    refine ⟨hL2, ?_⟩
    obtain ⟨Wb, hWb⟩ : ∃ Wb, Wb = W2.putObj lr (.loop (L .busy none)) := ⟨_, rfl⟩
    have hLb : Wb.heap[lr]? = some (.loop (L .busy none)) := by rw [hWb]; exact World.putObj_heap_same (Array.getElem?_eq_some_iff.1 hL2).1
    have hkb : ∀ b, b ≠ lr → Wb.heap[b]? = W2.heap[b]? := fun b hb => by rw [hWb]; exact World.putObj_heap_other hb
    have hcb : Wb.ownsRow W0.heap.size 3 1 (.slice (some ⟨g, 0, none⟩) c.length cap') c.length (pts c) := by rw [hWb]; exact ownsRow_putObj hown _ hL2 rfl
    have hszb : Wb.heap.size = W2.heap.size := by rw [hWb]; simp
    have hPb := hP2.of_eq (hkb _ (by omega))
    have hRb := hR2.of_eq (hkb _ (by omega))
    have hNb : Boxed Wb w.heap.size 3 (.int .i64 n) := (hkb _ (by omega)).trans hN2
    have hQb : Boxed Wb w2.heap.size 22 (.slice (some ⟨w1.heap.size + 1, 0, none⟩) zs.length zs.length) := (hkb _ (by omega)).trans hQ2
    have hDb := (hkb D (by omega)).trans hD2
    have hBb : Below w.heap.size w Wb := hB2.trans ⟨by rw [hWb]; rfl, by rw [hWb]; rfl, by rw [hWb]; rfl, by omega, fun k hk => hkb k (by omega)⟩
    have hsz2 : W0.heap.size ≤ Wb.heap.size := by have := hg2.size; omega
    have hcg : ∀ k, k < c.length → Wb.cell? ⟨g, k, none⟩ = some (.int .i64 (c[k]?.getD 0 : Nat)) := fun k hk => by
      have := hcb.cells (g := g) rfl k (.int .i64 (c[k]?.getD 0 : Nat)) (by simp [pts, List.getElem?_eq_getElem hk])
      rwa [show (⟨g, 0, none⟩ : Addr).add k = ⟨g, k, none⟩ by unfold Addr.add; split <;> simp_all] at this
    have hglt : g < Wb.heap.size := by
      rcases hcb.2 with ⟨h, _⟩ | ⟨g9, cap9, cur, hv, _, hh, _⟩
      · cases h
      · cases hv; exact (Array.getElem?_eq_some_iff.1 hh).1
    rw [← hWb]
    have HKB := hide hkb
    have HSZ := hide hszb
    have HCG := hide hcg
    have HCY := hide hcy
    have HPC := hide hpc
    have hcN := hNb.cell
    clear hWb hkb hszb hcg hcy hpc hcm hcb hown hP2 hR2 hN2 hQ2 hD2 hP0 hR0 hN0 hQ0 hL0 hD0
    obtain ⟨s, hsl, hse, hst⟩ := step_of n hc0
    have HSE := hide hse
    have hcn : ¬ ((c.length : Int) = 0) := by omega
    have hci : 0 < (c.length : Int) := by omega
    clear hse
    obtain ⟨t, ht⟩ : ∃ t, n.tmod (c.length : Int) = t := ⟨_, rfl⟩
    rw [ht] at hst
    rcases hst with ⟨ht1, ht2⟩ | ⟨ht1, ht2⟩
    · have hts : (t + (c.length : Int)) = (s : Int) := ht2
      have htr : -9223372036854775808 ≤ t := by omega
      clear ht2
      gi_wp2
      clear ht hts htr ht1
      gi_loopw [36] (fun iv wr => ∃ i : Nat, i ≤ c.length ∧ iv = .int .i64 i ∧ Blk wr (w1.heap.size + 1) 3 ((fillS (powZ zs n) (pre.flatten ++ c.take i)).map (Value.int .i64)) ∧ Wb.grownBy wr (some (w1.heap.size + 1)))
        (fun i _ => c.length - (intOf i).toNat)
      case atStart => exact ⟨0, Nat.zero_le _, rfl, by rw [List.take_zero, List.append_nil]; exact hPb, gb_refl _ _⟩
      case round =>
        obtain ⟨i, hi9, rfl, hPk, hgk⟩ := hrel
        have hQk := hQb.kept hgk (by simp; omega)
        have hcQ := hQk.cell
        have hgeq : wr.heap[g]? = Wb.heap[g]? := hgk.block g hglt (by simp; omega)
        by_cases hlt : i < c.length
        · obtain ⟨m, hm⟩ : ∃ m, m = (i + s) % c.length := ⟨_, rfl⟩
          have hml : m < c.length := by rw [hm]; exact Nat.mod_lt _ hc0
          have hcell : ∀ k, k < c.length → wr.cell? ⟨g, k, none⟩ = some (.int .i64 (c[k]?.getD 0 : Nat)) := fun k hk => by
            rw [← HCG.out k hk]; simp [World.cell?, hgeq]
          have hx := hcell i hlt
          have hy := hcell m hml
          have hxl := HCY.out.lt _ (getD_mem (d := 0) hlt)
          have hval := powZ_cyc HP.out HCY.out n s HSE.out hlt
          rw [← hm] at hval
          have hrem : ((i : Int) + (s : Int)).tmod (c.length : Int) = (m : Int) := by
            rw [hm, Int.tmod_eq_emod_of_nonneg (by omega), Int.natCast_emod]; rfl
          have hset := fillS_set (powZ zs n) (pre.flatten ++ c.take i) (c[i]?.getD 0)
          rw [hval, List.append_assoc, show c.take i ++ [c[i]?.getD 0] = c.take (i + 1) by rw [List.take_succ_eq_append_getElem hlt, List.getElem?_eq_getElem hlt]; rfl] at hset
          generalize c[i]?.getD 0 = x at hx hxl hset hval
          generalize c[m]?.getD 0 = y at hy hset hval
          have hfl := fillS_len (powZ zs n) (pre.flatten ++ c.take i)
          rw [HPL.out] at hfl
          have hck := hPk.int (y := x) (by rw [hfl]; omega)
          have hfk := hPk.frozen x
          have hPn := hPk.setInt x (y : Int)
          rw [hset] at hPn
          have hgn : Wb.grownBy (wr.setCell ⟨w1.heap.size + 1, x, none⟩ (.int .i64 (y : Int))) (some (w1.heap.size + 1)) := gb_trans hgk (gb_set wr (w1.heap.size + 1) x _) (fun j e => by cases e; exact .inl rfl)
          generalize (fillS (powZ zs n) (pre.flatten ++ c.take i))[x]?.getD 0 = old at hck
          have hxi : (x : Int) < (zs.length : Int) := by omega
          have hmi : (m : Int) < (c.length : Int) := by omega
          have HM := hide hm
          have hcne : ¬ c = [] := HCY.out.ne
          have hcnn : ¬ c.length = 0 := by omega
          clear hm hcell hval hset hfl hgeq hPk hgk
          gi_wp2
          have hwr : IntKind.i64.wrap ((i : Int) + (s : Int)) = (i : Int) + (s : Int) := by rw [IntKind.wrap_i64]; omega
          have hcQd : wr.drew.cell? ⟨w2.heap.size, 0, none⟩ = some (.slice (some ⟨w1.heap.size + 1, 0, none⟩) zs.length zs.length) := hcQ
          have hyd : wr.drew.cell? ⟨g, m, none⟩ = some (.int .i64 y) := hy
          have hckd : wr.drew.cell? ⟨w1.heap.size + 1, x, none⟩ = some (.int .i64 old) := hck
          have hfkd : wr.drew.frozen? ⟨w1.heap.size + 1, x, none⟩ = false := hfk
          refine region_in_round (by kernel_rfl) (by kernel_rfl) ?_
          refine wpAnyIn_take (i := 1) (v := .int .i64 x) rfl rfl (by kernel_rfl) (by kernel_rfl) (by kernel_rfl) (fun _ _ _ h => h) ⟨Or.inl ⟨by rfl, fun w => by go_simp⟩, fun _ => rfl⟩ ?_
          refine wpAnyIn_take (i := 2) (v := (.slice (some ⟨g, 0, none⟩) c.length cap')) rfl rfl (by kernel_rfl) (by kernel_rfl) (by kernel_rfl) (fun _ _ _ h => h) ⟨Or.inl ⟨by rfl, fun w => by go_simp⟩, fun _ => rfl⟩ ?_
          refine wpAnyIn_take (i := 3) (v := .int .i64 i) rfl rfl (by kernel_rfl) (by kernel_rfl) (by kernel_rfl) (fun _ _ _ h => h) ⟨Or.inl ⟨by rfl, fun w => by go_simp⟩, fun _ => rfl⟩ ?_
          refine wpAnyIn_take (i := 4) (v := .int .i64 s) rfl rfl (by kernel_rfl) (by kernel_rfl) (by kernel_rfl) (fun _ _ _ h => h) ⟨Or.inl ⟨by rfl, fun w => by go_simp⟩, fun _ => rfl⟩ ?_
          refine wpAnyIn_take (i := 5) (v := .int .i64 ((i : Int) + (s : Int))) rfl rfl (by kernel_rfl) (by kernel_rfl) (by kernel_rfl) (fun _ _ _ h => h) ⟨Or.inl ⟨by rfl, fun w => by go_simp⟩, fun _ => rfl⟩ ?_
          refine wpAnyIn_take (i := 6) (v := (.slice (some ⟨g, 0, none⟩) c.length cap')) rfl rfl (by kernel_rfl) (by kernel_rfl) (by kernel_rfl) (fun _ _ _ h => h) ⟨Or.inl ⟨by rfl, fun w => by go_simp⟩, fun _ => rfl⟩ ?_
          refine wpAnyIn_take (i := 7) (v := .int .i64 c.length) rfl rfl (by kernel_rfl) (by kernel_rfl) (by kernel_rfl) (fun _ _ _ h => h) ⟨Or.inl ⟨by rfl, fun w => by go_simp⟩, fun _ => rfl⟩ ?_
          refine wpAnyIn_take (i := 8) (v := .int .i64 m) rfl rfl (by kernel_rfl) (by kernel_rfl) (by kernel_rfl) (fun _ _ _ h => h) ⟨Or.inl ⟨by rfl, fun w => by go_simp⟩, fun _ => rfl⟩ ?_
          refine wpAnyIn_take (i := 9) (v := .pointer (some ⟨g, m, none⟩)) rfl rfl (by kernel_rfl) (by kernel_rfl) (by kernel_rfl) (fun _ _ _ h => h) ⟨Or.inl ⟨by rfl, fun w => by go_simp⟩, fun _ => rfl⟩ ?_
          refine wpAnyIn_ready (rs := [0, 10]) (by kernel_rfl) (by simp) (AllReadyIn.cons rfl (fun K hK => ?_) (AllReadyIn.cons rfl (fun K hK => ?_) AllReadyIn.nil))
          · go_simp
            refine hK _ _ ?_
            clear hK K
            refine wpAnyIn_ready (rs := [10]) (by kernel_rfl) (by simp) (AllReadyIn.cons rfl (fun K hK => ?_) AllReadyIn.nil)
            go_simp
            refine hK _ _ ?_
            clear hK K
            refine wpAnyIn_take (i := 11) (v := .pointer (some ⟨w1.heap.size + 1, x, none⟩)) rfl rfl (by kernel_rfl) (by kernel_rfl) (by kernel_rfl) (fun _ _ _ h => h) ⟨Or.inl ⟨by rfl, fun w => by go_simp⟩, fun _ => rfl⟩ ?_
            refine wpAnyIn_ready (rs := [12]) (by kernel_rfl) (by simp) (AllReadyIn.cons rfl (fun K hK => ?_) AllReadyIn.nil)
            go_simp
            refine hK _ _ ?_
            clear hK K
            refine wpAnyIn_done (by kernel_rfl) ?_ _
            gi_wp2
            go_roundw
            case rel => exact ⟨i + 1, by omega, by go_num, hPn, gb_drew hgn⟩
            case measure => simp [intOf]; omega
          · go_simp
            refine hK _ _ ?_
            clear hK K
            refine wpAnyIn_ready (rs := [0]) (by kernel_rfl) (by simp) (AllReadyIn.cons rfl (fun K hK => ?_) AllReadyIn.nil)
            go_simp
            refine hK _ _ ?_
            clear hK K
            refine wpAnyIn_take (i := 11) (v := .pointer (some ⟨w1.heap.size + 1, x, none⟩)) rfl rfl (by kernel_rfl) (by kernel_rfl) (by kernel_rfl) (fun _ _ _ h => h) ⟨Or.inl ⟨by rfl, fun w => by go_simp⟩, fun _ => rfl⟩ ?_
            refine wpAnyIn_ready (rs := [12]) (by kernel_rfl) (by simp) (AllReadyIn.cons rfl (fun K hK => ?_) AllReadyIn.nil)
            go_simp
            refine hK _ _ ?_
            clear hK K
            refine wpAnyIn_done (by kernel_rfl) ?_ _
            gi_wp2
            go_roundw
            case rel => exact ⟨i + 1, by omega, by go_num, hPn, gb_drew hgn⟩
            case measure => simp [intOf]; omega
        · have hii : i = c.length := by omega
          subst hii
          rw [List.take_length] at hPk
          gi_wp2
          have hlrb := (Array.getElem?_eq_some_iff.1 hLb).1
          have hszk := hgk.size
          have hLk : wr.heap[lr]? = some (.loop (L .busy none)) := (hgk.block lr hlrb (by simp; omega)).trans hLb
          have hput : ∀ b, b ≠ lr → (wr.putObj lr (.loop (L .ready none))).heap[b]? = wr.heap[b]? := fun b hb => World.putObj_heap_other hb
          have hkeep : ∀ b, b < Wb.heap.size → b ≠ lr → b ≠ w1.heap.size + 1 → (wr.putObj lr (.loop (L .ready none))).heap[b]? = Wb.heap[b]? := fun b h1 h2 h3 => by
            rw [hput b h2]; exact hgk.block b h1 (by simp; omega)
          have hBk : Below w.heap.size w wr := hBb.grown hgk hBb.size (fun j e => by cases e; omega)
          refine ⟨hLk, ⟨by simp; have := HSZ.out; omega, fun b hb => ?_⟩, .inl ⟨rfl, ?_, ?_, ?_, ?_, ?_, World.putObj_heap_same (Array.getElem?_eq_some_iff.1 hLk).1, ?_⟩⟩
          · have hsz := HSZ.out
            have hW1 : W1.heap.size < W2.heap.size := by
              obtain ⟨o, ho, _⟩ := hkd W1.heap.size (Nat.le_refl _) (by omega)
              exact (Array.getElem?_eq_some_iff.1 ho).1
            rw [hkeep b (by omega) (by omega) (by omega)]
            exact HKB.out b (by omega)
          · have := hPk.of_eq (hput _ (by omega))
            exact this
          · exact hRb.of_eq (hkeep _ hRb.lt (by omega) (by omega))
          · exact (hkeep _ hNb.lt (by omega) (by omega)).trans hNb
          · exact (hkeep _ hQb.lt (by omega) (by omega)).trans hQb
          · exact hBk.trans ⟨rfl, rfl, rfl, by simp, fun k hk => hput k (by omega)⟩
          · exact (hkeep D (Array.getElem?_eq_some_iff.1 hDb).1 (by omega) (by omega)).trans hDb
    · have hts : t = (s : Int) := ht2
      subst hts
      gi_wp2
      clear ht ht1
      gi_loopw [36] (fun iv wr => ∃ i : Nat, i ≤ c.length ∧ iv = .int .i64 i ∧ Blk wr (w1.heap.size + 1) 3 ((fillS (powZ zs n) (pre.flatten ++ c.take i)).map (Value.int .i64)) ∧ Wb.grownBy wr (some (w1.heap.size + 1)))
        (fun i _ => c.length - (intOf i).toNat)
      case atStart => exact ⟨0, Nat.zero_le _, rfl, by rw [List.take_zero, List.append_nil]; exact hPb, gb_refl _ _⟩
      case round =>
        obtain ⟨i, hi9, rfl, hPk, hgk⟩ := hrel
        have hQk := hQb.kept hgk (by simp; omega)
        have hcQ := hQk.cell
        have hgeq : wr.heap[g]? = Wb.heap[g]? := hgk.block g hglt (by simp; omega)
        by_cases hlt : i < c.length
        · obtain ⟨m, hm⟩ : ∃ m, m = (i + s) % c.length := ⟨_, rfl⟩
          have hml : m < c.length := by rw [hm]; exact Nat.mod_lt _ hc0
          have hcell : ∀ k, k < c.length → wr.cell? ⟨g, k, none⟩ = some (.int .i64 (c[k]?.getD 0 : Nat)) := fun k hk => by
            rw [← HCG.out k hk]; simp [World.cell?, hgeq]
          have hx := hcell i hlt
          have hy := hcell m hml
          have hxl := HCY.out.lt _ (getD_mem (d := 0) hlt)
          have hval := powZ_cyc HP.out HCY.out n s HSE.out hlt
          rw [← hm] at hval
          have hrem : ((i : Int) + (s : Int)).tmod (c.length : Int) = (m : Int) := by
            rw [hm, Int.tmod_eq_emod_of_nonneg (by omega), Int.natCast_emod]; rfl
          have hset := fillS_set (powZ zs n) (pre.flatten ++ c.take i) (c[i]?.getD 0)
          rw [hval, List.append_assoc, show c.take i ++ [c[i]?.getD 0] = c.take (i + 1) by rw [List.take_succ_eq_append_getElem hlt, List.getElem?_eq_getElem hlt]; rfl] at hset
          generalize c[i]?.getD 0 = x at hx hxl hset hval
          generalize c[m]?.getD 0 = y at hy hset hval
          have hfl := fillS_len (powZ zs n) (pre.flatten ++ c.take i)
          rw [HPL.out] at hfl
          have hck := hPk.int (y := x) (by rw [hfl]; omega)
          have hfk := hPk.frozen x
          have hPn := hPk.setInt x (y : Int)
          rw [hset] at hPn
          have hgn : Wb.grownBy (wr.setCell ⟨w1.heap.size + 1, x, none⟩ (.int .i64 (y : Int))) (some (w1.heap.size + 1)) := gb_trans hgk (gb_set wr (w1.heap.size + 1) x _) (fun j e => by cases e; exact .inl rfl)
          generalize (fillS (powZ zs n) (pre.flatten ++ c.take i))[x]?.getD 0 = old at hck
          have hxi : (x : Int) < (zs.length : Int) := by omega
          have hmi : (m : Int) < (c.length : Int) := by omega
          have HM := hide hm
          have hcne : ¬ c = [] := HCY.out.ne
          have hcnn : ¬ c.length = 0 := by omega
          clear hm hcell hval hset hfl hgeq hPk hgk
          gi_wp2
          have hwr : IntKind.i64.wrap ((i : Int) + (s : Int)) = (i : Int) + (s : Int) := by rw [IntKind.wrap_i64]; omega
          have hcQd : wr.drew.cell? ⟨w2.heap.size, 0, none⟩ = some (.slice (some ⟨w1.heap.size + 1, 0, none⟩) zs.length zs.length) := hcQ
          have hyd : wr.drew.cell? ⟨g, m, none⟩ = some (.int .i64 y) := hy
          have hckd : wr.drew.cell? ⟨w1.heap.size + 1, x, none⟩ = some (.int .i64 old) := hck
          have hfkd : wr.drew.frozen? ⟨w1.heap.size + 1, x, none⟩ = false := hfk
          refine region_in_round (by kernel_rfl) (by kernel_rfl) ?_
          refine wpAnyIn_take (i := 1) (v := .int .i64 x) rfl rfl (by kernel_rfl) (by kernel_rfl) (by kernel_rfl) (fun _ _ _ h => h) ⟨Or.inl ⟨by rfl, fun w => by go_simp⟩, fun _ => rfl⟩ ?_
          refine wpAnyIn_take (i := 2) (v := (.slice (some ⟨g, 0, none⟩) c.length cap')) rfl rfl (by kernel_rfl) (by kernel_rfl) (by kernel_rfl) (fun _ _ _ h => h) ⟨Or.inl ⟨by rfl, fun w => by go_simp⟩, fun _ => rfl⟩ ?_
          refine wpAnyIn_take (i := 3) (v := .int .i64 i) rfl rfl (by kernel_rfl) (by kernel_rfl) (by kernel_rfl) (fun _ _ _ h => h) ⟨Or.inl ⟨by rfl, fun w => by go_simp⟩, fun _ => rfl⟩ ?_
          refine wpAnyIn_take (i := 4) (v := .int .i64 s) rfl rfl (by kernel_rfl) (by kernel_rfl) (by kernel_rfl) (fun _ _ _ h => h) ⟨Or.inl ⟨by rfl, fun w => by go_simp⟩, fun _ => rfl⟩ ?_
          refine wpAnyIn_take (i := 5) (v := .int .i64 ((i : Int) + (s : Int))) rfl rfl (by kernel_rfl) (by kernel_rfl) (by kernel_rfl) (fun _ _ _ h => h) ⟨Or.inl ⟨by rfl, fun w => by go_simp⟩, fun _ => rfl⟩ ?_
          refine wpAnyIn_take (i := 6) (v := (.slice (some ⟨g, 0, none⟩) c.length cap')) rfl rfl (by kernel_rfl) (by kernel_rfl) (by kernel_rfl) (fun _ _ _ h => h) ⟨Or.inl ⟨by rfl, fun w => by go_simp⟩, fun _ => rfl⟩ ?_
          refine wpAnyIn_take (i := 7) (v := .int .i64 c.length) rfl rfl (by kernel_rfl) (by kernel_rfl) (by kernel_rfl) (fun _ _ _ h => h) ⟨Or.inl ⟨by rfl, fun w => by go_simp⟩, fun _ => rfl⟩ ?_
          refine wpAnyIn_take (i := 8) (v := .int .i64 m) rfl rfl (by kernel_rfl) (by kernel_rfl) (by kernel_rfl) (fun _ _ _ h => h) ⟨Or.inl ⟨by rfl, fun w => by go_simp⟩, fun _ => rfl⟩ ?_
          refine wpAnyIn_take (i := 9) (v := .pointer (some ⟨g, m, none⟩)) rfl rfl (by kernel_rfl) (by kernel_rfl) (by kernel_rfl) (fun _ _ _ h => h) ⟨Or.inl ⟨by rfl, fun w => by go_simp⟩, fun _ => rfl⟩ ?_
          refine wpAnyIn_ready (rs := [0, 10]) (by kernel_rfl) (by simp) (AllReadyIn.cons rfl (fun K hK => ?_) (AllReadyIn.cons rfl (fun K hK => ?_) AllReadyIn.nil))
          · go_simp
            refine hK _ _ ?_
            clear hK K
            refine wpAnyIn_ready (rs := [10]) (by kernel_rfl) (by simp) (AllReadyIn.cons rfl (fun K hK => ?_) AllReadyIn.nil)
            go_simp
            refine hK _ _ ?_
            clear hK K
            refine wpAnyIn_take (i := 11) (v := .pointer (some ⟨w1.heap.size + 1, x, none⟩)) rfl rfl (by kernel_rfl) (by kernel_rfl) (by kernel_rfl) (fun _ _ _ h => h) ⟨Or.inl ⟨by rfl, fun w => by go_simp⟩, fun _ => rfl⟩ ?_
            refine wpAnyIn_ready (rs := [12]) (by kernel_rfl) (by simp) (AllReadyIn.cons rfl (fun K hK => ?_) AllReadyIn.nil)
            go_simp
            refine hK _ _ ?_
            clear hK K
            refine wpAnyIn_done (by kernel_rfl) ?_ _
            gi_wp2
            go_roundw
            case rel => exact ⟨i + 1, by omega, by go_num, hPn, gb_drew hgn⟩
            case measure => simp [intOf]; omega
          · go_simp
            refine hK _ _ ?_
            clear hK K
            refine wpAnyIn_ready (rs := [0]) (by kernel_rfl) (by simp) (AllReadyIn.cons rfl (fun K hK => ?_) AllReadyIn.nil)
            go_simp
            refine hK _ _ ?_
            clear hK K
            refine wpAnyIn_take (i := 11) (v := .pointer (some ⟨w1.heap.size + 1, x, none⟩)) rfl rfl (by kernel_rfl) (by kernel_rfl) (by kernel_rfl) (fun _ _ _ h => h) ⟨Or.inl ⟨by rfl, fun w => by go_simp⟩, fun _ => rfl⟩ ?_
            refine wpAnyIn_ready (rs := [12]) (by kernel_rfl) (by simp) (AllReadyIn.cons rfl (fun K hK => ?_) AllReadyIn.nil)
            go_simp
            refine hK _ _ ?_
            clear hK K
            refine wpAnyIn_done (by kernel_rfl) ?_ _
            gi_wp2
            go_roundw
            case rel => exact ⟨i + 1, by omega, by go_num, hPn, gb_drew hgn⟩
            case measure => simp [intOf]; omega
        · have hii : i = c.length := by omega
          subst hii
          rw [List.take_length] at hPk
          gi_wp2
          have hlrb := (Array.getElem?_eq_some_iff.1 hLb).1
          have hszk := hgk.size
          have hLk : wr.heap[lr]? = some (.loop (L .busy none)) := (hgk.block lr hlrb (by simp; omega)).trans hLb
          have hput : ∀ b, b ≠ lr → (wr.putObj lr (.loop (L .ready none))).heap[b]? = wr.heap[b]? := fun b hb => World.putObj_heap_other hb
          have hkeep : ∀ b, b < Wb.heap.size → b ≠ lr → b ≠ w1.heap.size + 1 → (wr.putObj lr (.loop (L .ready none))).heap[b]? = Wb.heap[b]? := fun b h1 h2 h3 => by
            rw [hput b h2]; exact hgk.block b h1 (by simp; omega)
          have hBk : Below w.heap.size w wr := hBb.grown hgk hBb.size (fun j e => by cases e; omega)
          refine ⟨hLk, ⟨by simp; have := HSZ.out; omega, fun b hb => ?_⟩, .inl ⟨rfl, ?_, ?_, ?_, ?_, ?_, World.putObj_heap_same (Array.getElem?_eq_some_iff.1 hLk).1, ?_⟩⟩
          · have hsz := HSZ.out
            have hW1 : W1.heap.size < W2.heap.size := by
              obtain ⟨o, ho, _⟩ := hkd W1.heap.size (Nat.le_refl _) (by omega)
              exact (Array.getElem?_eq_some_iff.1 ho).1
            rw [hkeep b (by omega) (by omega) (by omega)]
            exact HKB.out b (by omega)
          · have := hPk.of_eq (hput _ (by omega))
            exact this
          · exact hRb.of_eq (hkeep _ hRb.lt (by omega) (by omega))
          · exact (hkeep _ hNb.lt (by omega) (by omega)).trans hNb
          · exact (hkeep _ hQb.lt (by omega) (by omega)).trans hQb
          · exact hBk.trans ⟨rfl, rfl, rfl, by simp, fun k hk => hput k (by omega)⟩
          · exact (hkeep D (Array.getElem?_eq_some_iff.1 hDb).1 (by omega) (by omega)).trans hDb
  · rintro e W2 ⟨hv, ⟨W0, ⟨hP0, hR0, hN0, hQ0, hB0, hL0, hD0⟩, hg2⟩ | hfalse⟩
    · have hlt := (Array.getElem?_eq_some_iff.1 hL0).1
      have hal : fillS (powZ zs n) (cyc zs).flatten = powZ zs n := fillS_all (fun x hx => by
        rw [HPL.out] at hx
        obtain ⟨c, hc, hy⟩ := (cyc_spec HP.out).2.2 x hx
        exact List.mem_flatten.2 ⟨c, hc, hy⟩)
      rw [hal] at hP0
      have hL2 : W2.heap[lr]? = some (.loop (L .ready none)) := (hg2.block lr hlt (by simp; omega)).trans hL0
      have hD2 : W2.heap[D]? = some (.deferred (some [])) := (hg2.block D (by omega) (by simp; omega)).trans hD0
      have hP2 := hP0.grown hg2 (by simp; omega)
      have hR2 := hR0.grown hg2 (by simp; omega)
      have hQ2 := hQ0.kept hg2 (by simp; omega)
      have hB2 : Below w.heap.size w W2 := hB0.grown hg2 hB0.size (fun j e => by cases e; omega)
      refine ⟨hv, .ready, none, by simp, hL2, ?_⟩
      obtain ⟨Wb, hWb⟩ : ∃ Wb, Wb = W2.putObj lr (.loop (L .exhausted none)) := ⟨_, rfl⟩
      have hkb : ∀ b, b ≠ lr → Wb.heap[b]? = W2.heap[b]? := fun b hb => by rw [hWb]; exact World.putObj_heap_other hb
      have hPb := hP2.of_eq (hkb _ (by omega))
      have hRb := hR2.of_eq (hkb _ (by omega))
      have hQb : Boxed Wb w2.heap.size 22 (.slice (some ⟨w1.heap.size + 1, 0, none⟩) zs.length zs.length) := (hkb _ (by omega)).trans hQ2
      have hDb := (hkb D (by omega)).trans hD2
      have hBb : Below w.heap.size w Wb := by
        refine hB2.trans ⟨by rw [hWb]; rfl, by rw [hWb]; rfl, by rw [hWb]; rfl, by rw [hWb]; simp, fun k hk => hkb k (by omega)⟩
      rw [← hWb]
      clear hWb hkb hP0 hR0 hN0 hQ0 hB0 hL0 hD0 hP2 hR2 hQ2 hB2 hD2 hL2 hg2 hP4 hR4 hN4 hQ4 hX4 hB4 hr4
      unfold after
      have hcQ := hQb.cell
      obtain ⟨_, c0, c1, f0, f1, s0, s1⟩ := Two.mk' hRb
      gi_wp2
      refine ⟨by simp, .inl ⟨_, _, rfl, run_takeDeferred hDb, ?_⟩⟩
      have hR7 : Blk (Wb.putObj D (.deferred none)) (w.heap.size + 1) 26 [.int .i64 0, .int .i64 0] := hRb.of_eq (World.putObj_heap_other (by omega))
      have hP7 : Blk (Wb.putObj D (.deferred none)) (w1.heap.size + 1) 3 ((powZ zs n).map (Value.int .i64)) := hPb.of_eq (World.putObj_heap_other (by omega))
      have h70 : (Wb.putObj D (.deferred none)).cell? ⟨w.heap.size + 1, 0, none⟩ = some (.int .i64 0) := hR7.cell 0
      have h71 : (Wb.putObj D (.deferred none)).cell? ⟨w.heap.size + 1, 1, none⟩ = some (.int .i64 0) := hR7.cell 1
      refine ⟨.tuple #[.slice (some ⟨w1.heap.size + 1, 0, none⟩) zs.length zs.length, .agg #[.int .i64 0, .int .i64 0]], by simp [results, Tryd.results34, go_sem, h70, h71], _, rfl, ?_, hBb.trans ⟨rfl, rfl, rfl, by simp, fun k hk => World.putObj_heap_other (by omega)⟩⟩
      exact Sl.of_blk hP7 HPL.out.symm (by rw [HPL.out]; omega)
    · exact hfalse.elim

set_option maxRecDepth 100000 in
set_option maxHeartbeats 2000000 in
theorem pow_bad (u : Value) (zs : List Int) (n : Int) (w : World) (hu : Sl w u zs) (hf : (fault zs).1 ≠ 0) :
    Calls Tryd.prog 34 #[u, .int .i64 n] w fun e w' => e = .returned (.tuple #[.slice none 0 0, .agg #[.int .i64 (fault zs).1, .int .i64 (fault zs).2]]) ∧ Below w.heap.size w w' := by
  have hB0 : Below w.heap.size w ((w.alloc (.cells #[.int .i64 n] 3)).alloc (.cells #[.int .i64 0, .int .i64 0] 26)) := (balloc w _).alloc (by simp) _
  have hu0 := hu.below hB0
  have T0 : Two ((w.alloc (.cells #[.int .i64 n] 3)).alloc (.cells #[.int .i64 0, .int .i64 0] 26)) (w.heap.size + 1) := by
    have := Two.new (w.alloc (.cells #[.int .i64 n] 3)); rwa [World.size_alloc] at this
  have hck := check_sl _ zs _ hu0
  obtain ⟨c, i, hci⟩ : ∃ c i, fault zs = (c, i) := ⟨_, _, rfl⟩
  rw [hci] at hck hf ⊢
  obtain ⟨a, cap, pb, po, rfl, hr, hp, hq3, hq4⟩ := hu
  have hbe : (c != 0) = true := by simpa using hf
  have HCK := hide hck
  clear hci hf hu0 hck
  refine (callsIn_wide (n := 9)).1 ?_
  refine callsIn_of_wp_marks Tryd.func34 rfl trivial ?_ rfl
  simp only [Tryd.ntmps34, List.size_toArray, List.length_cons, List.length_nil, Nat.reduceAdd, Nat.reduceSub, Array.replicate_succ, Array.replicate_zero, List.push_toArray, List.append_toArray, List.nil_append, List.cons_append]
  gi_wp2_with fail
  refine ⟨trivial, ?_⟩
  refine (callsIn_wide.2 HCK.out).mono ?_
  rintro e w1 ⟨rfl, hl1⟩
  have hB1 := bcat hB0 hl1 (by simp; omega)
  have T1 := T0.below hl1
  have hs1 : w.heap.size + 1 < w1.heap.size := T1.blk.lt
  have R2 : Blk (w1.alloc (.cells #[.int .i64 c, .int .i64 i] 26)) (w.heap.size + 1) 26 [.int .i64 0, .int .i64 0] := T1.blk.alloc _
  have N2 : Blk (w1.alloc (.cells #[.int .i64 c, .int .i64 i] 26)) w1.heap.size 26 [.int .i64 c, .int .i64 i] := blk0 _ _
  have hB2 := hB1.alloc hB1.size (.cells #[.int .i64 c, .int .i64 i] 26)
  obtain ⟨hc0, hc1, hf0, hf1⟩ := R2.two
  obtain ⟨hd0, hd1, hg0, hg1⟩ := N2.two
  clear hl1 hB0 T0 HCK
  gi_wp2_with fail
  generalize w1.alloc (.cells #[.int .i64 c, .int .i64 i] 26) = w2 at *
  gi_region
  gi_wp2
  have hR3 : Blk ((w2.setCell ⟨w.heap.size + 1, 0, none⟩ (.int .i64 c)).setCell ⟨w.heap.size + 1, 1, none⟩ (.int .i64 i)).drew (w.heap.size + 1) 26 [.int .i64 c, .int .i64 i] := (R2.set 0 _).set 1 _
  have hB3 : Below w.heap.size w ((w2.setCell ⟨w.heap.size + 1, 0, none⟩ (.int .i64 c)).setCell ⟨w.heap.size + 1, 1, none⟩ (.int .i64 i)).drew := bdrew ((hB2.setCell (p := ⟨w.heap.size + 1, 0, none⟩) (by simp) _).setCell (p := ⟨w.heap.size + 1, 1, none⟩) (by simp) _)
  generalize ((w2.setCell ⟨w.heap.size + 1, 0, none⟩ (.int .i64 c)).setCell ⟨w.heap.size + 1, 1, none⟩ (.int .i64 i)).drew = W at hR3 hB3 ⊢
  obtain ⟨k0, k1, _, _⟩ := hR3.two
  exact ⟨.tuple #[.slice none 0 0, .agg #[.int .i64 c, .int .i64 i]], by simp [results, Tryd.results34, go_sem, k0, k1], rfl, hB3⟩

/-- Whatever list it is: the power where it is a permutation, the fault where it is none. -/
theorem pow_any (u : Value) (xs : List Int) (n : Int) (w : World) (hu : Sl w u xs) :
    Calls Tryd.prog 34 #[u, .int .i64 n] w fun e w' => ∃ r, e = .returned (.tuple #[r, .agg #[.int .i64 (fault xs).1, .int .i64 (fault xs).2]]) ∧ Sl w' r (okL (fault xs).1 (powZ xs n)) ∧ Below w.heap.size w w' := by
  by_cases hf : (fault xs).1 = 0
  · obtain ⟨px, l1000⟩ := fault_perm hf
    rw [fault_of_perm px l1000, okL_zero]
    exact pow_ok u xs n w hu px l1000
  · have h0 : 0 < w.heap.size := by obtain ⟨_, _, _, _, _, _, hp, _, _⟩ := hu; omega
    refine (pow_bad u xs n w hu hf).mono ?_
    rintro e w' ⟨rfl, hb⟩
    refine ⟨_, rfl, ?_, hb⟩
    unfold okL; rw [if_neg hf]
    exact Sl.nil (by have := hb.size; omega)
end Go.Proofs.YtjchmhngfnlbhaaDoor
