/- What perm.Text answers at a permutation of at most 1000 points: the texts of its moved cycles, one behind the other, or a pair of brackets; condition: the library's table of powers of ten as the program lays it. -/
import Derived.Test.YtjchmhngfnlbhaaDoorMoved
import Derived.Test.YtjchmhngfnlbhaaDoorWrite
namespace Go.Proofs.YtjchmhngfnlbhaaDoor
open Go Go.RowKit Go.Shelf Go.Sort

attribute [local go_sem] Oper.semAt_some

theorem isB_apart {T B b s t : Nat} {bs : List Value} {W0 W1 : World} {es : List TypeId} (h : Lib.IsBuilderF T 5 B b bs W0) (hA : Apart s t W0 W1) (hb : b < s) (hK : W0.heap.size ≤ s ∨ Kinds es W0 s t) (h5 : ¬ 5 ∈ es) : Lib.IsBuilderF T 5 B b bs W1 := by
  have row : ∀ v, W0.ownsRowF B 5 1 v bs.length bs → W1.ownsRowF B 5 1 v bs.length bs := fun v ho => by
    refine ⟨ho.1, ?_⟩
    rcases ho.2 with h0 | ⟨g, cap, cur, fz, hv, hg, hh, r⟩
    · exact .inl h0
    · exact .inr ⟨g, cap, cur, fz, hv, hg, (hA.kind hK hh h5).trans hh, r⟩
  rcases h with ⟨hB, v, hh, ho, hn⟩ | ⟨hB, v, hh, ho, hn⟩
  · exact .inl ⟨hB, v, (hA.block b (Array.getElem?_eq_some_iff.1 hh).1 (by omega)).trans hh, row v ho, hn⟩
  · exact .inr ⟨hB, v, (hA.block b (Array.getElem?_eq_some_iff.1 hh).1 (by omega)).trans hh, row v ho, hn⟩
theorem isB_put {T e : TypeId} {B b l : Nat} {bs : List Value} {W : World} {o : Obj} (o' : Obj) (h : Lib.IsBuilderF T e B b bs W) (hl : W.heap[l]? = some o) (ho : o.isCells = false) : Lib.IsBuilderF T e B b bs (W.putObj l o') := by
  have ne : ∀ (k : Nat) (c : Array Value) (e : TypeId) (fz : Nat × Nat), W.heap[k]? = some (.cells c e fz) → k ≠ l := fun k c e fz hk e' => by
    rw [e', hl] at hk; cases hk; cases ho
  have row : ∀ v, W.ownsRowF B e 1 v bs.length bs → (W.putObj l o').ownsRowF B e 1 v bs.length bs := fun v ho => by
    refine ⟨ho.1, ?_⟩
    rcases ho.2 with h0 | ⟨g, cap, cur, fz, hv, hg, hh, r⟩
    · exact .inl h0
    · exact .inr ⟨g, cap, cur, fz, hv, hg, (World.putObj_heap_other (ne _ _ _ _ hh)).trans hh, r⟩
  rcases h with ⟨hB, v, hh, ho, hn⟩ | ⟨hB, v, hh, ho, hn⟩
  · exact .inl ⟨hB, v, (World.putObj_heap_other (ne _ _ _ _ hh)).trans hh, row v ho, hn⟩
  · exact .inr ⟨hB, v, (World.putObj_heap_other (ne _ _ _ _ hh)).trans hh, row v ho, hn⟩

/-- The texts of cycles, one behind the other. -/
def flat (cs : List (List Nat)) : List UInt8 := cs.flatMap ctext
theorem flat_snoc (pre : List (List Nat)) (c : List Nat) : flat (pre ++ [c]) = flat pre ++ ctext c := by simp [flat]
/-- The text of a permutation. -/
def ptext (zs : List Int) : List UInt8 := if flat (moved (cyc zs)) = [] then [40, 41] else flat (moved (cyc zs))

theorem ctext_len {c : List Nat} (hl : c.length ≤ 1000) (h : ∀ j, j < c.length → c[j]?.getD 0 ≤ 1000) : (ctext c).length ≤ 1100000 := by
  have := part_len h c.length (Nat.le_refl _)
  simp [ctext]; omega
theorem flat_len : ∀ (cs : List (List Nat)), (∀ c, c ∈ cs → (ctext c).length ≤ 1100000) → (flat cs).length ≤ cs.length * 1100000
  | [], _ => by simp [flat]
  | c :: cs, h => by
    have h1 := flat_len cs (fun c hc => h c (by simp [hc]))
    have h2 := h c (by simp)
    simp [flat] at h1 ⊢; omega
theorem moved_small {zs : List Int} (hp : IsPerm zs) (hl : zs.length ≤ 1000) {c : List Nat} (hc : c ∈ moved (cyc zs)) : c.length ≤ 1000 ∧ ∀ j, j < c.length → c[j]?.getD 0 ≤ 1000 := by
  have h1 := cyc_pts hp (List.mem_filter.1 hc).1
  exact ⟨by omega, fun j hj => by have := mem_getD h1.2 j hj; omega⟩
theorem moved_len (zs : List Int) : (moved (cyc zs)).length ≤ zs.length := Nat.le_trans (List.length_filter_le _ _) (cyc_len zs)

set_option maxRecDepth 100000 in
set_option maxHeartbeats 4000000 in
theorem text_ok (a : Option Addr) (cap pb po : Nat) (zs : List Int) (w : World) (hr : Reads w a pb po zs) (hp : pb < w.heap.size) (hf : fault zs = (0, 0)) (htab : Tab w.heap.size w) :
    Calls Tryd.prog 12 #[.slice a zs.length cap] w fun e w' => e = .returned (.tuple #[.string ⟨(ptext zs).toArray⟩, .agg #[.int .i64 0, .int .i64 0]]) ∧ Below w.heap.size w w' := by
  obtain ⟨hperm, hl⟩ := fault_perm (by rw [hf])
  refine (callsIn_wide (n := 9)).1 ?_
  refine callsIn_of_wp_marks Tryd.func12 rfl trivial ?_ rfl
  simp only [Tryd.ntmps12, List.size_toArray, List.length_cons, List.length_nil, Nat.reduceAdd, Nat.reduceSub, Array.replicate_succ, Array.replicate_zero, List.push_toArray, List.append_toArray, List.nil_append, List.cons_append]
  gi_wp2_with fail
  refine ⟨trivial, ?_⟩
  refine (callsIn_wide.2 (check_any a cap pb po zs _ (hr.of_eq (Below.heap_alloc _ _ _ hp)) (by simp; omega) (by unfold maxLen; omega))).mono ?_
  rintro e w1 ⟨rfl, hb1⟩
  rw [hf]
  have HF := hide hf
  clear hf
  gi_wp2_with fail
  refine ⟨trivial, ?_⟩
  refine (movedCyclesOf_in _ _ _ _ _ _ rfl).mono ?_
  rintro e w2 ⟨rfl, rfl⟩
  gi_wp2_with fail
  obtain ⟨w2, hw2⟩ : ∃ w2, w2 = ((w1.alloc (.cells #[.int .i64 0, .int .i64 0] 26)).alloc (.cells #[.pointer none, .slice none 0 0] 70)).alloc (.cells #[.slice a zs.length cap] 22) := ⟨_, rfl⟩
  have hsw : w.heap.size + 1 ≤ w1.heap.size := by have := hb1.size; simpa using this
  have hs2 : w2.heap.size = w1.heap.size + 3 := by rw [hw2]; simp
  have hB1 : Below w.heap.size w w1 := ((Below.refl _ w).alloc (Nat.le_refl _) _).trans (hb1.mono (by simp))
  have hB2 : Below w.heap.size w w2 := by rw [hw2]; exact ((hB1.alloc (by omega) _).alloc (by simp; omega) _).alloc (by simp; omega) _
  have hR2 : Blk w2 w.heap.size 26 [.int .i64 0, .int .i64 0] := by
    have : Blk w1 w.heap.size 26 [.int .i64 0, .int .i64 0] := (hb1.block w.heap.size (by simp)).trans (World.alloc_heap_new w _)
    rw [hw2]; exact ((this.alloc _).alloc _).alloc _
  have hbB : Lib.IsBuilderF 70 5 w.heap.size (w1.heap.size + 1) (Lib.byteCells (flat [])) w2 := by
    refine .inl ⟨by omega, .slice none 0 0, ?_, World.ownsRowF_nil _ _ _ _, by simp [Value.ownBlock]⟩
    rw [hw2, Below.heap_alloc _ _ _ (by simp)]
    have := World.alloc_heap_new (w1.alloc (.cells #[.int .i64 0, .int .i64 0] 26)) (.cells #[.pointer none, .slice none 0 0] 70)
    rw [World.size_alloc] at this; exact this
  have hbx : Boxed w2 (w1.heap.size + 1 + 1) 22 (.slice a zs.length cap) := by
    rw [hw2]
    have := Boxed.new ((w1.alloc (.cells #[.int .i64 0, .int .i64 0] 26)).alloc (.cells #[.pointer none, .slice none 0 0] 70)) 22 (.slice a zs.length cap)
    rw [World.size_alloc, World.size_alloc] at this; exact this
  rw [← hw2]
  clear hw2
  refine range_out (gf := 69) (lb := #[.pointer (some ⟨w1.heap.size + 1 + 1, 0, none⟩)]) (hg := ?hg) (eg := enters_of Tryd.func69 (by kernel_rfl) rfl) (h1 := ?hn) (h := ?_)
  case hg => rfl
  case hn => decide
  intro lr D L W1 hD hlr hround hW1
  have hs1 : W1.heap.size = w1.heap.size + 5 := by rw [hW1]; simp [hs2]
  have hL1 : W1.heap[lr]? = some (.loop (L .ready none)) := by
    rw [hW1, hlr]; have := World.alloc_heap_new (w2.alloc (.deferred (some []))) (.loop (L .ready none)); rw [World.size_alloc] at this; exact this
  have hD1 : W1.heap[D]? = some (.deferred (some [])) := by
    rw [hW1, hD]; exact (Below.heap_alloc _ _ _ (by simp)).trans (World.alloc_heap_new w2 (.deferred (some [])))
  have hg1 : w2.grownBy W1 none := by rw [hW1]; exact (World.grownBy_alloc w2 _ none).trans (World.grownBy_alloc _ _ none)
  have hb1' : Lib.IsBuilderF 70 5 w.heap.size (w1.heap.size + 1) (Lib.byteCells (flat [])) W1 := isB_grown hbB hg1
  have hbx1 : Boxed W1 (w1.heap.size + 1 + 1) 22 (.slice a zs.length cap) := hbx.kept hg1 (by simp)
  have hR1 : Blk W1 w.heap.size 26 [.int .i64 0, .int .i64 0] := hR2.grown hg1 (by simp)
  have hBW : Below w.heap.size w W1 := hB2.grown hg1 (by omega) (by simp)
  have HD : Hid (D = w1.heap.size + 3) := by rw [hD, hs2]; rfl
  have HLR : Hid (lr = w1.heap.size + 4) := by rw [hlr, hs2]; rfl
  have HS1 := hide hs1
  have hD_1 : w1.heap.size + 3 ≤ D := by have := HD.out; omega
  have hD_2 : D ≤ w1.heap.size + 3 := by have := HD.out; omega
  have hl_1 : w1.heap.size + 4 ≤ lr := by have := HLR.out; omega
  have hl_2 : lr ≤ w1.heap.size + 4 := by have := HLR.out; omega
  have hs_1 : w1.heap.size + 5 ≤ W1.heap.size := by omega
  have hs_2 : W1.heap.size ≤ w1.heap.size + 5 := by omega
  have hr1 : Reads W1 a pb po zs := hr.below hBW hp
  have HP := hide hperm
  clear hW1 hg1 hbB hbx hR2 hB2 hs2 hs1 hD hlr hB1 hb1
  refine (moved_iter lr (w1.heap.size + 1 + 1) cap pb po a zs
    (fun pre W => Lib.IsBuilderF 70 5 w.heap.size (w1.heap.size + 1) (Lib.byteCells (flat pre)) W ∧ Below w.heap.size w W ∧ Blk W w.heap.size 26 [.int .i64 0, .int .i64 0] ∧ W.heap[lr]? = some (.loop (L .ready none)) ∧ W.heap[D]? = some (.deferred (some [])) ∧
      Boxed W (w1.heap.size + 1 + 1) 22 (.slice a zs.length cap) ∧ (W.heap.size ≤ W1.heap.size ∨ Kinds [4, 22, 39] W W1.heap.size (W1.heap.size + 5)))
    (fun _ => False) W1 hbx1 hr1 (by omega) hperm hl ?round ⟨hb1', hBW, hR1, hL1, hD1, hbx1, .inl (Nat.le_refl _)⟩).mono ?_
  case round =>
    rintro pre c post W0 W2 g cap' hpc ⟨hb0, hB0, hR0, hL0, hD0, hx0, hk0⟩ hA hown hkd
    have hb2 := isB_apart hb0 hA (by omega) hk0 (by simp)
    have hlt := (Array.getElem?_eq_some_iff.1 hL0).1
    have hL2 : W2.heap[lr]? = some (.loop (L .ready none)) := (hA.block lr hlt (by omega)).trans hL0
    have hD2 : W2.heap[D]? = some (.deferred (some [])) := (hA.block D (by omega) (by omega)).trans hD0
    have hx2 : Boxed W2 (w1.heap.size + 1 + 1) 22 (.slice a zs.length cap) := (hA.block _ hx0.lt (by omega)).trans hx0
    have hR2 : Blk W2 w.heap.size 26 [.int .i64 0, .int .i64 0] := hR0.of_eq (hA.block _ hR0.lt (by omega))
    have hB2 : Below w.heap.size w W2 := hB0.trans (hA.below (by omega) (by have := hB0.size; omega))
    have hcm : c ∈ moved (cyc zs) := by rw [← hpc]; simp
    have hcs := moved_small HP.out hl hcm
    have hfl : (flat pre).length ≤ 1000000000000 := by
      have h1 := flat_len pre (fun d hd => by
        have := moved_small HP.out hl (c := d) (by rw [← hpc]; simp [hd])
        exact ctext_len this.1 this.2)
      have h2 := moved_len zs
      rw [← hpc] at h2
      simp at h2
      omega
    refine hround _ _ W2 _ hL2 rfl ?_
    have HL2 := hide hL2
    clear hL2
    gi_wp2
    have hL2 := HL2.out
    refine ⟨hL2, ?_⟩
    obtain ⟨Wb, hWb⟩ : ∃ Wb, Wb = W2.putObj lr (.loop (L .busy none)) := ⟨_, rfl⟩
    have hLb : Wb.heap[lr]? = some (.loop (L .busy none)) := by rw [hWb]; exact World.putObj_heap_same (Array.getElem?_eq_some_iff.1 hL2).1
    have hkb : ∀ b, b ≠ lr → Wb.heap[b]? = W2.heap[b]? := fun b hb => by rw [hWb]; exact World.putObj_heap_other hb
    have hbb : Lib.IsBuilderF 70 5 w.heap.size (w1.heap.size + 1) (Lib.byteCells (flat pre)) Wb := by rw [hWb]; exact isB_put _ hb2 hL2 rfl
    have hownb := ownsRow_putObj hown (.loop (L .busy none)) hL2 rfl
    rw [← hWb] at hownb
    have hszb : Wb.heap.size = W2.heap.size := by rw [hWb]; simp
    have hsz2 : w.heap.size ≤ Wb.heap.size := by rw [hszb]; exact hB2.size
    have hBb : Below w.heap.size w Wb := by
      refine hB2.trans ⟨by rw [hWb]; rfl, by rw [hWb]; rfl, by rw [hWb]; rfl, by omega, fun k hk => hkb k (by omega)⟩
    have hDb := (hkb D (by omega)).trans hD2
    have hxb : Boxed Wb (w1.heap.size + 1 + 1) 22 (.slice a zs.length cap) := (hkb _ (by omega)).trans hx2
    have hRb : Blk Wb w.heap.size 26 [.int .i64 0, .int .i64 0] := hR2.of_eq (hkb _ (by omega))
    have hlt2 : lr < W2.heap.size := (Array.getElem?_eq_some_iff.1 hL2).1
    rw [← hWb]
    have HKB := hide hkb
    have HSZ := hide hszb
    clear hWb hkb hszb
    gi_wp2_with fail
    refine ⟨trivial, rfl, ?_⟩
    refine (CallsIn.inRound lr (callsIn_wide.2 (writeCycle_any w.heap.size (w1.heap.size + 1) g cap' _ c (flat pre) Wb hbb hsz2 hfl (Holds3.of_own hownb) hcs.1 hcs.2 (htab.below hBb)))).mono ?_
    rintro e W3 ⟨rfl, hb3, hl3, ho3⟩
    gi_wp2
    have hL3 : W3.heap[lr]? = some (.loop (L .busy none)) := ho3 lr _ hLb (by simp; omega) (fun c fz e => by cases e)
    have hkr : ∀ b, W1.heap.size ≤ b → b < W1.heap.size + 5 → W3.heap[b]? = W2.heap[b]? := fun b h1 h2 => by
      obtain ⟨o, ho, hn⟩ := hkd b h1 h2
      have := ho3 b o ((HKB.out b (by omega)).trans ho) (by simp; omega) (fun c fz e => by have := hn c 5 fz e; simp at this)
      rw [this, ho]
    have hx3 : W3.heap[w1.heap.size + 1 + 1]? = some (.cells #[.slice a zs.length cap] 22 (0, 0)) := ho3 _ _ hxb (by simp) (fun c fz e => by cases e)
    have hD3 : W3.heap[D]? = some (.deferred (some [])) := ho3 D _ hDb (by simp; omega) (fun c fz e => by cases e)
    have hR3 : W3.heap[w.heap.size]? = some (.cells #[.int .i64 0, .int .i64 0] 26 (0, 0)) := ho3 _ _ hRb (by simp; omega) (fun c fz e => by cases e)
    have hs3 := hl3.size
    refine ⟨hL3, ⟨by simp; have := HSZ.out; omega, fun b hb => ?_⟩, .inl ⟨rfl, ?_⟩⟩
    · rw [World.putObj_heap_other (by omega)]
      rcases hb with rfl | rfl | hb
      · rw [hx3]; exact hx2.symm
      · rw [hl3.block b hp]; exact HKB.out b (by omega)
      · exact hkr b hb.1 hb.2
    · refine ⟨by rw [flat_snoc]; exact isB_put _ hb3 hL3 rfl, ?_, ?_, World.putObj_heap_same (Array.getElem?_eq_some_iff.1 hL3).1, ?_, ?_, .inr (fun b h1 h2 => ?_)⟩
      · exact (hBb.trans hl3).trans ⟨rfl, rfl, rfl, by simp, fun k hk => World.putObj_heap_other (by omega)⟩
      · exact (World.putObj_heap_other (by omega)).trans hR3
      · exact (World.putObj_heap_other (by omega)).trans hD3
      · exact (World.putObj_heap_other (by omega)).trans hx3
      · obtain ⟨o, ho, hn⟩ := hkd b h1 h2
        exact ⟨o, (World.putObj_heap_other (by omega)).trans ((hkr b h1 h2).trans ho), hn⟩
  · rintro e W2 ⟨hv, W0, ⟨hb0, hB0, hR0, hL0, hD0, hx0, hk0⟩ | hfalse, hA⟩
    · have hb2 := isB_apart hb0 hA (by omega) hk0 (by simp)
      have hlt := (Array.getElem?_eq_some_iff.1 hL0).1
      have hL2 : W2.heap[lr]? = some (.loop (L .ready none)) := (hA.block lr hlt (by omega)).trans hL0
      have hD2 : W2.heap[D]? = some (.deferred (some [])) := (hA.block D (by omega) (by omega)).trans hD0
      have hR2 : Blk W2 w.heap.size 26 [.int .i64 0, .int .i64 0] := hR0.of_eq (hA.block _ hR0.lt (by omega))
      have hB2 : Below w.heap.size w W2 := hB0.trans (hA.below (by omega) (by have := hB0.size; omega))
      refine ⟨hv, .ready, none, by simp, hL2, ?_⟩
      obtain ⟨Wb, hWb⟩ : ∃ Wb, Wb = W2.putObj lr (.loop (L .exhausted none)) := ⟨_, rfl⟩
      have hkb : ∀ b, b ≠ lr → Wb.heap[b]? = W2.heap[b]? := fun b hb => by rw [hWb]; exact World.putObj_heap_other hb
      have hbb : Lib.IsBuilderF 70 5 w.heap.size (w1.heap.size + 1) (Lib.byteCells (flat (moved (cyc zs)))) Wb := by rw [hWb]; exact isB_put _ hb2 hL2 rfl
      have hszb : Wb.heap.size = W2.heap.size := by rw [hWb]; simp
      have hsz2 : w.heap.size ≤ Wb.heap.size := by rw [hszb]; exact hB2.size
      have hBb : Below w.heap.size w Wb := by
        refine hB2.trans ⟨by rw [hWb]; rfl, by rw [hWb]; rfl, by rw [hWb]; rfl, by omega, fun k hk => hkb k (by omega)⟩
      have hDb := (hkb D (by omega)).trans hD2
      have hRb : Blk Wb w.heap.size 26 [.int .i64 0, .int .i64 0] := hR2.of_eq (hkb _ (by omega))
      rw [← hWb]
      clear hWb hkb hszb
      unfold after
      have hfl : (flat (moved (cyc zs))).length ≤ 1000000000000 := by
        have h1 := flat_len (moved (cyc zs)) (fun d hd => by
          have := moved_small HP.out hl hd
          exact ctext_len this.1 this.2)
        have h2 := moved_len zs
        omega
      gi_wp2_with fail
      refine ⟨trivial, ?_⟩
      refine (callsIn_wide.2 (Tryd.Builder_Len_f w.heap.size (w1.heap.size + 1) _ _ hbb)).mono ?_
      rintro e W3 ⟨rfl, rfl⟩
      rw [cells_len]
      by_cases hfe : flat (moved (cyc zs)) = []
      · have hpt : flat (moved (cyc zs)) ++ ctext [] = ptext zs := by unfold ptext; rw [if_pos hfe, hfe]; rfl
        have hz : ((flat (moved (cyc zs))).length : Int) = 0 := by rw [hfe]; rfl
        rw [hz]
        have HPT := hide hpt
        clear hpt hz hfe
        gi_wp2_with fail
        refine ⟨trivial, ?_⟩
        refine (callsIn_wide.2 (writeCycle_any w.heap.size (w1.heap.size + 1) 0 0 none [] _ W3 hbb hsz2 hfl ⟨by simp, by simp, by simp⟩ (by simp) (by simp) (htab.below hBb))).mono ?_
        rintro e W4 ⟨rfl, hb4, hl4, ho4⟩
        rw [HPT.out] at hb4
        have hD4 : W4.heap[D]? = some (.deferred (some [])) := ho4 D _ hDb (by simp; omega) (fun c fz e => by cases e)
        have hR4 : Blk W4 w.heap.size 26 [.int .i64 0, .int .i64 0] := ho4 _ _ hRb (by simp; omega) (fun c fz e => by cases e)
        gi_wp2_with fail
        refine ⟨trivial, ?_⟩
        refine (callsIn_wide.2 (Tryd.Builder_String_any_k w.heap.size (w1.heap.size + 1) (ptext zs) W4 hb4 (by have := (hBb.trans hl4).size; omega))).mono ?_
        rintro e W5 ⟨rfl, _, hl5, ho5⟩
        have hR5 : Blk W5 w.heap.size 26 [.int .i64 0, .int .i64 0] := ho5 _ _ hR4 (by simp; omega) (fun c fz e => by cases e)
        have hD5 : W5.heap[D]? = some (.deferred (some [])) := ho5 D _ hD4 (by simp; omega) (fun c fz e => by cases e)
        have hc0 : W5.cell? ⟨w.heap.size, 0, none⟩ = some (.int .i64 0) := hR5.cell 0
        have hc1 : W5.cell? ⟨w.heap.size, 1, none⟩ = some (.int .i64 0) := hR5.cell 1
        have hf0 := hR5.frozen 0
        have hf1 := hR5.frozen 1
        have hB5 := (hBb.trans hl4).trans hl5
        gi_wp2
        have hR6 : Blk ((W5.setCell ⟨w.heap.size, 0, none⟩ (.int .i64 0)).setCell ⟨w.heap.size, 1, none⟩ (.int .i64 0)) w.heap.size 26 [.int .i64 0, .int .i64 0] := (hR5.set 0 (.int .i64 0)).set 1 (.int .i64 0)
        have hD6 : ((W5.setCell ⟨w.heap.size, 0, none⟩ (.int .i64 0)).setCell ⟨w.heap.size, 1, none⟩ (.int .i64 0)).heap[D]? = some (.deferred (some [])) := by
          rw [Below.heap_setCell _ _ _ _ (by simp; omega), Below.heap_setCell _ _ _ _ (by simp; omega)]; exact hD5
        have hB6 := (hB5.setCell (p := ⟨w.heap.size, 0, none⟩) (Nat.le_refl _) (.int .i64 0)).setCell (p := ⟨w.heap.size, 1, none⟩) (Nat.le_refl _) (.int .i64 0)
        generalize (W5.setCell ⟨w.heap.size, 0, none⟩ (.int .i64 0)).setCell ⟨w.heap.size, 1, none⟩ (.int .i64 0) = W6 at hR6 hD6 hB6 ⊢
        refine ⟨by simp, .inl ⟨_, _, rfl, run_takeDeferred hD6, ?_⟩⟩
        have hR7 : Blk (W6.putObj D (.deferred none)) w.heap.size 26 [.int .i64 0, .int .i64 0] := hR6.of_eq (World.putObj_heap_other (by omega))
        have h70 : (W6.putObj D (.deferred none)).cell? ⟨w.heap.size, 0, none⟩ = some (.int .i64 0) := hR7.cell 0
        have h71 : (W6.putObj D (.deferred none)).cell? ⟨w.heap.size, 1, none⟩ = some (.int .i64 0) := hR7.cell 1
        exact ⟨.tuple #[.string ⟨(ptext zs).toArray⟩, .agg #[.int .i64 0, .int .i64 0]], by simp [results, Tryd.results12, go_sem, h70, h71], rfl, hB6.trans ⟨rfl, rfl, rfl, by simp, fun k hk => World.putObj_heap_other (by omega)⟩⟩
      · have hpt : flat (moved (cyc zs)) = ptext zs := by unfold ptext; rw [if_neg hfe]
        have hz : (((flat (moved (cyc zs))).length : Int) == 0) = false := by
          have := List.length_pos_iff.2 hfe
          simp; omega
        have HPT := hide hpt
        rw [hpt] at hz hbb ⊢
        clear hpt hfe
        gi_wp2_with fail
        refine ⟨trivial, ?_⟩
        refine (callsIn_wide.2 (Tryd.Builder_String_any_k w.heap.size (w1.heap.size + 1) (ptext zs) W3 hbb (by have := (hBb).size; omega))).mono ?_
        rintro e W5 ⟨rfl, _, hl5, ho5⟩
        have hR5 : Blk W5 w.heap.size 26 [.int .i64 0, .int .i64 0] := ho5 _ _ hRb (by simp; omega) (fun c fz e => by cases e)
        have hD5 : W5.heap[D]? = some (.deferred (some [])) := ho5 D _ hDb (by simp; omega) (fun c fz e => by cases e)
        have hc0 : W5.cell? ⟨w.heap.size, 0, none⟩ = some (.int .i64 0) := hR5.cell 0
        have hc1 : W5.cell? ⟨w.heap.size, 1, none⟩ = some (.int .i64 0) := hR5.cell 1
        have hf0 := hR5.frozen 0
        have hf1 := hR5.frozen 1
        have hB5 := (hBb).trans hl5
        gi_wp2
        have hR6 : Blk ((W5.setCell ⟨w.heap.size, 0, none⟩ (.int .i64 0)).setCell ⟨w.heap.size, 1, none⟩ (.int .i64 0)) w.heap.size 26 [.int .i64 0, .int .i64 0] := (hR5.set 0 (.int .i64 0)).set 1 (.int .i64 0)
        have hD6 : ((W5.setCell ⟨w.heap.size, 0, none⟩ (.int .i64 0)).setCell ⟨w.heap.size, 1, none⟩ (.int .i64 0)).heap[D]? = some (.deferred (some [])) := by
          rw [Below.heap_setCell _ _ _ _ (by simp; omega), Below.heap_setCell _ _ _ _ (by simp; omega)]; exact hD5
        have hB6 := (hB5.setCell (p := ⟨w.heap.size, 0, none⟩) (Nat.le_refl _) (.int .i64 0)).setCell (p := ⟨w.heap.size, 1, none⟩) (Nat.le_refl _) (.int .i64 0)
        generalize (W5.setCell ⟨w.heap.size, 0, none⟩ (.int .i64 0)).setCell ⟨w.heap.size, 1, none⟩ (.int .i64 0) = W6 at hR6 hD6 hB6 ⊢
        refine ⟨by simp, .inl ⟨_, _, rfl, run_takeDeferred hD6, ?_⟩⟩
        have hR7 : Blk (W6.putObj D (.deferred none)) w.heap.size 26 [.int .i64 0, .int .i64 0] := hR6.of_eq (World.putObj_heap_other (by omega))
        have h70 : (W6.putObj D (.deferred none)).cell? ⟨w.heap.size, 0, none⟩ = some (.int .i64 0) := hR7.cell 0
        have h71 : (W6.putObj D (.deferred none)).cell? ⟨w.heap.size, 1, none⟩ = some (.int .i64 0) := hR7.cell 1
        exact ⟨.tuple #[.string ⟨(ptext zs).toArray⟩, .agg #[.int .i64 0, .int .i64 0]], by simp [results, Tryd.results12, go_sem, h70, h71], rfl, hB6.trans ⟨rfl, rfl, rfl, by simp, fun k hk => World.putObj_heap_other (by omega)⟩⟩
    · exact hfalse.elim
end Go.Proofs.YtjchmhngfnlbhaaDoor
