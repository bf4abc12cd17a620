/- perm.Conj at two permutations of as many points: a way between them where their shapes are the same, else none. No condition. -/
import Derived.Test.YtjchmhngfnlbhaaDoorCj2
namespace Go.Proofs.YtjchmhngfnlbhaaDoor
open Go Go.RowKit

attribute [local go_sem] Oper.semAt_some

set_option maxRecDepth 100000 in
set_option maxHeartbeats 8000000 in
theorem conj_ok (u v : Value) (zs ys : List Int) (w : World) (hu : Sl w u zs) (hv : Sl w v ys) (hz : IsPerm zs) (hy : IsPerm ys) (hl : zs.length = ys.length) (h1000 : ys.length ≤ 1000) :
    Calls Tryd.prog 25 #[u, v] w fun e w' => (∃ r cz, e = .returned (.tuple #[r, .agg #[.int .i64 0, .int .i64 0]]) ∧ Sl w' r cz ∧ cz.length = zs.length ∧ IsPerm cz ∧ mulL cz ys = mulL zs cz ∧ shape zs = shape ys ∧ Below w.heap.size w w') ∨
      (e = .returned (.tuple #[.slice none 0 0, .agg #[.int .i64 6, .int .i64 0]]) ∧ shape zs ≠ shape ys ∧ Below w.heap.size w w') := by
  obtain ⟨i24, hi24, hx0, hx1, hx2⟩ := info_parts info24
  obtain ⟨i22, hi22, hy0, hy1, hy2⟩ := info_parts info22c
  obtain ⟨i3, hi3, hz0, hz1, hz2⟩ := info_parts info3
  have hB0 : Below w.heap.size w ((w.alloc (.cells #[.slice none 0 0] 22)).alloc (.cells #[.int .i64 0, .int .i64 0] 26)) := (balloc w _).alloc (by simp) _
  have hu0 := hu.below hB0
  have hv0 := hv.below hB0
  have hN0 : Boxed ((w.alloc (.cells #[.slice none 0 0] 22)).alloc (.cells #[.int .i64 0, .int .i64 0] 26)) w.heap.size 22 (.slice none 0 0) := (Boxed.new w 22 _).alloc _
  have T0 : Two ((w.alloc (.cells #[.slice none 0 0] 22)).alloc (.cells #[.int .i64 0, .int .i64 0] 26)) (w.heap.size + 1) := by
    have := Two.new (w.alloc (.cells #[.slice none 0 0] 22)); rwa [World.size_alloc] at this
  have htw := twof_ok hz hy hl (by omega)
  have hck := checkPair_any _ _ zs ys _ hu0 hv0
  rw [htw] at hck
  have HCK := hide hck
  have hsz0 : (((w.alloc (.cells #[.slice none 0 0] 22)).alloc (.cells #[.int .i64 0, .int .i64 0] 26))).heap.size = w.heap.size + 2 := by simp
  obtain ⟨a, cap, pb, po, rfl, hr, hp, hq3, hq4⟩ := id hu
  obtain ⟨b, cap', qb, qo, rfl, hs, hq, hq7, hq8⟩ := id hv
  have HZ := hide hz
  have HY := hide hy
  have HL := hide hl
  have hyl : (ys.length : Int) ≤ 1000 := by omega
  have hzl : (zs.length : Int) ≤ 1000 := by omega
  have hzl' : zs.length ≤ 1000 := by omega
  have HS0 := hide hsz0
  clear hz hy hl htw hck hu0 hv0 hsz0
  refine (callsIn_wide (n := 9)).1 ?_
  refine callsIn_of_wp_marks Tryd.func25 rfl trivial ?_ rfl
  simp only [Tryd.ntmps25, List.size_toArray, List.length_cons, List.length_nil, Nat.reduceAdd, Nat.reduceSub, Array.replicate_succ, Array.replicate_zero, List.push_toArray, List.append_toArray, List.nil_append, List.cons_append]
  gi_wp2_with fail
  refine ⟨trivial, ?_⟩
  refine (callsIn_wide.2 HCK.out).mono ?_
  rintro e w1 ⟨rfl, hb1⟩
  have hB1 := bcat hB0 hb1 (by rw [HS0.out]; omega)
  have T1 := T0.below hb1
  have hN1 : Boxed w1 w.heap.size 22 (.slice none 0 0) := (hb1.block _ hN0.lt).trans hN0
  have hs1 : w.heap.size + 1 < w1.heap.size := T1.blk.lt
  clear hb1 HCK HS0 hB0 T0 hN0
  gi_wp2_with (first
    | (gi_at_make; refine wpListIn_make_full _ rfl _ _ 83 rfl (w1.heap.size + 1) 24 i24 (.slice none 0 0) 1 under83 hi24 hx0 hx1 _ _ _ _ (ys.length + 1) rfl rfl ?cm1 ?cm2 (by rw [hx2]; omega) (by unfold maxLen; omega) (by simp) ?_))
  case cm1 => first | rfl | (simp; done) | omega
  case cm2 => first | rfl | (simp; done) | omega
  intro w2 hown hg
  have hL2 : Blk w2 (w1.heap.size + 1) 24 (List.replicate (ys.length + 1) (.slice none 0 0)) := by
    have := Blk.of_owns hown
    rw [made_rep] at this
    simpa using this
  have hB2 : Below w.heap.size w w2 := (hB1.alloc hB1.size _).grown hg (by simp; omega) (by simp)
  have T2 : Two w2 (w.heap.size + 1) := Two.mk' ((T1.alloc (.cells #[.int .i64 0, .int .i64 0] 26)).blk.grown hg (by simp))
  have hN2 : Boxed w2 w.heap.size 22 (.slice none 0 0) := (hN1.alloc _).kept hg (by simp)
  have hs2 : w1.heap.size + 1 < w2.heap.size := hL2.lt
  have HT2 := hide T2
  clear hown hg hB1 T1 hN1 T2
  gi_wp2_with fail
  refine ⟨trivial, ?_⟩
  refine (cyclesOf_in _ _ _ _ _ _ rfl).mono ?_
  rintro e w3 ⟨rfl, rfl⟩
  gi_wp2_with fail
  obtain ⟨w3, hw3⟩ : ∃ w3, w3 = (w2.alloc (.cells #[.slice (some ⟨w1.heap.size + 1, 0, none⟩) (ys.length + 1) (ys.length + 1)] 83)).alloc (.cells #[.slice b ys.length cap'] 22) := ⟨_, rfl⟩
  have hs3 : w3.heap.size = w2.heap.size + 2 := by rw [hw3]; simp
  have hB3 : Below w.heap.size w w3 := by rw [hw3]; exact (hB2.alloc hB2.size _).alloc (by simp; omega) _
  have hJ3 : J1 w w3 (w1.heap.size + 1) w2.heap.size ys.length [] w3 := by
    refine J1.new ?_ ?_ ?_ ?_ hB3
    · rw [hw3]; exact (hL2.alloc _).alloc _
    · rw [hw3]; exact (Boxed.new w2 83 _).alloc _
    · rw [hw3]; exact (hN2.alloc _).alloc _
    · rw [hw3]; exact ((HT2.out.alloc _).alloc _).blk
  have hX3 : Boxed w3 (w2.heap.size + 1) 22 (.slice b ys.length cap') := by
    rw [hw3]
    have := Boxed.new (w2.alloc (.cells #[.slice (some ⟨w1.heap.size + 1, 0, none⟩) (ys.length + 1) (ys.length + 1)] 83)) 22 (.slice b ys.length cap')
    rw [World.size_alloc] at this; exact this
  have hr3 : Reads w3 b qb qo ys := hs.below hB3 hq
  rw [← hw3]
  have HS3 := hide hs3
  have HS2 := hide hs2
  have HS1 := hide hs1
  clear hw3 hs3 hL2 hN2 HT2 hB2 hs2 hs1
  refine cyc_range (w2.heap.size + 1) cap' qb qo b ys (J1 w w3 (w1.heap.size + 1) w2.heap.size ys.length) (fun _ => False) (by rfl) (by decide) (by rfl) hX3 hr3 (by have := hB3.size; omega) HY.out h1000
    (fun _ _ _ h hA => h.apart (by have := HS3.out; have := HS2.out; omega) (by have := HS3.out; have := HS2.out; have := HS1.out; omega) hA) (fun _ _ h _ => h.elim)
    hJ3 ?body ?fin (fun _ h => h.elim)
  case body =>
    rintro pre c post W gc cap9 hpc hcy hJ hown hgc1 hgc2 _ _
    gi_wp2
    refine ⟨trivial, ?_⟩
    rintro Wb hJb hown hgc hxb hpb
    have hJd : J1 w w3 (w1.heap.size + 1) w2.heap.size ys.length pre Wb.drew := hJb.apart (by have := HS3.out; have := HS2.out; omega) (by have := HS3.out; have := HS2.out; have := HS1.out; omega) (Apart.refl _ _ Wb).drew
    have hownd : Wb.drew.ownsRow (w3.heap.size + 3) 3 1 (.slice (some ⟨gc, 0, none⟩) c.length cap9) c.length (pts c) := hown
    have hdk : ∀ b : Nat, Wb.drew.heap[b]? = Wb.heap[b]? := fun _ => rfl
    have hdz : Wb.drew.heap.size = Wb.heap.size := rfl
    obtain ⟨⟨vs, a2, a3, a4, aD⟩, b7, b4, b5, bel⟩ := hJd
    have hcy' : c ∈ cyc ys := by rw [← hpc]; simp
    have hcn := (cyc_pts HY.out hcy').1
    obtain ⟨v0, hvc, ws, how, hok, hrows⟩ := a4 c.length hcn
    obtain ⟨⟨av, nv, cv, rfl⟩, _⟩ := row_block how
    have hpl : (fk c.length pre).length ≤ 1000 := by
      have h1 := cyc_len ys
      have h2 := fk_len c.length pre
      rw [← hpc] at h1; simp at h1; omega
    have hwl := how.1
    have hr9 : RowAt (fun b => w3.heap.size + 3 ≤ b) Wb.drew (.slice (some ⟨gc, 0, none⟩) c.length cap9) c := ⟨gc, cap9, rfl, hgc1, owns_mono hownd (Nat.zero_le _)⟩
    have hcl : Wb.drew.cell? ⟨w1.heap.size + 1, c.length, none⟩ = some (.slice av nv cv) := by rw [a3.cell]; exact hvc
    have hT : Wb.drew.cell? ⟨w2.heap.size, 0, none⟩ = some (.slice (some ⟨w1.heap.size + 1, 0, none⟩) (ys.length + 1) (ys.length + 1)) := b7.cell
    have hLlt := a3.lt
    have hgsz : w3.heap.size + 3 ≤ Wb.heap.size := by omega
    have hfz := a3.frozen c.length
    have hci : (c.length : Int) < (ys.length : Int) + 1 := by omega
    have hci2 : c.length < ys.length + 1 := by omega
    have HST : Hid (∀ v' w4, w4.ownsRow 0 22 1 v' ((fk c.length pre).length + 1) (ws ++ [(.slice (some ⟨gc, 0, none⟩) c.length cap9)]) → Wb.drew.grownBy w4 (Value.slice av nv cv).ownBlock → (v'.ownBlock = (Value.slice av nv cv).ownBlock ∨ ∃ b, v'.ownBlock = some b ∧ Wb.drew.heap.size ≤ b) →
        J1 w w3 (w1.heap.size + 1) w2.heap.size ys.length (pre ++ [c]) (w4.setCell ⟨w1.heap.size + 1, c.length, none⟩ v') ∧ (∀ b : Nat, b ≠ w1.heap.size + 1 → b < w3.heap.size + 3 → (w4.setCell ⟨w1.heap.size + 1, c.length, none⟩ v').heap[b]? = Wb.drew.heap[b]?) ∧ Wb.drew.heap.size ≤ (w4.setCell ⟨w1.heap.size + 1, c.length, none⟩ v').heap.size) :=
      hide fun v' w4 g1 g2 g3 => J1.step (by have := HS3.out; have := HS2.out; omega) (by have := HS3.out; have := HS2.out; have := HS1.out; omega) (by have := HS1.out; omega) hgsz hcn a2 a3 a4 aD b7 b4 b5 bel (by have := HS1.out; omega) hvc how hok hrows hr9 g1 g2 g3
    have HC4 : Hid (∀ w4, Wb.drew.grownBy w4 (Value.slice av nv cv).ownBlock → w4.cell? ⟨w1.heap.size + 1, c.length, none⟩ = some (.slice av nv cv) ∧ w4.frozen? ⟨w1.heap.size + 1, c.length, none⟩ = false) := hide fun w4 g => by
      have := a3.of_eq (g.block _ a3.lt (fun e => by have := hok _ e.symm; have := HS3.out; have := HS2.out; omega))
      exact ⟨by rw [this.cell]; exact hvc, this.frozen _⟩
    have HT4 : Hid (∀ w4, Wb.drew.grownBy w4 (Value.slice av nv cv).ownBlock → w4.cell? ⟨w2.heap.size, 0, none⟩ = some (.slice (some ⟨w1.heap.size + 1, 0, none⟩) (ys.length + 1) (ys.length + 1))) := hide fun w4 g =>
      Boxed.cell (b7.kept g (fun e => by have := hok _ e.symm; have := HS3.out; omega))
    have HT5 : Hid (∀ w4 v', Wb.drew.grownBy w4 (Value.slice av nv cv).ownBlock → (w4.setCell ⟨w1.heap.size + 1, c.length, none⟩ v').cell? ⟨w2.heap.size, 0, none⟩ = some (.slice (some ⟨w1.heap.size + 1, 0, none⟩) (ys.length + 1) (ys.length + 1))) := hide fun w4 v' g => by
      rw [World.cell?_setCell_far _ _ _ _ (by simp; have := HS2.out; omega)]; exact HT4.out w4 g
    have hTa : (Wb.drew.alloc (.cells #[.slice (some ⟨gc, 0, none⟩) c.length cap9] 22)).cell? ⟨w2.heap.size, 0, none⟩ = some (.slice (some ⟨w1.heap.size + 1, 0, none⟩) (ys.length + 1) (ys.length + 1)) := (b7.alloc _).cell
    have hca : (Wb.drew.alloc (.cells #[.slice (some ⟨gc, 0, none⟩) c.length cap9] 22)).cell? ⟨w1.heap.size + 1, c.length, none⟩ = some (.slice av nv cv) := by rw [(a3.alloc _).cell]; exact hvc
    have hrow9 : (Wb.drew.alloc (.cells #[.slice (some ⟨gc, 0, none⟩) c.length cap9] 22)).ownsRow 0 22 1 (.slice av nv cv) (fk c.length pre).length ws := how.alloc _
    have HGB : Hid (∀ w4, (Wb.drew.alloc (.cells #[.slice (some ⟨gc, 0, none⟩) c.length cap9] 22)).grownBy w4 (Value.slice av nv cv).ownBlock → Wb.drew.grownBy w4 (Value.slice av nv cv).ownBlock) := hide fun w4 g =>
      ⟨g.os, g.tape, g.output, Nat.le_trans (by simp) g.size, fun k hk hn => (g.block k (by simp; omega) hn).trans (Below.heap_alloc _ _ _ hk)⟩
    have HNW : Hid (∀ (j : Nat) (u : Value), [(.slice (some ⟨gc, 0, none⟩) c.length cap9)][j]? = some u → (Wb.drew.alloc (.cells #[.slice (some ⟨gc, 0, none⟩) c.length cap9] 22)).cell? ((⟨Wb.heap.size, 0, none⟩ : Addr).add j) = some u) := hide (cell_one_new Wb.drew _ _)
    have hHn := hide hvc
    have HN := hide hwl
    clear hvc how hrows hok a3 a4 aD b7 b4 b5 bel hr9 hownd hown hJb hwl hpc hcy hJ
    gi_wp2
    refine region_round_held (S := fun W => W.cell? ⟨w2.heap.size, 0, none⟩ = some (.slice (some ⟨w1.heap.size + 1, 0, none⟩) (ys.length + 1) (ys.length + 1))) (by kernel_rfl) (by kernel_rfl) (fun _ _ h => ?_) hT (fun hHeld => ?_)
    · obtain ⟨_, ⟨h, _⟩ | ⟨h, _⟩⟩ : KeepB w3.heap.size (w2.heap.size + 1) qb Wb _ ∧ (Exit.outgrown = Exit.normal ∧ _ ∨ Exit.outgrown = Exit.ret ∧ False) := h
      · cases h
      · cases h
    generalize Wb.drew = Wd at *
    refine wpAnyH_take (i := 0) (oi := ({ dst := some 28, op := Go.Op.load 83 (Go.Operand.tmp 7), type := 83, pos := _, after := _, guard := none } : Oper)) (v := ?_) rfl (by kernel_rfl) (by kernel_rfl) (by kernel_rfl) (fun _ _ _ h => h) (Or.inl ⟨by rfl, ?_⟩) (by assumption) ?_
    rotate_left
    · (intro w hSw; (try dsimp only at hSw); go_simp; try with_reducible rfl)
    simp only [Act.put, List.setIfInBounds_toArray, List.set_cons_zero, List.set_cons_succ]
    refine wpAnyH_take (i := 1) (oi := ({ dst := some 29, op := Go.Op.move (Go.Operand.tmp 8), type := 22, pos := _, after := _, guard := none } : Oper)) (v := ?_) rfl (by kernel_rfl) (by kernel_rfl) (by kernel_rfl) (fun _ _ _ h => h) (Or.inl ⟨by rfl, ?_⟩) (by assumption) ?_
    rotate_left
    · (intro w hSw; (try dsimp only at hSw); go_simp; try with_reducible rfl)
    simp only [Act.put, List.setIfInBounds_toArray, List.set_cons_zero, List.set_cons_succ]
    refine wpAnyH_take (i := 2) (oi := ({ dst := some 30, op := Go.Op.call { callee := Go.Callee.builtin Go.Builtin.len, args := #[Go.Operand.tmp 29], argTypes := #[22] }, type := 3, pos := _, after := _, guard := none } : Oper)) (v := ?_) rfl (by kernel_rfl) (by kernel_rfl) (by kernel_rfl) (fun _ _ _ h => h) (Or.inl ⟨by rfl, ?_⟩) (by assumption) ?_
    rotate_left
    · (intro w hSw; (try dsimp only at hSw); go_simp; try with_reducible rfl)
    simp only [Act.put, List.setIfInBounds_toArray, List.set_cons_zero, List.set_cons_succ]
    refine wpAnyH_take (i := 3) (oi := ({ dst := some 31, op := Go.Op.load 83 (Go.Operand.tmp 7), type := 83, pos := _, after := _, guard := none } : Oper)) (v := ?_) rfl (by kernel_rfl) (by kernel_rfl) (by kernel_rfl) (fun _ _ _ h => h) (Or.inl ⟨by rfl, ?_⟩) (by assumption) ?_
    rotate_left
    · (intro w hSw; (try dsimp only at hSw); go_simp; try with_reducible rfl)
    simp only [Act.put, List.setIfInBounds_toArray, List.set_cons_zero, List.set_cons_succ]
    refine wpAnyH_take (i := 4) (oi := ({ dst := some 32, op := Go.Op.move (Go.Operand.tmp 8), type := 22, pos := _, after := _, guard := none } : Oper)) (v := ?_) rfl (by kernel_rfl) (by kernel_rfl) (by kernel_rfl) (fun _ _ _ h => h) (Or.inl ⟨by rfl, ?_⟩) (by assumption) ?_
    rotate_left
    · (intro w hSw; (try dsimp only at hSw); go_simp; try with_reducible rfl)
    simp only [Act.put, List.setIfInBounds_toArray, List.set_cons_zero, List.set_cons_succ]
    refine wpAnyH_take (i := 5) (oi := ({ dst := some 33, op := Go.Op.call { callee := Go.Callee.builtin Go.Builtin.len, args := #[Go.Operand.tmp 32], argTypes := #[22] }, type := 3, pos := _, after := _, guard := none } : Oper)) (v := ?_) rfl (by kernel_rfl) (by kernel_rfl) (by kernel_rfl) (fun _ _ _ h => h) (Or.inl ⟨by rfl, ?_⟩) (by assumption) ?_
    rotate_left
    · (intro w hSw; (try dsimp only at hSw); go_simp; try with_reducible rfl)
    simp only [Act.put, List.setIfInBounds_toArray, List.set_cons_zero, List.set_cons_succ]
    refine wpAnyH_take (i := 6) (oi := ({ dst := some 34, op := Go.Op.indexAddr 83 (Go.Operand.tmp 31) (Go.Operand.tmp 33), type := 0, pos := _, after := _, guard := none } : Oper)) (v := ?_) rfl (by kernel_rfl) (by kernel_rfl) (by kernel_rfl) (fun _ _ _ h => h) (Or.inl ⟨by rfl, ?_⟩) (by assumption) ?_
    rotate_left
    · (intro w hSw; (try dsimp only at hSw); go_simp; try with_reducible rfl)
    simp only [Act.put, List.setIfInBounds_toArray, List.set_cons_zero, List.set_cons_succ]
    refine wpAnyH_take (i := 8) (oi := ({ dst := some 36, op := Go.Op.move (Go.Operand.tmp 8), type := 22, pos := _, after := _, guard := none } : Oper)) (v := ?_) rfl (by kernel_rfl) (by kernel_rfl) (by kernel_rfl) (fun _ _ _ h => h) (Or.inl ⟨by rfl, ?_⟩) (by assumption) ?_
    rotate_left
    · (intro w hSw; (try dsimp only at hSw); go_simp; try with_reducible rfl)
    simp only [Act.put, List.setIfInBounds_toArray, List.set_cons_zero, List.set_cons_succ]
    refine wpAnyH_ready (rs := [7, 9]) (by kernel_rfl) (by simp) (AllReadyH.cons (o := ({ dst := some 35, op := Go.Op.load 24 (Go.Operand.tmp 34), type := 24, pos := _, after := _, guard := none } : Oper)) rfl (fun KK hK => ?_) (AllReadyH.cons (o := ({ dst := some 37, op := Go.Op.buildSlice 24 1 #[(0, Go.Operand.tmp 36)], type := 24, pos := _, after := _, guard := none } : Oper)) rfl (fun KK hK => ?_) AllReadyH.nil))
    · go_simp
      refine hK.out _ _ hHeld (fun hHeld => ?_)
      clear hK
      try simp only [Act.put, List.setIfInBounds_toArray, List.set_cons_zero, List.set_cons_succ]
      refine wpAnyH_ready (rs := [9]) (by kernel_rfl) (by simp) (AllReadyH.cons (o := ({ dst := some 37, op := Go.Op.buildSlice 24 1 #[(0, Go.Operand.tmp 36)], type := 24, pos := _, after := _, guard := none } : Oper)) rfl (fun KK hK => ?_) AllReadyH.nil)
      go_simp
      refine hK.out _ _ (hTa) (fun hHeld => ?_)
      clear hK
      try simp only [Act.put, List.setIfInBounds_toArray, List.set_cons_zero, List.set_cons_succ]
      refine wpAnyH_ready (rs := [10]) (by kernel_rfl) (by simp) (AllReadyH.cons (o := ({ dst := some 38, op := Go.Op.call { callee := Go.Callee.builtin Go.Builtin.append, args := #[Go.Operand.tmp 35, Go.Operand.tmp 37], argTypes := #[24, 24] }, type := 24, pos := _, after := _, guard := none } : Oper)) rfl (fun KK hK => ?_) AllReadyH.nil)
      rw [if_pos (by rfl)]
      refine wp_append_at _ _ 24 rfl 0 22 i22 (.slice none 0 0) 1 24 under24 hi22 hy0 hy1 hy2 rfl (by decide) (.slice av nv cv) (fk c.length pre).length ws rfl hrow9 ⟨Wb.heap.size, 0, none⟩ 1 1 [(.slice (some ⟨gc, 0, none⟩) c.length cap9)] rfl rfl HNW.out (by simp [Value.oneCell']) (by unfold maxLen; omega) (by omega) (Nat.zero_le _) ?_
      intro v' w4 hown' hgrow hat
      obtain ⟨g5, cap5, rfl⟩ := ownsRow_succ hown'
      have hg4 : Wd.grownBy w4 (Value.slice av nv cv).ownBlock := HGB.out _ hgrow
      obtain ⟨hc4, hf4⟩ := HC4.out w4 hg4
      have hT4 := HT4.out w4 hg4
      have hT5 := HT5.out w4 (.slice (some ⟨g5, 0, none⟩) ((fk c.length pre).length + 1) cap5) hg4
      refine hK.out _ _ hT4 (fun hHeld => ?_)
      clear hK
      try simp only [Act.put, List.setIfInBounds_toArray, List.set_cons_zero, List.set_cons_succ]
      refine wpAnyH_take (i := 11) (oi := ({ dst := some 39, op := Go.Op.indexAddr 83 (Go.Operand.tmp 28) (Go.Operand.tmp 30), type := 0, pos := _, after := _, guard := none } : Oper)) (v := ?_) rfl (by kernel_rfl) (by kernel_rfl) (by kernel_rfl) (fun _ _ _ h => h) (Or.inl ⟨by rfl, ?_⟩) (by assumption) ?_
      rotate_left
      · (intro w hSw; (try dsimp only at hSw); go_simp; try with_reducible rfl)
      simp only [Act.put, List.setIfInBounds_toArray, List.set_cons_zero, List.set_cons_succ]
      refine wpAnyH_ready (rs := [12]) (by kernel_rfl) (by simp) (AllReadyH.cons (o := ({ dst := none, op := Go.Op.store 24 (Go.Operand.tmp 39) (Go.Operand.tmp 38), type := 0, pos := _, after := _, guard := none } : Oper)) rfl (fun KK hK => ?_) AllReadyH.nil)
      go_simp
      refine hK.out _ _ hT5 (fun hHeld => ?_)
      clear hK
      try simp only [Act.put, List.setIfInBounds_toArray, List.set_cons_zero, List.set_cons_succ]
      refine wpAnyH_done (by kernel_rfl) ?_ _
      have hst := HST.out _ w4 hown' hg4 (hat.imp_right (fun e => ⟨_, e, by simp⟩))
      have hfin : KeepB w3.heap.size (w2.heap.size + 1) qb Wb (w4.setCell ⟨w1.heap.size + 1, c.length, none⟩ (.slice (some ⟨g5, 0, none⟩) ((fk c.length pre).length + 1) cap5)) ∧ (Exit.normal = Exit.normal ∧ J1 w w3 (w1.heap.size + 1) w2.heap.size ys.length (pre ++ [c]) (w4.setCell ⟨w1.heap.size + 1, c.length, none⟩ (.slice (some ⟨g5, 0, none⟩) ((fk c.length pre).length + 1) cap5)) ∨ Exit.normal = Exit.ret ∧ False) :=
        ⟨⟨by have := hst.2.2; omega, fun b hb => (hst.2.1 b (by have := HS3.out; have := HS2.out; have := HS1.out; omega) (by have := HS3.out; have := HS2.out; have := HS1.out; omega)).trans (hdk b)⟩, .inl ⟨rfl, hst.1⟩⟩
      exact hfin
    go_simp
    refine hK.out _ _ (hTa) (fun hHeld => ?_)
    clear hK
    try simp only [Act.put, List.setIfInBounds_toArray, List.set_cons_zero, List.set_cons_succ]
    refine wpAnyH_ready (rs := [7]) (by kernel_rfl) (by simp) (AllReadyH.cons (o := ({ dst := some 35, op := Go.Op.load 24 (Go.Operand.tmp 34), type := 24, pos := _, after := _, guard := none } : Oper)) rfl (fun KK hK => ?_) AllReadyH.nil)
    go_simp
    refine hK.out _ _ hHeld (fun hHeld => ?_)
    clear hK
    try simp only [Act.put, List.setIfInBounds_toArray, List.set_cons_zero, List.set_cons_succ]
    refine wpAnyH_ready (rs := [10]) (by kernel_rfl) (by simp) (AllReadyH.cons (o := ({ dst := some 38, op := Go.Op.call { callee := Go.Callee.builtin Go.Builtin.append, args := #[Go.Operand.tmp 35, Go.Operand.tmp 37], argTypes := #[24, 24] }, type := 24, pos := _, after := _, guard := none } : Oper)) rfl (fun KK hK => ?_) AllReadyH.nil)
    rw [if_pos (by rfl)]
    refine wp_append_at _ _ 24 rfl 0 22 i22 (.slice none 0 0) 1 24 under24 hi22 hy0 hy1 hy2 rfl (by decide) (.slice av nv cv) (fk c.length pre).length ws rfl hrow9 ⟨Wb.heap.size, 0, none⟩ 1 1 [(.slice (some ⟨gc, 0, none⟩) c.length cap9)] rfl rfl HNW.out (by simp [Value.oneCell']) (by unfold maxLen; omega) (by omega) (Nat.zero_le _) ?_
    intro v' w4 hown' hgrow hat
    obtain ⟨g5, cap5, rfl⟩ := ownsRow_succ hown'
    have hg4 : Wd.grownBy w4 (Value.slice av nv cv).ownBlock := HGB.out _ hgrow
    obtain ⟨hc4, hf4⟩ := HC4.out w4 hg4
    have hT4 := HT4.out w4 hg4
    have hT5 := HT5.out w4 (.slice (some ⟨g5, 0, none⟩) ((fk c.length pre).length + 1) cap5) hg4
    refine hK.out _ _ hT4 (fun hHeld => ?_)
    clear hK
    try simp only [Act.put, List.setIfInBounds_toArray, List.set_cons_zero, List.set_cons_succ]
    refine wpAnyH_take (i := 11) (oi := ({ dst := some 39, op := Go.Op.indexAddr 83 (Go.Operand.tmp 28) (Go.Operand.tmp 30), type := 0, pos := _, after := _, guard := none } : Oper)) (v := ?_) rfl (by kernel_rfl) (by kernel_rfl) (by kernel_rfl) (fun _ _ _ h => h) (Or.inl ⟨by rfl, ?_⟩) (by assumption) ?_
    rotate_left
    · (intro w hSw; (try dsimp only at hSw); go_simp; try with_reducible rfl)
    simp only [Act.put, List.setIfInBounds_toArray, List.set_cons_zero, List.set_cons_succ]
    refine wpAnyH_ready (rs := [12]) (by kernel_rfl) (by simp) (AllReadyH.cons (o := ({ dst := none, op := Go.Op.store 24 (Go.Operand.tmp 39) (Go.Operand.tmp 38), type := 0, pos := _, after := _, guard := none } : Oper)) rfl (fun KK hK => ?_) AllReadyH.nil)
    go_simp
    refine hK.out _ _ hT5 (fun hHeld => ?_)
    clear hK
    try simp only [Act.put, List.setIfInBounds_toArray, List.set_cons_zero, List.set_cons_succ]
    refine wpAnyH_done (by kernel_rfl) ?_ _
    have hst := HST.out _ w4 hown' hg4 (hat.imp_right (fun e => ⟨_, e, by simp⟩))
    have hfin : KeepB w3.heap.size (w2.heap.size + 1) qb Wb (w4.setCell ⟨w1.heap.size + 1, c.length, none⟩ (.slice (some ⟨g5, 0, none⟩) ((fk c.length pre).length + 1) cap5)) ∧ (Exit.normal = Exit.normal ∧ J1 w w3 (w1.heap.size + 1) w2.heap.size ys.length (pre ++ [c]) (w4.setCell ⟨w1.heap.size + 1, c.length, none⟩ (.slice (some ⟨g5, 0, none⟩) ((fk c.length pre).length + 1) cap5)) ∨ Exit.normal = Exit.ret ∧ False) :=
      ⟨⟨by have := hst.2.2; omega, fun b hb => (hst.2.1 b (by have := HS3.out; have := HS2.out; have := HS1.out; omega) (by have := HS3.out; have := HS2.out; have := HS1.out; omega)).trans (hdk b)⟩, .inl ⟨rfl, hst.1⟩⟩
    exact hfin
  case fin =>
    rintro W hJ hD hz
    have hJs : w3.heap.size + 3 ≤ W.heap.size ∨ True := .inr trivial
    gi_wp2_with (first
      | (gi_at_make; refine wpListIn_make_full _ rfl _ _ 22 rfl W.heap.size 3 i3 (.int .i64 0) 1 under22b hi3 hz0 hz1 _ _ _ _ zs.length rfl rfl rfl rfl (by rw [hz2]; omega) (by unfold maxLen; omega) (Nat.le_refl _) ?_))
    intro W2 hown hg
    have hC2 : Blk W2 W.heap.size 3 ((List.replicate ys.length 0).map (Value.int .i64)) := by
      have := Blk.of_owns hown
      rw [made_rep] at this
      rw [List.map_replicate, ← HL.out]; simpa using this
    have hB2 : Below W.heap.size W W2 := ⟨hg.os, hg.tape, hg.output, hg.size, fun k hk => hg.block k hk (by simp)⟩
    have hC2s : W.heap.size < W2.heap.size := hC2.lt
    clear hown hg
    gi_wp2_with fail
    refine ⟨trivial, ?_⟩
    refine (cyclesOf_in _ _ _ _ _ _ rfl).mono ?_
    rintro e w5 ⟨rfl, rfl⟩
    gi_wp2_with fail
    obtain ⟨w5, hw5⟩ : ∃ w5, w5 = (W2.alloc (.cells #[.slice (some ⟨W.heap.size, 0, none⟩) zs.length zs.length] 22)).alloc (.cells #[.slice a zs.length cap] 22) := ⟨_, rfl⟩
    have hs5 : w5.heap.size = W2.heap.size + 2 := by rw [hw5]; simp
    have hB5 : Below W.heap.size W w5 := by rw [hw5]; exact (hB2.alloc hB2.size _).alloc (by simp; omega) _
    have hJ5 : J2 w w3 (w1.heap.size + 1) w2.heap.size W.heap.size W2.heap.size ys.length ys [] w5 := by
      refine J2.new hJ hD hB5 ?_ ?_
      · rw [hw5]; exact (hC2.alloc _).alloc _
      · rw [hw5, ← HL.out]; exact (Boxed.new W2 22 _).alloc _
    have hX5 : Boxed w5 (W2.heap.size + 1) 22 (.slice a zs.length cap) := by
      rw [hw5]
      have := Boxed.new (W2.alloc (.cells #[.slice (some ⟨W.heap.size, 0, none⟩) zs.length zs.length] 22)) 22 (.slice a zs.length cap)
      rw [World.size_alloc] at this; exact this
    have hr5 : Reads w5 a pb po zs := hr.below hJ5.bel hp
    rw [← hw5]
    have HS5 := hide hs5
    have HSC := hide hC2s
    have HSW := hide hz
    clear hw5 hs5 hC2 hB2 hC2s hJ hD hz
    refine cyc_range (W2.heap.size + 1) cap pb po a zs (J2 w w3 (w1.heap.size + 1) w2.heap.size W.heap.size W2.heap.size ys.length ys) (JX w w3 zs ys) (by rfl) (by decide) (by rfl) hX5 hr5 (by have := hJ5.bel.size; omega) HZ.out hzl'
      (fun _ _ _ h hA => h.apart (by have := HS3.out; have := HS2.out; omega) (by have := HS3.out; have := HS2.out; have := HS1.out; omega) (by have := HSW.out; have := HSC.out; omega) (by have := HS5.out; omega) h.b9.lt hA)
      (fun _ _ h hA => h.apart (by have := HS3.out; have := HS2.out; have := HS1.out; have := HSW.out; have := HSC.out; have := HS5.out; omega) (by have := HSW.out; have := HSC.out; have := HS5.out; omega) hA)
      hJ5 ?body2 ?fin2 ?out2
    case body2 =>
      rintro pre c post V gc cap9 hpc hcy hJ hown hgc1 hgc2 _ _
      gi_wp2
      refine ⟨trivial, ?_⟩
      rintro Vb hJb hown hgc hxb hpb
      have hq5 : w.heap.size + 1 < w1.heap.size ∧ w1.heap.size + 1 < w2.heap.size ∧ w2.heap.size + 2 = w3.heap.size ∧ w3.heap.size + 2 ≤ W.heap.size ∧ W.heap.size < W2.heap.size ∧ w5.heap.size = W2.heap.size + 2 := by have := HS1.out; have := HS2.out; have := HS3.out; have := HSW.out; have := HSC.out; have := HS5.out; omega
      have HQ := hide hq5
      obtain ⟨⟨M, lf, cz, vs, way, a2, a3, a4, a5⟩, b7, b9, b4, b5, dd, bel⟩ := hJb
      have hcm : c ∈ cyc zs := by rw [← hpc]; simp
      have hcn : c.length ≤ ys.length := by have := (cyc_pts HZ.out hcm).1; have := HL.out; omega
      have hway : Way ys zs.length pre lf cz M := by rw [HL.out]; exact way
      obtain ⟨v0, hvc, hlc⟩ := a4 c.length hcn
      have hT : Vb.cell? ⟨w2.heap.size, 0, none⟩ = some (.slice (some ⟨w1.heap.size + 1, 0, none⟩) (ys.length + 1) (ys.length + 1)) := b7.cell
      have hci : (c.length : Int) < (ys.length : Int) + 1 := by omega
      have hci2 : c.length < ys.length + 1 := by omega
      have hcl0 : Vb.cell? ⟨w1.heap.size + 1, c.length, none⟩ = some v0 := by rw [a3.cell]; exact hvc
      rcases hlf : lf c.length with _ | ⟨D, rest⟩
      · rw [hlf] at hlc
        obtain ⟨a0, c0, rfl⟩ := hlc.nilv
        have hsh := hway.none hpc hlf
        have hc4 := b4.cell
        have hf4 := b4.frozen
        obtain ⟨_, k0, k1, f0, f1, _, _⟩ := Two.mk' b5
        have HSH := hide hsh
        clear hpc hcy hJ hown hlf way hway a4 hlc hvc a5 b9 a3 hsh hq5
        gi_wp2
        obtain ⟨V3, hV3⟩ : ∃ V3, V3 = (((Vb.setCell ⟨w.heap.size, 0, none⟩ (.slice none 0 0)).setCell ⟨w.heap.size + 1, 0, none⟩ (.int .i64 6)).setCell ⟨w.heap.size + 1, 1, none⟩ (.int .i64 0)) := ⟨_, rfl⟩
        rw [← hV3]
        have hset : ∀ b : Nat, b ≠ w.heap.size → b ≠ w.heap.size + 1 → V3.heap[b]? = Vb.heap[b]? := fun b hb hb1 => by
          rw [hV3]; exact (Below.heap_setCell _ _ _ b hb1).trans ((Below.heap_setCell _ _ _ b hb1).trans (Below.heap_setCell _ _ _ b hb))
        have b4' : Boxed V3 w.heap.size 22 (.slice none 0 0) := by
          rw [hV3]; exact (Below.heap_setCell _ _ _ _ (by simp)).trans ((Below.heap_setCell _ _ _ _ (by simp)).trans (b4.set _))
        have b5' : Blk V3 (w.heap.size + 1) 26 [.int .i64 6, .int .i64 0] := by
          rw [hV3]; exact ((b5.other (by simp) _).set 0 _).set 1 _
        have bel' : Below w.heap.size w V3 := by
          rw [hV3]; exact ((bel.setCell (by simp) _).setCell (by simp) _).setCell (by simp) _
        have hz3 : V3.heap.size = Vb.heap.size := by rw [hV3]; simp
        clear hV3
        have hq5 := HQ.out
        have hd3 := (hset w3.heap.size (by omega) (by omega)).trans dd
        exact ⟨⟨by omega, fun b hb => hset b (by omega) (by omega)⟩, ⟨b4', b5', hd3, bel', HSH.out⟩⟩
      · rw [hlf] at hlc
        obtain ⟨g, d, k, g2, cap2, rfl, hk1, hk2, ho1, ho2, hcg, hcD, hnew⟩ := hlc.cons
        obtain ⟨hDl, hstep⟩ := hway.step HZ.out hpc hlf
        have hne : ((rest.length : Int) + 1 == 0) = false := by simp; omega
        have hne2 : ¬ ((rest.length : Int) + 1 = 0) := by omega
        have hcl : (c.length : Int) ≤ 1000 := by omega
        have hcx : ∀ j, j < c.length → Vb.cell? ⟨gc, j, none⟩ = some (.int .i64 ((c[j]?.getD 0 : Nat) : Int)) := fun j hj => by
          have := hown.cells (g := gc) rfl j (.int .i64 (c[j]?.getD 0 : Nat)) (by simp [pts, List.getElem?_eq_getElem hj])
          rwa [show (⟨gc, 0, none⟩ : Addr).add j = ⟨gc, j, none⟩ by unfold Addr.add; split <;> simp_all] at this
        have HWAY := hide way
        have HA2 := hide a2
        have HA3 := hide a3
        have HA4 := hide a4
        have HLF := hide hlf
        have HSTEP := hide hstep
        have HNEW := hide hnew
        have HCD := hide hcD
        have HCX := hide hcx
        have HCY := hide hcy
        have HDL := hide hDl
        have HO := hide (And.intro ho1 ho2)
        have HVC := hide hvc
        have H5 := hide b5
        have H4 := hide b4
        have H7 := hide b7
        have H9 := hide b9
        have HDD := hide dd
        have HBEL := hide bel
        have HXB := hide hxb
        clear hpc hcy hJ hown hlf way hway a4 hlc hvc a3 hq5 hstep hnew hcD hcx hDl ho1 ho2 b5 b4 b7 b9 dd bel hxb hpb a2
        gi_wp2
        gi_loopw [57] (fun iv wr => ∃ i : Nat, i ≤ c.length ∧ iv = .int .i64 i ∧ Blk wr W.heap.size 3 ((putTo cz c D i).map (Value.int .i64)) ∧ Vb.grownBy wr (some W.heap.size))
          (fun iv _ => c.length - (intOf iv).toNat)
        case atStart => exact ⟨0, Nat.zero_le _, rfl, a5, gb_refl _ _⟩
        case round =>
          obtain ⟨i, hi9, rfl, hPk, hgk⟩ := hrel
          have hq5 := HQ.out
          have ho1 := HO.out.1
          have ho2 := HO.out.2
          have hszk := hgk.size
          have hgcne : gc ≠ W.heap.size := by omega
          have hVb : Boxed wr W2.heap.size 22 (.slice (some ⟨W.heap.size, 0, none⟩) ys.length ys.length) := H9.out.kept hgk (by simp; omega)
          have hblk : ∀ b : Nat, b < Vb.heap.size → b ≠ W.heap.size → wr.heap[b]? = Vb.heap[b]? := fun b h1 h2 => hgk.block b h1 (by simp; exact h2)
          have hWlt : W2.heap.size < Vb.heap.size := H9.out.lt
          by_cases hlt : i < c.length
          · have hx : wr.cell? ⟨gc, i, none⟩ = some (.int .i64 ((c[i]?.getD 0 : Nat) : Int)) := (World.cell?_of_block (a := ⟨gc, i, none⟩) (hblk gc hgc hgcne)).trans (HCX.out i hlt)
            have hxl := HCY.out.lt _ (getD_mem (d := 0) hlt)
            have hxl2 : c[i]?.getD 0 < ys.length := by have := HL.out; omega
            have hDl := HDL.out
            have hcD : wr.drew.cell? ⟨g2, i, none⟩ = some (.int .i64 ((D[i]?.getD 0 : Nat) : Int)) := (World.cell?_of_block (a := ⟨g2, i, none⟩) (hblk g2 (by omega) (by omega))).trans (HCD.out i (by omega))
            have hcg' : wr.drew.cell? ⟨g, d, none⟩ = some (.slice (some ⟨g2, 0, none⟩) D.length cap2) := (World.cell?_of_block (a := ⟨g, d, none⟩) (hblk g (by omega) (by omega))).trans hcg
            have hc9 : wr.drew.cell? ⟨W2.heap.size, 0, none⟩ = some (.slice (some ⟨W.heap.size, 0, none⟩) ys.length ys.length) := hVb.cell
            have hput := putTo_len cz c D i
            have hczl := HWAY.out.len
            have hck := hPk.int (y := c[i]?.getD 0) (by rw [hput, hczl]; exact hxl2)
            have hfk := hPk.frozen (c[i]?.getD 0)
            have hPn := hPk.setInt (c[i]?.getD 0) ((D[i]?.getD 0 : Nat) : Int)
            rw [show (putTo cz c D i).set (c[i]?.getD 0) ((D[i]?.getD 0 : Nat) : Int) = putTo cz c D (i + 1) from rfl] at hPn
            have hgn : Vb.grownBy (wr.setCell ⟨W.heap.size, c[i]?.getD 0, none⟩ (.int .i64 ((D[i]?.getD 0 : Nat) : Int))) (some W.heap.size) := gb_trans hgk (gb_set wr W.heap.size _ _) (fun j e => by cases e; exact .inl rfl)
            generalize c[i]?.getD 0 = x at *
            generalize D[i]?.getD 0 = y at *
            generalize (putTo cz c D i)[x]?.getD 0 = old at *
            have hxi : (x : Int) < (ys.length : Int) := by omega
            have hii : (i : Int) < (D.length : Int) := by omega
            have hii2 : (i : Int) < (c.length : Int) := by omega
            have hckd : wr.drew.cell? ⟨W.heap.size, x, none⟩ = some (.int .i64 old) := hck
            have hfkd : wr.drew.frozen? ⟨W.heap.size, x, none⟩ = false := hfk
            have hPd : Blk (wr.drew.setCell ⟨W.heap.size, x, none⟩ (.int .i64 (y : Int))) W.heap.size 3 ((putTo cz c D (i + 1)).map (Value.int .i64)) := hPn
            have hgd : Vb.grownBy (wr.drew.setCell ⟨W.heap.size, x, none⟩ (.int .i64 (y : Int))) (some W.heap.size) := gb_drew' hgn
            have hS5 : (wr.drew.setCell ⟨W.heap.size, x, none⟩ (.int .i64 (y : Int))).cell? ⟨W2.heap.size, 0, none⟩ = some (.slice (some ⟨W.heap.size, 0, none⟩) ys.length ys.length) ∧ (wr.drew.setCell ⟨W.heap.size, x, none⟩ (.int .i64 (y : Int))).cell? ⟨g, d, none⟩ = some (.slice (some ⟨g2, 0, none⟩) D.length cap2) ∧ (wr.drew.setCell ⟨W.heap.size, x, none⟩ (.int .i64 (y : Int))).cell? ⟨g2, i, none⟩ = some (.int .i64 (y : Int)) := by
              refine ⟨?_, ?_, ?_⟩
              · rw [World.cell?_setCell_far _ _ _ _ (by simp; omega)]; exact hc9
              · rw [World.cell?_setCell_far _ _ _ _ (by simp; omega)]; exact hcg'
              · rw [World.cell?_setCell_far _ _ _ _ (by simp; omega)]; exact hcD
            have HPD := hide hPd
            have HGD := hide hgd
            have HS5' := hide hS5
            have HHI := hide hi9
            have HLT := hide hlt
            have HCI := hide hci
            clear hPk hgk hPn hgn hPd hgd hVb hblk hput hczl hxl hxl2 hDl hq5 ho1 ho2 hS5 hcg hszk
            gi_wp2
            refine region_round_held (S := fun V => V.cell? ⟨W2.heap.size, 0, none⟩ = some (.slice (some ⟨W.heap.size, 0, none⟩) ys.length ys.length) ∧ V.cell? ⟨g, d, none⟩ = some (.slice (some ⟨g2, 0, none⟩) D.length cap2) ∧ V.cell? ⟨g2, i, none⟩ = some (.int .i64 (y : Int))) (by kernel_rfl) (by kernel_rfl) (fun _ _ h => ?_) ⟨hc9, hcg', hcD⟩ (fun hHeld => ?_)
            · obtain ⟨_, ⟨h, _⟩ | ⟨h, _⟩⟩ : KeepB w5.heap.size (W2.heap.size + 1) pb Vb _ ∧ (Exit.outgrown = Exit.normal ∧ _ ∨ Exit.outgrown = Exit.ret ∧ _) := h
              · cases h
              · cases h
            refine wpAnyH_take (i := 0) (oi := ({ dst := some 62, op := Go.Op.load 22 (Go.Operand.tmp 9), type := 22, pos := _, after := _, guard := none } : Oper)) (v := ?_) rfl (by kernel_rfl) (by kernel_rfl) (by kernel_rfl) (fun _ _ _ h => h) (Or.inl ⟨by rfl, ?_⟩) (by assumption) ?_
            rotate_left
            · (intro w hSw; (try dsimp only at hSw); go_simp; try with_reducible rfl)
            simp only [Act.put, List.setIfInBounds_toArray, List.set_cons_zero, List.set_cons_succ]
            refine wpAnyH_take (i := 1) (oi := ({ dst := some 63, op := Go.Op.move (Go.Operand.tmp 13), type := 3, pos := _, after := _, guard := none } : Oper)) (v := ?_) rfl (by kernel_rfl) (by kernel_rfl) (by kernel_rfl) (fun _ _ _ h => h) (Or.inl ⟨by rfl, ?_⟩) (by assumption) ?_
            rotate_left
            · (intro w hSw; (try dsimp only at hSw); go_simp; try with_reducible rfl)
            simp only [Act.put, List.setIfInBounds_toArray, List.set_cons_zero, List.set_cons_succ]
            refine wpAnyH_take (i := 2) (oi := ({ dst := some 64, op := Go.Op.move (Go.Operand.tmp 11), type := 24, pos := _, after := _, guard := none } : Oper)) (v := ?_) rfl (by kernel_rfl) (by kernel_rfl) (by kernel_rfl) (fun _ _ _ h => h) (Or.inl ⟨by rfl, ?_⟩) (by assumption) ?_
            rotate_left
            · (intro w hSw; (try dsimp only at hSw); go_simp; try with_reducible rfl)
            simp only [Act.put, List.setIfInBounds_toArray, List.set_cons_zero, List.set_cons_succ]
            refine wpAnyH_take (i := 3) (oi := ({ dst := some 65, op := Go.Op.indexAddr 24 (Go.Operand.tmp 64) (Go.Operand.const (Go.Value.int Go.IntKind.i64 0)), type := 0, pos := _, after := _, guard := none } : Oper)) (v := ?_) rfl (by kernel_rfl) (by kernel_rfl) (by kernel_rfl) (fun _ _ _ h => h) (Or.inl ⟨by rfl, ?_⟩) (by assumption) ?_
            rotate_left
            · (intro w hSw; (try dsimp only at hSw); go_simp; try with_reducible rfl)
            simp only [Act.put, List.setIfInBounds_toArray, List.set_cons_zero, List.set_cons_succ]
            refine wpAnyH_take (i := 4) (oi := ({ dst := some 66, op := Go.Op.load 22 (Go.Operand.tmp 65), type := 22, pos := _, after := _, guard := none } : Oper)) (v := ?_) rfl (by kernel_rfl) (by kernel_rfl) (by kernel_rfl) (fun _ _ _ h => h) (Or.inl ⟨by rfl, ?_⟩) (by assumption) ?_
            rotate_left
            · (intro w hSw; (try dsimp only at hSw); go_simp; try with_reducible rfl)
            simp only [Act.put, List.setIfInBounds_toArray, List.set_cons_zero, List.set_cons_succ]
            refine wpAnyH_take (i := 5) (oi := ({ dst := some 67, op := Go.Op.move (Go.Operand.tmp 12), type := 3, pos := _, after := _, guard := none } : Oper)) (v := ?_) rfl (by kernel_rfl) (by kernel_rfl) (by kernel_rfl) (fun _ _ _ h => h) (Or.inl ⟨by rfl, ?_⟩) (by assumption) ?_
            rotate_left
            · (intro w hSw; (try dsimp only at hSw); go_simp; try with_reducible rfl)
            simp only [Act.put, List.setIfInBounds_toArray, List.set_cons_zero, List.set_cons_succ]
            refine wpAnyH_take (i := 6) (oi := ({ dst := some 68, op := Go.Op.indexAddr 22 (Go.Operand.tmp 66) (Go.Operand.tmp 67), type := 0, pos := _, after := _, guard := none } : Oper)) (v := ?_) rfl (by kernel_rfl) (by kernel_rfl) (by kernel_rfl) (fun _ _ _ h => h) (Or.inl ⟨by rfl, ?_⟩) (by assumption) ?_
            rotate_left
            · (intro w hSw; (try dsimp only at hSw); go_simp; try with_reducible rfl)
            simp only [Act.put, List.setIfInBounds_toArray, List.set_cons_zero, List.set_cons_succ]
            refine wpAnyH_take (i := 7) (oi := ({ dst := some 69, op := Go.Op.load 3 (Go.Operand.tmp 68), type := 3, pos := _, after := _, guard := none } : Oper)) (v := ?_) rfl (by kernel_rfl) (by kernel_rfl) (by kernel_rfl) (fun _ _ _ h => h) (Or.inl ⟨by rfl, ?_⟩) (by assumption) ?_
            rotate_left
            · (intro w hSw; (try dsimp only at hSw); go_simp; try with_reducible rfl)
            simp only [Act.put, List.setIfInBounds_toArray, List.set_cons_zero, List.set_cons_succ]
            refine wpAnyH_take (i := 8) (oi := ({ dst := some 70, op := Go.Op.indexAddr 22 (Go.Operand.tmp 62) (Go.Operand.tmp 63), type := 0, pos := _, after := _, guard := none } : Oper)) (v := ?_) rfl (by kernel_rfl) (by kernel_rfl) (by kernel_rfl) (fun _ _ _ h => h) (Or.inl ⟨by rfl, ?_⟩) (by assumption) ?_
            rotate_left
            · (intro w hSw; (try dsimp only at hSw); go_simp; try with_reducible rfl)
            simp only [Act.put, List.setIfInBounds_toArray, List.set_cons_zero, List.set_cons_succ]
            refine wpAnyH_ready (rs := [9]) (by kernel_rfl) (by simp) (AllReadyH.cons (o := ({ dst := none, op := Go.Op.store 3 (Go.Operand.tmp 70) (Go.Operand.tmp 69), type := 0, pos := _, after := _, guard := none } : Oper)) rfl (fun KK hK => ?_) AllReadyH.nil)
            go_simp
            refine hK.out _ _ HS5'.out (fun hHeld => ?_)
            clear hK
            try simp only [Act.put, List.setIfInBounds_toArray, List.set_cons_zero, List.set_cons_succ]
            refine wpAnyH_done (by kernel_rfl) ?_ _
            gi_wp2
            go_roundw
            case rel => exact ⟨i + 1, by have := HLT.out; omega, by go_num, HPD.out, HGD.out⟩
            case measure => have := HLT.out; simp [intOf]; omega
          · have hii : i = c.length := by omega
            subst hii
            have hT9 : Boxed wr w2.heap.size 83 (.slice (some ⟨w1.heap.size + 1, 0, none⟩) (ys.length + 1) (ys.length + 1)) := H7.out.kept hgk (by simp; omega)
            have hTd : wr.drew.cell? ⟨w2.heap.size, 0, none⟩ = some (.slice (some ⟨w1.heap.size + 1, 0, none⟩) (ys.length + 1) (ys.length + 1)) := hT9.cell
            have hLn : w1.heap.size + 1 ≠ W.heap.size := by omega
            have h3 : Blk wr (w1.heap.size + 1) 24 vs := HA3.out.of_eq (hblk _ HA3.out.lt hLn)
            have hcl9 : wr.drew.cell? ⟨w1.heap.size + 1, c.length, none⟩ = some (.slice (some ⟨g, d, none⟩) (rest.length + 1) k) := by
              have := h3.cell c.length
              rw [HVC.out] at this; exact this
            have hfl9 : wr.drew.frozen? ⟨w1.heap.size + 1, c.length, none⟩ = false := h3.frozen _
            have hk1i : (rest.length : Int) + 1 ≤ (k : Int) := by omega
            have hk2i : (1 : Int) ≤ (k : Int) := by omega
            have hr1 : (1 : Int) ≤ (rest.length : Int) + 1 := by omega
            have hT5 : (wr.drew.setCell ⟨w1.heap.size + 1, c.length, none⟩ (.slice (if k = 1 then some ⟨g, d, none⟩ else some ⟨g, d + 1, none⟩) rest.length (k - 1))).cell? ⟨w2.heap.size, 0, none⟩ = some (.slice (some ⟨w1.heap.size + 1, 0, none⟩) (ys.length + 1) (ys.length + 1)) := by rw [World.cell?_setCell_far _ _ _ _ (by simp; omega)]; exact hTd
            have HT5 := hide hT5
            clear hT5
            have HPK := hide hPk
            have HGK := hide hgk
            have HBK := hide hblk
            clear hPk hgk hblk hT9 hVb h3 hq5 ho1 ho2 hszk hcl0 hT hcg
            gi_wp2
            refine region_round_held (S := fun V => V.cell? ⟨w2.heap.size, 0, none⟩ = some (.slice (some ⟨w1.heap.size + 1, 0, none⟩) (ys.length + 1) (ys.length + 1))) (by kernel_rfl) (by kernel_rfl) (fun _ _ h => ?_) hTd (fun hHeld => ?_)
            · obtain ⟨_, ⟨h, _⟩ | ⟨h, _⟩⟩ : KeepB w5.heap.size (W2.heap.size + 1) pb Vb _ ∧ (Exit.outgrown = Exit.normal ∧ _ ∨ Exit.outgrown = Exit.ret ∧ _) := h
              · cases h
              · cases h
            refine wpAnyH_take (i := 0) (oi := ({ dst := some 72, op := Go.Op.load 83 (Go.Operand.tmp 7), type := 83, pos := _, after := _, guard := none } : Oper)) (v := ?_) rfl (by kernel_rfl) (by kernel_rfl) (by kernel_rfl) (fun _ _ _ h => h) (Or.inl ⟨by rfl, ?_⟩) (by assumption) ?_
            rotate_left
            · (intro w hSw; (try dsimp only at hSw); go_simp; try with_reducible rfl)
            simp only [Act.put, List.setIfInBounds_toArray, List.set_cons_zero, List.set_cons_succ]
            refine wpAnyH_take (i := 1) (oi := ({ dst := some 73, op := Go.Op.move (Go.Operand.tmp 10), type := 22, pos := _, after := _, guard := none } : Oper)) (v := ?_) rfl (by kernel_rfl) (by kernel_rfl) (by kernel_rfl) (fun _ _ _ h => h) (Or.inl ⟨by rfl, ?_⟩) (by assumption) ?_
            rotate_left
            · (intro w hSw; (try dsimp only at hSw); go_simp; try with_reducible rfl)
            simp only [Act.put, List.setIfInBounds_toArray, List.set_cons_zero, List.set_cons_succ]
            refine wpAnyH_take (i := 2) (oi := ({ dst := some 74, op := Go.Op.call { callee := Go.Callee.builtin Go.Builtin.len, args := #[Go.Operand.tmp 73], argTypes := #[22] }, type := 3, pos := _, after := _, guard := none } : Oper)) (v := ?_) rfl (by kernel_rfl) (by kernel_rfl) (by kernel_rfl) (fun _ _ _ h => h) (Or.inl ⟨by rfl, ?_⟩) (by assumption) ?_
            rotate_left
            · (intro w hSw; (try dsimp only at hSw); go_simp; try with_reducible rfl)
            simp only [Act.put, List.setIfInBounds_toArray, List.set_cons_zero, List.set_cons_succ]
            refine wpAnyH_take (i := 3) (oi := ({ dst := some 75, op := Go.Op.move (Go.Operand.tmp 11), type := 24, pos := _, after := _, guard := none } : Oper)) (v := ?_) rfl (by kernel_rfl) (by kernel_rfl) (by kernel_rfl) (fun _ _ _ h => h) (Or.inl ⟨by rfl, ?_⟩) (by assumption) ?_
            rotate_left
            · (intro w hSw; (try dsimp only at hSw); go_simp; try with_reducible rfl)
            simp only [Act.put, List.setIfInBounds_toArray, List.set_cons_zero, List.set_cons_succ]
            refine wpAnyH_take (i := 4) (oi := ({ dst := some 76, op := Go.Op.slice 24 (Go.Operand.tmp 75) (some (Go.Operand.const (Go.Value.int Go.IntKind.i64 1))) none none, type := 24, pos := _, after := _, guard := none } : Oper)) (v := (.slice (if k = 1 then some ⟨g, d, none⟩ else some ⟨g, d + 1, none⟩) rest.length (k - 1))) rfl (by kernel_rfl) (by kernel_rfl) (by kernel_rfl) (fun _ _ _ h => h) (Or.inl ⟨by rfl, ?_⟩) (by assumption) ?_
            · (intro w hSw; (try dsimp only at hSw); go_simp; try (first | with_reducible rfl | (simp; done) | omega | (simp; omega)))
            simp only [Act.put, List.setIfInBounds_toArray, List.set_cons_zero, List.set_cons_succ]
            refine wpAnyH_take (i := 5) (oi := ({ dst := some 77, op := Go.Op.indexAddr 83 (Go.Operand.tmp 72) (Go.Operand.tmp 74), type := 0, pos := _, after := _, guard := none } : Oper)) (v := ?_) rfl (by kernel_rfl) (by kernel_rfl) (by kernel_rfl) (fun _ _ _ h => h) (Or.inl ⟨by rfl, ?_⟩) (by assumption) ?_
            rotate_left
            · (intro w hSw; (try dsimp only at hSw); go_simp; try with_reducible rfl)
            simp only [Act.put, List.setIfInBounds_toArray, List.set_cons_zero, List.set_cons_succ]
            refine wpAnyH_ready (rs := [6]) (by kernel_rfl) (by simp) (AllReadyH.cons (o := ({ dst := none, op := Go.Op.store 24 (Go.Operand.tmp 77) (Go.Operand.tmp 76), type := 0, pos := _, after := _, guard := none } : Oper)) rfl (fun KK hK => ?_) AllReadyH.nil)
            go_simp
            refine hK.out _ _ HT5.out (fun hHeld => ?_)
            clear hK
            try simp only [Act.put, List.setIfInBounds_toArray, List.set_cons_zero, List.set_cons_succ]
            refine wpAnyH_done (by kernel_rfl) ?_ _
            have hq5 := HQ.out
            have hlc5 := HNEW.out (if k = 1 then some ⟨g, d, none⟩ else some ⟨g, d + 1, none⟩) (fun h0 => by rw [if_neg (by omega)])
            have way5 : Way ys ys.length (pre ++ [c]) (fun j => if j = c.length then rest else lf j) (putTo cz c D c.length) (M ++ [(c, D)]) := by rw [← HL.out]; exact HSTEP.out
            have hgd : Vb.grownBy wr.drew (some W.heap.size) := ⟨HGK.out.os, HGK.out.tape, HGK.out.output, HGK.out.size, HGK.out.block⟩
            have hst := J2.step (W5 := wr.drew) (v' := (.slice (if k = 1 then some ⟨g, d, none⟩ else some ⟨g, d + 1, none⟩) rest.length (k - 1))) (X := w2.heap.size) (X9 := W2.heap.size) (w := w) (w3 := w3) (L := w1.heap.size + 1) (by omega) (by omega) (by omega) (by omega) hcn way5 HA2.out HA3.out HA4.out H7.out H9.out H4.out H5.out HDD.out HBEL.out hlc5 hgd HPK.out
            have hfin : KeepB w5.heap.size (W2.heap.size + 1) pb Vb (wr.drew.setCell ⟨w1.heap.size + 1, c.length, none⟩ (.slice (if k = 1 then some ⟨g, d, none⟩ else some ⟨g, d + 1, none⟩) rest.length (k - 1))) ∧ (Exit.normal = Exit.normal ∧ J2 w w3 (w1.heap.size + 1) w2.heap.size W.heap.size W2.heap.size ys.length ys (pre ++ [c]) (wr.drew.setCell ⟨w1.heap.size + 1, c.length, none⟩ (.slice (if k = 1 then some ⟨g, d, none⟩ else some ⟨g, d + 1, none⟩) rest.length (k - 1))) ∨ Exit.normal = Exit.ret ∧ JX w w3 zs ys (wr.drew.setCell ⟨w1.heap.size + 1, c.length, none⟩ (.slice (if k = 1 then some ⟨g, d, none⟩ else some ⟨g, d + 1, none⟩) rest.length (k - 1)))) :=
              ⟨⟨hst.2.2, fun b hb => hst.2.1 b (by omega) (by omega) (by omega)⟩, .inl ⟨rfl, hst.1⟩⟩
            exact hfin
    case fin2 =>
      rintro V hJ hD hz
      obtain ⟨⟨M, lf, cz, vs, way, a2, a3, a4, a5⟩, b7, b9, b4, b5, dd, bel⟩ := hJ
      have hc9 := b9.cell
      have hc4 := b4.cell
      have hf4 := b4.frozen
      obtain ⟨_, c0, c1, f0, f1, s0, s1⟩ := Two.mk' b5
      gi_wp2
      have hq5 : w.heap.size + 1 < w3.heap.size ∧ w3.heap.size + 2 ≤ W.heap.size ∧ W.heap.size < W2.heap.size ∧ w5.heap.size = W2.heap.size + 2 := by have := HS1.out; have := HS2.out; have := HS3.out; have := HSW.out; have := HSC.out; have := HS5.out; omega
      obtain ⟨V3, hV3⟩ : ∃ V3, V3 = (((V.setCell ⟨w.heap.size, 0, none⟩ (.slice (some ⟨W.heap.size, 0, none⟩) ys.length ys.length)).setCell ⟨w.heap.size + 1, 0, none⟩ (.int .i64 0)).setCell ⟨w.heap.size + 1, 1, none⟩ (.int .i64 0)) := ⟨_, rfl⟩
      rw [← hV3]
      have hset : ∀ b : Nat, b ≠ w.heap.size → b ≠ w.heap.size + 1 → V3.heap[b]? = V.heap[b]? := fun b hb hb1 => by
        rw [hV3]; exact (Below.heap_setCell _ _ _ b hb1).trans ((Below.heap_setCell _ _ _ b hb1).trans (Below.heap_setCell _ _ _ b hb))
      have b4' : Boxed V3 w.heap.size 22 (.slice (some ⟨W.heap.size, 0, none⟩) ys.length ys.length) := by
        rw [hV3]; exact (Below.heap_setCell _ _ _ _ (by simp)).trans ((Below.heap_setCell _ _ _ _ (by simp)).trans (b4.set _))
      have b5' : Blk V3 (w.heap.size + 1) 26 [.int .i64 0, .int .i64 0] := by
        rw [hV3]; exact ((b5.other (by simp) _).set 0 _).set 1 _
      have bel' : Below w.heap.size w V3 := by
        rw [hV3]; exact ((bel.setCell (by simp) _).setCell (by simp) _).setCell (by simp) _
      clear hV3
      have hput : ∀ b : Nat, b ≠ w5.heap.size → b ≠ w3.heap.size → ((V3.putObj w5.heap.size (.deferred none)).putObj w3.heap.size (.deferred none)).heap[b]? = V3.heap[b]? := fun b h1 h2 => (World.putObj_heap_other h2).trans (World.putObj_heap_other h1)
      have hD3 : V3.heap[w5.heap.size]? = some (.deferred (some [])) := (hset _ (by omega) (by omega)).trans hD
      have hD4 : (V3.putObj w5.heap.size (.deferred none)).heap[w3.heap.size]? = some (.deferred (some [])) := (World.putObj_heap_other (by omega)).trans ((hset _ (by omega) (by omega)).trans dd)
      have k4 : Boxed ((V3.putObj w5.heap.size (.deferred none)).putObj w3.heap.size (.deferred none)) w.heap.size 22 (.slice (some ⟨W.heap.size, 0, none⟩) ys.length ys.length) := (hput _ (by omega) (by omega)).trans b4'
      have k5 : Blk ((V3.putObj w5.heap.size (.deferred none)).putObj w3.heap.size (.deferred none)) (w.heap.size + 1) 26 [.int .i64 0, .int .i64 0] := b5'.of_eq (hput _ (by omega) (by omega))
      have kC : Blk ((V3.putObj w5.heap.size (.deferred none)).putObj w3.heap.size (.deferred none)) W.heap.size 3 (cz.map (Value.int .i64)) := a5.of_eq ((hput _ (by omega) (by omega)).trans (hset _ (by omega) (by omega)))
      have kb : Below w.heap.size w ((V3.putObj w5.heap.size (.deferred none)).putObj w3.heap.size (.deferred none)) := bel'.trans ⟨rfl, rfl, rfl, by simp, fun k hk => hput k (by omega) (by omega)⟩
      have hway : Way ys zs.length (cyc zs) lf cz M := by rw [HL.out]; exact way
      obtain ⟨d1, d2, d3⟩ := hway.done HZ.out HY.out HL.out
      have dl := hway.len
      have k4c := k4.cell
      have k50 := k5.cell 0
      have k51 := k5.cell 1
      refine ⟨by simp, .inl ⟨_, _, rfl, run_takeDeferred hD3, ⟨by simp, .inl ⟨_, _, rfl, run_takeDeferred hD4, ?_⟩⟩⟩⟩
      exact ⟨.tuple #[.slice (some ⟨W.heap.size, 0, none⟩) ys.length ys.length, .agg #[.int .i64 0, .int .i64 0]], by simp [results, Tryd.results25, go_sem, k4c, k50, k51], .inl ⟨_, cz, rfl, Sl.of_blk kC (by rw [dl, HL.out]) (by omega), dl, d1, d2, d3, kb⟩⟩
    case out2 =>
      rintro V hJ hD hz
      obtain ⟨b4, b5, dd, bel, hsh⟩ := hJ
      gi_wp2
      have hq5 : w.heap.size + 1 < w3.heap.size ∧ w3.heap.size + 2 ≤ W.heap.size ∧ W.heap.size < W2.heap.size ∧ w5.heap.size = W2.heap.size + 2 := by have := HS1.out; have := HS2.out; have := HS3.out; have := HSW.out; have := HSC.out; have := HS5.out; omega
      have hput : ∀ b : Nat, b ≠ w5.heap.size → b ≠ w3.heap.size → ((V.putObj w5.heap.size (.deferred none)).putObj w3.heap.size (.deferred none)).heap[b]? = V.heap[b]? := fun b h1 h2 => (World.putObj_heap_other h2).trans (World.putObj_heap_other h1)
      have hD4 : (V.putObj w5.heap.size (.deferred none)).heap[w3.heap.size]? = some (.deferred (some [])) := (World.putObj_heap_other (by omega)).trans dd
      have k4 : Boxed ((V.putObj w5.heap.size (.deferred none)).putObj w3.heap.size (.deferred none)) w.heap.size 22 (.slice none 0 0) := (hput _ (by omega) (by omega)).trans b4
      have k5 : Blk ((V.putObj w5.heap.size (.deferred none)).putObj w3.heap.size (.deferred none)) (w.heap.size + 1) 26 [.int .i64 6, .int .i64 0] := b5.of_eq (hput _ (by omega) (by omega))
      have kb : Below w.heap.size w ((V.putObj w5.heap.size (.deferred none)).putObj w3.heap.size (.deferred none)) := bel.trans ⟨rfl, rfl, rfl, by simp, fun k hk => hput k (by omega) (by omega)⟩
      have k4c := k4.cell
      have k50 := k5.cell 0
      have k51 := k5.cell 1
      refine ⟨by simp, .inl ⟨_, _, rfl, run_takeDeferred hD, ⟨by simp, .inl ⟨_, _, rfl, run_takeDeferred hD4, ?_⟩⟩⟩⟩
      exact ⟨.tuple #[.slice none 0 0, .agg #[.int .i64 6, .int .i64 0]], by simp [results, Tryd.results25, go_sem, k4c, k50, k51], .inr ⟨rfl, hsh, kb⟩⟩
end Go.Proofs.YtjchmhngfnlbhaaDoor
