/- The law BeadsLeast. -/
import Derived.Test.YtojnjfkonaeegaaDoorBst
import Derived.Test.YtojnjfkonaeegaaDoorBgn
namespace Go.Proofs.YtojnjfkonaeegaaDoor
open Go Go.RowKit
open YtojnjfkonaeegaaDoorQ (Tab)

set_option maxRecDepth 100000 in
set_option maxHeartbeats 8000000 in
theorem ll_long (v : Value) (zs : List Int) (w : World) (hv : Sl w v zs) (htab : Tab w.heap.size w) (hl : 3000 < zs.length) :
    Calls Tryd.prog 3 #[v] w fun e w' => e = .returned (.bool true) ∧ Below w.heap.size w w' := by
  have hli : (3000 : Int) < (zs.length : Int) := by omega
  obtain ⟨a, cap, pb, po, rfl, hr, hp, hc1, hm1⟩ := id hv
  have hB0 : Below w.heap.size w (w.alloc (.cells #[.slice a zs.length cap] 22)) := balloc w _
  have hX0 := Boxed.new w 22 (.slice a zs.length cap)
  have HV := hide hv
  have HBG := hide (begun_any _ (Tab.up htab hB0))
  clear hv
  go_enter Tryd.func3, Tryd.ntmps3
  go_wp2_with fail
  refine HBG.out.mono ?_
  rintro e w1 ⟨rfl, hb1, hp1⟩
  have hB1 := bcat hB0 hb1 (by simp)
  have hX1 := Boxed.below hX0 hb1
  have hcx1 := hX1.cell
  have hlx1 := hX1.lt
  clear HBG hB0 hX0 hb1
  go_wp2
  go_ret
  exact ⟨rfl, hB1⟩

set_option maxRecDepth 100000 in
set_option maxHeartbeats 8000000 in
theorem ll_bad (v : Value) (zs : List Int) (w : World) (hv : Sl w v zs) (htab : Tab w.heap.size w) (hl : zs.length ≤ 3000) (hc : wfc zs ≠ 0) :
    Calls Tryd.prog 3 #[v] w fun e w' => e = .returned (.bool true) ∧ Below w.heap.size w w' := by
  have hli : ¬ (3000 : Int) < (zs.length : Int) := by omega
  have hli2 : (zs.length : Int) ≤ 3000 := by omega
  have HC := hide hc
  clear hc
  obtain ⟨a, cap, pb, po, rfl, hr, hp, hc1, hm1⟩ := id hv
  have hB0 : Below w.heap.size w (w.alloc (.cells #[.slice a zs.length cap] 22)) := balloc w _
  have hX0 := Boxed.new w 22 (.slice a zs.length cap)
  have HV := hide hv
  have HBG := hide (begun_any _ (Tab.up htab hB0))
  clear hv
  go_enter Tryd.func3, Tryd.ntmps3
  go_wp2_with fail
  refine HBG.out.mono ?_
  rintro e w1 ⟨rfl, hb1, hp1⟩
  have hB1 := bcat hB0 hb1 (by simp)
  have hX1 := Boxed.below hX0 hb1
  have hcx1 := hX1.cell
  have hlx1 := hX1.lt
  clear HBG hB0 hX0 hb1
  have hs1 := HV.out.below hB1
  have HO := hide (own_any _ zs w1 hs1 (by omega))
  go_wp2_with fail
  refine HO.out.mono ?_
  rintro e w2 ⟨r, rfl, hr2, hb2⟩
  obtain ⟨oa, oc, rfl⟩ := own_slice hr2
  have hB2 := bcat hB1 hb2 hB1.size
  have hX2 := Boxed.below hX1 hb2
  have hso : Sl w2 (.slice oa zs.length oc) zs := Sl.of_own hr2 (by have := hb2.size; omega)
  have HL := hide (least_bad _ zs w2 hso HC.out)
  have HI := hide (lfault_any (.slice a zs.length cap) zs)
  obtain ⟨c, hc⟩ : ∃ c, wfc zs = c := ⟨_, rfl⟩
  obtain ⟨d, hd⟩ : ∃ d, wfa zs = d := ⟨_, rfl⟩
  rw [hc] at HC
  rw [hc, hd] at HL HI
  clear hc hd
  clear HO hr2 hb2 hs1 hso hX1 hB1 hcx1
  go_wp2_with fail
  refine HL.out.mono ?_
  rintro e w3 ⟨rfl, hb3⟩
  have hX3 := Boxed.below hX2 hb3
  have hX4 := hX3.alloc (.cells #[.int .i64 c, .int .i64 d] 25)
  have hB3 := bcat hB2 hb3 hB2.size
  have hB4 := hB3.alloc hB3.size (.cells #[.int .i64 c, .int .i64 d] 25)
  have hF4 : Blk (w3.alloc (.cells #[.int .i64 c, .int .i64 d] 25)) w3.heap.size 25 [.int .i64 c, .int .i64 d] := World.alloc_heap_new w3 _
  clear HL hX2 hB2 hX3 hB3 hb3
  go_wp2_with fail
  generalize (w3.alloc (.cells #[.int .i64 c, .int .i64 d] 25)) = w4 at *
  have hX6 : Boxed w4.drew w.heap.size 22 (.slice a zs.length cap) := hX4
  have hF6 : Blk w4.drew w3.heap.size 25 [.int .i64 c, .int .i64 d] := hF4
  have hB6 : Below w.heap.size w w4.drew := bdrew hB4
  have hS : ∀ W, Below w4.drew.heap.size w4.drew W → (Below w4.drew.heap.size w4.drew W ∧ W.cell? ⟨w.heap.size, 0, none⟩ = some (.slice a zs.length cap) ∧ W.cell? ⟨w3.heap.size, 0, none⟩ = some (.int .i64 c) ∧ W.cell? ⟨w3.heap.size, 1, none⟩ = some (.int .i64 d)) := fun W h =>
    ⟨h, (Boxed.below hX6 h).cell, (hF6.of_eq (h.block _ hF6.lt)).cell 0, (hF6.of_eq (h.block _ hF6.lt)).cell 1⟩
  clear hX4 hF4 hB4
  refine wp_region_held_drew (S := fun W => Below w4.drew.heap.size w4.drew W ∧ W.cell? ⟨w.heap.size, 0, none⟩ = some (.slice a zs.length cap) ∧ W.cell? ⟨w3.heap.size, 0, none⟩ = some (.int .i64 c) ∧ W.cell? ⟨w3.heap.size, 1, none⟩ = some (.int .i64 d)) (by kernel_rfl) (hS _ (Below.refl _ _)) (fun hHeld => ?_)
  generalize w4.drew = wd at *
  have hsd := HV.out.below hB6
  refine wpAnyH_take (i := 0) (oi := ({ dst := some 16, op := Go.Op.move (Go.Operand.tmp 3), type := 3, pos := _, after := _, guard := none } : Oper)) (v := ?_) rfl (by kernel_rfl) (by kernel_rfl) (by kernel_rfl) (fun _ _ _ h => h) (Or.inl ⟨by rfl, ?_⟩) (by assumption) ?_
  rotate_left
  · (intro w hSw; (try dsimp only at hSw); go_simp; try with_reducible rfl)
  simp only [Act.put, List.setIfInBounds_toArray, List.set_cons_zero, List.set_cons_succ]
  refine wpAnyH_take (i := 1) (oi := ({ dst := some 17, op := Go.Op.load 25 (Go.Operand.tmp 4), type := 25, pos := _, after := _, guard := none } : Oper)) (v := ?_) rfl (by kernel_rfl) (by kernel_rfl) (by kernel_rfl) (fun _ _ _ h => h) (Or.inl ⟨by rfl, ?_⟩) (by assumption) ?_
  rotate_left
  · (intro w hSw; (try dsimp only at hSw); go_simp; try with_reducible rfl)
  simp only [Act.put, List.setIfInBounds_toArray, List.set_cons_zero, List.set_cons_succ]
  refine wpAnyH_take (i := 2) (oi := ({ dst := some 18, op := Go.Op.load 22 (Go.Operand.tmp 1), type := 22, pos := _, after := _, guard := none } : Oper)) (v := ?_) rfl (by kernel_rfl) (by kernel_rfl) (by kernel_rfl) (fun _ _ _ h => h) (Or.inl ⟨by rfl, ?_⟩) (by assumption) ?_
  rotate_left
  · (intro w hSw; (try dsimp only at hSw); go_simp; try with_reducible rfl)
  simp only [Act.put, List.setIfInBounds_toArray, List.set_cons_zero, List.set_cons_succ]
  refine wpAnyH_take (i := 4) (oi := ({ dst := some 20, op := Go.Op.makeFunc (Go.Fn.func 12) #[] #[Go.Operand.tmp 1], type := 33, pos := _, after := _, guard := none } : Oper)) (v := ?_) rfl (by kernel_rfl) (by kernel_rfl) (by kernel_rfl) (fun _ _ _ h => h) (Or.inl ⟨by rfl, ?_⟩) (by assumption) ?_
  rotate_left
  · (intro w hSw; (try dsimp only at hSw); go_simp; try with_reducible rfl)
  simp only [Act.put, List.setIfInBounds_toArray, List.set_cons_zero, List.set_cons_succ]
  refine wpAnyH_ready (rs := [3]) (by kernel_rfl) (by simp) (AllReadyH.cons (o := ({ dst := some 19, op := Go.Op.call { callee := Go.Callee.value (Go.Operand.func 11), args := #[Go.Operand.tmp 18], argTypes := #[22] }, type := 25, pos := _, after := _, guard := none } : Oper)) rfl (fun KK hK => ?_) AllReadyH.nil)
  go_simp
  refine (HI.out wd hsd).mono ?_
  rintro e W1 ⟨rfl, hb1⟩
  try go_wp2_with fail
  refine hK.out _ _ (hS _ hb1) (fun hHeld => ?_)
  clear hK
  try simp only [Act.put, List.setIfInBounds_toArray, List.set_cons_zero, List.set_cons_succ]
  refine wpAnyH_ready (rs := [5]) (by kernel_rfl) (by simp) (AllReadyH.cons (o := ({ dst := some 21, op := Go.Op.call { callee := Go.Callee.value (Go.Operand.func 10), args := #[Go.Operand.tmp 16, Go.Operand.tmp 17, Go.Operand.tmp 19, Go.Operand.tmp 20], argTypes := #[3, 25, 25, 33] }, type := 4, pos := _, after := _, guard := none } : Oper)) rfl (fun KK hK => ?_) AllReadyH.nil)
  go_simp
  refine (las_bad 12 #[.pointer (some ⟨w.heap.size, 0, none⟩)] c d W1 HC.out).mono ?_
  rintro e W2 ⟨rfl, hb2⟩
  try go_wp2_with fail
  refine hK.out _ _ (hS _ (bcat2 hb1 hb2)) (fun hHeld => ?_)
  clear hK
  try simp only [Act.put, List.setIfInBounds_toArray, List.set_cons_zero, List.set_cons_succ]
  refine wpAnyH_take (i := 6) (oi := ({ dst := some 2, op := Go.Op.assign (Go.Operand.tmp 21), type := 4, pos := _, after := _, guard := none } : Oper)) (v := ?_) rfl (by kernel_rfl) (by kernel_rfl) (by kernel_rfl) (fun _ _ _ h => h) (Or.inl ⟨by rfl, ?_⟩) (by assumption) ?_
  rotate_left
  · (intro w hSw; (try dsimp only at hSw); go_simp; try with_reducible rfl)
  simp only [Act.put, List.setIfInBounds_toArray, List.set_cons_zero, List.set_cons_succ]
  refine wpAnyH_done (by kernel_rfl) ?_ _
  have hBe := bcat hB6 (bcat2 hb1 hb2) hB6.size
  go_wp2
  go_ret
  exact ⟨rfl, hBe⟩

set_option maxRecDepth 100000 in
set_option maxHeartbeats 8000000 in
theorem ll_good (v : Value) (zs : List Int) (w : World) (hv : Sl w v zs) (htab : Tab w.heap.size w) (hl : zs.length ≤ 3000) (hw : Wd zs) :
    Calls Tryd.prog 3 #[v] w fun e w' => e = .returned (.bool true) ∧ Below w.heap.size w w' := by
  have hli : ¬ (3000 : Int) < (zs.length : Int) := by omega
  have hli2 : (zs.length : Int) ≤ 3000 := by omega
  have HW := hide hw
  clear hw
  obtain ⟨a, cap, pb, po, rfl, hr, hp, hc1, hm1⟩ := id hv
  have hB0 : Below w.heap.size w (w.alloc (.cells #[.slice a zs.length cap] 22)) := balloc w _
  have hX0 := Boxed.new w 22 (.slice a zs.length cap)
  have HV := hide hv
  have HBG := hide (begun_any _ (Tab.up htab hB0))
  clear hv
  go_enter Tryd.func3, Tryd.ntmps3
  go_wp2_with fail
  refine HBG.out.mono ?_
  rintro e w1 ⟨rfl, hb1, hp1⟩
  have hB1 := bcat hB0 hb1 (by simp)
  have hX1 := Boxed.below hX0 hb1
  have hcx1 := hX1.cell
  have hlx1 := hX1.lt
  clear HBG hB0 hX0 hb1
  have hs1 := HV.out.below hB1
  have HO := hide (own_any _ zs w1 hs1 (by omega))
  go_wp2_with fail
  refine HO.out.mono ?_
  rintro e w2 ⟨r, rfl, hr2, hb2⟩
  obtain ⟨oa, oc, rfl⟩ := own_slice hr2
  have hB2 := bcat hB1 hb2 hB1.size
  have hX2 := Boxed.below hX1 hb2
  have hso : Sl w2 (.slice oa zs.length oc) zs := Sl.of_own hr2 (by have := hb2.size; omega)
  have HL := hide (least_good _ zs (zs ++ zs) rfl w2 hso HW.out)
  obtain ⟨N, hN⟩ : ∃ N, (firstLongest (fls (X (zs ++ zs)) (zs ++ zs).length (zs ++ zs).length 0) (0, 0)).1 = N := ⟨_, rfl⟩
  rw [hN] at HL
  have HN := hide hN
  clear hN
  clear HO hr2 hb2 hs1 hso hX1 hB1 hcx1
  go_wp2_with fail
  refine HL.out.mono ?_
  rintro e w3 ⟨rfl, hb3⟩
  have hX3 := Boxed.below hX2 hb3
  have hX4 := hX3.alloc (.cells #[.int .i64 0, .int .i64 0] 25)
  have hB3 := bcat hB2 hb3 hB2.size
  have hB4 := hB3.alloc hB3.size (.cells #[.int .i64 0, .int .i64 0] 25)
  have hF4 : Blk (w3.alloc (.cells #[.int .i64 0, .int .i64 0] 25)) w3.heap.size 25 [.int .i64 0, .int .i64 0] := World.alloc_heap_new w3 _
  clear HL hX2 hB2 hX3 hB3 hb3
  go_wp2_with fail
  generalize (w3.alloc (.cells #[.int .i64 0, .int .i64 0] 25)) = w4 at *
  have hX6 : Boxed w4.drew w.heap.size 22 (.slice a zs.length cap) := hX4
  have hF6 : Blk w4.drew w3.heap.size 25 [.int .i64 0, .int .i64 0] := hF4
  have hB6 : Below w.heap.size w w4.drew := bdrew hB4
  have hS : ∀ W, Below w4.drew.heap.size w4.drew W → (Below w4.drew.heap.size w4.drew W ∧ W.cell? ⟨w.heap.size, 0, none⟩ = some (.slice a zs.length cap) ∧ W.cell? ⟨w3.heap.size, 0, none⟩ = some (.int .i64 0) ∧ W.cell? ⟨w3.heap.size, 1, none⟩ = some (.int .i64 0)) := fun W h =>
    ⟨h, (Boxed.below hX6 h).cell, (hF6.of_eq (h.block _ hF6.lt)).cell 0, (hF6.of_eq (h.block _ hF6.lt)).cell 1⟩
  clear hX4 hF4 hB4
  refine wp_region_held_drew (S := fun W => Below w4.drew.heap.size w4.drew W ∧ W.cell? ⟨w.heap.size, 0, none⟩ = some (.slice a zs.length cap) ∧ W.cell? ⟨w3.heap.size, 0, none⟩ = some (.int .i64 0) ∧ W.cell? ⟨w3.heap.size, 1, none⟩ = some (.int .i64 0)) (by kernel_rfl) (hS _ (Below.refl _ _)) (fun hHeld => ?_)
  generalize w4.drew = wd at *
  have hsd := HV.out.below hB6
  refine wpAnyH_take (i := 0) (oi := ({ dst := some 16, op := Go.Op.move (Go.Operand.tmp 3), type := 3, pos := _, after := _, guard := none } : Oper)) (v := ?_) rfl (by kernel_rfl) (by kernel_rfl) (by kernel_rfl) (fun _ _ _ h => h) (Or.inl ⟨by rfl, ?_⟩) (by assumption) ?_
  rotate_left
  · (intro w hSw; (try dsimp only at hSw); go_simp; try with_reducible rfl)
  simp only [Act.put, List.setIfInBounds_toArray, List.set_cons_zero, List.set_cons_succ]
  refine wpAnyH_take (i := 1) (oi := ({ dst := some 17, op := Go.Op.load 25 (Go.Operand.tmp 4), type := 25, pos := _, after := _, guard := none } : Oper)) (v := ?_) rfl (by kernel_rfl) (by kernel_rfl) (by kernel_rfl) (fun _ _ _ h => h) (Or.inl ⟨by rfl, ?_⟩) (by assumption) ?_
  rotate_left
  · (intro w hSw; (try dsimp only at hSw); go_simp; try with_reducible rfl)
  simp only [Act.put, List.setIfInBounds_toArray, List.set_cons_zero, List.set_cons_succ]
  refine wpAnyH_take (i := 2) (oi := ({ dst := some 18, op := Go.Op.load 22 (Go.Operand.tmp 1), type := 22, pos := _, after := _, guard := none } : Oper)) (v := ?_) rfl (by kernel_rfl) (by kernel_rfl) (by kernel_rfl) (fun _ _ _ h => h) (Or.inl ⟨by rfl, ?_⟩) (by assumption) ?_
  rotate_left
  · (intro w hSw; (try dsimp only at hSw); go_simp; try with_reducible rfl)
  simp only [Act.put, List.setIfInBounds_toArray, List.set_cons_zero, List.set_cons_succ]
  refine wpAnyH_take (i := 4) (oi := ({ dst := some 20, op := Go.Op.makeFunc (Go.Fn.func 12) #[] #[Go.Operand.tmp 1], type := 33, pos := _, after := _, guard := none } : Oper)) (v := ?_) rfl (by kernel_rfl) (by kernel_rfl) (by kernel_rfl) (fun _ _ _ h => h) (Or.inl ⟨by rfl, ?_⟩) (by assumption) ?_
  rotate_left
  · (intro w hSw; (try dsimp only at hSw); go_simp; try with_reducible rfl)
  simp only [Act.put, List.setIfInBounds_toArray, List.set_cons_zero, List.set_cons_succ]
  refine wpAnyH_ready (rs := [3]) (by kernel_rfl) (by simp) (AllReadyH.cons (o := ({ dst := some 19, op := Go.Op.call { callee := Go.Callee.value (Go.Operand.func 11), args := #[Go.Operand.tmp 18], argTypes := #[22] }, type := 25, pos := _, after := _, guard := none } : Oper)) rfl (fun KK hK => ?_) AllReadyH.nil)
  go_simp
  refine (lfault_any _ zs wd hsd).mono ?_
  rintro e W1 ⟨rfl, hb1⟩
  rw [HW.out.code.1, HW.out.code.2]
  try go_wp2_with fail
  refine hK.out _ _ (hS _ hb1) (fun hHeld => ?_)
  clear hK
  try simp only [Act.put, List.setIfInBounds_toArray, List.set_cons_zero, List.set_cons_succ]
  refine wpAnyH_ready (rs := [5]) (by kernel_rfl) (by simp) (AllReadyH.cons (o := ({ dst := some 21, op := Go.Op.call { callee := Go.Callee.value (Go.Operand.func 10), args := #[Go.Operand.tmp 16, Go.Operand.tmp 17, Go.Operand.tmp 19, Go.Operand.tmp 20], argTypes := #[3, 25, 25, 33] }, type := 4, pos := _, after := _, guard := none } : Oper)) rfl (fun KK hK => ?_) AllReadyH.nil)
  go_simp
  have hk : ∀ W, Below W1.heap.size W1 W → Calls Tryd.prog 12 #[.pointer (some ⟨w.heap.size, 0, none⟩)] W fun e w' => e = .returned (.int .i64 (N : Nat)) ∧ Below W.heap.size W w' := fun W hW => by
    have hbb := bcat2 hb1 hW
    refine (best_ok w.heap.size cap a zs W (Boxed.below hX6 hbb) (hsd.below hbb) HW.out.pos (by omega)).mono ?_
    rintro e w' ⟨b, rfl, hbst, hbw⟩
    exact ⟨by rw [← HN.out, least_eq hbst], hbw⟩
  refine (las_good 12 #[.pointer (some ⟨w.heap.size, 0, none⟩)] (N : Nat) W1 (fun W => enters_of Tryd.func12 (by kernel_rfl) rfl _ W) hk).mono ?_
  rintro e W2 ⟨rfl, hb2⟩
  try go_wp2_with fail
  refine hK.out _ _ (hS _ (bcat2 hb1 hb2)) (fun hHeld => ?_)
  clear hK
  try simp only [Act.put, List.setIfInBounds_toArray, List.set_cons_zero, List.set_cons_succ]
  refine wpAnyH_take (i := 6) (oi := ({ dst := some 2, op := Go.Op.assign (Go.Operand.tmp 21), type := 4, pos := _, after := _, guard := none } : Oper)) (v := ?_) rfl (by kernel_rfl) (by kernel_rfl) (by kernel_rfl) (fun _ _ _ h => h) (Or.inl ⟨by rfl, ?_⟩) (by assumption) ?_
  rotate_left
  · (intro w hSw; (try dsimp only at hSw); go_simp; try with_reducible rfl)
  simp only [Act.put, List.setIfInBounds_toArray, List.set_cons_zero, List.set_cons_succ]
  refine wpAnyH_done (by kernel_rfl) ?_ _
  have hBe := bcat hB6 (bcat2 hb1 hb2) hB6.size
  go_wp2
  go_ret
  exact ⟨rfl, hBe⟩

theorem least_law (v : Value) (zs : List Int) (w : World) (hv : Sl w v zs) (htab : Tab w.heap.size w) :
    Calls Tryd.prog 3 #[v] w fun e w' => e = .returned (.bool true) ∧ Below w.heap.size w w' := by
  by_cases hl : zs.length ≤ 3000
  · rcases code_cases zs with h | h
    · exact ll_good v zs w hv htab hl h
    · exact ll_bad v zs w hv htab hl h
  · exact ll_long v zs w hv htab (by omega)

end Go.Proofs.YtojnjfkonaeegaaDoor
