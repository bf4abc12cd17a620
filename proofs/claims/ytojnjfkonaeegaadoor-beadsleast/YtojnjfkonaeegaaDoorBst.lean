/- What the law's closure tells: by how much the list is turned, where it is least. -/
import Derived.Test.YtojnjfkonaeegaaDoorLem
namespace Go.Proofs.YtojnjfkonaeegaaDoor
open Go Go.RowKit

set_option maxRecDepth 100000 in
set_option maxHeartbeats 8000000 in
theorem best_ok (bw cap : Nat) (a0 : Option Addr) (zs : List Int) (w : World) (hbx : Boxed w bw 22 (.slice a0 zs.length cap)) (hv : Sl w (.slice a0 zs.length cap) zs) (h0 : 0 < zs.length) (hsm : zs.length ≤ 100000) :
    Calls Tryd.prog 12 #[.pointer (some ⟨bw, 0, none⟩)] w fun e w' => ∃ b : Nat, e = .returned (.int .i64 b) ∧ Bst zs zs.length b ∧ Below w.heap.size w w' := by
  have hcb := hbx.cell
  have hlb := hbx.lt
  have HV := hide hv
  have HX := hide hbx
  clear hv hbx
  go_enter Tryd.func12, Tryd.ntmps12
  go_wp2
  go_loopw [2, 3] (fun c i wr => ∃ k b : Nat, 1 ≤ k ∧ k ≤ zs.length ∧ i = .int .i64 k ∧ c = .int .i64 b ∧ b < k ∧ Below w.heap.size w wr ∧ Bst zs k b) (fun _ i _ => zs.length - (intOf i).toNat)
  case atStart => exact ⟨1, 0, by omega, by omega, rfl, rfl, by omega, Below.refl _ _, Bst.one zs⟩
  case round =>
    obtain ⟨k, b, hk1, hk, rfl, rfl, hbk, hB, hbst⟩ := hrel
    have HB := hide hbst
    clear hbst hcb
    have hcw := (Boxed.below HX.out hB).cell
    by_cases hlt : k < zs.length
    · have hki : (k : Int) < (zs.length : Int) := by omega
      have hS : ∀ W, Below wr.drew.heap.size wr.drew W → (Below wr.drew.heap.size wr.drew W ∧ W.cell? ⟨bw, 0, none⟩ = some (.slice a0 zs.length cap)) := fun W h =>
        ⟨h, (Boxed.below (Boxed.below HX.out (bdrew hB)) h).cell⟩
      have hsd : Sl wr.drew (.slice a0 zs.length cap) zs := HV.out.below (bdrew hB)
      have hBd : Below w.heap.size w wr.drew := bdrew hB
      go_wp2_with fail
      refine wp_region_held_drew (S := fun W => Below wr.drew.heap.size wr.drew W ∧ W.cell? ⟨bw, 0, none⟩ = some (.slice a0 zs.length cap)) (by kernel_rfl) (hS _ (Below.refl _ _)) (fun hHeld => ?_)
      clear hcw hB
      generalize wr.drew = wd at *
      have hBr : Below wd.heap.size wd wd := Below.refl _ _
      refine wpAnyH_take (i := 0) (oi := ({ dst := some 10, op := Go.Op.load 22 (Go.Operand.tmp 0), type := 22, pos := _, after := _, guard := none } : Oper)) (v := ?_) rfl (by kernel_rfl) (by kernel_rfl) (by kernel_rfl) (fun _ _ _ h => h) (Or.inl ⟨by rfl, ?_⟩) (by assumption) ?_
      rotate_left
      · (intro w hSw; (try dsimp only at hSw); go_simp; try with_reducible rfl)
      simp only [Act.put, List.setIfInBounds_toArray, List.set_cons_zero, List.set_cons_succ]
      refine wpAnyH_take (i := 1) (oi := ({ dst := some 11, op := Go.Op.move (Go.Operand.tmp 3), type := 3, pos := _, after := _, guard := none } : Oper)) (v := ?_) rfl (by kernel_rfl) (by kernel_rfl) (by kernel_rfl) (fun _ _ _ h => h) (Or.inl ⟨by rfl, ?_⟩) (by assumption) ?_
      rotate_left
      · (intro w hSw; (try dsimp only at hSw); go_simp; try with_reducible rfl)
      simp only [Act.put, List.setIfInBounds_toArray, List.set_cons_zero, List.set_cons_succ]
      refine wpAnyH_take (i := 3) (oi := ({ dst := some 13, op := Go.Op.load 22 (Go.Operand.tmp 0), type := 22, pos := _, after := _, guard := none } : Oper)) (v := ?_) rfl (by kernel_rfl) (by kernel_rfl) (by kernel_rfl) (fun _ _ _ h => h) (Or.inl ⟨by rfl, ?_⟩) (by assumption) ?_
      rotate_left
      · (intro w hSw; (try dsimp only at hSw); go_simp; try with_reducible rfl)
      simp only [Act.put, List.setIfInBounds_toArray, List.set_cons_zero, List.set_cons_succ]
      refine wpAnyH_take (i := 4) (oi := ({ dst := some 14, op := Go.Op.move (Go.Operand.tmp 2), type := 3, pos := _, after := _, guard := none } : Oper)) (v := ?_) rfl (by kernel_rfl) (by kernel_rfl) (by kernel_rfl) (fun _ _ _ h => h) (Or.inl ⟨by rfl, ?_⟩) (by assumption) ?_
      rotate_left
      · (intro w hSw; (try dsimp only at hSw); go_simp; try with_reducible rfl)
      simp only [Act.put, List.setIfInBounds_toArray, List.set_cons_zero, List.set_cons_succ]
      refine wpAnyH_ready (rs := [2]) (by kernel_rfl) (by simp) (AllReadyH.cons (o := ({ dst := some 12, op := Go.Op.call { callee := Go.Callee.value (Go.Operand.func 14), args := #[Go.Operand.tmp 10, Go.Operand.tmp 11], argTypes := #[22, 3] }, type := 22, pos := _, after := _, guard := none } : Oper)) rfl (fun KK hK => ?_) AllReadyH.nil)
      go_simp
      refine (from_ok _ zs k wd (hsd.below hBr) (by omega) hsm).mono ?_
      rintro e W1 ⟨r1, rfl, hr1, hb1⟩
      obtain ⟨oa1, oc1, rfl⟩ := hr1.slice
      have hBz1 := bcat2 hBr hb1
      have hs1 := hr1.sl (show 0 < W1.heap.size by have := hBz1.size; have := hsd.pos; omega)
      try go_wp2_with fail
      refine hK.out _ _ (hS _ hBz1) (fun hHeld => ?_)
      clear hK
      try simp only [Act.put, List.setIfInBounds_toArray, List.set_cons_zero, List.set_cons_succ]
      refine wpAnyH_ready (rs := [5]) (by kernel_rfl) (by simp) (AllReadyH.cons (o := ({ dst := some 15, op := Go.Op.call { callee := Go.Callee.value (Go.Operand.func 14), args := #[Go.Operand.tmp 13, Go.Operand.tmp 14], argTypes := #[22, 3] }, type := 22, pos := _, after := _, guard := none } : Oper)) rfl (fun KK hK => ?_) AllReadyH.nil)
      go_simp
      refine (from_ok _ zs b W1 (hsd.below hBz1) (by omega) hsm).mono ?_
      rintro e W2 ⟨r2, rfl, hr2, hb2⟩
      obtain ⟨oa2, oc2, rfl⟩ := hr2.slice
      have hBz2 := bcat2 hBz1 hb2
      have hs2 := hr2.sl (show 0 < W2.heap.size by have := hBz2.size; have := hsd.pos; omega)
      have hs12 := hs1.below hb2
      try go_wp2_with fail
      refine hK.out _ _ (hS _ hBz2) (fun hHeld => ?_)
      clear hK
      try simp only [Act.put, List.setIfInBounds_toArray, List.set_cons_zero, List.set_cons_succ]
      refine wpAnyH_ready (rs := [6]) (by kernel_rfl) (by simp) (AllReadyH.cons (o := ({ dst := some 16, op := Go.Op.call { callee := Go.Callee.value (Go.Operand.func 13), args := #[Go.Operand.tmp 12, Go.Operand.tmp 15], argTypes := #[22, 22] }, type := 4, pos := _, after := _, guard := none } : Oper)) rfl (fun KK hK => ?_) AllReadyH.nil)
      go_simp
      refine (less_ok _ _ (trn zs k) (trn zs b) W2 hs12 hs2 (by rw [trn_len zs k (by omega), trn_len zs b (by omega)])).mono ?_
      rintro e W3 ⟨⟨x3, rfl, hx3⟩, j3, rfl⟩
      have hBz3 := bdrewN hBz2 j3
      try go_wp2_with fail
      refine hK.out _ _ (hS _ hBz3) (fun hHeld => ?_)
      clear hK
      try simp only [Act.put, List.setIfInBounds_toArray, List.set_cons_zero, List.set_cons_succ]
      refine wpAnyH_done (by kernel_rfl) ?_ _
      rw [lss_iff zs (by omega) (by omega)] at hx3
      have HY := hide hx3
      have hBe := bcat hBd hBz3 hBd.size
      clear hx3
      cases x3 with
      | true =>
        go_wp2
        go_roundw
        case rel => exact ⟨k + 1, k, by omega, by omega, by go_num, rfl, by omega, hBe, HB.out.move (HY.out.1 rfl)⟩
        case measure => simp [intOf]; omega
      | false =>
        go_wp2
        go_roundw
        case rel => exact ⟨k + 1, b, by omega, by omega, by go_num, rfl, by omega, hBe, HB.out.stay (fun h => by have := HY.out.2 h; cases this)⟩
        case measure => simp [intOf]; omega
    · have hki : ¬ (k : Int) < (zs.length : Int) := by omega
      have hke : k = zs.length := by omega
      have hb := HB.out
      rw [hke] at hb
      have HB2 := hide hb
      clear hb
      go_wp2
      go_ret
      exact ⟨b, rfl, HB2.out, hB⟩

end Go.Proofs.YtojnjfkonaeegaaDoor
