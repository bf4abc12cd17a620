/- What perm.Next answers at a permutation: that there is none, or the numbers that it has laid. No condition. -/
import Derived.Test.YtjchmhngfnlbhaaDoorNx3
import Derived.Test.YtjchmhngfnlbhaaDoorMul
namespace Go.Proofs.YtjchmhngfnlbhaaDoor
open Go Go.RowKit

/-- Where the numbers begin to fall, the place that is changed with the one ahead, and what has been laid. -/
structure Nxt (zs M : List Int) (s o : Nat) : Prop where
  s0 : 0 < s
  so : s ≤ o
  on : o < zs.length
  fall : ∀ j, s < j → j < zs.length → zs[j]?.getD 0 < zs[j - 1]?.getD 0
  up : zs[s - 1]?.getD 0 < zs[s]?.getD 0
  big : zs[s - 1]?.getD 0 < zs[o]?.getD 0
  small : ∀ t, o < t → t < zs.length → zs[t]?.getD 0 < zs[s - 1]?.getD 0
  len : M.length = zs.length
  low : ∀ t, t < s → M[t]?.getD 0 = ((zs.set (s - 1) (zs[o]?.getD 0)).set o (zs[s - 1]?.getD 0))[t]?.getD 0
  high : ∀ t, t < zs.length - s → M[s + t]?.getD 0 = ((zs.set (s - 1) (zs[o]?.getD 0)).set o (zs[s - 1]?.getD 0))[s + (zs.length - s - 1 - t)]?.getD 0

set_option maxRecDepth 100000 in
set_option maxHeartbeats 8000000 in
theorem next_ok (u : Value) (zs : List Int) (w : World) (hu : Sl w u zs) (hperm : IsPerm zs) (hl : zs.length ≤ 1000) :
    Calls Tryd.prog 30 #[u] w fun e w' => ((e = .returned (.tuple #[.slice none 0 0, .agg #[.int .i64 6, .int .i64 0]]) ∧ ∀ j, 0 < j → j < zs.length → zs[j]?.getD 0 < zs[j - 1]?.getD 0) ∨
      ∃ s o r M, e = .returned (.tuple #[r, .agg #[.int .i64 0, .int .i64 0]]) ∧ Sl w' r M ∧ Nxt zs M s o) ∧ Below w.heap.size w w' := by
  have hB0 : Below w.heap.size w (w.alloc (.cells #[.int .i64 0, .int .i64 0] 26)) := balloc w _
  have hu0 := hu.below hB0
  have T0 := Two.new w
  have htw := fault_of_perm hperm hl
  have hck := check_sl _ zs _ hu0
  rw [htw] at hck
  have HCK := hide hck
  have HP := hide hperm
  obtain ⟨ua, uc, rfl⟩ := hu.shp
  have hnl : (zs.length : Int) ≤ 1000 := by omega
  clear hperm htw hck hu0
  go_enter Tryd.func30, Tryd.ntmps30
  go_wp2_with fail
  refine HCK.out.mono ?_
  rintro e w1 ⟨rfl, hb1⟩
  have hB1 := bcat hB0 hb1 (by simp)
  have T1 := T0.below hb1
  have hs1 : w.heap.size < w1.heap.size := T1.blk.lt
  have T2 : Two (w1.alloc (.cells #[.int .i64 0, .int .i64 0] 26)) w.heap.size := T1.alloc _
  have F2 : Two (w1.alloc (.cells #[.int .i64 0, .int .i64 0] 26)) w1.heap.size := Two.new w1
  have hB2 : Below w.heap.size w (w1.alloc (.cells #[.int .i64 0, .int .i64 0] 26)) := hB1.alloc hB1.size _
  have hu2 := hu.below hB2
  obtain ⟨_, f0, f1, f2, f3, f4, f5⟩ := id F2
  obtain ⟨_, t0, t1, t2, t3, t4, t5⟩ := id T2
  clear hb1 HCK hB0 T0 T1 hB1
  go_wp2_with fail
  generalize (w1.alloc (.cells #[.int .i64 0, .int .i64 0] 26)) = w2 at *
  refine (start_ok _ zs w2 hu2 HP.out hl).mono ?_
  rintro e w3 ⟨⟨s, rfl, hs1', hfall, hup⟩, hb3⟩
  have hB3 := bcat hB2 hb3 hB2.size
  have T3 := T2.below hb3
  have hu3 := hu2.below hb3
  clear f0 f1 f2 f3 f4 f5 t0 t1 t2 t3 t4 t5
  rcases Nat.eq_zero_or_pos s with h0 | h0
  · subst h0
    obtain ⟨_, t0, t1, t2, t3, t4, t5⟩ := id T3
    have HFL := hide hfall
    clear hfall hup
    go_wp2
    have hR : Blk ((w3.setCell ⟨w.heap.size, 0, none⟩ (.int .i64 6)).setCell ⟨w.heap.size, 1, none⟩ (.int .i64 0)) w.heap.size 26 [.int .i64 6, .int .i64 0] := (T3.blk.set 0 _).set 1 _
    have hBf : Below w.heap.size w ((w3.setCell ⟨w.heap.size, 0, none⟩ (.int .i64 6)).setCell ⟨w.heap.size, 1, none⟩ (.int .i64 0)) := (hB3.setCell (Nat.le_refl _) _).setCell (Nat.le_refl _) _
    obtain ⟨W, hW⟩ : ∃ W, W = (w3.setCell ⟨w.heap.size, 0, none⟩ (.int .i64 6)).setCell ⟨w.heap.size, 1, none⟩ (.int .i64 0) := ⟨_, rfl⟩
    rw [← hW] at hR hBf ⊢
    obtain ⟨k0, k1, _, _⟩ := hR.two
    exact bodyPost_ret (v := .tuple #[.slice none 0 0, .agg #[.int .i64 6, .int .i64 0]]) (by simp [results, Tryd.results30, go_sem, k0, k1]) rfl ⟨.inl ⟨rfl, HFL.out⟩, hBf⟩
  · obtain ⟨n, hn⟩ : ∃ n, zs.length = n := ⟨_, rfl⟩
    have HN := hide hn
    have hsn : s < n := by omega
    have hupx : zs[s - 1]?.getD 0 < zs[s]?.getD 0 := by rcases hup with h | h
                                                        · omega
                                                        · exact h
    rw [hn] at hfall
    have HFL := hide hfall
    have HUP := hide hupx
    have hse : ((s : Int) == 0) = false := by simp; omega
    have hsne : ¬ (s : Int) = 0 := by omega
    have hsz : ¬ s = 0 := by omega
    have HC := hide (clone_ok _ zs w3 hu3 (by omega) hl)
    rw [hn] at HC hl hnl ⊢
    clear hfall hup hupx hs1' hn hu hu2 hu3
    go_wp2_with fail
    refine HC.out.mono ?_
    rintro e w4 ⟨⟨g, cap, rfl, hown⟩, hb4⟩
    have hB4 := bcat hB3 hb4 hB3.size
    have T4 := T3.below hb4
    obtain ⟨hcap, hcm, hgb, tl, hbk⟩ : n ≤ cap ∧ cap ≤ maxLen ∧ w3.heap.size ≤ g ∧ ∃ tl, Blk w4 g 3 (zs.map (Value.int .i64) ++ tl) := by
      rcases hown.2 with ⟨h, _⟩ | ⟨g', cap', cur, h, hg, hh, c1, c2, c3, c4⟩
      · cases h
      · cases h
        refine ⟨c1, c2, hg, cur.toList.drop (n * 1), ?_⟩
        rw [← c4, List.take_append_drop]
        exact hh
    have hg0 : w.heap.size < g := by have := hB3.size; have := T3.blk.lt; omega
    clear hown hb4 T3 T2 F2
    obtain ⟨q, hq⟩ : ∃ q, s - 1 = q := ⟨_, rfl⟩
    have hsq : (s : Int) - 1 = (q : Int) := by omega
    obtain ⟨p, hp⟩ : ∃ p, n - 1 = p := ⟨_, rfl⟩
    have hnp : (n : Int) - 1 = (p : Int) := by omega
    have HQ := hide hq
    have HPP := hide hp
    have hqn : q < n := by omega
    have hqi : (q : Int) < (n : Int) := by omega
    have hwq : IntKind.i64.wrap (q : Int) = (q : Int) := by rw [IntKind.wrap_i64]; omega
    have hwp : IntKind.i64.wrap (p : Int) = (p : Int) := by rw [IntKind.wrap_i64]; omega
    clear hq hp
    have hcell : ∀ (W : World), Blk W g 3 (zs.map (Value.int .i64) ++ tl) → ∀ t, t < n → W.cell? ⟨g, t, none⟩ = some (.int .i64 (zs[t]?.getD 0)) := fun W h t ht => by
      have := HN.out
      rw [h.cell, List.getElem?_append_left (by simp; omega), List.getElem?_map, List.getElem?_eq_getElem (by omega)]; rfl
    obtain ⟨y, hy⟩ : ∃ y, zs[q]?.getD 0 = y := ⟨_, rfl⟩
    have HY := hide hy
    go_wp2
    go_loopw [8] (fun ov wr => ∃ o : Nat, s ≤ o ∧ o < n ∧ ov = .int .i64 o ∧ (∀ t, o < t → t < n → zs[t]?.getD 0 < y) ∧ Below w4.heap.size w4 wr) (fun ov _ => (intOf ov).toNat)
    case atStart => exact ⟨p, by have := HPP.out; omega, by have := HPP.out; omega, rfl, fun t h1 h2 => by have := HPP.out; omega, Below.refl _ _⟩
    case round =>
      obtain ⟨o, hso, hon, rfl, hsm, hBr⟩ := hrel
      have hgl := hbk.lt
      have hbr : Blk wr g 3 (zs.map (Value.int .i64) ++ tl) := hbk.of_eq (hBr.block _ hgl)
      have c1 := hcell _ hbr o hon
      have c2 := hcell _ hbr q hqn
      rw [hy] at c2
      obtain ⟨x, hx⟩ : ∃ x, zs[o]?.getD 0 = x := ⟨_, rfl⟩
      rw [hx] at c1
      have HX := hide hx
      have HSM := hide hsm
      have hoi : (o : Int) < (n : Int) := by omega
      have c1d : wr.drew.cell? ⟨g, o, none⟩ = some (.int .i64 x) := c1
      have c2d : wr.drew.cell? ⟨g, q, none⟩ = some (.int .i64 y) := c2
      have hB9 := bdrew hBr
      have hbd : Blk wr.drew g 3 (zs.map (Value.int .i64) ++ tl) := hbr
      have HCELL := hide hcell
      clear hx hsm hcell hy
      by_cases hxy : x < y
      · have hos : s < o := by
          rcases Nat.lt_or_ge s o with h | h
          · exact h
          · obtain rfl : o = s := by omega
            have h1 := HUP.out
            rw [HQ.out, HY.out, HX.out] at h1
            omega
        go_wp2
        refine wp_region_held_drew (S := fun V => V.cell? ⟨g, o, none⟩ = some (.int .i64 x) ∧ V.cell? ⟨g, q, none⟩ = some (.int .i64 y)) (by kernel_rfl) ⟨c1d, c2d⟩ (fun hHeld => ?_)
        generalize wr.drew = wd at *
        refine wpAnyH_take (i := 0) (oi := ({ dst := some 27, op := Go.Op.move (Go.Operand.tmp 6), type := 22, pos := _, after := _, guard := none } : Oper)) (v := ?_) rfl (by kernel_rfl) (by kernel_rfl) (by kernel_rfl) (fun _ _ _ h => h) (Or.inl ⟨by rfl, ?_⟩) (by assumption) ?_
        rotate_left
        · (intro w hSw; (try dsimp only at hSw); go_simp; try with_reducible rfl)
        simp only [Act.put, List.setIfInBounds_toArray, List.set_cons_zero, List.set_cons_succ]
        refine wpAnyH_take (i := 1) (oi := ({ dst := some 28, op := Go.Op.move (Go.Operand.tmp 8), type := 3, pos := _, after := _, guard := none } : Oper)) (v := ?_) rfl (by kernel_rfl) (by kernel_rfl) (by kernel_rfl) (fun _ _ _ h => h) (Or.inl ⟨by rfl, ?_⟩) (by assumption) ?_
        rotate_left
        · (intro w hSw; (try dsimp only at hSw); go_simp; try with_reducible rfl)
        simp only [Act.put, List.setIfInBounds_toArray, List.set_cons_zero, List.set_cons_succ]
        refine wpAnyH_take (i := 2) (oi := ({ dst := some 29, op := Go.Op.indexAddr 22 (Go.Operand.tmp 27) (Go.Operand.tmp 28), type := 0, pos := _, after := _, guard := none } : Oper)) (v := ?_) rfl (by kernel_rfl) (by kernel_rfl) (by kernel_rfl) (fun _ _ _ h => h) (Or.inl ⟨by rfl, ?_⟩) (by assumption) ?_
        rotate_left
        · (intro w hSw; (try dsimp only at hSw); go_simp; try with_reducible rfl)
        simp only [Act.put, List.setIfInBounds_toArray, List.set_cons_zero, List.set_cons_succ]
        refine wpAnyH_take (i := 3) (oi := ({ dst := some 30, op := Go.Op.load 3 (Go.Operand.tmp 29), type := 3, pos := _, after := _, guard := none } : Oper)) (v := ?_) rfl (by kernel_rfl) (by kernel_rfl) (by kernel_rfl) (fun _ _ _ h => h) (Or.inl ⟨by rfl, ?_⟩) (by assumption) ?_
        rotate_left
        · (intro w hSw; (try dsimp only at hSw); go_simp; try with_reducible rfl)
        simp only [Act.put, List.setIfInBounds_toArray, List.set_cons_zero, List.set_cons_succ]
        refine wpAnyH_take (i := 4) (oi := ({ dst := some 31, op := Go.Op.move (Go.Operand.tmp 6), type := 22, pos := _, after := _, guard := none } : Oper)) (v := ?_) rfl (by kernel_rfl) (by kernel_rfl) (by kernel_rfl) (fun _ _ _ h => h) (Or.inl ⟨by rfl, ?_⟩) (by assumption) ?_
        rotate_left
        · (intro w hSw; (try dsimp only at hSw); go_simp; try with_reducible rfl)
        simp only [Act.put, List.setIfInBounds_toArray, List.set_cons_zero, List.set_cons_succ]
        refine wpAnyH_take (i := 5) (oi := ({ dst := some 32, op := Go.Op.move (Go.Operand.tmp 7), type := 3, pos := _, after := _, guard := none } : Oper)) (v := ?_) rfl (by kernel_rfl) (by kernel_rfl) (by kernel_rfl) (fun _ _ _ h => h) (Or.inl ⟨by rfl, ?_⟩) (by assumption) ?_
        rotate_left
        · (intro w hSw; (try dsimp only at hSw); go_simp; try with_reducible rfl)
        simp only [Act.put, List.setIfInBounds_toArray, List.set_cons_zero, List.set_cons_succ]
        refine wpAnyH_take (i := 6) (oi := ({ dst := some 33, op := Go.Op.indexAddr 22 (Go.Operand.tmp 31) (Go.Operand.tmp 32), type := 0, pos := _, after := _, guard := none } : Oper)) (v := ?_) rfl (by kernel_rfl) (by kernel_rfl) (by kernel_rfl) (fun _ _ _ h => h) (Or.inl ⟨by rfl, ?_⟩) (by assumption) ?_
        rotate_left
        · (intro w hSw; (try dsimp only at hSw); go_simp; try with_reducible rfl)
        simp only [Act.put, List.setIfInBounds_toArray, List.set_cons_zero, List.set_cons_succ]
        refine wpAnyH_take (i := 7) (oi := ({ dst := some 34, op := Go.Op.load 3 (Go.Operand.tmp 33), type := 3, pos := _, after := _, guard := none } : Oper)) (v := ?_) rfl (by kernel_rfl) (by kernel_rfl) (by kernel_rfl) (fun _ _ _ h => h) (Or.inl ⟨by rfl, ?_⟩) (by assumption) ?_
        rotate_left
        · (intro w hSw; (try dsimp only at hSw); go_simp; try with_reducible rfl)
        simp only [Act.put, List.setIfInBounds_toArray, List.set_cons_zero, List.set_cons_succ]
        refine wpAnyH_take (i := 8) (oi := ({ dst := some 35, op := Go.Op.binOp Go.BinOp.lss 3 (Go.Operand.tmp 30) (Go.Operand.tmp 34) 3, type := 4, pos := _, after := _, guard := none } : Oper)) (v := ?_) rfl (by kernel_rfl) (by kernel_rfl) (by kernel_rfl) (fun _ _ _ h => h) (Or.inl ⟨by rfl, ?_⟩) (by assumption) ?_
        rotate_left
        · (intro w hSw; (try dsimp only at hSw); go_simp; try with_reducible rfl)
        simp only [Act.put, List.setIfInBounds_toArray, List.set_cons_zero, List.set_cons_succ]
        refine wpAnyH_done (by kernel_rfl) ?_ _
        obtain ⟨o1, rfl⟩ : ∃ o1, o = o1 + 1 := ⟨o - 1, by omega⟩
        go_wp2
        go_roundw
        case rel => exact ⟨o1, by omega, by omega, by go_num, fun t h1 h2 => by
          by_cases e : t = o1 + 1
          · subst e; rw [HX.out]; exact hxy
          · exact HSM.out t (by omega) h2, hB9⟩
        case measure => simp [intOf]
      · have hyx : y < x := by
          have h1 := HP.out.2 q o (by have := HQ.out; omega) (by rw [HN.out]; exact hon)
          rw [HY.out, HX.out] at h1
          omega
        go_wp2
        refine wp_region_held_drew (S := fun V => V.cell? ⟨g, o, none⟩ = some (.int .i64 x) ∧ V.cell? ⟨g, q, none⟩ = some (.int .i64 y)) (by kernel_rfl) ⟨c1d, c2d⟩ (fun hHeld => ?_)
        generalize wr.drew = wd at *
        refine wpAnyH_take (i := 0) (oi := ({ dst := some 27, op := Go.Op.move (Go.Operand.tmp 6), type := 22, pos := _, after := _, guard := none } : Oper)) (v := ?_) rfl (by kernel_rfl) (by kernel_rfl) (by kernel_rfl) (fun _ _ _ h => h) (Or.inl ⟨by rfl, ?_⟩) (by assumption) ?_
        rotate_left
        · (intro w hSw; (try dsimp only at hSw); go_simp; try with_reducible rfl)
        simp only [Act.put, List.setIfInBounds_toArray, List.set_cons_zero, List.set_cons_succ]
        refine wpAnyH_take (i := 1) (oi := ({ dst := some 28, op := Go.Op.move (Go.Operand.tmp 8), type := 3, pos := _, after := _, guard := none } : Oper)) (v := ?_) rfl (by kernel_rfl) (by kernel_rfl) (by kernel_rfl) (fun _ _ _ h => h) (Or.inl ⟨by rfl, ?_⟩) (by assumption) ?_
        rotate_left
        · (intro w hSw; (try dsimp only at hSw); go_simp; try with_reducible rfl)
        simp only [Act.put, List.setIfInBounds_toArray, List.set_cons_zero, List.set_cons_succ]
        refine wpAnyH_take (i := 2) (oi := ({ dst := some 29, op := Go.Op.indexAddr 22 (Go.Operand.tmp 27) (Go.Operand.tmp 28), type := 0, pos := _, after := _, guard := none } : Oper)) (v := ?_) rfl (by kernel_rfl) (by kernel_rfl) (by kernel_rfl) (fun _ _ _ h => h) (Or.inl ⟨by rfl, ?_⟩) (by assumption) ?_
        rotate_left
        · (intro w hSw; (try dsimp only at hSw); go_simp; try with_reducible rfl)
        simp only [Act.put, List.setIfInBounds_toArray, List.set_cons_zero, List.set_cons_succ]
        refine wpAnyH_take (i := 3) (oi := ({ dst := some 30, op := Go.Op.load 3 (Go.Operand.tmp 29), type := 3, pos := _, after := _, guard := none } : Oper)) (v := ?_) rfl (by kernel_rfl) (by kernel_rfl) (by kernel_rfl) (fun _ _ _ h => h) (Or.inl ⟨by rfl, ?_⟩) (by assumption) ?_
        rotate_left
        · (intro w hSw; (try dsimp only at hSw); go_simp; try with_reducible rfl)
        simp only [Act.put, List.setIfInBounds_toArray, List.set_cons_zero, List.set_cons_succ]
        refine wpAnyH_take (i := 4) (oi := ({ dst := some 31, op := Go.Op.move (Go.Operand.tmp 6), type := 22, pos := _, after := _, guard := none } : Oper)) (v := ?_) rfl (by kernel_rfl) (by kernel_rfl) (by kernel_rfl) (fun _ _ _ h => h) (Or.inl ⟨by rfl, ?_⟩) (by assumption) ?_
        rotate_left
        · (intro w hSw; (try dsimp only at hSw); go_simp; try with_reducible rfl)
        simp only [Act.put, List.setIfInBounds_toArray, List.set_cons_zero, List.set_cons_succ]
        refine wpAnyH_take (i := 5) (oi := ({ dst := some 32, op := Go.Op.move (Go.Operand.tmp 7), type := 3, pos := _, after := _, guard := none } : Oper)) (v := ?_) rfl (by kernel_rfl) (by kernel_rfl) (by kernel_rfl) (fun _ _ _ h => h) (Or.inl ⟨by rfl, ?_⟩) (by assumption) ?_
        rotate_left
        · (intro w hSw; (try dsimp only at hSw); go_simp; try with_reducible rfl)
        simp only [Act.put, List.setIfInBounds_toArray, List.set_cons_zero, List.set_cons_succ]
        refine wpAnyH_take (i := 6) (oi := ({ dst := some 33, op := Go.Op.indexAddr 22 (Go.Operand.tmp 31) (Go.Operand.tmp 32), type := 0, pos := _, after := _, guard := none } : Oper)) (v := ?_) rfl (by kernel_rfl) (by kernel_rfl) (by kernel_rfl) (fun _ _ _ h => h) (Or.inl ⟨by rfl, ?_⟩) (by assumption) ?_
        rotate_left
        · (intro w hSw; (try dsimp only at hSw); go_simp; try with_reducible rfl)
        simp only [Act.put, List.setIfInBounds_toArray, List.set_cons_zero, List.set_cons_succ]
        refine wpAnyH_take (i := 7) (oi := ({ dst := some 34, op := Go.Op.load 3 (Go.Operand.tmp 33), type := 3, pos := _, after := _, guard := none } : Oper)) (v := ?_) rfl (by kernel_rfl) (by kernel_rfl) (by kernel_rfl) (fun _ _ _ h => h) (Or.inl ⟨by rfl, ?_⟩) (by assumption) ?_
        rotate_left
        · (intro w hSw; (try dsimp only at hSw); go_simp; try with_reducible rfl)
        simp only [Act.put, List.setIfInBounds_toArray, List.set_cons_zero, List.set_cons_succ]
        refine wpAnyH_take (i := 8) (oi := ({ dst := some 35, op := Go.Op.binOp Go.BinOp.lss 3 (Go.Operand.tmp 30) (Go.Operand.tmp 34) 3, type := 4, pos := _, after := _, guard := none } : Oper)) (v := ?_) rfl (by kernel_rfl) (by kernel_rfl) (by kernel_rfl) (fun _ _ _ h => h) (Or.inl ⟨by rfl, ?_⟩) (by assumption) ?_
        rotate_left
        · (intro w hSw; (try dsimp only at hSw); go_simp; try with_reducible rfl)
        simp only [Act.put, List.setIfInBounds_toArray, List.set_cons_zero, List.set_cons_succ]
        refine wpAnyH_done (by kernel_rfl) ?_ _
        have hfq := hbd.frozen q
        have hfo := hbd.frozen o
        have hLn := HN.out
        have hP2 := (hbd.set q (.int .i64 x)).set o (.int .i64 y)
        have hse2 : ((zs.map (Value.int .i64) ++ tl).set q (.int .i64 x)).set o (.int .i64 y) = ((zs.set q x).set o y).map (Value.int .i64) ++ tl := by
          rw [List.set_append_left _ _ (by simp; omega), List.set_append_left _ _ (by simp; omega), List.map_set, List.map_set]
        rw [hse2] at hP2
        have hPd : Blk ((wd.setCell ⟨g, q, none⟩ (.int .i64 x)).setCell ⟨g, o, none⟩ (.int .i64 y)).drew g 3 (((zs.set q x).set o y).map (Value.int .i64) ++ tl) := hP2
        have hne : ¬ q = o := by have := HQ.out; omega
        have hne2 : ¬ o = q := fun e => hne e.symm
        have hlw := T4.blk.lt
        have hB5 := bcat hB4 hB9 hB4.size
        have hT5 : Blk wd w.heap.size 26 [.int .i64 0, .int .i64 0] := T4.blk.of_eq (hB9.block _ hlw)
        have hT6 : Blk ((wd.setCell ⟨g, q, none⟩ (.int .i64 x)).setCell ⟨g, o, none⟩ (.int .i64 y)).drew w.heap.size 26 [.int .i64 0, .int .i64 0] := (hT5.other (p := ⟨g, q, none⟩) (by simp; omega) _).other (p := ⟨g, o, none⟩) (by simp; omega) _
        have hB6 : Below w.heap.size w ((wd.setCell ⟨g, q, none⟩ (.int .i64 x)).setCell ⟨g, o, none⟩ (.int .i64 y)).drew := bdrew ((hB5.setCell (p := ⟨g, q, none⟩) (by simp; omega) _).setCell (p := ⟨g, o, none⟩) (by simp; omega) _)
        have hcs : ¬ cap = s := by omega
        have hsi1 : (s : Int) ≤ (n : Int) := by omega
        have hsi2 : (s : Int) ≤ (cap : Int) := by omega
        have hsi3 : (n : Int) ≤ (cap : Int) := by omega
        have HREV := hide (reverse_ok g s (n - s) (cap - s) ((zs.set q x).set o y) tl _ hPd (by simp; omega) (by simp; omega))
        have HT6 := hide hT6
        have HB6 := hide hB6
        have HYX := hide hyx
        have HCM := hide hcm
        clear hP2 hse2 hPd hT5 hT6 hB5 hB6 hLn hbd hbr hBr hHeld hbk hcm hyx
        go_wp2
        go_region
        go_wp2_with fail
        refine HREV.out.mono ?_
        rintro e w8 ⟨rfl, ⟨M, m1, m2, m3, m4⟩, hg8⟩
        have hT8 : Blk w8 w.heap.size 26 [.int .i64 0, .int .i64 0] := HT6.out.grown hg8 (by simp; omega)
        have hB8 : Below w.heap.size w w8 := HB6.out.grown hg8 (by have := HB6.out.size; exact this) (fun b e => by cases e; omega)
        obtain ⟨_, t0, t1, t2, t3, t4, t5⟩ := Two.mk' hT8
        have hML : M.length = n := by rw [m1]; simp; exact HN.out
        have hSl : Sl w8 (.slice (some ⟨g, 0, none⟩) n cap) M := ⟨_, cap, g, 0, by rw [hML], ⟨fun _ => rfl, fun j hj => by
          rw [Nat.zero_add, m4.cell, List.getElem?_append_left (by simpa using hj), List.getElem?_map, List.getElem?_eq_getElem hj]; rfl⟩, m4.lt, by omega, HCM.out⟩
        have hNx : Nxt zs M s o := ⟨h0, hso, by rw [HN.out]; exact hon, fun j h1 h2 => HFL.out j h1 (by rw [← HN.out]; exact h2), HUP.out, by rw [HQ.out, HY.out, HX.out]; exact HYX.out,
          fun t h1 h2 => by rw [HQ.out, HY.out]; exact HSM.out t h1 (by rw [← HN.out]; exact h2), by simpa using m1, fun t ht => by rw [HQ.out, HY.out, HX.out]; exact m2 t ht, fun t ht => by rw [HQ.out, HY.out, HX.out, HN.out]; exact m3 t (by rw [← HN.out]; exact ht)⟩
        have HSL := hide hSl
        have HNX := hide hNx
        clear m1 m2 m3 m4 hML hSl hNx
        go_wp2
        exact bodyPost_ret (v := .tuple #[.slice (some ⟨g, 0, none⟩) n cap, .agg #[.int .i64 0, .int .i64 0]]) (by simp [results, Tryd.results30, go_sem, t0, t1]) rfl ⟨.inr ⟨s, o, _, M, rfl, HSL.out, HNX.out⟩, hB8⟩
end Go.Proofs.YtjchmhngfnlbhaaDoor
