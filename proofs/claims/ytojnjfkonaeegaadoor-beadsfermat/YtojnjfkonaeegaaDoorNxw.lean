/- What beads.next writes: the word behind a word, in its memory. -/
import Derived.Test.YtojnjfkonaeegaaDoorNxm
namespace Go.Proofs.YtojnjfkonaeegaaDoor
open Go Go.RowKit

set_option maxRecDepth 100000 in
set_option maxHeartbeats 4000000 in
theorem next_ok (g B n k : Nat) (ws : List Int) (w : World) (h0 : 0 < ws.length) (hn : ws.length ≤ n) (hn2 : n ≤ 1000) (hk : k ≤ 1000) (hlow : Low k ws) (how : w.ownsRow B 3 1 (.slice (some ⟨g, 0, none⟩) ws.length n) ws.length (ws.map (Value.int .i64))) :
    Calls Tryd.prog 72 #[.slice (some ⟨g, 0, none⟩) ws.length n, .int .i64 n, .int .i64 k] w fun e w' => e = .returned (.slice (some ⟨g, 0, none⟩) (nxt n k ws).length n) ∧
      w'.ownsRow B 3 1 (.slice (some ⟨g, 0, none⟩) (nxt n k ws).length n) (nxt n k ws).length ((nxt n k ws).map (Value.int .i64)) ∧ w.grownBy w' (some g) := by
  obtain ⟨i3, hi3, hy0, hy1, hy2⟩ := info_parts info3b
  have hkw : IntKind.i64.wrap ((k : Int) - 1) = (k : Int) - 1 := by rw [IntKind.wrap_i64]; omega
  have HLOW := hide hlow
  clear hlow
  go_enter Tryd.func72, Tryd.ntmps72
  go_wp2
  go_loopw [0, 7] (fun v i wr => ∃ (j : Nat) (xs : List Int), i = .int .i64 j ∧ v = .slice (some ⟨g, 0, none⟩) xs.length n ∧ xs = ext ws j ∧ xs.length ≤ n ∧ wr.ownsRow B 3 1 (.slice (some ⟨g, 0, none⟩) xs.length n) xs.length (xs.map (Value.int .i64)) ∧ w.grownBy wr (some g)) (fun v _ _ => n - lenOf v)
  case atStart => exact ⟨0, ws, rfl, rfl, rfl, hn, how, gb_refl _ _⟩
  case round =>
    obtain ⟨j, xs, rfl, rfl, hxs, hxl, hox, hg⟩ := hrel
    have hle := ext_len ws j
    rw [← hxs] at hle
    have HX := hide hxs
    clear hxs
    by_cases hlt : xs.length < n
    · have hli : (xs.length : Int) < (n : Int) := by omega
      have hcx := own_get hox (i := j) (by omega)
      have hji : (j : Int) < (xs.length : Int) := by omega
      have hxe : ext ws (j + 1) = xs ++ [xs[j]?.getD 0] := by rw [HX.out]; rfl
      generalize xs[j]?.getD 0 = x at hcx hxe
      have HE := hide hxe
      have HLE := hide hle
      clear hxe hle
      go_wp2_with (first
        | (at_builtin; refine wpList_append_fits _ rfl _ _ 22 rfl B 3 i3 1 under22b hi3 hy1 g xs.length n (xs.map (Value.int .i64)) rfl (hox.alloc _) ⟨wr.heap.size, 0, none⟩ 1 1 [.int .i64 x] rfl rfl ?c1 ?c2 ?c3 ?_))
      case c1 => exact cell_one_new _ _ _
      case c2 => simp [Value.oneCell']
      case c3 => omega
      intro w4 ho4 hg4
      have hown5 : w4.ownsRow B 3 1 (.slice (some ⟨g, 0, none⟩) (xs ++ [x]).length n) (xs ++ [x]).length ((xs ++ [x]).map (Value.int .i64)) := by
        rw [List.length_append, List.map_append]; exact ho4
      have hg5 := gb_trans (gb_trans hg (World.grownBy_alloc wr (.cells #[.int .i64 x] 3) none) (by simp)) hg4 (fun j e => by cases e; exact .inl rfl)
      clear ho4 hg4 hox hg hcx
      go_wp2
      go_roundw
      case rel => exact ⟨j + 1, xs ++ [x], by go_num, by rw [List.length_append]; rfl, HE.out.symm, by simp; omega, hown5, hg5⟩
      case measure => simp [lenOf]; omega
    · have hli : ¬ (xs.length : Int) < (n : Int) := by omega
      have hjn : j = n - ws.length := by omega
      have hNX : nxt n k ws = inc (stp ((k : Int) - 1) xs) := by rw [HX.out, hjn]; rfl
      have hlo : Low k xs := fun y hy => HLOW.out y (ext_mem ws h0 j y (by rw [← HX.out]; exact hy))
      have HNX := hide hNX
      have HLO := hide hlo
      clear hNX hlo hjn hle how
      obtain ⟨w5, rfl⟩ : ∃ w5, w5 = wr := ⟨_, rfl⟩
      go_wp2
      go_loopw [0] (fun v wr => ∃ (ys r : List Int), v = .slice (some ⟨g, 0, none⟩) ys.length n ∧ xs = ys ++ r ∧ stp ((k : Int) - 1) ys = stp ((k : Int) - 1) xs ∧ wr = w5) (fun v _ => lenOf v)
      case atStart => exact ⟨xs, [], rfl, by simp, rfl, rfl⟩
      case round =>
        obtain ⟨ys, r, rfl, hxr, hst, rfl⟩ := hrel
        have hyl : ys.length ≤ n := by rw [hxr] at hxl; simp at hxl; omega
        have hoy : wr.ownsRow B 3 1 (.slice (some ⟨g, 0, none⟩) ys.length n) ys.length (ys.map (Value.int .i64)) := by
          have h1 := own_cut hox (k := ys.length) (by rw [hxr]; simp)
          rw [hxr, ← List.map_take, List.take_left'] at h1
          · exact h1
          · rfl
        have hly : Low k ys := fun y hy => HLO.out y (by rw [hxr]; exact List.mem_append_left _ hy)
        have HST := hide hst
        have HXR := hide hxr
        clear hst hxr
        cases hyn : ys.length with
        | zero =>
          have hye : ys = [] := List.length_eq_zero_iff.1 hyn
          subst hye
          have hN : nxt n k ws = [] := by rw [HNX.out, ← HST.out]; rfl
          have HN := hide hN
          clear hN
          go_wp2
          go_ret
          rw [HN.out]
          exact ⟨rfl, hoy, hg⟩
        | succ m =>
          have hsp := take_last hyn
          have hcl := own_get hoy (i := m) (by omega)
          have hfl := own_frozen hoy m
          have hbl := hly (ys[m]?.getD 0) (by rw [List.getElem?_eq_getElem (by omega)]; exact List.getElem_mem _)
          have hset := own_set (i := m) hoy (.int .i64 (ys[m]?.getD 0 + 1))
          have hic : inc ys = ys.set m (ys[m]?.getD 0 + 1) := by unfold inc; rw [hyn]; rfl
          have hic2 : (ys.map (Value.int .i64)).set m (.int .i64 (ys[m]?.getD 0 + 1)) = (inc ys).map (Value.int .i64) := by rw [hic, List.map_set]
          rw [hic2] at hset
          clear hic hic2
          generalize ys[m]?.getD 0 = y at *
          have hmw : IntKind.i64.wrap ((m : Int) + 1 - 1) = (m : Int) := by rw [IntKind.wrap_i64]; omega
          have hm1 : (m : Int) + 1 - 1 = (m : Int) := by omega
          have hmw2 : IntKind.i64.wrap (m : Int) = (m : Int) := by rw [IntKind.wrap_i64]; omega
          have hm0 : (0 : Int) < (m : Int) + 1 := by omega
          have hyw : IntKind.i64.wrap (y + 1) = y + 1 := by rw [IntKind.wrap_i64]; omega
          rw [hyn] at hoy hset
          by_cases hyk : y = (k : Int) - 1
          · have hb : (y == (k : Int) - 1) = true := by simpa using hyk
            have hst2 : stp ((k : Int) - 1) (ys.take m) = stp ((k : Int) - 1) xs := by
              rw [← HST.out]
              conv => rhs; rw [hsp, hyk]
              rw [stp_hit]
            have hxr2 : xs = ys.take m ++ (y :: r) := by
              rw [HXR.out]
              conv => lhs; rw [hsp]
              simp
            have hlt2 : (ys.take m).length = m := by simp; omega
            have HA := hide hst2
            have HB := hide hxr2
            have HC := hide hlt2
            clear hst2 hxr2 hlt2 hsp hset
            go_wp2
            go_roundw
            case rel => exact ⟨ys.take m, y :: r, by rw [HC.out], HB.out, HA.out, by trivial⟩
            case measure => simp [lenOf]
          · have hb : (y == (k : Int) - 1) = false := by simpa using hyk
            have hN : nxt n k ws = inc ys := by
              rw [HNX.out, ← HST.out]
              congr 1
              conv => lhs; rw [hsp]
              rw [stp_miss _ hyk]
              exact hsp.symm
            have hNl : (nxt n k ws).length = m + 1 := by rw [hN, inc_len, hyn]
            have HN := hide hN
            have HNl := hide hNl
            have hgs := gb_trans hg (gb_set wr g m (.int .i64 (y + 1))) (fun j e => by cases e; exact .inl rfl)
            clear hN hNl hsp
            go_wp2
            go_ret
            refine ⟨by rw [HNl.out]; rfl, ?_, hgs⟩
            rw [HNl.out, HN.out]
            exact hset

end Go.Proofs.YtojnjfkonaeegaaDoor
