/- What perm.Mul, perm.Inv and Stays answer at permutations of at most 1000 points. -/
import Derived.Test.YtjchmhngfnlbhaaDoorPair
namespace Go.Proofs.YtjchmhngfnlbhaaDoor
open Go Go.RowKit

theorem twof_ok {xs ys : List Int} (hx : IsPerm xs) (hy : IsPerm ys) (hl : xs.length = ys.length) (h1 : xs.length ≤ 1000) : twof xs ys = (0, 0) := by
  unfold twof
  rw [fault_of_perm hx h1, fault_of_perm hy (by omega)]
  simp [hl]
theorem twof_zero {xs ys : List Int} (h : (twof xs ys).1 = 0) : IsPerm xs ∧ IsPerm ys ∧ xs.length = ys.length ∧ xs.length ≤ 1000 := by
  unfold twof at h
  by_cases h1 : (fault xs).1 = 0
  · rw [if_neg (by simp [h1])] at h
    by_cases h2 : (fault ys).1 = 0
    · rw [if_neg (by simp [h2])] at h
      by_cases h3 : xs.length = ys.length
      · exact ⟨(fault_perm h1).1, (fault_perm h2).1, h3, (fault_perm h1).2⟩
      · rw [if_pos h3] at h; simp at h
    · rw [if_pos h2] at h; exact absurd h h2
  · rw [if_pos h1] at h; exact absurd h h1

theorem info3b : (Tryd.prog.info? 3).map (fun i => (i.zero, i.size, i.bytes)) = some (some (.int .i64 0), 1, 8) := by kernel_rfl
theorem under22b : Tryd.prog.underlying 22 = some (.slice 3) := by kernel_rfl
theorem Sl.of_blk {w : World} {g n : Nat} {zs : List Int} (h : Blk w g 3 (zs.map (Value.int .i64))) (hn : n = zs.length) (hl : zs.length ≤ 1000000) : Sl w (.slice (some ⟨g, 0, none⟩) n n) zs := by
  subst hn
  exact ⟨some ⟨g, 0, none⟩, zs.length, g, 0, rfl, ⟨fun _ => rfl, fun j hj => by rw [Nat.zero_add]; exact h.int hj⟩, h.lt, Nat.le_refl _, by unfold maxLen; omega⟩

set_option maxRecDepth 100000 in
set_option maxHeartbeats 2000000 in
theorem mul_ok (u v : Value) (xs ys : List Int) (w : World) (hu : Sl w u xs) (hv : Sl w v ys) (hx : IsPerm xs) (hy : IsPerm ys) (hl : xs.length = ys.length) (h1000 : xs.length ≤ 1000) :
    Calls Tryd.prog 32 #[u, v] w fun e w' => ∃ r, e = .returned (.tuple #[r, .agg #[.int .i64 0, .int .i64 0]]) ∧ Sl w' r (mulL xs ys) ∧ Below w.heap.size w w' := by
  obtain ⟨i0, hi, hz0, hz1, hz2⟩ := info_parts info3b
  have hB0 : Below w.heap.size w (w.alloc (.cells #[.int .i64 0, .int .i64 0] 26)) := (Below.refl _ w).alloc (Nat.le_refl _) _
  have hu0 := hu.below hB0
  have hv0 := hv.below hB0
  have hR0 := blk0 (w := w) (T := 26) (.int .i64 0) (.int .i64 0)
  obtain ⟨a, cap, pb, po, rfl, hr, hp, hq3, hq4⟩ := hu
  obtain ⟨b, cap', qb, qo, rfl, hs, hq, hq7, hq8⟩ := hv
  have htw := twof_ok hx hy hl h1000
  have HL := hide hl
  have hle1 : xs.length ≤ ys.length := by omega
  have hle2 : ys.length ≤ xs.length := by omega
  clear hl
  go_enter Tryd.func32, Tryd.ntmps32
  go_wp2_with fail
  refine (checkPair_any _ _ xs ys _ hu0 hv0).mono ?_
  rintro e w1 ⟨rfl, hl1⟩
  rw [htw]
  have hB1 := bcat hB0 hl1 (by simp)
  have hR1 : Blk w1 w.heap.size 26 [.int .i64 0, .int .i64 0] := hR0.of_eq (hl1.block _ (by simp))
  have hs1 : w.heap.size < w1.heap.size := hR1.lt
  have HTW := hide htw
  have HX := hide hx
  have HY := hide hy
  clear hl1 hu0 hv0 hR0 hB0 htw hx hy
  go_wp2_with (first
    | (at_make; refine wpList_make_full _ rfl _ _ 22 rfl (w1.heap.size + 1) 3 i0 (.int .i64 0) 1 under22b hi hz0 hz1 _ _ _ _ xs.length rfl rfl rfl rfl (by rw [hz2]; omega) (by unfold maxLen; omega) (by simp) ?_))
  intro w2 hown hg
  have hP2 : Blk w2 (w1.heap.size + 1) 3 ((fillTo (mulL xs ys) 0).map (Value.int .i64)) := by
    have := Blk.of_owns hown
    rw [made_rep] at this
    rw [fillTo_zero, List.map_replicate, mulL_len]; exact this
  have hB2 : Below w.heap.size w w2 := (hB1.alloc hB1.size _).grown hg (by simp; omega) (by simp)
  have hR2 : Blk w2 w.heap.size 26 [.int .i64 0, .int .i64 0] := (hR1.alloc _).grown hg (by simp)
  clear hown hg hB1 hR1
  go_wp2
  go_loopw [22] (fun i wr => ∃ k : Nat, k ≤ xs.length ∧ i = .int .i64 k ∧ Blk wr (w1.heap.size + 1) 3 ((fillTo (mulL xs ys) k).map (Value.int .i64)) ∧ Below w.heap.size w wr ∧ Blk wr w.heap.size 26 [.int .i64 0, .int .i64 0])
    (fun i _ => xs.length - (intOf i).toNat)
  case atStart => exact ⟨0, Nat.zero_le _, rfl, hP2, hB2, hR2⟩
  case round =>
    obtain ⟨k, hk, rfl, hPk, hBk, hRk⟩ := hrel
    clear hP2 hB2 hR2
    by_cases hlt : k < xs.length
    · have hn := nx_lt HX.out hlt
      have hcx := (hr.below hBk hp).cell k hlt
      have hcy := (hs.below hBk hq).cell (nx xs k) (by omega)
      rw [hn.2] at hcx
      obtain rfl := hr.at_ (by omega)
      obtain rfl := hs.at_ (by omega)
      have hgk : (mulL xs ys)[k]?.getD 0 = ys[nx xs k]?.getD 0 := mulL_get ys hlt
      have hfl := fillTo_len (L := mulL xs ys) (k := k) (by rw [mulL_len]; omega)
      rw [mulL_len] at hfl
      have hck : wr.cell? ⟨w1.heap.size + 1, k, none⟩ = some (.int .i64 ((fillTo (mulL xs ys) k)[k]?.getD 0)) := hPk.int (by rw [hfl]; omega)
      have hfk := hPk.frozen k
      have hset := hPk.setInt k (ys[nx xs k]?.getD 0)
      rw [← hgk, fillTo_set (by rw [mulL_len]; omega), hgk] at hset
      have HN := hide hn.2
      obtain ⟨hn1, _⟩ := hn
      generalize nx xs k = x at hcx hcy hn1 hset HN
      generalize ys[x]?.getD 0 = y at hcy hset
      generalize (fillTo (mulL xs ys) k)[k]?.getD 0 = z at hck
      have hR3 := hRk.other (p := ⟨w1.heap.size + 1, k, none⟩) (by simp; omega) (.int .i64 y)
      have hB3 := hBk.setCell (p := ⟨w1.heap.size + 1, k, none⟩) (by simp; omega) (.int .i64 y)
      clear hgk hfl
      have hx1 : (x : Int) < (ys.length : Int) := by omega
      go_wp2
      go_roundw
      case rel => exact ⟨k + 1, by omega, by go_num, hset, hB3, hR3⟩
      case measure => simp [intOf]; omega
    · obtain ⟨hc0, hc1, hf0, hf1⟩ := hRk.two
      have hkk : k = xs.length := by omega
      subst hkk
      have hP4 : Blk ((wr.setCell ⟨w.heap.size, 0, none⟩ (.int .i64 0)).setCell ⟨w.heap.size, 1, none⟩ (.int .i64 0)) (w1.heap.size + 1) 3 ((mulL xs ys).map (Value.int .i64)) := by
        have := (hPk.other (p := ⟨w.heap.size, 0, none⟩) (by simp; omega) (.int .i64 0)).other (p := ⟨w.heap.size, 1, none⟩) (by simp; omega) (.int .i64 0)
        have e : fillTo (mulL xs ys) xs.length = mulL xs ys := by
          have := fillTo_all (mulL xs ys)
          rwa [mulL_len] at this
        rwa [e] at this
      have hR4 : Blk ((wr.setCell ⟨w.heap.size, 0, none⟩ (.int .i64 0)).setCell ⟨w.heap.size, 1, none⟩ (.int .i64 0)) w.heap.size 26 [.int .i64 0, .int .i64 0] := (hRk.set 0 _).set 1 _
      have hB4 := (hBk.setCell (p := ⟨w.heap.size, 0, none⟩) (by simp) (.int .i64 0)).setCell (p := ⟨w.heap.size, 1, none⟩) (by simp) (.int .i64 0)
      clear hPk
      go_wp2
      generalize (wr.setCell ⟨w.heap.size, 0, none⟩ (.int .i64 0)).setCell ⟨w.heap.size, 1, none⟩ (.int .i64 0) = W at hP4 hR4 hB4 ⊢
      obtain ⟨h0, h1, _, _⟩ := hR4.two
      exact bodyPost_ret (v := .tuple #[.slice (some ⟨w1.heap.size + 1, 0, none⟩) xs.length xs.length, .agg #[.int .i64 0, .int .i64 0]]) (by simp [results, Tryd.results32, go_sem, h0, h1]) rfl ⟨_, rfl, Sl.of_blk hP4 (by rw [mulL_len]) (by rw [mulL_len]; omega), hB4⟩

set_option maxRecDepth 100000 in
set_option maxHeartbeats 2000000 in
theorem inv_ok (u : Value) (xs : List Int) (w : World) (hu : Sl w u xs) (hx : IsPerm xs) (h1000 : xs.length ≤ 1000) :
    Calls Tryd.prog 33 #[u] w fun e w' => ∃ r, e = .returned (.tuple #[r, .agg #[.int .i64 0, .int .i64 0]]) ∧ Sl w' r (invL xs) ∧ Below w.heap.size w w' := by
  obtain ⟨i0, hi, hz0, hz1, hz2⟩ := info_parts info3b
  have hB0 : Below w.heap.size w (w.alloc (.cells #[.int .i64 0, .int .i64 0] 26)) := (Below.refl _ w).alloc (Nat.le_refl _) _
  have hu0 := hu.below hB0
  have hR0 := blk0 (w := w) (T := 26) (.int .i64 0) (.int .i64 0)
  obtain ⟨a, cap, pb, po, rfl, hr, hp, hq3, hq4⟩ := hu
  have htw := fault_of_perm hx h1000
  go_enter Tryd.func33, Tryd.ntmps33
  go_wp2_with fail
  refine (check_sl _ xs _ hu0).mono ?_
  rintro e w1 ⟨rfl, hl1⟩
  rw [htw]
  have hB1 := bcat hB0 hl1 (by simp)
  have hR1 : Blk w1 w.heap.size 26 [.int .i64 0, .int .i64 0] := hR0.of_eq (hl1.block _ (by simp))
  have hs1 : w.heap.size < w1.heap.size := hR1.lt
  have HTW := hide htw
  have HX := hide hx
  clear hl1 hu0 hR0 hB0 htw hx
  go_wp2_with (first
    | (at_make; refine wpList_make_full _ rfl _ _ 22 rfl (w1.heap.size + 1) 3 i0 (.int .i64 0) 1 under22b hi hz0 hz1 _ _ _ _ xs.length rfl rfl rfl rfl (by rw [hz2]; omega) (by unfold maxLen; omega) (by simp) ?_))
  intro w2 hown hg
  have hP2 : Blk w2 (w1.heap.size + 1) 3 ((invTo xs 0).map (Value.int .i64)) := by
    have := Blk.of_owns hown
    rw [made_rep] at this
    rw [invTo, List.map_replicate]; exact this
  have hB2 : Below w.heap.size w w2 := (hB1.alloc hB1.size _).grown hg (by simp; omega) (by simp)
  have hR2 : Blk w2 w.heap.size 26 [.int .i64 0, .int .i64 0] := (hR1.alloc _).grown hg (by simp)
  clear hown hg hB1 hR1
  go_wp2
  go_loopw [19] (fun i wr => ∃ k : Nat, k ≤ xs.length ∧ i = .int .i64 k ∧ Blk wr (w1.heap.size + 1) 3 ((invTo xs k).map (Value.int .i64)) ∧ Below w.heap.size w wr ∧ Blk wr w.heap.size 26 [.int .i64 0, .int .i64 0])
    (fun i _ => xs.length - (intOf i).toNat)
  case atStart => exact ⟨0, Nat.zero_le _, rfl, hP2, hB2, hR2⟩
  case round =>
    obtain ⟨k, hk, rfl, hPk, hBk, hRk⟩ := hrel
    clear hP2 hB2 hR2
    by_cases hlt : k < xs.length
    · have hn := nx_lt HX.out hlt
      have hcx := (hr.below hBk hp).cell k hlt
      rw [hn.2] at hcx
      obtain rfl := hr.at_ (by omega)
      have hck : wr.cell? ⟨w1.heap.size + 1, nx xs k, none⟩ = some (.int .i64 ((invTo xs k)[nx xs k]?.getD 0)) := hPk.int (by rw [invTo_len]; omega)
      have hfk := hPk.frozen (nx xs k)
      have hset := hPk.setInt (nx xs k) (k : Int)
      rw [← invTo] at hset
      obtain ⟨hn1, _⟩ := hn
      have hR3 := hRk.other (p := ⟨w1.heap.size + 1, nx xs k, none⟩) (by simp; omega) (.int .i64 (k : Int))
      have hB3 := hBk.setCell (p := ⟨w1.heap.size + 1, nx xs k, none⟩) (by simp; omega) (.int .i64 (k : Int))
      generalize nx xs k = x at hcx hck hfk hn1 hset hR3 hB3
      generalize (invTo xs k)[x]?.getD 0 = z at hck
      have hx1 : (x : Int) < (xs.length : Int) := by omega
      go_wp2
      go_roundw
      case rel => exact ⟨k + 1, by omega, by go_num, hset, hB3, hR3⟩
      case measure => simp [intOf]; omega
    · obtain ⟨hc0, hc1, hf0, hf1⟩ := hRk.two
      have hkk : k = xs.length := by omega
      subst hkk
      have hP4 : Blk ((wr.setCell ⟨w.heap.size, 0, none⟩ (.int .i64 0)).setCell ⟨w.heap.size, 1, none⟩ (.int .i64 0)) (w1.heap.size + 1) 3 ((invL xs).map (Value.int .i64)) :=
        (hPk.other (p := ⟨w.heap.size, 0, none⟩) (by simp; omega) (.int .i64 0)).other (p := ⟨w.heap.size, 1, none⟩) (by simp; omega) (.int .i64 0)
      have hR4 : Blk ((wr.setCell ⟨w.heap.size, 0, none⟩ (.int .i64 0)).setCell ⟨w.heap.size, 1, none⟩ (.int .i64 0)) w.heap.size 26 [.int .i64 0, .int .i64 0] := (hRk.set 0 _).set 1 _
      have hB4 := (hBk.setCell (p := ⟨w.heap.size, 0, none⟩) (by simp) (.int .i64 0)).setCell (p := ⟨w.heap.size, 1, none⟩) (by simp) (.int .i64 0)
      clear hPk
      go_wp2
      generalize (wr.setCell ⟨w.heap.size, 0, none⟩ (.int .i64 0)).setCell ⟨w.heap.size, 1, none⟩ (.int .i64 0) = W at hP4 hR4 hB4 ⊢
      obtain ⟨h0, h1, _, _⟩ := hR4.two
      exact bodyPost_ret (v := .tuple #[.slice (some ⟨w1.heap.size + 1, 0, none⟩) xs.length xs.length, .agg #[.int .i64 0, .int .i64 0]]) (by simp [results, Tryd.results33, go_sem, h0, h1]) rfl ⟨_, rfl, Sl.of_blk hP4 (by rw [invL_len]) (by rw [invL_len]; omega), hB4⟩

theorem Sl.of_own {w : World} {base : Nat} {v : Value} {zs : List Int} (h : w.ownsRow base 3 1 v zs.length (zs.map (Value.int .i64))) (h0 : 0 < w.heap.size) : Sl w v zs := by
  rcases h.2 with ⟨rfl, hz⟩ | ⟨g, cap, cur, rfl, _, hh, h1, h2, _⟩
  · have : zs = [] := List.length_eq_zero_iff.1 hz
    subst this
    exact ⟨none, 0, 0, 0, rfl, ⟨by simp, by simp⟩, h0, by simp, by unfold maxLen; omega⟩
  · refine ⟨some ⟨g, 0, none⟩, cap, g, 0, rfl, ⟨fun _ => rfl, fun j hj => ?_⟩, (Array.getElem?_eq_some_iff.1 hh).1, h1, h2⟩
    have h3 := h.cells (g := g) rfl j (.int .i64 (zs[j]?.getD 0)) (by simp [hj])
    rw [show (⟨g, 0, none⟩ : Addr).add j = ⟨g, j, none⟩ by unfold Addr.add; split <;> simp_all] at h3
    rw [Nat.zero_add]; exact h3

set_option maxRecDepth 100000 in
set_option maxHeartbeats 2000000 in
theorem stays_any (n : Nat) (w : World) (hn : n ≤ 1000) (h0 : 0 < w.heap.size) :
    Calls Tryd.prog 37 #[.int .i64 n] w fun e w' => ∃ r, e = .returned r ∧ Sl w' r (idL n) ∧ Below w.heap.size w w' := by
  obtain ⟨i0, hi, hz0, hz1, hz2⟩ := info_parts info3b
  go_enter Tryd.func37, Tryd.ntmps37
  go_wp2
  go_loopw [3, 4] (fun v i wr => ∃ k : Nat, k ≤ n ∧ i = .int .i64 k ∧ wr.ownsRow w.heap.size 3 1 v (idL k).length ((idL k).map (Value.int .i64)) ∧ Below w.heap.size w wr)
    (fun _ i _ => n - (intOf i).toNat)
  case atStart => exact ⟨0, Nat.zero_le _, rfl, World.ownsRow_nil _ _ _ _, Below.refl _ _⟩
  case round =>
    obtain ⟨k, hk, rfl, hown, hB⟩ := hrel
    obtain ⟨v, rfl⟩ : ∃ v, v = u3 := ⟨_, rfl⟩
    have hBs := hB.size
    by_cases hlt : k < n
    · have hil := idL_len k
      have HIL := hide hil
      clear hil
      go_wp2_with (first
        | (at_builtin; refine wpList_append_own _ rfl _ _ 22 rfl w.heap.size 3 i0 (.int .i64 0) 1 8 under22b hi hz0 hz1 hz2 rfl (by decide) _ _ _ rfl (hown.alloc _) ⟨wr.heap.size, 0, none⟩ 1 1 [.int .i64 (k : Int)] rfl rfl ?c1 ?c2 ?c3 ?c4 ?c5 ?_))
      case c1 => exact cell_one_new _ _ _
      case c2 => simp [Value.oneCell']
      case c3 => unfold maxLen; have := HIL.out; omega
      case c4 => have := HIL.out; omega
      case c5 => simp; omega
      intro v' w2 hown' hgrow _
      obtain ⟨g', cap', rfl⟩ := ownsRow_succ hown'
      have hB2 : Below w.heap.size w w2 := (hB.alloc hBs _).grown hgrow (by simp; omega) (fun j e => owns_ge hown j e)
      have hown5 : w2.ownsRow w.heap.size 3 1 (.slice (some ⟨g', 0, none⟩) ((idL k).length + 1) cap') (idL (k + 1)).length ((idL (k + 1)).map (Value.int .i64)) := by
        rw [idL_succ]; simpa using hown'
      clear hown' hgrow hown
      go_wp2
      go_roundw
      case rel => exact ⟨k + 1, by omega, by go_num, hown5, hB2⟩
      case measure => simp [intOf]; omega
    · have hkk : k = n := by omega
      subst hkk
      go_wp2
      go_ret
      exact ⟨_, rfl, Sl.of_own hown (by omega), hB⟩
end Go.Proofs.YtjchmhngfnlbhaaDoor
