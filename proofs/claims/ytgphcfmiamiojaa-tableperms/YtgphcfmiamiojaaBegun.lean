/- The document's example of chapter 2, as the laws ask it first: it answers true. -/
import Derived.Test.YtgphcfmiamiojaaTurn
namespace Go.Proofs.Ytgphcfmiamiojaa
open Go Go.RowKit

/-- The quaternions' table. -/
def q8 : List Int := mkT 8 (tf 4 2)
theorem q8_one : one 8 q8 = 0 := by decide +kernel
theorem q8_fault : gfault 8 q8 = (0, 0) := by decide +kernel
theorem q8_ords : ordL 8 q8 0 = [1, 4, 2, 4, 4, 4, 4, 4] := by decide +kernel
theorem q8_grp : IsGrp 8 q8 0 := by
  obtain ⟨n, e, hn, hg, _⟩ := gfault_grp (N := 8) (zs := q8) (by rw [q8_fault])
  obtain rfl : n = 8 := by omega
  have h1 := hg.one
  rw [q8_one] at h1
  obtain rfl : e = 0 := by omega
  exact hg

theorem count_snoc {ys : List Int} {k : Nat} (hk : k < ys.length) : (ys.take (k + 1)).count 4 = (ys.take k).count 4 + if ys[k]?.getD 0 = 4 then 1 else 0 := by
  rw [List.take_succ_eq_append_getElem hk, List.count_append, List.getElem?_eq_getElem hk]
  simp [List.count_singleton]

set_option maxRecDepth 100000 in
set_option maxHeartbeats 4000000 in
theorem begun_any (w : World) : Calls Try.prog 4 #[] w fun e w' => e = .returned (.bool true) ∧ Below w.heap.size w w' ∧ 0 < w'.heap.size := by
  have hd := dicyclic_ok 2 w (by omega) (by omega)
  have ho := fun v W (h : Sl W v q8) => orders_ok 8 0 v q8 W q8_grp h
  simp only [q8_ords] at ho
  have HD := hide (show Calls Try.prog 15 #[.int .i64 2] w fun e w' => ∃ u, e = .returned (.tuple #[.agg #[.int .i64 8, u], .agg #[.int .i64 0, .int .i64 0]]) ∧ SlF w.heap.size w' u q8 ∧ Below w.heap.size w w' from hd)
  have HO := hide ho
  clear hd ho
  go_enter Try.func4, Try.ntmps4
  go_wp2_with fail
  refine HD.out.mono ?_
  rintro e w1 ⟨u, rfl, hu1, hb1⟩
  obtain ⟨a9, cap9, _, _, rfl, _⟩ := id hu1
  generalize q8.length = l9 at *
  go_wp2_with fail
  have hG2 : Blk ((w1.alloc (.cells #[.int .i64 8, .slice a9 l9 cap9] 27)).alloc (.cells #[.int .i64 0, .int .i64 0] 29)) w1.heap.size 27 [.int .i64 8, .slice a9 l9 cap9] := (blk0 _ _).alloc _
  have hF2 : Blk ((w1.alloc (.cells #[.int .i64 8, .slice a9 l9 cap9] 27)).alloc (.cells #[.int .i64 0, .int .i64 0] 29)) (w1.heap.size + 1) 29 [.int .i64 0, .int .i64 0] := by
    have := Two.new (w1.alloc (.cells #[.int .i64 8, .slice a9 l9 cap9] 27))
    rw [World.size_alloc] at this; exact this.blk
  have hB2 : Below w1.heap.size w1 ((w1.alloc (.cells #[.int .i64 8, .slice a9 l9 cap9] 27)).alloc (.cells #[.int .i64 0, .int .i64 0] 29)) := (balloc w1 _).alloc (by simp) _
  refine (HO.out _ _ (hu1.sl.below hB2)).mono ?_
  rintro e w3 ⟨r, rfl, hr3, hb3⟩
  have hG3 := blk_below hG2 hb3
  have hF3 := blk_below hF2 hb3
  have hB3 := bcat hb1 (bcat2 hB2 hb3) hb1.size
  clear HO HD hG2 hF2 hB2 hb3 hb1
  obtain ⟨ys, hys⟩ : ∃ ys : List Int, ys = [1, 4, 2, 4, 4, 4, 4, 4] := ⟨_, rfl⟩
  rw [← hys] at hr3
  have hlen : ys.length = 8 := by rw [hys]; rfl
  have HC8 := hide (show (ys.take 8).count 4 = 6 by rw [hys]; rfl)
  have HCL := hide (fun k => (show (ys.take k).count 4 ≤ 8 from Nat.le_trans List.count_le_length (by rw [List.length_take]; omega)))
  obtain ⟨a, cap, pb, po, rfl, hrd, hp, hq3, hq4⟩ := id hr3
  rw [hlen]
  obtain rfl := hrd.at_ (by omega)
  have hF4 : Blk (w3.alloc (.cells #[.int .i64 0, .int .i64 0] 29)) w3.heap.size 29 [.int .i64 0, .int .i64 0] := blk0 _ _
  have hA4 := balloc w3 (.cells #[.int .i64 0, .int .i64 0] 29)
  have hB4 := bcat hB3 hA4 hB3.size
  obtain ⟨g0, g1, _, _⟩ := (blk_below hG3 hA4).two
  obtain ⟨f0, f1, _, _⟩ := (blk_below hF3 hA4).two
  obtain ⟨e0, e1, _, _⟩ := hF4.two
  have hcell : ∀ k, k < 8 → (w3.alloc (.cells #[.int .i64 0, .int .i64 0] 29)).cell? ⟨pb, po + k, none⟩ = some (.int .i64 (ys[k]?.getD 0)) := fun k hk => below_cell hA4 (hrd.cell k (by omega))
  have HCELL := hide hcell
  have HLEN := hide hlen
  clear hcell hys hlen hr3 hrd hG3 hF3 hF4 hB3
  go_wp2
  have hP4 : 0 < (w3.alloc (.cells #[.int .i64 0, .int .i64 0] 29)).heap.size := by rw [World.size_alloc]; omega
  generalize w3.alloc (.cells #[.int .i64 0, .int .i64 0] 29) = w4 at *
  go_loopw [5, 6] (fun c i wr => ∃ k : Nat, k ≤ 8 ∧ i = .int .i64 k ∧ c = .int .i64 ((ys.take k).count 4 : Nat) ∧ wr = w4) (fun _ i _ => 8 - (intOf i).toNat)
  case atStart => exact ⟨0, Nat.zero_le _, rfl, rfl, rfl⟩
  case round =>
    obtain ⟨k, hk, rfl, rfl, rfl⟩ := hrel
    by_cases hlt : k < 8
    · have hc := HCELL.out k hlt
      have hsn := count_snoc (ys := ys) (k := k) (by rw [HLEN.out]; exact hlt)
      have hcl := HCL.out k
      generalize ys[k]?.getD 0 = y at *
      by_cases hy : y = 4
      · subst hy
        rw [if_pos rfl] at hsn
        have HSN := hide hsn
        clear hsn
        generalize hcc : (ys.take k).count 4 = c at *
        clear hcc
        go_wp2
        go_roundw
        case rel => exact ⟨k + 1, by omega, by go_num, by rw [HSN.out]; go_num, trivial⟩
        case measure => simp [intOf]; omega
      · rw [if_neg hy, Nat.add_zero] at hsn
        have hyb : (y == 4) = false := by simpa using hy
        have HSN := hide hsn
        clear hsn
        go_wp2
        go_roundw
        case rel => exact ⟨k + 1, by omega, by go_num, by rw [HSN.out]; rfl, trivial⟩
        case measure => simp [intOf]; omega
    · have hk8 : k = 8 := by omega
      subst hk8
      rw [HC8.out]
      go_wp2
      go_ret
      exact ⟨rfl, hB4, hP4⟩
end Go.Proofs.Ytgphcfmiamiojaa
