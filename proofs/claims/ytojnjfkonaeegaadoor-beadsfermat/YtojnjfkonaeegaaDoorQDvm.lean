/- What nat.Div and nat.Mod answer for divisors of one word up to a million: what is left. -/
import Derived.Test.YtojnjfkonaeegaaDoorQFmu
import Derived.Laws.OwnMore
namespace Go.Proofs.YtojnjfkonaeegaaDoorQ
open Go Go.RowKit

set_option maxRecDepth 100000 in
set_option maxHeartbeats 1000000 in
theorem div64_m (lo m : Nat) (h1 : lo < 18446744073709551616) (hm : 0 < m) (hm2 : m ≤ 1000000) (w : World) :
    Calls Tryd.prog 90 #[.int .u64 0, .int .u64 lo, .int .u64 m] w fun e w' => e = .returned (.tuple #[.int .u64 ((lo / m : Nat) : Int), .int .u64 ((lo % m : Nat) : Int)]) ∧ ∃ k, w' = w.drewN k := by
  have h0 : ¬ ((m : Int) = 0) := by omega
  have h0n : ¬ m = 0 := by omega
  have hle : ¬ ((m : Int) ≤ 0) := by omega
  have hb0 : ((m : Int) == 0) = false := by simp; omega
  have hq : (lo : Int).tdiv (m : Int) = ((lo / m : Nat) : Int) := by rw [Int.tdiv_eq_ediv_of_nonneg (by omega)]; rfl
  have hr : (lo : Int).tmod (m : Int) = ((lo % m : Nat) : Int) := by rw [Int.tmod_eq_emod_of_nonneg (by omega)]; rfl
  have hq1 : lo / m < 18446744073709551616 := Nat.lt_of_le_of_lt (Nat.div_le_self _ _) h1
  have hr1 : lo % m < 18446744073709551616 := Nat.lt_of_le_of_lt (Nat.mod_le _ _) h1
  generalize lo / m = q at *
  generalize lo % m = r at *
  have hwq : IntKind.u64.wrap (q : Int) = q := by rw [IntKind.wrap_u64]; omega
  have hwr : IntKind.u64.wrap (r : Int) = r := by rw [IntKind.wrap_u64]; omega
  go_enter Tryd.func90, Tryd.ntmps90
  go_wp2
  go_quiet (fail)
  go_wp2
  go_ret2
  exact ⟨rfl, _, rfl⟩

theorem val_drop (ps : List Nat) {k : Nat} (hk : k < ps.length) : val (ps.drop k) = ps[k]?.getD 0 + 1000000000 * val (ps.drop (k + 1)) := by
  rw [List.drop_eq_getElem_cons hk, List.getElem?_eq_getElem hk]; rfl

set_option maxRecDepth 100000 in
set_option maxHeartbeats 4000000 in
theorem div_ok (base : Nat) (v : Value) (ps : List Nat) (m : Nat) (w : World) (hown : w.ownsRow base 89 1 v ps.length (us ps)) (hps : ∀ p, p ∈ ps → p < 1000000000) (hm0 : 0 < m) (hm : m ≤ 1000000) (hl : ps.length ≤ 1000000) :
    Calls Tryd.prog 69 #[.agg #[v], .int .u64 m] w fun e w' => ∃ a2 n2 c2, e = .returned (.tuple #[.agg #[.slice a2 n2 c2], .int .u64 ((val ps % m : Nat) : Int)]) ∧ Below w.heap.size w w' := by
  obtain ⟨i0, hi, hz0, hz1, hz2⟩ := info_parts info89
  obtain ⟨a, g, cap, rfl, hr, hcap, hcm, hg⟩ := UReads.of_own hown
  go_enter Tryd.func69, Tryd.ntmps69
  go_wp2_with (first
    | (at_make; refine wpList_make_full _ rfl _ _ 58 rfl (w.heap.size + 2) 89 i0 (.int .u64 0) 1 under79 hi hz0 hz1 _ _ _ _ ps.length rfl rfl rfl rfl (by rw [hz2]; omega) (by unfold maxLen; omega) (by simp) ?_))
  intro w1 hown1 hg1
  have hb0 : Blk w1 w.heap.size 60 [.slice a ps.length cap] := by
    refine (hg1.block w.heap.size (by simp; omega) (by simp)).trans ?_
    rw [Below.heap_alloc _ _ _ (by simp)]; exact World.alloc_heap_new w _
  have hb1 : Blk w1 (w.heap.size + 1) 60 [.slice none 0 0] := by
    refine (hg1.block (w.heap.size + 1) (by simp) (by simp)).trans ?_
    have := World.alloc_heap_new (w.alloc (.cells #[.slice a ps.length cap] 60)) (.cells #[.slice none 0 0] 60)
    rw [World.size_alloc] at this; exact this
  have hB1 : Below w.heap.size w w1 := (((Below.refl _ w).alloc (Nat.le_refl _) _).alloc (by simp) _).grown hg1 (by simp; omega) (by simp)
  have hs2 : (w.alloc (.cells #[.slice a ps.length cap] 60)).heap.size + 1 = w.heap.size + 2 := by simp
  have hP1 : Blk w1 (w.heap.size + 2) 89 (us (List.replicate ps.length 0)) := by
    have := Blk.of_owns (by simpa using hown1)
    rw [made_rep] at this
    unfold us; rw [List.map_replicate]; exact this
  have hc0 := hb0.cell 0
  clear hown1 hg1 hs2
  go_wp2
  clear hc0
  go_loopw [7, 8] (fun lf i wr => ∃ (k : Nat) (qs : List Nat), k ≤ ps.length ∧ i = .int .i64 ((k : Int) - 1) ∧ lf = .int .u64 ((val (ps.drop k) % m : Nat) : Int) ∧ qs.length = ps.length ∧ Blk wr (w.heap.size + 2) 89 (us qs) ∧
      Blk wr w.heap.size 60 [.slice a ps.length cap] ∧ Blk wr (w.heap.size + 1) 60 [.slice none 0 0] ∧ Below w.heap.size w wr)
    (fun _ i _ => (intOf i + 1).toNat)
  case atStart => exact ⟨ps.length, List.replicate ps.length 0, Nat.le_refl _, by go_num, by rw [List.drop_length]; simp [val], by simp, hP1, hb0, hb1, hB1⟩
  case round =>
    obtain ⟨k, qs, hk, rfl, rfl, hql, hPk, hbk0, hbk1, hBk⟩ := hrel
    have HQL := hide hql
    clear hql hP1 hb0 hb1 hB1
    rcases Nat.eq_zero_or_pos k with rfl | hkp
    · rw [List.drop_zero]
      obtain ⟨r, hrr⟩ : ∃ r, val ps % m = r := ⟨_, rfl⟩
      rw [hrr]
      have HRR := hide hrr
      clear hrr
      have hcq := hPk
      have hbx1 := hbk1.cell 0
      have hbx2 := hbk1.frozen 0
      have hur : UReads wr (some ⟨w.heap.size + 2, 0, none⟩) (w.heap.size + 2) qs := ⟨fun _ => rfl, fun j hj => by
        rw [hPk.cell j]; unfold us; rw [List.getElem?_map, List.getElem?_eq_getElem hj]; rfl⟩
      go_wp2_with fail
      refine (trimmed_any (w.heap.size + 2) ps.length ps.length qs _ HQL.out.symm hur (by rw [HQL.out]; omega) (by unfold maxLen; omega)).mono ?_
      rintro e w2 ⟨rfl, rfl⟩
      have hN := hbk1.set 0 (.slice (some ⟨w.heap.size + 2, 0, none⟩) (trm qs).length ps.length)
      go_wp2
      have hc1 := hN.cell 0
      have hBn : Below w.heap.size w (w2.setCell ⟨w.heap.size + 1, 0, none⟩ (.slice (some ⟨w.heap.size + 2, 0, none⟩) (trm qs).length ps.length)) := hBk.setCell (by simp) _
      exact bodyPost_ret (v := .tuple #[.agg #[.slice (some ⟨w.heap.size + 2, 0, none⟩) (trm qs).length ps.length], .int .u64 r]) (by simp [results, Tryd.results69, go_sem, hc1]) rfl ⟨_, _, _, by rw [HRR.out], hBn⟩
    · obtain ⟨j, rfl⟩ : ∃ j, k = j + 1 := ⟨k - 1, by omega⟩
      have hlt : j < ps.length := by omega
      have hvd := val_drop ps hlt
      obtain rfl := hr.at_ (by omega)
      have hcx := (hr.of_eq (hBk.block g (hg (by omega)))).cell j hlt
      have hp1 : ps[j]?.getD 0 < 1000000000 := by rw [List.getElem?_eq_getElem hlt]; exact hps _ (List.getElem_mem hlt)
      have hcb := hbk0.cell 0
      have hlm : val (ps.drop (j + 1)) % m < m := Nat.mod_lt _ hm0
      have hrec : (val (ps.drop (j + 1)) % m * 1000000000 + ps[j]?.getD 0) % m = val (ps.drop j) % m := by
        rw [hvd, Nat.add_comm (ps[j]?.getD 0), Nat.mul_comm 1000000000]
        rw [Nat.add_mod, Nat.mul_mod, Nat.mod_mod, ← Nat.mul_mod, ← Nat.add_mod]
      have HREC := hide hrec
      clear hvd hrec
      generalize val (ps.drop (j + 1)) % m = lf at *
      generalize ps[j]?.getD 0 = p at *
      have hji : ((j + 1 : Nat) : Int) - 1 = (j : Int) := by omega
      rw [hji]
      have hfz := hPk.frozen j
      have hcj : wr.cell? ⟨w.heap.size + 2, j, none⟩ = some (.int .u64 ((qs[j]?.getD 0 : Nat) : Int)) := by
        rw [hPk.cell j]; unfold us; rw [List.getElem?_map, List.getElem?_eq_getElem (by rw [HQL.out]; exact hlt)]; rfl
      generalize qs[j]?.getD 0 = old at hcj
      go_wp2_with fail
      refine (mul64_any (lf : Int) 1000000000 (by omega) (by omega) (by omega) (by omega) (by omega) _).mono ?_
      rintro e w2 ⟨rfl, rfl⟩
      obtain ⟨t, ht⟩ : ∃ t : Nat, lf * 1000000000 = t := ⟨_, rfl⟩
      rw [show (lf : Int) * 1000000000 = (t : Int) by omega]
      have htl : t < 1000000000000000 := by omega
      rw [ht] at HREC
      clear ht
      have h78 := fun W => add64_eq (t : Int) (p : Int) (by omega) (by omega) (by omega) W
      go_wp2_with fail
      rw [show (t : Int) + (p : Int) = ((t + p : Nat) : Int) by omega]
      refine (div64_m (t + p) m (by omega) hm0 hm _).mono ?_
      rintro e w3 ⟨rfl, kk, rfl⟩
      rw [HREC.out]
      generalize (t + p) / m = q
      obtain ⟨lf2, hvd⟩ : ∃ x, val (ps.drop j) % m = x := ⟨_, rfl⟩
      rw [hvd]
      have HVD := hide hvd
      clear hvd
      go_wp2
      refine ⟨⟨j, qs.set j q, by omega, rfl, by rw [HVD.out], by rw [List.length_set]; exact HQL.out, ?_, ?_, ?_, ?_⟩, by simp [intOf]⟩
      · have := hPk.set j (.int .u64 (q : Int))
        unfold us at this ⊢
        rwa [List.map_set] at *
      · exact hbk0.other (by simp; omega) _
      · exact hbk1.other (by simp) _
      · exact Below.setCell (bdrewN hBk kk) (by simp; omega) _
end Go.Proofs.YtojnjfkonaeegaaDoorQ
