/- What nat's Div answers: the quotient, and what is left. -/
import Derived.Test.YtojnjfkonaeegaaDoorQMns
namespace Go.Proofs.YtojnjfkonaeegaaDoorQ
open Go Go.RowKit

/-- The quotient's part j. -/
def qd (ps : List Nat) (m j : Nat) : Nat := (val (ps.drop (j + 1)) % m * 1000000000 + pt ps j) / m
theorem qd_small {ps : List Nat} (h : ∀ p, p ∈ ps → p < 1000000000) {m : Nat} (hm : 0 < m) (j : Nat) : qd ps m j < 1000000000 := by
  unfold qd
  have h1 := Nat.mod_lt (val (ps.drop (j + 1))) hm
  have h2 := pt_small h j
  rw [Nat.div_lt_iff_lt_mul hm]
  generalize val (ps.drop (j + 1)) % m = r at *
  have : (r + 1) * 1000000000 ≤ m * 1000000000 := Nat.mul_le_mul_right _ (by omega)
  rw [Nat.mul_comm 1000000000 m]
  omega
theorem qd_val {ps qs : List Nat} {m : Nat} (hl : qs.length = ps.length) (hq : ∀ j, j < ps.length → pt qs j = qd ps m j) : val qs = val ps / m ∨ m = 0 := by
  rcases Nat.eq_zero_or_pos m with h0 | hm
  · exact .inr h0
  left
  have key : ∀ d k, ps.length - k = d → k ≤ ps.length → val (qs.drop k) * m + val (ps.drop k) % m = val (ps.drop k) := by
    intro d
    induction d with
    | zero =>
      intro k h1 h2
      rw [List.drop_of_length_le (by omega), List.drop_of_length_le (by omega)]; simp [val]
    | succ d ih =>
      intro k h1 h2
      have ih := ih (k + 1) (by omega) (by omega)
      have v1 := val_drop ps (k := k) (by omega)
      have v2 := val_drop qs (k := k) (by omega)
      have hqk := hq k (by omega)
      unfold qd at hqk
      have e1 : pt ps k = ps[k]?.getD 0 := rfl
      have e2 : pt qs k = qs[k]?.getD 0 := rfl
      rw [← e1] at v1
      rw [← e2, hqk] at v2
      have hrec : (val (ps.drop (k + 1)) % m * 1000000000 + pt ps k) % m = val (ps.drop k) % m := by
        rw [v1, Nat.add_comm (pt ps k), Nat.mul_comm 1000000000]
        rw [Nat.add_mod, Nat.mul_mod, Nat.mod_mod, ← Nat.mul_mod, ← Nat.add_mod]
      have hdm := Nat.div_add_mod (val (ps.drop (k + 1)) % m * 1000000000 + pt ps k) m
      rw [hrec] at hdm
      rw [v2, Nat.add_mul, Nat.mul_assoc, Nat.mul_comm _ m]
      generalize (val (ps.drop (k + 1)) % m * 1000000000 + pt ps k) / m = q at *
      generalize val (ps.drop k) % m = r' at *
      generalize val (ps.drop (k + 1)) % m = r at *
      generalize val (ps.drop (k + 1)) = V at *
      generalize val (qs.drop (k + 1)) * m = Q at *
      omega
  have h := key _ 0 rfl (by omega)
  rw [List.drop_zero, List.drop_zero] at h
  have h2 := Nat.div_add_mod (val ps) m
  have h3 : m * val qs = m * (val ps / m) := by rw [Nat.mul_comm m (val qs)]; omega
  exact Nat.eq_of_mul_eq_mul_left hm h3

set_option maxRecDepth 100000 in
set_option maxHeartbeats 4000000 in
theorem divq_ok (v : Value) (n p m : Nat) (w : World) (hu : UN w 0 v n p) (hm0 : 0 < m) (hm : m ≤ 1000000) (hp : p ≤ 1000000) :
    Calls Tryd.prog 69 #[.agg #[v], .int .u64 m] w fun e w' => ∃ v', e = .returned (.tuple #[.agg #[v'], .int .u64 ((n % m : Nat) : Int)]) ∧ UN w' w.heap.size v' (n / m) p ∧ Below w.heap.size w w' := by
  obtain ⟨ps, hown, hps, hlast, rfl, hlp⟩ := hu
  have hl : ps.length ≤ 1000000 := by omega
  clear hlast
  obtain ⟨i0, hi, hz0, hz1, hz2⟩ := info_parts info89
  obtain ⟨a, g, cap, rfl, hr, hcap, hcm, hg⟩ := UReads.of_own hown
  go_enter Tryd.func69, Tryd.ntmps69
  go_wp2_with (first
    | (at_make; refine wpList_make_full _ rfl _ _ 58 rfl (w.heap.size + 2) 89 i0 (.int .u64 0) 1 under79 hi hz0 hz1 _ _ _ _ ps.length rfl rfl rfl rfl (by rw [hz2]; omega) (by unfold maxLen; omega) (by simp) ?_))
  intro w1 hown1 hg1
  have hb0 : Blk w1 w.heap.size 60 [.slice a ps.length cap] := by
    refine (hg1.block w.heap.size (by simp; omega) (by simp)).trans ?_
    rw [Below.heap_alloc _ _ _ (by simp)]; exact World.alloc_heap_new w _
  have hb1 : Blk w1 (w.heap.size + 1) 60 [.slice none 0 0] := by
    refine (hg1.block (w.heap.size + 1) (by simp) (by simp)).trans ?_
    have := World.alloc_heap_new (w.alloc (.cells #[.slice a ps.length cap] 60)) (.cells #[.slice none 0 0] 60)
    rw [World.size_alloc] at this; exact this
  have hB1 : Below w.heap.size w w1 := (((Below.refl _ w).alloc (Nat.le_refl _) _).alloc (by simp) _).grown hg1 (by simp; omega) (by simp)
  have hs2 : (w.alloc (.cells #[.slice a ps.length cap] 60)).heap.size + 1 = w.heap.size + 2 := by simp
  have hP1 : Blk w1 (w.heap.size + 2) 89 (us (List.replicate ps.length 0)) := by
    have := Blk.of_owns (by simpa using hown1)
    rw [made_rep] at this
    unfold us; rw [List.map_replicate]; exact this
  have hc0 := hb0.cell 0
  clear hown1 hg1 hs2
  go_wp2
  clear hc0
  go_loopw [7, 8] (fun lf i wr => ∃ (k : Nat) (qs : List Nat), k ≤ ps.length ∧ i = .int .i64 ((k : Int) - 1) ∧ lf = .int .u64 ((val (ps.drop k) % m : Nat) : Int) ∧ qs.length = ps.length ∧ (∀ j, k ≤ j → j < ps.length → pt qs j = qd ps m j) ∧ Blk wr (w.heap.size + 2) 89 (us qs) ∧
      Blk wr w.heap.size 60 [.slice a ps.length cap] ∧ Blk wr (w.heap.size + 1) 60 [.slice none 0 0] ∧ Below w.heap.size w wr)
    (fun _ i _ => (intOf i + 1).toNat)
  case atStart => exact ⟨ps.length, List.replicate ps.length 0, Nat.le_refl _, by go_num, by rw [List.drop_length]; simp [val], by simp, fun j h1 h2 => by omega, hP1, hb0, hb1, hB1⟩
  case round =>
    obtain ⟨k, qs, hk, rfl, rfl, hql, hqd, hPk, hbk0, hbk1, hBk⟩ := hrel
    have HQL := hide hql
    have HQD := hide hqd
    clear hql hqd hP1 hb0 hb1 hB1
    rcases Nat.eq_zero_or_pos k with rfl | hkp
    · rw [List.drop_zero]
      obtain ⟨r, hrr⟩ : ∃ r, val ps % m = r := ⟨_, rfl⟩
      rw [hrr]
      have HRR := hide hrr
      clear hrr
      have hres : ∀ W, W.heap[w.heap.size + 2]? = wr.heap[w.heap.size + 2]? → UN W w.heap.size (.slice (some ⟨w.heap.size + 2, 0, none⟩) (trm qs).length ps.length) (val ps / m) p := by
        intro W hW
        obtain ⟨t1, _, t3⟩ := trm_facts qs
        have tl := trm_len qs
        have hll := HQL.out
        have hval : val qs = val ps / m := by
          rcases qd_val hll (fun j hj => HQD.out j (by omega) hj) with h | h
          · exact h
          · omega
        have hsm : ∀ x, x ∈ qs → x < 1000000000 := by
          intro x hx
          obtain ⟨j, hj, rfl⟩ := List.getElem_of_mem hx
          have := HQD.out j (by omega) (by omega)
          unfold pt at this
          rw [List.getElem?_eq_getElem hj] at this
          have h2 := qd_small hps hm0 j
          rw [← this] at h2
          exact h2
        refine ⟨trm qs, ?_, trm_small hsm, t3, by rw [t1]; exact hval, by omega⟩
        have h0 := own_of_blk (B := w.heap.size) (n := ps.length) (hPk.of_eq hW) (by omega) (by omega) (by omega)
        rw [hll] at h0
        have h1 := owns_take (k := (trm qs).length) h0 (by omega)
        have e : (us qs).take (trm qs).length = us (trm qs) := by
          unfold us
          rw [← List.map_take]
          congr 1
          exact (trm_take qs).symm
        rwa [e] at h1
      have HRS := hide hres
      clear hres
      have hcq := hPk
      have hbx1 := hbk1.cell 0
      have hbx2 := hbk1.frozen 0
      have hur : UReads wr (some ⟨w.heap.size + 2, 0, none⟩) (w.heap.size + 2) qs := ⟨fun _ => rfl, fun j hj => by
        rw [hPk.cell j]; unfold us; rw [List.getElem?_map, List.getElem?_eq_getElem hj]; rfl⟩
      go_wp2_with fail
      refine (trimmed_any (w.heap.size + 2) ps.length ps.length qs _ HQL.out.symm hur (by rw [HQL.out]; omega) (by unfold maxLen; omega)).mono ?_
      rintro e w2 ⟨rfl, rfl⟩
      have hN := hbk1.set 0 (.slice (some ⟨w.heap.size + 2, 0, none⟩) (trm qs).length ps.length)
      have hU := HRS.out (w2.setCell ⟨w.heap.size + 1, 0, none⟩ (.slice (some ⟨w.heap.size + 2, 0, none⟩) (trm qs).length ps.length)) (Below.heap_setCell _ _ _ _ (by simp))
      go_wp2
      have hc1 := hN.cell 0
      have hBn : Below w.heap.size w (w2.setCell ⟨w.heap.size + 1, 0, none⟩ (.slice (some ⟨w.heap.size + 2, 0, none⟩) (trm qs).length ps.length)) := hBk.setCell (by simp) _
      exact bodyPost_ret (v := .tuple #[.agg #[.slice (some ⟨w.heap.size + 2, 0, none⟩) (trm qs).length ps.length], .int .u64 r]) (by simp [results, Tryd.results69, go_sem, hc1]) rfl ⟨_, by rw [HRR.out], hU, hBn⟩
    · obtain ⟨j, rfl⟩ : ∃ j, k = j + 1 := ⟨k - 1, by omega⟩
      have hlt : j < ps.length := by omega
      have hvd := val_drop ps hlt
      obtain rfl := hr.at_ (by omega)
      have hcx := (hr.of_eq (hBk.block g (hg (by omega)))).cell j hlt
      have hp1 : ps[j]?.getD 0 < 1000000000 := by rw [List.getElem?_eq_getElem hlt]; exact hps _ (List.getElem_mem hlt)
      have hcb := hbk0.cell 0
      have hlm : val (ps.drop (j + 1)) % m < m := Nat.mod_lt _ hm0
      have hrec : (val (ps.drop (j + 1)) % m * 1000000000 + ps[j]?.getD 0) % m = val (ps.drop j) % m := by
        rw [hvd, Nat.add_comm (ps[j]?.getD 0), Nat.mul_comm 1000000000]
        rw [Nat.add_mod, Nat.mul_mod, Nat.mod_mod, ← Nat.mul_mod, ← Nat.add_mod]
      have HREC := hide hrec
      have hqdj : qd ps m j = (val (ps.drop (j + 1)) % m * 1000000000 + ps[j]?.getD 0) / m := rfl
      clear hvd hrec
      generalize val (ps.drop (j + 1)) % m = lf at *
      generalize ps[j]?.getD 0 = p at *
      have hji : ((j + 1 : Nat) : Int) - 1 = (j : Int) := by omega
      rw [hji]
      have hfz := hPk.frozen j
      have hcj : wr.cell? ⟨w.heap.size + 2, j, none⟩ = some (.int .u64 ((qs[j]?.getD 0 : Nat) : Int)) := by
        rw [hPk.cell j]; unfold us; rw [List.getElem?_map, List.getElem?_eq_getElem (by rw [HQL.out]; exact hlt)]; rfl
      generalize qs[j]?.getD 0 = old at hcj
      go_wp2_with fail
      refine (mul64_any (lf : Int) 1000000000 (by omega) (by omega) (by omega) (by omega) (by omega) _).mono ?_
      rintro e w2 ⟨rfl, rfl⟩
      obtain ⟨t, ht⟩ : ∃ t : Nat, lf * 1000000000 = t := ⟨_, rfl⟩
      rw [show (lf : Int) * 1000000000 = (t : Int) by omega]
      have htl : t < 1000000000000000 := by omega
      rw [ht] at HREC hqdj
      have HQ := hide hqdj
      clear ht hqdj
      have h78 := fun W => add64_eq (t : Int) (p : Int) (by omega) (by omega) (by omega) W
      go_wp2_with fail
      rw [show (t : Int) + (p : Int) = ((t + p : Nat) : Int) by omega]
      refine (div64_m (t + p) m (by omega) hm0 hm _).mono ?_
      rintro e w3 ⟨rfl, kk, rfl⟩
      rw [HREC.out]
      obtain ⟨q, hqe⟩ : ∃ q, (t + p) / m = q := ⟨_, rfl⟩
      have HQE := hide (HQ.out.trans hqe)
      rw [hqe]
      clear hqe
      obtain ⟨lf2, hvd⟩ : ∃ x, val (ps.drop j) % m = x := ⟨_, rfl⟩
      rw [hvd]
      have HVD := hide hvd
      clear hvd
      go_wp2
      refine ⟨⟨j, qs.set j q, by omega, rfl, by rw [HVD.out], by rw [List.length_set]; exact HQL.out, ?_, ?_, ?_, ?_, ?_⟩, by simp [intOf]⟩
      · intro i h1 h2
        by_cases hij : i = j
        · subst hij
          rw [HQE.out]
          unfold pt
          rw [List.getElem?_set_self (by rw [HQL.out]; omega)]; rfl
        · unfold pt
          rw [List.getElem?_set_ne (by omega)]
          exact HQD.out i (by omega) h2
      · have := hPk.set j (.int .u64 (q : Int))
        unfold us at this ⊢
        rwa [List.map_set] at *
      · exact hbk0.other (by simp; omega) _
      · exact hbk1.other (by simp) _
      · exact Below.setCell (bdrewN hBk kk) (by simp; omega) _
end Go.Proofs.YtojnjfkonaeegaaDoorQ
