/- What the document's SignOf answers at a permutation: by pairs. -/
import Derived.Test.YtjchmhngfnlbhaaDoorSgm
import Derived.Test.YtjchmhngfnlbhaaDoorSgl
import Derived.Deep.RegionHeld3
namespace Go.Proofs.YtjchmhngfnlbhaaDoor
open Go Go.RowKit

/-- The pairs that change their order, among the first t. -/
def ivc (zs : List Int) (t : Nat) : Nat := ((List.range t).filter fun c => decide (c / zs.length < c % zs.length) && decide (nx zs (c % zs.length) < nx zs (c / zs.length))).length
def ivs (zs : List Int) (i k : Nat) : Int := sgN (ivc zs (i * zs.length + k))
theorem sgN_succ (k : Nat) : sgN (k + 1) = - sgN k := by rw [sgN_add]; simp [sgN]
theorem sgN_two (k : Nat) : sgN k = 1 ∨ sgN k = -1 := by unfold sgN; split <;> simp
theorem ivc_succ (zs : List Int) (t : Nat) : ivc zs (t + 1) = ivc zs t + if (decide (t / zs.length < t % zs.length) && decide (nx zs (t % zs.length) < nx zs (t / zs.length))) = true then 1 else 0 := by
  unfold ivc
  rw [List.range_succ, List.filter_append, List.length_append, List.filter_cons, List.filter_nil]
  split <;> rfl
theorem ivs_hit {zs : List Int} {i k : Nat} (hik : i < k) (hk : k < zs.length) (h : nx zs k < nx zs i) : ivs zs i (k + 1) = - ivs zs i k := by
  obtain ⟨e1, e2⟩ := Sgnm.pair_code (x := i) hk
  unfold ivs
  rw [← Nat.add_assoc, ivc_succ, e1, e2, if_pos (by simp [hik, h]), sgN_succ]
theorem ivs_miss {zs : List Int} {i k : Nat} (hk : k < zs.length) (h : ¬ (i < k ∧ nx zs k < nx zs i)) : ivs zs i (k + 1) = ivs zs i k := by
  obtain ⟨e1, e2⟩ := Sgnm.pair_code (x := i) hk
  unfold ivs
  rw [← Nat.add_assoc, ivc_succ, e1, e2, if_neg (by simpa using h), Nat.add_zero]
theorem ivs_row {zs : List Int} {i : Nat} (hi : i < zs.length) : ∀ k, k ≤ i + 1 → ivs zs i k = ivs zs i 0
  | 0, _ => rfl
  | k + 1, hk => by rw [ivs_miss (by omega) (by omega)]; exact ivs_row hi k (by omega)
theorem ivs_next (zs : List Int) (i : Nat) : ivs zs i zs.length = ivs zs (i + 1) 0 := by
  unfold ivs; rw [Nat.add_zero, Nat.add_mul, Nat.one_mul]
theorem ivs_end (zs : List Int) : ivs zs zs.length 0 = sgN (Sgnm.invs zs.length (nx zs)) := by
  unfold ivs ivc Sgnm.invs Sgnm.prs
  rw [Nat.add_zero, List.filter_filter]
  congr 2
  apply List.filter_congr
  intro c _
  rw [Bool.and_comm]
theorem ivs_new (zs : List Int) : ivs zs 0 0 = 1 := by simp [ivs, ivc, sgN]

set_option maxRecDepth 100000 in
set_option maxHeartbeats 8000000 in
theorem signOf_ok (u : Value) (zs : List Int) (w : World) (hu : Sl w u zs) (hperm : IsPerm zs) (hl : zs.length ≤ 1000) :
    Calls Tryd.prog 24 #[u] w fun e w' => e = .returned (.int .i64 (sgOf (cyc zs))) ∧ Below w.heap.size w w' := by
  rw [sgOf_invs hperm, ← ivs_end]
  obtain ⟨a, cap, pb, po, rfl, hrd, hpb, _, _⟩ := hu
  have HP := hide hperm
  clear hperm
  have hnl : (zs.length : Int) ≤ 1000 := by omega
  obtain ⟨n, hn⟩ : ∃ n, zs.length = n := ⟨_, rfl⟩
  have HN := hide hn
  rw [hn] at hl hnl ⊢
  have hat := hrd.at_
  rw [hn] at hat
  clear hn
  go_enter Tryd.func24, Tryd.ntmps24
  go_wp2
  go_loopw [3, 4] (fun sv iv wr => ∃ i : Nat, i ≤ n ∧ iv = .int .i64 i ∧ sv = .int .i64 (ivs zs i 0) ∧ Below w.heap.size w wr) (fun _ iv _ => n - (intOf iv).toNat)
  case atStart => exact ⟨0, Nat.zero_le _, rfl, by rw [ivs_new], Below.refl _ _⟩
  case round =>
    obtain ⟨i, hi, rfl, rfl, hB⟩ := hrel
    obtain ⟨wo, rfl⟩ : ∃ wo, wo = wr := ⟨_, rfl⟩
    by_cases hlt : i < n
    · obtain rfl := hat (by omega)
      have hci := (hrd.below hB hpb).cell i (by rw [HN.out]; exact hlt)
      have hrow := ivs_row (zs := zs) (i := i) (by rw [HN.out]; exact hlt) (i + 1) (Nat.le_refl _)
      have hvi := (nx_lt HP.out (show i < zs.length by rw [HN.out]; exact hlt)).2
      rw [hvi] at hci
      rw [← hrow]
      have HLT := hide hlt
      have hlti : (i : Int) < (n : Int) := by omega
      clear hrow hvi
      have hx0 := sgN_two (ivc zs (i * zs.length + (i + 1)))
      change ivs zs i (i + 1) = 1 ∨ ivs zs i (i + 1) = -1 at hx0
      have HX0 := hide hx0
      clear hx0
      obtain ⟨vi, hvi⟩ : ∃ vi, nx zs i = vi := ⟨_, rfl⟩
      rw [hvi] at hci
      have HVI := hide hvi
      clear hvi
      go_wp2
      go_loopw [3, 5] (fun sv kv wi => ∃ k : Nat, i + 1 ≤ k ∧ k ≤ n ∧ kv = .int .i64 k ∧ sv = .int .i64 (ivs zs i k) ∧ Below wo.heap.size wo wi) (fun _ kv _ => n - (intOf kv).toNat)
      case atStart => exact ⟨i + 1, Nat.le_refl _, by omega, by go_num, rfl, Below.refl _ _⟩
      case round =>
        obtain ⟨k, hk1, hk2, rfl, rfl, hBi⟩ := hrel
        by_cases hkl : k < n
        · have hki : (k : Int) < (n : Int) := by omega
          have hck := (hrd.below hB hpb).cell k (by rw [HN.out]; exact hkl)
          have hvk := (nx_lt HP.out (show k < zs.length by rw [HN.out]; exact hkl)).2
          rw [hvk] at hck
          have hS : ∀ W, Below wo.heap.size wo W → (Below wo.heap.size wo W ∧ W.cell? ⟨pb, po + i, none⟩ = some (.int .i64 (vi : Int)) ∧ W.cell? ⟨pb, po + k, none⟩ = some (.int .i64 ((nx zs k : Nat) : Int))) := fun W h => ⟨h, below_cell h hci, below_cell h hck⟩
          have hS0 := hS _ (bdrew hBi)
          have hx := sgN_two (ivc zs (i * zs.length + k))
          change ivs zs i k = 1 ∨ ivs zs i k = -1 at hx
          have hhit := ivs_hit (zs := zs) (i := i) (k := k) (by omega) (by rw [HN.out]; exact hkl)
          have hmis := ivs_miss (zs := zs) (i := i) (k := k) (by rw [HN.out]; exact hkl)
          rw [HVI.out] at hhit hmis
          obtain ⟨x, hxx⟩ : ∃ x, ivs zs i k = x := ⟨_, rfl⟩
          rw [hxx] at hx hhit hmis ⊢
          obtain ⟨vk, hvk2⟩ : ∃ vk, nx zs k = vk := ⟨_, rfl⟩
          rw [hvk2] at hS0 hhit hmis
          have hx1 : -1 ≤ x := by omega
          have hx2 : x ≤ 1 := by omega
          have HHIT := hide hhit
          have HMIS := hide hmis
          have HKL := hide hkl
          clear hS hck hvk hx hxx hvk2 hhit hmis hci
          by_cases hgt : vk < vi
          · have hgti : (vk : Int) < (vi : Int) := by omega
            go_wp2_with fail
            go_region_held3 (fun W => Below wo.heap.size wo W ∧ W.cell? ⟨pb, po + i, none⟩ = some (.int .i64 (vi : Int)) ∧ W.cell? ⟨pb, po + k, none⟩ = some (.int .i64 (vk : Int))) (exact hS0) (fail)
            have hB9 := bdrew hBi
            go_wp2
            go_roundw
            case rel => exact ⟨k + 1, by omega, by have := HKL.out; omega, by go_num, by rw [HHIT.out hgt], hB9⟩
            case measure => have := HKL.out; simp [intOf]; omega
          · have hgti : ¬ (vk : Int) < (vi : Int) := by omega
            go_wp2_with fail
            go_region_held3 (fun W => Below wo.heap.size wo W ∧ W.cell? ⟨pb, po + i, none⟩ = some (.int .i64 (vi : Int)) ∧ W.cell? ⟨pb, po + k, none⟩ = some (.int .i64 (vk : Int))) (exact hS0) (fail)
            have hB9 := bdrew hBi
            go_wp2
            go_roundw
            case rel => exact ⟨k + 1, by omega, by have := HKL.out; omega, by go_num, by rw [HMIS.out (fun h => hgt h.2)], hB9⟩
            case measure => have := HKL.out; simp [intOf]; omega
        · have hkk : k = n := by omega
          subst hkk
          have hnext := ivs_next zs i
          rw [HN.out] at hnext
          rw [hnext]
          have hBf := bcat hB hBi hB.size
          go_wp2
          go_roundw
          case rel => exact ⟨i + 1, by have := HLT.out; omega, by go_num, rfl, hBf⟩
          case measure => have := HLT.out; simp [intOf]; omega
    · have hii : i = n := by omega
      subst hii
      go_wp2
      go_ret
      exact ⟨rfl, hB⟩
end Go.Proofs.YtjchmhngfnlbhaaDoor
