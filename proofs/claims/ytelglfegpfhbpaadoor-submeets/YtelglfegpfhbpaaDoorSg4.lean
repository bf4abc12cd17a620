/- What package slices' IndexFunc, ContainsFunc answer of sets. -/
import Derived.Test.YtelglfegpfhbpaaDoorSg1
namespace Go.Proofs.YtelglfegpfhbpaaDoor
open Go Go.RowKit

/-- A slice of sets reads as these bits. -/
def SlU (w : World) (v : Value) (xs : List Nat) : Prop := ∃ a cap pb po, v = .slice a xs.length cap ∧ (0 < xs.length → a = some ⟨pb, po, none⟩) ∧ (∀ j, j < xs.length → w.cell? ⟨pb, po + j, none⟩ = some (.int .u64 (xs[j]?.getD 0 : Nat))) ∧ pb < w.heap.size ∧ xs.length ≤ cap ∧ cap ≤ maxLen
theorem SlU.below {w w' : World} {v : Value} {xs : List Nat} (h : SlU w v xs) (hb : Below w.heap.size w w') : SlU w' v xs := by
  obtain ⟨a, cap, pb, po, rfl, h1, h2, h3, h4, h5⟩ := h
  exact ⟨a, cap, pb, po, rfl, h1, fun j hj => below_cell hb (h2 j hj), Nat.lt_of_lt_of_le h3 hb.size, h4, h5⟩
theorem SlU.of_own {w : World} {base k : Nat} {v : Value} {xs : List Nat} (hk : k = xs.length) (h : w.ownsRow base 82 1 v k (xs.map fun (s : Nat) => Value.int .u64 (s : Int))) (h0 : 0 < w.heap.size) : SlU w v xs := by
  subst hk
  rcases h.2 with ⟨rfl, hz⟩ | ⟨g, cap, cur, rfl, _, hh, h1, h2, _⟩
  · exact ⟨none, 0, 0, 0, by rw [hz], fun h => by omega, fun j hj => by omega, h0, by omega, by unfold maxLen; omega⟩
  · refine ⟨some ⟨g, 0, none⟩, cap, g, 0, rfl, fun _ => rfl, fun j hj => ?_, (Array.getElem?_eq_some_iff.1 hh).1, h1, h2⟩
    have h3 := h.cells (g := g) rfl j (.int .u64 (xs[j]?.getD 0 : Nat)) (by simp [hj])
    rw [show (⟨g, 0, none⟩ : Addr).add j = ⟨g, j, none⟩ by unfold Addr.add; split <;> simp_all] at h3
    rw [Nat.zero_add]; exact h3
/-- The place of the first set of which it is so. -/
def idxI (xs : List Nat) (t : Nat → Bool) : Int := if xs.findIdx t < xs.length then (xs.findIdx t : Int) else -1
theorem idxI_at {xs : List Nat} {t : Nat → Bool} {k : Nat} (hk : k < xs.length) (h : t (xs[k]?.getD 0) = true) (hno : ∀ j, j < k → t (xs[j]?.getD 0) = false) : idxI xs t = k := by
  have h1 : xs.findIdx t = k := by
    rw [List.findIdx_eq hk]
    rw [List.getElem?_eq_getElem hk] at h
    refine ⟨h, fun j hj => ?_⟩
    have := hno j hj
    rw [List.getElem?_eq_getElem (by omega)] at this
    exact this
  unfold idxI
  rw [h1, if_pos hk]
theorem idxI_no {xs : List Nat} {t : Nat → Bool} (hno : ∀ j, j < xs.length → t (xs[j]?.getD 0) = false) : idxI xs t = -1 := by
  unfold idxI
  rw [if_neg]
  intro h
  have h2 := List.findIdx_getElem (w := h)
  have := hno _ h
  rw [List.getElem?_eq_getElem h] at this
  simp at this h2
  rw [this] at h2
  exact absurd h2 (by decide)
theorem idxI_any {xs : List Nat} {t : Nat → Bool} : decide (0 ≤ idxI xs t) = xs.any t := by
  unfold idxI
  rw [Bool.eq_iff_iff, decide_eq_true_eq, List.any_eq_true]
  by_cases h : xs.findIdx t < xs.length
  · rw [if_pos h]
    exact ⟨fun _ => ⟨xs[xs.findIdx t], List.getElem_mem h, List.findIdx_getElem (w := h)⟩, fun _ => by omega⟩
  · rw [if_neg h]
    constructor
    · intro h9; omega
    · rintro ⟨x, hx, ht⟩
      exact absurd (List.findIdx_lt_length_of_exists ⟨x, hx, ht⟩) h
set_option maxRecDepth 100000 in
set_option maxHeartbeats 2000000 in
theorem index_ok (k : Nat) (caps : Array Value) (v : Value) (xs : List Nat) (t : Nat → Bool) (w : World) (hv : SlU w v xs)
    (hcall : ∀ (s : Int) W, Sem.run Tryd.prog (callFunc k (#[.int .u64 s] ++ caps)) W = .ok (.enter k (#[.int .u64 s] ++ caps)) W)
    (hp : ∀ (W : World) (s : Nat), Below w.heap.size w W → s ∈ xs → Calls Tryd.prog k (#[.int .u64 s] ++ caps) W fun e w' => e = .returned (.bool (t s)) ∧ Below W.heap.size W w') :
    Calls Tryd.prog 154 #[v, .func (.func k) #[] caps] w fun x w' => x = .returned (.int .i64 (idxI xs t)) ∧ Below w.heap.size w w' := by
  obtain ⟨va, vc, vb, vo, rfl, v1, v2, v3, v4, v5⟩ := hv
  have hm1 : xs.length ≤ 9223372036854775807 := by unfold maxLen at v5; omega
  have HV := hide v2
  have HV1 := hide v1
  have HP := hide hp
  clear v1 v2 v5 hp
  go_enter Tryd.func154, Tryd.ntmps154
  go_wp2
  go_loopw [8] (fun i wr => ∃ j : Nat, j ≤ xs.length ∧ i = .int .i64 j ∧ (∀ b, b < j → t (xs[b]?.getD 0) = false) ∧ Below w.heap.size w wr) (fun i _ => xs.length - (intOf i).toNat)
  case atStart => exact ⟨0, Nat.zero_le _, rfl, fun b hb => by omega, Below.refl _ _⟩
  case round =>
    obtain ⟨j, hj, rfl, hno, hB⟩ := hrel
    have HNO := hide hno
    clear hno
    by_cases hlt : j < xs.length
    · have hji : (j : Int) < (xs.length : Int) := by omega
      obtain rfl := HV1.out (by omega)
      have cy := below_cell hB (HV.out j hlt)
      obtain ⟨s, hs⟩ : ∃ s, xs[j]?.getD 0 = s := ⟨_, rfl⟩
      have hmem : s ∈ xs := by rw [← hs, List.getElem?_eq_getElem hlt]; exact List.getElem_mem hlt
      have HS := hide hs
      rw [hs] at cy
      clear hs
      have HK := hide (HP.out wr s hB hmem)
      cases hts : t s with
      | true =>
        rw [hts] at HK
        have HW := hide (idxI_at hlt (by rw [HS.out]; exact hts) HNO.out)
        go_wp2_with fail
        refine HK.out.mono ?_
        rintro x w1 ⟨rfl, hb1⟩
        go_wp2
        go_ret
        exact ⟨by rw [HW.out]; rfl, bcat2 hB hb1⟩
      | false =>
        rw [hts] at HK
        go_wp2_with fail
        refine HK.out.mono ?_
        rintro x w1 ⟨rfl, hb1⟩
        go_wp2
        go_roundw
        case rel => exact ⟨j + 1, by omega, by go_num, fun b hb => by
          by_cases e9 : b = j
          · subst e9; rw [HS.out]; exact hts
          · exact HNO.out b (by omega), bcat2 hB hb1⟩
        case measure => simp [intOf]; omega
    · have hji : ¬ (j : Int) < (xs.length : Int) := by omega
      have HW := hide (idxI_no (xs := xs) (t := t) (fun b hb => HNO.out b (by omega)))
      go_wp2
      go_ret
      exact ⟨by rw [HW.out]; rfl, hB⟩
set_option maxRecDepth 100000 in
theorem contains_ok (k : Nat) (caps : Array Value) (v : Value) (xs : List Nat) (t : Nat → Bool) (w : World) (hv : SlU w v xs)
    (hcall : ∀ (s : Int) W, Sem.run Tryd.prog (callFunc k (#[.int .u64 s] ++ caps)) W = .ok (.enter k (#[.int .u64 s] ++ caps)) W)
    (hp : ∀ (W : World) (s : Nat), Below w.heap.size w W → s ∈ xs → Calls Tryd.prog k (#[.int .u64 s] ++ caps) W fun e w' => e = .returned (.bool (t s)) ∧ Below W.heap.size W w') :
    Calls Tryd.prog 124 #[v, .func (.func k) #[] caps] w fun x w' => x = .returned (.bool (xs.any t)) ∧ Below w.heap.size w w' := by
  have HI := hide (index_ok k caps v xs t w hv hcall hp)
  have HE := hide (idxI_any (xs := xs) (t := t))
  clear hcall hp hv
  rw [← HE.out]
  clear HE
  go_enter Tryd.func124, Tryd.ntmps124
  go_wp2_with fail
  refine HI.out.mono ?_
  rintro x w1 ⟨rfl, hb1⟩
  by_cases h0 : 0 ≤ idxI xs t
  · skip
    go_wp2
    go_ret
    exact ⟨by rw [decide_eq_true (by omega)]; rfl, hb1⟩
  · skip
    go_wp2
    go_ret
    exact ⟨by rw [decide_eq_false (by omega)]; rfl, hb1⟩
end Go.Proofs.YtelglfegpfhbpaaDoor
