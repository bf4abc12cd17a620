/- What the document's TextOf gives at permutations: the text. -/
import Derived.Test.YtjchmhngfnlbhaaDoorSho
import Derived.Test.YtjchmhngfnlbhaaDoorBz
import Derived.Test.YtjchmhngfnlbhaaDoorText
namespace Go.Proofs.YtjchmhngfnlbhaaDoor
open Go Go.RowKit

set_option maxRecDepth 100000 in
set_option maxHeartbeats 1000000 in
theorem string_ok (b m n : Nat) (w : World) (hb : BigZ w b (n : Int) m) (hm : m ≤ 1000000) :
    Calls Tryd.prog 23 #[.pointer (some ⟨b, 0, none⟩)] w fun e w' => e = .returned (.string ⟨(Lib.decDigits n).toArray⟩) ∧ Below w.heap.size w w' := by
  go_enter Tryd.func23, Tryd.ntmps23
  go_wp2_with fail
  refine (text_ok9 b m n _ hb hm).mono ?_
  rintro e w1 ⟨rfl, hB⟩
  go_wp2
  go_ret
  exact ⟨rfl, hB⟩

theorem str_app (a b : List UInt8) : (⟨a.toArray⟩ : ByteArray) ++ (⟨b.toArray⟩ : ByteArray) = ⟨(a ++ b).toArray⟩ := by
  apply ByteArray.ext
  simp [ByteArray.data_append]
theorem flat_take (L : List (List Nat)) {i : Nat} (hi : i < L.length) : flat (L.take (i + 1)) = flat (L.take i) ++ ctext (L[i]?.getD []) := by
  rw [List.take_succ_eq_append_getElem hi, flat_snoc, List.getElem?_eq_getElem hi]; rfl
set_option maxRecDepth 100000 in
set_option maxHeartbeats 4000000 in
theorem textOf_ok (u : Value) (zs : List Int) (w : World) (hu : Sl w u zs) (hperm : IsPerm zs) (hl : zs.length ≤ 1000) :
    Calls Tryd.prog 19 #[u] w fun e w' => e = .returned (.string ⟨(ptext zs).toArray⟩) ∧ Below w.heap.size w w' := by
  have hcy := cyclesOf_ok u zs false w hu hperm hl
  rw [← moved_ocs hperm] at hcy
  have hml := moved_len zs
  have hms : ∀ c, c ∈ moved (cyc zs) → c.length ≤ 1000 ∧ ∀ j, j < c.length → c[j]?.getD 0 ≤ 1000 := fun c hc => moved_small hperm hl hc
  obtain ⟨a, cap, pb, po, rfl, hr, hp, hq3, hq4⟩ := hu
  have hpt : ptext zs = if flat (moved (cyc zs)) = [] then [40, 41] else flat (moved (cyc zs)) := rfl
  have hne : 0 < (moved (cyc zs)).length → flat (moved (cyc zs)) ≠ [] := fun h => by
    cases hm : moved (cyc zs) with
    | nil => rw [hm] at h; simp at h
    | cons c L => simp [flat, ctext]
  have h0 : (moved (cyc zs)).length = 0 → flat (moved (cyc zs)) = [] := fun h => by
    rw [List.length_eq_zero_iff.1 h]; rfl
  have HCY := hide hcy
  have HPT := hide hpt
  clear hcy hperm hpt
  generalize moved (cyc zs) = L at *
  rcases Nat.eq_zero_or_pos L.length with hz | hpos
  · have hf := h0 hz
    have hpe : ptext zs = [40, 41] := by rw [HPT.out, if_pos hf]
    rw [hpe]
    go_enter Tryd.func19, Tryd.ntmps19
    go_wp2_with fail
    refine HCY.out.mono ?_
    rintro e w1 ⟨v, vs, rfl, hO, hC, hB⟩
    rw [hz] at hO
    obtain ⟨av, cv, rfl⟩ : ∃ av cv, v = .slice av 0 cv := by
      rcases hO.2 with ⟨rfl, _⟩ | ⟨g, c, cur, rfl, _⟩
      · exact ⟨_, _, rfl⟩
      · exact ⟨_, _, rfl⟩
    go_wp2
    go_ret
    exact ⟨rfl, hB⟩
  · have hf := hne hpos
    have hpe : ptext zs = flat L := by rw [HPT.out, if_neg hf]
    rw [hpe]
    go_enter Tryd.func19, Tryd.ntmps19
    go_wp2_with fail
    refine HCY.out.mono ?_
    rintro e w1 ⟨v, vs, rfl, hO, hC, hB⟩
    have hBs := hB.size
    obtain ⟨q, hq⟩ : ∃ q, L.length = q + 1 := ⟨L.length - 1, by omega⟩
    have hO' := hO
    rw [hq] at hO'
    obtain ⟨g, cv, rfl⟩ := ownsRow_succ hO'
    have hrd : ∀ (W : World), Below w1.heap.size w1 W → ∀ i, i < L.length → ∃ g2 c2, W.cell? ⟨g, i, none⟩ = some (.slice (some ⟨g2, 0, none⟩) (L[i]?.getD []).length c2) ∧ ∀ j, j < (L[i]?.getD []).length → W.cell? ⟨g2, j, none⟩ = some (.int .i64 (((L[i]?.getD [])[j]?.getD 0 : Nat) : Int)) := fun W hW i hi => by
      obtain ⟨g2, c2, h2, h3⟩ := (hC.below hW).2 i hi
      have h4 := (row_below hO' hW).cells (g := g) rfl i _ h2
      rw [show (⟨g, 0, none⟩ : Addr).add i = ⟨g, i, none⟩ by unfold Addr.add; split <;> simp_all] at h4
      exact ⟨g2, c2, h4, fun j hj => own_cell h3 hj⟩
    have hli : ¬ ((q : Int) + 1 = 0) := by omega
    have hq1000 : (q : Int) ≤ 1000 := by omega
    have hlb : ((q : Int) + 1 == 0) = false := by simpa using hli
    have HRD := hide hrd
    have HQ := hide hq
    clear hrd hO hO' hC hf hne h0 hpos hpe hq
    go_wp2
    go_loopw [4, 5] (fun sv iv wo => ∃ i : Nat, i ≤ q + 1 ∧ iv = .int .i64 i ∧ sv = .string ⟨(flat (L.take i)).toArray⟩ ∧ Below w1.heap.size w1 wo) (fun _ iv _ => q + 1 - (intOf iv).toNat)
    case atStart => exact ⟨0, Nat.zero_le _, rfl, rfl, Below.refl _ _⟩
    case round =>
      obtain ⟨i, hi, rfl, rfl, hBi⟩ := hrel
      by_cases hlt : i < q + 1
      · have hlti : (i : Int) < (q : Int) + 1 := by omega
        have HLTI := hide hlt
        have hft := flat_take L (i := i) (by have := HQ.out; omega)
        have hsm := hms (L[i]?.getD []) (by rw [List.getElem?_eq_getElem (by have := HQ.out; omega)]; exact List.getElem_mem _)
        obtain ⟨wo, rfl⟩ : ∃ wo, wo = wr := ⟨_, rfl⟩
        have HR := hide (fun (W : World) (h : Below w1.heap.size w1 W) => HRD.out W h i (by have := HQ.out; omega))
        obtain ⟨c, hc⟩ : ∃ c, L[i]?.getD [] = c := ⟨_, rfl⟩
        rw [hc] at hft hsm HR
        have HFT := hide hft
        have hFl : (flat (L.take i)).length ≤ 2000000000 := by
          have h1 := flat_len (L.take i) (fun c hc => by
            obtain ⟨k1, k2⟩ := hms c (List.mem_of_mem_take hc)
            exact ctext_len k1 k2)
          have h2 : (L.take i).length ≤ 1000 := by have := List.length_take_le' i L; omega
          have h3 : (L.take i).length * 1100000 ≤ 1000 * 1100000 := Nat.mul_le_mul_right _ h2
          omega
        clear hft hc
        generalize flat (L.take i) = F at *
        obtain ⟨g2, c2, hk1, _⟩ := HR.out _ hBi
        have hF1 : ¬ 9223372036854775807 < F.length + 1 := by omega
        go_wp2
        go_loopw [4, 6] (fun sv kv wi => ∃ k : Nat, k ≤ c.length ∧ kv = .int .i64 k ∧ sv = .string ⟨(F ++ [40] ++ part c k).toArray⟩ ∧ Below w1.heap.size w1 wi) (fun _ kv _ => c.length - (intOf kv).toNat)
        case atStart => exact ⟨0, Nat.zero_le _, rfl, by rw [str_app]; simp [part], hBi⟩
        case round =>
          obtain ⟨k, hk, rfl, rfl, hBk⟩ := hrel
          obtain ⟨g3, c3, hk3, hcc⟩ := HR.out _ hBk
          have hpl := part_len (c := c) hsm.2 k hk
          have hml : k * 1002 ≤ 1000 * 1002 := Nat.mul_le_mul_right _ (by have := hsm.1; omega)
          have hpl2 : (part c k).length ≤ 1002000 := by omega
          by_cases hkl : k < c.length
          · have hcx := hcc k hkl
            have hx1 := hsm.2 k hkl
            have hpk : part c (k + 1) = part c k ++ (if 0 < k then [32] else []) ++ Lib.decDigits (c[k]?.getD 0) := by rw [part, Lib.itoa_nonneg]
            have HPK := hide hpk
            clear hpk hcc
            generalize c[k]?.getD 0 = x at *
            have hdl := dec_le 3 x (by omega)
            have hAl : (F ++ [40] ++ part c k).length ≤ 3000000000 := by
              simp only [List.length_append, List.length_singleton]; omega
            obtain ⟨A, hA⟩ : ∃ A, F ++ [40] ++ part c k = A := ⟨_, rfl⟩
            rw [hA] at hAl ⊢
            have HA := hide hA
            clear hA
            rcases Nat.eq_zero_or_pos k with rfl | hk0
            · have hA2 : ¬ 9223372036854775807 < A.length + (Lib.decDigits x).length := by omega
              go_wp2_with fail
              refine (big_ok (x : Int) _ (by omega) (by omega)).mono ?_
              rintro e w2 ⟨⟨b, rfl, hbb, hz⟩, hB2⟩
              go_wp2_with fail
              refine (string_ok b 2 x _ hz (by omega)).mono ?_
              rintro e w3 ⟨rfl, hB3⟩
              have hB4 : Below w1.heap.size w1 w3 := bcat hBk (bcat2 hB2 hB3) hBk.size
              go_wp2
              go_roundw
              case rel => exact ⟨1, by omega, rfl, by rw [str_app, HPK.out, ← HA.out]; simp, hB4⟩
              case measure => simp [intOf]; omega
            · have hki : (0 : Int) < (k : Int) := by omega
              have hA1 : ¬ 9223372036854775807 < A.length + 1 := by omega
              have hA2 : ¬ 9223372036854775807 < A.length + 1 + (Lib.decDigits x).length := by omega
              go_wp2_with fail
              refine (big_ok (x : Int) _ (by omega) (by omega)).mono ?_
              rintro e w2 ⟨⟨b, rfl, hbb, hz⟩, hB2⟩
              go_wp2_with fail
              refine (string_ok b 2 x _ hz (by omega)).mono ?_
              rintro e w3 ⟨rfl, hB3⟩
              have hB4 : Below w1.heap.size w1 w3 := bcat hBk (bcat2 hB2 hB3) hBk.size
              go_wp2
              go_roundw
              case rel => exact ⟨k + 1, by omega, by go_num, by rw [show (⟨#[32]⟩ : ByteArray) = ⟨[(32 : UInt8)].toArray⟩ from rfl, str_app, str_app, HPK.out, if_pos hk0, ← HA.out]; simp, hB4⟩
              case measure => simp [intOf]; omega
          · have hkk : k = c.length := by omega
            subst hkk
            have hAl : (F ++ [40] ++ part c c.length).length ≤ 3000000000 := by
              simp only [List.length_append, List.length_singleton]; omega
            have hfin : F ++ [40] ++ part c c.length ++ [41] = F ++ ctext c := by simp [ctext]
            obtain ⟨A, hA⟩ : ∃ A, F ++ [40] ++ part c c.length = A := ⟨_, rfl⟩
            rw [hA] at hAl hfin ⊢
            have HA := hide hfin
            clear hA hfin
            have hA1 : ¬ 9223372036854775807 < A.length + 1 := by omega
            go_wp2
            go_roundw
            case rel => exact ⟨i + 1, by have := HLTI.out; omega, by go_num, by rw [show (⟨#[41]⟩ : ByteArray) = ⟨[(41 : UInt8)].toArray⟩ from rfl, str_app, HFT.out, HA.out], hBk⟩
            case measure => have := HLTI.out; simp [intOf]; omega
      · have hii : i = q + 1 := by omega
        subst hii
        have htk : L.take (q + 1) = L := by rw [← HQ.out, List.take_length]
        rw [htk]
        go_wp2
        go_ret
        exact ⟨rfl, hB.trans (hBi.mono hBs)⟩
end Go.Proofs.YtjchmhngfnlbhaaDoor
