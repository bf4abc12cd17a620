/- What slices.BinarySearchFunc answers at a list of lists that rises, by slices.Compare; place of package table. No condition. -/
import Derived.Test.YtgphcfmiamiojaaGp1
import Derived.Test.YtgphcfmiamiojaaCmp
import Derived.Test.YtgphcfmiamiojaaCayley
namespace Go.Proofs.Ytgphcfmiamiojaa
open Go Go.RowKit
open Pm

theorem call36 (a b : Value) (W : World) : Sem.run Try.prog (callFunc 36 #[a, b]) W = .ok (.enter 36 #[a, b]) W := by kernel_rfl
theorem RiseL.lt {L : List (List Int)} (h : RiseL L) {i j : Nat} (hij : i < j) (hj : j < L.length) : cmpL (L[i]?.getD []) (L[j]?.getD []) < 0 := by
  have := List.pairwise_iff_getElem.1 h i j (by omega) hj hij
  rw [List.getElem?_eq_getElem (by omega), List.getElem?_eq_getElem hj]
  exact this

set_option maxRecDepth 100000 in
set_option maxHeartbeats 4000000 in
theorem bsf_ok (v u : Value) (ls : List (List Int)) (p : List Int) (w : World) (hv : SlL w v ls) (hu : Sl w u p) (hr : RiseL ls) (hn : ls.length ≤ 1000) (hp : p.length ≤ 1000000) (hl : ∀ q, q ∈ ls → q.length ≤ 1000000) :
    Calls Try.prog 35 #[v, u, .func (.func 36) #[] #[]] w fun e w' => (∃ i : Nat, AtL ls p i ∧ e = .returned (.tuple #[.int .i64 i, .bool (decide (p ∈ ls))])) ∧ w' = w := by
  obtain ⟨a, cap, pb, po, rfl, h0, hc, hpl, hc1, hc2⟩ := hv
  have HC := hide hc
  have HR := hide hr
  have HL := hide hl
  have H0 := hide h0
  have hcl := fun (x y : Value) => call36 x y w
  have hni : (ls.length : Int) ≤ 1000 := by omega
  clear hc hr hl h0 hc2
  obtain ⟨ua, uc, hue⟩ : ∃ ua uc, u = .slice ua p.length uc := by obtain ⟨ua, uc, _, _, h, _⟩ := hu; exact ⟨ua, uc, h⟩
  subst hue
  obtain ⟨b, hb⟩ : ∃ b, decide (p ∈ ls) = b := ⟨_, rfl⟩
  rw [hb]
  have HBD := hide hb
  clear hb
  go_enter Try.func35, Try.ntmps35
  go_wp2
  go_loopw [9, 10] (fun iv jv wr => ∃ i j : Nat, i ≤ j ∧ j ≤ ls.length ∧ iv = .int .i64 i ∧ jv = .int .i64 j ∧ wr = w ∧ (∀ k, k < i → cmpL (ls[k]?.getD []) p < 0) ∧ ∀ k, j ≤ k → k < ls.length → 0 ≤ cmpL (ls[k]?.getD []) p) (fun iv jv _ => (intOf jv).toNat - (intOf iv).toNat)
  case atStart => exact ⟨0, ls.length, Nat.zero_le _, Nat.le_refl _, rfl, rfl, rfl, fun k h => by omega, fun k h1 h2 => by omega⟩
  case round =>
    obtain ⟨i, j, hij, hjn, rfl, rfl, hwr, h1, h2⟩ := hrel
    rw [hwr]
    clear hwr
    have H1 := hide h1
    have H2 := hide h2
    clear h1 h2
    by_cases hlt : i < j
    · have hlti : (i : Int) < (j : Int) := by omega
      obtain ⟨s, hs⟩ : ∃ s, i + j = s := ⟨_, rfl⟩
      have hsi : (i : Int) + (j : Int) = (s : Int) := by omega
      obtain ⟨h, hh⟩ : ∃ h, s / 2 = h := ⟨_, rfl⟩
      have hhi : (s : Int) / 2 = (h : Int) := by omega
      have hb1 : i ≤ h := by omega
      have hb2 : h < j := by omega
      have hhl : (h : Int) < (ls.length : Int) := by omega
      have hws : IntKind.i64.wrap (s : Int) = (s : Int) := by rw [IntKind.wrap_i64]; omega
      have hwu : IntKind.u64.wrap (s : Int) = (s : Int) := by rw [IntKind.wrap_u64]; omega
      have hwh : IntKind.i64.wrap (h : Int) = (h : Int) := by rw [IntKind.wrap_i64]; omega
      have HS := hide (And.intro hs hh)
      obtain ⟨x, hx, hxs⟩ := HC.out h (by omega)
      obtain rfl := H0.out (by omega)
      have hql := HL.out (ls[h]?.getD []) (by rw [List.getElem?_eq_getElem (by omega)]; exact List.getElem_mem _)
      have HCM := hide (scmp_ok x _ _ p w hxs hu hql hp)
      obtain ⟨z, hz⟩ : ∃ z, cmpL (ls[h]?.getD []) p = z := ⟨_, rfl⟩
      rw [hz] at HCM
      have HZ := hide hz
      have hge0 : (0 : Int) ≤ (s : Int) := by omega
      clear hs hh hz hxs hql
      go_wp2_with fail
      refine HCM.out.mono ?_
      rintro e w1 ⟨rfl, rfl⟩
      by_cases hz0 : z < 0
      · go_wp2
        go_roundw
        case rel => exact ⟨h + 1, j, by omega, hjn, by go_num, rfl, by first | rfl | trivial, fun k hk => by
          rcases Nat.lt_or_ge k h with h3 | h3
          · exact cmpL_trans _ _ _ (HR.out.lt h3 (by omega)) (by rw [HZ.out]; exact hz0)
          · rw [show k = h by omega, HZ.out]; exact hz0, H2.out⟩
        case measure => simp [intOf]; omega
      · go_wp2
        go_roundw
        case rel => exact ⟨i, h, hb1, by omega, rfl, rfl, by first | rfl | trivial, H1.out, fun k hk hkl => by
          refine Int.not_lt.1 fun h3 => ?_
          rcases Nat.lt_or_ge h k with h4 | h4
          · have := cmpL_trans _ _ _ (HR.out.lt h4 hkl) h3
            rw [HZ.out] at this; omega
          · rw [show k = h by omega, HZ.out] at h3; omega⟩
        case measure => simp [intOf]; omega
    · obtain rfl : i = j := by omega
      have hni2 : ¬ (i : Int) < (i : Int) := by omega
      have hat : AtL ls p i := ⟨hjn, H1.out, fun k h1 h2 => Int.not_lt.2 (H2.out k h1 h2)⟩
      have hfd := hat.found HR.out
      have HAT := hide hat
      have hb := HBD.out
      clear hat
      by_cases hil : i < ls.length
      · have hili : (i : Int) < (ls.length : Int) := by omega
        obtain ⟨x, hx, hxs⟩ := HC.out i hil
        obtain rfl := H0.out (by omega)
        have hql := HL.out (ls[i]?.getD []) (by rw [List.getElem?_eq_getElem hil]; exact List.getElem_mem _)
        have HCM := hide (scmp_ok x _ _ p w hxs hu hql hp)
        obtain ⟨z, hz⟩ : ∃ z, cmpL (ls[i]?.getD []) p = z := ⟨_, rfl⟩
        have hzb : b = (z == 0) := by
          rw [← hb, ← hz]
          rw [Bool.eq_iff_iff, decide_eq_true_iff, hfd, beq_iff_eq, cmpL_zero]
          exact ⟨fun h => h.2, fun h => ⟨hil, h⟩⟩
        rw [hz] at HCM
        subst hzb
        clear hz hxs hql hfd hb
        go_wp2_with fail
        refine HCM.out.mono ?_
        rintro e w1 ⟨rfl, rfl⟩
        go_wp2
        go_ret2
        exact ⟨⟨i, HAT.out, rfl⟩, rfl⟩
      · have hili : ¬ (i : Int) < (ls.length : Int) := by omega
        have hilb : decide ((i : Int) < (ls.length : Int)) = false := decide_eq_false hili
        have hbf : b = false := by rw [← hb]; exact decide_eq_false (fun h => hil (hfd.1 h).1)
        subst hbf
        clear hfd hb
        go_wp2
        go_ret2
        exact ⟨⟨i, HAT.out, rfl⟩, rfl⟩

set_option maxRecDepth 100000 in
set_option maxHeartbeats 2000000 in
theorem place_ok (v u : Value) (ls : List (List Int)) (p : List Int) (w : World) (hv : SlL w v ls) (hu : Sl w u p) (hr : RiseL ls) (hn : ls.length ≤ 1000) (hp : p.length ≤ 1000000) (hl : ∀ q, q ∈ ls → q.length ≤ 1000000) :
    Calls Try.prog 21 #[v, u] w fun e w' => (∃ i : Nat, AtL ls p i ∧ e = .returned (.tuple #[.int .i64 i, .bool (decide (p ∈ ls))])) ∧ w' = w := by
  have HB := hide (bsf_ok v u ls p w hv hu hr hn hp hl)
  clear hv hu hr hn hp hl
  go_enter Try.func21, Try.ntmps21
  go_wp2_with fail
  refine HB.out.mono ?_
  rintro e w1 ⟨⟨i, hi, rfl⟩, rfl⟩
  have HI := hide hi
  clear hi
  go_wp2
  go_ret2
  exact ⟨⟨i, HI.out, rfl⟩, rfl⟩
end Go.Proofs.Ytgphcfmiamiojaa
