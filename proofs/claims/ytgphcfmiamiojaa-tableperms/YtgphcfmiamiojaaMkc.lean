/- What makers.Check answers at whatever lists. No condition. -/
import Derived.Test.YtgphcfmiamiojaaAlp
namespace Go.Proofs.Ytgphcfmiamiojaa
open Go Go.RowKit
open Pm

/-- What is wrong with permutations that make a group, from the i-th on. -/
def mfl (l : List (List Int)) : Nat → Nat → Int × Int
  | 0, _ => (0, 0)
  | r + 1, i => if (fault (l[i]?.getD [])).1 ≠ 0 then ((fault (l[i]?.getD [])).1, (i : Int)) else if (l[i]?.getD []).length ≠ (l[0]?.getD []).length then (8, (i : Int)) else mfl l r (i + 1)
def mfault (l : List (List Int)) : Int × Int := if l.length < 1 ∨ 20 < l.length then (2, 0) else mfl l l.length 0
theorem mfl_prm {l : List (List Int)} : ∀ (r i : Nat), i + r = l.length → (mfl l r i).1 = 0 → mfl l r i = (0, 0) ∧ ∀ j, i ≤ j → j < l.length → (fault (l[j]?.getD [])).1 = 0 ∧ (l[j]?.getD []).length = (l[0]?.getD []).length
  | 0, i, h, _ => ⟨rfl, fun j h1 h2 => by omega⟩
  | r + 1, i, h, h0 => by
    unfold mfl at h0 ⊢
    by_cases h1 : (fault (l[i]?.getD [])).1 ≠ 0
    · rw [if_pos h1] at h0; exact absurd h0 h1
    · rw [if_neg h1] at h0 ⊢
      by_cases h2 : (l[i]?.getD []).length ≠ (l[0]?.getD []).length
      · rw [if_pos h2] at h0; simp at h0
      · rw [if_neg h2] at h0 ⊢
        obtain ⟨e, ih⟩ := mfl_prm r (i + 1) (by omega) h0
        refine ⟨e, fun j h3 h4 => ?_⟩
        by_cases hj : j = i
        · subst hj; exact ⟨Decidable.not_not.1 h1, Decidable.not_not.1 h2⟩
        · exact ih j (by omega) h4
theorem mfault_good {l : List (List Int)} (h : (mfault l).1 = 0) : mfault l = (0, 0) ∧ l ≠ [] ∧ l.length ≤ 20 ∧ Prms l (l[0]?.getD []).length ∧ (l[0]?.getD []).length ≤ 1000 := by
  unfold mfault at h ⊢
  by_cases h1 : l.length < 1 ∨ 20 < l.length
  · rw [if_pos h1] at h; simp at h
  · rw [if_neg h1] at h ⊢
    obtain ⟨e, hh⟩ := mfl_prm l.length 0 (by omega) h
    refine ⟨e, fun e => by subst e; simp at h1, by omega, fun p hp => ?_, ?_⟩
    · obtain ⟨j, hj, e⟩ := List.mem_iff_getElem.1 hp
      have := hh j (Nat.zero_le _) hj
      rw [List.getElem?_eq_getElem hj] at this
      simp only [Option.getD_some] at this
      rw [e] at this
      exact ⟨(fault_perm this.1).1, this.2⟩
    · exact (fault_perm (hh 0 (Nat.le_refl _) (by omega)).1).2

set_option maxRecDepth 100000 in
set_option maxHeartbeats 8000000 in
theorem makers_any (v : Value) (l : List (List Int)) (w : World) (hv : SlL w v l) (hm : ∀ p, p ∈ l → p.length ≤ maxLen) :
    Calls Try.prog 17 #[v] w fun e w' => e = .returned (.agg #[.int .i64 (mfault l).1, .int .i64 (mfault l).2]) ∧ Below w.heap.size w w' := by
  have HV := hide hv
  have HM := hide hm
  obtain ⟨a, cap, pb, po, rfl, h0, hc, hpl, hc1, hc2⟩ := hv
  have hB0 : Below w.heap.size w (w.alloc (.cells #[.int .i64 0, .int .i64 0] 29)) := balloc w _
  have hR0 : Blk (w.alloc (.cells #[.int .i64 0, .int .i64 0] 29)) w.heap.size 29 [.int .i64 0, .int .i64 0] := blk0 _ _
  by_cases h1 : l.length < 1 ∨ 20 < l.length
  · have hf : mfault l = (2, 0) := by unfold mfault; rw [if_pos h1]
    rw [hf]
    have hR1 : Blk (w.alloc (.cells #[.int .i64 2, .int .i64 0] 29)) w.heap.size 29 [.int .i64 2, .int .i64 0] := blk0 _ _
    have hB1 : Below w.heap.size w (w.alloc (.cells #[.int .i64 2, .int .i64 0] 29)) := balloc w _
    obtain ⟨k0, k1, _, _⟩ := hR1.two
    have HB := hide hB1
    clear hc h0 hR0 hB0 hR1 hB1 hf
    rcases h1 with h2 | h2
    · have h2i : (l.length : Int) < 1 := by omega
      have h2d : decide ((l.length : Int) < 1) = true := decide_eq_true h2i
      go_enter Try.func17, Try.ntmps17
      go_wp2
      exact bodyPost_ret (v := .agg #[.int .i64 2, .int .i64 0]) (by simp [results, Try.results17, go_sem, k0, k1]) rfl ⟨rfl, HB.out⟩
    · have h2d : decide ((l.length : Int) < 1) = false := decide_eq_false (by omega)
      have h3i : (20 : Int) < (l.length : Int) := by omega
      go_enter Try.func17, Try.ntmps17
      go_wp2
      exact bodyPost_ret (v := .agg #[.int .i64 2, .int .i64 0]) (by simp [results, Try.results17, go_sem, k0, k1]) rfl ⟨rfl, HB.out⟩
  · have hf : mfault l = mfl l l.length 0 := by unfold mfault; rw [if_neg h1]
    have h2d : decide ((l.length : Int) < 1) = false := decide_eq_false (by omega)
    have h3d : decide ((20 : Int) < (l.length : Int)) = false := decide_eq_false (by omega)
    have hll : (l.length : Int) ≤ 20 := by omega
    have hl0 : 0 < l.length := by omega
    obtain rfl := h0 hl0
    rw [hf]
    obtain ⟨mc, md, hmcd⟩ : ∃ mc md, mfl l l.length 0 = (mc, md) := ⟨_, _, rfl⟩
    have HMC := hide hmcd
    rw [hmcd]
    clear hmcd
    have HR0 := hide (And.intro hR0 hB0)
    clear hc hf h1 hR0 hB0 h0
    go_enter Try.func17, Try.ntmps17
    go_wp2
    obtain ⟨hR0, hB0⟩ := HR0.out
    go_loopw [17] (fun iv wr => ∃ k : Nat, k ≤ l.length ∧ iv = .int .i64 k ∧ Blk wr w.heap.size 29 [.int .i64 0, .int .i64 0] ∧ Below w.heap.size w wr ∧ mfl l l.length 0 = mfl l (l.length - k) k) (fun iv _ => l.length - (intOf iv).toNat)
    case atStart => exact ⟨0, Nat.zero_le _, rfl, hR0, hB0, rfl⟩
    case round =>
      clear hR0 hB0
      obtain ⟨k, hk, rfl, hR, hB, hmf⟩ := hrel
      by_cases hlt : k < l.length
      · have hki : (k : Int) < (l.length : Int) := by omega
        obtain ⟨a2, cap2, pb2, po2, he, h02, hc3, hpl2, _, _⟩ := HV.out.below hB
        cases he
        have e02 := h02 hl0
        cases e02
        obtain ⟨x, hx, hxs⟩ := hc3 k hlt
        obtain ⟨y, hy, hys⟩ := hc3 0 hl0
        obtain ⟨r, hr⟩ : ∃ r, l.length - k = r + 1 := ⟨l.length - k - 1, by omega⟩
        have hstep : mfl l (l.length - k) k = if (fault (l[k]?.getD [])).1 ≠ 0 then ((fault (l[k]?.getD [])).1, (k : Int)) else if (l[k]?.getD []).length ≠ (l[0]?.getD []).length then (8, (k : Int)) else mfl l (l.length - (k + 1)) (k + 1) := by
          rw [hr, mfl, show l.length - (k + 1) = r by omega]
        rw [hstep] at hmf
        obtain ⟨p, hp⟩ : ∃ p, l[k]?.getD [] = p := ⟨_, rfl⟩
        obtain ⟨q, hq⟩ : ∃ q, l[0]?.getD [] = q := ⟨_, rfl⟩
        rw [hp] at hxs hmf
        rw [hq] at hys hmf
        have hpm : p.length ≤ maxLen := HM.out p (by rw [← hp, List.getElem?_eq_getElem hlt]; exact List.getElem_mem _)
        have HCH := hide (fun (W : World) (h : Sl W x p) => check_sl x p W h)
        have hxs' := hxs
        obtain ⟨xa, xc, xb, xo, hxe, _⟩ := hxs'
        obtain ⟨ya, yc, yb, yo, hye, _⟩ := id hys
        subst hxe hye
        have HMF := hide hmf
        have HX := hide hxs
        have HR := hide hR
        obtain ⟨c, d, hcd⟩ : ∃ c d, fault p = (c, d) := ⟨_, _, rfl⟩
        rw [hcd] at HCH HMF
        have HRB := hide hB
        have hy0 : wr.cell? ⟨pb, po, none⟩ = some (.slice ya q.length yc) := by simpa using hy
        have HY := hide hy0
        clear hc3 h02 hys hxs hmf hstep hr hp hq hpm hcd hR hy hy0
        go_wp2_with fail
        refine (HCH.out wr HX.out).mono ?_
        rintro e w1 ⟨rfl, hb1⟩
        have hB1 : Below w.heap.size w w1 := bcat HRB.out hb1 HRB.out.size
        have hR1 : Blk w1 w.heap.size 29 [.int .i64 0, .int .i64 0] := HR.out.of_eq (hb1.block _ HR.out.lt)
        have hs1 : w.heap.size < w1.heap.size := hR1.lt
        have hR2 : Blk (w1.alloc (.cells #[.int .i64 c, .int .i64 d] 29)) w.heap.size 29 [.int .i64 0, .int .i64 0] := hR1.alloc _
        have hN2 : Blk (w1.alloc (.cells #[.int .i64 c, .int .i64 d] 29)) w1.heap.size 29 [.int .i64 c, .int .i64 d] := blk0 _ _
        have hB2 := hB1.alloc hB1.size (.cells #[.int .i64 c, .int .i64 d] 29)
        have hb12 : Below wr.heap.size wr (w1.alloc (.cells #[.int .i64 c, .int .i64 d] 29)) := hb1.alloc hb1.size _
        have hyc : (w1.alloc (.cells #[.int .i64 c, .int .i64 d] 29)).cell? ⟨pb, po, none⟩ = some (.slice ya q.length yc) := below_cell hb12 HY.out
        by_cases hc0 : c = 0
        · subst hc0
          by_cases hle : p.length = q.length
          · have hlei : (p.length : Int) = (q.length : Int) := by omega
            have hleb : ((p.length : Int) != (q.length : Int)) = false := by simp [hlei]
            have hmf2 : mfl l l.length 0 = mfl l (l.length - (k + 1)) (k + 1) := by rw [HMF.out, if_neg (by simp), if_neg (by simpa using hle)]
            have HFIN := hide (And.intro hR2 (And.intro hB2 hmf2))
            obtain ⟨n0, n1, nf0, nf1⟩ := hN2.two
            have HLE := hide hle
            clear hmf2 hR2 hN2 hB2 hB1 hR1 hb12 hb1 hle hlei
            go_wp2
            go_roundw
            case rel => exact ⟨k + 1, by omega, by go_num, HFIN.out⟩
            case measure => simp [intOf]; omega
          · have hleb : ((p.length : Int) != (q.length : Int)) = true := by simp; omega
            have hmf2 : mfl l l.length 0 = (8, (k : Int)) := by rw [HMF.out, if_neg (by simp), if_pos hle]
            obtain ⟨n0, n1, nf0, nf1⟩ := hN2.two
            obtain ⟨m0, m1, mf0, mf1⟩ := hR2.two
            have hR3 : Blk (((w1.alloc (.cells #[.int .i64 0, .int .i64 d] 29)).setCell ⟨w.heap.size, 0, none⟩ (.int .i64 8)).setCell ⟨w.heap.size, 1, none⟩ (.int .i64 k)) w.heap.size 29 [.int .i64 8, .int .i64 k] := (hR2.set 0 _).set 1 _
            have hB3 := (hB2.setCell (p := ⟨w.heap.size, 0, none⟩) (Nat.le_refl _) (.int .i64 8)).setCell (p := ⟨w.heap.size, 1, none⟩) (Nat.le_refl _) (.int .i64 (k : Int))
            have HFIN := hide (And.intro hR3 hB3)
            have he := HMC.out.symm.trans hmf2
            simp only [Prod.mk.injEq] at he
            have HE := hide he
            clear he
            clear hmf2 hR2 hN2 hB2 hB1 hR1 hb12 hb1 hR3 hB3 hs1
            go_wp2
            obtain ⟨k0, k1, _, _⟩ := HFIN.out.1.two
            exact bodyPost_ret (v := .agg #[.int .i64 8, .int .i64 k]) (by simp [results, Try.results17, go_sem, k0, k1]) rfl ⟨by rw [HE.out.1, HE.out.2], HFIN.out.2⟩
        · have hcb : (c != 0) = true := by simpa using hc0
          have hmf2 : mfl l l.length 0 = (c, (k : Int)) := by rw [HMF.out, if_pos hc0]
          obtain ⟨n0, n1, nf0, nf1⟩ := hN2.two
          obtain ⟨m0, m1, mf0, mf1⟩ := hR2.two
          have hR3 : Blk (((w1.alloc (.cells #[.int .i64 c, .int .i64 d] 29)).setCell ⟨w.heap.size, 0, none⟩ (.int .i64 c)).setCell ⟨w.heap.size, 1, none⟩ (.int .i64 k)) w.heap.size 29 [.int .i64 c, .int .i64 k] := (hR2.set 0 _).set 1 _
          have hB3 := (hB2.setCell (p := ⟨w.heap.size, 0, none⟩) (Nat.le_refl _) (.int .i64 c)).setCell (p := ⟨w.heap.size, 1, none⟩) (Nat.le_refl _) (.int .i64 (k : Int))
          have HFIN := hide (And.intro hR3 hB3)
          have he := HMC.out.symm.trans hmf2
          simp only [Prod.mk.injEq] at he
          have HE := hide he
          clear he
          clear hmf2 hR2 hN2 hB2 hB1 hR1 hb12 hb1 hR3 hB3 hs1
          go_wp2
          obtain ⟨k0, k1, _, _⟩ := HFIN.out.1.two
          exact bodyPost_ret (v := .agg #[.int .i64 c, .int .i64 k]) (by simp [results, Try.results17, go_sem, k0, k1]) rfl ⟨by rw [HE.out.1, HE.out.2], HFIN.out.2⟩
      · have hkk : k = l.length := by omega
        have hki : ¬ (k : Int) < (l.length : Int) := by omega
        have hmf2 : mfl l l.length 0 = (0, 0) := by rw [hmf, show l.length - k = 0 by omega]; rfl
        obtain ⟨m0, m1, mf0, mf1⟩ := hR.two
        have hR3 : Blk ((wr.setCell ⟨w.heap.size, 0, none⟩ (.int .i64 0)).setCell ⟨w.heap.size, 1, none⟩ (.int .i64 0)) w.heap.size 29 [.int .i64 0, .int .i64 0] := (hR.set 0 _).set 1 _
        have hB3 := (hB.setCell (p := ⟨w.heap.size, 0, none⟩) (Nat.le_refl _) (.int .i64 0)).setCell (p := ⟨w.heap.size, 1, none⟩) (Nat.le_refl _) (.int .i64 0)
        have HFIN := hide (And.intro hR3 hB3)
        have he := HMC.out.symm.trans hmf2
        simp only [Prod.mk.injEq] at he
        have HE := hide he
        clear he
        clear hmf2 hmf hR hB hR3 hB3 hkk
        go_wp2
        obtain ⟨k0, k1, _, _⟩ := HFIN.out.1.two
        exact bodyPost_ret (v := .agg #[.int .i64 0, .int .i64 0]) (by simp [results, Try.results17, go_sem, k0, k1]) rfl ⟨by rw [HE.out.1, HE.out.2], HFIN.out.2⟩
end Go.Proofs.Ytgphcfmiamiojaa
