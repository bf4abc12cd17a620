/- The law PermTexts, walked: at every list that can be read it returns true and nothing that lay has turned; condition: the library's table of powers of ten as the program lays it. -/
import Derived.Test.YtpcfljkniodlbaaDoorCycles
import Derived.Test.YtpcfljkniodlbaaDoorStay
import Derived.Test.YtpcfljkniodlbaaDoorParts
namespace Go.Proofs.YtpcfljkniodlbaaDoor
open Go Go.RowKit

theorem addr_at (g j : Nat) : (⟨g, 0, none⟩ : Addr).add j = ⟨g, j, none⟩ := by unfold Addr.add; split <;> simp_all
/-- A list of lists in memory. -/
def Cs (W : World) (v : Value) (L : List (List Nat)) : Prop := ∃ vs, W.ownsRow 0 22 1 v L.length vs ∧ CRows W vs L
theorem Cs.below {W W' : World} {v : Value} {L : List (List Nat)} (h : Cs W v L) (hb : Below W.heap.size W W') : Cs W' v L := by
  obtain ⟨vs, ho, hC⟩ := h
  refine ⟨vs, ⟨ho.1, ?_⟩, hC.kept (fun k c fz hk => (hb.block k (Array.getElem?_eq_some_iff.1 hk).1).trans hk)⟩
  rcases ho.2 with h0 | ⟨g, cap, cur, hv, hg, hh, r⟩
  · exact .inl h0
  · exact .inr ⟨g, cap, cur, hv, hg, (hb.block g (Array.getElem?_eq_some_iff.1 hh).1).trans hh, r⟩
theorem Cs.shape {W : World} {v : Value} {L : List (List Nat)} (h : Cs W v L) : ∃ a cap, v = .slice a L.length cap ∧ L.length ≤ cap ∧ cap ≤ maxLen ∧ (0 < L.length → ∃ G, a = some ⟨G, 0, none⟩) := by
  obtain ⟨vs, ho, _⟩ := h
  rcases ho.2 with ⟨rfl, h0⟩ | ⟨g, cap, cur, hv, hg, hh, h1, h2, _⟩
  · exact ⟨none, 0, by rw [h0], by omega, by unfold maxLen; omega, fun h => by omega⟩
  · exact ⟨_, cap, hv, h1, h2, fun _ => ⟨g, rfl⟩⟩
theorem Cs.at {W : World} {G n cap : Nat} {L : List (List Nat)} (h : Cs W (.slice (some ⟨G, 0, none⟩) n cap) L) {i : Nat} (hi : i < L.length) :
    ∃ g cap', W.cell? ⟨G, i, none⟩ = some (.slice (some ⟨g, 0, none⟩) (L[i]?.getD []).length cap') ∧ ∀ k, k < (L[i]?.getD []).length → W.cell? ⟨g, k, none⟩ = some (.int .i64 ((L[i]?.getD [])[k]?.getD 0 : Nat)) := by
  obtain ⟨vs, ho, hC⟩ := h
  obtain ⟨g, cap', hv, hr⟩ := hC.2 i hi
  refine ⟨g, cap', ?_, fun k hk => ?_⟩
  · have := ho.cells (g := G) rfl i _ hv
    rwa [addr_at] at this
  · have := hr.cells (g := g) rfl k (.int .i64 ((L[i]?.getD [])[k]?.getD 0 : Nat)) (by simp [pts, List.getElem?_eq_getElem hk])
    rwa [addr_at] at this
theorem Row.put {w : World} {base g n cap : Nat} {zs : List Int} (h : Row w base (.slice (some ⟨g, 0, none⟩) n cap) zs) {x : Nat} (hx : x < zs.length) (y : Int) :
    (∃ old, w.cell? ⟨g, x, none⟩ = some (.int .i64 old)) ∧ w.frozen? ⟨g, x, none⟩ = false ∧ base ≤ g ∧ Row (w.setCell ⟨g, x, none⟩ (.int .i64 y)) base (.slice (some ⟨g, 0, none⟩) n cap) (zs.set x y) := by
  obtain ⟨g', cap', hv, hb, _, _, h1⟩ := h.at (by omega)
  cases hv
  obtain ⟨h2, h3, h4⟩ := h1 x y hx
  exact ⟨h2, h3, hb, h4⟩

set_option maxRecDepth 100000 in
set_option maxHeartbeats 8000000 in
theorem texts_ok (u : Value) (zs : List Int) (w : World) (hu : Sl w u zs) (htab : Tab w.heap.size w) (hf : (fault zs).1 = 0) :
    Calls Tryd.prog 11 #[u] w fun e w' => e = .returned (.bool true) ∧ Below w.heap.size w w' := by
  obtain ⟨hperm, hl⟩ := fault_perm hf
  have h0 : 0 < w.heap.size := by
    obtain ⟨_, g, _, hg⟩ := htab
    omega
  have PT := hide (parts_of hperm)
  have hcyc : ∀ (W : World), Sl W u zs → Calls Tryd.prog 28 #[u] W fun e w' => ∃ v vs, e = .returned (.tuple #[v, .agg #[.int .i64 0, .int .i64 0]]) ∧ w'.ownsRow W.heap.size 22 1 v (moved (cyc zs)).length vs ∧ CRows w' vs (moved (cyc zs)) ∧ Below W.heap.size W w' := fun W hW => cycles_ok u zs W hW hperm hl
  have HCY := hide hcyc
  generalize moved (cyc zs) = L at PT HCY
  clear hcyc
  have HP := hide hperm
  obtain ⟨a, cap, pb, po, rfl, hr, hpb, hq3, hq4⟩ := id hu
  clear hperm hf hr hpb
  unfold maxLen at hq4
  go_enter Tryd.func11, Tryd.ntmps11
  go_wp2_with fail
  refine (begun_any w htab).mono ?_
  rintro e w1 ⟨rfl, b1⟩
  have hu1 := hu.below b1
  have z1 : 0 < w1.heap.size := by have := b1.size; omega
  clear hu htab
  go_wp2_with fail
  refine (HCY.out w1 hu1).mono ?_
  rintro e w2 ⟨v, vs, rfl, ho2, hC2, b2⟩
  have B2 := bcat b1 b2 b1.size
  have hcs2 : Cs w2 v L := ⟨vs, owns_mono ho2 (Nat.zero_le _), hC2⟩
  have hu2 := hu1.below b2
  obtain ⟨aL, capL, rfl, hL1, hL2, hL3⟩ := hcs2.shape
  have z2 : 0 < w2.heap.size := by have := b2.size; omega
  unfold maxLen at hL2
  have al2 := balloc w2 (.cells #[.int .i64 0, .int .i64 0] 25)
  have hcs3 := hcs2.below al2
  have hu3 := hu2.below al2
  have B3 := bcat B2 al2 B2.size
  clear b1 hu1 z1 ho2 hC2 b2 B2 hcs2 hu2 al2 HCY
  go_wp2_with fail
  refine (stays_own zs.length _ hl).mono ?_
  rintro e w4 ⟨out, rfl, hR4, b4⟩
  have hcs4 := hcs3.below b4
  have hu4 := hu3.below b4
  have B4 := bcat B3 b4 B3.size
  have z4 : 0 < w4.heap.size := by have := b4.size; simp at this; omega
  have hs4 : Sl w4 out (blend zs (L.take 0).flatten) := by
    rw [show (L.take 0).flatten = [] by simp, blend_nil]; exact hR4.sl z4
  have hsm := PT.out.small
  have hsm1 : L.length ≤ 1000 := by omega
  clear hcs3 hu3 B3 b4 hR4 hsm
  go_wp2
  go_loopw [5, 6] (fun ov iv wr => ∃ i : Nat, i ≤ L.length ∧ iv = .int .i64 i ∧ Sl wr ov (blend zs (L.take i).flatten) ∧ Cs wr (.slice aL L.length capL) L ∧ Sl wr (.slice a zs.length cap) zs ∧ Below w.heap.size w wr ∧ 0 < wr.heap.size)
    (fun _ i _ => L.length - (intOf i).toNat)
  case atStart => exact ⟨0, Nat.zero_le _, rfl, hs4, hcs4, hu4, B4, z4⟩
  case round =>
    obtain ⟨i, hi, rfl, hso, hcs, hu, hB, hz⟩ := hrel
    clear hs4 hcs4 hu4 B4 z4
    obtain ⟨ov, rfl⟩ : ∃ ov, ov = u5 := ⟨_, rfl⟩
    obtain ⟨W0, rfl⟩ : ∃ W0, W0 = wr := ⟨_, rfl⟩
    by_cases hlt : i < L.length
    · obtain ⟨G, rfl⟩ := hL3 (by omega)
      have hcy := PT.out.cyc i hlt
      have hcl := PT.out.len i hlt
      have hfs := flatten_succ L hlt
      have hap := PT.out.apart i hlt
      have hcat : ∀ W, Cs W (.slice (some ⟨G, 0, none⟩) L.length capL) L → ∃ g cap', W.cell? ⟨G, i, none⟩ = some (.slice (some ⟨g, 0, none⟩) (L[i]?.getD []).length cap') ∧ ∀ k, k < (L[i]?.getD []).length → W.cell? ⟨g, k, none⟩ = some (.int .i64 ((L[i]?.getD [])[k]?.getD 0 : Nat)) := fun W h => h.at hlt
      generalize L[i]?.getD [] = c at hcy hcl hfs hap hcat
      have HCA := hide hcat
      have HFS := hide hfs
      have HAP := hide hap
      have HCY := hide hcy
      have hc0 : 0 < c.length := List.length_pos_iff.2 hcy.ne
      clear hcat hfs hap hcy
      have hz0 : 0 < zs.length := by omega
      go_wp2_with fail
      refine (stays_own zs.length _ hl).mono ?_
      rintro e w5 ⟨qv, rfl, hR5, b5⟩
      obtain ⟨gq, capq, rfl, hgq, hcq, hcq2, hgone⟩ := hR5.at (by rw [idL_len]; omega)
      clear hgone
      rw [idL_len] at hcq hR5 ⊢
      unfold maxLen at hcq2
      go_wp2
      go_loopw [8] (fun kv wr2 => ∃ k : Nat, k ≤ c.length ∧ kv = .int .i64 k ∧ Below W0.heap.size W0 wr2 ∧ Row wr2 W0.heap.size (.slice (some ⟨gq, 0, none⟩) zs.length capq) (cycTo zs.length c k))
        (fun k _ => c.length - (intOf k).toNat)
      case atStart => exact ⟨0, Nat.zero_le _, rfl, b5, hR5⟩
      case round =>
        obtain ⟨k, hk, rfl, hBk, hRk⟩ := hrel
        clear hR5 b5
        have hcs2 := hcs.below hBk
        obtain ⟨g, cap', hcG, hcg⟩ := HCA.out _ hcs2
        by_cases hkl : k < c.length
        · have hx := hcg k hkl
          obtain ⟨m, hm⟩ : ∃ m, m = (k + 1) % c.length := ⟨_, rfl⟩
          have hml : m < c.length := by rw [hm]; exact Nat.mod_lt _ hc0
          have hy := hcg m hml
          have hxl := HCY.out.lt _ (getD_mem (d := 0) hkl)
          have hyl := HCY.out.lt _ (getD_mem (d := 0) hml)
          have hst : cycTo zs.length c (k + 1) = (cycTo zs.length c k).set (c[k]?.getD 0) ((c[m]?.getD 0 : Nat) : Int) := by rw [hm]; rfl
          have hrem : ((k : Int) + 1).tmod (c.length : Int) = (m : Int) := by
            rw [hm, Int.tmod_eq_emod_of_nonneg (by omega), Int.natCast_emod]; rfl
          generalize c[k]?.getD 0 = x at hx hxl hst
          generalize c[m]?.getD 0 = y at hy hyl hst
          obtain ⟨⟨old, hold⟩, hfr, hge, hRn⟩ := hRk.put (x := x) (by rw [cycTo_len]; omega) (y : Int)
          rw [← hst] at hRn
          have HST := hide hst
          have HM := hide hm
          have hcn : ¬ ((c.length : Int) = 0) := by omega
          clear hcg hst hm
          go_wp2
          go_quiet (fail)
          have hold' : (wr.drewN nq).cell? ⟨gq, x, none⟩ = some (.int .i64 old) := hold
          have hfr' : (wr.drewN nq).frozen? ⟨gq, x, none⟩ = false := hfr
          have hRn' : Row ((wr.drewN nq).setCell ⟨gq, x, none⟩ (.int .i64 y)) W0.heap.size (.slice (some ⟨gq, 0, none⟩) zs.length capq) (cycTo zs.length c (k + 1)) := hRn
          have hBd : Below W0.heap.size W0 ((wr.drewN nq).setCell ⟨gq, x, none⟩ (.int .i64 y)) := (bdrewN hBk nq).setCell (p := ⟨gq, x, none⟩) hgq _
          generalize wr.drewN nq = wd at hold' hfr' hRn' hBd ⊢
          have hxi : (x : Int) < (zs.length : Int) := by omega
          have hyi : (y : Int) < (zs.length : Int) := by omega
          have hx0 : ¬ ((x : Int) < 0) := by omega
          have hy0 : ¬ ((y : Int) < 0) := by omega
          clear hold hfr hRn hRk hcs2 hcG hx hy hrem
          go_wp2
          go_roundw
          case rel => exact ⟨k + 1, by omega, by go_num, hBd, hRn'⟩
          case measure => simp [intOf]; omega
        · have hkk : k = c.length := by omega
          subst hkk
          have hso2 := hso.below hBk
          have hu2 := hu.below hBk
          have hB2 := bcat hB hBk hB.size
          have hz2 : 0 < wr.heap.size := by have := hBk.size; omega
          rw [cycTo_all HP.out HCY.out] at hRk
          have hq2 := hRk.sl hz2
          have e1 := blend_perm HP.out (PT.out.closed i)
          have e2 := blend_perm HP.out (closed_cyc HP.out HCY.out)
          have e3 := blend_mul HP.out (PT.out.closed i) HAP.out
          rw [← HFS.out] at e3
          have HE1 := hide e1
          have HE2 := hide e2
          have HE3 := hide e3
          clear e1 e2 e3 hcs hso hu hB hz hBk hRk hcg
          go_wp2_with fail
          refine (mul_ok _ _ _ _ _ hso2 hq2 HE1.out HE2.out (by rw [blend_len, blend_len]) (by rw [blend_len]; omega)).mono ?_
          rintro e w6 ⟨mv, rfl, hm6, b6⟩
          rw [HE3.out] at hm6
          have al6 := balloc w6 (.cells #[.int .i64 0, .int .i64 0] 25)
          have hB6 := bcat hB2 b6 hB2.size
          have hB7 := bcat hB6 al6 hB6.size
          have hm7 := hm6.below al6
          have hc7 := (hcs2.below b6).below al6
          have hu7 := (hu2.below b6).below al6
          have hz7 : 0 < (w6.alloc (.cells #[.int .i64 0, .int .i64 0] 25)).heap.size := by simp
          clear hm6 al6 hB6 b6 hcs2 hu2 hB2 hq2 hso2
          go_wp2
          go_roundw
          case rel => exact ⟨i + 1, by omega, by go_num, hm7, hc7, hu7, hB7, hz7⟩
          case measure => simp [intOf]; omega
    · have hii : i = L.length := by omega
      subst hii
      rw [List.take_length, PT.out.all] at hso
      go_wp2_with fail
      refine (ints_any _ _ _ _ _ hso hu).mono ?_
      rintro e w6 ⟨rfl, b6⟩
      rw [decide_eq_true (rfl : zs = zs)]
      have hB6 := bcat hB b6 hB.size
      go_wp2
      go_ret
      exact ⟨rfl, hB6⟩

set_option maxRecDepth 100000 in
set_option maxHeartbeats 2000000 in
theorem texts_any (u : Value) (zs : List Int) (w : World) (hu : Sl w u zs) (htab : Tab w.heap.size w) :
    Calls Tryd.prog 11 #[u] w fun e w' => e = .returned (.bool true) ∧ Below w.heap.size w w' := by
  by_cases hf : (fault zs).1 = 0
  · exact texts_ok u zs w hu htab hf
  · have hfd := field25
    obtain ⟨c, i, hci⟩ : ∃ c i, fault zs = (c, i) := ⟨_, _, rfl⟩
    have hcb : ∀ (W : World), Sl W u zs → Calls Tryd.prog 28 #[u] W fun e w' => e = .returned (.tuple #[.slice none 0 0, .agg #[.int .i64 c, .int .i64 i]]) ∧ Below W.heap.size W w' := fun W hW => by
      have := cycles_bad u zs W hW hf
      rw [hci] at this
      exact this
    have HCB := hide hcb
    rw [hci] at hf
    have hbe : (c != 0) = true := by simpa using hf
    have HCI := hide hci
    clear hci hf hcb
    go_enter Tryd.func11, Tryd.ntmps11
    go_wp2_with fail
    refine (begun_any w htab).mono ?_
    rintro e w1 ⟨rfl, b1⟩
    go_wp2_with fail
    refine (HCB.out w1 (hu.below b1)).mono ?_
    rintro e w2 ⟨rfl, b2⟩
    have al2 := balloc w2 (.cells #[.int .i64 c, .int .i64 i] 25)
    have B2 := bcat b1 b2 b1.size
    have B3 := bcat B2 al2 B2.size
    have hu3 := ((hu.below b1).below b2).below al2
    clear b1 b2 hu al2 B2
    go_wp2_with fail
    refine (permFault_any _ zs _ hu3).mono ?_
    rintro e w4 ⟨rfl, b4⟩
    rw [HCI.out]
    have B4 := bcat B3 b4 B3.size
    go_wp2
    go_ret
    exact ⟨rfl, B4⟩
end Go.Proofs.YtpcfljkniodlbaaDoor
