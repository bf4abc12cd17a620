/- The law BeadsFactor. -/
import Derived.Test.YtojnjfkonaeegaaDoorIsl
import Derived.Test.YtojnjfkonaeegaaDoorBgn
import Derived.Test.YtojnjfkonaeegaaDoorLfm
namespace Go.Proofs.YtojnjfkonaeegaaDoor
open Go Go.RowKit
open YtojnjfkonaeegaaDoorQ (Tab)

set_option maxRecDepth 100000 in
set_option maxHeartbeats 8000000 in
theorem lf_long (v : Value) (zs : List Int) (w : World) (hv : Sl w v zs) (htab : Tab w.heap.size w) (hl : 3000 < zs.length) :
    Calls Tryd.prog 4 #[v] w fun e w' => e = .returned (.bool true) ∧ Below w.heap.size w w' := by
  have hli : (3000 : Int) < (zs.length : Int) := by omega
  obtain ⟨a, cap, pb, po, rfl, hr, hp, hc1, hm1⟩ := id hv
  have HV := hide hv
  have HBG := hide (begun_any _ htab)
  clear hv
  go_enter Tryd.func4, Tryd.ntmps4
  go_wp2_with fail
  refine HBG.out.mono ?_
  rintro e w1 ⟨rfl, hB1, hp1⟩
  clear HBG
  go_wp2
  go_ret
  exact ⟨rfl, hB1⟩

set_option maxRecDepth 100000 in
set_option maxHeartbeats 8000000 in
theorem lf_bad (v : Value) (zs : List Int) (w : World) (hv : Sl w v zs) (htab : Tab w.heap.size w) (hl : zs.length ≤ 3000) (hc : wfc zs ≠ 0) :
    Calls Tryd.prog 4 #[v] w fun e w' => e = .returned (.bool true) ∧ Below w.heap.size w w' := by
  have hli : ¬ (3000 : Int) < (zs.length : Int) := by omega
  have hli2 : (zs.length : Int) ≤ 3000 := by omega
  have HC := hide hc
  clear hc
  obtain ⟨a, cap, pb, po, rfl, hr, hp, hc1, hm1⟩ := id hv
  have HV := hide hv
  have HBG := hide (begun_any _ htab)
  clear hv
  go_enter Tryd.func4, Tryd.ntmps4
  go_wp2_with fail
  refine HBG.out.mono ?_
  rintro e w1 ⟨rfl, hB1, hp1⟩
  clear HBG
  have hs1 := HV.out.below hB1
  have HO := hide (own_any _ zs w1 hs1 (by omega))
  go_wp2_with fail
  refine HO.out.mono ?_
  rintro e w2 ⟨r, rfl, hr2, hb2⟩
  obtain ⟨oa, oc, rfl⟩ := own_slice hr2
  have hB2 := bcat hB1 hb2 hB1.size
  have hso : Sl w2 (.slice oa zs.length oc) zs := Sl.of_own hr2 (by have := hb2.size; omega)
  have HL := hide (factor_bad _ zs w2 hso HC.out)
  have HI := hide (lfault_any (.slice a zs.length cap) zs)
  obtain ⟨c, hc⟩ : ∃ c, wfc zs = c := ⟨_, rfl⟩
  obtain ⟨d, hd⟩ : ∃ d, wfa zs = d := ⟨_, rfl⟩
  rw [hc] at HC
  rw [hc, hd] at HL HI
  clear hc hd HO hr2 hb2 hs1 hso hB1
  go_wp2_with fail
  refine HL.out.mono ?_
  rintro e w3 ⟨rfl, hb3⟩
  have hB3 := bcat hB2 hb3 hB2.size
  have hF4 : Blk (w3.alloc (.cells #[.int .i64 c, .int .i64 d] 25)) w3.heap.size 25 [.int .i64 c, .int .i64 d] := World.alloc_heap_new w3 _
  have hB4 := hB3.alloc hB3.size (.cells #[.int .i64 c, .int .i64 d] 25)
  have hs4 := HV.out.below hB4
  clear HL hB2 hB3 hb3
  go_wp2_with fail
  refine (HI.out _ hs4).mono ?_
  rintro e w5 ⟨rfl, hb5⟩
  have hB5 := bcat hB4 hb5 hB4.size
  have hF5 := hF4.of_eq (hb5.block _ hF4.lt)
  have hl5 := hF5.lt
  have hF6 := hF5.alloc (.cells #[.int .i64 c, .int .i64 d] 25)
  have hG6 : Blk (w5.alloc (.cells #[.int .i64 c, .int .i64 d] 25)) w5.heap.size 25 [.int .i64 c, .int .i64 d] := World.alloc_heap_new w5 _
  have hB6 := hB5.alloc hB5.size (.cells #[.int .i64 c, .int .i64 d] 25)
  obtain ⟨c0, c1, _, _⟩ := hF6.two
  obtain ⟨d0, d1, _, _⟩ := hG6.two
  have hcb : (c != 0) = true := by simpa using HC.out
  clear HI hF4 hb5 hB4 hs4 hF5
  go_wp2
  go_ret
  exact ⟨rfl, hB6⟩

set_option maxRecDepth 100000 in
set_option maxHeartbeats 8000000 in
theorem lf_good (v : Value) (zs : List Int) (w : World) (hv : Sl w v zs) (htab : Tab w.heap.size w) (hl : zs.length ≤ 3000) (hw : Wd zs) :
    Calls Tryd.prog 4 #[v] w fun e w' => e = .returned (.bool true) ∧ Below w.heap.size w w' := by
  have hli : ¬ (3000 : Int) < (zs.length : Int) := by omega
  have hli2 : (zs.length : Int) ≤ 3000 := by omega
  have HW := hide hw
  clear hw
  obtain ⟨a, cap, pb, po, rfl, hr, hp, hc1, hm1⟩ := id hv
  have HV := hide hv
  have HBG := hide (begun_any _ htab)
  clear hv
  go_enter Tryd.func4, Tryd.ntmps4
  go_wp2_with fail
  refine HBG.out.mono ?_
  rintro e w1 ⟨rfl, hB1, hp1⟩
  clear HBG
  have hs1 := HV.out.below hB1
  have HO := hide (own_any _ zs w1 hs1 (by omega))
  go_wp2_with fail
  refine HO.out.mono ?_
  rintro e w2 ⟨r, rfl, hr2, hb2⟩
  obtain ⟨oa, oc, rfl⟩ := own_slice hr2
  have hB2 := bcat hB1 hb2 hB1.size
  have hso : Sl w2 (.slice oa zs.length oc) zs := Sl.of_own hr2 (by have := hb2.size; omega)
  have HL := hide (factor_good _ zs w2 hso HW.out)
  clear HO hr2 hb2 hs1 hso hB1
  obtain ⟨L, hL, hfl, hfp, hb00, hfn⟩ := pieces HW.out.pos
  rw [hL] at HL
  clear hL
  have HFL := hide hfl
  clear hfl
  go_wp2_with fail
  refine HL.out.mono ?_
  rintro e w3 ⟨rv, rfl, hrow3, hb3⟩
  have hB3 := bcat hB2 hb3 hB2.size
  have hF4 : Blk (w3.alloc (.cells #[.int .i64 0, .int .i64 0] 25)) w3.heap.size 25 [.int .i64 0, .int .i64 0] := World.alloc_heap_new w3 _
  have hB4 := hB3.alloc hB3.size (.cells #[.int .i64 0, .int .i64 0] 25)
  have hs4 := HV.out.below hB4
  have hw3 := HV.out.below hB3
  have hsl3 := hrow3.sl hw3.pos
  have hbl : (begins L).length = L.length := by simp [begins]
  have hsl4 := hsl3.below (balloc w3 (.cells #[.int .i64 0, .int .i64 0] 25))
  obtain ⟨ga, gc, gb, go, rfl, hgr, hgp, hgc, hgm⟩ := id hsl3
  rw [hbl] at hsl3 hsl4
  obtain rfl := hgr.at_ (by omega)
  have hgr4 := hgr.below (balloc w3 (.cells #[.int .i64 0, .int .i64 0] 25)) hgp
  have hgp4 : gb < (w3.alloc (.cells #[.int .i64 0, .int .i64 0] 25)).heap.size := by simp; omega
  have HI := hide (lfault_any (.slice a zs.length cap) zs)
  rw [HW.out.code.1, HW.out.code.2] at HI
  rw [hbl]
  clear HL hB2 hB3 hb3 hrow3 hw3 hsl3 hgr
  go_wp2_with fail
  refine (HI.out _ hs4).mono ?_
  rintro e w5 ⟨rfl, hb5⟩
  have hB5 := bcat hB4 hb5 hB4.size
  have hF5 := hF4.of_eq (hb5.block _ hF4.lt)
  have hl5 := hF5.lt
  have hF6 := hF5.alloc (.cells #[.int .i64 0, .int .i64 0] 25)
  have hG6 : Blk (w5.alloc (.cells #[.int .i64 0, .int .i64 0] 25)) w5.heap.size 25 [.int .i64 0, .int .i64 0] := World.alloc_heap_new w5 _
  have hB6 := hB5.alloc hB5.size (.cells #[.int .i64 0, .int .i64 0] 25)
  have hgr6 := (hgr4.below hb5 hgp4).below (balloc w5 (.cells #[.int .i64 0, .int .i64 0] 25)) (by have := hb5.size; omega)
  have hgp6 : gb < (w5.alloc (.cells #[.int .i64 0, .int .i64 0] 25)).heap.size := by have := hb5.size; simp at this ⊢; omega
  obtain ⟨c0, c1, _, _⟩ := hF6.two
  obtain ⟨d0, d1, _, _⟩ := hG6.two
  have hg0 := hgr6.cell 0 (by omega)
  rw [hb00, Nat.add_zero] at hg0
  have hgb5 : gb < w5.heap.size := by have := hb5.size; simp at this; omega
  have hLi1 : ¬ (L.length : Int) < 1 := by omega
  have hLi2 : ¬ (zs.length : Int) < (L.length : Int) := by omega
  have hLi3 : (L.length : Int) ≤ (zs.length : Int) := by omega
  have hLn : 1 ≤ L.length := by omega
  have hd1 : decide ((3000 : Int) < (zs.length : Int)) = false := by simp; omega
  have hd2 : decide ((L.length : Int) < 1) = false := by simp; omega
  have hd3 : decide ((zs.length : Int) < (L.length : Int)) = false := by simp; omega
  have hd4 : decide (zs.length < L.length) = false := by simp; omega
  have hd5 : ¬ zs.length < L.length := by omega
  clear HI hF4 hb5 hB4 hs4 hF5 hsl4 hgr4 hgp4 hB5 hb00 hF6 hG6
  obtain rfl := hr.at_ HW.out.pos
  go_wp2
  generalize (w5.alloc (.cells #[.int .i64 0, .int .i64 0] 25)) = w6 at *
  clear c0 c1 d0 d1 hg0
  go_loopw [2, 6, 7] (fun _ c i wr => ∃ k : Nat, i = .int .i64 k ∧ k ≤ L.length ∧ Below w6.heap.size w6 wr ∧ (k = 0 ∧ c = .slice none 0 0 ∨ ∃ b l : Nat, L[k - 1]? = some (b, l) ∧ 0 < k ∧ c = .slice (some ⟨pb, po + b, none⟩) l (cap - b))) (fun _ _ i _ => L.length - (intOf i).toNat)
  case atStart => exact ⟨0, rfl, by omega, Below.refl _ _, .inl ⟨rfl, rfl⟩⟩
  case round =>
    obtain ⟨k, rfl, hk, hB, hlast⟩ := hrel
    have HLA := hide hlast
    clear hlast
    have hBw := bcat hB6 hB hB6.size
    by_cases hlt : k < L.length
    · have hki : (k : Int) < (L.length : Int) := by omega
      obtain ⟨⟨b, l⟩, hq⟩ : ∃ q, L[k] = q := ⟨_, rfl⟩
      have hqm : (b, l) ∈ L := by rw [← hq]; exact List.getElem_mem hlt
      obtain ⟨he1, he2⟩ := HFL.out.ends _ hqm
      have hly := HFL.out.lyn _ hqm
      have hnx := HFL.out.next k hlt
      rw [hq] at hnx
      simp only at he1 he2 hly hnx
      have hl0 := hly.1
      have HLY := hide (lyn_lyd he2 hly)
      have hgw := hgr6.below hB hgp6
      have hck := hgw.cell k (by omega)
      have hbk : (begins L)[k]?.getD 0 = (b : Int) := by
        unfold begins
        rw [List.getElem?_map, List.getElem?_eq_getElem hlt, hq]; rfl
      rw [hbk] at hck
      have hrw := (HV.out.below hBw)
      have hpw : Sl wr (.slice (some ⟨pb, po + b, none⟩) l (cap - b)) (pce zs b l) := pce_sl (hr.below hBw hp) (by have := hBw.size; omega) he2 hc1 hm1
      have HQ := hide hq
      have hto : (k + 1 < L.length ∧ wr.cell? ⟨gb, go + (k + 1), none⟩ = some (.int .i64 ((b + l : Nat) : Int))) ∨ (¬ k + 1 < L.length ∧ b + l = zs.length) := by
        by_cases h : k + 1 < L.length
        · left
          refine ⟨h, ?_⟩
          rw [dif_pos h] at hnx
          rw [hgw.cell (k + 1) (by omega)]
          unfold begins
          rw [List.getElem?_map, List.getElem?_eq_getElem h, hnx]; rfl
        · right
          rw [dif_neg h] at hnx
          exact ⟨h, hnx⟩
      obtain ⟨t, ht⟩ : ∃ t, b + l = t := ⟨_, rfl⟩
      rw [ht] at hto he2
      obtain rfl : l = t - b := by omega
      have htl : (t : Int) - (b : Int) = ((t - b : Nat) : Int) := by omega
      have hb1 : ¬ (b : Int) < 0 := by omega
      have hb2 : ¬ (t : Int) ≤ (b : Int) := by omega
      have hb3 : ¬ (zs.length : Int) < (t : Int) := by omega
      have hb4 : (b : Int) ≤ (t : Int) := by omega
      have hb5 : (t : Int) ≤ (cap : Int) := by omega
      have hb6 : ¬ cap = b := by omega
      have hb7 : (t : Int) ≤ (zs.length : Int) := by omega
      have hb8 : (0 : Int) ≤ (b : Int) := by omega
      have hb9 : ¬ t ≤ b := by omega
      have hb10 : ¬ zs.length < t := by omega
      have HIS := hide (fun W (h : Below wr.heap.size wr W) => isLyndon_ok (.slice (some ⟨pb, po + b, none⟩) (t - b) (cap - b)) (pce zs b (t - b)) W (hpw.below h) (by unfold pce; simp; omega) true (by simpa using HLY.out))
      clear hqm he1 hly hnx hgw hbk hrw hq
      rcases hto with ⟨hk1, hck1⟩ | ⟨hk1, hte⟩
      · have hk1i : (k : Int) + 1 < (L.length : Int) := by omega
        have hkw : IntKind.i64.wrap ((k : Int) + 1) = ((k + 1 : Nat) : Int) := by rw [IntKind.wrap_i64]; omega
        go_wp2_with fail
        refine (HIS.out _ (Below.refl _ _)).mono ?_
        rintro e w8 ⟨rfl, hb8⟩
        rcases HLA.out with ⟨hk0, hc0⟩ | ⟨pb2, pl2, hlq, hk0, hc0⟩
        · subst hk0
          subst hc0
          go_wp2
          go_roundw
          case rel => exact ⟨1, rfl, by omega, bcat2 hB hb8, .inr ⟨b, t - b, by simpa using List.getElem?_eq_some_iff.2 ⟨hlt, HQ.out⟩, by omega, rfl⟩⟩
          case measure => simp [intOf]; omega
        · subst hc0
          have hk0i : (0 : Int) < (k : Int) := by omega
          have hlq2 : L[k - 1] = (pb2, pl2) := (List.getElem?_eq_some_iff.1 hlq).2
          have hst := HFL.out.step (k - 1) (by omega)
          have hen := (HFL.out.ends _ (List.getElem_mem (show k - 1 < L.length by omega))).2
          rw [hlq2] at hst hen
          have hkk : L[k - 1 + 1] = (b, t - b) := by rw [← HQ.out]; congr 1; omega
          rw [hkk] at hst
          simp only at hst hen
          have hnl := ng_ltr hen (by omega) hst
          have hB8 := bcat hBw hb8 hBw.size
          have hp8 : Sl w8 (.slice (some ⟨pb, po + pb2, none⟩) pl2 (cap - pb2)) (pce zs pb2 pl2) := pce_sl (hr.below hB8 hp) (by have := hB8.size; omega) hen hc1 hm1
          have HLT := hide (later_no _ _ _ _ w8 hp8 (hpw.below hb8) hnl)
          clear hst hen hnl hkk hlq2 hlq hp8
          go_wp2_with fail
          refine HLT.out.mono ?_
          rintro e w9 ⟨rfl, m9, rfl⟩
          have hB9 := bdrewN (bcat2 hB hb8) m9
          go_wp2
          go_roundw
          case rel => exact ⟨k + 1, by go_num, by omega, hB9, .inr ⟨b, t - b, by simpa using List.getElem?_eq_some_iff.2 ⟨hlt, HQ.out⟩, by omega, rfl⟩⟩
          case measure => simp [intOf]; omega
      · have hk1i : ¬ (k : Int) + 1 < (L.length : Int) := by omega
        have hkw : IntKind.i64.wrap ((k : Int) + 1) = (k : Int) + 1 := by rw [IntKind.wrap_i64]; omega
        subst hte
        go_wp2_with fail
        refine (HIS.out _ (Below.refl _ _)).mono ?_
        rintro e w8 ⟨rfl, hb8⟩
        rcases HLA.out with ⟨hk0, hc0⟩ | ⟨pb2, pl2, hlq, hk0, hc0⟩
        · subst hk0
          subst hc0
          go_wp2
          go_roundw
          case rel => exact ⟨1, rfl, by omega, bcat2 hB hb8, .inr ⟨b, zs.length - b, by simpa using List.getElem?_eq_some_iff.2 ⟨hlt, HQ.out⟩, by omega, rfl⟩⟩
          case measure => simp [intOf]; omega
        · subst hc0
          have hk0i : (0 : Int) < (k : Int) := by omega
          have hlq2 : L[k - 1] = (pb2, pl2) := (List.getElem?_eq_some_iff.1 hlq).2
          have hst := HFL.out.step (k - 1) (by omega)
          have hen := (HFL.out.ends _ (List.getElem_mem (show k - 1 < L.length by omega))).2
          rw [hlq2] at hst hen
          have hkk : L[k - 1 + 1] = (b, zs.length - b) := by rw [← HQ.out]; congr 1; omega
          rw [hkk] at hst
          simp only at hst hen
          have hnl := ng_ltr hen (by omega) hst
          have hB8 := bcat hBw hb8 hBw.size
          have hp8 : Sl w8 (.slice (some ⟨pb, po + pb2, none⟩) pl2 (cap - pb2)) (pce zs pb2 pl2) := pce_sl (hr.below hB8 hp) (by have := hB8.size; omega) hen hc1 hm1
          have HLT := hide (later_no _ _ _ _ w8 hp8 (hpw.below hb8) hnl)
          clear hst hen hnl hkk hlq2 hlq hp8
          go_wp2_with fail
          refine HLT.out.mono ?_
          rintro e w9 ⟨rfl, m9, rfl⟩
          have hB9 := bdrewN (bcat2 hB hb8) m9
          go_wp2
          go_roundw
          case rel => exact ⟨k + 1, by go_num, by omega, hB9, .inr ⟨b, zs.length - b, by simpa using List.getElem?_eq_some_iff.2 ⟨hlt, HQ.out⟩, by omega, rfl⟩⟩
          case measure => simp [intOf]; omega
    · have hki : ¬ (k : Int) < (L.length : Int) := by omega
      go_wp2
      go_ret
      exact ⟨rfl, hBw⟩

theorem factor_law (v : Value) (zs : List Int) (w : World) (hv : Sl w v zs) (htab : Tab w.heap.size w) :
    Calls Tryd.prog 4 #[v] w fun e w' => e = .returned (.bool true) ∧ Below w.heap.size w w' := by
  by_cases hl : zs.length ≤ 3000
  · rcases code_cases zs with h | h
    · exact lf_good v zs w hv htab hl h
    · exact lf_bad v zs w hv htab hl h
  · exact lf_long v zs w hv htab (by omega)

end Go.Proofs.YtojnjfkonaeegaaDoor
