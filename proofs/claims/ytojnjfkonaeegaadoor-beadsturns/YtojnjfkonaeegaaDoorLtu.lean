/- The law BeadsTurns. -/
import Derived.Test.YtojnjfkonaeegaaDoorLtm
import Derived.Test.YtojnjfkonaeegaaDoorBgn
namespace Go.Proofs.YtojnjfkonaeegaaDoor
open Go Go.RowKit
open YtojnjfkonaeegaaDoorQ (Tab)

theorem least_at (u : Value) (zs : List Int) (b : Nat) (w : World) (hu : Sl w u zs) (hw : Wd zs) (hb : Bst zs zs.length b) :
    Calls Tryd.prog 8 #[u] w fun e w' => e = .returned (.tuple #[.int .i64 b, .agg #[.int .i64 0, .int .i64 0]]) ∧ Below w.heap.size w w' := by
  have := least_good u zs _ rfl w hu hw
  rwa [least_eq hb] at this

set_option maxRecDepth 100000 in
set_option maxHeartbeats 8000000 in
theorem tu_bad (v : Value) (zs : List Int) (n : Int) (w : World) (hv : Sl w v zs) (htab : Tab w.heap.size w) (hc : wfc zs ≠ 0) :
    Calls Tryd.prog 5 #[v, .int .i64 n] w fun e w' => e = .returned (.bool true) ∧ Below w.heap.size w w' := by
  have HC := hide hc
  clear hc
  obtain ⟨a, cap, pb, po, rfl, hr, hp, hc1, hm1⟩ := id hv
  have HV := hide hv
  have HBG := hide (begun_any _ htab)
  clear hv
  go_enter Tryd.func5, Tryd.ntmps5
  go_wp2_with fail
  refine HBG.out.mono ?_
  rintro e w1 ⟨rfl, hB1, hp1⟩
  clear HBG
  have hs1 := HV.out.below hB1
  have HI := hide (lfault_any (.slice a zs.length cap) zs)
  obtain ⟨c, hc⟩ : ∃ c, wfc zs = c := ⟨_, rfl⟩
  obtain ⟨d, hd⟩ : ∃ d, wfa zs = d := ⟨_, rfl⟩
  rw [hc] at HC
  rw [hc, hd] at HI
  clear hc hd
  have hcb : (c != 0) = true := by simpa using HC.out
  have hfld : ∀ W, Sem.run Tryd.prog (Instr.field 25 (.agg #[.int .i64 c, .int .i64 d]) 0) W = .ok (.int .i64 c) W := fun W => by kernel_rfl
  go_wp2_with fail
  refine (HI.out _ hs1).mono ?_
  rintro e w2 ⟨rfl, hb2⟩
  have hB2 := bcat hB1 hb2 hB1.size
  go_wp2
  go_ret
  exact ⟨rfl, hB2⟩

set_option maxRecDepth 100000 in
set_option maxHeartbeats 8000000 in
theorem tu_low (v : Value) (zs : List Int) (n : Int) (w : World) (hv : Sl w v zs) (htab : Tab w.heap.size w) (hw : Wd zs) (hn : n < 0) :
    Calls Tryd.prog 5 #[v, .int .i64 n] w fun e w' => e = .returned (.bool true) ∧ Below w.heap.size w w' := by
  have HW := hide hw
  clear hw
  obtain ⟨a, cap, pb, po, rfl, hr, hp, hc1, hm1⟩ := id hv
  have HV := hide hv
  have HBG := hide (begun_any _ htab)
  clear hv
  go_enter Tryd.func5, Tryd.ntmps5
  go_wp2_with fail
  refine HBG.out.mono ?_
  rintro e w1 ⟨rfl, hB1, hp1⟩
  clear HBG
  have hs1 := HV.out.below hB1
  have hfld : ∀ W, Sem.run Tryd.prog (Instr.field 25 (.agg #[.int .i64 0, .int .i64 0]) 0) W = .ok (.int .i64 0) W := fun W => by kernel_rfl
  have HI := hide (lfault_any (.slice a zs.length cap) zs)
  rw [HW.out.code.1, HW.out.code.2] at HI
  go_wp2_with fail
  refine (HI.out _ hs1).mono ?_
  rintro e w2 ⟨rfl, hb2⟩
  have hB2 := bcat hB1 hb2 hB1.size
  go_wp2
  go_ret
  exact ⟨rfl, hB2⟩

set_option maxRecDepth 100000 in
set_option maxHeartbeats 8000000 in
theorem tu_high (v : Value) (zs : List Int) (n : Int) (w : World) (hv : Sl w v zs) (htab : Tab w.heap.size w) (hw : Wd zs) (hn : ¬ n < 0) (hg : (zs.length : Int) ≤ n) :
    Calls Tryd.prog 5 #[v, .int .i64 n] w fun e w' => e = .returned (.bool true) ∧ Below w.heap.size w w' := by
  have HW := hide hw
  clear hw
  obtain ⟨a, cap, pb, po, rfl, hr, hp, hc1, hm1⟩ := id hv
  have HV := hide hv
  have HBG := hide (begun_any _ htab)
  clear hv
  go_enter Tryd.func5, Tryd.ntmps5
  go_wp2_with fail
  refine HBG.out.mono ?_
  rintro e w1 ⟨rfl, hB1, hp1⟩
  clear HBG
  have hs1 := HV.out.below hB1
  have hfld : ∀ W, Sem.run Tryd.prog (Instr.field 25 (.agg #[.int .i64 0, .int .i64 0]) 0) W = .ok (.int .i64 0) W := fun W => by kernel_rfl
  have HI := hide (lfault_any (.slice a zs.length cap) zs)
  rw [HW.out.code.1, HW.out.code.2] at HI
  go_wp2_with fail
  refine (HI.out _ hs1).mono ?_
  rintro e w2 ⟨rfl, hb2⟩
  have hB2 := bcat hB1 hb2 hB1.size
  go_wp2
  go_ret
  exact ⟨rfl, hB2⟩

set_option maxRecDepth 100000 in
set_option maxHeartbeats 8000000 in
theorem tu_good (v : Value) (zs : List Int) (n : Nat) (w : World) (hv : Sl w v zs) (htab : Tab w.heap.size w) (hw : Wd zs) (hn : n < zs.length) :
    Calls Tryd.prog 5 #[v, .int .i64 n] w fun e w' => e = .returned (.bool true) ∧ Below w.heap.size w w' := by
  have HW := hide hw
  clear hw
  obtain ⟨a, cap, pb, po, rfl, hr, hp, hc1, hm1⟩ := id hv
  have HV := hide hv
  have HBG := hide (begun_any _ htab)
  clear hv
  go_enter Tryd.func5, Tryd.ntmps5
  go_wp2_with fail
  refine HBG.out.mono ?_
  rintro e w1 ⟨rfl, hB1, hp1⟩
  clear HBG
  have hs1 := HV.out.below hB1
  have hfld : ∀ W, Sem.run Tryd.prog (Instr.field 25 (.agg #[.int .i64 0, .int .i64 0]) 0) W = .ok (.int .i64 0) W := fun W => by kernel_rfl
  have HI := hide (lfault_any (.slice a zs.length cap) zs)
  rw [HW.out.code.1, HW.out.code.2] at HI
  have hni : ¬ (n : Int) < 0 := by omega
  have hni2 : ¬ (zs.length : Int) ≤ (n : Int) := by omega
  have hni3 : ¬ zs.length ≤ n := by omega
  obtain ⟨b1, hb1⟩ := bst_some zs zs.length HW.out.pos
  have hwt := wd_trn hn HW.out
  obtain ⟨b2, hb2⟩ := bst_some (trn zs n) (trn zs n).length hwt.pos
  have hPQ := turn_same hn hb1 hb2
  have hlen := trn_len zs n (by omega)
  have hlz := HW.out.len
  have hl1 := hb1.lt
  have hl2 := hb2.lt
  have hl3 : b2 < zs.length := by omega
  have g1 : ¬ (b1 : Int) < 0 := by omega
  have g2 : ¬ (zs.length : Int) ≤ (b1 : Int) := by omega
  have g3 : ¬ (b2 : Int) < 0 := by omega
  have g4 : ¬ (zs.length : Int) ≤ (b2 : Int) := by omega
  have g5 : ¬ zs.length ≤ b1 := by omega
  have g6 : ¬ zs.length ≤ b2 := by omega
  have HF0 := hide (fun W h => from_ok (.slice a zs.length cap) zs n W h hn (by omega))
  have HF1 := hide (fun W h => from_ok (.slice a zs.length cap) zs b1 W h hl1 (by omega))
  obtain ⟨T, hT⟩ : ∃ T, trn zs n = T := ⟨_, rfl⟩
  rw [hT] at HF0 hwt hb2 hPQ hl2 hlen
  have HF2 := hide (fun u W h => from_ok u T b2 W h hl2 (by omega))
  have HL1 := hide (fun W h => least_at (.slice a zs.length cap) zs b1 W h HW.out hb1)
  have HL2 := hide (fun u W h => least_at u T b2 W h hwt hb2)
  obtain ⟨P, hP⟩ : ∃ P, trn zs b1 = P := ⟨_, rfl⟩
  obtain ⟨Q, hQ⟩ : ∃ Q, trn T b2 = Q := ⟨_, rfl⟩
  have hWP : Wd P := by rw [← hP]; exact wd_trn hl1 HW.out
  rw [hP] at hPQ HF1
  rw [hQ] at hPQ HF2
  subst hPQ
  have HWP := hide hWP
  clear hWP hP hQ hT hwt hb1 hb2
  go_wp2_with fail
  refine (HI.out _ hs1).mono ?_
  rintro e w2 ⟨rfl, hb2⟩
  have hB2 := bcat hB1 hb2 hB1.size
  have hs2 := HV.out.below hB2
  clear HI hB1 hb2 hs1
  go_wp2_with fail
  refine (HF0.out _ hs2).mono ?_
  rintro e w3 ⟨r, rfl, hr3, hb3⟩
  obtain ⟨ta, tc, rfl⟩ := hr3.slice
  have hB3 := bcat hB2 hb3 hB2.size
  have hs3 := HV.out.below hB3
  have ht3 := hr3.sl hs3.pos
  rw [hlen] at ht3
  clear HF0 hB2 hb3 hs2 hr3
  go_wp2_with fail
  refine (HL1.out _ hs3).mono ?_
  rintro e w4 ⟨rfl, hb4⟩
  have hB4 := bcat hB3 hb4 hB3.size
  have ht4 := ht3.below hb4
  have hF5 : Blk (w4.alloc (.cells #[.int .i64 0, .int .i64 0] 25)) w4.heap.size 25 [.int .i64 0, .int .i64 0] := World.alloc_heap_new w4 _
  have hB5 := hB4.alloc hB4.size (.cells #[.int .i64 0, .int .i64 0] 25)
  have ht5 := ht4.below (balloc w4 (.cells #[.int .i64 0, .int .i64 0] 25))
  clear HL1 hB3 hb4 hs3 ht3 hB4 ht4
  go_wp2_with fail
  refine (HL2.out _ _ ht5).mono ?_
  rintro e w6 ⟨rfl, hb6⟩
  have hB6 := bcat hB5 hb6 hB5.size
  have hF6 := hF5.of_eq (hb6.block _ hF5.lt)
  have hlF6 := hF6.lt
  have ht6 := ht5.below hb6
  have hF7 := hF6.alloc (.cells #[.int .i64 0, .int .i64 0] 25)
  have hG7 : Blk (w6.alloc (.cells #[.int .i64 0, .int .i64 0] 25)) w6.heap.size 25 [.int .i64 0, .int .i64 0] := World.alloc_heap_new w6 _
  have hB7 := hB6.alloc hB6.size (.cells #[.int .i64 0, .int .i64 0] 25)
  have ht7 := ht6.below (balloc w6 (.cells #[.int .i64 0, .int .i64 0] 25))
  have hs7 := HV.out.below hB7
  obtain ⟨f0, _, _, _⟩ := hF7.two
  obtain ⟨g0, _, _, _⟩ := hG7.two
  clear HL2 hF5 hB5 ht5 hb6 hB6 hF6 ht6 hF7 hG7
  go_wp2_with fail
  generalize (w6.alloc (.cells #[.int .i64 0, .int .i64 0] 25)) = w7 at *
  refine (HF1.out _ hs7).mono ?_
  rintro e w8 ⟨r, rfl, hr8, hb8⟩
  obtain ⟨xa, xc, rfl⟩ := hr8.slice
  have hB8 := bcat hB7 hb8 hB7.size
  have ht8 := ht7.below hb8
  have hx8 := hr8.sl (HV.out.below hB8).pos
  clear HF1 hB7 hb8 hr8 hs7 ht7 f0 g0
  go_wp2_with fail
  refine (HF2.out _ _ ht8).mono ?_
  rintro e w9 ⟨r, rfl, hr9, hb9⟩
  obtain ⟨ya, yc, rfl⟩ := hr9.slice
  have hB9 := bcat hB8 hb9 hB8.size
  have hx9 := hx8.below hb9
  have hy9 := hr9.sl (HV.out.below hB9).pos
  have HN := hide (ints_any _ _ _ _ _ hx9 hy9)
  rw [show decide (P = P) = true by simp] at HN
  clear HF2 hB8 hb9 hr9 ht8 hx8
  go_wp2_with fail
  refine HN.out.mono ?_
  rintro e wa ⟨rfl, hba⟩
  have hBa := bcat hB9 hba hB9.size
  have hxa := hx9.below hba
  have HFA := hide (factor_good _ P wa hxa HWP.out)
  have hone := one_iff HWP.out.pos
  have hfp := falls_pos HWP.out.pos
  have hfn := fls_len (X P) P.length
  generalize fls (X P) P.length P.length 0 = L at *
  have HONE := hide hone
  clear HN hB9 hba hx9 hy9 hone
  go_wp2_with fail
  refine HFA.out.mono ?_
  rintro e wb ⟨rv, rfl, hrb, hbb⟩
  obtain ⟨ga, gc, rfl⟩ := hrb.slice
  have hBb := bcat hBa hbb hBa.size
  have hxb := hxa.below hbb
  have hFc : Blk (wb.alloc (.cells #[.int .i64 0, .int .i64 0] 25)) wb.heap.size 25 [.int .i64 0, .int .i64 0] := World.alloc_heap_new wb _
  have hBc := hBb.alloc hBb.size (.cells #[.int .i64 0, .int .i64 0] 25)
  have hxc := hxb.below (balloc wb (.cells #[.int .i64 0, .int .i64 0] 25))
  obtain ⟨k0, _, _, _⟩ := hFc.two
  have hbl : (begins L).length = L.length := by simp [begins]
  rw [hbl]
  have hp2 := HWP.out.len
  by_cases h1 : L.length = 1
  · have HIS := hide (isLyndon_ok _ P _ hxc (by omega) true (by simpa using HONE.out.1 h1))
    have hq : ((L.length : Int) == 1) = true := by simp; omega
    clear hrb hBa hbb hxa hxb hFc HFA hBb
    rw [h1] at *
    go_wp2_with fail
    refine HIS.out.mono ?_
    rintro e wd ⟨rfl, hbd⟩
    have hBd := bcat hBc hbd hBc.size
    go_wp2
    go_ret
    exact ⟨rfl, hBd⟩
  · have HIS := hide (isLyndon_ok _ P _ hxc (by omega) false (by simpa using fun h => h1 (HONE.out.2 h)))
    have hq : ((L.length : Int) == 1) = false := by simp; omega
    clear hrb hBa hbb hxa hxb hFc HFA hBb
    go_wp2_with fail
    refine HIS.out.mono ?_
    rintro e wd ⟨rfl, hbd⟩
    have hBd := bcat hBc hbd hBc.size
    go_wp2
    go_ret
    exact ⟨rfl, hBd⟩

theorem turns_law (v : Value) (zs : List Int) (n : Int) (w : World) (hv : Sl w v zs) (_ : -9223372036854775808 ≤ n) (_ : n ≤ 9223372036854775807) (htab : Tab w.heap.size w) :
    Calls Tryd.prog 5 #[v, .int .i64 n] w fun e w' => e = .returned (.bool true) ∧ Below w.heap.size w w' := by
  rcases code_cases zs with h | h
  · by_cases h0 : n < 0
    · exact tu_low v zs n w hv htab h h0
    · by_cases h1 : (zs.length : Int) ≤ n
      · exact tu_high v zs n w hv htab h h0 h1
      · obtain ⟨m, rfl⟩ : ∃ m : Nat, n = m := ⟨n.toNat, by omega⟩
        exact tu_good v zs m w hv htab h (by omega)
  · exact tu_bad v zs n w hv htab h

end Go.Proofs.YtojnjfkonaeegaaDoor
