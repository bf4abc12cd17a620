/- The law BeadsFermat. -/
import Derived.Test.YtojnjfkonaeegaaDoorPrm
import Derived.Test.YtojnjfkonaeegaaDoorBgn
import Derived.Test.YtojnjfkonaeegaaDoorQBz
namespace Go.Proofs.YtojnjfkonaeegaaDoor
open Go Go.RowKit
open YtojnjfkonaeegaaDoorQ (dec_le Tab UN decimal_any BigZ Dig dv digits_ok big_ok zexp_ok zsub_ok zmul_ok zcmp_same BigZ.blk gb_after)

set_option maxRecDepth 100000 in
set_option maxHeartbeats 4000000 in
theorem lyndon_good (n k : Nat) (w : World) (h1 : 1 ≤ n) (h2 : n ≤ 1000) (h3 : 1 ≤ k) (h4 : k ≤ 1000) (htab : Tab w.heap.size w) :
    Calls Tryd.prog 20 #[.int .i64 n, .int .i64 k] w fun e w' => e = .returned (.tuple #[.string ⟨(Lib.decDigits ((lyw k (dvs n)).getLast?.getD 0)).toArray⟩, .agg #[.int .i64 0, .int .i64 0]]) ∧ Below w.heap.size w w' := by
  have hB0 : Below w.heap.size w (w.alloc (.cells #[.int .i64 0, .int .i64 0] 25)) := balloc w _
  have HC := hide (check_good n k (w.alloc (.cells #[.int .i64 0, .int .i64 0] 25)) h1 h2 h3 h4)
  have HB := hide (fun W => lyndon_ok n k W h2 (by omega) h4)
  have hR := new26 w
  generalize (lyw k (dvs n)).getLast?.getD 0 = N at *
  go_enter Tryd.func20, Tryd.ntmps20
  go_wp2_with fail
  refine HC.out.mono ?_
  rintro e w1 ⟨rfl, hb1⟩
  have hB1 := bcat hB0 hb1 (by simp)
  have hR2 := (hR.of_eq (hb1.block _ hR.lt)).alloc (.cells #[.int .i64 0, .int .i64 0] 25)
  have hB2 := hB1.alloc hB1.size (.cells #[.int .i64 0, .int .i64 0] 25)
  have hs1 : w.heap.size < w1.heap.size := (hR.of_eq (hb1.block _ hR.lt)).lt
  clear HC hB1 hb1 hB0 hR
  go_wp2_with fail
  generalize w1.alloc (.cells #[.int .i64 0, .int .i64 0] 25) = w2 at *
  refine (HB.out _).mono ?_
  rintro e w3 ⟨v, rfl, hU3, hb3⟩
  obtain ⟨a, m, c, rfl⟩ := UN.blk hU3
  have hB3 := bcat hB2 hb3 hB2.size
  have hR3 := hR2.of_eq (hb3.block _ hR2.lt)
  have hT3 := Tab.up htab hB3
  obtain ⟨qs, q1, q2, q3, q4, q5⟩ := hU3
  have HD := hide (decimal_any _ _ qs w3 q1 q2 q3 (by omega) hT3)
  rw [q4] at HD
  clear HB hB2 hR2 hb3 hT3 q1 q2 q3 q4 q5
  go_wp2_with fail
  refine HD.out.mono ?_
  rintro e w4 ⟨rfl, hb4⟩
  have hB4 := bcat hB3 hb4 hB3.size
  have hR4 := hR3.of_eq (hb4.block _ hR3.lt)
  obtain ⟨_, c0, c1, f0, f1, s0, s1⟩ := Two.mk' hR4
  clear HD hB3 hR3 hb4
  obtain ⟨T, hT⟩ : ∃ T, (⟨(Lib.decDigits N).toArray⟩ : ByteArray) = T := ⟨_, rfl⟩
  rw [hT]
  have HT := hide hT
  clear hT
  go_wp2
  exact bodyPost_ret (v := .tuple #[.string T, .agg #[.int .i64 0, .int .i64 0]]) (by simp [results, Tryd.results20, go_sem, c0, c1]) rfl ⟨by rw [HT.out], hB4⟩

set_option maxRecDepth 100000 in
set_option maxHeartbeats 4000000 in
theorem exp_ok (k n : Nat) (w : World) (hk : k ≤ 1000) (hn0 : 0 < n) (hn : n ≤ 1000) :
    Calls Tryd.prog 23 #[.int .i64 k, .int .i64 n] w fun e w' => (∃ b, e = .returned (.pointer (some ⟨b, 0, none⟩)) ∧ w.heap.size ≤ b ∧ BigZ w' b ((k ^ n : Nat) : Int) 200000) ∧ Below w.heap.size w w' := by
  have hB0 : Below w.heap.size w (w.alloc (.cells #[.bool false, .slice none 0 0] 46)) := balloc w _
  have hN0 : Blk (w.alloc (.cells #[.bool false, .slice none 0 0] 46)) w.heap.size 46 [.bool false, .slice none 0 0] := World.alloc_heap_new w _
  have H1 := hide (big_ok (k : Int) (w.alloc (.cells #[.bool false, .slice none 0 0] 46)) (by omega) (by omega))
  go_enter Tryd.func23, Tryd.ntmps23
  go_wp2_with fail
  refine H1.out.mono ?_
  rintro e w1 ⟨⟨bk, rfl, hbk, hk1⟩, hb1⟩
  have hB1 := bcat hB0 hb1 hB0.size
  have hN1 := hN0.of_eq (hb1.block _ hN0.lt)
  have H2 := hide (big_ok (n : Int) w1 (by omega) (by omega))
  clear H1 hB0 hN0 hb1
  go_wp2_with fail
  refine H2.out.mono ?_
  rintro e w2 ⟨⟨bn, rfl, hbn, hn2⟩, hb2⟩
  have hB2 := bcat hB1 hb2 hB1.size
  have hN2 := hN1.of_eq (hb2.block _ hN1.lt)
  have H3 := hide (zexp_ok w.heap.size bk bn 2 2 k n _ _ w2 hN2 (hk1.below hb2) hn2 hn0 hn (by omega))
  clear H2 hB1 hN1 hb2 hk1 hn2 hN2
  go_wp2_with fail
  refine H3.out.mono ?_
  rintro e w3 ⟨rfl, ⟨M, hM, hz⟩, hg3⟩
  have hB3 := hB2.grown hg3 hB2.size (fun q hq => by have := Option.some.inj hq; omega)
  have hz2 := hz.mono hM
  clear H3 hB2 hz hg3
  go_wp2
  go_ret
  exact ⟨⟨_, rfl, Nat.le_refl _, hz2⟩, hB3⟩

set_option maxRecDepth 100000 in
set_option maxHeartbeats 4000000 in
theorem lp_not (p k : Int) (w : World) (htab : Tab w.heap.size w) (h : decide (0 ≤ p ∧ Prm p.toNat) = false) :
    Calls Tryd.prog 6 #[.int .i64 p, .int .i64 k] w fun e w' => e = .returned (.bool true) ∧ Below w.heap.size w w' := by
  have HBG := hide (begun_any _ htab)
  go_enter Tryd.func6, Tryd.ntmps6
  go_wp2_with fail
  refine HBG.out.mono ?_
  rintro e w1 ⟨rfl, hB1, hp1⟩
  clear HBG
  have HP := hide (isPrime_any p w1)
  rw [h] at HP
  clear h
  go_wp2_with fail
  refine HP.out.mono ?_
  rintro e _ ⟨rfl, rfl⟩
  go_wp2
  go_ret
  exact ⟨rfl, hB1⟩

set_option maxRecDepth 100000 in
set_option maxHeartbeats 4000000 in
theorem lp_low (p k : Int) (w : World) (htab : Tab w.heap.size w) (h : decide (0 ≤ p ∧ Prm p.toNat) = true) (hk : k < 1) :
    Calls Tryd.prog 6 #[.int .i64 p, .int .i64 k] w fun e w' => e = .returned (.bool true) ∧ Below w.heap.size w w' := by
  have HBG := hide (begun_any _ htab)
  go_enter Tryd.func6, Tryd.ntmps6
  go_wp2_with fail
  refine HBG.out.mono ?_
  rintro e w1 ⟨rfl, hB1, hp1⟩
  clear HBG
  have HP := hide (isPrime_any p w1)
  rw [h] at HP
  clear h
  go_wp2_with fail
  refine HP.out.mono ?_
  rintro e _ ⟨rfl, rfl⟩
  go_wp2
  go_ret
  exact ⟨rfl, hB1⟩

set_option maxRecDepth 100000 in
set_option maxHeartbeats 4000000 in
theorem lp_high (p k : Int) (w : World) (htab : Tab w.heap.size w) (h : decide (0 ≤ p ∧ Prm p.toNat) = true) (hk : ¬ k < 1) (hk2 : 1000 < k) :
    Calls Tryd.prog 6 #[.int .i64 p, .int .i64 k] w fun e w' => e = .returned (.bool true) ∧ Below w.heap.size w w' := by
  have HBG := hide (begun_any _ htab)
  go_enter Tryd.func6, Tryd.ntmps6
  go_wp2_with fail
  refine HBG.out.mono ?_
  rintro e w1 ⟨rfl, hB1, hp1⟩
  clear HBG
  have HP := hide (isPrime_any p w1)
  rw [h] at HP
  clear h
  go_wp2_with fail
  refine HP.out.mono ?_
  rintro e _ ⟨rfl, rfl⟩
  go_wp2
  go_ret
  exact ⟨rfl, hB1⟩

set_option maxRecDepth 100000 in
set_option maxHeartbeats 4000000 in
theorem lp_good (p k : Nat) (w : World) (htab : Tab w.heap.size w) (h : Prm p) (hk1 : 1 ≤ k) (hk2 : k ≤ 1000) :
    Calls Tryd.prog 6 #[.int .i64 p, .int .i64 k] w fun e w' => e = .returned (.bool true) ∧ Below w.heap.size w w' := by
  have HBG := hide (begun_any _ htab)
  go_enter Tryd.func6, Tryd.ntmps6
  go_wp2_with fail
  refine HBG.out.mono ?_
  rintro e w1 ⟨rfl, hB1, hp1⟩
  clear HBG
  have HP := hide (isPrime_any (p : Int) w1)
  rw [show decide (0 ≤ (p : Int) ∧ Prm (p : Int).toNat) = true by simp only [decide_eq_true_eq, Int.toNat_natCast]; exact ⟨by omega, h⟩] at HP
  have hp2 := h.1
  have hp100 := h.2.1
  have hL := lyw_prime h (k := k)
  have hdiv := fermat_div h hk1
  have hle : k ≤ k ^ p := by
    have := Nat.pow_le_pow_right hk1 (show 1 ≤ p by omega)
    rwa [Nat.pow_one] at this
  have hG := hide (lyndon_good p k w1 (by omega) (by omega) hk1 hk2 (Tab.up htab hB1))
  rw [hL] at hG
  have hEX := hide (fun W => exp_ok k p W hk2 (by omega) (by omega))
  obtain ⟨K, hK⟩ : ∃ K, k ^ p = K := ⟨_, rfl⟩
  rw [hK] at hdiv hle hG hEX
  obtain ⟨N, hN⟩ : ∃ N, (K - k) / p = N := ⟨_, rfl⟩
  rw [hN] at hdiv hG
  have hki : ¬ (k : Int) < 1 := by omega
  have hki1 : ¬ k < 1 := by omega
  have hki2 : ¬ (1000 : Int) < (k : Int) := by omega
  have hki3 : ¬ 1000 < k := by omega
  have hdn : Dig ⟨(Lib.decDigits N).toArray⟩ ∧ dv ⟨(Lib.decDigits N).toArray⟩ (⟨(Lib.decDigits N).toArray⟩ : ByteArray).size = N := by
    refine Dig.of_dec (Nat.le_trans (dec_le 300 N ?_) (by omega))
    have e1 : K ≤ 1000 ^ 100 := by
      rw [← hK]
      exact Nat.le_trans (Nat.pow_le_pow_left hk2 _) (Nat.pow_le_pow_right (by omega) hp100)
    have e2 : N ≤ K := by rw [← hN]; exact Nat.le_trans (Nat.div_le_self _ _) (Nat.sub_le _ _)
    exact Nat.lt_of_le_of_lt (Nat.le_trans e2 e1) (by decide +kernel)
  obtain ⟨S, hS⟩ : ∃ S, (⟨(Lib.decDigits N).toArray⟩ : ByteArray) = S := ⟨_, rfl⟩
  rw [hS] at hG hdn
  obtain ⟨hdig, hdv⟩ := hdn
  have HDG := hide (fun W => digits_ok S W hdig)
  rw [hdv] at HDG
  have HDIV := hide hdiv
  clear h hL hdiv hN hK hS hdig hdv
  go_wp2_with fail
  refine HP.out.mono ?_
  rintro e _ ⟨rfl, rfl⟩
  clear HP
  go_wp2_with fail
  refine hG.out.mono ?_
  rintro e w2 ⟨rfl, hb2⟩
  have hB2 := bcat hB1 hb2 hB1.size
  have hF3 : Blk (w2.alloc (.cells #[.int .i64 0, .int .i64 0] 25)) w2.heap.size 25 [.int .i64 0, .int .i64 0] := World.alloc_heap_new w2 _
  have hB3 := hB2.alloc hB2.size (.cells #[.int .i64 0, .int .i64 0] 25)
  clear hG hB1 hb2 hB2
  go_wp2_with fail
  refine (HDG.out _).mono ?_
  rintro e w4 ⟨⟨bn, rfl, hzn⟩, hb4⟩
  have hB4 := bcat hB3 hb4 hB3.size
  have hF4 := hF3.of_eq (hb4.block _ hF3.lt)
  obtain ⟨f0, _, _, _⟩ := hF4.two
  have hB5 := hB4.alloc hB4.size (.cells #[.bool false, .slice none 0 0] 46)
  have hz5 : BigZ (w4.alloc (.cells #[.bool false, .slice none 0 0] 46)) bn (N : Int) 80000 := hzn.below (balloc w4 _)
  have hC5 : Blk (w4.alloc (.cells #[.bool false, .slice none 0 0] 46)) w4.heap.size 46 [.bool false, .slice none 0 0] := World.alloc_heap_new w4 _
  have hzl := hzn.lt
  have hB4s := hB4.size
  clear HDG hB3 hF3 hb4 hF4 hB4 hzn
  go_wp2_with fail
  clear f0
  refine (hEX.out _).mono ?_
  rintro e w6 ⟨⟨bK, rfl, hbK, hzK⟩, hb6⟩
  have hB6 := bcat hB5 hb6 hB5.size
  have hz6 := hz5.below hb6
  have hC6 := hC5.of_eq (hb6.block _ hC5.lt)
  have HBk := hide (big_ok (k : Int) w6 (by omega) (by omega))
  have hl6 := hC6.lt
  clear hEX hB5 hb6 hz5 hC5
  go_wp2_with fail
  refine HBk.out.mono ?_
  rintro e w7 ⟨⟨bk, rfl, hbk, hzk⟩, hb7⟩
  have hB7 := bcat hB6 hb7 hB6.size
  have hz7 := hz6.below hb7
  have hC7 := hC6.of_eq (hb7.block _ hC6.lt)
  have HSB := hide (zsub_ok w4.heap.size bK bk 200000 2 _ _ _ _ w7 hC7 (hzK.below hb7) hzk (by omega) (by omega))
  clear HBk hB6 hb7 hz6 hC6 hzK hzk
  go_wp2_with fail
  refine HSB.out.mono ?_
  rintro e w8 ⟨rfl, hz8, hg8⟩
  have hB8 : Below w.heap.size w w8 := hB7.grown hg8 hB7.size (fun q hq => by have := Option.some.inj hq; omega)
  have hn8 : BigZ w8 bn (N : Int) 80000 := hz7.other hC7 hg8 (by omega)
  have hl8 := hz8.lt
  have hB9 := hB8.alloc hB8.size (.cells #[.bool false, .slice none 0 0] 46)
  have hn9 := hn8.below (balloc w8 (.cells #[.bool false, .slice none 0 0] 46))
  have hs9 := hz8.below (balloc w8 (.cells #[.bool false, .slice none 0 0] 46))
  have hC9 : Blk (w8.alloc (.cells #[.bool false, .slice none 0 0] 46)) w8.heap.size 46 [.bool false, .slice none 0 0] := World.alloc_heap_new w8 _
  have HBp := hide (big_ok (p : Int) (w8.alloc (.cells #[.bool false, .slice none 0 0] 46)) (by omega) (by omega))
  clear HSB hB7 hz7 hC7 hg8 hz8 hn8
  go_wp2_with fail
  refine HBp.out.mono ?_
  rintro e wa ⟨⟨bp, rfl, hbp, hzp⟩, hba⟩
  have hBa := bcat hB9 hba hB9.size
  have hna := hn9.below hba
  have hsa := hs9.below hba
  have hCa := hC9.of_eq (hba.block _ hC9.lt)
  simp only [World.size_alloc] at hbp
  have HMU := hide (zmul_ok w8.heap.size bn bp 80000 2 _ _ _ _ wa hCa hna hzp (by omega) (by omega))
  clear HBp hB9 hba hn9 hs9 hC9 hna hzp
  go_wp2_with fail
  refine HMU.out.mono ?_
  rintro e wb ⟨rfl, hzb, hgb⟩
  have hBb : Below w.heap.size w wb := hBa.grown hgb hBa.size (fun q hq => by have := Option.some.inj hq; have := hB8.size; omega)
  have hsb := hsa.other hCa hgb (by omega)
  have hval : (N : Int) * (p : Int) = (K : Int) - (k : Int) := by
    have := HDIV.out
    rw [← Int.natCast_mul, this]; omega
  rw [hval] at hzb
  have HCM := hide (zcmp_same w8.heap.size w4.heap.size _ _ _ wb hzb hsb (by omega) (by omega))
  clear HMU hBa hsa hCa hgb hval hzb hsb
  go_wp2_with fail
  refine HCM.out.mono ?_
  rintro e wc ⟨rfl, hbc⟩
  have hBc := bcat hBb hbc hBb.size
  go_wp2
  go_ret
  exact ⟨rfl, hBc⟩

theorem fermat_law (p k : Int) (w : World) (_ : -9223372036854775808 ≤ p) (_ : p ≤ 9223372036854775807) (_ : -9223372036854775808 ≤ k) (_ : k ≤ 9223372036854775807) (htab : Tab w.heap.size w) :
    Calls Tryd.prog 6 #[.int .i64 p, .int .i64 k] w fun e w' => e = .returned (.bool true) ∧ Below w.heap.size w w' := by
  cases h : decide (0 ≤ p ∧ Prm p.toNat) with
  | false => exact lp_not p k w htab h
  | true =>
    by_cases h1 : k < 1
    · exact lp_low p k w htab h h1
    · by_cases h2 : 1000 < k
      · exact lp_high p k w htab h h1 h2
      · have hp := of_decide_eq_true h
        obtain ⟨q, rfl⟩ : ∃ q : Nat, p = q := ⟨p.toNat, by omega⟩
        obtain ⟨m, rfl⟩ : ∃ m : Nat, k = m := ⟨k.toNat, by omega⟩
        exact lp_good q m w htab (by simpa using hp.2) (by omega) (by omega)

end Go.Proofs.YtojnjfkonaeegaaDoor
